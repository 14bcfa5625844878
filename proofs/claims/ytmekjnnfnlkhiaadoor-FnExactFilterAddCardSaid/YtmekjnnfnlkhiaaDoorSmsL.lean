/- Lists of samples in memory: what the exact laws do to them: copied, held against each other. -/
import Derived.Test.YtmekjnnfnlkhiaaDoorSmRow
import Derived.Test.YtmekjnnfnlkhiaaDoorFilS
import Derived.Deep.RegionHeld3
namespace Go.Proofs.YtmekjnnfnlkhiaaDoor
open Go.ChangeShapes Go.WideShapes Go.ChangeAt Go.RowKit Go.Sort
set_option linter.unusedVariables false
set_option linter.unusedSimpArgs false

def Sm.ofRow : List Int → Sm
  | [a, b, c, d] => ⟨a, b, c, d⟩
  | _ => ⟨0, 0, 0, 0⟩
set_option maxRecDepth 100000 in
theorem open_sms {H : Type} {enc : TypeId × Value → H} {w : World} {held : Bool} {r : Reach} {b0 : Nat} {v : Value} {d : DataW H} {q : List MemPlace}
    (hv : Value.okWide Tryd.prog w r b0 39 v) (h : DataW.Trod enc Tryd.prog w 0 (fun _ => true) held 39 v d q) :
    ∃ (x : Option Addr) (len cap : Nat) (l : List Sm), v = .slice x len cap ∧ (Hid (len = l.length) ∧ len ≤ cap ∧ cap ≤ maxLen ∧ Sms w.heap.size w x l) := by
  obtain ⟨x, len, cap, l, rfl, hl, hr, hc, hm, _⟩ := open_rows (enc := enc) Sm.row Sm.ofRow (fun l hl => by obtain ⟨a, b, c, d, rfl⟩ := list4 l hl; rfl) Tryd.underlying39 Tryd.underlying43 (by kernel_rfl) (by kernel_rfl) (by decide) hv h
  exact ⟨x, len, cap, l, rfl, Lib.hid hl, hc, hm, hr⟩

def SmTab (m : Nat) (w : World) (g : Nat) (l : List Sm) : Prop := TabAt Sm.row 4 m 26 w g l
theorem SmTab.sms {m g : Nat} {w : World} {l : List Sm} (h : SmTab m w g l) : Sms w.heap.size w (some ⟨g, 0, none⟩) l := TabAt.rows h
theorem SmTab.next {m g : Nat} {w w' : World} {l : List Sm} (h : SmTab m w g l) (hb : Below w.heap.size w w') : SmTab m w' g l := TabAt.next h hb
theorem SmTab.room {m g : Nat} {w : World} {l : List Sm} (h : SmTab m w g l) {k : Nat} (hk : k < m) : ((∃ u, w.cell? ⟨g, k * 4, none⟩ = some u) ∧ (∃ u, w.cell? ⟨g, k * 4 + 1, none⟩ = some u) ∧ (∃ u, w.cell? ⟨g, k * 4 + 2, none⟩ = some u) ∧ (∃ u, w.cell? ⟨g, k * 4 + 3, none⟩ = some u)) ∧ w.frozen? ⟨g, k * 4, none⟩ = false ∧ w.frozen? ⟨g, k * 4 + 1, none⟩ = false ∧ w.frozen? ⟨g, k * 4 + 2, none⟩ = false ∧ w.frozen? ⟨g, k * 4 + 3, none⟩ = false :=
  ⟨⟨(TabAt.room h (by omega)).1, (TabAt.room h (by omega)).1, (TabAt.room h (by omega)).1, (TabAt.room h (by omega)).1⟩, (TabAt.room h (by omega)).2, (TabAt.room h (by omega)).2, (TabAt.room h (by omega)).2, (TabAt.room h (by omega)).2⟩
theorem SmTab.put {m g : Nat} {w : World} {l : List Sm} (h : SmTab m w g l) (hk : l.length < m) (v : Sm) :
    SmTab m ((((w.setCell ⟨g, l.length * 4, none⟩ (.int .i64 v.off)).setCell ⟨g, l.length * 4 + 1, none⟩ (.int .i64 v.delay)).setCell ⟨g, l.length * 4 + 2, none⟩ (.int .i64 v.disp)).setCell ⟨g, l.length * 4 + 3, none⟩ (.int .i64 v.at_)) g (l ++ [v]) := by
  obtain ⟨cur, h1, h2, h3, h4⟩ := h
  refine ⟨_, heap_set (heap_set (heap_set (heap_set h1 _ _) _ _) _ _) _ _, by simp [h2], by simp; omega, fun i u j z hi hj => ?_⟩
  simp only [Array.getElem?_setIfInBounds, Array.size_setIfInBounds]
  rcases Nat.lt_or_ge i l.length with hl | hl
  · rw [List.getElem?_append_left hl] at hi
    have hj2 : j < 4 := (List.getElem?_eq_some_iff.1 hj).1
    rw [if_neg (by omega), if_neg (by omega), if_neg (by omega), if_neg (by omega)]
    exact h4 i u j z hi hj
  · have e : i = l.length := by
      have := (List.getElem?_eq_some_iff.1 hi).1
      simp at this
      omega
    subst e
    simp at hi
    subst hi
    match j, hj with
    | 0, hj =>
      simp [Sm.row] at hj
      subst hj
      rw [if_neg (by omega), if_neg (by omega), if_neg (by omega), if_pos (by omega), if_pos (by omega)]
    | 1, hj =>
      simp [Sm.row] at hj
      subst hj
      rw [if_neg (by omega), if_neg (by omega), if_pos (by omega), if_pos (by omega)]
    | 2, hj =>
      simp [Sm.row] at hj
      subst hj
      rw [if_neg (by omega), if_pos (by omega), if_pos (by omega)]
    | 3, hj =>
      simp [Sm.row] at hj
      subst hj
      rw [if_pos (by omega), if_pos (by omega)]
    | j + 4, hj => simp [Sm.row] at hj

theorem szSampleS_c (n : Nat) (left : Int) (h0 : 0 ≤ left) (h1 : left ≤ 1048576) (hm : n ≤ maxLen) (x : Option Addr) (cap : Nat) (w : World) :
    Calls Tryd.prog 31 #[.slice x n cap, .int .i64 left] w fun e w' => e = .returned (.int .i64 (if (n : Int) ≤ left then left - n else -1)) ∧ w = w' := by
  unfold maxLen at hm
  by_cases hlt : (n : Int) ≤ left
  · rw [if_pos hlt]
    go_enter Tryd.func31, Tryd.ntmps31
    go_wp2
    go_returns
    exact ⟨rfl, rfl⟩
  · rw [if_neg hlt]
    go_enter Tryd.func31, Tryd.ntmps31
    go_wp2
    go_returns
    exact ⟨rfl, rfl⟩

/-- A copy of these: a slice of the call's own. -/
def FreshSms (n : Nat) (W : World) (l : List Sm) : Ending → World → Prop := fun e w' => ∃ g, e = .returned (.slice (some ⟨g, 0, none⟩) n n) ∧ SmTab n w' g l ∧ W.heap.size ≤ g ∧ Below W.heap.size W w'

set_option maxHeartbeats 1000000 in
theorem toSampleS_c (l : List Sm) (n : Nat) (hn : Hid (n = l.length)) (hm : n ≤ 1048576) (x : Option Addr) (cap : Nat) (w : World) (h : Sms w.heap.size w x l) :
    Calls Tryd.prog 32 #[.slice x n cap] w (FreshSms n w l) := by
  have hmk := run_make_tab (P := Tryd.prog) Tryd.underlying24 infoSm' n (by omega) hm
  have hT : SmTab n (w.alloc (.cells (madeCells (Value.agg #[.int .i64 0, .int .i64 0, .int .i64 0, .int .i64 0]).cells (n * 4)) 26)) w.heap.size [] := TabAt.made _ rfl w (Nat.zero_le _)
  go_enter Tryd.func32, Tryd.ntmps32
  go_wp2
  go_loopw [4] (fun i wr => ∃ k : Nat, k ≤ n ∧ i = .int .i64 k ∧ SmTab n wr w.heap.size (l.take k) ∧ Below w.heap.size w wr) (fun i _ => n - (intOf i).toNat)
  case atStart => exact ⟨0, Nat.zero_le _, rfl, hT, by go_grown⟩
  case round =>
    obtain ⟨k, hk, rfl, ht, hb⟩ := hrel
    clear hmk
    by_cases hlt : k < n
    · obtain ⟨v, hv⟩ := getS (l := l) (k := k) (by rw [← hn.out]; exact hlt)
      obtain ⟨b, off, rfl, hbB, c0, c1, c2, c3⟩ := (h.next hb).at_ hv
      have HV := Lib.hid (take_nextS hv)
      have HK := Lib.hid (show (l.take k).length = k by have := hn.out; simp; omega)
      clear hv
      go_wp2_with fail
      refine (toSample_c v _).mono ?_
      rintro e w1 ⟨rfl, hb1⟩
      have ht1 := ht.next hb1
      have g1 := grow_next hb hb1
      obtain ⟨⟨⟨u0, r0⟩, ⟨u1, r1⟩, ⟨u2, r2⟩, ⟨u3, r3⟩⟩, f0, f1, f2, f3⟩ := ht1.room hlt
      have hp := ht1.put (by rw [HK.out]; exact hlt) v
      rw [HK.out, ← HV.out] at hp
      have G := below_put (below_put (below_put (below_put g1 (b := w.heap.size) (Nat.le_refl _) (k * 4) (.int .i64 v.off)) (b := w.heap.size) (Nat.le_refl _) (k * 4 + 1) (.int .i64 v.delay)) (b := w.heap.size) (Nat.le_refl _) (k * 4 + 2) (.int .i64 v.disp)) (b := w.heap.size) (Nat.le_refl _) (k * 4 + 3) (.int .i64 v.at_)
      go_wp2_with fail
      go_roundw
      case rel => exact ⟨k + 1, by omega, by go_num, hp, G⟩
      case measure => simp [intOf]; omega
    · have e : k = n := by omega
      have hT' : SmTab n wr w.heap.size l := by
        rw [e, hn.out, List.take_length] at ht
        rw [hn.out]
        exact ht
      clear e
      go_wp2_with fail
      go_returns
      exact ⟨_, rfl, hT', Nat.le_refl _, hb⟩

set_option maxHeartbeats 1000000 in
theorem eqSampleS_c (l : List Sm) (n : Nat) (hn : Hid (n = l.length)) (hm : n ≤ maxLen) (x y : Option Addr) (cap cap' : Nat) (w : World) (h : Sms w.heap.size w x l) (h' : Sms w.heap.size w y l) :
    Calls Tryd.prog 33 #[.slice x n cap, .slice y n cap'] w fun e w' => e = .returned (.bool true) ∧ Below w.heap.size w w' := by
  unfold maxLen at hm
  go_enter Tryd.func33, Tryd.ntmps33
  go_wp2
  go_loopw [5] (fun i wr => ∃ k : Nat, k ≤ n ∧ i = .int .i64 k ∧ Below w.heap.size w wr) (fun i _ => n - (intOf i).toNat)
  case atStart => exact ⟨0, Nat.zero_le _, rfl, Below.refl _ _⟩
  case round =>
    obtain ⟨k, hk, rfl, hb⟩ := hrel
    by_cases hlt : k < n
    · obtain ⟨v, hv⟩ := getS (l := l) (k := k) (by rw [← hn.out]; exact hlt)
      obtain ⟨b, off, rfl, hbB, c0, c1, c2, c3⟩ := (h.next hb).at_ hv
      obtain ⟨b', off', rfl, hbB', d0, d1, d2, d3⟩ := (h'.next hb).at_ hv
      have k0 := cell_regrown c0
      have k1 := cell_regrown c1
      have k2 := cell_regrown c2
      have k3 := cell_regrown c3
      have j0 := cell_regrown d0
      have j1 := cell_regrown d1
      have j2 := cell_regrown d2
      have j3 := cell_regrown d3
      have KE := Lib.hid (fun d os => Calls.regrown_of (eqSample_same v (grow (redrawn wr d) os)))
      clear hv c0 c1 c2 c3 d0 d1 d2 d3
      go_wp2_with fail
      refine wp_region_quiet_below (by kernel_rfl) (by kernel_rfl) ?_
      repeat ((with_reducible refine wpQuiet_step (fun K hK => ?_)); go_simp; first | ((with_reducible refine hK _ ?_); clear hK K) | (rw [if_neg (by intro h; exact nomatch h)]; (with_reducible refine hK _ ?_); clear hK K) | (apply Exists.intro; (with_reducible refine ⟨fun _ => ?_, hK _ ?_⟩); (first | with_reducible exact KE.out _ _); clear hK K))
      with_reducible refine wpQuiet_nil ?_
      intro _ hw'
      obtain ⟨⟨dq, osq⟩, hw''⟩ := hw'
      subst hw''
      have g1 := grow_next hb (below_regrown wr dq osq)
      generalize hW1 : grow (redrawn wr dq) osq = W1 at *
      clear hW1 k0 k1 k2 k3 j0 j1 j2 j3 KE
      go_wp2_with fail
      go_roundw
      case rel => exact ⟨k + 1, by omega, by go_num, g1⟩
      case measure => simp [intOf]; omega
    · go_wp2_with fail
      go_returns
      exact ⟨rfl, hb⟩
end Go.Proofs.YtmekjnnfnlkhiaaDoor
