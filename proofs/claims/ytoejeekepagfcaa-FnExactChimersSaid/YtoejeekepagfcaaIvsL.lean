/- Lists of intervals in memory: what the exact laws do to them: copied, held against each other. -/
import Derived.Test.YtoejeekepagfcaaIvs
import Derived.Deep.RegionHeld3
namespace Go.Proofs.Ytoejeekepagfcaa
open Go.ChangeShapes Go.WideShapes Go.ChangeAt Go.RowKit
set_option linter.unusedVariables false
set_option linter.unusedSimpArgs false

theorem open_ivs {H : Type} {enc : TypeId × Value → H} {w : World} {held : Bool} {r : Reach} {b0 : Nat} {v : Value} {d : DataW H} {q : List MemPlace}
    (hv : Value.okWide Try.prog w r b0 22 v) (h : DataW.Trod enc Try.prog w 0 (fun _ => true) held 22 v d q) :
    ∃ (x : Option Addr) (len cap : Nat) (l : List Iv), v = .slice x len cap ∧ (Hid (len = l.length) ∧ len ≤ cap ∧ cap ≤ maxLen ∧ Ivs w.heap.size w x l) := by
  obtain ⟨x, len, cap, l, rfl, hl, hr, hc, hm, _⟩ := open_rows (enc := enc) Iv.row Iv.ofRow (fun l hl => by obtain ⟨a, b, rfl⟩ := list2 l hl; rfl) Try.underlying22 Try.underlying49 (by kernel_rfl) (by kernel_rfl) (by decide) hv h
  exact ⟨x, len, cap, l, rfl, Lib.hid hl, hc, hm, hr⟩

def IvTab (m : Nat) (w : World) (g : Nat) (l : List Iv) : Prop := TabAt Iv.row 2 m 25 w g l
theorem IvTab.ivs {m g : Nat} {w : World} {l : List Iv} (h : IvTab m w g l) : Ivs w.heap.size w (some ⟨g, 0, none⟩) l := TabAt.rows h
theorem IvTab.next {m g : Nat} {w w' : World} {l : List Iv} (h : IvTab m w g l) (hb : Below w.heap.size w w') : IvTab m w' g l := TabAt.next h hb
theorem IvTab.room {m g : Nat} {w : World} {l : List Iv} (h : IvTab m w g l) {k : Nat} (hk : k < m) : (∃ u, w.cell? ⟨g, k * 2, none⟩ = some u) ∧ (∃ u, w.cell? ⟨g, k * 2 + 1, none⟩ = some u) ∧ w.frozen? ⟨g, k * 2, none⟩ = false ∧ w.frozen? ⟨g, k * 2 + 1, none⟩ = false :=
  ⟨(TabAt.room h (by omega)).1, (TabAt.room h (by omega)).1, (TabAt.room h (by omega)).2, (TabAt.room h (by omega)).2⟩
theorem IvTab.put {m g : Nat} {w : World} {l : List Iv} (h : IvTab m w g l) (hk : l.length < m) (v : Iv) :
    IvTab m ((w.setCell ⟨g, l.length * 2, none⟩ (.int .i64 v.lo)).setCell ⟨g, l.length * 2 + 1, none⟩ (.int .i64 v.hi)) g (l ++ [v]) := by
  obtain ⟨cur, h1, h2, h3, h4⟩ := h
  refine ⟨_, heap_set (heap_set h1 _ _) _ _, by simp [h2], by simp; omega, fun i u j z hi hj => ?_⟩
  simp only [Array.getElem?_setIfInBounds, Array.size_setIfInBounds]
  rcases Nat.lt_or_ge i l.length with hl | hl
  · rw [List.getElem?_append_left hl] at hi
    have hj2 : j < 2 := (List.getElem?_eq_some_iff.1 hj).1
    rw [if_neg (by omega), if_neg (by omega)]
    exact h4 i u j z hi hj
  · have e : i = l.length := by
      have := (List.getElem?_eq_some_iff.1 hi).1
      simp at this
      omega
    subst e
    simp at hi
    subst hi
    match j, hj with
    | 0, hj =>
      simp [Iv.row] at hj
      subst hj
      rw [if_neg (by omega), if_pos (by omega), if_pos (by omega)]
    | 1, hj =>
      simp [Iv.row] at hj
      subst hj
      rw [if_pos (by omega), if_pos (by omega)]
    | j + 2, hj => simp [Iv.row] at hj

theorem szIntervalS_c (n : Nat) (left : Int) (h0 : 0 ≤ left) (h1 : left ≤ 1048576) (hm : n ≤ maxLen) (x : Option Addr) (cap : Nat) (w : World) :
    Calls Try.prog 13 #[.slice x n cap, .int .i64 left] w fun e w' => e = .returned (.int .i64 (if (n : Int) ≤ left then left - n else -1)) ∧ w = w' := by
  unfold maxLen at hm
  by_cases hlt : (n : Int) ≤ left
  · rw [if_pos hlt]
    go_enter Try.func13, Try.ntmps13
    go_wp2
    go_returns
    exact ⟨rfl, rfl⟩
  · rw [if_neg hlt]
    go_enter Try.func13, Try.ntmps13
    go_wp2
    go_returns
    exact ⟨rfl, rfl⟩

theorem infoIv : (Try.prog.info? 25).map (fun i => (i.zero, i.size, i.bytes)) = some (some (.agg #[.int .i64 0, .int .i64 0]), 2, 16) := by kernel_rfl

/-- A copy of these: a slice of the call's own. -/
def FreshIvs (n : Nat) (W : World) (l : List Iv) : Ending → World → Prop := fun e w' => ∃ g, e = .returned (.slice (some ⟨g, 0, none⟩) n n) ∧ IvTab n w' g l ∧ W.heap.size ≤ g ∧ Below W.heap.size W w'

set_option maxHeartbeats 1000000 in
theorem toIntervalS_c (l : List Iv) (n : Nat) (hn : Hid (n = l.length)) (hm : n ≤ 1048576) (x : Option Addr) (cap : Nat) (w : World) (h : Ivs w.heap.size w x l) :
    Calls Try.prog 15 #[.slice x n cap] w (FreshIvs n w l) := by
  have hmk := run_make_tab (P := Try.prog) Try.underlying28 infoIv n (by omega) hm
  have hT : IvTab n (w.alloc (.cells (madeCells (Value.agg #[.int .i64 0, .int .i64 0]).cells (n * 2)) 25)) w.heap.size [] := TabAt.made _ rfl w (Nat.zero_le _)
  go_enter Try.func15, Try.ntmps15
  go_wp2
  go_loopw [4] (fun i wr => ∃ k : Nat, k ≤ n ∧ i = .int .i64 k ∧ IvTab n wr w.heap.size (l.take k) ∧ Below w.heap.size w wr) (fun i _ => n - (intOf i).toNat)
  case atStart => exact ⟨0, Nat.zero_le _, rfl, hT, by go_grown⟩
  case round =>
    obtain ⟨k, hk, rfl, ht, hb⟩ := hrel
    clear hmk
    by_cases hlt : k < n
    · obtain ⟨v, hv⟩ := get_at (l := l) (k := k) (by rw [← hn.out]; exact hlt)
      obtain ⟨b, off, rfl, hbB, c0, c1⟩ := (h.next hb).at_ hv
      have HV := Lib.hid (take_next hv)
      have HK := Lib.hid (show (l.take k).length = k by have := hn.out; simp; omega)
      clear hv
      go_wp2_with fail
      refine (toInterval_c v _).mono ?_
      rintro e w1 ⟨rfl, hb1⟩
      have ht1 := ht.next hb1
      have g1 := grow_next hb hb1
      obtain ⟨⟨u0, r0⟩, ⟨u1, r1⟩, f0, f1⟩ := ht1.room hlt
      have hp := ht1.put (by rw [HK.out]; exact hlt) v
      rw [HK.out, ← HV.out] at hp
      have G : Below w.heap.size w ((w1.setCell ⟨w.heap.size, k * 2, none⟩ (.int .i64 v.lo)).setCell ⟨w.heap.size, k * 2 + 1, none⟩ (.int .i64 v.hi)) := by
        repeat (refine below_setCell ?_ (by omega) _ _)
        exact g1
      go_wp2_with fail
      go_roundw
      case rel => exact ⟨k + 1, by omega, by go_num, hp, G⟩
      case measure => simp [intOf]; omega
    · have e : k = n := by omega
      have hT' : IvTab n wr w.heap.size l := by
        rw [e, hn.out, List.take_length] at ht
        rw [hn.out]
        exact ht
      clear e
      go_wp2_with fail
      go_returns
      exact ⟨_, rfl, hT', Nat.le_refl _, hb⟩

theorem ivs_two {W : World} {B : Nat} {b off b' off' k : Nat} {l l' : List Iv} {u v : Iv} (h : Ivs B W (some ⟨b, off, none⟩) l) (h' : Ivs B W (some ⟨b', off', none⟩) l') (hu : l[k]? = some u) (hv : l'[k]? = some v) :
    (W.cell? ⟨b, off + k * 2, none⟩ = some (.int .i64 u.lo) ∧ W.cell? ⟨b, off + k * 2 + 1, none⟩ = some (.int .i64 u.hi)) ∧ (W.cell? ⟨b', off' + k * 2, none⟩ = some (.int .i64 v.lo) ∧ W.cell? ⟨b', off' + k * 2 + 1, none⟩ = some (.int .i64 v.hi)) := by
  obtain ⟨c, o, e, _, c0, c1⟩ := h.at_ hu
  obtain ⟨c', o', e', _, c0', c1'⟩ := h'.at_ hv
  simp only [Option.some.injEq, Addr.mk.injEq] at e e'
  obtain ⟨rfl, rfl, _⟩ := e
  obtain ⟨rfl, rfl, _⟩ := e'
  exact ⟨⟨c0, c1⟩, c0', c1'⟩

set_option maxHeartbeats 1000000 in
theorem eqIntervalS_c (l : List Iv) (n : Nat) (hn : Hid (n = l.length)) (hm : n ≤ maxLen) (x y : Option Addr) (cap cap' : Nat) (w : World) (h : Ivs w.heap.size w x l) (h' : Ivs w.heap.size w y l) :
    Calls Try.prog 18 #[.slice x n cap, .slice y n cap'] w fun e w' => e = .returned (.bool true) ∧ Below w.heap.size w w' := by
  unfold maxLen at hm
  go_enter Try.func18, Try.ntmps18
  go_wp2
  go_loopw [5] (fun i wr => ∃ k : Nat, k ≤ n ∧ i = .int .i64 k ∧ Below w.heap.size w wr) (fun i _ => n - (intOf i).toNat)
  case atStart => exact ⟨0, Nat.zero_le _, rfl, Below.refl _ _⟩
  case round =>
    obtain ⟨k, hk, rfl, hb⟩ := hrel
    by_cases hlt : k < n
    · obtain ⟨v, hv⟩ := get_at (l := l) (k := k) (by rw [← hn.out]; exact hlt)
      have hr := h.next hb
      have hr' := h'.next hb
      obtain ⟨b, off, rfl, hbB, c0, c1⟩ := hr.at_ hv
      obtain ⟨b', off', rfl, hbB', c0', c1'⟩ := hr'.at_ hv
      have HV := Lib.hid hv
      clear hv
      go_wp2_with fail
      go_region_held3 (fun w' => (w'.cell? ⟨b, off + k * 2, none⟩ = some (.int .i64 v.lo) ∧ w'.cell? ⟨b, off + k * 2 + 1, none⟩ = some (.int .i64 v.hi)) ∧ (w'.cell? ⟨b', off' + k * 2, none⟩ = some (.int .i64 v.lo) ∧ w'.cell? ⟨b', off' + k * 2 + 1, none⟩ = some (.int .i64 v.hi))) (first | exact ⟨⟨c0, c1⟩, c0', c1'⟩ | assumption | exact ivs_two (by assumption) (by assumption) HV.out HV.out)
        ((go_at_call 17; refine (eqInterval_same v _).mono ?_; rintro e wn ⟨rfl, hbn⟩; have A := ivs_two (hr.next (w' := wn) (below_drewL hbn)) (hr'.next (below_drewL hbn)) HV.out HV.out; have G : Below w.heap.size w wn := grow_next hb (below_drewL hbn)))
      go_wp2_with fail
      go_roundw
      case rel => exact ⟨k + 1, by omega, by go_num, by assumption⟩
      case measure => simp [intOf]; omega
    · go_wp2_with fail
      go_returns
      exact ⟨rfl, hb⟩
end Go.Proofs.Ytoejeekepagfcaa
