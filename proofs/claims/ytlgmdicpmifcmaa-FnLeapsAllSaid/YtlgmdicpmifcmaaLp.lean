/- Leaps: their two numbers; lists of them in memory; copied and held against each other by the laws. -/
import Derived.Test.YtlgmdicpmifcmaaIn
import Derived.Test.YtlgmdicpmifcmaaFlat
import Derived.Test.YtlgmdicpmifcmaaTab
import Derived.BigGuardPart
import Derived.BigQuiet
import Derived.IntWalk
import Derived.Deep.QuietTactic
import Derived.Deep.RegionHeld3
namespace Go.Proofs.Ytlgmdicpmifcmaa
open Go.ChangeShapes Go.WideShapes Go.ChangeAt Go.RowKit
set_option linter.unusedVariables false
set_option linter.unusedSimpArgs false

structure Lp where
  at_ : Int
  add : Int
deriving DecidableEq

theorem list2 {α : Type} (l : List α) (h : l.length = 2) : ∃ a b, l = [a, b] :=
  match l, h with
  | [a, b], _ => ⟨a, b, rfl⟩

theorem lp_cells {W : World} {b : Nat} {T : TypeId} {q : Lp} (h : W.heap[b]? = some (.cells #[.int .i64 q.at_, .int .i64 q.add] T)) : W.cell? ⟨b, 0, none⟩ = some (.int .i64 q.at_) ∧ W.cell? ⟨b, 1, none⟩ = some (.int .i64 q.add) := by
  simp [World.cell?, h]
theorem lp_thaw {W : World} {b : Nat} {T : TypeId} {q : Lp} (h : W.heap[b]? = some (.cells #[.int .i64 q.at_, .int .i64 q.add] T)) : W.frozen? ⟨b, 0, none⟩ = false ∧ W.frozen? ⟨b, 1, none⟩ = false := by
  refine ⟨?_, ?_⟩ <;> simp [World.frozen?, h]

theorem toLeap_c (p : Lp) (w : World) :
    Calls Try.prog 29 #[.agg #[.int .i64 p.at_, .int .i64 p.add]] w fun e w' => e = .returned (.agg #[.int .i64 p.at_, .int .i64 p.add]) ∧ Below w.heap.size w w' := by
  go_enter Try.func29, Try.ntmps29
  go_wp2
  go_returns
  exact ⟨rfl, by go_grown⟩

theorem eqLeap_same (p : Lp) (w : World) :
    Calls Try.prog 19 #[.agg #[.int .i64 p.at_, .int .i64 p.add], .agg #[.int .i64 p.at_, .int .i64 p.add]] w fun e w' => e = .returned (.bool true) ∧ Below w.heap.size w w' := by
  go_enter Try.func19, Try.ntmps19
  go_wp2
  go_returns
  exact ⟨rfl, by go_grown⟩

def Lp.row (i : Lp) : List Int := [i.at_, i.add]
def Lp.ofRow : List Int → Lp
  | [a, b] => ⟨a, b⟩
  | _ => ⟨0, 0⟩
def Lps (B : Nat) (w : World) (x : Option Addr) (l : List Lp) : Prop := RowsAt Lp.row 2 B w x l

section
variable {B B' : Nat} {w w' : World} {x : Option Addr} {l : List Lp}
theorem Lps.below (h : Lps B w x l) (hb : Below B w w') : Lps B w' x l := RowsAt.below h hb
theorem Lps.mono (h : Lps B w x l) (hB : B ≤ B') : Lps B' w x l := RowsAt.mono h hB
theorem Lps.next (h : Lps w.heap.size w x l) (hb : Below w.heap.size w w') : Lps w'.heap.size w' x l := RowsAt.next h hb
theorem Lps.at_ {i : Nat} {v : Lp} (h : Lps B w x l) (hi : l[i]? = some v) : ∃ b off, x = some ⟨b, off, none⟩ ∧ b < B ∧ w.cell? ⟨b, off + i * 2, none⟩ = some (.int .i64 v.at_) ∧ w.cell? ⟨b, off + i * 2 + 1, none⟩ = some (.int .i64 v.add) := by
  obtain ⟨b, off, e, hb, hc⟩ := RowsAt.at_ h hi
  exact ⟨b, off, e, hb, hc 0 _ rfl, hc 1 _ rfl⟩
end

theorem get_at {α : Type} {l : List α} {k : Nat} (h : k < l.length) : ∃ v, l[k]? = some v := ⟨l[k], List.getElem?_eq_getElem h⟩
theorem take_next {α : Type} {l : List α} {k : Nat} {v : α} (h : l[k]? = some v) : l.take (k + 1) = l.take k ++ [v] := by
  rw [List.take_add_one, h]; rfl

theorem open_lps {H : Type} {enc : TypeId × Value → H} {w : World} {held : Bool} {r : Reach} {b0 : Nat} {v : Value} {d : DataW H} {q : List MemPlace}
    (hv : Value.okWide Try.prog w r b0 22 v) (h : DataW.Trod enc Try.prog w 0 (fun _ => true) held 22 v d q) :
    ∃ (x : Option Addr) (len cap : Nat) (l : List Lp), v = .slice x len cap ∧ (Hid (len = l.length) ∧ len ≤ cap ∧ cap ≤ maxLen ∧ Lps w.heap.size w x l) := by
  obtain ⟨x, len, cap, l, rfl, hl, hr, hc, hm, _⟩ := open_rows (enc := enc) Lp.row Lp.ofRow (fun l hl => by obtain ⟨a, b, rfl⟩ := list2 l hl; rfl) Try.underlying22 Try.underlying43 (by kernel_rfl) (by kernel_rfl) (by decide) hv h
  exact ⟨x, len, cap, l, rfl, Lib.hid hl, hc, hm, hr⟩

def LpTab (m : Nat) (w : World) (g : Nat) (l : List Lp) : Prop := TabAt Lp.row 2 m 30 w g l
theorem LpTab.lps {m g : Nat} {w : World} {l : List Lp} (h : LpTab m w g l) : Lps w.heap.size w (some ⟨g, 0, none⟩) l := TabAt.rows h
theorem LpTab.next {m g : Nat} {w w' : World} {l : List Lp} (h : LpTab m w g l) (hb : Below w.heap.size w w') : LpTab m w' g l := TabAt.next h hb
theorem LpTab.room {m g : Nat} {w : World} {l : List Lp} (h : LpTab m w g l) {k : Nat} (hk : k < m) : (∃ u, w.cell? ⟨g, k * 2, none⟩ = some u) ∧ (∃ u, w.cell? ⟨g, k * 2 + 1, none⟩ = some u) ∧ w.frozen? ⟨g, k * 2, none⟩ = false ∧ w.frozen? ⟨g, k * 2 + 1, none⟩ = false :=
  ⟨(TabAt.room h (by omega)).1, (TabAt.room h (by omega)).1, (TabAt.room h (by omega)).2, (TabAt.room h (by omega)).2⟩
theorem LpTab.put {m g : Nat} {w : World} {l : List Lp} (h : LpTab m w g l) (hk : l.length < m) (v : Lp) :
    LpTab m ((w.setCell ⟨g, l.length * 2, none⟩ (.int .i64 v.at_)).setCell ⟨g, l.length * 2 + 1, none⟩ (.int .i64 v.add)) g (l ++ [v]) := by
  obtain ⟨cur, h1, h2, h3, h4⟩ := h
  refine ⟨_, heap_set (heap_set h1 _ _) _ _, by simp [h2], by simp; omega, fun i u j z hi hj => ?_⟩
  simp only [Array.getElem?_setIfInBounds, Array.size_setIfInBounds]
  rcases Nat.lt_or_ge i l.length with hl | hl
  · rw [List.getElem?_append_left hl] at hi
    have hj2 : j < 2 := (List.getElem?_eq_some_iff.1 hj).1
    rw [if_neg (by omega), if_neg (by omega)]
    exact h4 i u j z hi hj
  · have e : i = l.length := by
      have := (List.getElem?_eq_some_iff.1 hi).1
      simp at this
      omega
    subst e
    simp at hi
    subst hi
    match j, hj with
    | 0, hj =>
      simp [Lp.row] at hj
      subst hj
      rw [if_neg (by omega), if_pos (by omega), if_pos (by omega)]
    | 1, hj =>
      simp [Lp.row] at hj
      subst hj
      rw [if_pos (by omega), if_pos (by omega)]
    | j + 2, hj => simp [Lp.row] at hj

theorem szLeapS_c (n : Nat) (left : Int) (h0 : 0 ≤ left) (h1 : left ≤ 1048576) (hm : n ≤ maxLen) (x : Option Addr) (cap : Nat) (w : World) :
    Calls Try.prog 10 #[.slice x n cap, .int .i64 left] w fun e w' => e = .returned (.int .i64 (if (n : Int) ≤ left then left - n else -1)) ∧ w = w' := by
  unfold maxLen at hm
  by_cases hlt : (n : Int) ≤ left
  · rw [if_pos hlt]
    go_enter Try.func10, Try.ntmps10
    go_wp2
    go_returns
    exact ⟨rfl, rfl⟩
  · rw [if_neg hlt]
    go_enter Try.func10, Try.ntmps10
    go_wp2
    go_returns
    exact ⟨rfl, rfl⟩


theorem infoLp : (Try.prog.info? 30).map (fun i => (i.zero, i.size, i.bytes)) = some (some (.agg #[.int .i64 0, .int .i64 0]), 2, 16) := by kernel_rfl

/-- A copy of these: a slice of the call's own. -/
def FreshLps (n : Nat) (W : World) (l : List Lp) : Ending → World → Prop := fun e w' => ∃ g, e = .returned (.slice (some ⟨g, 0, none⟩) n n) ∧ LpTab n w' g l ∧ W.heap.size ≤ g ∧ Below W.heap.size W w'

set_option maxHeartbeats 1000000 in
theorem toLeapS_c (l : List Lp) (n : Nat) (hn : Hid (n = l.length)) (hm : n ≤ 1048576) (x : Option Addr) (cap : Nat) (w : World) (h : Lps w.heap.size w x l) :
    Calls Try.prog 12 #[.slice x n cap] w (FreshLps n w l) := by
  have hmk := run_make_tab (P := Try.prog) Try.underlying25 infoLp n (by omega) hm
  have hT : LpTab n (w.alloc (.cells (madeCells (Value.agg #[.int .i64 0, .int .i64 0]).cells (n * 2)) 30)) w.heap.size [] := TabAt.made _ rfl w (Nat.zero_le _)
  go_enter Try.func12, Try.ntmps12
  go_wp2
  go_loopw [4] (fun i wr => ∃ k : Nat, k ≤ n ∧ i = .int .i64 k ∧ LpTab n wr w.heap.size (l.take k) ∧ Below w.heap.size w wr) (fun i _ => n - (intOf i).toNat)
  case atStart => exact ⟨0, Nat.zero_le _, rfl, hT, by go_grown⟩
  case round =>
    obtain ⟨k, hk, rfl, ht, hb⟩ := hrel
    clear hmk
    by_cases hlt : k < n
    · obtain ⟨v, hv⟩ := get_at (l := l) (k := k) (by rw [← hn.out]; exact hlt)
      obtain ⟨b, off, rfl, hbB, c0, c1⟩ := (h.next hb).at_ hv
      have HV := Lib.hid (take_next hv)
      have HK := Lib.hid (show (l.take k).length = k by have := hn.out; simp; omega)
      clear hv
      go_wp2_with fail
      refine (toLeap_c v _).mono ?_
      rintro e w1 ⟨rfl, hb1⟩
      have ht1 := ht.next hb1
      have g1 := grow_next hb hb1
      obtain ⟨⟨u0, r0⟩, ⟨u1, r1⟩, f0, f1⟩ := ht1.room hlt
      have hp := ht1.put (by rw [HK.out]; exact hlt) v
      rw [HK.out, ← HV.out] at hp
      have G : Below w.heap.size w ((w1.setCell ⟨w.heap.size, k * 2, none⟩ (.int .i64 v.at_)).setCell ⟨w.heap.size, k * 2 + 1, none⟩ (.int .i64 v.add)) := by
        repeat (refine below_setCell ?_ (by omega) _ _)
        exact g1
      go_wp2_with fail
      go_roundw
      case rel => exact ⟨k + 1, by omega, by go_num, hp, G⟩
      case measure => simp [intOf]; omega
    · have e : k = n := by omega
      have hT' : LpTab n wr w.heap.size l := by
        rw [e, hn.out, List.take_length] at ht
        rw [hn.out]
        exact ht
      clear e
      go_wp2_with fail
      go_returns
      exact ⟨_, rfl, hT', Nat.le_refl _, hb⟩


theorem lps_two {W : World} {B : Nat} {b off b' off' k : Nat} {l l' : List Lp} {u v : Lp} (h : Lps B W (some ⟨b, off, none⟩) l) (h' : Lps B W (some ⟨b', off', none⟩) l') (hu : l[k]? = some u) (hv : l'[k]? = some v) :
    (W.cell? ⟨b, off + k * 2, none⟩ = some (.int .i64 u.at_) ∧ W.cell? ⟨b, off + k * 2 + 1, none⟩ = some (.int .i64 u.add)) ∧ (W.cell? ⟨b', off' + k * 2, none⟩ = some (.int .i64 v.at_) ∧ W.cell? ⟨b', off' + k * 2 + 1, none⟩ = some (.int .i64 v.add)) := by
  obtain ⟨c, o, e, _, c0, c1⟩ := h.at_ hu
  obtain ⟨c', o', e', _, c0', c1'⟩ := h'.at_ hv
  simp only [Option.some.injEq, Addr.mk.injEq] at e e'
  obtain ⟨rfl, rfl, _⟩ := e
  obtain ⟨rfl, rfl, _⟩ := e'
  exact ⟨⟨c0, c1⟩, c0', c1'⟩

set_option maxHeartbeats 1000000 in
theorem eqLeapS_c (l : List Lp) (n : Nat) (hn : Hid (n = l.length)) (hm : n ≤ maxLen) (x y : Option Addr) (cap cap' : Nat) (w : World) (h : Lps w.heap.size w x l) (h' : Lps w.heap.size w y l) :
    Calls Try.prog 14 #[.slice x n cap, .slice y n cap'] w fun e w' => e = .returned (.bool true) ∧ Below w.heap.size w w' := by
  unfold maxLen at hm
  go_enter Try.func14, Try.ntmps14
  go_wp2
  go_loopw [5] (fun i wr => ∃ k : Nat, k ≤ n ∧ i = .int .i64 k ∧ Below w.heap.size w wr) (fun i _ => n - (intOf i).toNat)
  case atStart => exact ⟨0, Nat.zero_le _, rfl, Below.refl _ _⟩
  case round =>
    obtain ⟨k, hk, rfl, hb⟩ := hrel
    by_cases hlt : k < n
    · obtain ⟨v, hv⟩ := get_at (l := l) (k := k) (by rw [← hn.out]; exact hlt)
      have hr := h.next hb
      have hr' := h'.next hb
      obtain ⟨b, off, rfl, hbB, c0, c1⟩ := hr.at_ hv
      obtain ⟨b', off', rfl, hbB', c0', c1'⟩ := hr'.at_ hv
      have HV := Lib.hid hv
      clear hv
      go_wp2_with fail
      go_region_held3 (fun w' => (w'.cell? ⟨b, off + k * 2, none⟩ = some (.int .i64 v.at_) ∧ w'.cell? ⟨b, off + k * 2 + 1, none⟩ = some (.int .i64 v.add)) ∧ (w'.cell? ⟨b', off' + k * 2, none⟩ = some (.int .i64 v.at_) ∧ w'.cell? ⟨b', off' + k * 2 + 1, none⟩ = some (.int .i64 v.add))) (first | exact ⟨⟨c0, c1⟩, c0', c1'⟩ | assumption | exact lps_two (by assumption) (by assumption) HV.out HV.out)
        ((go_at_call 19; refine (eqLeap_same v _).mono ?_; rintro e wn ⟨rfl, hbn⟩; have A := lps_two (hr.next (w' := wn) (below_drewL hbn)) (hr'.next (below_drewL hbn)) HV.out HV.out; have G : Below w.heap.size w wn := grow_next hb (below_drewL hbn)))
      go_wp2_with fail
      go_roundw
      case rel => exact ⟨k + 1, by omega, by go_num, by assumption⟩
      case measure => simp [intOf]; omega
    · go_wp2_with fail
      go_returns
      exact ⟨rfl, hb⟩
end Go.Proofs.Ytlgmdicpmifcmaa
