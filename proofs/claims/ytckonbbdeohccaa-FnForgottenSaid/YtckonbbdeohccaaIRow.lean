/- Rows of numbers of the call's own: held against each other, marked, looked at again. -/
import Derived.Test.YtckonbbdeohccaaNdTo
import Derived.Laws.OwnMore
namespace Go.Proofs.Ytckonbbdeohccaa
open Go.ChangeShapes Go.WideShapes Go.ChangeAt Go.RowKit
set_option linter.unusedVariables false
set_option linter.unusedSimpArgs false

def IRow (base : Nat) (W : World) (x : Option Addr) (cap : Nat) (l : List Int) : Prop := W.ownsRow base 2 1 (.slice x l.length cap) l.length (l.map (Value.int .i64))
section
variable {base : Nat} {W W' : World} {x : Option Addr} {cap : Nat} {l : List Int}
theorem IRow.at_ {k : Nat} {z : Int} (h : IRow base W x cap l) (hk : l[k]? = some z) : ∃ g, x = some ⟨g, 0, none⟩ ∧ base ≤ g ∧ g < W.heap.size ∧ W.cell? ⟨g, k, none⟩ = some (.int .i64 z) ∧ W.frozen? ⟨g, k, none⟩ = false := by
  have hkl := (List.getElem?_eq_some_iff.1 hk).1
  have h0 := h
  rcases h.2 with ⟨e, e0⟩ | ⟨g, c, cur, e, hb, hg, _, _, _, htk⟩
  · omega
  · simp only [Value.slice.injEq] at e
    obtain ⟨rfl, _, rfl⟩ := e
    refine ⟨g, rfl, hb, (Array.getElem?_eq_some_iff.1 hg).1, ?_, World.ownsRow.frozenAt h0 _⟩
    rw [World.ownsRow.cellAt h0 _ (by omega), List.getElem?_map, hk]
    rfl
theorem IRow.keep {row : Option Nat} (h : IRow base W x cap l) (hg : W.grownBy W' row) (hne : ∀ g, x = some ⟨g, 0, none⟩ → some g ≠ row) : IRow base W' x cap l := by
  refine ⟨h.1, ?_⟩
  rcases h.2 with e | ⟨g, c, cur, e, hb', hgg, r⟩
  · exact .inl e
  · refine .inr ⟨g, c, cur, e, hb', (hg.block g (Array.getElem?_eq_some_iff.1 hgg).1 (hne g ?_)).trans hgg, r⟩
    simp only [Value.slice.injEq] at e
    exact e.1
theorem IRow.next (h : IRow base W x cap l) (hb : Below W.heap.size W W') : IRow base W' x cap l :=
  h.keep (row := none) ⟨hb.os, hb.tape, hb.output, hb.size, fun k hk _ => hb.block k hk⟩ (fun _ _ => by simp)
theorem IRow.lt (h : IRow base W x cap l) : ∀ g, x = some ⟨g, 0, none⟩ → g < W.heap.size := fun g e => by
  subst e
  exact (World.ownsRow.lt h g rfl).2
theorem IRow.ge (h : IRow base W x cap l) : ∀ g, x = some ⟨g, 0, none⟩ → base ≤ g := fun g e => by
  subst e
  exact (World.ownsRow.lt h g rfl).1
theorem IRow.put {g k : Nat} (h : IRow base W (some ⟨g, 0, none⟩) cap l) (hk : k < l.length) (z : Int) : IRow base (W.setCell ⟨g, k, none⟩ (.int .i64 z)) (some ⟨g, 0, none⟩) cap (l.set k z) := by
  unfold IRow at h ⊢
  have := (World.ownsRow.stored h k (.int .i64 z)).1
  simpa using this
end

/-- So many marks. -/
def marksJ (k0 : Int) (n : Nat) : List Int := (List.range n).map fun (i : Nat) => k0 + (i : Int)
theorem marksJ_length (k0 : Int) (n : Nat) : (marksJ k0 n).length = n := by simp [marksJ]
theorem marksJ_at {k0 : Int} {n k : Nat} (h : k < n) : (marksJ k0 n)[k]? = some (k0 + k) := by simp [marksJ, h]
theorem marksJ_set {l : List Int} {k0 : Int} {k : Nat} (h : k < l.length) : (marksJ k0 k ++ l.drop k).set k (k0 + k) = marksJ k0 (k + 1) ++ l.drop (k + 1) := by
  have hl := marksJ_length k0 k
  rw [List.set_append_right _ _ (by omega), hl, Nat.sub_self]
  rw [List.drop_eq_getElem_cons h, List.set_cons_zero]
  have : marksJ k0 (k + 1) = marksJ k0 k ++ [k0 + (k : Int)] := by simp [marksJ, List.range_succ]
  rw [this, List.append_assoc]
  rfl

/-- MarkedJ: the row holds the marks, nothing else has turned. -/
def MarkedJ (base : Nat) (w : World) (x : Option Addr) (cap n : Nat) (k0 : Int) : Ending → World → Prop := fun e w' =>
  e = .returned (.int .i64 (k0 + n)) ∧ IRow base w' x cap (marksJ k0 n) ∧ w.grownBy w' (x.map (·.block))

theorem grown_setJ {w a : World} {g : Nat} (h : w.grownBy a (some g)) (k : Nat) (v : Value) : w.grownBy (a.setCell ⟨g, k, none⟩ v) (some g) :=
  ⟨h.os, h.tape, h.output, by have := h.size; simpa [World.setCell] using this, fun j hj hne => by
    rw [← h.block j hj hne]
    have : g ≠ j := fun e => hne (by rw [e])
    simp [World.setCell, Array.getElem?_modify, this]⟩

set_option maxHeartbeats 1000000 in
theorem markIRow_c (l : List Int) (n : Nat) (hn : Hid (n = l.length)) (hm : n ≤ 1048576) (k0 : Int) (h0 : 0 ≤ k0) (h1 : k0 ≤ 1048576) (base : Nat) (x : Option Addr) (cap : Nat) (w : World) (h : IRow base w x cap l) :
    Calls Try.prog 22 #[.slice x n cap, .int .i64 k0] w (MarkedJ base w x cap n k0) := by
  go_enter Try.func22, Try.ntmps22
  go_wp2
  go_loopw [1, 5] (fun m i wr => ∃ k : Nat, k ≤ n ∧ i = .int .i64 k ∧ m = .int .i64 (k0 + k) ∧ IRow base wr x cap (marksJ k0 k ++ l.drop k) ∧ w.grownBy wr (x.map (·.block))) (fun _ i _ => n - (intOf i).toNat)
  case atStart => exact ⟨0, Nat.zero_le _, rfl, by simp, by simpa [marksJ] using h, World.grownBy.refl _ _⟩
  case round =>
    obtain ⟨k, hk, rfl, rfl, hr, hg⟩ := hrel
    by_cases hlt : k < n
    · have hkl : k < l.length := by rw [← hn.out]; exact hlt
      obtain ⟨v, hv⟩ : ∃ v, (marksJ k0 k ++ l.drop k)[k]? = some v := getI (by rw [List.length_append, marksJ_length, List.length_drop]; omega)
      obtain ⟨g, rfl, hbg, _, c0, f0⟩ := hr.at_ hv
      have hp := hr.put (k := k) (by rw [List.length_append, marksJ_length, List.length_drop]; omega) (k0 + k)
      rw [marksJ_set hkl] at hp
      have hg' := grown_setJ hg k (.int .i64 (k0 + k))
      clear hv
      go_wp2_with fail
      go_roundw
      case rel => exact ⟨k + 1, by omega, by go_num, by rw [show ((k + 1 : Nat) : Int) = (k : Int) + 1 from by omega, Int.add_assoc], hp, hg'⟩
      case measure => simp [intOf]; omega
    · have e : k = n := by omega
      have hr' : IRow base wr x cap (marksJ k0 n) := by
        rw [e, List.drop_of_length_le (by rw [← hn.out]; exact Nat.le_refl _), List.append_nil] at hr
        exact hr
      have HE := Lib.hid e
      clear e hr
      go_wp2_with fail
      go_returns
      exact ⟨by rw [HE.out]; rfl, hr', hg⟩

theorem heldIRow_c (n : Nat) (hm : n ≤ 1048576) (k0 : Int) (h0 : 0 ≤ k0) (h1 : k0 ≤ 1048576) (base : Nat) (x : Option Addr) (cap : Nat) (w : World) (h : IRow base w x cap (marksJ k0 n)) :
    Calls Try.prog 23 #[.slice x n cap, .int .i64 k0] w fun e w' => e = .returned (.int .i64 (k0 + n)) ∧ w = w' := by
  go_enter Try.func23, Try.ntmps23
  go_wp2
  go_loop [1, 5] (fun m i => ∃ k : Nat, k ≤ n ∧ i = .int .i64 k ∧ m = .int .i64 (k0 + k)) (fun _ i => n - (intOf i).toNat)
  case atStart => exact ⟨0, Nat.zero_le _, rfl, by simp⟩
  case round =>
    obtain ⟨k, hk, rfl, rfl⟩ := hrel
    by_cases hlt : k < n
    · obtain ⟨g, rfl, _, _, c0, _⟩ := h.at_ (marksJ_at hlt)
      go_wp2_with fail
      go_round
      case rel => exact ⟨k + 1, by omega, by go_num, by rw [show ((k + 1 : Nat) : Int) = (k : Int) + 1 from by omega, Int.add_assoc]⟩
      case measure => simp [intOf]; omega
    · have HE := Lib.hid (show k = n by omega)
      go_wp2_with fail
      go_returns
      exact ⟨by rw [HE.out]; rfl, rfl⟩
theorem IRow.ints {base : Nat} {W : World} {x : Option Addr} {cap : Nat} {l : List Int} (h : IRow base W x cap l) : IntsAt W.heap.size W x l := by
  rcases h.2 with ⟨e, e0⟩ | ⟨g, c, cur, e, hb, hg, _⟩
  · exact .inl (List.eq_nil_of_length_eq_zero e0)
  · have h0 := h
    simp only [Value.slice.injEq] at e
    obtain ⟨rfl, _, rfl⟩ := e
    refine .inr ⟨g, 0, rfl, (Array.getElem?_eq_some_iff.1 hg).1, fun i v j z hi hj => ?_⟩
    have hil := (List.getElem?_eq_some_iff.1 hi).1
    match j, hj with
    | 0, hj =>
      simp at hj
      subst hj
      rw [Nat.zero_add, World.ownsRow.cellAt h0 _ (by omega)]
      simp [hi]
    | j + 1, hj => simp at hj
theorem iRow_form {base n : Nat} {W : World} {v : Value} {l : List Int} (h : W.ownsRow base 2 1 v n (l.map (Value.int .i64))) (hn : n = l.length) : ∃ x cap, v = .slice x n cap ∧ IRow base W x cap l := by
  subst hn
  obtain ⟨x, cap, rfl⟩ := ownsRow_formT h
  exact ⟨x, cap, rfl, h⟩
theorem IRow.own {base : Nat} {W : World} {x : Option Addr} {cap : Nat} {l : List Int} (h : IRow base W x cap l) {k : Nat} (hk : x.map (·.block) = some k) : x = some ⟨k, 0, none⟩ := by
  rcases h.2 with ⟨e, _⟩ | ⟨g, c, cur, e, _⟩
  · simp only [Value.slice.injEq] at e
    rw [e.1] at hk
    simp at hk
  · simp only [Value.slice.injEq] at e
    rw [e.1] at hk ⊢
    simp at hk
    rw [hk]
end Go.Proofs.Ytckonbbdeohccaa
