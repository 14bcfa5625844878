/- Which lists of nodes are right: of the program and of the reference. -/
import Derived.Test.YtckonbbdeohccaaNdRead
import Derived.Test.YtckonbbdeohccaaIn
import Derived.Lib.QuietBelow
namespace Go.Proofs.Ytckonbbdeohccaa
open Go.ChangeShapes Go.WideShapes Go.ChangeAt Go.RowKit Go.Sort
set_option linter.unusedVariables false
set_option linter.unusedSimpArgs false

/-- The one ahead of this place; -1 ahead of the first. -/
def prevOf (l : List Int) (j : Nat) : Int := if j = 0 then -1 else l.getD (j - 1) 0
def riseAt (N : Int) (l : List Int) (j : Nat) (z : Int) : Bool := inB 0 z (N - 1) && decide (prevOf l j < z)
def riseTo (N : Int) (l : List Int) (k : Nat) : Bool := (List.range k).all fun j => match l[j]? with | some z => riseAt N l j z | none => true
theorem riseTo_next {N : Int} {l : List Int} {k : Nat} {z : Int} (h : l[k]? = some z) : riseTo N l (k + 1) = (riseTo N l k && riseAt N l k z) := by
  unfold riseTo
  rw [List.range_succ, List.all_append]
  simp [h]
theorem riseTo_at {N : Int} {l : List Int} {k j : Nat} {z : Int} (h : riseTo N l k = true) (hj : j < k) (hz : l[j]? = some z) : riseAt N l j z = true := by
  have := List.all_eq_true.1 h j (List.mem_range.2 hj)
  rw [hz] at this
  exact this
theorem riseTo_false {N : Int} {l : List Int} {k : Nat} {z : Int} (h : l[k]? = some z) (hf : riseAt N l k z = false) : riseTo N l l.length = false := by
  cases e : riseTo N l l.length with
  | false => rfl
  | true =>
    have := riseTo_at e (List.getElem?_eq_some_iff.1 h).1 h
    rw [hf] at this
    cases this
theorem prevOf_zero (l : List Int) : prevOf l 0 = -1 := rfl
theorem prevOf_next {l : List Int} {k : Nat} {z : Int} (h : l[k]? = some z) : prevOf l (k + 1) = z := by
  unfold prevOf
  rw [if_neg (Nat.succ_ne_zero k), Nat.add_sub_cancel, List.getD_eq_getElem?_getD, h]
  rfl
theorem prevOf_ge {N : Int} {l : List Int} {k : Nat} (h : riseTo N l k = true) (hk : k ≤ l.length) : -1 ≤ prevOf l k := by
  cases k with
  | zero => exact Int.le_refl _
  | succ k =>
    obtain ⟨z, hz⟩ := getI (l := l) (k := k) (by omega)
    rw [prevOf_next hz]
    have := riseTo_at h (Nat.lt_succ_self k) hz
    unfold riseAt at this
    rw [Bool.and_eq_true, inB_iff] at this
    omega
/-- The program's test at a place is the same. -/
theorem riseAt_within {N : Int} {l : List Int} {k : Nat} (z : Int) (h : riseTo N l k = true) (hk : k ≤ l.length) : inB (prevOf l k + 1) z (N - 1) = riseAt N l k z := by
  have hp := prevOf_ge h hk
  unfold riseAt inB
  by_cases h1 : prevOf l k < z
  · by_cases h2 : z ≤ N - 1
    · rw [decide_eq_true (show prevOf l k + 1 ≤ z by omega), decide_eq_true (show 0 ≤ z by omega), decide_eq_true h1, decide_eq_true h2]; rfl
    · rw [decide_eq_false h2]; simp
  · rw [decide_eq_false (show ¬ prevOf l k + 1 ≤ z by omega), decide_eq_false h1]; simp
theorem has_next {l : List Int} {k : Nat} {z : Int} (a : Int) (h : l[k]? = some z) : (l.take (k + 1)).contains a = ((l.take k).contains a || (z == a)) := by
  rw [List.take_add_one, h, List.contains_eq_any_beq, List.contains_eq_any_beq, List.any_append]
  simp [Bool.beq_comm, eq_comm]
theorem has_full {l : List Int} {k : Nat} (a : Int) (h : k = l.length) : (l.take k).contains a = l.contains a := by rw [h, List.take_length]
theorem has_hit {l : List Int} {k : Nat} {z : Int} (h : l[k]? = some z) : l.contains z = true := by
  rw [List.contains_iff_mem]
  exact List.mem_of_getElem? h
/-- Is what a node says of itself right, but for its peers' order? -/
def standsB (v : Nd) : Bool := if v.src then (v.ref == -1 && v.str == 1) else if v.ref == -1 then v.str == 16 else (v.peers.contains v.ref && inB 2 v.str 15)
def ndOk (N : Int) (at_ : Int) (v : Nd) : Bool := riseTo N v.peers v.peers.length && !v.peers.contains at_ && standsB v
theorem has_neg {N : Int} {l : List Int} (h : riseTo N l l.length = true) : l.contains (-1) = false := by
  cases e : l.contains (-1) with
  | false => rfl
  | true =>
    rw [List.contains_iff_mem] at e
    obtain ⟨j, hj⟩ := List.getElem?_of_mem e
    have := riseTo_at h (List.getElem?_eq_some_iff.1 hj).1 hj
    unfold riseAt at this
    rw [Bool.and_eq_true, inB_iff] at this
    omega
def okTo (l : List Nd) (k : Nat) : Bool := (List.range k).all fun i => match l[i]? with | some v => ndOk l.length i v | none => true
def nodesOk (l : List Nd) : Bool := okTo l l.length && decide (l.length ≤ 12)
theorem okTo_next {l : List Nd} {k : Nat} {v : Nd} (h : l[k]? = some v) : okTo l (k + 1) = (okTo l k && ndOk l.length k v) := by
  unfold okTo
  rw [List.range_succ, List.all_append]
  simp [h]
theorem okTo_at {l : List Nd} {k j : Nat} {v : Nd} (h : okTo l k = true) (hj : j < k) (hz : l[j]? = some v) : ndOk l.length j v = true := by
  have := List.all_eq_true.1 h j (List.mem_range.2 hj)
  rw [hz] at this
  exact this
theorem okTo_false {l : List Nd} {k : Nat} {v : Nd} (h : l[k]? = some v) (hf : ndOk l.length k v = false) : nodesOk l = false := by
  unfold nodesOk
  cases e : okTo l l.length with
  | false => rfl
  | true =>
    have := okTo_at e (List.getElem?_eq_some_iff.1 h).1 h
    rw [hf] at this
    cases this

/-! ### The program's -/
end Go.Proofs.Ytckonbbdeohccaa
