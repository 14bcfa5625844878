/- Who comes: what the list of clients tells of one, ahead and behind. -/
import Derived.Test.YtckonbbdeohccaaCameMath
import Derived.Test.YtckonbbdeohccaaScore
namespace Go.Proofs.Ytckonbbdeohccaa
open Go.ChangeShapes Go.WideShapes Go.ChangeAt Go.RowKit
set_option linter.unusedVariables false
set_option linter.unusedSimpArgs false

theorem clAt_put (l : List Cl) (c : Cl) : clAt (putC l c) c.id = some c := by
  unfold clAt putC
  rw [List.find?_append, List.find?_eq_none.2 (fun a ha => by have := (List.mem_filter.1 ha).2; simp at this ⊢; omega), List.find?_cons_of_pos (by simp)]
  rfl
theorem clAt_put_ne (l : List Cl) (c : Cl) {i : Int} (h : i ≠ c.id) : clAt (putC l c) i = clAt l i := by
  unfold clAt putC
  rw [List.find?_append, List.find?_cons_of_neg (by simp; omega), List.find?_filter, List.find?_filter]
  rcases Int.lt_or_lt_of_ne h with h | h
  · have e1 : (fun a : Cl => decide (decide (a.id < c.id) = true ∧ (a.id == i) = true)) = fun a => a.id == i := by
      funext a
      by_cases ha : a.id = i
      · simp [ha, h]
      · simp [ha]
    have e2 : l.find? (fun a : Cl => decide (decide (c.id < a.id) = true ∧ (a.id == i) = true)) = none := List.find?_eq_none.2 fun a _ => by simp; omega
    rw [e1, e2]
    cases l.find? (fun a => a.id == i) <;> rfl
  · have e1 : (fun a : Cl => decide (decide (c.id < a.id) = true ∧ (a.id == i) = true)) = fun a => a.id == i := by
      funext a
      by_cases ha : a.id = i
      · simp [ha, h]
      · simp [ha]
    have e2 : l.find? (fun a : Cl => decide (decide (a.id < c.id) = true ∧ (a.id == i) = true)) = none := List.find?_eq_none.2 fun a _ => by simp; omega
    rw [e1, e2]
    rfl
theorem scoreV_at {l : List Cl} {i : Int} {c : Cl} (h : clAt l i = some c) : scoreV l i = c.score := by unfold scoreV; rw [h]
theorem scoreV_put (l : List Cl) (c : Cl) : scoreV (putC l c) c.id = c.score := scoreV_at (clAt_put l c)
/-- One who rested twenty seconds: told nought, its score is four. -/
theorem rested {l : List Cl} (ho : limOk l = true) {k : Nat} {v : Cl} (hv : l[k]? = some v) (ht : v.last + 20 ≤ 1000000000) :
    ∃ L, camV l v.id (v.last + 20) = some (L, 0) ∧ scoreV L v.id = 4 ∧ L.length ≤ 50 := by
  obtain ⟨h1, h2, h3⟩ := limOk_iff.1 ho
  have hck := h2 v (List.mem_of_getElem? hv)
  have hc : clAt l v.id = some v := clAt_at h1 hv
  unfold clOk at hck
  rw [Bool.and_eq_true, Bool.and_eq_true, inB_iff, inB_iff, inB_iff] at hck
  obtain ⟨⟨⟨i0, i1⟩, n0, n1⟩, s0, s1⟩ := hck
  have hin : (inB 1 v.id 1000 && inB 0 (v.last + 20) 1000000000) = true := by
    rw [Bool.and_eq_true, inB_iff, inB_iff]
    omega
  have hl : leftC v (v.last + 20) = 0 := by unfold leftC; omega
  refine ⟨putC l ⟨v.id, v.last + 20, 4⟩, ?_, scoreV_put l ⟨v.id, v.last + 20, 4⟩, ?_⟩
  · rw [camV_yes ho]
    unfold comeV
    rw [if_pos hin, hc]
    show (if v.last + 20 < v.last then none else some (putC l ⟨v.id, v.last + 20, min (leftC v (v.last + 20) + 4) 20⟩, if 20 < leftC v (v.last + 20) + 4 then (1 : Int) else 0)) = _
    rw [hl, if_neg (by omega)]
    rfl
  · rw [putC_len_old (c := ⟨v.id, v.last + 20, 4⟩) h1 hc]
    exact h3
/-- A list with a client of this id: when last it came, its score. -/
def HasC (l : List Cl) (i t s : Int) : Prop := clAt l i = some ⟨i, t, s⟩
theorem came_again {l : List Cl} (ho : limOk l = true) {i t s now : Int} (h : HasC l i t s) (i0 : 1 ≤ i) (i1 : i ≤ 1000) (n0 : 0 ≤ now) (n1 : now ≤ 1000000000) (ht : t ≤ now) :
    ∃ L, camV l i now = some (L, if 20 < max (s - (now - t)) 0 + 4 then 1 else 0) ∧ HasC L i now (min (max (s - (now - t)) 0 + 4) 20) ∧ limOk L = true ∧ L.length = l.length := by
  obtain ⟨h1, h2, h3⟩ := limOk_iff.1 ho
  have hin : (inB 1 i 1000 && inB 0 now 1000000000) = true := by
    rw [Bool.and_eq_true, inB_iff, inB_iff]
    omega
  have e : camV l i now = some (putC l ⟨i, now, min (max (s - (now - t)) 0 + 4) 20⟩, if 20 < max (s - (now - t)) 0 + 4 then 1 else 0) := by
    rw [camV_yes ho]
    unfold comeV
    rw [if_pos hin, h]
    show (if now < t then none else some (putC l ⟨i, now, min (max (s - (now - t)) 0 + 4) 20⟩, if 20 < max (s - (now - t)) 0 + 4 then (1 : Int) else 0)) = _
    rw [if_neg (by omega)]
  exact ⟨_, e, clAt_put l ⟨i, now, min (max (s - (now - t)) 0 + 4) 20⟩, next_ok ho e, putC_len_old (c := ⟨i, now, min (max (s - (now - t)) 0 + 4) 20⟩) h1 h⟩
theorem came_first {l : List Cl} (ho : limOk l = true) {i now : Int} (h : clAt l i = none) (i0 : 1 ≤ i) (i1 : i ≤ 1000) (n0 : 0 ≤ now) (n1 : now ≤ 1000000000) (hl : l.length ≠ 50) :
    ∃ L, camV l i now = some (L, 0) ∧ HasC L i now 4 ∧ limOk L = true ∧ L.length = l.length + 1 := by
  have hin : (inB 1 i 1000 && inB 0 now 1000000000) = true := by
    rw [Bool.and_eq_true, inB_iff, inB_iff]
    omega
  have e : camV l i now = some (putC l ⟨i, now, 4⟩, 0) := by
    rw [camV_yes ho]
    unfold comeV
    rw [if_pos hin, h]
    show (if l.length = 50 then none else some (putC l ⟨i, now, 4⟩, 0)) = _
    rw [if_neg hl]
  exact ⟨_, e, clAt_put l ⟨i, now, 4⟩, next_ok ho e, putC_len_new (c := ⟨i, now, 4⟩) h⟩
end Go.Proofs.Ytckonbbdeohccaa
