/- What is put together lies between the least and the greatest offset; of one peer it is its own; moved, it is moved: the numbers. -/
import Derived.Test.YtohcebiepekbeaaGreatDoorSurvS
import Derived.Test.YtohcebiepekbeaaGreatDoorCombLaw
namespace Go.Proofs.YtohcebiepekbeaaGreatDoor
open Go.ChangeShapes Go.WideShapes Go.ChangeAt Go.RowKit
set_option linter.unusedVariables false
set_option linter.unusedSimpArgs false

theorem sumW_le {hi : Int} : ∀ l : List Pr, AllSm l → (∀ v ∈ l, v.s.off ≤ hi) → sumW l ≤ hi * cntW l
  | [], _, _ => by simp [sumW, cntW]
  | p :: l, hA, h => by
    have ih := sumW_le l (fun v hv => hA v (List.mem_cons_of_mem _ hv)) (fun v hv => h v (List.mem_cons_of_mem _ hv))
    have hp := (weight_bounds (hA p (List.mem_cons_self ..))).1
    have e1 : sumW (p :: l) = weightV p.s * p.s.off + sumW l := by simp [sumW]
    have e2 : cntW (p :: l) = weightV p.s + cntW l := by simp [cntW]
    have h1 : weightV p.s * p.s.off ≤ weightV p.s * hi := Int.mul_le_mul_of_nonneg_left (h p (List.mem_cons_self ..)) (by omega)
    rw [e1, e2, Int.mul_add, Int.mul_comm hi (weightV p.s)]
    omega
theorem sumW_ge {lo : Int} : ∀ l : List Pr, AllSm l → (∀ v ∈ l, lo ≤ v.s.off) → lo * cntW l ≤ sumW l
  | [], _, _ => by simp [sumW, cntW]
  | p :: l, hA, h => by
    have ih := sumW_ge l (fun v hv => hA v (List.mem_cons_of_mem _ hv)) (fun v hv => h v (List.mem_cons_of_mem _ hv))
    have hp := (weight_bounds (hA p (List.mem_cons_self ..))).1
    have e1 : sumW (p :: l) = weightV p.s * p.s.off + sumW l := by simp [sumW]
    have e2 : cntW (p :: l) = weightV p.s + cntW l := by simp [cntW]
    have h1 : weightV p.s * lo ≤ weightV p.s * p.s.off := Int.mul_le_mul_of_nonneg_left (h p (List.mem_cons_self ..)) (by omega)
    rw [e1, e2, Int.mul_add, Int.mul_comm lo (weightV p.s)]
    omega
theorem combV_in {l : List Pr} (hA : AllSm l) (hp : 0 < l.length) {lo hi : Int} (h : ∀ v ∈ l, lo ≤ v.s.off ∧ v.s.off ≤ hi) : lo ≤ combV l ∧ combV l ≤ hi := by
  have hc := (cntW_in l hA).1
  have h1 := sumW_ge l hA (fun v hv => (h v hv).1)
  have h2 := sumW_le l hA (fun v hv => (h v hv).2)
  unfold combV
  refine ⟨Int.le_ediv_of_mul_le (by omega) h1, ?_⟩
  exact Int.ediv_le_of_le_mul (by omega) h2
theorem combV_one (v : Pr) (h : v.s.ok = true) : combV [v] = v.s.off := by
  have hp := (weight_bounds h).1
  have e1 : sumW [v] = weightV v.s * v.s.off := by simp [sumW]
  have e2 : cntW [v] = weightV v.s := by simp [cntW]
  unfold combV
  rw [e1, e2, Int.mul_ediv_cancel_left _ (by omega)]
theorem okFrom_take : ∀ (l : List Pr) (last : Int) (k : Nat), okFrom last l = true → okFrom last (l.take k) = true
  | [], _, k, h => by simpa using h
  | p :: l, last, 0, _ => rfl
  | p :: l, last, k + 1, h => by
    simp only [okFrom, Bool.and_eq_true, List.take_succ_cons] at h ⊢
    exact ⟨h.1, okFrom_take l _ k h.2⟩
theorem okPrs_take {l : List Pr} (h : okPrs l = true) (k : Nat) : okPrs (l.take k) = true := by
  simp only [okPrs, Bool.and_eq_true, decide_eq_true_eq] at h ⊢
  exact ⟨okFrom_take _ _ _ h.1, by rw [List.length_take]; omega⟩
theorem combOk_parts {l : List Pr} (h : combOk l = true) : okPrs l = true ∧ 0 < l.length := by
  simp only [combOk, Bool.and_eq_true, Bool.not_eq_true', beq_eq_false_iff_ne] at h
  exact ⟨h.1, by omega⟩
theorem combA_yes {l : List Pr} (h : combOk l = true) : combA l = combV l := by unfold combA; rw [h]; rfl
theorem comb_first {l : List Pr} (h : combOk l = true) {v : Pr} (hv : l[0]? = some v) : combA (l.take 1) = v.s.off ∧ combOk (l.take 1) = true := by
  obtain ⟨h1, h2⟩ := combOk_parts h
  have e : l.take 1 = [v] := by
    have := takeP hv
    simpa using this
  have hok := okPrs_take h1 1
  rw [e] at hok ⊢
  have hc : combOk [v] = true := by unfold combOk; rw [hok]; rfl
  have hvv := (okPrs_all h1).1.at_ hv
  exact ⟨by rw [combA_yes hc, combV_one v hvv], hc⟩

/-- Moved by so much. -/
def Pr.move (k : Int) (v : Pr) : Pr := ⟨v.id, v.str, ⟨v.s.off + k, v.s.delay, v.s.disp, v.s.at_⟩⟩
theorem sumW_move (k : Int) : ∀ l : List Pr, sumW (l.map (Pr.move k)) = sumW l + k * cntW l
  | [] => by simp [sumW, cntW]
  | p :: l => by
    have ih := sumW_move k l
    have e1 : sumW ((p :: l).map (Pr.move k)) = weightV (Pr.move k p).s * (Pr.move k p).s.off + sumW (l.map (Pr.move k)) := by simp [sumW]
    have e2 : sumW (p :: l) = weightV p.s * p.s.off + sumW l := by simp [sumW]
    have e3 : cntW (p :: l) = weightV p.s + cntW l := by simp [cntW]
    have e4 : weightV (Pr.move k p).s = weightV p.s := rfl
    have e5 : (Pr.move k p).s.off = p.s.off + k := rfl
    rw [e1, e2, e3, e4, e5, ih, Int.mul_add, Int.mul_add, Int.mul_comm k (weightV p.s)]
    omega
theorem cntW_move (k : Int) : ∀ l : List Pr, cntW (l.map (Pr.move k)) = cntW l
  | [] => rfl
  | p :: l => by
    have ih := cntW_move k l
    have e1 : cntW ((p :: l).map (Pr.move k)) = weightV p.s + cntW (l.map (Pr.move k)) := by simp [cntW, Pr.move, weightV]
    have e3 : cntW (p :: l) = weightV p.s + cntW l := by simp [cntW]
    rw [e1, e3, ih]
theorem combV_move {l : List Pr} (hA : AllSm l) (hp : 0 < l.length) (k : Int) : combV (l.map (Pr.move k)) = combV l + k := by
  have hc := (cntW_in l hA).1
  unfold combV
  rw [sumW_move, cntW_move, Int.add_mul_ediv_right _ _ (by omega)]
theorem combA_in {l : List Pr} (h : combOk l = true) : -1000000000000 ≤ combA l ∧ combA l ≤ 1000000000000 := by
  obtain ⟨h1, h2⟩ := combOk_parts h
  rw [combA_yes h]
  have hA := (okPrs_all h1).1
  exact combV_in hA h2 (fun v hv => offs_in (hA v hv))

end Go.Proofs.YtohcebiepekbeaaGreatDoor
