/- What is put together of peers: the numbers. -/
import Derived.Test.YtfcmcelhndppnaaDoorPeersOkS
namespace Go.Proofs.YtfcmcelhndppnaaDoor
open Go.ChangeShapes Go.WideShapes Go.ChangeAt Go.RowKit
set_option linter.unusedVariables false
set_option linter.unusedSimpArgs false

/-- How often a sample counts. -/
def weightV (s : Sm) : Int := max 1 (1000 - ((s.delay + 1) / 2 + s.disp) / 1000)
theorem weight_in {s : Sm} (h : s.ok = true) : ∃ r q t : Int, (s.delay + 1) / 2 + s.disp = r ∧ 0 ≤ r ∧ r ≤ 1000000000000 ∧ Int.tdiv r 1000 = q ∧ 0 ≤ q ∧ q ≤ 1000000000 ∧ weightV s = t ∧ 1 ≤ t ∧ t ≤ 1000 ∧ (1000 - q ≤ 1 → t = 1) ∧ (1 < 1000 - q → t = 1000 - q) := by
  obtain ⟨⟨a0, a1⟩, ⟨b0, b1⟩, ⟨c0, c1⟩, ⟨d0, d1⟩⟩ := Sm.ok_iff.1 h
  refine ⟨_, _, _, rfl, by omega, by omega, tdiv_pos (by omega) 1000, by omega, by omega, rfl, ?_, ?_, ?_, ?_⟩ <;> unfold weightV <;> omega
theorem weight_bounds {s : Sm} (h : s.ok = true) : 1 ≤ weightV s ∧ weightV s ≤ 1000 := by
  obtain ⟨r, q, t, _, _, _, _, _, _, e, h1, h2, _⟩ := weight_in h
  rw [e]
  exact ⟨h1, h2⟩
def sumW (l : List Pr) : Int := (l.map fun v => weightV v.s * v.s.off).sum
def cntW (l : List Pr) : Int := (l.map fun v => weightV v.s).sum
def combV (l : List Pr) : Int := sumW l / cntW l
theorem takeC {α : Type} {l : List α} {k : Nat} {v : α} (h : l[k]? = some v) : l.take (k + 1) = l.take k ++ [v] := by
  rw [List.take_add_one, h]; rfl
theorem sumW_next {l : List Pr} {k : Nat} {v : Pr} (h : l[k]? = some v) : sumW (l.take (k + 1)) = sumW (l.take k) + weightV v.s * v.s.off := by
  rw [takeC h]
  simp [sumW]
theorem cntW_next {l : List Pr} {k : Nat} {v : Pr} (h : l[k]? = some v) : cntW (l.take (k + 1)) = cntW (l.take k) + weightV v.s := by
  rw [takeC h]
  simp [cntW]
def AllSm (l : List Pr) : Prop := ∀ v ∈ l, v.s.ok = true
theorem AllSm.take {l : List Pr} (h : AllSm l) (k : Nat) : AllSm (l.take k) := fun v hv => h v (List.mem_of_mem_take hv)
theorem AllSm.at_ {l : List Pr} (h : AllSm l) {k : Nat} {v : Pr} (hv : l[k]? = some v) : v.s.ok = true := h v (List.mem_of_getElem? hv)
theorem okFrom_all : ∀ (l : List Pr) (last : Int), okFrom last l = true → AllSm l
  | [], _, _ => by simp [AllSm]
  | p :: l, last, h => by
    simp only [okFrom, Pr.ok, Bool.and_eq_true] at h
    obtain ⟨⟨⟨_, hs⟩, _⟩, hr⟩ := h
    intro v hv
    rcases List.mem_cons.1 hv with rfl | hv
    · exact hs
    · exact okFrom_all l _ hr v hv
theorem okPrs_all {l : List Pr} (h : okPrs l = true) : AllSm l ∧ l.length ≤ 20 := by
  simp only [okPrs, Bool.and_eq_true, decide_eq_true_eq] at h
  exact ⟨okFrom_all _ _ h.1, h.2⟩
theorem part_in {s : Sm} (h : s.ok = true) : -1000000000000000 ≤ weightV s * s.off ∧ weightV s * s.off ≤ 1000000000000000 := by
  obtain ⟨⟨a0, a1⟩, _⟩ := Sm.ok_iff.1 h
  obtain ⟨w0, w1⟩ := weight_bounds h
  have e0 : weightV s * s.off ≤ weightV s * 1000000000000 := Int.mul_le_mul_of_nonneg_left a1 (by omega)
  have e1 : weightV s * (-1000000000000) ≤ weightV s * s.off := Int.mul_le_mul_of_nonneg_left a0 (by omega)
  omega
theorem sumW_in : ∀ l : List Pr, AllSm l → -1000000000000000 * (l.length : Int) ≤ sumW l ∧ sumW l ≤ 1000000000000000 * (l.length : Int)
  | [], _ => by simp [sumW]
  | p :: l, h => by
    have ih := sumW_in l (fun v hv => h v (List.mem_cons_of_mem _ hv))
    have hp := part_in (h p (List.mem_cons_self ..))
    have e : sumW (p :: l) = weightV p.s * p.s.off + sumW l := by simp [sumW]
    rw [e]
    simp only [List.length_cons]
    omega
theorem cntW_in : ∀ l : List Pr, AllSm l → (l.length : Int) ≤ cntW l ∧ cntW l ≤ 1000 * (l.length : Int)
  | [], _ => by simp [cntW]
  | p :: l, h => by
    have ih := cntW_in l (fun v hv => h v (List.mem_cons_of_mem _ hv))
    have hp := weight_bounds (h p (List.mem_cons_self ..))
    have e : cntW (p :: l) = weightV p.s + cntW l := by simp [cntW]
    rw [e]
    simp only [List.length_cons]
    omega

/-- Go's quotient and rest by a number above nought, and the quotient down. -/
theorem floor_cases (a b : Int) (hb : 0 < b) : ∃ q m : Int, Int.tdiv a b = q ∧ Int.tmod a b = m ∧ ((0 ≤ a ∧ 0 ≤ q ∧ q ≤ a) ∨ (a < 0 ∧ a ≤ q ∧ q ≤ 0)) ∧ (-b < m ∧ m < b) ∧
    ((m = 0 ∧ a / b = q) ∨ (m < 0 ∧ a < 0 ∧ a / b = q - 1) ∨ (0 < m ∧ 0 ≤ a ∧ a / b = q)) := by
  refine ⟨_, _, rfl, rfl, ?_⟩
  by_cases ha : 0 ≤ a
  · have e1 : Int.tdiv a b = a / b := Int.tdiv_eq_ediv_of_nonneg ha
    have e2 : Int.tmod a b = a % b := Int.tmod_eq_emod_of_nonneg ha
    rw [e1, e2]
    have h0 := Int.emod_nonneg a (show b ≠ 0 by omega)
    have h1 := Int.emod_lt_of_pos a hb
    have h2 := Int.ediv_nonneg ha (Int.le_of_lt hb)
    have h3 := Int.ediv_le_self b ha
    refine ⟨.inl ⟨ha, h2, h3⟩, ⟨by omega, h1⟩, ?_⟩
    rcases Int.lt_or_eq_of_le h0 with h | h
    · exact .inr (.inr ⟨h, ha, rfl⟩)
    · exact .inl ⟨h.symm, rfl⟩
  · have hn : 0 ≤ -a := by omega
    have e1 : Int.tdiv a b = -((-a) / b) := by
      have := Int.neg_tdiv (-a) b
      rw [Int.neg_neg] at this
      rw [this, Int.tdiv_eq_ediv_of_nonneg hn]
    have e2 : Int.tmod a b = -((-a) % b) := by
      have := Int.neg_tmod (-a) b
      rw [Int.neg_neg] at this
      rw [this, Int.tmod_eq_emod_of_nonneg hn]
    have h0 := Int.emod_nonneg (-a) (show b ≠ 0 by omega)
    have h1 := Int.emod_lt_of_pos (-a) hb
    have h2 := Int.ediv_nonneg hn (Int.le_of_lt hb)
    have h3 := Int.ediv_le_self b hn
    have h4 := Int.emod_add_mul_ediv (-a) b
    rw [e1, e2]
    generalize (-a) % b = r at *
    generalize (-a) / b = q at *
    refine ⟨.inr ⟨by omega, by omega, by omega⟩, ⟨by omega, by omega⟩, ?_⟩
    rcases Int.lt_or_eq_of_le h0 with h | h
    · refine .inr (.inl ⟨by omega, by omega, ?_⟩)
      refine ((Int.ediv_emod_unique (r := b - r) hb).2 ⟨?_, by omega, by omega⟩).1
      rw [Int.mul_sub, Int.mul_neg]
      omega
    · refine .inl ⟨by omega, ?_⟩
      refine ((Int.ediv_emod_unique (r := 0) hb).2 ⟨?_, by omega, by omega⟩).1
      rw [Int.mul_neg]
      omega
end Go.Proofs.YtfcmcelhndppnaaDoor
