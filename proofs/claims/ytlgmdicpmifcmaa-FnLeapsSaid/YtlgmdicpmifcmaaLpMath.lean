/- What leaps tell at times that lie near: numbers alone. -/
import Derived.Test.YtlgmdicpmifcmaaLpI2
namespace Go.Proofs.Ytlgmdicpmifcmaa
open Go.ChangeShapes Go.WideShapes Go.ChangeAt Go.RowKit
set_option linter.unusedVariables false
set_option linter.unusedSimpArgs false

def nextL (o : Option Lp) : Lp := o.getD ⟨0, 0⟩
theorem nextR_eq (o : Option Lp) : nextR o = .tuple #[.agg #[.int .i64 (nextL o).at_, .int .i64 (nextL o).add], .bool o.isSome] := by cases o <;> rfl

theorem sumL_cons (f : Lp → Int) (a : Lp) (l : List Lp) : sumL f (a :: l) = f a + sumL f l := by simp [sumL]
theorem sumL_sub (f g : Lp → Int) (l : List Lp) : sumL f l - sumL g l = sumL (fun v => f v - g v) l := by
  induction l with
  | nil => rfl
  | cons a l ih => rw [sumL_cons, sumL_cons, sumL_cons, ← ih]; omega
theorem sumL_mul (k : Int) (f : Lp → Int) (l : List Lp) : k * sumL f l = sumL (fun v => k * f v) l := by
  induction l with
  | nil => simp [sumL]
  | cons a l ih => rw [sumL_cons, sumL_cons, ← ih, Int.mul_add]
/-- Where what is not nought lies within a window of less than two days one alone counts. -/
theorem sumL_window {f : Lp → Int} {B lo : Int} (h0 : 0 ≤ B) : ∀ {l : List Lp} {p : Int}, okFromL p l = true → (∀ v ∈ l, -B ≤ f v ∧ f v ≤ B) → (∀ v ∈ l, f v ≠ 0 → lo ≤ v.at_ ∧ v.at_ < lo + 172800) → -B ≤ sumL f l ∧ sumL f l ≤ B
  | [], _, _, _, _ => by simp [sumL]; omega
  | a :: l, p, h, hB, hw => by
    simp only [okFromL, Bool.and_eq_true, decide_eq_true_eq] at h
    obtain ⟨⟨h1, h2⟩, h3⟩ := h
    rw [sumL_cons]
    by_cases ha : f a = 0
    · rw [ha, Int.zero_add]
      exact sumL_window h0 h3 (fun v hv => hB v (by simp [hv])) (fun v hv => hw v (by simp [hv]))
    · have hz : sumL f l = 0 := sum_zero (fun v hv => by
        obtain ⟨i, hi, rfl⟩ := List.mem_iff_getElem.1 hv
        have h4 := (okFromL_rises h3 i _ (List.getElem?_eq_getElem hi)).2.1
        have h5 := hw a (by simp) ha
        by_cases hn : f l[i] = 0
        · exact hn
        · have := hw l[i] (by simp) hn
          omega)
      rw [hz, Int.add_zero]
      exact hB a (by simp)
theorem okLps_from {l : List Lp} (h : okLps l = true) : okFromL (-86400) l = true := by
  simp only [okLps, Bool.and_eq_true] at h
  exact h.1

theorem smear_far {l : List Lp} (h : okLps l = true) {t : Int} (hf : ∀ v ∈ l, t - v.at_ ≤ -43200 ∨ 43200 ≤ t - v.at_) : sumL (smearV t) l = 1000000 * sumL (cntV t) l := by
  rw [sumL_mul]
  refine sum_same (fun v hv => ?_)
  rcases hf v hv with h1 | h1
  · have hc : comeV t v = 0 := by unfold comeV; omega
    unfold smearV cntV
    rw [hc, if_neg (by omega)]
    simp
  · have hc : comeV t v = 86400 := by unfold comeV; omega
    unfold smearV cntV
    rw [hc, if_pos (by omega)]
    omega
theorem smear_step {l : List Lp} (h : okLps l = true) (t : Int) : -12 ≤ sumL (smearV (t + 1)) l - sumL (smearV t) l ∧ sumL (smearV (t + 1)) l - sumL (smearV t) l ≤ 12 := by
  rw [sumL_sub]
  refine sumL_window (lo := t - 43200) (by omega) (okLps_from h) (fun v hv => ?_) (fun v hv hn => ?_)
  · have ha := (Lp.ok_iff.1 (ok_mem h v hv)).2
    have h1 : 0 ≤ comeV (t + 1) v - comeV t v ∧ comeV (t + 1) v - comeV t v ≤ 1 := by unfold comeV; omega
    have h2 := comeV_bound t v
    unfold smearV
    rcases ha with ha | ha <;> rw [ha] <;> omega
  · have h1 : comeV (t + 1) v ≠ comeV t v := fun e => hn (by unfold smearV; rw [e]; omega)
    unfold comeV at h1
    omega
theorem smear_near {l : List Lp} (h : okLps l = true) (t : Int) : -500000 ≤ sumL (smearV t) l - 1000000 * sumL (cntV t) l ∧ sumL (smearV t) l - 1000000 * sumL (cntV t) l ≤ 500000 := by
  rw [sumL_mul, sumL_sub]
  refine sumL_window (lo := t - 43200) (by omega) (okLps_from h) (fun v hv => ?_) (fun v hv hn => ?_)
  · have ha := (Lp.ok_iff.1 (ok_mem h v hv)).2
    unfold smearV cntV comeV
    rcases ha with ha | ha <;> rw [ha] <;> split <;> omega
  · by_cases h1 : t - v.at_ ≤ -43200
    · exfalso
      apply hn
      have hc : comeV t v = 0 := by unfold comeV; omega
      unfold smearV cntV
      rw [hc, if_neg (by omega)]
      simp
    · by_cases h2 : 43200 ≤ t - v.at_
      · exfalso
        apply hn
        have hc : comeV t v = 86400 := by unfold comeV; omega
        unfold smearV cntV
        rw [hc, if_pos (by omega)]
        omega
      · omega
/-- At the time of one of them. -/
theorem sum_at {l : List Lp} (h : okLps l = true) {k : Nat} {v : Lp} (hv : l[k]? = some v) {f : Lp → Int} (h1 : ∀ u, u.ok = true → u.at_ + 172800 ≤ v.at_ → f u = 1000000 * u.add) (h2 : ∀ u, v.at_ + 172800 ≤ u.at_ → f u = 0) :
    sumL f l = 1000000 * sumL (·.add) (l.take k) + f v := by
  have hk := (List.getElem?_eq_some_iff.1 hv).1
  have e : l = l.take k ++ v :: l.drop (k + 1) := by
    have hd := List.drop_eq_getElem_cons hk
    have : l[k] = v := by have := List.getElem?_eq_getElem hk; rw [hv] at this; exact (Option.some.inj this).symm
    rw [this] at hd
    rw [← hd, List.take_append_drop]
  have e1 : sumL f l = sumL f (l.take k) + (f v + sumL f (l.drop (k + 1))) := by
    conv => lhs; rw [e]
    rw [sum_append, sumL_cons]
  have e2 : sumL f (l.drop (k + 1)) = 0 := sum_zero (fun u hu => by
    obtain ⟨i, hi, rfl⟩ := List.mem_iff_getElem.1 hu
    rw [List.length_drop] at hi
    rw [List.getElem_drop]
    exact h2 _ ((okLps_at h hv).2 (k + 1 + i) _ (by omega) (List.getElem?_eq_getElem (by omega))))
  have e3 : sumL f (l.take k) = 1000000 * sumL (·.add) (l.take k) := by
    rw [sumL_mul]
    refine sum_same (fun u hu => ?_)
    obtain ⟨i, hi, rfl⟩ := List.mem_iff_getElem.1 hu
    rw [List.length_take] at hi
    rw [List.getElem_take]
    have hui := List.getElem?_eq_getElem (l := l) (i := i) (by omega)
    exact h1 _ (okLps_at h hui).1 ((okLps_at h hui).2 k v (by omega) hv)
  rw [e1, e2, e3]
  omega
theorem smear_at {l : List Lp} (h : okLps l = true) {k : Nat} {v : Lp} (hv : l[k]? = some v) : sumL (smearV v.at_) l = 1000000 * sumL (·.add) (l.take k) + 500000 * v.add := by
  rw [sum_at h hv (f := smearV v.at_)]
  · have hc : comeV v.at_ v = 43200 := by unfold comeV; omega
    have e : smearV v.at_ v = 500000 * v.add := by
      unfold smearV
      rw [hc]
      omega
    rw [e]
  · intro u _ hu
    have hc : comeV v.at_ u = 86400 := by unfold comeV; omega
    unfold smearV
    rw [hc]
    omega
  · intro u hu
    have hc : comeV v.at_ u = 0 := by unfold comeV; omega
    unfold smearV
    rw [hc]
    simp
theorem count_at {l : List Lp} (h : okLps l = true) {k : Nat} {v : Lp} (hv : l[k]? = some v) : 1000000 * sumL (cntV v.at_) l = 1000000 * sumL (·.add) (l.take k) + 1000000 * v.add := by
  rw [sumL_mul, sum_at h hv (f := fun u => 1000000 * cntV v.at_ u)]
  · simp [cntV]
  · intro u _ hu
    simp only [cntV]
    rw [if_pos (by omega)]
  · intro u hu
    simp only [cntV]
    rw [if_neg (by omega)]
    simp

/-- The first one that does not count yet. -/
theorem find_place {l : List Lp} {t : Int} {v : Lp} (hf : l.find? (fun v => decide (t < v.at_)) = some v) : ∃ k : Nat, l[k]? = some v ∧ t < v.at_ ∧ ∀ (j : Nat) (u : Lp), j < k → l[j]? = some u → u.at_ ≤ t := by
  induction l with
  | nil => simp at hf
  | cons a l ih =>
    by_cases ha : t < a.at_
    · rw [List.find?_cons_of_pos (by simpa using ha)] at hf
      obtain rfl := Option.some.inj hf
      exact ⟨0, rfl, ha, fun j u hj => by omega⟩
    · rw [List.find?_cons_of_neg (by simpa using ha)] at hf
      obtain ⟨k, h1, h2, h3⟩ := ih hf
      refine ⟨k + 1, h1, h2, fun j u hj hu => ?_⟩
      cases j with
      | zero => simp at hu; subst hu; omega
      | succ j => exact h3 j u (by omega) hu
theorem count_next {l : List Lp} (h : okLps l = true) {t : Int} {v : Lp} (hf : l.find? (fun v => decide (t < v.at_)) = some v) : t < v.at_ ∧ v.at_ ≤ 4000000000 ∧ sumL (cntV (v.at_ - 1)) l = sumL (cntV t) l ∧ sumL (cntV v.at_) l = sumL (cntV t) l + v.add := by
  obtain ⟨k, hv, ht, hj⟩ := find_place hf
  have hvo := (Lp.ok_iff.1 (okLps_at h hv).1).1
  have same : ∀ s, t ≤ s → s < v.at_ → sumL (cntV s) l = sumL (cntV t) l := fun s s0 s1 => sum_same (fun u hu => by
    obtain ⟨i, hi, rfl⟩ := List.mem_iff_getElem.1 hu
    have hui := List.getElem?_eq_getElem (l := l) (i := i) hi
    unfold cntV
    rcases Nat.lt_or_ge i k with hik | hik
    · have := hj i _ hik hui
      rw [if_pos (by omega), if_pos this]
    · have : v.at_ ≤ l[i].at_ := by
        rcases Nat.lt_or_ge k i with h2 | h2
        · have := (okLps_at h hv).2 i _ h2 hui
          omega
        · obtain rfl : i = k := by omega
          rw [hv] at hui
          rw [Option.some.inj hui]
          exact Int.le_refl _
      rw [if_neg (by omega), if_neg (by omega)])
  refine ⟨ht, hvo.2, same _ (by omega) (by omega), ?_⟩
  have h1 := count_at h hv
  have h2 : sumL (cntV t) l = sumL (·.add) (l.take k) := by
    have hP : PlaceOf (atL t) l k := ⟨by have := (List.getElem?_eq_some_iff.1 hv).1; omega, fun j u hkj hu => by
        show decide (t < u.at_) = true
        apply decide_eq_true
        rcases Nat.lt_or_ge k j with h2 | h2
        · have := (okLps_at h hv).2 j _ h2 hu
          omega
        · obtain rfl : j = k := by omega
          rw [hv] at hu
          rw [← Option.some.inj hu]
          exact ht, by
        rcases Nat.eq_zero_or_pos k with h0 | h0
        · exact .inl h0
        · obtain ⟨u, hu⟩ := get_at (l := l) (k := k - 1) (by have := (List.getElem?_eq_some_iff.1 hv).1; omega)
          refine .inr ⟨u, hu, ?_⟩
          show decide (t < u.at_) = false
          have := hj (k - 1) u (by omega) hu
          exact decide_eq_false (by omega)⟩
    exact (sum_place h hP).symm
  omega
theorem find_no {l : List Lp} {t : Int} (hf : l.find? (fun v => decide (t < v.at_)) = none) : ∀ v ∈ l, v.at_ ≤ t := fun v hv => by
  have := List.find?_eq_none.1 hf v hv
  simpa using this
theorem count_all {l : List Lp} (h : okLps l = true) : sumL (cntV 4000000000) l = sumL (·.add) l := sum_same (fun v hv => by
  have := (Lp.ok_iff.1 (ok_mem h v hv)).1
  unfold cntV
  rw [if_pos (by omega)])
theorem count_none {l : List Lp} (h : okLps l = true) : sumL (cntV 0) l = 0 := sum_zero (fun v hv => by
  have := (Lp.ok_iff.1 (ok_mem h v hv)).1
  unfold cntV
  rw [if_neg (by omega)])
theorem next_first {l : List Lp} (h : okLps l = true) : l.find? (fun v => decide (0 < v.at_)) = l.head? := by
  cases l with
  | nil => rfl
  | cons a l =>
    have := (Lp.ok_iff.1 (ok_mem h a (by simp))).1
    rw [List.find?_cons_of_pos (by simp; omega)]
    rfl
end Go.Proofs.Ytlgmdicpmifcmaa
