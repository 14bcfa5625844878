/- Where most agree, among more and fewer: numbers alone. -/
import Derived.Test.YtohcebiepekbeaaGreatDoorAgreedS
namespace Go.Proofs.YtohcebiepekbeaaGreatDoor
open Go.ChangeShapes Go.WideShapes Go.ChangeAt Go.RowKit
set_option linter.unusedVariables false
set_option linter.unusedSimpArgs false

theorem depth_take (l : List Iv) (k : Nat) (p : Int) : depthOf (l.take k) p ≤ depthOf l p := by
  unfold depthOf
  exact List.Sublist.countP_le (List.take_sublist k l)
theorem depth_drop_last {l : List Iv} {k : Nat} {v : Iv} (h : l[k]? = some v) (hk : k + 1 = l.length) (p : Int) : (depthOf l p : Int) ≤ depthOf (l.take k) p + 1 := by
  have := depthOf_next h p
  rw [hk, List.take_length] at this
  rw [this]
  split <;> omega
theorem ok_take {l : List Iv} (h : okAll l = true) (k : Nat) : okAll (l.take k) = true := by
  simp only [okAll, List.all_eq_true] at h ⊢
  exact fun v hv => h v (List.mem_of_mem_take hv)
/-- At the place of the greatest depth of a right list there are as many as anywhere. -/
theorem AgreedIs.top {l : List Iv} {lo hi M : Int} (h : AgreedIs l lo hi M) (hok : okAll l = true) (p : Int) : (depthOf l p : Int) ≤ M := by
  -- the greatest beginning not beyond p
  by_cases h0 : depthOf l p = 0
  · have := h.pos; omega
  · have key : ∀ (r : List Iv), (∀ v ∈ r, v.lo ≤ v.hi) → (∃ v ∈ r, inB v.lo p v.hi = true) → ∃ v ∈ r, inB v.lo p v.hi = true ∧ ∀ u ∈ r, inB u.lo p u.hi = true → u.lo ≤ v.lo := by
      intro r
      induction r with
      | nil => intro _ ⟨v, hv, _⟩; cases hv
      | cons a r ih =>
        intro hr ⟨v, hv, hin⟩
        by_cases hex : ∃ v ∈ r, inB v.lo p v.hi = true
        · obtain ⟨b, hb, hbin, hbm⟩ := ih (fun v hv => hr v (by simp [hv])) hex
          by_cases hab : inB a.lo p a.hi = true ∧ b.lo < a.lo
          · refine ⟨a, by simp, hab.1, fun u hu huin => ?_⟩
            rcases List.mem_cons.1 hu with rfl | hu
            · exact Int.le_refl _
            · have := hbm u hu huin; omega
          · refine ⟨b, by simp [hb], hbin, fun u hu huin => ?_⟩
            rcases List.mem_cons.1 hu with rfl | hu
            · rcases Int.lt_or_le b.lo u.lo with h | h
              · exact absurd ⟨huin, h⟩ hab
              · exact h
            · exact hbm u hu huin
        · have hva : v = a := by
            rcases List.mem_cons.1 hv with rfl | hv
            · rfl
            · exact absurd ⟨v, hv, hin⟩ hex
          subst hva
          refine ⟨v, by simp, hin, fun u hu huin => ?_⟩
          rcases List.mem_cons.1 hu with rfl | hu
          · exact Int.le_refl _
          · exact absurd ⟨u, hu, huin⟩ hex
    have hex : ∃ v ∈ l, inB v.lo p v.hi = true := by
      have := List.countP_pos_iff.1 (Nat.pos_of_ne_zero h0)
      exact this
    obtain ⟨v, hv, hin, hmax⟩ := key l (fun v hv => ok_of hok hv) hex
    have hle : depthOf l p ≤ depthOf l v.lo := by
      unfold depthOf
      refine List.countP_mono_left fun u hu huin => ?_
      have h1 := hmax u hu huin
      obtain ⟨a, b⟩ := inB_iff.1 huin
      obtain ⟨c, d⟩ := inB_iff.1 hin
      exact inB_yes h1 (by omega)
    have := (h.most v hv).1
    omega
theorem Ivs.take {B : Nat} {w : World} {x : Option Addr} {l : List Iv} (h : Ivs B w x l) (k : Nat) : Ivs B w x (l.take k) := by
  rcases h with rfl | ⟨b, off, e, hb, hc⟩
  · exact .inl (by simp)
  · refine .inr ⟨b, off, e, hb, fun i v j z hi hj => hc i v j z ?_ hj⟩
    rw [List.getElem?_take] at hi
    split at hi
    · exact hi
    · cases hi

/-- One interval less. -/
theorem agree_less {l : List Iv} {lo hi M lo' hi' m : Int} {k : Nat} (h : Agr l lo hi M) (hM : M ≠ 0) (hk : k + 1 = l.length) (h' : Agr (l.take k) lo' hi' m) : m ≤ M ∧ M ≤ m + 1 := by
  rcases h with ⟨ho, hne, hA⟩ | ⟨_, _, _, h0⟩
  · obtain ⟨hok, hlen⟩ := okIvs_parts ho
    obtain ⟨v, hv⟩ := get_at (l := l) (k := k) (by omega)
    have hok' := ok_take hok k
    have hd := hA.depth
    have hdl := depth_drop_last hv hk lo
    rcases h' with ⟨ho', hne', hA'⟩ | ⟨hor, _, _, h0'⟩
    · have h1 := hA.top hok lo'
      have h2 := hA'.top hok' lo
      have h3 := depth_take l k lo'
      have := hA'.depth
      omega
    · rcases hor with h | h
      · exfalso
        have : okIvs (l.take k) = true := by
          unfold okIvs
          rw [hok', List.length_take]
          simp
          omega
        rw [this] at h
        cases h
      · rw [h] at hdl
        have : depthOf [] lo = 0 := rfl
        have := hA.pos
        omega
  · exact absurd h0 hM

theorem last_from {l : List Iv} (hok : okAll l = true) {p : Int} (h0 : 1 ≤ depthOf l p) : ∃ v ∈ l, v.lo ≤ p ∧ depthOf l p ≤ depthOf l v.lo := by
  have key : ∀ (r : List Iv), (∃ v ∈ r, inB v.lo p v.hi = true) → ∃ v ∈ r, inB v.lo p v.hi = true ∧ ∀ u ∈ r, inB u.lo p u.hi = true → u.lo ≤ v.lo := by
    intro r
    induction r with
    | nil => intro ⟨v, hv, _⟩; cases hv
    | cons a r ih =>
      intro ⟨v, hv, hin⟩
      by_cases hex : ∃ v ∈ r, inB v.lo p v.hi = true
      · obtain ⟨b, hb, hbin, hbm⟩ := ih hex
        by_cases hab : inB a.lo p a.hi = true ∧ b.lo < a.lo
        · refine ⟨a, by simp, hab.1, fun u hu huin => ?_⟩
          rcases List.mem_cons.1 hu with rfl | hu
          · exact Int.le_refl _
          · have := hbm u hu huin; omega
        · refine ⟨b, by simp [hb], hbin, fun u hu huin => ?_⟩
          rcases List.mem_cons.1 hu with rfl | hu
          · rcases Int.lt_or_le b.lo u.lo with h | h
            · exact absurd ⟨huin, h⟩ hab
            · exact h
          · exact hbm u hu huin
      · have hva : v = a := by
          rcases List.mem_cons.1 hv with rfl | hv
          · rfl
          · exact absurd ⟨v, hv, hin⟩ hex
        subst hva
        refine ⟨v, by simp, hin, fun u hu huin => ?_⟩
        rcases List.mem_cons.1 hu with rfl | hu
        · exact Int.le_refl _
        · exact absurd ⟨u, hu, huin⟩ hex
  obtain ⟨v, hv, hin, hmax⟩ := key l (List.countP_pos_iff.1 h0)
  obtain ⟨c, d⟩ := inB_iff.1 hin
  refine ⟨v, hv, c, ?_⟩
  unfold depthOf
  refine List.countP_mono_left fun u hu huin => ?_
  have h1 := hmax u hu huin
  obtain ⟨a, b⟩ := inB_iff.1 huin
  exact inB_yes h1 (by omega)

theorem AgreedIs.ahead {l : List Iv} {lo hi M : Int} (h : AgreedIs l lo hi M) (hok : okAll l = true) {p : Int} (hp : (depthOf l p : Int) = M) : lo ≤ p := by
  obtain ⟨v, hv, h1, h2⟩ := last_from hok (p := p) (by have := h.pos; omega)
  have := h.most v hv
  have := this.2 (by omega)
  omega
theorem AgreedIs.along {l : List Iv} {lo hi M : Int} (h : AgreedIs l lo hi M) (hok : okAll l = true) {p : Int} (h1 : lo ≤ p) (h2 : p ≤ hi) : (depthOf l p : Int) = M := by
  have ht := h.top hok p
  have hd := h.depth
  have : depthOf l lo ≤ depthOf l p := by
    unfold depthOf
    refine List.countP_mono_left fun u hu huin => ?_
    have := h.first u hu huin
    obtain ⟨a, b⟩ := inB_iff.1 huin
    exact inB_yes (by omega) (by omega)
  omega
theorem AgreedIs.ok {l : List Iv} {lo hi M : Int} (h : AgreedIs l lo hi M) (hok : okAll l = true) : (⟨lo, hi⟩ : Iv).ok = true := by
  obtain ⟨v, hv, e⟩ := h.from_
  obtain ⟨u, hu, hin, e'⟩ := h.end_
  obtain ⟨a, _, _⟩ := Iv.ok_iff.1 (List.all_eq_true.1 hok v hv)
  obtain ⟨_, _, b⟩ := Iv.ok_iff.1 (List.all_eq_true.1 hok u hu)
  obtain ⟨c, d⟩ := inB_iff.1 hin
  exact Iv.ok_yes (by rw [← e]; exact a) (by simp only; omega) (by rw [← e']; exact b)

end Go.Proofs.YtohcebiepekbeaaGreatDoor
