/- The order of peers' ranks: what is sorted by it, without two of one id, is one list alone. -/
import Derived.Test.YtfcmcelhndppnaaDoorRankA
namespace Go.Proofs.YtfcmcelhndppnaaDoor
open Go.ChangeShapes Go.WideShapes Go.ChangeAt Go.RowKit
set_option linter.unusedVariables false
set_option linter.unusedSimpArgs false

/-- How far a peer reaches. -/
def reachR (a : Pr) : Int := (a.s.delay + 1) / 2 + a.s.disp
theorem aheadV_iff (a b : Pr) : aheadV a b = true ↔ a.str < b.str ∨ (a.str = b.str ∧ (reachR a < reachR b ∨ (reachR a = reachR b ∧ a.id < b.id))) := by
  unfold aheadV reachR
  by_cases h : a.str = b.str
  · rw [if_pos h]
    by_cases h' : (a.s.delay + 1) / 2 + a.s.disp = (b.s.delay + 1) / 2 + b.s.disp
    · rw [if_pos h']; simp [h, h']
    · rw [if_neg h']; simp [h, h']
  · rw [if_neg h]; simp [h]
theorem aheadV_asym {a b : Pr} (h : aheadV a b = true) : aheadV b a = false := by
  cases h' : aheadV b a with
  | false => rfl
  | true => rw [aheadV_iff] at h h'; omega
theorem aheadV_tri {a b : Pr} (h : aheadV a b = false) (hne : a.id ≠ b.id) : aheadV b a = true := by
  have h1 : ¬ (aheadV a b = true) := by rw [h]; simp
  rw [aheadV_iff] at h1 ⊢
  omega
theorem aheadV_trans {a b c : Pr} (h : aheadV a b = true) (h' : aheadV b c = true) : aheadV a c = true := by
  rw [aheadV_iff] at h h' ⊢
  omega

/-- Sorted: each one ahead of those behind it. -/
def RankS (l : List Pr) : Prop := l.Pairwise fun a b => aheadV a b = true
/-- No two of one id. -/
def IdsApart (l : List Pr) : Prop := l.Pairwise fun a b => a.id ≠ b.id
theorem IdsApart.perm {l m : List Pr} (h : IdsApart l) (hp : l.Perm m) : IdsApart m := hp.pairwise h fun {a b} hab => hab.symm
theorem rank_one {l m : List Pr} (hl : RankS l) (hm : RankS m) (hp : l.Perm m) : l = m :=
  hp.eq_of_pairwise (fun a b _ _ h h' => by rw [aheadV_asym h] at h'; cases h') hl hm

theorem rank_put {E : List Pr} (h : RankS E) (e : Pr) (hid : ∀ x ∈ E, e.id ≠ x.id) (k : Nat) (hk : k ≤ E.length) (h1 : ∀ j x, k ≤ j → E[j]? = some x → aheadV e x = true) (h0 : k = 0 ∨ ∃ x, E[k - 1]? = some x ∧ aheadV e x = false) :
    RankS (E.take k ++ e :: E.drop k) := by
  unfold RankS at h ⊢
  have h := List.pairwise_iff_getElem.1 h
  rw [List.pairwise_append, List.pairwise_cons]
  refine ⟨?_, ⟨?_, ?_⟩, ?_⟩
  · exact List.Pairwise.sublist (List.take_sublist k E) (List.pairwise_iff_getElem.2 h)
  · intro b hb
    obtain ⟨j, hj, rfl⟩ := List.mem_iff_getElem.1 hb
    have hl : k + j < E.length := by rw [List.length_drop] at hj; omega
    rw [List.getElem_drop]
    exact h1 (k + j) _ (by omega) (List.getElem?_eq_getElem hl)
  · exact List.Pairwise.sublist (List.drop_sublist k E) (List.pairwise_iff_getElem.2 h)
  · intro a ha b hb
    obtain ⟨i, hi, rfl⟩ := List.mem_iff_getElem.1 ha
    have hil : i < E.length := by rw [List.length_take] at hi; omega
    have hik : i < k := by rw [List.length_take] at hi; omega
    rw [List.getElem_take]
    have hae : aheadV E[i] e = true := by
      rcases h0 with rfl | ⟨x, hx, hxa⟩
      · omega
      · obtain ⟨hl, rfl⟩ := List.getElem?_eq_some_iff.1 hx
        have hxe := aheadV_tri hxa (hid _ (List.getElem_mem hl))
        rcases Nat.lt_or_ge i (k - 1) with hlt | hge
        · exact aheadV_trans (h i (k - 1) hil hl hlt) hxe
        · obtain rfl : i = k - 1 := by omega
          exact hxe
    rcases List.mem_cons.1 hb with rfl | hb
    · exact hae
    · obtain ⟨j, hj, rfl⟩ := List.mem_iff_getElem.1 hb
      rw [List.length_drop] at hj
      rw [List.getElem_drop]
      exact h i (k + j) hil (by omega) (by omega)
/-- The reference's place: those ahead of it are ahead of it, the first behind is not. -/
theorem rank_put' {E : List Pr} (h : RankS E) (e : Pr) (hid : ∀ x ∈ E, e.id ≠ x.id) (k : Nat) (hk : k ≤ E.length) (h1 : ∀ j x, j < k → E[j]? = some x → aheadV x e = true) (h0 : k = E.length ∨ ∃ x, E[k]? = some x ∧ aheadV x e = false) :
    RankS (E.take k ++ e :: E.drop k) := by
  refine rank_put h e hid k hk (fun j x hj hx => ?_) ?_
  · rcases h0 with rfl | ⟨y, hy, hya⟩
    · have := (List.getElem?_eq_some_iff.1 hx).1; omega
    · obtain ⟨hl, rfl⟩ := List.getElem?_eq_some_iff.1 hy
      have hey := aheadV_tri hya (fun e' => hid _ (List.getElem_mem hl) e'.symm)
      obtain ⟨hl', rfl⟩ := List.getElem?_eq_some_iff.1 hx
      rcases Nat.lt_or_ge k j with hlt | hge
      · exact aheadV_trans hey (List.pairwise_iff_getElem.1 h k j hl hl' hlt)
      · obtain rfl : j = k := by omega
        exact hey
  · rcases Nat.eq_zero_or_pos k with rfl | hk0
    · exact .inl rfl
    · right
      have hl : k - 1 < E.length := by omega
      exact ⟨E[k - 1], List.getElem?_eq_getElem hl, aheadV_asym (h1 (k - 1) _ (by omega) (List.getElem?_eq_getElem hl))⟩
theorem perm_putP {α : Type} (E : List α) (e : α) (k : Nat) : (E.take k ++ e :: E.drop k).Perm (e :: E) := by
  refine List.perm_middle.trans ?_
  rw [List.take_append_drop]

/-- The ranked list, as a value: by putting one behind the other. -/
def rkPut (e : Pr) : List Pr → List Pr
  | [] => [e]
  | a :: l => if aheadV a e then a :: rkPut e l else e :: a :: l
def rkV (l : List Pr) : List Pr := l.foldl (fun r e => rkPut e r) []
theorem rkPut_perm (e : Pr) (l : List Pr) : (rkPut e l).Perm (e :: l) := by
  induction l with
  | nil => exact List.Perm.refl _
  | cons a l ih =>
    unfold rkPut
    split
    · exact (ih.cons a).trans (List.Perm.swap _ _ _)
    · exact List.Perm.refl _
theorem rkPut_sorted (e : Pr) (l : List Pr) (h : RankS l) (hid : ∀ x ∈ l, e.id ≠ x.id) : RankS (rkPut e l) := by
  induction l with
  | nil => exact List.pairwise_singleton _ _
  | cons a l ih =>
    have h' := h
    unfold RankS at h'
    rw [List.pairwise_cons] at h'
    unfold rkPut
    split
    · rename_i hae
      have hi := ih h'.2 (fun x hx => hid x (List.mem_cons_of_mem _ hx))
      unfold RankS at hi ⊢
      rw [List.pairwise_cons]
      refine ⟨fun b hb => ?_, hi⟩
      rcases List.mem_cons.1 ((rkPut_perm e l).mem_iff.1 hb) with rfl | hb
      · exact hae
      · exact h'.1 b hb
    · rename_i hae
      have hea := aheadV_tri (a := a) (b := e) (by simpa using hae) (fun e' => hid a (by simp) e'.symm)
      unfold RankS
      rw [List.pairwise_cons]
      refine ⟨fun b hb => ?_, h⟩
      rcases List.mem_cons.1 hb with rfl | hb
      · exact hea
      · exact aheadV_trans hea (h'.1 b hb)
theorem rkV_snoc (l : List Pr) (e : Pr) : rkV (l ++ [e]) = rkPut e (rkV l) := by simp [rkV]
theorem rkV_perm (l : List Pr) : (rkV l).Perm l := by
  suffices h : ∀ r m : List Pr, (m.foldl (fun r e => rkPut e r) r).Perm (r ++ m) by simpa [rkV] using h [] l
  intro r m
  induction m generalizing r with
  | nil => simp
  | cons a m ih =>
    rw [List.foldl_cons]
    refine (ih _).trans ?_
    refine ((rkPut_perm a r).append_right m).trans ?_
    exact List.perm_middle.symm
theorem rkV_sorted (l : List Pr) (h : IdsApart l) : RankS (rkV l) := by
  suffices H : ∀ (m r : List Pr), RankS r → IdsApart (r ++ m) → RankS (m.foldl (fun r e => rkPut e r) r) by
    exact H l [] List.Pairwise.nil (by simpa using h)
  intro m
  induction m with
  | nil => intro r hr _; exact hr
  | cons a m ih =>
    intro r hr hi
    rw [List.foldl_cons]
    have hi0 := hi
    unfold IdsApart at hi
    rw [List.pairwise_append] at hi
    refine ih _ (rkPut_sorted a r hr fun x hx => (hi.2.2 x hx a (by simp)).symm) ?_
    refine hi0.perm ?_
    refine (List.perm_middle (l₁ := r) (l₂ := m) (a := a)).trans ?_
    exact ((rkPut_perm a r).append_right m).symm
/-- What is sorted and has just these is the ranked list. -/
theorem rank_is {l r : List Pr} (h : IdsApart l) (hr : RankS r) (hp : r.Perm l) : r = rkV l := rank_one hr (rkV_sorted l h) (hp.trans (rkV_perm l).symm)
theorem rkV_length (l : List Pr) : (rkV l).length = l.length := (rkV_perm l).length_eq
theorem rkV_mem {l : List Pr} {v : Pr} : v ∈ rkV l ↔ v ∈ l := (rkV_perm l).mem_iff
theorem okFrom_ids : ∀ (l : List Pr) (last : Int), okFrom last l = true → IdsApart l ∧ ∀ v ∈ l, last < v.id
  | [], _, _ => ⟨List.Pairwise.nil, by simp⟩
  | p :: l, last, h => by
    simp only [okFrom, Bool.and_eq_true, decide_eq_true_eq] at h
    obtain ⟨⟨_, hlt⟩, hr⟩ := h
    obtain ⟨h1, h2⟩ := okFrom_ids l _ hr
    refine ⟨List.pairwise_cons.2 ⟨fun b hb => by have := h2 b hb; omega, h1⟩, fun v hv => ?_⟩
    rcases List.mem_cons.1 hv with rfl | hv
    · exact hlt
    · have := h2 v hv; omega
theorem okPrs_ids {l : List Pr} (h : okPrs l = true) : IdsApart l := by
  simp only [okPrs, Bool.and_eq_true, decide_eq_true_eq] at h
  exact (okFrom_ids _ _ h.1).1
theorem rkV_all {l : List Pr} (h : AllSm l) : AllSm (rkV l) := fun v hv => h v (rkV_mem.1 hv)
end Go.Proofs.YtfcmcelhndppnaaDoor
