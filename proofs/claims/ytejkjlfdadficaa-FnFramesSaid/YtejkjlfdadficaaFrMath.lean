/- What is read as frames, and frames one behind the other: numbers and bytes alone. -/
import Derived.Test.YtejkjlfdadficaaTakeLaw
namespace Go.Proofs.Ytejkjlfdadficaa
open Go.ChangeShapes Go.WideShapes Go.ChangeAt Go.RowKit
set_option linter.unusedVariables false
set_option linter.unusedSimpArgs false

/-- Two texts have the same first bytes, so many. -/
def Agree (s u : ByteArray) (n : Nat) : Prop := n ≤ s.size ∧ n ≤ u.size ∧ s.extract 0 n = u.extract 0 n
theorem sub_extract (s : ByteArray) (n a b : Nat) (h : b ≤ n) : (s.extract 0 n).extract a b = s.extract a b := by
  rw [ByteArray.extract_extract, Nat.zero_add, Nat.zero_add, Nat.min_eq_left h]
theorem Agree.ext {s u : ByteArray} {n : Nat} (h : Agree s u n) (a b : Nat) (hb : b ≤ n) : s.extract a b = u.extract a b := by
  rw [← sub_extract s n a b hb, h.2.2, sub_extract u n a b hb]
theorem Agree.frame {s u : ByteArray} {n p : Nat} (h : Agree s u n) (ho : fOk (restF s p) = true) (hp : p + (8 + cntF (restF s p)) ≤ n) : cntF (restF u p) = cntF (restF s p) ∧ datF (restF u p) = datF (restF s p) ∧ fOk (restF u p) = true := by
  have h1 := h.1
  have h2 := h.2.1
  have c1 : cntF (restF u p) = cntF (restF s p) := by
    unfold cntF
    rw [extract_rest0 u p 4 (by omega), extract_rest0 s p 4 (by omega), h.ext p (p + 4) (by omega)]
  have c2 : datF (restF u p) = datF (restF s p) := by
    unfold datF
    rw [c1, extract_restk u p 8 _ (by omega), extract_restk s p 8 _ (by omega), h.ext _ _ hp]
  have c3 : (restF u p).extract 4 8 = (restF s p).extract 4 8 := by
    rw [extract_restk u p 4 8 (by omega), extract_restk s p 4 8 (by omega), h.ext _ _ (by omega)]
  refine ⟨c1, c2, ?_⟩
  have hs := fOk_parts ho
  unfold fOk at ho ⊢
  rw [c1, c2, c3, restF_size]
  rw [Bool.and_eq_true] at ho ⊢
  exact ⟨decide_eq_true ⟨by omega, hs.2.1, by omega⟩, ho.2⟩
/-- Frames one behind the other. -/
def allF (l : List ByteArray) : ByteArray := l.foldl (fun a d => a ++ frameB d) ⟨#[]⟩
theorem allF_snoc (l : List ByteArray) (d : ByteArray) : allF (l ++ [d]) = allF l ++ frameB d := by simp [allF]
theorem head_is (t : ByteArray) (ho : fOk t = true) : headB (datF t) = t.extract 0 8 := by
  have hs := fOk_parts ho
  have he := head_eq t hs.2.2
  unfold fOk at ho
  rw [Bool.and_eq_true] at ho
  rw [ho.2] at he
  exact toList_inj (beq_iff_eq.1 he)
theorem extract_join (s : ByteArray) (a b c : Nat) (h1 : a ≤ b) (h2 : b ≤ c) : s.extract a b ++ s.extract b c = s.extract a c := by
  apply ByteArray.ext
  apply Array.toList_inj.1
  rw [app_data, Lib.extract_data, Lib.extract_data, Lib.extract_data]
  have h := List.take_append_drop (b - a) ((s.data.toList.drop a).take (c - a))
  rw [List.take_take, List.drop_take, List.drop_drop, Nat.min_eq_left (by omega)] at h
  rw [show c - a - (b - a) = c - b by omega, show a + (b - a) = b by omega] at h
  exact h
theorem frame_is (t : ByteArray) (ho : fOk t = true) : frameB (datF t) = t.extract 0 (8 + cntF t) := by
  have hs := fOk_parts ho
  unfold frameB
  rw [if_pos (by rw [datF_size hs.2.2]; omega), head_is t ho]
  exact extract_join t 0 8 (8 + cntF t) (by omega) (by omega)
theorem allF_is (s : ByteArray) : ∀ k, allF (stF s k).2 = s.extract 0 (stF s k).1
  | 0 => by
    show (⟨#[]⟩ : ByteArray) = s.extract 0 0
    apply ByteArray.ext
    apply Array.toList_inj.1
    rw [Lib.extract_data]
    simp
  | k + 1 => by
    have ih := allF_is s k
    rw [stF]
    split
    · rename_i ho
      have hs := fOk_parts ho
      rw [restF_size] at hs
      dsimp only
      rw [allF_snoc, ih, frame_is _ ho, extract_rest0 s _ _ (by omega)]
      exact extract_join s 0 _ _ (by omega) (by omega)
    · exact ih
theorem endF_le (s : ByteArray) : endF s ≤ s.size := (stF_bound s (s.size + 1)).2
theorem allF_all (s : ByteArray) : allF (framesF s) = s.extract 0 (endF s) := allF_is s (s.size + 1)
theorem stF_mono (s : ByteArray) (k : Nat) : ∀ j, (stF s k).1 ≤ (stF s (k + j)).1 ∧ (stF s k).2 <+: (stF s (k + j)).2
  | 0 => ⟨Nat.le_refl _, List.prefix_refl _⟩
  | j + 1 => by
    obtain ⟨h1, h2⟩ := stF_mono s k j
    rw [← Nat.add_assoc, stF]
    split
    · exact ⟨by dsimp only; omega, h2.trans (List.prefix_append _ _)⟩
    · exact ⟨h1, h2⟩
theorem live_steps (s : ByteArray) : ∀ k, ∃ K, K ≤ k ∧ stF s K = stF s k ∧ ∀ j, j < K → fOk (restF s (stF s j).1) = true
  | 0 => ⟨0, Nat.le_refl _, rfl, fun j h => absurd h (Nat.not_lt_zero _)⟩
  | k + 1 => by
    obtain ⟨K, hK, e, hl⟩ := live_steps s k
    by_cases ho : fOk (restF s (stF s k).1) = true
    · refine ⟨K + 1, by omega, ?_, fun j hj => ?_⟩
      · rw [stF, stF, e]
      · rcases Nat.lt_succ_iff_lt_or_eq.1 hj with h | h
        · exact hl j h
        · rw [h, e]; exact ho
    · exact ⟨K, by omega, by rw [stF, if_neg ho, e], hl⟩
/-- As far as two texts agree what is read of them is the same. -/
theorem Agree.steps {s u : ByteArray} {n : Nat} (h : Agree s u n) : ∀ k, (∀ j, j < k → fOk (restF s (stF s j).1) = true) → (stF s k).1 ≤ n → stF u k = stF s k
  | 0, _, _ => rfl
  | k + 1, hl, hk => by
    have hm := (stF_mono s k 1).1
    have ho := hl k (by omega)
    have ih := h.steps k (fun j hj => hl j (by omega)) (by omega)
    rw [stF, if_pos ho] at hk
    dsimp only at hk
    obtain ⟨c1, c2, c3⟩ := h.frame ho hk
    rw [stF, ih, if_pos c3, stF, if_pos ho, c1, c2]
theorem frameB_size {t : ByteArray} (ht : t.size ≤ 100000) : (frameB t).size = 8 + t.size := by
  unfold frameB
  rw [if_pos ht, ByteArray.size_append, headB_size]
theorem app_tail (x y : ByteArray) (a b : Nat) (h : x.size ≤ a) : (x ++ y).extract a b = y.extract (a - x.size) (b - x.size) := by
  apply ByteArray.ext
  apply Array.toList_inj.1
  have e1 : x.data.toList.length = x.size := by simp
  rw [Lib.extract_data, Lib.extract_data, app_data, List.drop_append, List.drop_of_length_le (by omega), List.nil_append, e1]
  congr 1
  omega
theorem app_head (x y : ByteArray) (b : Nat) (h : b ≤ x.size) : (x ++ y).extract 0 b = x.extract 0 b := by
  apply ByteArray.ext
  apply Array.toList_inj.1
  have e1 : x.data.toList.length = x.size := by simp
  rw [Lib.extract_data, Lib.extract_data, app_data, List.drop_zero, List.drop_zero, List.take_append_of_le_length (by omega)]
theorem extract_all (x : ByteArray) (n : Nat) (h : x.size ≤ n) : x.extract 0 n = x := by
  apply ByteArray.ext
  apply Array.toList_inj.1
  have e1 : x.data.toList.length = x.size := by simp
  rw [Lib.extract_data, List.drop_zero, List.take_of_length_le (by omega)]
/-- A frame is read as its text. -/
theorem frame_read {t : ByteArray} (ht : t.size ≤ 100000) : cntF (frameB t) = t.size ∧ datF (frameB t) = t ∧ fOk (frameB t) = true := by
  have hz := frameB_size ht
  have e : frameB t = put4 (t.size : Int) ++ (crcB t ++ t) := by
    unfold frameB
    rw [if_pos ht]
    unfold headB
    rw [ByteArray.append_assoc]
  have p4 : (put4 (t.size : Int)).size = 4 := rfl
  have c4 := crcB_size t
  have c1 : cntF (frameB t) = t.size := by
    unfold cntF
    rw [e, app_head _ _ 4 (by omega), extract_all _ 4 (by omega), getB_put4 _ (by omega)]
    omega
  have c2 : datF (frameB t) = t := by
    unfold datF
    rw [c1, e, app_tail _ _ _ _ (by omega), app_tail _ _ _ _ (by omega)]
    rw [p4, c4, show 8 - 4 - 4 = 0 from rfl, extract_all _ _ (by omega)]
  have c3 : (frameB t).extract 4 8 = crcB t := by
    rw [e, app_tail _ _ _ _ (by omega), p4, show 4 - 4 = 0 from rfl, show 8 - 4 = 4 from rfl, app_head _ _ 4 (by omega), extract_all _ 4 (by omega)]
  refine ⟨c1, c2, ?_⟩
  unfold fOk
  rw [c1, c2, c3, hz, Bool.and_eq_true]
  exact ⟨decide_eq_true ⟨by omega, ht, by omega⟩, by simp⟩
/-- One frame more behind all of them. -/
theorem one_more (s t : ByteArray) (ht : t.size ≤ 100000) : framesF (allF (framesF s) ++ frameB t) = framesF s ++ [t] ∧ endF (allF (framesF s) ++ frameB t) = endF s + (8 + t.size) := by
  have he := endF_le s
  have hz := frameB_size ht
  have hE : (allF (framesF s)).size = endF s := by rw [allF_all, ByteArray.size_extract]; omega
  obtain ⟨u, hu⟩ : ∃ u, allF (framesF s) ++ frameB t = u := ⟨_, rfl⟩
  have hus : u.size = endF s + (8 + t.size) := by rw [← hu, ByteArray.size_append, hE, hz]
  have hag : Agree s u (endF s) := ⟨he, by omega, by rw [← hu, app_head _ _ _ (by omega), allF_all, sub_extract _ _ _ _ (Nat.le_refl _)]⟩
  obtain ⟨K, hK, eK, hl⟩ := live_steps s (s.size + 1)
  have e1 : stF s K = (endF s, framesF s) := by rw [eK]; rfl
  have e2 : stF u K = (endF s, framesF s) := by rw [hag.steps K hl (by rw [e1]; exact Nat.le_refl _), e1]
  have hr : restF u (endF s) = frameB t := by
    unfold restF
    rw [← hu, app_tail _ _ _ _ (by omega), hE, Nat.sub_self, ByteArray.size_append, hE, show endF s + (frameB t).size - endF s = (frameB t).size by omega, extract_all _ _ (Nat.le_refl _)]
  obtain ⟨f1, f2, f3⟩ := frame_read ht
  have e3 := stF_next e2 (by rw [hr]; exact f3)
  rw [hr, f1, f2] at e3
  have hend : fOk (restF u (endF s + (8 + t.size))) = false := fOk_false (fun h => by
    have := h.1
    rw [restF_size] at this
    omega)
  have hKb := (stF_bound s K).1
  rw [e1] at hKb
  have hlen : (framesF s).length = K := by
    have : ∀ k, (∀ j, j < k → fOk (restF s (stF s j).1) = true) → (stF s k).2.length = k := by
      intro k
      induction k with
      | zero => intro _; rfl
      | succ k ih =>
        intro h
        rw [stF, if_pos (h k (by omega))]
        dsimp only
        rw [List.length_append, ih (fun j hj => h j (by omega))]
        rfl
    have h := this K hl
    rw [e1] at h
    exact h
  rw [hu]
  exact stF_end e3 hend (by dsimp only at hKb; omega)
/-- Of a beginning of a text the first few frames come back. -/
theorem few_frames (s v : ByteArray) (h : Agree v s v.size) : ∀ j, ∃ i, i ≤ j ∧ stF v j = stF s i
  | 0 => ⟨0, Nat.le_refl _, rfl⟩
  | j + 1 => by
    obtain ⟨i, hi, e⟩ := few_frames s v h j
    by_cases ho : fOk (restF v (stF v j).1) = true
    · have hs := (fOk_parts ho).2.2
      rw [restF_size] at hs
      obtain ⟨c1, c2, c3⟩ := h.frame ho (by omega)
      refine ⟨i + 1, by omega, ?_⟩
      rw [stF, if_pos ho, stF, ← e, if_pos c3, c1, c2]
    · refine ⟨i, by omega, ?_⟩
      rw [stF, if_neg ho, e]
theorem few_prefix (s v : ByteArray) (h : Agree v s v.size) : framesF v <+: framesF s := by
  obtain ⟨i, hi, e⟩ := few_frames s v h (v.size + 1)
  unfold framesF
  rw [e]
  have := (stF_mono s i (s.size + 1 - i)).2
  have hv := h.2.1
  rwa [show i + (s.size + 1 - i) = s.size + 1 by omega] at this
end Go.Proofs.Ytejkjlfdadficaa
