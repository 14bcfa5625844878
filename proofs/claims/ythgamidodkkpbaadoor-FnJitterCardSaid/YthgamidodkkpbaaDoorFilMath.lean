/- What is added to a filter, its best one and its jitter: what holds of the numbers alone. -/
import Derived.Test.YthgamidodkkpbaaDoorFilAddI
import Derived.Test.YthgamidodkkpbaaDoorFilS
namespace Go.Proofs.YthgamidodkkpbaaDoor
set_option linter.unusedVariables false
set_option linter.unusedSimpArgs false

/-! ### what is added -/
theorem okFromS_cons (o : Option Sm) (s : Sm) (l : List Sm) : okFromS o (s :: l) = (s.ok && (match o with | none => true | some v => decide (v.at_ < s.at_)) && okFromS (some s) l) := rfl
theorem okFromS_append : ∀ (l m : List Sm) (o : Option Sm), okFromS o (l ++ m) = (okFromS o l && okFromS (l.getLast?.or o) m)
  | [], m, o => by simp [okFromS]
  | a :: l, m, o => by
    have e : (a :: l).getLast?.or o = l.getLast?.or (some a) := by
      rw [List.getLast?_cons]
      cases l.getLast? <;> rfl
    rw [List.cons_append, okFromS_cons, okFromS_cons, okFromS_append l m (some a), e, Bool.and_assoc, Bool.and_assoc, Bool.and_assoc]
theorem okFromS_weak : ∀ (l : List Sm) (o : Option Sm), okFromS o l = true → okFromS none l = true
  | [], _, _ => rfl
  | a :: l, o, h => by
    unfold okFromS at h ⊢
    simp only [Bool.and_eq_true] at h ⊢
    exact ⟨⟨h.1.1, trivial⟩, h.2⟩
theorem ok_snoc {l : List Sm} {s : Sm} (h : okFromS none l = true) (ht : takesV l s = true) : okFromS none (l ++ [s]) = true := by
  rw [okFromS_append, h, Bool.true_and, Option.or_none]
  unfold takesV at ht
  unfold okFromS
  rw [Bool.and_eq_true] at ht
  simp only [Bool.and_eq_true]
  refine ⟨⟨ht.1, ?_⟩, rfl⟩
  cases h : l.getLast? with
  | none => rfl
  | some v => rw [h] at ht; exact ht.2
theorem ok_drop {l : List Sm} (h : okFromS none l = true) (k : Nat) : okFromS none (l.drop k) = true := by
  have e := okFromS_append (l.take k) (l.drop k) none
  rw [List.take_append_drop, h] at e
  have := e.symm
  rw [Bool.and_eq_true] at this
  exact okFromS_weak _ _ this.2
theorem addV_eq {l : List Sm} {s : Sm} (h : l.length ≤ 8) : ∃ j, j ≤ 1 ∧ addV l s = l.drop j ++ [s] ∧ (j = 1 ↔ l.length = 8) ∧ (l.length = 8 → 1 ≤ l.length) := by
  unfold addV
  split
  · exact ⟨1, Nat.le_refl _, rfl, by simp [*], by omega⟩
  · exact ⟨0, by omega, rfl, by simp [*], by omega⟩
theorem takes_drop {l : List Sm} {s : Sm} (h : takesV l s = true) (j : Nat) : takesV (l.drop j) s = true := by
  unfold takesV at *
  rw [Bool.and_eq_true] at *
  refine ⟨h.1, ?_⟩
  rw [List.getLast?_drop]
  split
  · rfl
  · rename_i v hv
    split at hv
    · cases hv
    · rw [hv] at h; exact h.2
theorem addV_ok {l : List Sm} {s : Sm} (h : addOk l s = true) : okSms (addV l s) = true ∧ (addV l s).getLast? = some s ∧ (addV l s).length = (if l.length = 8 then 8 else l.length + 1) ∧ (addV l s).take ((addV l s).length - 1) = l.drop (l.length - ((addV l s).length - 1)) := by
  unfold addOk at h
  rw [Bool.and_eq_true] at h
  obtain ⟨ho, ht⟩ := h
  unfold okSms at ho
  rw [Bool.and_eq_true, decide_eq_true_eq] at ho
  obtain ⟨j, hj, e, hj8, _⟩ := addV_eq (s := s) ho.2
  have hl : (l.drop j ++ [s]).length = l.length - j + 1 := by simp
  rw [e]
  refine ⟨?_, by simp, ?_, ?_⟩
  · unfold okSms
    rw [ok_snoc (ok_drop ho.1 j) (takes_drop ht j), Bool.true_and, decide_eq_true_eq, hl]
    omega
  · rw [hl]; split <;> omega
  · rw [hl, Nat.add_sub_cancel, List.take_append_of_le_length (by simp), List.take_of_length_le (by simp)]
    congr 1
    omega
theorem takes_no_again {l : List Sm} {s : Sm} (h : l.getLast? = some s) : takesV l s = false := by
  unfold takesV
  rw [h]
  simp
theorem add_not_again {l : List Sm} {s : Sm} (h : l.getLast? = some s) : addOk l s = false := by
  unfold addOk
  rw [takes_no_again h, Bool.and_false]
/-! ### the best one -/
theorem bestFrom_le : ∀ (l : List Sm) (q : Sm), (bestFrom q l).delay ≤ q.delay ∧ ∀ v ∈ l, (bestFrom q l).delay ≤ v.delay
  | [], q => ⟨Int.le_refl _, fun v h => by simp at h⟩
  | a :: l, q => by
    have ih := bestFrom_le l (bestStep q a)
    have hs : (bestStep q a).delay ≤ q.delay ∧ (bestStep q a).delay ≤ a.delay := by unfold bestStep; split <;> omega
    refine ⟨Int.le_trans ih.1 hs.1, fun v hv => ?_⟩
    rcases List.mem_cons.1 hv with rfl | hv
    · exact Int.le_trans ih.1 hs.2
    · exact ih.2 v hv
theorem bestV_le {l : List Sm} {v : Sm} (h : v ∈ l) : (bestV l).delay ≤ v.delay := by
  cases l with
  | nil => simp at h
  | cons a l => exact (bestFrom_le (a :: l) a).2 v h
theorem okFromS_later : ∀ (l : List Sm) (o : Sm), okFromS (some o) l = true → ∀ v ∈ l, o.at_ < v.at_
  | [], _, _, v, h => by simp at h
  | a :: l, o, h, v, hv => by
    unfold okFromS at h
    simp only [Bool.and_eq_true, decide_eq_true_eq] at h
    rcases List.mem_cons.1 hv with rfl | hv
    · exact h.1.2
    · exact Int.lt_trans h.1.2 (okFromS_later l a h.2 v hv)
/-- Of those of the least delay it is the last one. -/
theorem bestFrom_last : ∀ (l : List Sm) (q : Sm), okFromS (some q) l = true → ∀ v, (v = q ∨ v ∈ l) → v.delay = (bestFrom q l).delay → v.at_ ≤ (bestFrom q l).at_
  | [], q, _, v, hv, _ => by
    rcases hv with rfl | hv
    · exact Int.le_refl _
    · simp at hv
  | a :: l, q, h, v, hv, hd => by
    have h' := h
    unfold okFromS at h
    simp only [Bool.and_eq_true, decide_eq_true_eq] at h
    have hqa := h.1.2
    change v.delay = (bestFrom (bestStep q a) l).delay at hd
    show v.at_ ≤ (bestFrom (bestStep q a) l).at_
    by_cases hs : a.delay ≤ q.delay
    · have e : bestStep q a = a := if_pos hs
      rw [e] at hd ⊢
      rcases hv with rfl | hv
      · have hle := bestFrom_le l a
        have hva : a.delay = (bestFrom a l).delay := by omega
        exact Int.le_trans (Int.le_of_lt hqa) (bestFrom_last l a h.2 a (.inl rfl) hva)
      · exact bestFrom_last l a h.2 v (by rcases List.mem_cons.1 hv with h | h <;> simp [h]) hd
    · have e : bestStep q a = q := if_neg hs
      rw [e] at hd ⊢
      have hq : okFromS (some q) l = true := by
        cases l with
        | nil => rfl
        | cons b l =>
          unfold okFromS at h ⊢
          have h2 := h.2
          simp only [Bool.and_eq_true, decide_eq_true_eq] at h2 ⊢
          exact ⟨⟨h2.1.1, Int.lt_trans hqa h2.1.2⟩, h2.2⟩
      have hle := bestFrom_le l q
      rcases hv with rfl | hv
      · exact bestFrom_last l v hq v (.inl rfl) hd
      · rcases List.mem_cons.1 hv with rfl | hv
        · omega
        · exact bestFrom_last l q hq v (.inr hv) hd
theorem bestV_last {l : List Sm} (h : okSms l = true) {v : Sm} (hv : v ∈ l) (hd : v.delay = (bestV l).delay) : v.at_ ≤ (bestV l).at_ := by
  unfold okSms at h
  rw [Bool.and_eq_true] at h
  cases l with
  | nil => simp at hv
  | cons a l =>
    have h1 := h.1
    unfold okFromS at h1
    simp only [Bool.and_eq_true] at h1
    have e : bestV (a :: l) = bestFrom a l := by
      show bestFrom (bestStep a a) l = _
      rw [show bestStep a a = a from if_pos (Int.le_refl _)]
    rw [e] at hd ⊢
    exact bestFrom_last l a h1.2 v (List.mem_cons.1 hv) hd
/-- With one more the best one's delay is no more, unless the first one of eight was the best. -/
theorem bestV_add {l : List Sm} {s : Sm} (h : addOk l s = true) (hne : l ≠ []) : (bestV (addV l s)).delay ≤ (bestV l).delay ∨ (l.length = 8 ∧ l[0]? = some (bestV l)) := by
  have hm := bestV_mem hne
  by_cases h8 : l.length = 8
  · have e : addV l s = l.drop 1 ++ [s] := if_pos h8
    cases l with
    | nil => exact absurd rfl hne
    | cons a l =>
      rcases List.mem_cons.1 hm with hq | hq
      · exact .inr ⟨h8, by rw [hq]; rfl⟩
      · refine .inl (bestV_le (l := addV (a :: l) s) ?_)
        rw [e]
        exact List.mem_append_left _ hq
  · have e : addV l s = l ++ [s] := if_neg h8
    exact .inl (bestV_le (by rw [e]; exact List.mem_append_left _ hm))
/-! ### jitter -/
def stillS (s : Sm) : Sm := ⟨7, s.delay, 0, s.at_⟩
def movedS (s : Sm) : Sm := ⟨s.off + 77, s.delay, s.disp, s.at_⟩
section
variable {f : Sm → Sm} (hf : ∀ s, (f s).delay = s.delay)
include hf
theorem bestFrom_map : ∀ (l : List Sm) (q : Sm), bestFrom (f q) (l.map f) = f (bestFrom q l)
  | [], q => rfl
  | a :: l, q => by
    show bestFrom (bestStep (f q) (f a)) (l.map f) = f (bestFrom (bestStep q a) l)
    have e : bestStep (f q) (f a) = f (bestStep q a) := by
      unfold bestStep
      rw [hf, hf]
      split <;> rfl
    rw [e, bestFrom_map l]
theorem bestV_map {l : List Sm} (h : l ≠ []) : bestV (l.map f) = f (bestV l) := by
  cases l with
  | nil => exact absurd rfl h
  | cons a l => exact bestFrom_map hf (a :: l) a
end
theorem awayV_moved (a b c : Int) : awayV (a + c) (b + c) = awayV a b := by unfold awayV; omega
theorem awayV_self (a : Int) : awayV a a = 0 := by unfold awayV; omega
theorem sumJ_moved (q : Sm) (l : List Sm) : sumJ (movedS q) (l.map movedS) = sumJ q l := by
  unfold sumJ
  rw [List.map_map]
  congr 1
  apply List.map_congr_left
  intro s _
  exact awayV_moved s.off q.off 77
theorem sumJ_still (q : Sm) : ∀ (l : List Sm), sumJ (stillS q) (l.map stillS) = 0
  | [] => rfl
  | a :: l => by
    have ih := sumJ_still q l
    unfold sumJ at *
    rw [List.map_cons, List.map_cons, List.sum_cons, ih]
    simp [stillS, awayV_self]
theorem jitV_moved (l : List Sm) : jitV (l.map movedS) = jitV l := by
  unfold jitV
  by_cases h : l = []
  · subst h; rfl
  · rw [bestV_map (f := movedS) (fun _ => rfl) h, sumJ_moved, List.length_map]
theorem jitV_still (l : List Sm) : jitV (l.map stillS) = 0 := by
  unfold jitV
  by_cases h : l = []
  · subst h; rfl
  · rw [bestV_map (f := stillS) (fun _ => rfl) h, sumJ_still, Int.zero_ediv]
theorem okFromS_still : ∀ (l : List Sm) (o : Option Sm), okFromS o l = true → okFromS (o.map stillS) (l.map stillS) = true
  | [], _, _ => rfl
  | a :: l, o, h => by
    rw [List.map_cons]
    unfold okFromS at h ⊢
    simp only [Bool.and_eq_true] at h ⊢
    refine ⟨⟨?_, ?_⟩, okFromS_still l (some a) h.2⟩
    · have := Sm.ok_iff.1 h.1.1
      exact Sm.ok_iff.2 ⟨by simp [stillS], this.2.1, by simp [stillS], this.2.2.2⟩
    · cases o with
      | none => rfl
      | some v => exact h.1.2
theorem okSms_still {l : List Sm} (h : okSms l = true) : okSms (l.map stillS) = true := by
  unfold okSms at *
  rw [Bool.and_eq_true] at *
  exact ⟨okFromS_still l none h.1, by simpa using h.2⟩
/-! ### eight more -/
def nth8 (at_ : Int) (i : Nat) : Sm := ⟨i, 9 - i, 0, at_ + i⟩
def firsts (at_ : Int) (k : Nat) : List Sm := (List.range k).map fun i => nth8 at_ (i + 1)
theorem firsts_len (at_ : Int) (k : Nat) : (firsts at_ k).length = k := by simp [firsts]
theorem firsts_next (at_ : Int) (k : Nat) : firsts at_ (k + 1) = firsts at_ k ++ [nth8 at_ (k + 1)] := by simp [firsts, List.range_succ]
theorem firsts_last (at_ : Int) (k : Nat) (h : 0 < k) : (firsts at_ k).getLast? = some (nth8 at_ k) := by
  obtain ⟨j, rfl⟩ : ∃ j, k = j + 1 := ⟨k - 1, by omega⟩
  rw [firsts_next]; simp
/-- What is left of those ahead, and the first k of the eight. -/
def behind8 (l : List Sm) (at_ : Int) (k : Nat) : List Sm := (l ++ firsts at_ k).drop (l.length + k - 8)
theorem behind8_zero {l : List Sm} (h : l.length ≤ 8) (at_ : Int) : behind8 l at_ 0 = l := by
  unfold behind8
  rw [show l.length + 0 - 8 = 0 by omega]
  simp [firsts]
theorem behind8_eight {l : List Sm} (at_ : Int) : behind8 l at_ 8 = firsts at_ 8 := by
  unfold behind8
  rw [Nat.add_sub_cancel, List.drop_left]
theorem behind8_next {l : List Sm} (h : l.length ≤ 8) (at_ : Int) (k : Nat) (hk : k < 8) : addV (behind8 l at_ k) (nth8 at_ (k + 1)) = behind8 l at_ (k + 1) := by
  have hl : (behind8 l at_ k).length = l.length + k - (l.length + k - 8) := by
    unfold behind8
    simp [firsts_len]
  unfold addV
  split
  · rename_i h8
    unfold behind8
    rw [firsts_next, ← List.append_assoc, List.drop_append_of_le_length (l₁ := l ++ firsts at_ k) (by simp [firsts_len]; omega), List.drop_drop]
    congr 2
    omega
  · rename_i h8
    unfold behind8
    rw [firsts_next, ← List.append_assoc, List.drop_append_of_le_length (l₁ := l ++ firsts at_ k) (by simp [firsts_len]; omega)]
    congr 2
    omega
theorem behind8_last {l : List Sm} (h : l.length ≤ 8) (at_ : Int) (k : Nat) (hk : k ≤ 8) (h0 : 0 < k) : (behind8 l at_ k).getLast? = some (nth8 at_ k) := by
  unfold behind8
  rw [List.getLast?_drop, if_neg (by simp [firsts_len]; omega), List.getLast?_append, firsts_last _ _ h0]
  rfl
theorem nth8_ok {at_ : Int} (h0 : 0 ≤ at_) {i : Nat} (hi : i ≤ 8) (h1 : 1 ≤ i) : (nth8 at_ i).ok = decide (at_ + i ≤ 4000000000000000) := by
  by_cases h : at_ + i ≤ 4000000000000000
  · rw [decide_eq_true h]
    exact Sm.ok_iff.2 ⟨by simp only [nth8]; omega, by simp only [nth8]; omega, by simp only [nth8]; omega, by simp only [nth8]; omega⟩
  · rw [decide_eq_false h, Bool.eq_false_iff]
    intro hk
    have := Sm.ok_iff.1 hk
    simp only [nth8] at this
    omega
theorem takes_of {l : List Sm} {s : Sm} (h : ∀ v, l.getLast? = some v → v.at_ < s.at_) : takesV l s = s.ok := by
  unfold takesV
  cases hq : l.getLast? with
  | none => simp
  | some v => simp [h v hq]
theorem behind8_takes {l : List Sm} (ho : okSms l = true) {at_ : Int} (h0 : 0 ≤ at_) (hat : ∀ v, l.getLast? = some v → v.at_ = at_) (k : Nat) (hk : k < 8) (hA : okSms (behind8 l at_ k) = true) : addOk (behind8 l at_ k) (nth8 at_ (k + 1)) = decide (at_ + ((k + 1 : Nat) : Int) ≤ 4000000000000000) := by
  have hl : l.length ≤ 8 := by
    unfold okSms at ho
    rw [Bool.and_eq_true, decide_eq_true_eq] at ho
    exact ho.2
  unfold addOk
  rw [hA, Bool.true_and, takes_of, nth8_ok h0 (by omega) (by omega)]
  intro v hv
  rcases Nat.eq_zero_or_pos k with rfl | hk0
  · rw [behind8_zero hl] at hv
    have := hat v hv
    simp only [nth8]; omega
  · rw [behind8_last hl at_ k (by omega) hk0] at hv
    simp only [Option.some.injEq] at hv
    subst hv
    simp only [nth8]; omega
theorem behind8_ok {l : List Sm} (ho : okSms l = true) {at_ : Int} (h0 : 0 ≤ at_) (hat : ∀ v, l.getLast? = some v → v.at_ = at_) (k : Nat) (hk : k < 8) (hA : okSms (behind8 l at_ k) = true) (h : at_ + ((k + 1 : Nat) : Int) ≤ 4000000000000000) : okSms (behind8 l at_ (k + 1)) = true := by
  have hl : l.length ≤ 8 := by
    unfold okSms at ho
    rw [Bool.and_eq_true, decide_eq_true_eq] at ho
    exact ho.2
  have := (addV_ok ((behind8_takes ho h0 hat k hk hA).trans (decide_eq_true h))).1
  rwa [behind8_next hl at_ k hk] at this
theorem firsts_best (at_ : Int) : (bestV (firsts at_ 8)).at_ = at_ + 8 := by
  have : firsts at_ 8 = [nth8 at_ 1, nth8 at_ 2, nth8 at_ 3, nth8 at_ 4, nth8 at_ 5, nth8 at_ 6, nth8 at_ 7, nth8 at_ 8] := rfl
  rw [this]
  simp [bestV, bestFrom, bestStep, nth8]
end Go.Proofs.YthgamidodkkpbaaDoor
