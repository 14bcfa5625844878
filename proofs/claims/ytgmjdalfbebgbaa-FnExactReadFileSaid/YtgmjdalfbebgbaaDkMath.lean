/- Files in rising order of their names: the one of a name, one put in, one cut out; what an op does: numbers and texts alone. -/
import Derived.Test.YtgmjdalfbebgbaaFrame
namespace Go.Proofs.Ytgmjdalfbebgbaa
open Go.ChangeShapes Go.WideShapes Go.ChangeAt Go.RowKit
set_option linter.unusedVariables false
set_option linter.unusedSimpArgs false

theorem kb_irrefl (a : List UInt8) : ¬ a < a := List.lt_irrefl a
theorem kb_trans {a b c : List UInt8} (h : a < b) (k : b < c) : a < c := List.lt_trans h k
theorem kb_tri (a b : List UInt8) : a < b ∨ a = b ∨ b < a := by
  rcases Classical.em (a < b) with h | h
  · exact .inl h
  · rcases Classical.em (b < a) with k | k
    · exact .inr (.inr k)
    · exact .inr (.inl (List.le_antisymm (List.not_lt.1 k) (List.not_lt.1 h)))
theorem kb_asymm {a b : List UInt8} (h : a < b) : ¬ b < a := fun k => kb_irrefl a (kb_trans h k)
theorem kb_ne {a b : List UInt8} (h : a < b) : a ≠ b := fun e => kb_irrefl a (by rw [e] at h ⊢; exact h)
theorem less_is (x y : List UInt8) : Op.bytesLess x y = decide (x < y) := by
  induction x generalizing y with
  | nil => cases y <;> simp [Op.bytesLess]
  | cons a x ih =>
    cases y with
    | nil => simp [Op.bytesLess]
    | cons b y =>
      rw [Op.bytesLess, ih y]
      simp only [List.cons_lt_cons_iff]
      by_cases h1 : a < b <;> by_cases h2 : a = b <;> by_cases h3 : x < y <;> simp [h1, h2, h3]
theorem before_is (x y : List UInt8) : bytesBefore x y = decide (x < y) := by
  induction x generalizing y with
  | nil => cases y <;> simp [bytesBefore]
  | cons a x ih =>
    cases y with
    | nil => simp [bytesBefore]
    | cons b y =>
      rw [bytesBefore, ih y]
      simp only [List.cons_lt_cons_iff]
      by_cases h1 : a < b <;> by_cases h2 : a = b <;> by_cases h3 : x < y <;> simp [h1, h2, h3]

structure Fl where
  name : ByteArray
  data : ByteArray
structure Dp where
  kind : Int
  name : ByteArray
  to : ByteArray
  data : ByteArray
structure Dk where
  live : List Fl
  safe : List Fl
  ops : List Dp
def Fl.key (f : Fl) : List UInt8 := f.name.toList
def Dp.key (o : Dp) : List UInt8 := o.name.toList
theorem ba_ext {a b : ByteArray} (h : a.toList = b.toList) : a = b := by
  rw [ByteArray.toList_eq, ByteArray.toList_eq] at h
  cases a; cases b
  congr
  exact Array.toList_inj.1 h
def RiseF (l : List Fl) : Prop := l.Pairwise fun a b => a.key < b.key
def flAt (l : List Fl) (k : List UInt8) : Option Fl := l.find? fun c => c.key == k
def putF (l : List Fl) (c : Fl) : List Fl := l.filter (fun a => decide (a.key < c.key)) ++ c :: l.filter (fun a => decide (c.key < a.key))
def cutF (l : List Fl) (k : List UInt8) : List Fl := l.filter fun a => !(a.key == k)
def bytesF (l : List Fl) : Nat := (l.map fun f => f.data.size).sum
theorem bytesF_append (a b : List Fl) : bytesF (a ++ b) = bytesF a + bytesF b := by simp [bytesF]
theorem bytesF_cons (c : Fl) (b : List Fl) : bytesF (c :: b) = c.data.size + bytesF b := by simp [bytesF]
theorem bytesF_mem {l : List Fl} {f : Fl} (h : f ∈ l) : f.data.size ≤ bytesF l := by
  induction l with
  | nil => cases h
  | cons a l ih =>
    rw [bytesF_cons]
    rcases List.mem_cons.1 h with rfl | h
    · omega
    · have := ih h; omega
theorem bytesF_filter (l : List Fl) (p : Fl → Bool) : bytesF (l.filter p) ≤ bytesF l := by
  induction l with
  | nil => exact Nat.le_refl _
  | cons a l ih =>
    rw [List.filter_cons]
    split
    · rw [bytesF_cons, bytesF_cons]; omega
    · rw [bytesF_cons]; omega
theorem flAt_some {l : List Fl} {i : List UInt8} {c : Fl} (h : flAt l i = some c) : c ∈ l ∧ c.key = i :=
  ⟨List.mem_of_find?_eq_some h, by have := List.find?_some h; simpa using this⟩
theorem flAt_none {l : List Fl} {i : List UInt8} (h : flAt l i = none) : ∀ c ∈ l, c.key ≠ i := fun c hc e => by
  have := List.find?_eq_none.1 h c hc
  simp [e] at this
theorem flAt_at {l : List Fl} (h : RiseF l) {k : Nat} {v : Fl} (hv : l[k]? = some v) : flAt l v.key = some v := by
  cases hc : flAt l v.key with
  | none => exact absurd rfl (flAt_none hc v (List.mem_of_getElem? hv))
  | some d =>
    obtain ⟨h1, h2⟩ := flAt_some hc
    obtain ⟨j, hj⟩ := List.mem_iff_getElem?.1 h1
    obtain ⟨hjl, hj2⟩ := List.getElem?_eq_some_iff.1 hj
    obtain ⟨hkl, hk2⟩ := List.getElem?_eq_some_iff.1 hv
    rcases Nat.lt_trichotomy j k with hjk | hjk | hjk
    · have := List.pairwise_iff_getElem.1 h j k hjl hkl hjk
      rw [hj2, hk2, h2] at this
      exact absurd this (kb_irrefl _)
    · subst hjk
      rw [hv] at hj
      rw [Option.some.inj hj]
    · have := List.pairwise_iff_getElem.1 h k j hkl hjl hjk
      rw [hj2, hk2, h2] at this
      exact absurd this (kb_irrefl _)
theorem putF_mem {l : List Fl} {c a : Fl} (h : a ∈ putF l c) : a = c ∨ a ∈ l := by
  unfold putF at h
  rcases List.mem_append.1 h with h | h
  · exact .inr (List.mem_filter.1 h).1
  · rcases List.mem_cons.1 h with h | h
    · exact .inl h
    · exact .inr (List.mem_filter.1 h).1
theorem putF_rise {l : List Fl} (c : Fl) (h : RiseF l) : RiseF (putF l c) := by
  unfold RiseF putF
  rw [List.pairwise_append]
  refine ⟨h.filter _, ?_, fun a ha b hb => ?_⟩
  · rw [List.pairwise_cons]
    exact ⟨fun b hb => by simpa using (List.mem_filter.1 hb).2, h.filter _⟩
  · have ha' : a.key < c.key := by simpa using (List.mem_filter.1 ha).2
    rcases List.mem_cons.1 hb with rfl | hb
    · exact ha'
    · have : c.key < b.key := by simpa using (List.mem_filter.1 hb).2
      exact kb_trans ha' this
theorem cutF_rise {l : List Fl} (k : List UInt8) (h : RiseF l) : RiseF (cutF l k) := List.Pairwise.filter _ h
theorem cutF_mem {l : List Fl} {k : List UInt8} {a : Fl} (h : a ∈ cutF l k) : a ∈ l := (List.mem_filter.1 h).1
theorem putF_len (l : List Fl) (c : Fl) : (putF l c).length ≤ l.length + 1 := by
  unfold putF
  rw [List.length_append, List.length_cons]
  have : (l.filter fun a => decide (a.key < c.key)).length + (l.filter fun a => decide (c.key < a.key)).length ≤ l.length := by
    induction l with
    | nil => simp
    | cons a l ih =>
      by_cases h1 : a.key < c.key
      · have h2 := kb_asymm h1
        rw [List.filter_cons_of_pos (by simpa using h1), List.filter_cons_of_neg (by simpa using h2)]
        simp only [List.length_cons]; omega
      · by_cases h2 : c.key < a.key
        · rw [List.filter_cons_of_neg (by simpa using h1), List.filter_cons_of_pos (by simpa using h2)]
          simp only [List.length_cons]; omega
        · rw [List.filter_cons_of_neg (by simpa using h1), List.filter_cons_of_neg (by simpa using h2)]
          simp only [List.length_cons]; omega
  omega
theorem putF_bytes (l : List Fl) (c : Fl) : bytesF (putF l c) ≤ bytesF l + c.data.size := by
  unfold putF
  rw [bytesF_append, bytesF_cons]
  have : bytesF (l.filter fun a => decide (a.key < c.key)) + bytesF (l.filter fun a => decide (c.key < a.key)) ≤ bytesF l := by
    induction l with
    | nil => simp [bytesF]
    | cons a l ih =>
      by_cases h1 : a.key < c.key
      · have h2 := kb_asymm h1
        rw [List.filter_cons_of_pos (by simpa using h1), List.filter_cons_of_neg (by simpa using h2)]
        simp only [bytesF_cons]; omega
      · by_cases h2 : c.key < a.key
        · rw [List.filter_cons_of_neg (by simpa using h1), List.filter_cons_of_pos (by simpa using h2)]
          simp only [bytesF_cons]; omega
        · rw [List.filter_cons_of_neg (by simpa using h1), List.filter_cons_of_neg (by simpa using h2)]
          simp only [bytesF_cons]; omega
  omega
theorem putF_last {l : List Fl} {c : Fl} (h : RiseF (l ++ [c])) : putF l c = l ++ [c] := by
  have h1 : ∀ a ∈ l, a.key < c.key := fun a ha => (List.pairwise_append.1 h).2.2 a ha c (by simp)
  unfold putF
  rw [List.filter_eq_self.2 (fun a ha => by simpa using h1 a ha), List.filter_eq_nil_iff.2 (fun a ha => by have := kb_asymm (h1 a ha); simpa using this)]

/-! ### what is right -/
def nmOk (s : ByteArray) : Bool := decide (1 ≤ s.size) && decide (s.size ≤ 100)
theorem nmOk_iff {s : ByteArray} : nmOk s = true ↔ 1 ≤ s.size ∧ s.size ≤ 100 := by unfold nmOk; rw [Bool.and_eq_true, decide_eq_true_eq, decide_eq_true_eq]
def roomV (n m : Nat) : Bool := decide (n ≤ 60) && decide (m ≤ 200000)
theorem roomV_iff {n m : Nat} : roomV n m = true ↔ n ≤ 60 ∧ m ≤ 200000 := by unfold roomV; rw [Bool.and_eq_true, decide_eq_true_eq, decide_eq_true_eq]
def prevK (l : List Fl) (j : Nat) : List UInt8 := if j = 0 then [] else match l[j - 1]? with | some f => f.key | none => []
def okF (l : List Fl) (j : Nat) (f : Fl) : Bool := nmOk f.name && decide (prevK l j < f.key)
def okFTo (l : List Fl) (k : Nat) : Bool := (List.range k).all fun j => match l[j]? with | some f => okF l j f | none => true
def filesOk (l : List Fl) : Bool := okFTo l l.length && roomV l.length (bytesF l)
theorem okFTo_zero (l : List Fl) : okFTo l 0 = true := rfl
theorem okFTo_succ {l : List Fl} {k : Nat} {f : Fl} (h : l[k]? = some f) : okFTo l (k + 1) = (okFTo l k && okF l k f) := by
  unfold okFTo
  rw [List.range_succ, List.all_append]
  simp [h]
theorem okFTo_bad {l : List Fl} {k n : Nat} (hkn : k ≤ n) (h : okFTo l k = false) : okFTo l n = false := by
  cases hn : okFTo l n with
  | false => rfl
  | true =>
    unfold okFTo at h hn
    rw [List.all_eq_true] at hn
    have : (List.range k).all (fun j => match l[j]? with | some f => okF l j f | none => true) = true := List.all_eq_true.2 fun j hj => hn j (by have := List.mem_range.1 hj; exact List.mem_range.2 (by omega))
    rw [this] at h
    cases h
theorem okFTo_at {l : List Fl} {n j : Nat} {f : Fl} (h : okFTo l n = true) (hj : j < n) (hf : l[j]? = some f) : okF l j f = true := by
  unfold okFTo at h
  have := List.all_eq_true.1 h j (List.mem_range.2 hj)
  simpa [hf] using this
theorem prevK_lt {l : List Fl} (h : ∀ j c, l[j]? = some c → prevK l j < c.key) : RiseF l := by
  have step : ∀ k j (hk : j + k + 1 < l.length), (l[j]'(by omega)).key < (l[j + k + 1]).key := by
    intro k
    induction k with
    | zero =>
      intro j hk
      have := h (j + 1) _ (List.getElem?_eq_getElem (by omega : j + 1 < l.length))
      unfold prevK at this
      rw [if_neg (by omega), Nat.add_sub_cancel, List.getElem?_eq_getElem (by omega : j < l.length)] at this
      exact this
    | succ k ih =>
      intro j hk
      have h1 := ih j (by omega)
      have := h (j + (k + 1) + 1) _ (List.getElem?_eq_getElem hk)
      unfold prevK at this
      rw [if_neg (by omega), Nat.add_sub_cancel, List.getElem?_eq_getElem (by omega : j + (k + 1) < l.length)] at this
      exact kb_trans h1 this
  refine List.pairwise_iff_getElem.2 fun i j hi hj hij => ?_
  have := step (j - i - 1) i (by omega)
  have e : i + (j - i - 1) + 1 = j := by omega
  simp only [e] at this
  exact this
theorem size_key (s : ByteArray) : s.toList.length = s.size := by rw [ByteArray.toList_eq]; rfl
theorem nil_lt {l : List UInt8} (h : 1 ≤ l.length) : [] < l := by
  cases l with
  | nil => simp at h
  | cons a l => exact List.nil_lt_cons a l
theorem filesOk_iff {l : List Fl} : filesOk l = true ↔ RiseF l ∧ (∀ c ∈ l, nmOk c.name = true) ∧ l.length ≤ 60 ∧ bytesF l ≤ 200000 := by
  unfold filesOk
  rw [Bool.and_eq_true, roomV_iff]
  constructor
  · rintro ⟨h1, h2⟩
    have h3 : ∀ j c, l[j]? = some c → nmOk c.name = true ∧ prevK l j < c.key := fun j c hj => by
      have := okFTo_at h1 (List.getElem?_eq_some_iff.1 hj).1 hj
      unfold okF at this
      rwa [Bool.and_eq_true, decide_eq_true_eq] at this
    refine ⟨prevK_lt fun j c hj => (h3 j c hj).2, fun c hc => ?_, h2⟩
    obtain ⟨j, hj⟩ := List.mem_iff_getElem?.1 hc
    exact (h3 j c hj).1
  · rintro ⟨h1, h2, h3⟩
    refine ⟨?_, h3⟩
    unfold okFTo
    refine List.all_eq_true.2 fun j hj => ?_
    have hjl := List.mem_range.1 hj
    rw [List.getElem?_eq_getElem hjl]
    show okF l j l[j] = true
    have hc := h2 l[j] (List.getElem_mem _)
    unfold okF
    rw [hc, Bool.true_and, decide_eq_true_eq]
    unfold prevK
    by_cases h0 : j = 0
    · rw [if_pos h0]
      refine nil_lt ?_
      unfold Fl.key
      rw [size_key]
      exact (nmOk_iff.1 hc).1
    · rw [if_neg h0, List.getElem?_eq_getElem (by omega : j - 1 < l.length)]
      exact List.pairwise_iff_getElem.1 h1 (j - 1) j (by omega) hjl (by omega)

/-! ### what an op does -/
def formV (o : Dp) : Bool :=
  nmOk o.name && (if o.kind = 1 then o.to.toList.isEmpty else if o.kind = 2 then nmOk o.to && o.data.toList.isEmpty else if o.kind = 3 then o.to.toList.isEmpty && o.data.toList.isEmpty else false)
def doneV (l : List Fl) (o : Dp) : List Fl :=
  match flAt l o.key with
  | none => if o.kind = 1 then putF l ⟨o.name, o.data⟩ else l
  | some f => if o.kind = 1 then putF l ⟨o.name, f.data ++ o.data⟩ else if o.kind = 2 then putF (cutF l o.key) ⟨o.to, f.data⟩ else cutF l o.key
def toldV (l : List Fl) (o : Dp) : Bool := decide (o.kind = 1) || (flAt l o.key).isSome
theorem doneV_rise {l : List Fl} (h : RiseF l) (o : Dp) : RiseF (doneV l o) := by
  unfold doneV
  split
  · split
    · exact putF_rise _ h
    · exact h
  · split
    · exact putF_rise _ h
    · split
      · exact putF_rise _ (cutF_rise _ h)
      · exact cutF_rise _ h
theorem doneV_names {l : List Fl} (h : ∀ c ∈ l, nmOk c.name = true) {o : Dp} (ho : formV o = true) : ∀ c ∈ doneV l o, nmOk c.name = true := by
  intro c hc
  unfold formV at ho
  rw [Bool.and_eq_true] at ho
  unfold doneV at hc
  split at hc
  · split at hc
    · rcases putF_mem hc with rfl | hc
      · exact ho.1
      · exact h c hc
    · exact h c hc
  · split at hc
    · rcases putF_mem hc with rfl | hc
      · exact ho.1
      · exact h c hc
    · split at hc
      · rename_i h1 h2
        rw [if_neg h1, if_pos h2, Bool.and_eq_true] at ho
        rcases putF_mem hc with rfl | hc
        · exact ho.2.1
        · exact h c (cutF_mem hc)
      · exact h c (cutF_mem hc)
theorem doneV_len (l : List Fl) (o : Dp) : (doneV l o).length ≤ l.length + 1 := by
  have hcl : (cutF l o.key).length ≤ l.length := List.length_filter_le _ _
  unfold doneV
  split
  · split
    · exact putF_len _ _
    · omega
  · split
    · exact putF_len _ _
    · split
      · have := putF_len (cutF l o.key) ⟨o.to, (by assumption : Fl).data⟩
        omega
      · omega
theorem doneV_bytes (l : List Fl) (o : Dp) : bytesF (doneV l o) ≤ 2 * bytesF l + o.data.size := by
  have hcl : bytesF (cutF l o.key) ≤ bytesF l := bytesF_filter _ _
  unfold doneV
  split
  · split
    · have := putF_bytes l ⟨o.name, o.data⟩
      simp only at this
      omega
    · omega
  · rename_i f hf
    have hm := bytesF_mem (flAt_some hf).1
    split
    · have := putF_bytes l ⟨o.name, f.data ++ o.data⟩
      simp only [ByteArray.size_append] at this
      omega
    · split
      · have := putF_bytes (cutF l o.key) ⟨o.to, f.data⟩
        simp only at this
        omega
      · omega
/-- What right ops leave of right files is right where there is room. -/
theorem filesOk_done {l : List Fl} (h : filesOk l = true) {o : Dp} (ho : formV o = true) : filesOk (doneV l o) = roomV (doneV l o).length (bytesF (doneV l o)) := by
  obtain ⟨h1, h2, h3, h4⟩ := filesOk_iff.1 h
  cases hr : roomV (doneV l o).length (bytesF (doneV l o)) with
  | true => exact filesOk_iff.2 ⟨doneV_rise h1 o, doneV_names h2 ho, roomV_iff.1 hr⟩
  | false => unfold filesOk; rw [hr, Bool.and_false]
def stepV (l : List Fl) (o : Dp) : Option (List Fl) := if (formV o && toldV l o && filesOk (doneV l o)) = true then some (doneV l o) else none
def chainTo (l : List Fl) (ops : List Dp) : Nat → Option (List Fl)
  | 0 => some l
  | k + 1 => (chainTo l ops k).bind fun now => match ops[k]? with | some o => stepV now o | none => some now
theorem chainTo_succ {l : List Fl} {ops : List Dp} {k : Nat} {o : Dp} {now : List Fl} (h : chainTo l ops k = some now) (ho : ops[k]? = some o) : chainTo l ops (k + 1) = stepV now o := by
  rw [chainTo, h, Option.bind_some, ho]
theorem chainTo_bad {l : List Fl} {ops : List Dp} {k n : Nat} (hkn : k ≤ n) (h : chainTo l ops k = none) : chainTo l ops n = none := by
  induction n with
  | zero => rw [show k = 0 by omega] at h; exact h
  | succ n ih =>
    rcases Nat.eq_or_lt_of_le hkn with e | e
    · rw [← e]; exact h
    · rw [chainTo, ih (by omega)]; rfl
theorem chainTo_ok {l : List Fl} (hl : filesOk l = true) (ops : List Dp) (k : Nat) (now : List Fl) (h : chainTo l ops k = some now) : filesOk now = true := by
  induction k generalizing now with
  | zero => rw [chainTo] at h; cases h; exact hl
  | succ k ih =>
    rw [chainTo] at h
    cases hc : chainTo l ops k with
    | none => rw [hc] at h; cases h
    | some m =>
      rw [hc, Option.bind_some] at h
      cases ho : ops[k]? with
      | none =>
        rw [ho] at h
        have h : some m = some now := h
        cases h
        exact ih _ hc
      | some o =>
        rw [ho] at h
        have h : stepV m o = some now := h
        unfold stepV at h
        split at h
        · rename_i hh
          cases h
          rw [Bool.and_eq_true] at hh
          exact hh.2
        · cases h
def sameFl (a b : Fl) : Bool := a.name.toList == b.name.toList && a.data.toList == b.data.toList
theorem sameFl_iff {a b : Fl} : sameFl a b = true ↔ a = b := by
  unfold sameFl
  rw [Bool.and_eq_true, beq_iff_eq, beq_iff_eq]
  constructor
  · rintro ⟨h1, h2⟩
    cases a; cases b
    simp only at h1 h2
    rw [ba_ext h1, ba_ext h2]
  · rintro rfl; exact ⟨rfl, rfl⟩
def sameF : List Fl → List Fl → Bool
  | [], [] => true
  | a :: l, b :: m => sameFl a b && sameF l m
  | _, _ => false
theorem sameF_iff : ∀ {a b : List Fl}, sameF a b = true ↔ a = b
  | [], [] => by simp [sameF]
  | [], _ :: _ => by simp [sameF]
  | _ :: _, [] => by simp [sameF]
  | a :: l, b :: m => by
    rw [sameF, Bool.and_eq_true, sameFl_iff, sameF_iff, List.cons.injEq]
def diskOk (d : Dk) : Bool := filesOk d.safe && (decide (d.ops.length ≤ 200) && (match chainTo d.safe d.ops d.ops.length with | some now => sameF now d.live | none => false))
theorem diskOk_iff {d : Dk} : diskOk d = true ↔ filesOk d.safe = true ∧ d.ops.length ≤ 200 ∧ chainTo d.safe d.ops d.ops.length = some d.live := by
  unfold diskOk
  rw [Bool.and_eq_true, Bool.and_eq_true, decide_eq_true_eq]
  cases h : chainTo d.safe d.ops d.ops.length with
  | none => simp
  | some now => simp [sameF_iff]
theorem diskOk_live {d : Dk} (h : diskOk d = true) : filesOk d.live = true := by
  obtain ⟨h1, _, h3⟩ := diskOk_iff.1 h
  exact chainTo_ok h1 _ _ _ h3
end Go.Proofs.Ytgmjdalfbebgbaa
