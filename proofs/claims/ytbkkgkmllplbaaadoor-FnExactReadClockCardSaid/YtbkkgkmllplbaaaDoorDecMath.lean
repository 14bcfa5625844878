/- Words between blanks, and numbers in decimal read back: no memory in this text. -/
import Derived.Test.YtbkkgkmllplbaaaDoorDecS
import Derived.Test.YtbkkgkmllplbaaaDoorCutS
import Derived.Lib.SplitLaws
import Derived.Lib.IndexLaws
import Derived.Lib.IndexBytes
import Derived.Lib.AtoiTie
import Derived.Lib.ParseIntBTie
namespace Go.Proofs.YtbkkgkmllplbaaaDoor
open Go.ChangeShapes Go.WideShapes Go.ChangeAt Go.RowKit
set_option linter.unusedVariables false
set_option linter.unusedSimpArgs false

/-- What stands between blanks. -/
def wordsOf (s : ByteArray) : List ByteArray := Lib.splitB ⟨#[32]⟩ 0 (Lib.countB s ⟨#[32]⟩) s
theorem index_hit {s : ByteArray} {k : Nat} (hk : k < s.size) (hc : s[k] = 32) (hn : NoneTo s 32 k) : Lib.indexB s ⟨#[32]⟩ = k := by
  show Lib.index s.data.toList [32] = k
  rw [Lib.index_one]
  have hl : s.data.toList[k]? = some 32 := by
    rw [Array.getElem?_toList, ← hc]
    exact Array.getElem?_eq_getElem (by simpa using hk)
  have hge := Lib.indexByte_ge s.data.toList 32
  rcases Int.lt_or_le (Lib.indexByte s.data.toList 32) 0 with h | h
  · exact absurd hl (Lib.indexByte_none (by omega) k)
  · obtain ⟨o, ho⟩ : ∃ o : Nat, Lib.indexByte s.data.toList 32 = o := ⟨(Lib.indexByte s.data.toList 32).toNat, by omega⟩
    obtain ⟨h1, h2⟩ := Lib.indexByte_some ho
    rcases Nat.lt_trichotomy o k with h | h | h
    · exact absurd rfl (hn o 32 h h1)
    · rw [ho, h]
    · exact absurd hl (h2 k h)
theorem index_miss {s : ByteArray} (hn : NoneTo s 32 s.size) : Lib.indexB s ⟨#[32]⟩ = -1 := by
  show Lib.index s.data.toList [32] = -1
  rw [Lib.index_one]
  have hge := Lib.indexByte_ge s.data.toList 32
  rcases Int.lt_or_le (Lib.indexByte s.data.toList 32) 0 with h | h
  · omega
  · obtain ⟨o, ho⟩ : ∃ o : Nat, Lib.indexByte s.data.toList 32 = o := ⟨(Lib.indexByte s.data.toList 32).toNat, by omega⟩
    obtain ⟨h1, h2⟩ := Lib.indexByte_some ho
    have hlt := (List.getElem?_eq_some_iff.1 h1).1
    exact absurd rfl (hn o 32 (by simpa using hlt) h1)
theorem wordsOf_hit {s : ByteArray} {k : Nat} (hk : k < s.size) (hc : s[k] = 32) (hn : NoneTo s 32 k) : wordsOf s = s.extract 0 k :: wordsOf (s.extract (k + 1) s.size) := by
  have hi := index_hit hk hc hn
  unfold wordsOf
  rw [Lib.countB_hit s ⟨#[32]⟩ k (by decide) hi, Nat.add_comm 1, Lib.splitB_hit _ 0 _ s k hi]
  rfl
theorem wordsOf_miss {s : ByteArray} (hn : NoneTo s 32 s.size) : wordsOf s = [s] := Lib.splitB_miss _ _ _ _ (index_miss hn)
theorem wordsOf_length (s : ByteArray) : (wordsOf s).length = Lib.countB s ⟨#[32]⟩ + 1 := Lib.splitB_all _ (by decide) 0 _ s rfl
theorem wordsOf_le (s : ByteArray) : (wordsOf s).length ≤ s.size + 1 := by
  have := Lib.countB_le ⟨#[32]⟩ (by decide) s.size s (Nat.le_refl _)
  rw [wordsOf_length]
  omega
def NoBl (a : ByteArray) : Prop := ∀ x ∈ a.data.toList, x ≠ 32
theorem NoBl.to {a b : ByteArray} (h : NoBl a) : NoneTo (a ++ b) 32 a.size := fun j x hj hx => by
  have hj' : j < a.data.toList.length := by simpa using hj
  have e : (a ++ b).data.toList = a.data.toList ++ b.data.toList := by simp
  rw [e, List.getElem?_append_left hj'] at hx
  exact h x (List.mem_of_getElem? hx)
theorem wordsOf_one {a : ByteArray} (h : NoBl a) : wordsOf a = [a] := wordsOf_miss fun j x _ hx => h x (List.mem_of_getElem? hx)
theorem wordsOf_cons {a b : ByteArray} (h : NoBl a) : wordsOf (a ++ ⟨#[32]⟩ ++ b) = a :: wordsOf b := by
  have e : (a ++ ⟨#[32]⟩ ++ b).data.toList = a.data.toList ++ 32 :: b.data.toList := by simp
  have hsz : (a ++ ⟨#[32]⟩ ++ b).size = a.size + 1 + b.size := by rw [ByteArray.size_append, ByteArray.size_append]; rfl
  have hal : a.data.toList.length = a.size := by simp
  have hk : a.size < (a ++ ⟨#[32]⟩ ++ b).size := by omega
  have hat : (a ++ ⟨#[32]⟩ ++ b)[a.size] = 32 := by
    have h1 : (a ++ ⟨#[32]⟩ ++ b).data.toList[a.size]? = some (a ++ ⟨#[32]⟩ ++ b)[a.size] := by
      rw [Array.getElem?_toList]
      exact Array.getElem?_eq_getElem (by exact hk)
    rw [e, List.getElem?_append_right (by omega), hal, Nat.sub_self] at h1
    exact (Option.some.inj h1).symm
  have hn : NoneTo (a ++ ⟨#[32]⟩ ++ b) 32 a.size := by rw [ByteArray.append_assoc]; exact h.to
  rw [wordsOf_hit hk hat hn]
  have e1 : (a ++ ⟨#[32]⟩ ++ b).extract 0 a.size = a := by
    apply ByteArray.ext
    apply Array.toList_inj.1
    rw [Lib.extract_from_zero, e, List.take_append_of_le_length (by omega), List.take_of_length_le (by omega)]
  have e2 : (a ++ ⟨#[32]⟩ ++ b).extract (a.size + 1) (a ++ ⟨#[32]⟩ ++ b).size = b := by
    apply ByteArray.ext
    apply Array.toList_inj.1
    rw [Lib.extract_to_end, e, ← hal, List.drop_append, List.drop_of_length_le (by omega), show a.data.toList.length + 1 - a.data.toList.length = 1 by omega]
    rfl
  rw [e1, e2]
theorem of_wordsOf {s w : ByteArray} {r : List ByteArray} (h : wordsOf s = w :: r) : (r = [] ∧ s = w) ∨ ∃ s', s = w ++ ⟨#[32]⟩ ++ s' ∧ wordsOf s' = r := by
  rcases Lib.indexB_cases s ⟨#[32]⟩ with hix | ⟨i, hix, hroom⟩
  · have h1 : wordsOf s = [s] := Lib.splitB_miss _ _ _ _ hix
    rw [h1] at h
    injection h with h2 h3
    exact .inl ⟨h3.symm, h2⟩
  · right
    have hx : Lib.indexByte s.data.toList 32 = i := by rw [← Lib.index_one]; exact hix
    obtain ⟨h1, h2⟩ := Lib.indexByte_some hx
    obtain ⟨hlt, hat⟩ := List.getElem?_eq_some_iff.1 h1
    unfold wordsOf at h
    rw [Lib.countB_hit s ⟨#[32]⟩ i (by decide) hix, Nat.add_comm 1, Lib.splitB_hit _ 0 _ s i hix] at h
    injection h with h3 h4
    refine ⟨s.extract (i + 1) s.size, ?_, h4⟩
    rw [← h3]
    apply ByteArray.ext
    apply Array.toList_inj.1
    have e : (s.extract 0 (i + 0) ++ ⟨#[32]⟩ ++ s.extract (i + 1) s.size).data.toList = (s.extract 0 (i + 0)).data.toList ++ 32 :: (s.extract (i + 1) s.size).data.toList := by simp
    rw [e, Lib.extract_from_zero, Lib.extract_to_end, Nat.add_zero]
    conv => lhs; rw [← List.take_append_drop i s.data.toList, List.drop_eq_getElem_cons hlt, hat]

/-- Digits. -/
theorem decDigits_dig : ∀ (u : Nat), ∀ x ∈ Lib.decDigits u, 48 ≤ x.toNat ∧ x.toNat ≤ 57 := by
  intro u
  induction u using Nat.strongRecOn with
  | _ u ih =>
    intro x hx
    rw [Lib.decDigits] at hx
    have hd : ∀ d : Nat, d < 10 → (UInt8.ofNat (48 + d)).toNat = 48 + d := fun d h => by
      rw [UInt8.toNat_ofNat']; omega
    split at hx
    · rename_i h
      rw [List.mem_singleton] at hx
      rw [hx, hd u h]; omega
    · rename_i h
      rw [List.mem_append, List.mem_singleton] at hx
      rcases hx with hx | hx
      · exact ih (u / 10) (by omega) x hx
      · rw [hx, hd (u % 10) (by omega)]; omega
theorem decFrom_snoc : ∀ (l : List UInt8) (acc n : Nat) (b : UInt8) (d : Nat), Lib.decFrom acc l = some n → Lib.digitVal b = some d → Lib.decFrom acc (l ++ [b]) = some (n * 10 + d)
  | [], acc, n, b, d, h, hb => by
    simp only [Lib.decFrom, Option.some.injEq] at h
    subst h
    simp [Lib.decFrom, hb]
  | c :: r, acc, n, b, d, h, hb => by
    simp only [List.cons_append, Lib.decFrom] at h ⊢
    cases hc : Lib.digitVal c with
    | none => rw [hc] at h; cases h
    | some e => rw [hc] at h; exact decFrom_snoc r _ n b d h hb
theorem digitVal_of (d : Nat) (h : d < 10) : Lib.digitVal (UInt8.ofNat (48 + d)) = some d := by
  have e : (UInt8.ofNat (48 + d)).toNat = 48 + d := by rw [UInt8.toNat_ofNat']; omega
  unfold Lib.digitVal
  rw [e, if_pos (by omega)]
  congr 1
  omega
theorem decFrom_dec : ∀ (u : Nat), Lib.decFrom 0 (Lib.decDigits u) = some u := by
  intro u
  induction u using Nat.strongRecOn with
  | _ u ih =>
    rw [Lib.decDigits]
    split
    · rename_i h
      simp only [Lib.decFrom, digitVal_of u h]
      simp
    · rename_i h
      rw [decFrom_snoc _ 0 (u / 10) _ (u % 10) (ih (u / 10) (by omega)) (digitVal_of _ (by omega))]
      congr 1
      omega
theorem decDigits_ne (u : Nat) : Lib.decDigits u ≠ [] := by
  rw [Lib.decDigits]
  split <;> simp
theorem dec_head : ∀ (u : Nat), 1 ≤ u → (Lib.decDigits u)[0]? ≠ some 48 := by
  intro u
  induction u using Nat.strongRecOn with
  | _ u ih =>
    intro h1
    rw [Lib.decDigits]
    split
    · rename_i h
      intro e
      have e1 := Option.some.inj e
      have e2 : (UInt8.ofNat (48 + u)).toNat = 48 + u := by rw [UInt8.toNat_ofNat']; omega
      rw [e1] at e2
      have : (48 : UInt8).toNat = 48 := rfl
      omega
    · rename_i h
      have hl : 0 < (Lib.decDigits (u / 10)).length := List.length_pos_iff.2 (decDigits_ne _)
      rw [List.getElem?_append_left hl]
      exact ih (u / 10) (by omega) (by omega)
theorem dec_short : ∀ (k u : Nat), u < 10 ^ (k + 1) → (Lib.decDigits u).length ≤ k + 1
  | 0, u, h => by
    rw [Lib.decDigits, dif_pos (by simpa using h)]
    simp
  | k + 1, u, h => by
    rw [Lib.decDigits]
    split
    · simp
    · have := dec_short k (u / 10) (by rw [Nat.pow_succ] at h; omega)
      rw [List.length_append, List.length_singleton]
      omega
/-- The greatest number that is read. -/
def maxDec : Int := 9999999999999999
/-- Sixteen digits at most, no nought ahead. -/
def digL (l : List UInt8) : Option Nat := if l.length < 1 ∨ 16 < l.length ∨ (l[0]? = some 48 ∧ 1 < l.length) then none else Lib.decFrom 0 l
def negL : List UInt8 → Bool
  | b :: c :: _ => b == 45 && (c != 48 && c != 45)
  | _ => false
/-- The reference's number. -/
def numV (s : ByteArray) : Option Int := if negL s.data.toList then (digL s.data.toList.tail).map (fun (m : Nat) => -(m : Int)) else (digL s.data.toList).map (fun (m : Nat) => (m : Int))
theorem digL_dec {u : Nat} (h : u ≤ 9999999999999999) : digL (Lib.decDigits u) = some u := by
  have h1 : 0 < (Lib.decDigits u).length := List.length_pos_iff.2 (decDigits_ne _)
  have h2 := dec_short 15 u (by omega)
  unfold digL
  rw [if_neg, decFrom_dec]
  rintro (h | h | ⟨h, h'⟩)
  · omega
  · omega
  · rcases Nat.eq_zero_or_pos u with rfl | hp
    · rw [Lib.decDigits] at h'
      simp at h'
    · exact dec_head u hp h
theorem digL_lt {l : List UInt8} {m : Nat} (h : digL l = some m) : m ≤ 9999999999999999 := by
  unfold digL at h
  split at h
  · cases h
  · rename_i hn
    have h1 := Lib.decFrom_lt l 0 m h
    have h2 : 10 ^ l.length ≤ 10 ^ 16 := Nat.pow_le_pow_right (by decide) (by omega)
    omega
theorem numV_bound {s : ByteArray} {n : Int} (h : numV s = some n) : -maxDec ≤ n ∧ n ≤ maxDec := by
  unfold maxDec
  unfold numV at h
  split at h
  · cases hd : digL s.data.toList.tail with
    | none => rw [hd] at h; cases h
    | some m =>
      rw [hd] at h
      have := digL_lt hd
      have : -(m : Int) = n := Option.some.inj h
      omega
  · cases hd : digL s.data.toList with
    | none => rw [hd] at h; cases h
    | some m =>
      rw [hd] at h
      have := digL_lt hd
      have : (m : Int) = n := Option.some.inj h
      omega
theorem decB_data (n : Int) : (decB n).data.toList = Lib.itoa n := by simp [decB]
theorem dec_cons (u : Nat) : ∃ c r, Lib.decDigits u = c :: r ∧ 48 ≤ c.toNat ∧ c.toNat ≤ 57 := by
  cases e : Lib.decDigits u with
  | nil => exact absurd e (decDigits_ne u)
  | cons c r =>
    have := decDigits_dig u c (by rw [e]; exact List.mem_cons_self ..)
    exact ⟨c, r, rfl, this⟩
theorem ne_of_dig {c : UInt8} (h : 48 ≤ c.toNat) : c ≠ 45 ∧ c ≠ 43 ∧ c ≠ 32 := by
  refine ⟨?_, ?_, ?_⟩ <;> (rintro rfl; revert h; decide)
theorem numV_dec {n : Int} (h : -maxDec ≤ n ∧ n ≤ maxDec) : numV (decB n) = some n := by
  unfold maxDec at h
  unfold numV
  rw [decB_data]
  unfold Lib.itoa
  by_cases hn : n < 0
  · rw [if_pos hn]
    obtain ⟨c, r, e, h1, h2⟩ := dec_cons n.natAbs
    have hc := ne_of_dig h1
    have hh := dec_head n.natAbs (by omega)
    rw [e] at hh
    have h48 : c ≠ 48 := fun x => hh (by rw [x]; rfl)
    have hneg : negL (45 :: Lib.decDigits n.natAbs) = true := by
      rw [e]
      simp [negL, h48, hc.1]
    rw [if_pos hneg, List.tail_cons, digL_dec (by omega)]
    simp only [Option.map_some, Option.some.injEq]
    omega
  · rw [if_neg hn]
    obtain ⟨c, r, e, h1, h2⟩ := dec_cons n.toNat
    have hc := ne_of_dig h1
    have hneg : ¬ negL (Lib.decDigits n.toNat) = true := by
      rw [e]
      cases r with
      | nil => simp [negL]
      | cons d r => simp [negL, hc.1]
    rw [if_neg hneg, digL_dec (by omega)]
    simp only [Option.map_some, Option.some.injEq]
    omega
theorem numV_empty : numV ⟨#[]⟩ = none := by simp [numV, negL, digL]
theorem decB_noBl (n : Int) : NoBl (decB n) := by
  intro x hx
  rw [decB_data] at hx
  unfold Lib.itoa at hx
  split at hx
  · rcases List.mem_cons.1 hx with rfl | hx
    · decide
    · exact (ne_of_dig (decDigits_dig _ x hx).1).2.2
  · exact (ne_of_dig (decDigits_dig _ x hx).1).2.2
theorem atoi_itoa {n : Int} (h : -maxDec ≤ n ∧ n ≤ maxDec) : Lib.parseIntB 64 (Lib.itoa n) = .ok n := by
  unfold maxDec at h
  rw [Lib.parseIntB_64]
  have hz : (Lib.itoa n).length ≤ 18 ∧ Lib.atoi (Lib.itoa n) = some n := by
    unfold Lib.itoa
    by_cases hn : n < 0
    · rw [if_pos hn]
      have h2 := dec_short 15 n.natAbs (by omega)
      refine ⟨by rw [List.length_cons]; omega, ?_⟩
      have hd : Lib.decNat (Lib.decDigits n.natAbs) = some n.natAbs := by
        unfold Lib.decNat
        rw [if_neg (by simpa using decDigits_ne _), decFrom_dec]
      simp only [Lib.atoi, beq_self_eq_true, if_true, hd, Option.map_some, Option.some.injEq]
      omega
    · rw [if_neg hn]
      have h2 := dec_short 15 n.toNat (by omega)
      refine ⟨by omega, ?_⟩
      have hd : Lib.decNat (Lib.decDigits n.toNat) = some n.toNat := by
        unfold Lib.decNat
        rw [if_neg (by simpa using decDigits_ne _), decFrom_dec]
      obtain ⟨c, r, e, h1, _⟩ := dec_cons n.toNat
      have hc := ne_of_dig h1
      rw [e] at hd ⊢
      simp only [Lib.atoi]
      rw [if_neg (by simpa using hc.1), if_neg (by simpa using hc.2.1), hd]
      simp only [Option.map_some, Option.some.injEq]
      omega
  rw [Lib.atoiAll_short _ hz.1, hz.2]
  rfl
/-- The program's number: read, in bounds, and the same when written again. -/
def readV (s : ByteArray) : Option Int := match Lib.parseIntB 64 s.data.toList with
  | .ok n => if (-maxDec ≤ n ∧ n ≤ maxDec) ∧ decB n = s then some n else none
  | _ => none
theorem readV_iff {s : ByteArray} {n : Int} : readV s = some n ↔ (-maxDec ≤ n ∧ n ≤ maxDec) ∧ decB n = s := by
  constructor
  · intro h
    unfold readV at h
    split at h
    · rename_i v hv
      split at h
      · rename_i hc
        rw [← Option.some.inj h]
        exact hc
      · cases h
    · cases h
  · rintro ⟨h, rfl⟩
    unfold readV
    rw [decB_data, atoi_itoa h]
    simp [h]
/-- All words are read, so. -/
def Told (f : ByteArray → Option Int) (ws : List ByteArray) (xs : List Int) : Prop := ws.map f = xs.map some
theorem Told.length {f : ByteArray → Option Int} {ws : List ByteArray} {xs : List Int} (h : Told f ws xs) : ws.length = xs.length := by
  have := congrArg List.length h
  simpa using this
theorem Told.snoc {f : ByteArray → Option Int} {ws : List ByteArray} {xs : List Int} {k : Nat} {w : ByteArray} {x : Int} (h : Told f (ws.take k) xs) (hw : ws[k]? = some w) (hx : f w = some x) : Told f (ws.take (k + 1)) (xs ++ [x]) := by
  unfold Told at h ⊢
  obtain ⟨hl, rfl⟩ := List.getElem?_eq_some_iff.1 hw
  rw [List.take_succ_eq_append_getElem hl, List.map_append, List.map_append, h]
  simp [hx]
theorem Told.read {ws : List ByteArray} {xs : List Int} (h : Told readV ws xs) : ws = xs.map decB ∧ ∀ x ∈ xs, -maxDec ≤ x ∧ x ≤ maxDec := by
  unfold Told at h
  induction ws generalizing xs with
  | nil =>
    cases xs with
    | nil => exact ⟨rfl, fun x hx => by cases hx⟩
    | cons => simp at h
  | cons w ws ih =>
    cases xs with
    | nil => simp at h
    | cons x xs =>
      simp only [List.map_cons, List.cons.injEq] at h
      obtain ⟨h1, h2⟩ := readV_iff.1 h.1
      obtain ⟨h3, h4⟩ := ih h.2
      refine ⟨by rw [List.map_cons, ← h3, h2], fun y hy => ?_⟩
      rcases List.mem_cons.1 hy with rfl | hy
      · exact h1
      · exact h4 y hy
theorem told_dec {f : ByteArray → Option Int} (hf : ∀ n, (-maxDec ≤ n ∧ n ≤ maxDec) → f (decB n) = some n) {xs : List Int} (h : ∀ x ∈ xs, -maxDec ≤ x ∧ x ≤ maxDec) : Told f (xs.map decB) xs := by
  unfold Told
  rw [List.map_map]
  apply List.map_congr_left
  intro x hx
  exact hf x (h x hx)
theorem readV_dec (n : Int) (h : -maxDec ≤ n ∧ n ≤ maxDec) : readV (decB n) = some n := readV_iff.2 ⟨h, rfl⟩
theorem decB_inj {a b : Int} (ha : -maxDec ≤ a ∧ a ≤ maxDec) (hb : -maxDec ≤ b ∧ b ≤ maxDec) (h : decB a = decB b) : a = b := by
  have h1 := readV_dec a ha
  rw [h, readV_dec b hb] at h1
  exact (Option.some.inj h1).symm
end Go.Proofs.YtbkkgkmllplbaaaDoor
