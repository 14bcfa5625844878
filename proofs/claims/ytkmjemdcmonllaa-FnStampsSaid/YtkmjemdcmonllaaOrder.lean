/- The order of stamps and lengths as bytes is their order as numbers. -/
import Derived.Test.YtkmjemdcmonllaaStamp
import Derived.Test.YtkmjemdcmonllaaShort
namespace Go.Proofs.Ytkmjemdcmonllaa
open Go.ChangeShapes Go.WideShapes Go.ChangeAt Go.RowKit
set_option linter.unusedVariables false

theorem put4_toList (n : Int) : (put4 n).toList = [UInt8.ofNat (n / 16777216 % 256).toNat, UInt8.ofNat (n / 65536 % 256).toNat, UInt8.ofNat (n / 256 % 256).toNat, UInt8.ofNat (n % 256).toNat] := by
  rw [ByteArray.toList_eq]; rfl
theorem lt_byte (x y : Int) (hx : 0 ≤ x ∧ x < 256) (hy : 0 ≤ y ∧ y < 256) : decide (UInt8.ofNat x.toNat < UInt8.ofNat y.toNat) = decide (x < y) := by
  rw [Bool.eq_iff_iff, decide_eq_true_iff, decide_eq_true_iff, UInt8.lt_iff_toNat_lt, UInt8.toNat_ofNat', UInt8.toNat_ofNat']
  omega
theorem eq_byte (x y : Int) (hx : 0 ≤ x ∧ x < 256) (hy : 0 ≤ y ∧ y < 256) : (UInt8.ofNat x.toNat == UInt8.ofNat y.toNat) = decide (x = y) := by
  rw [Bool.eq_iff_iff, beq_iff_eq, decide_eq_true_iff, ← UInt8.toNat_inj, UInt8.toNat_ofNat', UInt8.toNat_ofNat']
  omega

theorem less_put4 (a b : Int) (ha : 0 ≤ a ∧ a < 4294967296) (hb : 0 ≤ b ∧ b < 4294967296) : Op.bytesLess (put4 a).toList (put4 b).toList = decide (a < b) := by
  rw [put4_toList, put4_toList]
  simp only [Op.bytesLess, Bool.and_false, Bool.or_false]
  rw [lt_byte _ _ (by omega) (by omega), lt_byte _ _ (by omega) (by omega), lt_byte _ _ (by omega) (by omega), lt_byte _ _ (by omega) (by omega), eq_byte _ _ (by omega) (by omega), eq_byte _ _ (by omega) (by omega), eq_byte _ _ (by omega) (by omega)]
  rw [Bool.eq_iff_iff]
  simp only [Bool.or_eq_true, Bool.and_eq_true, decide_eq_true_iff]
  have e1 : a / 16777216 = a / 256 / 256 / 256 := by omega
  have e2 : a / 65536 = a / 256 / 256 := by omega
  have e3 : b / 16777216 = b / 256 / 256 / 256 := by omega
  have e4 : b / 65536 = b / 256 / 256 := by omega
  rw [e1, e2, e3, e4]
  clear e1 e2 e3 e4
  omega

theorem less_append : ∀ (a b c d : List UInt8), a.length = b.length → Op.bytesLess (a ++ c) (b ++ d) = (Op.bytesLess a b || (a == b && Op.bytesLess c d))
  | [], [], c, d, _ => by simp [Op.bytesLess]
  | x :: a, y :: b, c, d, h => by
    have ih := less_append a b c d (by simpa using h)
    simp only [List.cons_append, Op.bytesLess, ih]
    rw [show (x :: a == y :: b) = (x == y && a == b) from rfl]
    cases decide (x < y) <;> cases (x == y) <;> simp

/-- The lengths' bytes are never less. -/
theorem short_more (a b : Int) (ha : 0 ≤ a ∧ a ≤ b) (hb : b ≤ 65535000000) : Op.bytesLess (shortB b).toList (shortB a).toList = false := by
  unfold shortB
  rw [if_pos (by omega), if_pos (by omega), less_put4 _ _ (by omega) (by omega)]
  simp only [decide_eq_false_iff_not]
  omega

theorem append_toList (a b : ByteArray) : (a ++ b).toList = a.toList ++ b.toList := by
  rw [ByteArray.toList_eq, ByteArray.toList_eq, ByteArray.toList_eq]
  simp
theorem put4_length (n : Int) : (put4 n).toList.length = 4 := by rw [put4_toList]; rfl

theorem stampB_some {t : Int} (h : 0 ≤ t ∧ t ≤ 4000000000000000) : stampB t = put4 (t / 1000000) ++ put4 (t % 1000000 * 4294967296 / 1000000) := if_pos h
theorem stampB_none {t : Int} (h : ¬ (0 ≤ t ∧ t ≤ 4000000000000000)) : stampB t = ⟨#[]⟩ := if_neg h
theorem stampB_full {t : Int} (h : 0 ≤ t ∧ t ≤ 4000000000000000) : (stampB t).toList.isEmpty = false := by
  rw [stampB_some h, append_toList, put4_toList]
  rfl

/-- A later time has a later stamp. -/
theorem stamp_less (t u : Int) (h0 : 0 ≤ t) (h : t < u) (h1 : u ≤ 4000000000000000) : Op.bytesLess (stampB t).toList (stampB u).toList = true := by
  rw [stampB_some (by omega), stampB_some (by omega), append_toList, append_toList, less_append _ _ _ _ (by rw [put4_length, put4_length]), less_put4 _ _ (by omega) (by omega), less_put4 _ _ (by omega) (by omega)]
  by_cases hs : t / 1000000 < u / 1000000
  · simp [hs]
  · have e : t / 1000000 = u / 1000000 := by omega
    rw [e]
    have hf : t % 1000000 * 4294967296 / 1000000 < u % 1000000 * 4294967296 / 1000000 := by omega
    simp [hf]
end Go.Proofs.Ytkmjemdcmonllaa
