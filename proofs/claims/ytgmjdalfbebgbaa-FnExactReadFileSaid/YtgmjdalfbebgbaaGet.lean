/- Bytes as a number, the highest first: the program's way and the reference's. -/
import Derived.Test.YtgmjdalfbebgbaaBytesOf
namespace Go.Proofs.Ytgmjdalfbebgbaa
open Go.ChangeShapes Go.WideShapes Go.ChangeAt Go.RowKit
set_option linter.unusedVariables false

theorem ret_int {k : IntKind} {a b : Int} (h : a = b) : Ending.returned (.int k a) = .returned (.int k b) := by rw [h]

/-- The number that bytes tell, the highest first. -/
def getN (l : List UInt8) : Int := l.foldl (fun n c => n * 256 + (c.toNat : Int)) 0
/-- The same of a string. -/
def getB (s : ByteArray) : Int := getN s.data.toList
theorem getN_snoc (l : List UInt8) (c : UInt8) : getN (l ++ [c]) = getN l * 256 + (c.toNat : Int) := by simp [getN]
theorem getN_bound : ∀ (k : Nat) (l : List UInt8), l.length ≤ k → k ≤ 7 → 0 ≤ getN l ∧ getN l < (256 : Int) ^ k := by
  intro k
  induction k with
  | zero =>
    intro l h _
    obtain rfl : l = [] := List.eq_nil_of_length_eq_zero (by omega)
    simp [getN]
  | succ k ih =>
    intro l h hk
    rcases List.eq_nil_or_concat l with rfl | ⟨l', c, rfl⟩
    · simp [getN]; exact Int.pow_pos (by omega)
    · rw [List.concat_eq_append, getN_snoc]
      have hb := ih l' (by simp at h; omega) (by omega)
      have hc : (c.toNat : Int) < 256 := by have := c.toNat_lt; omega
      rw [Int.pow_succ]
      omega
theorem getB_bound (s : ByteArray) (h : s.size ≤ 4) : 0 ≤ getB s ∧ getB s < 4294967296 := getN_bound 4 _ (by simpa using h) (by omega)
theorem getN_take (s : ByteArray) (k : Nat) (hs : s.size ≤ 7) (hk : k < s.size) : 0 ≤ getN (s.data.toList.take k) ∧ getN (s.data.toList.take k) < 281474976710656 := by
  have := getN_bound 6 (s.data.toList.take k) (by have := List.length_take_le k s.data.toList; omega) (by omega)
  exact this
theorem take_snoc (s : ByteArray) (k : Nat) (h : k < s.size) : s.data.toList.take (k + 1) = s.data.toList.take k ++ [s[k]] := by
  rw [List.take_succ_eq_append_getElem (by simpa using h)]; rfl
theorem take_all (s : ByteArray) (k : Nat) (h : s.size ≤ k) : s.data.toList.take k = s.data.toList := List.take_of_length_le (by simpa using h)

end Go.Proofs.Ytgmjdalfbebgbaa
