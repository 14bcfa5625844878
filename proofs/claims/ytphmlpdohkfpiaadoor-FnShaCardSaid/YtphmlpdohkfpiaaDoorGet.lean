/- Bytes as a number, the highest first: the program's way and the reference's. -/
import Derived.Test.YtphmlpdohkfpiaaDoorBytesOf
namespace Go.Proofs.YtphmlpdohkfpiaaDoor
open Go.ChangeShapes Go.WideShapes Go.ChangeAt Go.RowKit
set_option linter.unusedVariables false

theorem ret_int {k : IntKind} {a b : Int} (h : a = b) : Ending.returned (.int k a) = .returned (.int k b) := by rw [h]

/-- The number that bytes tell, the highest first. -/
def getN (l : List UInt8) : Int := l.foldl (fun n c => n * 256 + (c.toNat : Int)) 0
/-- The same of a string. -/
def getB (s : ByteArray) : Int := getN s.data.toList
theorem getN_snoc (l : List UInt8) (c : UInt8) : getN (l ++ [c]) = getN l * 256 + (c.toNat : Int) := by simp [getN]
theorem getN_bound : ∀ (k : Nat) (l : List UInt8), l.length ≤ k → k ≤ 7 → 0 ≤ getN l ∧ getN l < (256 : Int) ^ k := by
  intro k
  induction k with
  | zero =>
    intro l h _
    obtain rfl : l = [] := List.eq_nil_of_length_eq_zero (by omega)
    simp [getN]
  | succ k ih =>
    intro l h hk
    rcases List.eq_nil_or_concat l with rfl | ⟨l', c, rfl⟩
    · simp [getN]; exact Int.pow_pos (by omega)
    · rw [List.concat_eq_append, getN_snoc]
      have hb := ih l' (by simp at h; omega) (by omega)
      have hc : (c.toNat : Int) < 256 := by have := c.toNat_lt; omega
      rw [Int.pow_succ]
      omega
theorem getB_bound (s : ByteArray) (h : s.size ≤ 4) : 0 ≤ getB s ∧ getB s < 4294967296 := getN_bound 4 _ (by simpa using h) (by omega)
theorem getN_take (s : ByteArray) (k : Nat) (hs : s.size ≤ 7) (hk : k < s.size) : 0 ≤ getN (s.data.toList.take k) ∧ getN (s.data.toList.take k) < 281474976710656 := by
  have := getN_bound 6 (s.data.toList.take k) (by have := List.length_take_le k s.data.toList; omega) (by omega)
  exact this
theorem take_snoc (s : ByteArray) (k : Nat) (h : k < s.size) : s.data.toList.take (k + 1) = s.data.toList.take k ++ [s[k]] := by
  rw [List.take_succ_eq_append_getElem (by simpa using h)]; rfl
theorem take_all (s : ByteArray) (k : Nat) (h : s.size ≤ k) : s.data.toList.take k = s.data.toList := List.take_of_length_le (by simpa using h)

set_option maxHeartbeats 400000 in
theorem get_spec (s : ByteArray) (hs : s.size ≤ 7) (w : World) :
    Calls Tryd.prog 56 #[.string s] w fun e w' => e = .returned (.int .i64 (getB s)) ∧ w = w' := by
  go_enter Tryd.func56, Tryd.ntmps56
  go_wp2
  go_loop [3, 4] (fun n i => ∃ k : Nat, k ≤ s.size ∧ i = .int .i64 k ∧ n = .int .i64 (getN (s.data.toList.take k))) (fun _ i => s.size - (intOf i).toNat)
  case atStart => exact ⟨0, Nat.zero_le _, rfl, rfl⟩
  case round =>
    obtain ⟨k, hk, rfl, rfl⟩ := hrel
    by_cases hlt : k < s.size
    · have hb := getN_take s k hs hlt
      have hsn := getN_snoc (s.data.toList.take k) s[k]
      rw [← take_snoc s k hlt] at hsn
      have HS := Lib.hid hsn
      clear hsn
      have hc : (s[k].toNat : Int) < 256 := by have := s[k].toNat_lt; omega
      go_wp2
      go_round
      case rel => exact ⟨k + 1, by omega, by go_num, by rw [HS.out]; first | rfl | (congr 1; omega)⟩
      case measure => simp [intOf]; omega
    · go_wp2
      go_returns
      exact ⟨ret_int (by rw [take_all s k (by omega)]; rfl), rfl⟩

set_option maxHeartbeats 400000 in
theorem get_impl (s : ByteArray) (hs : s.size ≤ 7) (w : World) :
    Calls Tryd.prog 67 #[.string s] w fun e w' => e = .returned (.int .i64 (getB s)) ∧ w = w' := by
  go_enter Tryd.func67, Tryd.ntmps67
  go_wp2
  go_loop [3, 7] (fun n i => ∃ k : Nat, k ≤ s.size ∧ i = .int .i64 k ∧ n = .int .i64 (getN (s.data.toList.take k))) (fun _ i => s.size - (intOf i).toNat)
  case atStart => exact ⟨0, Nat.zero_le _, rfl, rfl⟩
  case round =>
    obtain ⟨k, hk, rfl, rfl⟩ := hrel
    by_cases hlt : k < s.size
    · have hb := getN_take s k hs hlt
      have hsn := getN_snoc (s.data.toList.take k) s[k]
      rw [← take_snoc s k hlt] at hsn
      have HS := Lib.hid hsn
      clear hsn
      have hc : (s[k].toNat : Int) < 256 := by have := s[k].toNat_lt; omega
      go_wp2
      go_round
      case rel => exact ⟨k + 1, by omega, by go_num, by rw [HS.out]⟩
      case measure => simp [intOf]; omega
    · go_wp2
      go_returns
      exact ⟨ret_int (by rw [take_all s k (by omega)]; rfl), rfl⟩
end Go.Proofs.YtphmlpdohkfpiaaDoor
