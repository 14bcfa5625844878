/- The CRC-32 of a text: the program's way and the reference's. -/
import Derived.Test.YtejkjlfdadficaaCrcMath
import Derived.Test.YtejkjlfdadficaaGet
namespace Go.Proofs.Ytejkjlfdadficaa
open Go.ChangeShapes Go.WideShapes Go.ChangeAt Go.RowKit
set_option linter.unusedVariables false
set_option linter.unusedSimpArgs false

/-- A text's CRC-32 in four bytes, the lowest first. -/
def crcNums (c : Int) : List Int := [c % 256, c / 256 % 256, c / 65536 % 256, c / 16777216 % 256]
def crcB (s : ByteArray) : ByteArray := strOfNums (crcNums (crcV s.data.toList))
set_option maxRecDepth 100000 in
theorem crc_impl (s : ByteArray) (hs : s.size ≤ 1048576) (w : World) :
    Calls Try.prog 28 #[.string s] w fun e w' => e = .returned (.int .u32 (crcV s.data.toList)) ∧ w = w' := by
  go_enter Try.func28, Try.ntmps28
  go_wp2
  go_loop [3, 4, 7] (fun c _ i => ∃ k : Nat, k ≤ s.size ∧ i = .int .i64 k ∧ c = .int .u32 (crcL (s.data.toList.take k))) (fun _ _ i => s.size - (intOf i).toNat)
  case atStart => exact ⟨0, Nat.zero_le _, rfl, rfl⟩
  case round =>
    obtain ⟨k, hk, rfl, rfl⟩ := hrel
    obtain ⟨b0, b1⟩ := crcL_bound (s.data.toList.take k)
    obtain ⟨c, hc⟩ : ∃ c, crcL (s.data.toList.take k) = c := ⟨_, rfl⟩
    rw [hc] at b0 b1 ⊢
    by_cases hlt : k < s.size
    · have hsn := crcL_snoc (s.data.toList.take k) s[k]
      rw [← take_snoc s k hlt, hc] at hsn
      have HS := Lib.hid hsn
      have hb : (s[k].toNat : Int) < 256 := by have := s[k].toNat_lt; omega
      obtain ⟨x0, x1⟩ := xor_bound c (s[k].toNat : Int) b0 b1 (by omega) (by omega)
      obtain ⟨x, hx⟩ : ∃ x, bits .xor .u32 c (s[k].toNat : Int) = x := ⟨_, rfl⟩
      rw [hx] at x0 x1
      have HX := Lib.hid hx
      clear hsn hc
      go_wp2
      clear hx
      go_loop [3, 16] (fun c j => ∃ m : Nat, m ≤ 8 ∧ j = .int .i64 m ∧ c = .int .u32 (crcBits m x)) (fun _ j => 8 - (intOf j).toNat)
      case atStart => exact ⟨0, Nat.zero_le _, rfl, rfl⟩
      case round =>
        obtain ⟨m, hm, rfl, rfl⟩ := hrel
        obtain ⟨y0, y1⟩ := crcBits_bound m x x0 x1
        have HM := Lib.hid (show crcBits (m + 1) x = crcBit (crcBits m x) from rfl)
        obtain ⟨y, hy⟩ : ∃ y, crcBits m x = y := ⟨_, rfl⟩
        rw [hy] at y0 y1 HM ⊢
        have HY := Lib.hid hy
        clear hy
        by_cases hlm : m < 8
        · have ha := and_one y y0 y1
          have hp := crcBit_prog y y0 y1
          go_wp2
          go_round
          case rel => exact ⟨m + 1, by omega, by go_num, by rw [HM.out]⟩
          case measure => simp [intOf]; omega
        · have HE := Lib.hid (show crcByte c s[k] = y by unfold crcByte; rw [HX.out, ← HY.out, show m = 8 by omega])
          go_wp2
          go_round
          case rel => exact ⟨k + 1, by omega, by go_num, by rw [HS.out, HE.out]⟩
          case measure => simp [intOf]; omega
    · have HC := Lib.hid (show crcV s.data.toList = bits .xor .u32 IntKind.u32.max c by unfold crcV; rw [← hc, take_all s k (by omega)]; rfl)
      clear hc
      go_wp2
      go_returns
      exact ⟨by rw [HC.out]; rfl, rfl⟩
set_option maxRecDepth 100000 in
theorem sum_spec (s : ByteArray) (hs : s.size ≤ 1048576) (w : World) :
    Calls Try.prog 17 #[.string s] w fun e w' => e = .returned (.string (crcB s)) ∧ Below w.heap.size w w' := by
  go_enter Try.func17, Try.ntmps17
  go_wp2
  go_loop [3, 4] (fun c i => ∃ k : Nat, k ≤ s.size ∧ i = .int .i64 k ∧ c = .int .u32 (crcL (s.data.toList.take k))) (fun _ i => s.size - (intOf i).toNat)
  case atStart => exact ⟨0, Nat.zero_le _, rfl, rfl⟩
  case round =>
    obtain ⟨k, hk, rfl, rfl⟩ := hrel
    obtain ⟨b0, b1⟩ := crcL_bound (s.data.toList.take k)
    obtain ⟨c, hc⟩ : ∃ c, crcL (s.data.toList.take k) = c := ⟨_, rfl⟩
    rw [hc] at b0 b1 ⊢
    by_cases hlt : k < s.size
    · have hsn := crcL_snoc (s.data.toList.take k) s[k]
      rw [← take_snoc s k hlt, hc] at hsn
      have HS := Lib.hid hsn
      have hb : (s[k].toNat : Int) < 256 := by have := s[k].toNat_lt; omega
      obtain ⟨x0, x1⟩ := xor_bound c (s[k].toNat : Int) b0 b1 (by omega) (by omega)
      obtain ⟨x, hx⟩ : ∃ x, bits .xor .u32 c (s[k].toNat : Int) = x := ⟨_, rfl⟩
      rw [hx] at x0 x1
      have HX := Lib.hid hx
      clear hsn hc
      go_wp2
      clear hx
      go_loop [3, 5] (fun c j => ∃ m : Nat, m ≤ 8 ∧ j = .int .i64 m ∧ c = .int .u32 (crcBits m x)) (fun _ j => 8 - (intOf j).toNat)
      case atStart => exact ⟨0, Nat.zero_le _, rfl, rfl⟩
      case round =>
        obtain ⟨m, hm, rfl, rfl⟩ := hrel
        obtain ⟨y0, y1⟩ := crcBits_bound m x x0 x1
        have HM := Lib.hid (show crcBits (m + 1) x = crcBit (crcBits m x) from rfl)
        obtain ⟨y, hy⟩ : ∃ y, crcBits m x = y := ⟨_, rfl⟩
        rw [hy] at y0 y1 HM ⊢
        have HY := Lib.hid hy
        clear hy
        by_cases hlm : m < 8
        · by_cases ho : y % 2 = 1
          · have HO := Lib.hid (show crcBit y = bits .xor .u32 (y / 2) 3988292384 from if_pos ho)
            go_wp2
            go_round
            case rel => exact ⟨m + 1, by omega, by go_num, by rw [HM.out, HO.out]⟩
            case measure => simp [intOf]; omega
          · have HO := Lib.hid (show crcBit y = y / 2 from if_neg ho)
            go_wp2
            go_round
            case rel => exact ⟨m + 1, by omega, by go_num, by rw [HM.out, HO.out]⟩
            case measure => simp [intOf]; omega
        · have HE := Lib.hid (show crcByte c s[k] = y by unfold crcByte; rw [HX.out, ← HY.out, show m = 8 by omega])
          go_wp2
          go_round
          case rel => exact ⟨k + 1, by omega, by go_num, by rw [HS.out, HE.out]⟩
          case measure => simp [intOf]; omega
    · have HC : crcV s.data.toList = bits .xor .u32 IntKind.u32.max c := by unfold crcV; rw [← hc, take_all s k (by omega)]; rfl
      obtain ⟨v0, v1⟩ := crcV_bound s.data.toList
      obtain ⟨v, hv⟩ : ∃ v, crcV s.data.toList = v := ⟨_, rfl⟩
      rw [hv] at v0 v1
      have hx : bits .xor .u32 IntKind.u32.max c = v := by rw [← HC, hv]
      have HV := Lib.hid hv
      clear HC hc hv
      have hc := run_convert_bytes_arg (P := Try.prog) (w.alloc (.cells #[.int .u8 (v % 256), .int .u8 (v / 256 % 256), .int .u8 (v / 65536 % 256), .int .u8 (v / 16777216 % 256)] 5)) 29 5 Try.underlying29 Try.underlying5 w.heap.size 0 4 4 _ rfl (cells4 w _ _ _ _ _) 9 Try.underlying9
      go_wp2
      go_returns
      exact ⟨by unfold crcB; rw [HV.out]; rfl, by go_grown⟩
theorem and_mask (n : Nat) (h : n < 4294967296) : bits .and .u32 (n : Int) 16711935 = ((n &&& 16711935 : Nat) : Int) := u32_and_nat n 16711935 h (by omega)
theorem rev_int (n : Nat) (h : n < 4294967296) (y : Int) (hy : bits .or .u32 (bits .and .u32 ((n : Int) / 256) 16711935) (bits .and .u32 (n : Int) 16711935 * 256 % 4294967296) = y) :
    bits .or .u32 (y / 65536) (y * 65536 % 4294967296) = (n : Int) / 16777216 % 256 + (n : Int) / 65536 % 256 * 256 + (n : Int) / 256 % 256 * 65536 + (n : Int) % 256 * 16777216 := by
  have b1 : n &&& 16711935 ≤ 16711935 := Nat.and_le_right
  have b2 : n / 256 &&& 16711935 ≤ 16711935 := Nat.and_le_right
  have e1 : bits .and .u32 ((n : Int) / 256) 16711935 = ((n / 256 &&& 16711935 : Nat) : Int) := by
    rw [show (n : Int) / 256 = ((n / 256 : Nat) : Int) by omega, and_mask _ (by omega)]
  have e2 : bits .and .u32 (n : Int) 16711935 * 256 % 4294967296 = (((n &&& 16711935) * 256 : Nat) : Int) := by
    rw [and_mask _ h]; omega
  obtain ⟨z, hz⟩ : ∃ z, (n / 256 &&& 16711935) ||| ((n &&& 16711935) * 256) = z := ⟨_, rfl⟩
  have hm := rev_math n h z hz
  have hz32 : z < 2 ^ 32 := by rw [← hz]; exact Nat.or_lt_two_pow (by omega) (by omega)
  rw [e1, e2, u32_or_nat _ _ (by omega) (by omega), hz] at hy
  subst hy
  rw [show (z : Int) / 65536 = ((z / 65536 : Nat) : Int) by omega, show (z : Int) * 65536 % 4294967296 = ((z * 65536 % 4294967296 : Nat) : Int) by omega, u32_or_nat _ _ (by omega) (by omega), hm]
  have a1 : ((n / 16777216 % 256 : Nat) : Int) = (n : Int) / 16777216 % 256 := by omega
  have a2 : ((n / 65536 % 256 : Nat) : Int) = (n : Int) / 65536 % 256 := by omega
  have a3 : ((n / 256 % 256 : Nat) : Int) = (n : Int) / 256 % 256 := by omega
  have a4 : ((n % 256 : Nat) : Int) = (n : Int) % 256 := by omega
  rw [← a1, ← a2, ← a3, ← a4]
  clear a1 a2 a3 a4 hm hz hz32 e1 e2 b1 b2
  generalize n / 16777216 % 256 = p
  generalize n / 65536 % 256 = q
  generalize n / 256 % 256 = r
  generalize n % 256 = s
  omega
/-- The four bytes of a number the other way round. -/
def revV (c : Int) : Int := c / 16777216 % 256 + c / 65536 % 256 * 256 + c / 256 % 256 * 65536 + c % 256 * 16777216
theorem revV_bound (c : Int) : 0 ≤ revV c ∧ revV c < 4294967296 := by unfold revV; omega
set_option maxRecDepth 100000 in
theorem rev_c (c : Int) (h0 : 0 ≤ c) (h1 : c < 4294967296) (w : World) :
    Calls Try.prog 27 #[.int .u32 c] w fun e w' => e = .returned (.int .u32 (revV c)) ∧ w = w' := by
  have HR := Lib.hid (show ∀ y, bits .or .u32 (bits .and .u32 (c / 256) 16711935) (bits .and .u32 c 16711935 * 256 % 4294967296) = y → bits .or .u32 (y / 65536) (y * 65536 % 4294967296) = c / 16777216 % 256 + c / 65536 % 256 * 256 + c / 256 % 256 * 65536 + c % 256 * 16777216 from fun y hy => by
    obtain ⟨n, rfl⟩ := Int.eq_ofNat_of_zero_le h0
    exact rev_int n (by omega) y hy)
  go_enter Try.func27, Try.ntmps27
  go_wp2
  go_returns
  exact ⟨congrArg (fun z => Ending.returned (.int .u32 z)) (HR.out _ rfl), rfl⟩
theorem rev_nums (p q r s : Int) (h0 : 0 ≤ p ∧ p < 256) (h1 : 0 ≤ q ∧ q < 256) (h2 : 0 ≤ r ∧ r < 256) (h3 : 0 ≤ s ∧ s < 256) : nums4 (p + q * 256 + r * 65536 + s * 16777216) = [s, r, q, p] := by
  unfold nums4
  rw [show (p + q * 256 + r * 65536 + s * 16777216) / 16777216 % 256 = s by omega, show (p + q * 256 + r * 65536 + s * 16777216) / 65536 % 256 = r by omega, show (p + q * 256 + r * 65536 + s * 16777216) / 256 % 256 = q by omega, show (p + q * 256 + r * 65536 + s * 16777216) % 256 = p by omega]
theorem rev_bytes (c : Int) : put4 (revV c) = strOfNums (crcNums c) := by
  unfold put4 crcNums revV
  rw [rev_nums _ _ _ _ (by omega) (by omega) (by omega) (by omega)]
/-- What stands ahead of a text in its frame. -/
def headB (s : ByteArray) : ByteArray := put4 (s.size : Int) ++ crcB s
set_option maxRecDepth 100000 in
theorem head_impl (s : ByteArray) (hs : s.size ≤ 1048576) (w : World) :
    Calls Try.prog 18 #[.string s] w fun e w' => e = .returned (.string (headB s)) ∧ Below w.heap.size w w' := by
  obtain ⟨v0, v1⟩ := crcV_bound s.data.toList
  obtain ⟨r0, r1⟩ := revV_bound (crcV s.data.toList)
  have hr : crcB s = put4 (revV (crcV s.data.toList)) := by rw [rev_bytes]; rfl
  unfold headB
  obtain ⟨b, hb⟩ : ∃ b, crcB s = b := ⟨_, rfl⟩
  rw [hb] at hr ⊢
  have hbs : b.size = 4 := by rw [hr]; rfl
  have hcr := crc_impl s hs
  obtain ⟨v, hv⟩ : ∃ v, crcV s.data.toList = v := ⟨_, rfl⟩
  rw [hv] at hr v0 v1 r0 r1 hcr
  obtain ⟨r, hv2⟩ : ∃ r, revV v = r := ⟨_, rfl⟩
  have hrv := rev_c v v0 v1
  rw [hv2] at hr r0 r1 hrv
  have HR := Lib.hid hr
  have HC := Lib.hid hcr
  have HV := Lib.hid hrv
  clear hb hr hv hv2 hcr hrv
  go_enter Try.func18, Try.ntmps18
  go_wp2_with fail
  refine (bytesOf4 _ (by omega) (by omega) _).mono ?_
  rintro e w1 ⟨rfl, hb1⟩
  go_wp2_with fail
  refine (HC.out _).mono ?_
  rintro e w2 ⟨rfl, rfl⟩
  go_wp2_with fail
  refine (HV.out _).mono ?_
  rintro e w2 ⟨rfl, rfl⟩
  go_wp2_with fail
  refine (bytesOf4 _ (by omega) (by omega) _).mono ?_
  rintro e w2 ⟨rfl, hb2⟩
  rw [← HR.out]
  go_wp2_with fail
  trace_state
  go_returns
  exact ⟨rfl, hb1.trans (hb2.mono hb1.size)⟩
end Go.Proofs.Ytejkjlfdadficaa
