/- SHA-256 of a text; a key's block: the reference's way. -/
import Derived.Test.YteecemjbkpkpaaaDoorShaStepS
import Derived.Test.YteecemjbkpkpaaaDoorShaPadS
import Derived.Test.YteecemjbkpkpaaaDoorHmacMath
namespace Go.Proofs.YteecemjbkpkpaaaDoor
open Go.ChangeShapes Go.WideShapes Go.ChangeAt Go.RowKit
set_option linter.unusedVariables false
set_option linter.unusedSimpArgs false
set_option maxRecDepth 100000

set_option maxHeartbeats 2000000 in
theorem l12Sha_s (s : ByteArray) (hs : s.size ≤ 3000) (w : World) :
    Calls Tryd.prog 55 #[.string s] w fun e w' => e = .returned (.string (shaB s)) ∧ Below w.heap.size w w' := by
  have HF := Lib.hid (pad_s s hs)
  obtain ⟨P, hP⟩ : ∃ P, padB s = P := ⟨_, rfl⟩
  have hmod := padB_mod s
  have hsz := padB_size s
  have HR := Lib.hid (show shaB s = bytes8 (runV P (P.size / 64)) by unfold shaB; rw [hP])
  rw [hP] at hmod hsz HF
  have hPs : P.size ≤ 4000 := by omega
  obtain ⟨n, hn⟩ : ∃ n, P.size = 64 * n := ⟨P.size / 64, by omega⟩
  have HN := Lib.hid hn
  have hfst : (⟨#[106, 9, 230, 103, 187, 103, 174, 133, 60, 110, 243, 114, 165, 79, 245, 58, 81, 14, 82, 127, 155, 5, 104, 140, 31, 131, 217, 171, 91, 224, 205, 25]⟩ : ByteArray) = bytes8 firstV := by decide +kernel
  clear hP hmod hsz hn
  go_enter Tryd.func55, Tryd.ntmps55
  go_wp2_with fail
  refine (HF.out _).mono ?_
  rintro e W2 ⟨rfl, hb2⟩
  go_wp2_with fail
  rw [hfst]
  clear hfst HF
  go_loopw [4, 5] (fun x i wr => ∃ k : Nat, k ≤ n ∧ i = .int .i64 ((64 * k : Nat) : Int) ∧ x = .string (bytes8 (runV P k)) ∧ Below w.heap.size w wr) (fun _ i _ => 4064 - (intOf i).toNat)
  case atStart => exact ⟨0, by omega, rfl, rfl, hb2⟩
  case round =>
    clear hb2
    obtain ⟨k, hk, rfl, rfl, B⟩ := hrel
    obtain ⟨j, hj⟩ : ∃ j, 64 * k = j := ⟨_, rfl⟩
    have HJ := Lib.hid hj
    by_cases hlt : k < n
    · have hjs : j + 64 ≤ P.size := by have := HN.out; omega
      have HC := Lib.hid (fun w => step_s (runV P k) (runV_ok P k) (P.extract j (j + 64)) (by rw [ByteArray.size_extract]; omega) w)
      have HE := Lib.hid (show runV P (k + 1) = stepV (runV P k) (P.extract j (j + 64)) by rw [← hj]; rfl)
      rw [hj]
      obtain ⟨q, hq⟩ : ∃ q, stepV (runV P k) (P.extract j (j + 64)) = q := ⟨_, rfl⟩
      rw [hq] at HC HE
      obtain ⟨z, hz⟩ : ∃ z, bytes8 (runV P k) = z := ⟨_, rfl⟩
      rw [hz] at HC ⊢
      clear hz hq hj
      have e0 : (j : Int) < (P.size : Int) := by omega
      have e1 : (0 : Int) ≤ (j : Int) := by omega
      have e2 : (j : Int) ≤ (j : Int) + 64 := by omega
      have e3 : (j : Int) + 64 ≤ (P.size : Int) := by omega
      have t1 : ((j : Int) + 64).toNat = j + 64 := by omega
      go_wp2_with fail
      refine (HC.out _).mono ?_
      rintro e w1 ⟨rfl, hb1⟩
      go_wp2_with fail
      go_roundw
      case rel => exact ⟨k + 1, by omega, by have := HJ.out; congr 1; omega, by rw [HE.out], grow_next B hb1⟩
      case measure => simp [intOf]; omega
    · have hkn : k = n := by omega
      have e0 : ¬ (j : Int) < (P.size : Int) := by have := HN.out; omega
      rw [hj]
      have HE := Lib.hid (show bytes8 (runV P k) = shaB s by rw [HR.out, hkn, HN.out, Nat.mul_div_cancel_left _ (by omega)])
      rw [HE.out]
      clear hj hkn hlt
      go_wp2_with fail
      go_returns
      exact ⟨rfl, B⟩
/-- A key's block as a text. -/
def blockB (k : ByteArray) : ByteArray := keyV k ++ zerosB (64 - (keyV k).size)
theorem blockB_size (k : ByteArray) : (blockB k).size = 64 := by
  have := keyV_size k
  unfold blockB
  rw [ByteArray.size_append, zerosB_size]
  omega
theorem blockB_nums (k : ByteArray) : numsOf (blockB k) = padK (keyV k) := padK_zeros (keyV k)
theorem key_loop (v : ByteArray) (j : Nat) : v ++ zerosB j ++ ⟨#[0]⟩ = v ++ zerosB (j + 1) := by
  rw [zerosB_succ, ByteArray.append_assoc]
set_option maxHeartbeats 2000000 in
theorem l12Key_s (k : ByteArray) (hk : k.size ≤ 1000) (w : World) :
    Calls Tryd.prog 54 #[.string k] w fun e w' => e = .returned (.string (blockB k)) ∧ Below w.heap.size w w' := by
  have HR := Lib.hid (show blockB k = keyV k ++ zerosB (64 - (keyV k).size) from rfl)
  have hks := keyV_size k
  by_cases h64 : 64 < k.size
  · have h64i : (64 : Int) < (k.size : Int) := by omega
    have HK := Lib.hid (l12Sha_s k (by omega) w)
    have hkv : keyV k = shaB k := if_pos h64
    rw [← hkv] at HK
    obtain ⟨v, hv⟩ : ∃ v, keyV k = v := ⟨_, rfl⟩
    rw [hv] at HK HR hks
    clear hv hkv h64
    go_enter Tryd.func54, Tryd.ntmps54
    go_wp2_with fail
    refine HK.out.mono ?_
    rintro e w1 ⟨rfl, hb1⟩
    go_wp2_with fail
    go_loop [0] (fun x => ∃ j : Nat, j ≤ 64 - v.size ∧ x = .string (v ++ zerosB j)) (fun x => match x with | .string z => 64 - z.size | _ => 0)
    case atStart => exact ⟨0, by omega, by rw [show zerosB 0 = ByteArray.empty from rfl, ByteArray.append_empty]⟩
    case round =>
      obtain ⟨j, hj, rfl⟩ := hrel
      have hl : (v ++ zerosB j).size = v.size + j := by rw [ByteArray.size_append, zerosB_size]
      have HN := Lib.hid (key_loop v j)
      obtain ⟨z, hz⟩ : ∃ z, v ++ zerosB j = z := ⟨_, rfl⟩
      rw [hz] at hl HN ⊢
      have HZ := Lib.hid hz
      clear hz
      by_cases hlt : j < 64 - v.size
      · have hi : (z.size : Int) < 64 := by omega
        have HS := Lib.hid hl
        clear hl
        go_wp2_with fail
        go_round
        case rel => exact ⟨j + 1, by omega, by rw [HN.out]⟩
        case measure =>
          show 64 - (z ++ ⟨#[0]⟩).size < 64 - z.size
          rw [ByteArray.size_append, show (⟨#[0]⟩ : ByteArray).size = 1 from rfl]
          omega
      · have hi : ¬ (z.size : Int) < 64 := by omega
        have HE := Lib.hid (show blockB k = z by rw [HR.out, ← HZ.out, show 64 - v.size = j by omega])
        clear hl
        go_wp2_with fail
        go_returns
        exact ⟨by rw [HE.out]; rfl, hb1⟩
  · have h64i : ¬ (64 : Int) < (k.size : Int) := by omega
    have hkv : keyV k = k := if_neg h64
    rw [hkv] at HR hks
    clear hkv h64
    go_enter Tryd.func54, Tryd.ntmps54
    go_wp2_with fail
    go_loop [0] (fun x => ∃ j : Nat, j ≤ 64 - k.size ∧ x = .string (k ++ zerosB j)) (fun x => match x with | .string z => 64 - z.size | _ => 0)
    case atStart => exact ⟨0, by omega, by rw [show zerosB 0 = ByteArray.empty from rfl, ByteArray.append_empty]⟩
    case round =>
      obtain ⟨j, hj, rfl⟩ := hrel
      have hl : (k ++ zerosB j).size = k.size + j := by rw [ByteArray.size_append, zerosB_size]
      have HN := Lib.hid (key_loop k j)
      obtain ⟨z, hz⟩ : ∃ z, k ++ zerosB j = z := ⟨_, rfl⟩
      rw [hz] at hl HN ⊢
      have HZ := Lib.hid hz
      clear hz
      by_cases hlt : j < 64 - k.size
      · have hi : (z.size : Int) < 64 := by omega
        have HS := Lib.hid hl
        clear hl
        go_wp2_with fail
        go_round
        case rel => exact ⟨j + 1, by omega, by rw [HN.out]⟩
        case measure =>
          show 64 - (z ++ ⟨#[0]⟩).size < 64 - z.size
          rw [ByteArray.size_append, show (⟨#[0]⟩ : ByteArray).size = 1 from rfl]
          omega
      · have hi : ¬ (z.size : Int) < 64 := by omega
        have HE := Lib.hid (show blockB k = z by rw [HR.out, ← HZ.out, show 64 - k.size = j by omega])
        clear hl
        go_wp2_with fail
        go_returns
        exact ⟨by rw [HE.out]; rfl, Below.refl _ _⟩
set_option maxHeartbeats 2000000 in
theorem l12With_s (s : ByteArray) (hs : s.size ≤ 64) (m : Int) (h0 : 0 ≤ m) (h1 : m < 256) (w : World) :
    Calls Tryd.prog 56 #[.string s, .int .u8 m] w fun e w' => e = .returned (.string (strOfNums (maskN (numsOf s) m))) ∧ Below w.heap.size w w' := by
  obtain ⟨i0, hi0, hz0, hz1, hz2⟩ := info_partsT infoByteN
  have HI0 := Lib.hid hi0
  have HZ0 := Lib.hid hz0
  have HZ1 := Lib.hid hz1
  have HZ2 := Lib.hid hz2
  clear hi0 hz0 hz1 hz2
  go_enter Tryd.func56, Tryd.ntmps56
  go_wp2_with fail
  have hrow0 := World.ownsRow_made (base := w.heap.size) (e := 5) (size := 1) w #[] 0 (Nat.le_refl _) (by simp [maxLen]) rfl
  go_loopw [5, 6] (fun o i wr => ∃ k : Nat, k ≤ s.size ∧ i = .int .i64 k ∧ wr.ownsRow w.heap.size 5 1 o k ((maskN ((numsOf s).take k) m).map (Value.int .u8)) ∧ Below w.heap.size w wr) (fun _ i _ => s.size - (intOf i).toNat)
  case atStart => exact ⟨0, by omega, rfl, hrow0, below_new _ _⟩
  case round =>
    clear hrow0
    obtain ⟨k, hk, rfl, hrow, B⟩ := hrel
    have hsz := B.size
    by_cases hlt : k < s.size
    · have HN := Lib.hid (show (maskN ((numsOf s).take (k + 1)) m).map (Value.int .u8) = (maskN ((numsOf s).take k) m).map (Value.int .u8) ++ [.int .u8 (bits .xor .u8 (s[k].toNat : Int) m)] by
        have hl : k < (numsOf s).length := by rw [numsOf_length]; exact hlt
        rw [List.take_succ_eq_append_getElem hl, maskN, maskN, List.map_append, List.map_append]
        congr 1
        simp [numsOf]
        rfl)
      go_wp2_with (at_builtin; refine wpList_append_own _ rfl _ _ 22 rfl w.heap.size 5 i0 (.int .u8 0) 1 1 Tryd.underlying22 HI0.out HZ0.out HZ1.out HZ2.out rfl (by decide) _ _ _ rfl (hrow.alloc _) ⟨wr.heap.size, 0, none⟩ 1 1 [.int .u8 (bits .xor .u8 (s[k].toNat : Int) m)] rfl rfl (by simpa using cell_one_new wr (.int .u8 (bits .xor .u8 (s[k].toNat : Int) m)) 5) (by simp [Value.oneCell']) (by unfold maxLen; omega) (by omega) (by simp; omega) ?_; intro v' w4 hown' hgrow _)
      go_roundw
      case rel => exact ⟨k + 1, by omega, by go_num, by rw [HN.out]; exact hown', (B.alloc hsz _).grown hgrow (B.alloc hsz _).size (fun j hj => (hrow.lt j hj).1)⟩
      case measure => simp [intOf]; omega
    · have hks : k = s.size := by omega
      have e : (numsOf s).take k = numsOf s := List.take_of_length_le (by rw [numsOf_length]; omega)
      rw [e] at hrow
      have hlen : (maskN (numsOf s) m).length = k := by rw [maskN, List.length_map, numsOf_length, hks]
      have hcv := convert_owned (P := Tryd.prog) (src := 22) (dst := 9) Tryd.underlying22 Tryd.underlying5 Tryd.underlying9 (ys := maskN (numsOf s) m) (by rw [hlen]; exact hrow)
      clear hrow e hlen hlt hk
      subst hks
      go_wp2_with fail
      go_returns
      exact ⟨rfl, B⟩
set_option maxHeartbeats 2000000 in
theorem l12Hmac_s (k t : ByteArray) (hk : k.size ≤ 1000) (ht : t.size ≤ 1000) (w : World) :
    Calls Tryd.prog 40 #[.string k, .string t] w fun e w' => e = .returned (.string (hmacB k t)) ∧ Below w.heap.size w w' := by
  have HR := Lib.hid (show hmacB k t = shaB (maskB (keyV k) 92 ++ shaB (maskB (keyV k) 54 ++ t)) from rfl)
  have hks := keyV_size k
  have HK := Lib.hid (fun w => l12Key_s k hk w)
  have HM1 := Lib.hid (fun w => l12With_s (blockB k) (by rw [blockB_size]; omega) 54 (by omega) (by omega) w)
  have HM2 := Lib.hid (fun w => l12With_s (blockB k) (by rw [blockB_size]; omega) 92 (by omega) (by omega) w)
  rw [blockB_nums, show strOfNums (maskN (padK (keyV k)) 54) = maskB (keyV k) 54 from rfl] at HM1
  rw [blockB_nums, show strOfNums (maskN (padK (keyV k)) 92) = maskB (keyV k) 92 from rfl] at HM2
  have m1 := maskB_size hks 54
  have m2 := maskB_size hks 92
  obtain ⟨M1, hM1⟩ : ∃ M, maskB (keyV k) 54 = M := ⟨_, rfl⟩
  obtain ⟨M2, hM2⟩ : ∃ M, maskB (keyV k) 92 = M := ⟨_, rfl⟩
  obtain ⟨q, hq⟩ : ∃ q, blockB k = q := ⟨_, rfl⟩
  rw [hM1] at HM1 HR m1
  rw [hM2] at HM2 HR m2
  rw [hq] at HK HM1 HM2
  clear hM1 hM2 hks hq
  have s1 : (M1 ++ t).size = 64 + t.size := by rw [ByteArray.size_append, m1]
  have HD1 := Lib.hid (fun w => l12Sha_s (M1 ++ t) (by omega) w)
  have hi := shaB_size (M1 ++ t)
  obtain ⟨I1, hI1⟩ : ∃ I, shaB (M1 ++ t) = I := ⟨_, rfl⟩
  rw [hI1] at HD1 HR hi
  have s2 : (M2 ++ I1).size = 96 := by rw [ByteArray.size_append, m2, hi]
  have HD2 := Lib.hid (fun w => l12Sha_s (M2 ++ I1) (by omega) w)
  obtain ⟨R, hR⟩ : ∃ R, shaB (M2 ++ I1) = R := ⟨_, rfl⟩
  rw [hR] at HD2 HR
  rw [HR.out]
  clear hI1 hR
  go_enter Tryd.func40, Tryd.ntmps40
  go_wp2_with fail
  refine (HK.out _).mono ?_
  rintro e w0 ⟨rfl, B0⟩
  go_wp2_with fail
  refine (HM2.out _).mono ?_
  rintro e w1 ⟨rfl, hb1⟩
  have B1 := grow_next B0 hb1
  go_wp2_with fail
  refine (HM1.out _).mono ?_
  rintro e w2 ⟨rfl, hb2⟩
  have B2 := grow_next B1 hb2
  go_wp2_with fail
  refine (HD1.out _).mono ?_
  rintro e w3 ⟨rfl, hb3⟩
  have B3 := grow_next B2 hb3
  go_wp2_with fail
  refine (HD2.out _).mono ?_
  rintro e w4 ⟨rfl, hb4⟩
  go_wp2_with fail
  go_returns
  exact ⟨rfl, grow_next B3 hb4⟩
end Go.Proofs.YteecemjbkpkpaaaDoor
