/- SHA-256: a text filled up to whole blocks: the reference's way. -/
import Derived.Test.YteecemjbkpkpaaaDoorShaMath
import Derived.Test.YteecemjbkpkpaaaDoorHmacMath
import Derived.Test.YteecemjbkpkpaaaDoorMga
import Derived.Laws.Concat
import Derived.OwnWalk
namespace Go.Proofs.YteecemjbkpkpaaaDoor
open Go.ChangeShapes Go.WideShapes Go.ChangeAt Go.RowKit
set_option linter.unusedVariables false
set_option linter.unusedSimpArgs false
set_option maxRecDepth 100000

theorem pad_round {s : ByteArray} {k : Nat} : s ++ ⟨#[128]⟩ ++ zerosB k ++ ⟨#[0]⟩ = s ++ ⟨#[128]⟩ ++ zerosB (k + 1) := by
  rw [zerosB_succ, ByteArray.append_assoc (a := s ++ ⟨#[128]⟩)]
set_option maxHeartbeats 2000000 in
theorem pad_s (s : ByteArray) (hs : s.size ≤ 3000) (w : World) :
    Calls Tryd.prog 65 #[.string s] w fun e w' => e = .returned (.string (padB s)) ∧ Below w.heap.size w w' := by
  obtain ⟨c, hc⟩ : ∃ c : Nat, 63 - (s.size + 8) % 64 = c := ⟨_, rfl⟩
  have HC := Lib.hid hc
  have hc63 : c ≤ 63 := by omega
  have l0 : ∀ k, (s ++ (⟨#[128]⟩ : ByteArray) ++ zerosB k).size = s.size + 1 + k := fun k => by rw [ByteArray.size_append, ByteArray.size_append, zerosB_size]; rfl
  have l1 : (s ++ (⟨#[128]⟩ : ByteArray)).size = s.size + 1 := by rw [ByteArray.size_append]; rfl
  have HP := Lib.hid (show padB s = s ++ ⟨#[128]⟩ ++ zerosB c ++ (zerosB 4 ++ put4 (8 * (s.size : Int))) by unfold padB; rw [hc])
  have HL := Lib.hid l0
  clear hc l0
  go_enter Tryd.func65, Tryd.ntmps65
  go_wp2_with fail
  go_loop [3] (fun x => ∃ k : Nat, k ≤ c ∧ x = .string (s ++ ⟨#[128]⟩ ++ zerosB k)) (fun x => match x with | .string z => s.size + 1 + c - z.size | _ => 0)
  case atStart => exact ⟨0, by omega, by rw [show zerosB 0 = ByteArray.empty from rfl, ByteArray.append_empty]⟩
  case round =>
    obtain ⟨k, hk, rfl⟩ := hrel
    have hl := HL.out k
    have HN := Lib.hid (pad_round (s := s) (k := k))
    obtain ⟨z, hz⟩ : ∃ z, s ++ ⟨#[128]⟩ ++ zerosB k = z := ⟨_, rfl⟩
    rw [hz] at hl HN ⊢
    have HZ := Lib.hid hz
    clear hz
    by_cases hlt : k < c
    · have hne : ((z.size : Int) % 64 != 56) = true := by
        have := HC.out
        rw [bne_iff_ne, hl]
        omega
      have hzs : z.size + 1 ≤ 4000 := by omega
      go_wp2_with fail
      go_round
      case rel => exact ⟨k + 1, by omega, by rw [HN.out]⟩
      case measure =>
        show s.size + 1 + c - (z ++ ⟨#[0]⟩).size < s.size + 1 + c - z.size
        rw [ByteArray.size_append, hl, show (⟨#[0]⟩ : ByteArray).size = 1 from rfl]
        omega
    · have hkc : k = c := by omega
      have hne : ((z.size : Int) % 64 != 56) = false := by
        have := HC.out
        rw [bne_eq_false_iff_eq, hl]
        omega
      have hP := HP.out
      rw [← hkc, HZ.out] at hP
      have hzs : z.size + 1 ≤ 4000 := by omega
      have HP2 := Lib.hid hP
      clear hP HP HN
      have hcv := run_convert_bytes_arg (P := Tryd.prog) (w.alloc (.cells #[.int .u8 (8 * (s.size : Int) / 16777216), .int .u8 (8 * (s.size : Int) / 65536), .int .u8 (8 * (s.size : Int) / 256), .int .u8 (8 * (s.size : Int) % 256)] 5)) 22 5 Tryd.underlying22 Tryd.underlying5 w.heap.size 0 4 4 _ rfl (cells4 w _ _ _ _ _) 9 Tryd.underlying9
      have hS : strOfNums [8 * (s.size : Int) / 16777216, 8 * (s.size : Int) / 65536, 8 * (s.size : Int) / 256, 8 * (s.size : Int) % 256] = put4 (8 * (s.size : Int)) := by
        have e1 : 8 * (s.size : Int) / 16777216 % 256 = 8 * (s.size : Int) / 16777216 := by omega
        have e2 : 8 * (s.size : Int) / 65536 % 256 = 8 * (s.size : Int) / 65536 := by omega
        have e3 : 8 * (s.size : Int) / 256 % 256 = 8 * (s.size : Int) / 256 := by omega
        unfold put4 nums4
        rw [e1, e2, e3]
      rw [hS] at hcv
      have hps := put4_sz (8 * (s.size : Int))
      obtain ⟨T, hT⟩ : ∃ T, put4 (8 * (s.size : Int)) = T := ⟨_, rfl⟩
      rw [hT] at hcv hps
      have HP3 := Lib.hid (show padB s = z ++ ⟨#[0, 0, 0, 0]⟩ ++ T by rw [HP2.out, hT, ByteArray.append_assoc]; rfl)
      have h4 : (z ++ (⟨#[0, 0, 0, 0]⟩ : ByteArray)).size = z.size + 4 := by rw [ByteArray.size_append]; rfl
      clear hS hT HP2
      go_wp2_with fail
      go_returns
      exact ⟨by rw [HP3.out]; rfl, by go_grown⟩
end Go.Proofs.YteecemjbkpkpaaaDoor
