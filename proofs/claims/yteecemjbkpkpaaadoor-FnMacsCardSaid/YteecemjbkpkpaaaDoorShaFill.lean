/- SHA-256: a text filled up to whole blocks: the program's way and the reference's. -/
import Derived.Test.YteecemjbkpkpaaaDoorBytesOfN
import Derived.Test.YteecemjbkpkpaaaDoorShaMath
import Derived.Laws.Concat
import Derived.Test.YteecemjbkpkpaaaDoorMga
namespace Go.Proofs.YteecemjbkpkpaaaDoor
open Go.ChangeShapes Go.WideShapes Go.ChangeAt Go.RowKit
set_option linter.unusedVariables false
set_option linter.unusedSimpArgs false
set_option maxRecDepth 100000

theorem highN_zero (c k : Nat) : highN 0 c k = List.replicate k 0 := by
  induction k with
  | zero => rfl
  | succ k ih => rw [highN_succ, ih, List.replicate_succ', show (0 : Int) / 2 ^ min (8 * (c - 1 - k)) 64 % 256 = 0 by rw [Int.zero_ediv]; rfl]
theorem strOf_zeros (c : Nat) : strOfNums (List.replicate c 0) = zerosB c := by
  apply ByteArray.ext
  apply Array.toList_inj.1
  simp [strOfNums, zerosB]
theorem strOf_append (a b : List Int) : strOfNums (a ++ b) = strOfNums a ++ strOfNums b := by
  apply ByteArray.ext
  apply Array.toList_inj.1
  simp [strOfNums, ByteArray.data_append]
theorem high8 (v : Int) (h0 : 0 ≤ v) (h1 : v < 4294967296) : strOfNums (highN v 8 8) = zerosB 4 ++ put4 v := by
  have e : highN v 8 8 = List.replicate 4 0 ++ nums4 v := by
    show [v / 2 ^ 56 % 256, v / 2 ^ 48 % 256, v / 2 ^ 40 % 256, v / 2 ^ 32 % 256, v / 2 ^ 24 % 256, v / 2 ^ 16 % 256, v / 2 ^ 8 % 256, v / 2 ^ 0 % 256] = [0, 0, 0, 0, v / 16777216 % 256, v / 65536 % 256, v / 256 % 256, v % 256]
    have a1 : v / 2 ^ 56 % 256 = 0 := by omega
    have a2 : v / 2 ^ 48 % 256 = 0 := by omega
    have a3 : v / 2 ^ 40 % 256 = 0 := by omega
    have a4 : v / 2 ^ 32 % 256 = 0 := by omega
    rw [a1, a2, a3, a4]
    simp
  rw [e, strOf_append, strOf_zeros]
  rfl
set_option maxHeartbeats 2000000 in
theorem filled_c (s : ByteArray) (hs : s.size ≤ 3000) (w : World) :
    Calls Tryd.prog 45 #[.string s] w fun e w' => e = .returned (.string (padB s)) ∧ Below w.heap.size w w' := by
  obtain ⟨c, hc⟩ : ∃ c : Nat, 63 - (s.size + 8) % 64 = c := ⟨_, rfl⟩
  have hci : (63 : Int) - ((s.size : Int) + 8) % 64 = (c : Int) := by omega
  have hc63 : c ≤ 63 := by omega
  have H1 := bytesOfN c hc63 0 (by omega) (by omega)
  rw [highN_zero, strOf_zeros] at H1
  have H2 := bytesOfN 8 (by omega) ((s.size : Int) * 8) (by omega) (by omega)
  rw [high8 _ (by omega) (by omega), show (s.size : Int) * 8 = 8 * (s.size : Int) by omega] at H2
  have hP : padB s = s ++ ⟨#[128]⟩ ++ zerosB c ++ (zerosB 4 ++ put4 (8 * (s.size : Int))) := by unfold padB; rw [hc]
  have z1 := zerosB_size c
  have z2 : (zerosB 4 ++ put4 (8 * (s.size : Int))).size = 8 := by rw [ByteArray.size_append, zerosB_size, put4_sz]
  obtain ⟨Z1, hZ1⟩ : ∃ Z, zerosB c = Z := ⟨_, rfl⟩
  obtain ⟨Z2, hZ2⟩ : ∃ Z, zerosB 4 ++ put4 (8 * (s.size : Int)) = Z := ⟨_, rfl⟩
  rw [hZ1] at H1 hP z1
  rw [hZ2] at H2 hP z2
  have HP := Lib.hid hP
  have HH1 := Lib.hid H1
  have HH2 := Lib.hid (fun w => show Calls Tryd.prog 29 #[.int .i64 ((s.size : Int) * 8), .int .i64 8] w fun e W' => e = .returned (.string Z2) ∧ Below w.heap.size w W' by rw [show (s.size : Int) * 8 = 8 * (s.size : Int) by omega]; exact H2 w)
  clear hc hZ1 hZ2 hP H1 H2
  have l1 : (s ++ (⟨#[128]⟩ : ByteArray)).size = s.size + 1 := by rw [ByteArray.size_append]; rfl
  have l2 : (s ++ (⟨#[128]⟩ : ByteArray) ++ Z1).size = s.size + 1 + c := by rw [ByteArray.size_append, l1, z1]
  go_enter Tryd.func45, Tryd.ntmps45
  go_wp2_with fail
  refine (HH1.out _).mono ?_
  rintro e w1 ⟨rfl, hb1⟩
  go_wp2_with fail
  refine (HH2.out _).mono ?_
  rintro e w2 ⟨rfl, hb2⟩
  go_wp2_with fail
  go_returns
  exact ⟨by rw [HP.out]; rfl, grow_next hb1 hb2⟩
end Go.Proofs.YteecemjbkpkpaaaDoor
