/- SHA-256: bits moved round, at each count: the program's way (math/bits.RotateLeft32) and the reference's. -/
import Derived.Test.YteecemjbkpkpaaaDoorShaMath
import Derived.WalkKit
namespace Go.Proofs.YteecemjbkpkpaaaDoor
open Go.ChangeShapes Go.WideShapes Go.ChangeAt Go.RowKit
set_option linter.unusedVariables false
set_option linter.unusedSimpArgs false

theorem rotl17_c (x : Int) (h0 : 0 ≤ x) (h1 : x < 4294967296) (w : World) :
    Calls Tryd.prog 67 #[.int .u32 x, .int .i64 (-17)] w fun e w' => e = .returned (.int .u32 (rotV 32768 131072 x)) ∧ w = w' := by
  have hb : bits .and .u64 (IntKind.u64.wrap (-17)) 31 = 15 := by decide +kernel
  go_enter Tryd.func67, Tryd.ntmps67
  go_wp2
  go_returns
  exact ⟨rfl, rfl⟩
theorem turned17_c (x : Int) (h : U32 x) (w : World) :
    Calls Tryd.prog 61 #[.int .u32 x, .int .i64 17] w fun e w' => e = .returned (.int .u32 (rotV 32768 131072 x)) ∧ w = w' := by
  have HR := Lib.hid (fun w => rotl17_c x h.1 h.2 w)
  clear h
  go_enter Tryd.func61, Tryd.ntmps61
  go_wp2_with fail
  refine (HR.out _).mono ?_
  rintro e w1 ⟨rfl, rfl⟩
  go_wp2_with fail
  go_returns
  exact ⟨rfl, rfl⟩
theorem rot17_s (x : Int) (h : U32 x) (w : World) :
    Calls Tryd.prog 71 #[.int .u32 x, .int .i64 15] w fun e w' => e = .returned (.int .u32 (rotV 32768 131072 x)) ∧ w = w' := by
  obtain ⟨h0, h1⟩ := h
  go_enter Tryd.func71, Tryd.ntmps71
  go_wp2
  go_returns
  exact ⟨rfl, rfl⟩

theorem rotl19_c (x : Int) (h0 : 0 ≤ x) (h1 : x < 4294967296) (w : World) :
    Calls Tryd.prog 67 #[.int .u32 x, .int .i64 (-19)] w fun e w' => e = .returned (.int .u32 (rotV 8192 524288 x)) ∧ w = w' := by
  have hb : bits .and .u64 (IntKind.u64.wrap (-19)) 31 = 13 := by decide +kernel
  go_enter Tryd.func67, Tryd.ntmps67
  go_wp2
  go_returns
  exact ⟨rfl, rfl⟩
theorem turned19_c (x : Int) (h : U32 x) (w : World) :
    Calls Tryd.prog 61 #[.int .u32 x, .int .i64 19] w fun e w' => e = .returned (.int .u32 (rotV 8192 524288 x)) ∧ w = w' := by
  have HR := Lib.hid (fun w => rotl19_c x h.1 h.2 w)
  clear h
  go_enter Tryd.func61, Tryd.ntmps61
  go_wp2_with fail
  refine (HR.out _).mono ?_
  rintro e w1 ⟨rfl, rfl⟩
  go_wp2_with fail
  go_returns
  exact ⟨rfl, rfl⟩
theorem rot19_s (x : Int) (h : U32 x) (w : World) :
    Calls Tryd.prog 71 #[.int .u32 x, .int .i64 13] w fun e w' => e = .returned (.int .u32 (rotV 8192 524288 x)) ∧ w = w' := by
  obtain ⟨h0, h1⟩ := h
  go_enter Tryd.func71, Tryd.ntmps71
  go_wp2
  go_returns
  exact ⟨rfl, rfl⟩

theorem rotl7_c (x : Int) (h0 : 0 ≤ x) (h1 : x < 4294967296) (w : World) :
    Calls Tryd.prog 67 #[.int .u32 x, .int .i64 (-7)] w fun e w' => e = .returned (.int .u32 (rotV 33554432 128 x)) ∧ w = w' := by
  have hb : bits .and .u64 (IntKind.u64.wrap (-7)) 31 = 25 := by decide +kernel
  go_enter Tryd.func67, Tryd.ntmps67
  go_wp2
  go_returns
  exact ⟨rfl, rfl⟩
theorem turned7_c (x : Int) (h : U32 x) (w : World) :
    Calls Tryd.prog 61 #[.int .u32 x, .int .i64 7] w fun e w' => e = .returned (.int .u32 (rotV 33554432 128 x)) ∧ w = w' := by
  have HR := Lib.hid (fun w => rotl7_c x h.1 h.2 w)
  clear h
  go_enter Tryd.func61, Tryd.ntmps61
  go_wp2_with fail
  refine (HR.out _).mono ?_
  rintro e w1 ⟨rfl, rfl⟩
  go_wp2_with fail
  go_returns
  exact ⟨rfl, rfl⟩
theorem rot7_s (x : Int) (h : U32 x) (w : World) :
    Calls Tryd.prog 71 #[.int .u32 x, .int .i64 25] w fun e w' => e = .returned (.int .u32 (rotV 33554432 128 x)) ∧ w = w' := by
  obtain ⟨h0, h1⟩ := h
  go_enter Tryd.func71, Tryd.ntmps71
  go_wp2
  go_returns
  exact ⟨rfl, rfl⟩

theorem rotl18_c (x : Int) (h0 : 0 ≤ x) (h1 : x < 4294967296) (w : World) :
    Calls Tryd.prog 67 #[.int .u32 x, .int .i64 (-18)] w fun e w' => e = .returned (.int .u32 (rotV 16384 262144 x)) ∧ w = w' := by
  have hb : bits .and .u64 (IntKind.u64.wrap (-18)) 31 = 14 := by decide +kernel
  go_enter Tryd.func67, Tryd.ntmps67
  go_wp2
  go_returns
  exact ⟨rfl, rfl⟩
theorem turned18_c (x : Int) (h : U32 x) (w : World) :
    Calls Tryd.prog 61 #[.int .u32 x, .int .i64 18] w fun e w' => e = .returned (.int .u32 (rotV 16384 262144 x)) ∧ w = w' := by
  have HR := Lib.hid (fun w => rotl18_c x h.1 h.2 w)
  clear h
  go_enter Tryd.func61, Tryd.ntmps61
  go_wp2_with fail
  refine (HR.out _).mono ?_
  rintro e w1 ⟨rfl, rfl⟩
  go_wp2_with fail
  go_returns
  exact ⟨rfl, rfl⟩
theorem rot18_s (x : Int) (h : U32 x) (w : World) :
    Calls Tryd.prog 71 #[.int .u32 x, .int .i64 14] w fun e w' => e = .returned (.int .u32 (rotV 16384 262144 x)) ∧ w = w' := by
  obtain ⟨h0, h1⟩ := h
  go_enter Tryd.func71, Tryd.ntmps71
  go_wp2
  go_returns
  exact ⟨rfl, rfl⟩

theorem rotl6_c (x : Int) (h0 : 0 ≤ x) (h1 : x < 4294967296) (w : World) :
    Calls Tryd.prog 67 #[.int .u32 x, .int .i64 (-6)] w fun e w' => e = .returned (.int .u32 (rotV 67108864 64 x)) ∧ w = w' := by
  have hb : bits .and .u64 (IntKind.u64.wrap (-6)) 31 = 26 := by decide +kernel
  go_enter Tryd.func67, Tryd.ntmps67
  go_wp2
  go_returns
  exact ⟨rfl, rfl⟩
theorem turned6_c (x : Int) (h : U32 x) (w : World) :
    Calls Tryd.prog 61 #[.int .u32 x, .int .i64 6] w fun e w' => e = .returned (.int .u32 (rotV 67108864 64 x)) ∧ w = w' := by
  have HR := Lib.hid (fun w => rotl6_c x h.1 h.2 w)
  clear h
  go_enter Tryd.func61, Tryd.ntmps61
  go_wp2_with fail
  refine (HR.out _).mono ?_
  rintro e w1 ⟨rfl, rfl⟩
  go_wp2_with fail
  go_returns
  exact ⟨rfl, rfl⟩
theorem rot6_s (x : Int) (h : U32 x) (w : World) :
    Calls Tryd.prog 71 #[.int .u32 x, .int .i64 26] w fun e w' => e = .returned (.int .u32 (rotV 67108864 64 x)) ∧ w = w' := by
  obtain ⟨h0, h1⟩ := h
  go_enter Tryd.func71, Tryd.ntmps71
  go_wp2
  go_returns
  exact ⟨rfl, rfl⟩

theorem rotl11_c (x : Int) (h0 : 0 ≤ x) (h1 : x < 4294967296) (w : World) :
    Calls Tryd.prog 67 #[.int .u32 x, .int .i64 (-11)] w fun e w' => e = .returned (.int .u32 (rotV 2097152 2048 x)) ∧ w = w' := by
  have hb : bits .and .u64 (IntKind.u64.wrap (-11)) 31 = 21 := by decide +kernel
  go_enter Tryd.func67, Tryd.ntmps67
  go_wp2
  go_returns
  exact ⟨rfl, rfl⟩
theorem turned11_c (x : Int) (h : U32 x) (w : World) :
    Calls Tryd.prog 61 #[.int .u32 x, .int .i64 11] w fun e w' => e = .returned (.int .u32 (rotV 2097152 2048 x)) ∧ w = w' := by
  have HR := Lib.hid (fun w => rotl11_c x h.1 h.2 w)
  clear h
  go_enter Tryd.func61, Tryd.ntmps61
  go_wp2_with fail
  refine (HR.out _).mono ?_
  rintro e w1 ⟨rfl, rfl⟩
  go_wp2_with fail
  go_returns
  exact ⟨rfl, rfl⟩
theorem rot11_s (x : Int) (h : U32 x) (w : World) :
    Calls Tryd.prog 71 #[.int .u32 x, .int .i64 21] w fun e w' => e = .returned (.int .u32 (rotV 2097152 2048 x)) ∧ w = w' := by
  obtain ⟨h0, h1⟩ := h
  go_enter Tryd.func71, Tryd.ntmps71
  go_wp2
  go_returns
  exact ⟨rfl, rfl⟩

theorem rotl25_c (x : Int) (h0 : 0 ≤ x) (h1 : x < 4294967296) (w : World) :
    Calls Tryd.prog 67 #[.int .u32 x, .int .i64 (-25)] w fun e w' => e = .returned (.int .u32 (rotV 128 33554432 x)) ∧ w = w' := by
  have hb : bits .and .u64 (IntKind.u64.wrap (-25)) 31 = 7 := by decide +kernel
  go_enter Tryd.func67, Tryd.ntmps67
  go_wp2
  go_returns
  exact ⟨rfl, rfl⟩
theorem turned25_c (x : Int) (h : U32 x) (w : World) :
    Calls Tryd.prog 61 #[.int .u32 x, .int .i64 25] w fun e w' => e = .returned (.int .u32 (rotV 128 33554432 x)) ∧ w = w' := by
  have HR := Lib.hid (fun w => rotl25_c x h.1 h.2 w)
  clear h
  go_enter Tryd.func61, Tryd.ntmps61
  go_wp2_with fail
  refine (HR.out _).mono ?_
  rintro e w1 ⟨rfl, rfl⟩
  go_wp2_with fail
  go_returns
  exact ⟨rfl, rfl⟩
theorem rot25_s (x : Int) (h : U32 x) (w : World) :
    Calls Tryd.prog 71 #[.int .u32 x, .int .i64 7] w fun e w' => e = .returned (.int .u32 (rotV 128 33554432 x)) ∧ w = w' := by
  obtain ⟨h0, h1⟩ := h
  go_enter Tryd.func71, Tryd.ntmps71
  go_wp2
  go_returns
  exact ⟨rfl, rfl⟩

theorem rotl2_c (x : Int) (h0 : 0 ≤ x) (h1 : x < 4294967296) (w : World) :
    Calls Tryd.prog 67 #[.int .u32 x, .int .i64 (-2)] w fun e w' => e = .returned (.int .u32 (rotV 1073741824 4 x)) ∧ w = w' := by
  have hb : bits .and .u64 (IntKind.u64.wrap (-2)) 31 = 30 := by decide +kernel
  go_enter Tryd.func67, Tryd.ntmps67
  go_wp2
  go_returns
  exact ⟨rfl, rfl⟩
theorem turned2_c (x : Int) (h : U32 x) (w : World) :
    Calls Tryd.prog 61 #[.int .u32 x, .int .i64 2] w fun e w' => e = .returned (.int .u32 (rotV 1073741824 4 x)) ∧ w = w' := by
  have HR := Lib.hid (fun w => rotl2_c x h.1 h.2 w)
  clear h
  go_enter Tryd.func61, Tryd.ntmps61
  go_wp2_with fail
  refine (HR.out _).mono ?_
  rintro e w1 ⟨rfl, rfl⟩
  go_wp2_with fail
  go_returns
  exact ⟨rfl, rfl⟩
theorem rot2_s (x : Int) (h : U32 x) (w : World) :
    Calls Tryd.prog 71 #[.int .u32 x, .int .i64 30] w fun e w' => e = .returned (.int .u32 (rotV 1073741824 4 x)) ∧ w = w' := by
  obtain ⟨h0, h1⟩ := h
  go_enter Tryd.func71, Tryd.ntmps71
  go_wp2
  go_returns
  exact ⟨rfl, rfl⟩

theorem rotl13_c (x : Int) (h0 : 0 ≤ x) (h1 : x < 4294967296) (w : World) :
    Calls Tryd.prog 67 #[.int .u32 x, .int .i64 (-13)] w fun e w' => e = .returned (.int .u32 (rotV 524288 8192 x)) ∧ w = w' := by
  have hb : bits .and .u64 (IntKind.u64.wrap (-13)) 31 = 19 := by decide +kernel
  go_enter Tryd.func67, Tryd.ntmps67
  go_wp2
  go_returns
  exact ⟨rfl, rfl⟩
theorem turned13_c (x : Int) (h : U32 x) (w : World) :
    Calls Tryd.prog 61 #[.int .u32 x, .int .i64 13] w fun e w' => e = .returned (.int .u32 (rotV 524288 8192 x)) ∧ w = w' := by
  have HR := Lib.hid (fun w => rotl13_c x h.1 h.2 w)
  clear h
  go_enter Tryd.func61, Tryd.ntmps61
  go_wp2_with fail
  refine (HR.out _).mono ?_
  rintro e w1 ⟨rfl, rfl⟩
  go_wp2_with fail
  go_returns
  exact ⟨rfl, rfl⟩
theorem rot13_s (x : Int) (h : U32 x) (w : World) :
    Calls Tryd.prog 71 #[.int .u32 x, .int .i64 19] w fun e w' => e = .returned (.int .u32 (rotV 524288 8192 x)) ∧ w = w' := by
  obtain ⟨h0, h1⟩ := h
  go_enter Tryd.func71, Tryd.ntmps71
  go_wp2
  go_returns
  exact ⟨rfl, rfl⟩

theorem rotl22_c (x : Int) (h0 : 0 ≤ x) (h1 : x < 4294967296) (w : World) :
    Calls Tryd.prog 67 #[.int .u32 x, .int .i64 (-22)] w fun e w' => e = .returned (.int .u32 (rotV 1024 4194304 x)) ∧ w = w' := by
  have hb : bits .and .u64 (IntKind.u64.wrap (-22)) 31 = 10 := by decide +kernel
  go_enter Tryd.func67, Tryd.ntmps67
  go_wp2
  go_returns
  exact ⟨rfl, rfl⟩
theorem turned22_c (x : Int) (h : U32 x) (w : World) :
    Calls Tryd.prog 61 #[.int .u32 x, .int .i64 22] w fun e w' => e = .returned (.int .u32 (rotV 1024 4194304 x)) ∧ w = w' := by
  have HR := Lib.hid (fun w => rotl22_c x h.1 h.2 w)
  clear h
  go_enter Tryd.func61, Tryd.ntmps61
  go_wp2_with fail
  refine (HR.out _).mono ?_
  rintro e w1 ⟨rfl, rfl⟩
  go_wp2_with fail
  go_returns
  exact ⟨rfl, rfl⟩
theorem rot22_s (x : Int) (h : U32 x) (w : World) :
    Calls Tryd.prog 71 #[.int .u32 x, .int .i64 10] w fun e w' => e = .returned (.int .u32 (rotV 1024 4194304 x)) ∧ w = w' := by
  obtain ⟨h0, h1⟩ := h
  go_enter Tryd.func71, Tryd.ntmps71
  go_wp2
  go_returns
  exact ⟨rfl, rfl⟩

end Go.Proofs.YteecemjbkpkpaaaDoor
