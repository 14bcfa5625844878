/- SHA-256: one round: the program's way. -/
import Derived.Test.YteecemjbkpkpaaaDoorShaRow
import Derived.Deep.Cut
namespace Go.Proofs.YteecemjbkpkpaaaDoor
open Go.ChangeShapes Go.WideShapes Go.ChangeAt Go.RowKit
set_option linter.unusedVariables false
set_option linter.unusedSimpArgs false
set_option maxRecDepth 100000

set_option maxHeartbeats 2000000 in
theorem round_c (d : W8) (hd : d.ok) (k : Int) (w : World) :
    Calls Tryd.prog 59 #[.agg #[.int .u32 d.a, .int .u32 d.b, .int .u32 d.c, .int .u32 d.d, .int .u32 d.e, .int .u32 d.f, .int .u32 d.g, .int .u32 d.h], .int .u32 k] w fun r w' => r = .returned (.agg (w32 (nextV d k).list).toArray) ∧ Below w.heap.size w w' := by
  have T6 := Lib.hid (fun w => same_world (turned6_c d.e hd.e w))
  have T11 := Lib.hid (fun w => same_world (turned11_c d.e hd.e w))
  have T25 := Lib.hid (fun w => same_world (turned25_c d.e hd.e w))
  have T2 := Lib.hid (fun w => turned2_c d.a hd.a w)
  have T13 := Lib.hid (fun w => turned13_c d.a hd.a w)
  have T22 := Lib.hid (fun w => turned22_c d.a hd.a w)
  have Q0 := blk_new w (.cells #[.int .u32 d.a, .int .u32 d.b, .int .u32 d.c, .int .u32 d.d, .int .u32 d.e, .int .u32 d.f, .int .u32 d.g, .int .u32 d.h] 67)
  go_enter Tryd.func59, Tryd.ntmps59
  go_wp2_with fail
  rw [z8]
  have Q1 : WB ((w.alloc (.cells (w32 d.list).toArray 67)).alloc (.cells (w32 zeros8).toArray 67)) w.heap.size 67 d.list := (WB.new w _ _).alloc _
  have R1 : WB ((w.alloc (.cells (w32 d.list).toArray 67)).alloc (.cells (w32 zeros8).toArray 67)) (w.heap.size + 1) 67 zeros8 := by
    have := WB.new (w.alloc (.cells (w32 d.list).toArray 67)) 67 zeros8
    simpa using this
  have B1 := below_two w (.cells (w32 d.list).toArray 67) (.cells (w32 zeros8).toArray 67)
  change WB ((w.alloc (.cells #[.int .u32 d.a, .int .u32 d.b, .int .u32 d.c, .int .u32 d.d, .int .u32 d.e, .int .u32 d.f, .int .u32 d.g, .int .u32 d.h] 67)).alloc (.cells (w32 zeros8).toArray 67)) w.heap.size 67 d.list at Q1
  change WB ((w.alloc (.cells #[.int .u32 d.a, .int .u32 d.b, .int .u32 d.c, .int .u32 d.d, .int .u32 d.e, .int .u32 d.f, .int .u32 d.g, .int .u32 d.h] 67)).alloc (.cells (w32 zeros8).toArray 67)) (w.heap.size + 1) 67 zeros8 at R1
  change Below w.heap.size w ((w.alloc (.cells #[.int .u32 d.a, .int .u32 d.b, .int .u32 d.c, .int .u32 d.d, .int .u32 d.e, .int .u32 d.f, .int .u32 d.g, .int .u32 d.h] 67)).alloc (.cells (w32 zeros8).toArray 67)) at B1
  generalize (w.alloc (.cells #[.int .u32 d.a, .int .u32 d.b, .int .u32 d.c, .int .u32 d.d, .int .u32 d.e, .int .u32 d.f, .int .u32 d.g, .int .u32 d.h] 67)).alloc (.cells (w32 zeros8).toArray 67) = W0 at Q1 R1 B1 ⊢
  clear Q0
  obtain ⟨x0, x1, x2, x3, x4, x5, x6, x7⟩ := WD.cells Q1
  go_quiet (fail)
  have Q2 : WB (W0.drewN nq) w.heap.size 67 d.list := Q1
  have R2 : WB (W0.drewN nq) (w.heap.size + 1) 67 zeros8 := R1
  have B2 : Below w.heap.size w (W0.drewN nq) := grow_drew B1 nq
  clear x0 x1 x2 x3 x4 x5 x6 x7 Q1 R1 B1
  generalize W0.drewN nq = W1 at Q2 R2 B2 ⊢
  obtain ⟨x0, x1, x2, x3, x4, x5, x6, x7⟩ := WD.cells Q2
  go_wp2_with fail
  go_quiet ((go_at_call 61; first | with_reducible exact Calls.quiet_of_same (T6.out _) | with_reducible exact Calls.quiet_of_same (T11.out _) | with_reducible exact Calls.quiet_of_same (T25.out _)))
  go_wp2_with fail
  refine (T2.out _).mono ?_
  rintro e w1 ⟨rfl, rfl⟩
  go_wp2_with fail
  refine (T13.out _).mono ?_
  rintro e w1 ⟨rfl, rfl⟩
  go_wp2_with fail
  refine (T22.out _).mono ?_
  rintro e w1 ⟨rfl, rfl⟩
  go_upto_region 6 with fail
  have e1 : (d.h + bits .xor .u32 (bits .xor .u32 (rotV 67108864 64 d.e) (rotV 2097152 2048 d.e)) (rotV 128 33554432 d.e) + bits .xor .u32 (bits .and .u32 d.e d.f) (bits .and .u32 (bits .xor .u32 IntKind.u32.max d.e) d.g) + k) % 4294967296 = lowV d k := rfl
  have e2 : (bits .xor .u32 (bits .xor .u32 (rotV 1073741824 4 d.a) (rotV 524288 8192 d.a)) (rotV 1024 4194304 d.a) + bits .xor .u32 (bits .xor .u32 (bits .and .u32 d.a d.b) (bits .and .u32 d.a d.c)) (bits .and .u32 d.b d.c)) % 4294967296 = highV d := rfl
  rw [e1, e2]
  clear e1 e2
  obtain ⟨lo, hlo⟩ : ∃ x, lowV d k = x := ⟨_, rfl⟩
  obtain ⟨hi, hhi⟩ : ∃ x, highV d = x := ⟨_, rfl⟩
  rw [hlo, hhi]
  have HN := Lib.hid (show (nextV d k).list = [(lo + hi) % 4294967296, d.a, d.b, d.c, (d.d + lo) % 4294967296, d.e, d.f, d.g] by rw [← hlo, ← hhi]; rfl)
  clear hlo hhi T6 T11 T25 T2 T13 T22
  have Q3 : WB (W1.drewN nq) w.heap.size 67 d.list := Q2
  have R3 : WB (W1.drewN nq) (w.heap.size + 1) 67 zeros8 := R2
  have B3 : Below w.heap.size w (W1.drewN nq) := grow_drew B2 nq
  clear x0 x1 x2 x3 x4 x5 x6 x7 Q2 R2 B2
  generalize W1.drewN nq = W2 at Q3 R3 B3 ⊢
  obtain ⟨x0, x1, x2, x3, x4, x5, x6, x7⟩ := WD.cells Q3
  have HU := Lib.hid Tryd.underlying67
  have HI := Lib.hid (size8 ⟨(lo + hi) % 4294967296, d.a, d.b, d.c, (d.d + lo) % 4294967296, d.e, d.f, d.g⟩)
  have HO := Lib.hid (w32_one [(lo + hi) % 4294967296, d.a, d.b, d.c, (d.d + lo) % 4294967296, d.e, d.f, d.g])
  go_wp2_with (refine wpList_store_row rfl 67 (.tmp 4) (.tmp 82) rfl (w.heap.size + 1) 67 (w32 zeros8).toArray (w32 [(lo + hi) % 4294967296, d.a, d.b, d.c, (d.d + lo) % 4294967296, d.e, d.f, d.g]).toArray rfl rfl R3 HI.out rfl HO.out ?_; intro w3 hw3)
  have R4 := WB.row R3 hw3.out
  have B4 := below_setRow' B3 (by omega) hw3.out
  refine bodyPost_ret (results_row1 rfl _ _ (w.heap.size + 1) 67 (w32 [(lo + hi) % 4294967296, d.a, d.b, d.c, (d.d + lo) % 4294967296, d.e, d.f, d.g]).toArray _ rfl R4 HU.out rfl HI.out) rfl ?_
  exact ⟨by rw [HN.out], B4⟩
end Go.Proofs.YteecemjbkpkpaaaDoor
