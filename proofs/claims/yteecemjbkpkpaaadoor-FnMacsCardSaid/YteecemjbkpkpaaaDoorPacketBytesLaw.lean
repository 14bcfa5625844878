/- For every packet the program's PacketBytes answers as the reference. -/
import Derived.Test.YteecemjbkpkpaaaDoorPacketBytesD
namespace Go.Proofs.YteecemjbkpkpaaaDoor
open Go.ChangeShapes Go.WideShapes Go.ChangeAt Go.RowKit Go.Sort
set_option linter.unusedVariables false
set_option linter.unusedSimpArgs false

set_option maxRecDepth 100000 in
set_option maxHeartbeats 1000000 in
theorem packetBytes_spec (p : Pk) (w : World) :
    Calls Tryd.prog 36 #[.agg #[.int .i64 p.leap, .int .i64 p.version, .int .i64 p.mode, .int .i64 p.stratum, .int .i64 p.poll, .int .i64 p.delay, .int .i64 p.disp, .int .i64 p.ref, .int .i64 p.orig, .int .i64 p.recv, .int .i64 p.xmit]] w fun e w' => e = .returned (.string p.bytes) ∧ Below w.heap.size w w' := by
  have hp := packetOk_spec_below p
  obtain ⟨bp, ep⟩ : ∃ b, p.ok = b := ⟨_, rfl⟩
  rw [ep] at hp
  have HP := Lib.hid hp
  clear hp
  have Q0 := blk_new w (.cells #[.int .i64 p.leap, .int .i64 p.version, .int .i64 p.mode, .int .i64 p.stratum, .int .i64 p.poll, .int .i64 p.delay, .int .i64 p.disp, .int .i64 p.ref, .int .i64 p.orig, .int .i64 p.recv, .int .i64 p.xmit] 25)
  have g0 : Below w.heap.size w (w.alloc (.cells #[.int .i64 p.leap, .int .i64 p.version, .int .i64 p.mode, .int .i64 p.stratum, .int .i64 p.poll, .int .i64 p.delay, .int .i64 p.disp, .int .i64 p.ref, .int .i64 p.orig, .int .i64 p.recv, .int .i64 p.xmit] 25)) := below_new _ _
  cases bp with
  | false =>
    have e1 : p.bytes = ⟨#[]⟩ := by unfold Pk.bytes; rw [ep]; rfl
    rw [e1]
    clear e1 ep
    go_enter Tryd.func36, Tryd.ntmps36
    go_wp2_with fail
    refine (HP.out _).mono ?_
    rintro e w1 ⟨rfl, hb1⟩
    go_wp2_with fail
    go_returns
    exact ⟨rfl, grow_next g0 hb1⟩
  | true =>
    have HL := Lib.hid (fun w => l2Bytes_c p ep w)
    obtain ⟨bs, hbs⟩ : ∃ bs, p.bytes = bs := ⟨_, rfl⟩
    rw [hbs] at HL ⊢
    clear ep hbs
    go_enter Tryd.func36, Tryd.ntmps36
    go_wp2_with fail
    refine (HP.out _).mono ?_
    rintro e w1 ⟨rfl, hb1⟩
    have Q1 := blk_next hb1 Q0
    obtain ⟨x0, x1, x2, x3, x4, x5, x6, x7, x8, x9, x10⟩ := packet_cells Q1
    have g1 := grow_next g0 hb1
    go_wp2_with fail
    refine (HL.out _).mono ?_
    rintro e w2 ⟨rfl, hb2⟩
    go_wp2_with fail
    go_returns
    exact ⟨rfl, grow_next g1 hb2⟩
end Go.Proofs.YteecemjbkpkpaaaDoor
