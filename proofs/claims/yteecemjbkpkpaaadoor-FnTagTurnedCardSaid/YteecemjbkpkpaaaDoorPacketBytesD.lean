/- A packet's bytes: the reference's way. -/
import Derived.Test.YteecemjbkpkpaaaDoorPacketBytes
import Derived.Test.YteecemjbkpkpaaaDoorDet
import Derived.Test.YteecemjbkpkpaaaDoorMga
import Derived.Deep.QuietTactic
import Derived.Lib.Hide
import Derived.IntWalk
namespace Go.Proofs.YteecemjbkpkpaaaDoor
open Go.ChangeShapes Go.WideShapes Go.ChangeAt Go.RowKit Go.Sort
set_option linter.unusedVariables false
set_option linter.unusedSimpArgs false

theorem blk_newk {w : World} {k : Nat} {o : Obj} (h : w.heap[k]? = some o) (o' : Obj) : (w.alloc o').drew.heap[k]? = some o := blk_alloc h o'
theorem below_allocd {w v : World} (h : Below w.heap.size w v) (o : Obj) : Below w.heap.size w (v.alloc o).drew := below_drewR (h.alloc h.size o)
theorem slice_cells {W : World} {b : Nat} {T : TypeId} {x0 x1 x2 x3 : Int} (h : W.heap[b]? = some (.cells #[.int .u8 x0, .int .u8 x1, .int .u8 x2, .int .u8 x3] T)) :
    W.cell? ⟨b, 0, none⟩ = some (.int .u8 x0) ∧ W.cell? ⟨b, 1, none⟩ = some (.int .u8 x1) ∧ W.cell? ⟨b, 2, none⟩ = some (.int .u8 x2) ∧ W.cell? ⟨b, 3, none⟩ = some (.int .u8 x3) := by
  simp [World.cell?, h]
theorem convert4 {x0 x1 x2 x3 : Int} (W : World) (g : Nat) (h0 : W.cell? ⟨g, 0, none⟩ = some (.int .u8 x0)) (h1 : W.cell? ⟨g, 1, none⟩ = some (.int .u8 x1)) (h2 : W.cell? ⟨g, 2, none⟩ = some (.int .u8 x2)) (h3 : W.cell? ⟨g, 3, none⟩ = some (.int .u8 x3)) :
    (convert 22 9 (.slice (some ⟨g, 0, none⟩) 4 4)).run Tryd.prog W = .ok (.string (strOfNums [x0, x1, x2, x3])) W :=
  run_convert_bytes_arg (P := Tryd.prog) W 22 5 Tryd.underlying22 Tryd.underlying5 g 0 4 4 [x0, x1, x2, x3] rfl (fun i hi => by
    match i, hi with
    | 0, _ => exact h0
    | 1, _ => exact h1
    | 2, _ => exact h2
    | 3, _ => exact h3) 9 Tryd.underlying9
theorem bytes_eq (p : Pk) (h : p.ok = true) : ((((((strOfNums [p.leap * 64 + p.version * 8 + p.mode, p.stratum, p.poll, 236] ++ put4 p.delay) ++ put4 p.disp) ++ ⟨#[0, 0, 0, 0]⟩) ++ stampB p.ref) ++ stampB p.orig) ++ stampB p.recv) ++ stampB p.xmit = p.bytes := by
  obtain ⟨⟨a0, a1⟩, ⟨b0, b1⟩, ⟨c0, c1⟩, ⟨d0, d1⟩, ⟨f0, f1⟩, _⟩ := Pk.ok_bounds h
  have e1 : p.bytes = p.headB ++ p.stepsB ++ p.lengthsB ++ p.timesB := by unfold Pk.bytes; rw [h]; rfl
  rw [e1]
  unfold Pk.headB Pk.stepsB Pk.lengthsB Pk.timesB
  have z : (⟨#[0, 0, 0, 0]⟩ : ByteArray) = put4 0 := by decide
  have s : strOfNums [p.leap * 64 + p.version * 8 + p.mode, p.stratum, p.poll, 236] = put1 (p.leap * 64 + p.version * 8 + p.mode) ++ (put1 p.stratum ++ put1 p.poll ++ put1 236) := by
    have m1 : (p.leap * 64 + p.version * 8 + p.mode) % 256 = p.leap * 64 + p.version * 8 + p.mode := by omega
    have m2 : p.stratum % 256 = p.stratum := by omega
    have m3 : p.poll % 256 = p.poll := by omega
    unfold put1
    rw [m1, m2, m3]
    apply ByteArray.ext
    simp [strOfNums]
  rw [z, s]
  simp only [ByteArray.append_assoc]

attribute [local go_sem] detQuiet detUpon Cls
def FourAt (x0 x1 x2 x3 : Int) (u : Value) (w : World) : Prop := ∃ b, u = .slice (some ⟨b, 0, none⟩) 4 4 ∧ w.heap[b]? = some (.cells #[.int .u8 x0, .int .u8 x1, .int .u8 x2, .int .u8 x3] 5)
theorem FourAt.next {x0 x1 x2 x3 : Int} : ∀ u w w', FourAt x0 x1 x2 x3 u w → Below w.heap.size w w' → FourAt x0 x1 x2 x3 u w' := fun u w w' ⟨b, e, h⟩ hb => ⟨b, e, blk_next hb h⟩
set_option maxRecDepth 100000 in
set_option maxHeartbeats 4000000 in
theorem l2Bytes_c (p : Pk) (h : p.ok = true) (w : World) :
    Calls Tryd.prog 39 #[.agg #[.int .i64 p.leap, .int .i64 p.version, .int .i64 p.mode, .int .i64 p.stratum, .int .i64 p.poll, .int .i64 p.delay, .int .i64 p.disp, .int .i64 p.ref, .int .i64 p.orig, .int .i64 p.recv, .int .i64 p.xmit]] w fun e w' => e = .returned (.string p.bytes) ∧ Below w.heap.size w w' := by
  obtain ⟨⟨a0, a1⟩, ⟨b0, b1⟩, ⟨c0, c1⟩, ⟨d0, d1⟩, ⟨f0, f1⟩, ⟨g0, g1⟩, ⟨i0, i1⟩, j, k, l, m⟩ := Pk.ok_bounds h
  obtain ⟨j0, j1⟩ := j
  obtain ⟨k0, k1⟩ := k
  obtain ⟨l0, l1⟩ := l
  obtain ⟨m0, m1⟩ := m
  have E := Lib.hid (bytes_eq p h)
  obtain ⟨n0, hn⟩ : ∃ n0, n0 = p.leap * 64 + p.version * 8 + p.mode := ⟨_, rfl⟩
  have u1 : IntKind.i64.wrap (64 * p.leap) = 64 * p.leap := IntWalk.i64_in _ (by omega)
  have u2 : IntKind.i64.wrap (8 * p.version) = 8 * p.version := IntWalk.i64_in _ (by omega)
  have u3 : IntKind.i64.wrap (64 * p.leap + 8 * p.version) = 64 * p.leap + 8 * p.version := IntWalk.i64_in _ (by omega)
  have u4 : IntKind.i64.wrap (64 * p.leap + 8 * p.version + p.mode) = n0 := by rw [hn, IntWalk.i64_in _ (by omega)]; omega
  have u5 : IntKind.u8.wrap n0 = n0 := by rw [IntKind.wrap_u8]; omega
  have u6 : IntKind.u8.wrap p.stratum = p.stratum := by rw [IntKind.wrap_u8]; omega
  have u7 : IntKind.u8.wrap p.poll = p.poll := by rw [IntKind.wrap_u8]; omega
  have z0 : (strOfNums [n0, p.stratum, p.poll, 236]).size = 4 := rfl
  have z4 := put4_size
  have zj := stampB_size ⟨j0, j1⟩
  have zk := stampB_size ⟨k0, k1⟩
  have zl := stampB_size ⟨l0, l1⟩
  have zm := stampB_size ⟨m0, m1⟩
  rw [← hn] at E
  have Q0 := blk_new w (.cells #[.int .i64 p.leap, .int .i64 p.version, .int .i64 p.mode, .int .i64 p.stratum, .int .i64 p.poll, .int .i64 p.delay, .int .i64 p.disp, .int .i64 p.ref, .int .i64 p.orig, .int .i64 p.recv, .int .i64 p.xmit] 25)
  have g0 : Below w.heap.size w (w.alloc (.cells #[.int .i64 p.leap, .int .i64 p.version, .int .i64 p.mode, .int .i64 p.stratum, .int .i64 p.poll, .int .i64 p.delay, .int .i64 p.disp, .int .i64 p.ref, .int .i64 p.orig, .int .i64 p.recv, .int .i64 p.xmit] 25)) := by go_grown
  have HP1 := Lib.hid (show 0 ≤ p.delay ∧ p.delay < 4611686018427387904 from ⟨by omega, by omega⟩)
  have HP2 := Lib.hid (show 0 ≤ p.disp ∧ p.disp < 4611686018427387904 from ⟨by omega, by omega⟩)
  have HT := Lib.hid (show (0 ≤ p.ref ∧ p.ref ≤ 4000000000000000) ∧ (0 ≤ p.orig ∧ p.orig ≤ 4000000000000000) ∧ (0 ≤ p.recv ∧ p.recv ≤ 4000000000000000) ∧ (0 ≤ p.xmit ∧ p.xmit ≤ 4000000000000000) from ⟨⟨j0, j1⟩, ⟨k0, k1⟩, ⟨l0, l1⟩, ⟨m0, m1⟩⟩)
  clear h hn a0 a1 b0 b1 c0 c1 d0 d1 f0 f1 g0 g1 i0 i1 j0 j1 k0 k1 l0 l1 m0 m1
  go_enter Tryd.func39, Tryd.ntmps39
  go_wp2_with fail
  obtain ⟨W0, hW0⟩ : ∃ W0, W0 = w.alloc (.cells #[.int .i64 p.leap, .int .i64 p.version, .int .i64 p.mode, .int .i64 p.stratum, .int .i64 p.poll, .int .i64 p.delay, .int .i64 p.disp, .int .i64 p.ref, .int .i64 p.orig, .int .i64 p.recv, .int .i64 p.xmit] 25) := ⟨_, rfl⟩
  rw [← hW0] at Q0 ⊢
  have G0 : Below w.heap.size w W0 := by rw [hW0]; exact below_new _ _
  clear hW0
  have C1 := Lib.hid (fun d os => Calls.ext (put_spec p.delay HP1.out.1 HP1.out.2 (grow (redrawn W0 d) os)))
  have C2 := Lib.hid (fun d os => Calls.ext (put_spec p.disp HP2.out.1 HP2.out.2 (grow (redrawn W0 d) os)))
  have C3 := Lib.hid (fun d os => Calls.ext (stamp_spec p.ref HT.out.1.1 HT.out.1.2 (grow (redrawn W0 d) os)))
  have C4 := Lib.hid (fun d os => Calls.ext (stamp_spec p.orig HT.out.2.1.1 HT.out.2.1.2 (grow (redrawn W0 d) os)))
  have C5 := Lib.hid (fun d os => Calls.ext (stamp_spec p.recv HT.out.2.2.1.1 HT.out.2.2.1.2 (grow (redrawn W0 d) os)))
  have C6 := Lib.hid (fun d os => Calls.ext (stamp_spec p.xmit HT.out.2.2.2.1 HT.out.2.2.2.2 (grow (redrawn W0 d) os)))
  obtain ⟨x0, x1, x2, x3, x4, x5, x6, x7, x8, x9, x10⟩ := packet_cells Q0
  have y0 := cell_regrown x0
  have y1 := cell_regrown x1
  have y2 := cell_regrown x2
  have y3 := cell_regrown x3
  have y4 := cell_regrown x4
  have y5 := cell_regrown x5
  have y6 := cell_regrown x6
  have y7 := cell_regrown x7
  have y8 := cell_regrown x8
  have y9 := cell_regrown x9
  have y10 := cell_regrown x10
  refine wp_region_det 17 20 (FourAt n0 p.stratum p.poll 236) (by kernel_rfl) (by kernel_rfl) (by simp) FourAt.next ?_
  repeat ((with_reducible refine wpDet_step (by kernel_rfl) (by kernel_rfl) (fun K hK => ?_)); go_simp; first | ((with_reducible refine hK _ ?_); clear hK K) | (rw [if_neg (by intro h; exact nomatch h)]; (with_reducible refine hK _ ?_); clear hK K) | (apply Exists.intro; (with_reducible refine ⟨fun _ => ?_, hK _ ?_⟩); (fail); clear hK K))
  refine wpDet_made (by kernel_rfl) ?_ ?_
  · rintro _ ⟨p', rfl⟩
    refine ⟨.slice (some ⟨(grow (redrawn W0 p'.d) p'.os).heap.size, 0, none⟩) 4 4, (grow (redrawn W0 p'.d) p'.os).alloc (.cells #[.int .u8 n0, .int .u8 p.stratum, .int .u8 p.poll, .int .u8 236] 5), ?_, below_new _ _, ⟨_, rfl, blk_new _ _⟩⟩
    generalize grow (redrawn W0 p'.d) p'.os = W1
    go_simp
  refine wpDet_read (.string (strOfNums [n0, p.stratum, p.poll, 236])) (by kernel_rfl) (by kernel_rfl) ?_ ?_
  · rintro W1 _ _ ⟨b, rfl, hb⟩
    obtain ⟨m0, m1, m2, m3⟩ := slice_cells hb
    have hcv := convert4 W1 b m0 m1 m2 m3
    go_simp
  repeat ((with_reducible refine wpDet_step (by kernel_rfl) (by kernel_rfl) (fun K hK => ?_)); go_simp; first | ((with_reducible refine hK _ ?_); clear hK K) | (rw [if_neg (by intro h; exact nomatch h)]; (with_reducible refine hK _ ?_); clear hK K) | (apply Exists.intro; (with_reducible refine ⟨fun _ => ?_, hK _ ?_⟩); (first | with_reducible exact C1.out _ _ | with_reducible exact C2.out _ _ | with_reducible exact C3.out _ _ | with_reducible exact C4.out _ _ | with_reducible exact C5.out _ _ | with_reducible exact C6.out _ _); clear hK K))
  with_reducible refine wpDet_nil ?_
  intro _ w' hw' hg'
  have g1 := grow_next G0 (cls_below.1 hw')
  obtain ⟨b, rfl, _⟩ := hg'
  go_wp2_with fail
  go_returns
  exact ⟨by rw [E.out]; rfl, g1⟩
end Go.Proofs.YteecemjbkpkpaaaDoor
