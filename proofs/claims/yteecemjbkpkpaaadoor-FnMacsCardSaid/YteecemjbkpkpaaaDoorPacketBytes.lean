/- A packet's bytes: the program's way. -/
import Derived.Test.YteecemjbkpkpaaaDoorBytesOf1
import Derived.Test.YteecemjbkpkpaaaDoorStamp
import Derived.Test.YteecemjbkpkpaaaDoorPacketOk
import Derived.Deep.RegionHeld3
namespace Go.Proofs.YteecemjbkpkpaaaDoor
open Go.ChangeShapes Go.WideShapes Go.ChangeAt Go.RowKit
set_option linter.unusedVariables false

theorem put1_size (n : Int) : (put1 n).size = 1 := rfl
theorem put4_size (n : Int) : (put4 n).size = 4 := rfl
theorem stampB_size {t : Int} (h : 0 ≤ t ∧ t ≤ 4000000000000000) : (stampB t).size = 8 := by
  unfold stampB
  rw [if_pos h, ByteArray.size_append, put4_size, put4_size]

def Pk.headB (p : Pk) : ByteArray := put1 (p.leap * 64 + p.version * 8 + p.mode)
def Pk.stepsB (p : Pk) : ByteArray := put1 p.stratum ++ put1 p.poll ++ put1 236
def Pk.lengthsB (p : Pk) : ByteArray := put4 p.delay ++ put4 p.disp ++ put4 0
def Pk.timesB (p : Pk) : ByteArray := stampB p.ref ++ stampB p.orig ++ stampB p.recv ++ stampB p.xmit
def Pk.bytes (p : Pk) : ByteArray := if p.ok then p.headB ++ p.stepsB ++ p.lengthsB ++ p.timesB else ⟨#[]⟩

theorem Pk.ok_bounds {p : Pk} (h : p.ok = true) : (0 ≤ p.leap ∧ p.leap ≤ 3) ∧ (1 ≤ p.version ∧ p.version ≤ 4) ∧ (1 ≤ p.mode ∧ p.mode ≤ 7) ∧ (0 ≤ p.stratum ∧ p.stratum ≤ 16) ∧ (0 ≤ p.poll ∧ p.poll ≤ 17) ∧
    (0 ≤ p.delay ∧ p.delay ≤ 4294967295) ∧ (0 ≤ p.disp ∧ p.disp ≤ 4294967295) ∧ (0 ≤ p.ref ∧ p.ref ≤ 4000000000000000) ∧ (0 ≤ p.orig ∧ p.orig ≤ 4000000000000000) ∧ (0 ≤ p.recv ∧ p.recv ≤ 4000000000000000) ∧ (0 ≤ p.xmit ∧ p.xmit ≤ 4000000000000000) := by
  simp only [Pk.ok, Pk.head, Pk.steps, Pk.lengths, Pk.times, Bool.and_eq_true, inB_iff] at h
  obtain ⟨⟨⟨⟨⟨h1, h2⟩, h3⟩, h4, h5⟩, h6, h7⟩, ⟨⟨h8, h9⟩, h10⟩, h11⟩ := h
  exact ⟨h1, h2, h3, h4, h5, h6, h7, h8, h9, h10, h11⟩

set_option maxHeartbeats 4000000 in
theorem packetBytes_impl (p : Pk) (w : World) :
    Calls Tryd.prog 16 #[.agg #[.int .i64 p.leap, .int .i64 p.version, .int .i64 p.mode, .int .i64 p.stratum, .int .i64 p.poll, .int .i64 p.delay, .int .i64 p.disp, .int .i64 p.ref, .int .i64 p.orig, .int .i64 p.recv, .int .i64 p.xmit]] w fun e w' => e = .returned (.string p.bytes) ∧ Below w.heap.size w w' := by
  have hp := packetOk_impl p
  obtain ⟨bp, ep⟩ : ∃ b, p.ok = b := ⟨_, rfl⟩
  rw [ep] at hp
  have HP := Lib.hid hp
  clear hp
  cases bp with
  | false =>
    have e1 : p.bytes = ⟨#[]⟩ := by unfold Pk.bytes; rw [ep]; rfl
    rw [e1]
    clear e1 ep
    go_enter Tryd.func16, Tryd.ntmps16
    go_wp2_with fail
    refine (HP.out _).mono ?_
    rintro e w1 ⟨rfl, rfl⟩
    go_wp2_with fail
    go_returns
    exact ⟨rfl, by go_grown⟩
  | true =>
    have e1 : p.bytes = p.headB ++ p.stepsB ++ p.lengthsB ++ p.timesB := by unfold Pk.bytes; rw [ep]; rfl
    rw [e1]
    obtain ⟨⟨a0, a1⟩, ⟨b0, b1⟩, ⟨c0, c1⟩, ⟨d0, d1⟩, ⟨f0, f1⟩, ⟨g0, g1⟩, ⟨i0, i1⟩, j, k, l, m⟩ := Pk.ok_bounds ep
    have z1 := put1_size
    have z4 := put4_size
    have j' := stampB_size j
    have k' := stampB_size k
    have l' := stampB_size l
    have m' := stampB_size m
    clear e1 ep j k l m
    have Q := blk_new w (.cells #[.int .i64 p.leap, .int .i64 p.version, .int .i64 p.mode, .int .i64 p.stratum, .int .i64 p.poll, .int .i64 p.delay, .int .i64 p.disp, .int .i64 p.ref, .int .i64 p.orig, .int .i64 p.recv, .int .i64 p.xmit] 25)
    go_enter Tryd.func16, Tryd.ntmps16
    go_wp2_with fail
    refine (HP.out _).mono ?_
    rintro e w1 ⟨rfl, rfl⟩
    go_wp2_with fail
    have Q0 := blk_alloc Q (.cells #[.int .i64 p.leap, .int .i64 p.version, .int .i64 p.mode, .int .i64 p.stratum, .int .i64 p.poll, .int .i64 p.delay, .int .i64 p.disp, .int .i64 p.ref, .int .i64 p.orig, .int .i64 p.recv, .int .i64 p.xmit] 25)
    have g0 : Below w.heap.size w ((w.alloc (.cells #[.int .i64 p.leap, .int .i64 p.version, .int .i64 p.mode, .int .i64 p.stratum, .int .i64 p.poll, .int .i64 p.delay, .int .i64 p.disp, .int .i64 p.ref, .int .i64 p.orig, .int .i64 p.recv, .int .i64 p.xmit] 25)).alloc (.cells #[.int .i64 p.leap, .int .i64 p.version, .int .i64 p.mode, .int .i64 p.stratum, .int .i64 p.poll, .int .i64 p.delay, .int .i64 p.disp, .int .i64 p.ref, .int .i64 p.orig, .int .i64 p.recv, .int .i64 p.xmit] 25)) := by go_grown
    clear Q
    refine (bytesOf1 _ (by omega) (by omega) _).mono ?_
    rintro e v1 ⟨rfl, hb1⟩; have Q := blk_next hb1 (b := w.heap.size) (o := .cells #[.int .i64 p.leap, .int .i64 p.version, .int .i64 p.mode, .int .i64 p.stratum, .int .i64 p.poll, .int .i64 p.delay, .int .i64 p.disp, .int .i64 p.ref, .int .i64 p.orig, .int .i64 p.recv, .int .i64 p.xmit] 25) (by assumption); have hg : Below w.heap.size w v1 := grow_next (by first | assumption | exact Below.drew (by assumption)) hb1
    clear hb1 Q0 g0
    go_wp2_with fail
    go_region_held3 (fun w' => w'.cell? ⟨w.heap.size, 0, none⟩ = some (.int .i64 p.leap) ∧ w'.cell? ⟨w.heap.size, 1, none⟩ = some (.int .i64 p.version) ∧ w'.cell? ⟨w.heap.size, 2, none⟩ = some (.int .i64 p.mode) ∧ w'.cell? ⟨w.heap.size, 3, none⟩ = some (.int .i64 p.stratum) ∧ w'.cell? ⟨w.heap.size, 4, none⟩ = some (.int .i64 p.poll) ∧ w'.cell? ⟨w.heap.size, 5, none⟩ = some (.int .i64 p.delay) ∧ w'.cell? ⟨w.heap.size, 6, none⟩ = some (.int .i64 p.disp) ∧ w'.cell? ⟨w.heap.size, 7, none⟩ = some (.int .i64 p.ref) ∧ w'.cell? ⟨w.heap.size, 8, none⟩ = some (.int .i64 p.orig) ∧ w'.cell? ⟨w.heap.size, 9, none⟩ = some (.int .i64 p.recv) ∧ w'.cell? ⟨w.heap.size, 10, none⟩ = some (.int .i64 p.xmit)) (exact packet_cells (by assumption))
      (first | (go_at_call 29; refine (bytesOf1 _ (by omega) (by omega) _).mono ?_; rintro e v1 ⟨rfl, hb1⟩; have Q := blk_next hb1 (b := w.heap.size) (o := .cells #[.int .i64 p.leap, .int .i64 p.version, .int .i64 p.mode, .int .i64 p.stratum, .int .i64 p.poll, .int .i64 p.delay, .int .i64 p.disp, .int .i64 p.ref, .int .i64 p.orig, .int .i64 p.recv, .int .i64 p.xmit] 25) (by assumption); have hg : Below w.heap.size w v1 := grow_next (by first | assumption | exact Below.drew (by assumption)) hb1))
    go_wp2_with fail
    go_region_held3 (fun w' => w'.cell? ⟨w.heap.size, 0, none⟩ = some (.int .i64 p.leap) ∧ w'.cell? ⟨w.heap.size, 1, none⟩ = some (.int .i64 p.version) ∧ w'.cell? ⟨w.heap.size, 2, none⟩ = some (.int .i64 p.mode) ∧ w'.cell? ⟨w.heap.size, 3, none⟩ = some (.int .i64 p.stratum) ∧ w'.cell? ⟨w.heap.size, 4, none⟩ = some (.int .i64 p.poll) ∧ w'.cell? ⟨w.heap.size, 5, none⟩ = some (.int .i64 p.delay) ∧ w'.cell? ⟨w.heap.size, 6, none⟩ = some (.int .i64 p.disp) ∧ w'.cell? ⟨w.heap.size, 7, none⟩ = some (.int .i64 p.ref) ∧ w'.cell? ⟨w.heap.size, 8, none⟩ = some (.int .i64 p.orig) ∧ w'.cell? ⟨w.heap.size, 9, none⟩ = some (.int .i64 p.recv) ∧ w'.cell? ⟨w.heap.size, 10, none⟩ = some (.int .i64 p.xmit)) (exact packet_cells (by assumption))
      (first | (go_at_call 29; refine (bytesOf4 _ (by omega) (by omega) _).mono ?_; rintro e v1 ⟨rfl, hb1⟩; have Q := blk_next hb1 (b := w.heap.size) (o := .cells #[.int .i64 p.leap, .int .i64 p.version, .int .i64 p.mode, .int .i64 p.stratum, .int .i64 p.poll, .int .i64 p.delay, .int .i64 p.disp, .int .i64 p.ref, .int .i64 p.orig, .int .i64 p.recv, .int .i64 p.xmit] 25) (by assumption); have hg : Below w.heap.size w v1 := grow_next (by first | assumption | exact Below.drew (by assumption)) hb1))
    go_wp2_with fail
    go_region_held3 (fun w' => w'.cell? ⟨w.heap.size, 0, none⟩ = some (.int .i64 p.leap) ∧ w'.cell? ⟨w.heap.size, 1, none⟩ = some (.int .i64 p.version) ∧ w'.cell? ⟨w.heap.size, 2, none⟩ = some (.int .i64 p.mode) ∧ w'.cell? ⟨w.heap.size, 3, none⟩ = some (.int .i64 p.stratum) ∧ w'.cell? ⟨w.heap.size, 4, none⟩ = some (.int .i64 p.poll) ∧ w'.cell? ⟨w.heap.size, 5, none⟩ = some (.int .i64 p.delay) ∧ w'.cell? ⟨w.heap.size, 6, none⟩ = some (.int .i64 p.disp) ∧ w'.cell? ⟨w.heap.size, 7, none⟩ = some (.int .i64 p.ref) ∧ w'.cell? ⟨w.heap.size, 8, none⟩ = some (.int .i64 p.orig) ∧ w'.cell? ⟨w.heap.size, 9, none⟩ = some (.int .i64 p.recv) ∧ w'.cell? ⟨w.heap.size, 10, none⟩ = some (.int .i64 p.xmit)) (exact packet_cells (by assumption))
      (first | (go_at_call 30; refine (stampBytes_impl _ _).mono ?_; rintro e v1 ⟨rfl, hb1⟩; have Q := blk_next hb1 (b := w.heap.size) (o := .cells #[.int .i64 p.leap, .int .i64 p.version, .int .i64 p.mode, .int .i64 p.stratum, .int .i64 p.poll, .int .i64 p.delay, .int .i64 p.disp, .int .i64 p.ref, .int .i64 p.orig, .int .i64 p.recv, .int .i64 p.xmit] 25) (by assumption); have hg : Below w.heap.size w v1 := grow_next (by first | assumption | exact Below.drew (by assumption)) hb1))
    go_wp2_with fail
    go_returns
    exact ⟨rfl, by assumption⟩
end Go.Proofs.YteecemjbkpkpaaaDoor
