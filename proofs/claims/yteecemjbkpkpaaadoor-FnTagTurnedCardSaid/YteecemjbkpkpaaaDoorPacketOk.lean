/- For every packet the program's PacketOk answers as the reference. -/
import Derived.Test.YteecemjbkpkpaaaDoorMga
import Derived.BigGuardPart
import Derived.BigQuiet
import Derived.Deep.QuietTactic
import Derived.Deep.Cut
import Derived.Deep.DeepCutAuto
namespace Go.Proofs.YteecemjbkpkpaaaDoor
open Go.ChangeShapes Go.WideShapes Go.ChangeAt Go.RowKit
set_option linter.unusedVariables false

/-- A packet's eleven numbers. -/
structure Pk where
  leap : Int
  version : Int
  mode : Int
  stratum : Int
  poll : Int
  delay : Int
  disp : Int
  ref : Int
  orig : Int
  recv : Int
  xmit : Int

def Pk.head (p : Pk) : Bool := inB 0 p.leap 3 && inB 1 p.version 4 && inB 1 p.mode 7
def Pk.steps (p : Pk) : Bool := inB 0 p.stratum 16 && inB 0 p.poll 17
def Pk.lengths (p : Pk) : Bool := inB 0 p.delay 4294967295 && inB 0 p.disp 4294967295
def Pk.times (p : Pk) : Bool := inB 0 p.ref 4000000000000000 && inB 0 p.orig 4000000000000000 && inB 0 p.recv 4000000000000000 && inB 0 p.xmit 4000000000000000
def Pk.ok (p : Pk) : Bool := p.head && p.steps && p.lengths && p.times

set_option maxHeartbeats 1000000 in
theorem packetOk_impl (p : Pk) (w : World) :
    Calls Tryd.prog 15 #[.agg #[.int .i64 p.leap, .int .i64 p.version, .int .i64 p.mode, .int .i64 p.stratum, .int .i64 p.poll, .int .i64 p.delay, .int .i64 p.disp, .int .i64 p.ref, .int .i64 p.orig, .int .i64 p.recv, .int .i64 p.xmit]] w fun e w' => e = .returned (.bool p.ok) ∧ w' = w.alloc (.cells #[.int .i64 p.leap, .int .i64 p.version, .int .i64 p.mode, .int .i64 p.stratum, .int .i64 p.poll, .int .i64 p.delay, .int .i64 p.disp, .int .i64 p.ref, .int .i64 p.orig, .int .i64 p.recv, .int .i64 p.xmit] 25) := by
  go_enter Tryd.func15, Tryd.ntmps15
  go_upto_region 1 with fail
  go_cut [3] (fun s3 wx => s3 = .bool p.head ∧ wx = w.alloc (.cells #[.int .i64 p.leap, .int .i64 p.version, .int .i64 p.mode, .int .i64 p.stratum, .int .i64 p.poll, .int .i64 p.delay, .int .i64 p.disp, .int .i64 p.ref, .int .i64 p.orig, .int .i64 p.recv, .int .i64 p.xmit] 25))
  case first =>
    go_wp2_with (first | (go_at_call 27; refine (within_c _ _ _ _).mono ?_; rintro e w1 ⟨rfl, rfl⟩) | (go_at_call 28; refine (isTime_c _ _).mono ?_; rintro e w1 ⟨rfl, rfl⟩))
    all_goals (go_meet; exact ⟨by simp [Pk.head, *], rfl⟩)
  case rest =>
    obtain ⟨rfl, rfl⟩ := hcut
    go_upto_region 2 with fail
    go_cut [3, 4] (fun s3 s4 wx => s3 = .bool p.head ∧ s4 = .bool p.steps ∧ wx = w.alloc (.cells #[.int .i64 p.leap, .int .i64 p.version, .int .i64 p.mode, .int .i64 p.stratum, .int .i64 p.poll, .int .i64 p.delay, .int .i64 p.disp, .int .i64 p.ref, .int .i64 p.orig, .int .i64 p.recv, .int .i64 p.xmit] 25))
    case first =>
      go_wp2_with (first | (go_at_call 27; refine (within_c _ _ _ _).mono ?_; rintro e w1 ⟨rfl, rfl⟩) | (go_at_call 28; refine (isTime_c _ _).mono ?_; rintro e w1 ⟨rfl, rfl⟩))
      all_goals (go_meet; exact ⟨rfl, by simp [Pk.steps, *], rfl⟩)
    case rest =>
      obtain ⟨rfl, rfl, rfl⟩ := hcut
      go_upto_region 3 with fail
      go_cut [3, 4, 5] (fun s3 s4 s5 wx => s3 = .bool p.head ∧ s4 = .bool p.steps ∧ s5 = .bool p.lengths ∧ wx = w.alloc (.cells #[.int .i64 p.leap, .int .i64 p.version, .int .i64 p.mode, .int .i64 p.stratum, .int .i64 p.poll, .int .i64 p.delay, .int .i64 p.disp, .int .i64 p.ref, .int .i64 p.orig, .int .i64 p.recv, .int .i64 p.xmit] 25))
      case first =>
        go_wp2_with (first | (go_at_call 27; refine (within_c _ _ _ _).mono ?_; rintro e w1 ⟨rfl, rfl⟩) | (go_at_call 28; refine (isTime_c _ _).mono ?_; rintro e w1 ⟨rfl, rfl⟩))
        all_goals (go_meet; exact ⟨rfl, rfl, by simp [Pk.lengths, *], rfl⟩)
      case rest =>
        obtain ⟨rfl, rfl, rfl, rfl⟩ := hcut
        go_upto_region 4 with fail
        go_cut [3, 4, 5, 6] (fun s3 s4 s5 s6 wx => s3 = .bool p.head ∧ s4 = .bool p.steps ∧ s5 = .bool p.lengths ∧ s6 = .bool p.times ∧ wx = w.alloc (.cells #[.int .i64 p.leap, .int .i64 p.version, .int .i64 p.mode, .int .i64 p.stratum, .int .i64 p.poll, .int .i64 p.delay, .int .i64 p.disp, .int .i64 p.ref, .int .i64 p.orig, .int .i64 p.recv, .int .i64 p.xmit] 25))
        case first =>
          go_wp2_with (first | (go_at_call 27; refine (within_c _ _ _ _).mono ?_; rintro e w1 ⟨rfl, rfl⟩) | (go_at_call 28; refine (isTime_c _ _).mono ?_; rintro e w1 ⟨rfl, rfl⟩))
          all_goals (go_meet; exact ⟨rfl, rfl, rfl, by simp [Pk.times, *], rfl⟩)
        case rest =>
          obtain ⟨rfl, rfl, rfl, rfl, rfl⟩ := hcut
          go_wp2
          all_goals (go_returns; exact ⟨by simp [Pk.ok, *], rfl⟩)

set_option maxHeartbeats 1000000 in
theorem packetOk_spec (p : Pk) (w : World) :
    Calls Tryd.prog 22 #[.agg #[.int .i64 p.leap, .int .i64 p.version, .int .i64 p.mode, .int .i64 p.stratum, .int .i64 p.poll, .int .i64 p.delay, .int .i64 p.disp, .int .i64 p.ref, .int .i64 p.orig, .int .i64 p.recv, .int .i64 p.xmit]] w fun e w' => e = .returned (.bool p.ok) ∧ w' = w.alloc (.cells #[.int .i64 p.leap, .int .i64 p.version, .int .i64 p.mode, .int .i64 p.stratum, .int .i64 p.poll, .int .i64 p.delay, .int .i64 p.disp, .int .i64 p.ref, .int .i64 p.orig, .int .i64 p.recv, .int .i64 p.xmit] 25) := by
  go_enter Tryd.func22, Tryd.ntmps22
  go_wp2_with (first | (go_at_call 37; refine (l1In_c _ _ _ _).mono ?_; rintro e w1 ⟨rfl, rfl⟩) | (go_at_call 38; refine (l1Time_c _ _).mono ?_; rintro e w1 ⟨rfl, rfl⟩))
  all_goals (go_returns; exact ⟨by simp [Pk.ok, Pk.head, Pk.steps, Pk.lengths, Pk.times, *], rfl⟩)


theorem packetOk_impl_below (p : Pk) (w : World) :
    Calls Tryd.prog 15 #[.agg #[.int .i64 p.leap, .int .i64 p.version, .int .i64 p.mode, .int .i64 p.stratum, .int .i64 p.poll, .int .i64 p.delay, .int .i64 p.disp, .int .i64 p.ref, .int .i64 p.orig, .int .i64 p.recv, .int .i64 p.xmit]] w fun e w' => e = .returned (.bool p.ok) ∧ Below w.heap.size w w' :=
  (packetOk_impl p w).mono fun e w' ⟨he, hw⟩ => ⟨he, by rw [hw]; exact (Below.refl _ _).alloc (Nat.le_refl _) _⟩

theorem packetOk_spec_below (p : Pk) (w : World) :
    Calls Tryd.prog 22 #[.agg #[.int .i64 p.leap, .int .i64 p.version, .int .i64 p.mode, .int .i64 p.stratum, .int .i64 p.poll, .int .i64 p.delay, .int .i64 p.disp, .int .i64 p.ref, .int .i64 p.orig, .int .i64 p.recv, .int .i64 p.xmit]] w fun e w' => e = .returned (.bool p.ok) ∧ Below w.heap.size w w' :=
  (packetOk_spec p w).mono fun e w' ⟨he, hw⟩ => ⟨he, by rw [hw]; exact (Below.refl _ _).alloc (Nat.le_refl _) _⟩

theorem packet_cells {W : World} {b : Nat} {T : TypeId} {q : Pk} (h : W.heap[b]? = some (.cells #[.int .i64 q.leap, .int .i64 q.version, .int .i64 q.mode, .int .i64 q.stratum, .int .i64 q.poll, .int .i64 q.delay, .int .i64 q.disp, .int .i64 q.ref, .int .i64 q.orig, .int .i64 q.recv, .int .i64 q.xmit] T)) : W.cell? ⟨b, 0, none⟩ = some (.int .i64 q.leap) ∧ W.cell? ⟨b, 1, none⟩ = some (.int .i64 q.version) ∧ W.cell? ⟨b, 2, none⟩ = some (.int .i64 q.mode) ∧ W.cell? ⟨b, 3, none⟩ = some (.int .i64 q.stratum) ∧ W.cell? ⟨b, 4, none⟩ = some (.int .i64 q.poll) ∧ W.cell? ⟨b, 5, none⟩ = some (.int .i64 q.delay) ∧ W.cell? ⟨b, 6, none⟩ = some (.int .i64 q.disp) ∧ W.cell? ⟨b, 7, none⟩ = some (.int .i64 q.ref) ∧ W.cell? ⟨b, 8, none⟩ = some (.int .i64 q.orig) ∧ W.cell? ⟨b, 9, none⟩ = some (.int .i64 q.recv) ∧ W.cell? ⟨b, 10, none⟩ = some (.int .i64 q.xmit) := by
  simp [World.cell?, h]
theorem packets_cells {W : World} {b c : Nat} {T : TypeId} {q a : Pk} (h : W.heap[b]? = some (.cells #[.int .i64 q.leap, .int .i64 q.version, .int .i64 q.mode, .int .i64 q.stratum, .int .i64 q.poll, .int .i64 q.delay, .int .i64 q.disp, .int .i64 q.ref, .int .i64 q.orig, .int .i64 q.recv, .int .i64 q.xmit] T)) (h' : W.heap[c]? = some (.cells #[.int .i64 a.leap, .int .i64 a.version, .int .i64 a.mode, .int .i64 a.stratum, .int .i64 a.poll, .int .i64 a.delay, .int .i64 a.disp, .int .i64 a.ref, .int .i64 a.orig, .int .i64 a.recv, .int .i64 a.xmit] T)) : W.cell? ⟨b, 0, none⟩ = some (.int .i64 q.leap) ∧ W.cell? ⟨b, 1, none⟩ = some (.int .i64 q.version) ∧ W.cell? ⟨b, 2, none⟩ = some (.int .i64 q.mode) ∧ W.cell? ⟨b, 3, none⟩ = some (.int .i64 q.stratum) ∧ W.cell? ⟨b, 4, none⟩ = some (.int .i64 q.poll) ∧ W.cell? ⟨b, 5, none⟩ = some (.int .i64 q.delay) ∧ W.cell? ⟨b, 6, none⟩ = some (.int .i64 q.disp) ∧ W.cell? ⟨b, 7, none⟩ = some (.int .i64 q.ref) ∧ W.cell? ⟨b, 8, none⟩ = some (.int .i64 q.orig) ∧ W.cell? ⟨b, 9, none⟩ = some (.int .i64 q.recv) ∧ W.cell? ⟨b, 10, none⟩ = some (.int .i64 q.xmit) ∧ W.cell? ⟨c, 0, none⟩ = some (.int .i64 a.leap) ∧ W.cell? ⟨c, 1, none⟩ = some (.int .i64 a.version) ∧ W.cell? ⟨c, 2, none⟩ = some (.int .i64 a.mode) ∧ W.cell? ⟨c, 3, none⟩ = some (.int .i64 a.stratum) ∧ W.cell? ⟨c, 4, none⟩ = some (.int .i64 a.poll) ∧ W.cell? ⟨c, 5, none⟩ = some (.int .i64 a.delay) ∧ W.cell? ⟨c, 6, none⟩ = some (.int .i64 a.disp) ∧ W.cell? ⟨c, 7, none⟩ = some (.int .i64 a.ref) ∧ W.cell? ⟨c, 8, none⟩ = some (.int .i64 a.orig) ∧ W.cell? ⟨c, 9, none⟩ = some (.int .i64 a.recv) ∧ W.cell? ⟨c, 10, none⟩ = some (.int .i64 a.xmit) := by
  simp [World.cell?, h, h']
end Go.Proofs.YteecemjbkpkpaaaDoor
