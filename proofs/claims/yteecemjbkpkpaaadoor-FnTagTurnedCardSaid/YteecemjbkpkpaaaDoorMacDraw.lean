/- Drawn packets with keys, and drawn texts of packets with tags. -/
import Derived.Test.YteecemjbkpkpaaaDoorPacketDraw
import Derived.Test.YteecemjbkpkpaaaDoorBytesDraw
import Derived.Test.YteecemjbkpkpaaaDoorMga
import Derived.Test.YteecemjbkpkpaaaDoorHurt
import Derived.Test.YteecemjbkpkpaaaDoorReadMac
namespace Go.Proofs.YteecemjbkpkpaaaDoor
open Go.ChangeShapes Go.WideShapes Go.ChangeAt Go.RowKit
set_option linter.unusedVariables false
set_option linter.unusedSimpArgs false
set_option maxRecDepth 100000

/-- Some packet and a key of at most nine bytes. -/
def AnyPkKey (w : World) : Ending → World → Prop := fun e w' => ∃ (p : Pk) (k : ByteArray), k.size ≤ 9 ∧ e = .returned (.tuple #[.agg #[.int .i64 p.leap, .int .i64 p.version, .int .i64 p.mode, .int .i64 p.stratum, .int .i64 p.poll, .int .i64 p.delay, .int .i64 p.disp, .int .i64 p.ref, .int .i64 p.orig, .int .i64 p.recv, .int .i64 p.xmit], .string k]) ∧ Below w.heap.size w w'
set_option maxHeartbeats 2000000 in
theorem drawMacText_c (x : Option Addr) (n cap : Nat) (w : World) (hc : Code w.heap.size w (.slice x n cap) n) (hn : n ≤ 1048576) : Calls Tryd.prog 6 #[.slice x n cap] w (AnyPkKey w) := by
  have HU := Lib.hid Tryd.underlying25
  have hc0 := hc.next (w' := w.alloc (.cells #[.int .i64 zeroPk.leap, .int .i64 zeroPk.version, .int .i64 zeroPk.mode, .int .i64 zeroPk.stratum, .int .i64 zeroPk.poll, .int .i64 zeroPk.delay, .int .i64 zeroPk.disp, .int .i64 zeroPk.ref, .int .i64 zeroPk.orig, .int .i64 zeroPk.recv, .int .i64 zeroPk.xmit] 25)) (below_new _ _)
  have Q0 := blk_new w (.cells #[.int .i64 zeroPk.leap, .int .i64 zeroPk.version, .int .i64 zeroPk.mode, .int .i64 zeroPk.stratum, .int .i64 zeroPk.poll, .int .i64 zeroPk.delay, .int .i64 zeroPk.disp, .int .i64 zeroPk.ref, .int .i64 zeroPk.orig, .int .i64 zeroPk.recv, .int .i64 zeroPk.xmit] 25)
  have g0 : Below w.heap.size w (w.alloc (.cells #[.int .i64 zeroPk.leap, .int .i64 zeroPk.version, .int .i64 zeroPk.mode, .int .i64 zeroPk.stratum, .int .i64 zeroPk.poll, .int .i64 zeroPk.delay, .int .i64 zeroPk.disp, .int .i64 zeroPk.ref, .int .i64 zeroPk.orig, .int .i64 zeroPk.recv, .int .i64 zeroPk.xmit] 25)) := below_new _ _
  go_enter Tryd.func6, Tryd.ntmps6
  go_wp2_with fail
  change Calls _ _ _ (w.alloc (.cells #[.int .i64 zeroPk.leap, .int .i64 zeroPk.version, .int .i64 zeroPk.mode, .int .i64 zeroPk.stratum, .int .i64 zeroPk.poll, .int .i64 zeroPk.delay, .int .i64 zeroPk.disp, .int .i64 zeroPk.ref, .int .i64 zeroPk.orig, .int .i64 zeroPk.recv, .int .i64 zeroPk.xmit] 25)) _
  generalize w.alloc (.cells #[.int .i64 zeroPk.leap, .int .i64 zeroPk.version, .int .i64 zeroPk.mode, .int .i64 zeroPk.stratum, .int .i64 zeroPk.poll, .int .i64 zeroPk.delay, .int .i64 zeroPk.disp, .int .i64 zeroPk.ref, .int .i64 zeroPk.orig, .int .i64 zeroPk.recv, .int .i64 zeroPk.xmit] 25) = W at Q0 g0 hc0 ⊢
  have hlt : w.heap.size < W.heap.size := (Array.getElem?_eq_some_iff.1 Q0).1
  refine (open_c x n cap _).mono ?_
  rintro e w1 ⟨rfl, rfl⟩
  go_wp2_with fail
  refine (packet_c _ _ (rd_open hc0 hn)).mono ?_
  rintro e w2 ⟨p, rfl, hr2, hg2⟩
  have g2 := grown_below (g0.alloc g0.size _) hg2 g0.size
  have Q2 := (hg2.block w.heap.size (by rw [World.size_alloc]; omega) (by simp; omega)).trans (blk_alloc Q0 _)
  clear hg2 hc0 hc
  go_wp2_with fail
  have QP3 := blk_new w2 (.cells #[.int .i64 p.leap, .int .i64 p.version, .int .i64 p.mode, .int .i64 p.stratum, .int .i64 p.poll, .int .i64 p.delay, .int .i64 p.disp, .int .i64 p.ref, .int .i64 p.orig, .int .i64 p.recv, .int .i64 p.xmit] 25)
  have Q3 := blk_alloc Q2 (.cells #[.int .i64 p.leap, .int .i64 p.version, .int .i64 p.mode, .int .i64 p.stratum, .int .i64 p.poll, .int .i64 p.delay, .int .i64 p.disp, .int .i64 p.ref, .int .i64 p.orig, .int .i64 p.recv, .int .i64 p.xmit] 25)
  have hr3 := hr2.kept (World.grownBy_alloc w2 (.cells #[.int .i64 p.leap, .int .i64 p.version, .int .i64 p.mode, .int .i64 p.stratum, .int .i64 p.poll, .int .i64 p.delay, .int .i64 p.disp, .int .i64 p.ref, .int .i64 p.orig, .int .i64 p.recv, .int .i64 p.xmit] 25) none) (by simp)
  have g3 := g2.alloc g2.size (.cells #[.int .i64 p.leap, .int .i64 p.version, .int .i64 p.mode, .int .i64 p.stratum, .int .i64 p.poll, .int .i64 p.delay, .int .i64 p.disp, .int .i64 p.ref, .int .i64 p.orig, .int .i64 p.recv, .int .i64 p.xmit] 25)
  have h23 : W.heap.size < w2.heap.size := by
    obtain ⟨_, _, _, hb, _⟩ := hr2
    exact (Array.getElem?_eq_some_iff.1 hb).1
  have h3 : (w2.alloc (.cells #[.int .i64 p.leap, .int .i64 p.version, .int .i64 p.mode, .int .i64 p.stratum, .int .i64 p.poll, .int .i64 p.delay, .int .i64 p.disp, .int .i64 p.ref, .int .i64 p.orig, .int .i64 p.recv, .int .i64 p.xmit] 25)).heap.size = w2.heap.size + 1 := World.size_alloc _ _
  obtain ⟨B, hB⟩ : ∃ B, w2.heap.size = B := ⟨_, rfl⟩
  rw [hB] at QP3 h23 h3 ⊢
  generalize w2.alloc (.cells #[.int .i64 p.leap, .int .i64 p.version, .int .i64 p.mode, .int .i64 p.stratum, .int .i64 p.poll, .int .i64 p.delay, .int .i64 p.disp, .int .i64 p.ref, .int .i64 p.orig, .int .i64 p.recv, .int .i64 p.xmit] 25) = w3 at QP3 Q3 hr3 g3 h3 ⊢
  clear Q2 hr2 g2 Q0 g0 hB
  have hrd : Rd w3.drew W.heap.size := hr3.kept (row := none) ⟨rfl, rfl, rfl, Nat.le_refl _, fun _ _ _ => rfl⟩ (by simp)
  have QPd : w3.drew.heap[B]? = _ := QP3
  have Qd : w3.drew.heap[w.heap.size]? = _ := Q3
  have gd : Below w.heap.size w w3.drew := ⟨g3.os, g3.tape, g3.output, g3.size, g3.block⟩
  have h3d : w3.drew.heap.size = B + 1 := h3
  clear hr3 QP3 Q3 g3 h3
  obtain ⟨y0, y1, y2, y3, y4, y5, y6, y7, y8, y9, y10⟩ := packet_cells QPd
  go_region_with (go_at_call 14; refine (bytes_c _ 9 (by omega) _ hrd).mono ?_; rintro e w4 ⟨k, hk, rfl, hr4, hg4⟩; have QP4 := (hg4.block B (by omega) (by simp; omega)).trans QPd; have Q4 := (hg4.block w.heap.size (by omega) (by simp; omega)).trans Qd; have g4 := grown_below gd hg4 (by omega); have C := packet_cells QP4; have D := packet_cells Q4; have ff := packetP_thaw Q4; have f0 := ff 0 (by omega); have f1 := ff 1 (by omega); have f2 := ff 2 (by omega); have f3 := ff 3 (by omega); have f4 := ff 4 (by omega); have f5 := ff 5 (by omega); have f6 := ff 6 (by omega); have f7 := ff 7 (by omega); have f8 := ff 8 (by omega); have f9 := ff 9 (by omega); have f10 := ff 10 (by omega); clear ff)
  all_goals
    go_wp2_with fail
    obtain ⟨Z, hZ⟩ : ∃ Z, Z = (((((((((((w4.setCell ⟨w.heap.size, 0, none⟩ (.int .i64 p.leap)).setCell ⟨w.heap.size, 1, none⟩ (.int .i64 p.version)).setCell ⟨w.heap.size, 2, none⟩ (.int .i64 p.mode)).setCell ⟨w.heap.size, 3, none⟩ (.int .i64 p.stratum)).setCell ⟨w.heap.size, 4, none⟩ (.int .i64 p.poll)).setCell ⟨w.heap.size, 5, none⟩ (.int .i64 p.delay)).setCell ⟨w.heap.size, 6, none⟩ (.int .i64 p.disp)).setCell ⟨w.heap.size, 7, none⟩ (.int .i64 p.ref)).setCell ⟨w.heap.size, 8, none⟩ (.int .i64 p.orig)).setCell ⟨w.heap.size, 9, none⟩ (.int .i64 p.recv)).setCell ⟨w.heap.size, 10, none⟩ (.int .i64 p.xmit)) := ⟨_, rfl⟩
    have hK : Z.heap[w.heap.size]? = some (.cells #[.int .i64 p.leap, .int .i64 p.version, .int .i64 p.mode, .int .i64 p.stratum, .int .i64 p.poll, .int .i64 p.delay, .int .i64 p.disp, .int .i64 p.ref, .int .i64 p.orig, .int .i64 p.recv, .int .i64 p.xmit] 25) := by
      rw [hZ]
      exact rp_put Q4 p
    have hG := (show w.grownBy Z none by rw [hZ]; exact rp_gr (grownP_below g4) (Nat.le_refl _) p)
    rw [← hZ]
    clear hZ
    obtain ⟨rx0, rx1, rx2, rx3, rx4, rx5, rx6, rx7, rx8, rx9, rx10⟩ := packet_cells hK
    clear f0 f1 f2 f3 f4 f5 f6 f7 f8 f9 f10 C D
    try simp only [Exit.inBlock, Exit.then]
    refine bodyPost_ret (by simp [results, Tryd.results6, go_sem, rx0, rx1, rx2, rx3, rx4, rx5, rx6, rx7, rx8, rx9, rx10]; try rfl) rfl ?_
    exact ⟨p, k, hk, rfl, grownP_below' hG⟩
/-- A text of at most 81 bytes and a key of at most nine. -/
def AnyTextKey (w : World) : Ending → World → Prop := fun e w' => ∃ s k : ByteArray, s.size ≤ 81 ∧ k.size ≤ 9 ∧ e = .returned (.tuple #[.string s, .string k]) ∧ Below w.heap.size w w'
set_option maxHeartbeats 2000000 in
theorem drawReadMac_c (x : Option Addr) (n cap : Nat) (w : World) (hc : Code w.heap.size w (.slice x n cap) n) (hn : n ≤ 1048576) : Calls Tryd.prog 8 #[.slice x n cap] w (AnyTextKey w) := by
  go_enter Tryd.func8, Tryd.ntmps8
  go_wp2_with fail
  refine (open_c x n cap _).mono ?_
  rintro e w1 ⟨rfl, rfl⟩
  have hr1 := rd_open hc hn
  go_wp2_with fail
  refine (drawMacText_c x n cap _ (hc.next (below_new w _)) hn).mono ?_
  rintro e w2 ⟨p, k, hk, rfl, hb2⟩
  have g2 := grow_next (below_new w _) hb2
  have hr2 := hr1.kept (row := none) (grownP_below hb2) (by simp)
  have hr3 := hr2.kept (World.grownBy_alloc w2 (.cells #[.int .i64 p.leap, .int .i64 p.version, .int .i64 p.mode, .int .i64 p.stratum, .int .i64 p.poll, .int .i64 p.delay, .int .i64 p.disp, .int .i64 p.ref, .int .i64 p.orig, .int .i64 p.recv, .int .i64 p.xmit] 25) none) (by simp)
  have g3 := g2.alloc g2.size (.cells #[.int .i64 p.leap, .int .i64 p.version, .int .i64 p.mode, .int .i64 p.stratum, .int .i64 p.poll, .int .i64 p.delay, .int .i64 p.disp, .int .i64 p.ref, .int .i64 p.orig, .int .i64 p.recv, .int .i64 p.xmit] 25)
  have QP := blk_new w2 (.cells #[.int .i64 p.leap, .int .i64 p.version, .int .i64 p.mode, .int .i64 p.stratum, .int .i64 p.poll, .int .i64 p.delay, .int .i64 p.disp, .int .i64 p.ref, .int .i64 p.orig, .int .i64 p.recv, .int .i64 p.xmit] 25)
  clear hb2 g2 hr2 hr1 hc
  obtain ⟨y0, y1, y2, y3, y4, y5, y6, y7, y8, y9, y10⟩ := packet_cells QP
  have HM := Lib.hid (fun w => macText_s p k (by omega) w)
  have hsz : (macV p k).size ≤ 80 := by
    rcases macV_size p k with h | h
    · omega
    · rw [h]; exact Nat.zero_le _
  obtain ⟨s, hs⟩ : ∃ s, macV p k = s := ⟨_, rfl⟩
  rw [hs] at HM hsz
  clear hs
  go_wp2_with fail
  refine (HM.out _).mono ?_
  rintro e w4 ⟨rfl, hb4⟩
  have hr4 := hr3.kept (row := none) (grownP_below hb4) (by simp)
  have g4 := grow_next g3 hb4
  clear hr3 g3 hb4 y0 y1 y2 y3 y4 y5 y6 y7 y8 y9 y10 QP
  go_wp2_with fail
  refine (once_c _ 2 (by omega) (by omega) _ hr4).mono ?_
  rintro e w5 ⟨b, rfl, hr5, hg5⟩
  have g5 := grown_below g4 hg5 (Nat.le_refl _)
  cases b with
  | true =>
    go_wp2_with fail
    go_returns
    exact ⟨s, k, by omega, hk, rfl, g5⟩
  | false =>
    go_wp2_with fail
    refine (hurt_c _ s (by omega) _ hr5).mono ?_
    rintro e w6 ⟨u, hu, rfl, hr6, hg6⟩
    go_wp2_with fail
    go_returns
    exact ⟨u, k, by omega, hk, rfl, grown_below g5 hg6 (Nat.le_refl _)⟩
end Go.Proofs.YteecemjbkpkpaaaDoor
