/- A right packet comes back from its 48 bytes; what is read, written again, has just its bytes: at every drawn packet and text. -/
import Derived.Test.YtdapongofiohgaaReadPacketLaw
import Derived.Test.YtdapongofiohgaaRpBack
import Derived.Test.YtdapongofiohgaaPacketDraw
import Derived.Test.YtdapongofiohgaaHurt
namespace Go.Proofs.Ytdapongofiohgaa
open Go.ChangeShapes Go.WideShapes Go.ChangeAt Go.RowKit
set_option linter.unusedVariables false
set_option linter.unusedSimpArgs false

theorem belowP_grown {a b : World} (h : Below a.heap.size a b) : a.grownBy b none := ⟨h.os, h.tape, h.output, h.size, fun k hk _ => h.block k hk⟩
theorem bytesP_le (p : Pk) : p.bytes.size ≤ 48 := by
  cases h : p.ok with
  | true => rw [(rp_back p h).1]; exact Nat.le_refl _
  | false => rw [(rp_none p h).1]; exact Nat.zero_le _
def AnyPk (w : World) : Ending → World → Prop := fun e w' => ∃ p : Pk, e = .returned (.agg #[.int .i64 p.leap, .int .i64 p.version, .int .i64 p.mode, .int .i64 p.stratum, .int .i64 p.poll, .int .i64 p.delay, .int .i64 p.disp, .int .i64 p.ref, .int .i64 p.orig, .int .i64 p.recv, .int .i64 p.xmit]) ∧ Below w.heap.size w w'
def AnyTextP (m : Nat) (w : World) : Ending → World → Prop := fun e w' => ∃ s : ByteArray, s.size ≤ m ∧ e = .returned (.string s) ∧ Below w.heap.size w w'
theorem rdP_block {w w' : World} {a k : Nat} {o : Obj} (hg : w.grownBy w' (some a)) (h : w.heap[k]? = some o) (hne : k ≠ a) : w'.heap[k]? = some o :=
  (hg.block k (Array.getElem?_eq_some_iff.1 h).1 (fun e => by simp only [Option.some.injEq] at e; omega)).trans h
set_option maxRecDepth 100000 in
set_option maxHeartbeats 2000000 in
theorem drawPacketOk_c (x : Option Addr) (n cap : Nat) (w : World) (hc : Code w.heap.size w (.slice x n cap) n) (hn : n ≤ 1048576) : Calls Try.prog 11 #[.slice x n cap] w (AnyPk w) := by
  have hc0 := hc.next (w' := w.alloc (.cells #[.int .i64 0, .int .i64 0, .int .i64 0, .int .i64 0, .int .i64 0, .int .i64 0, .int .i64 0, .int .i64 0, .int .i64 0, .int .i64 0, .int .i64 0] 25)) (by go_grown)
  go_enter Try.func11, Try.ntmps11
  go_wp2_with fail
  refine (open_c x n cap _).mono ?_
  rintro e w1 ⟨rfl, rfl⟩
  have hr1 := rd_open hc0 hn
  simp only [World.size_alloc] at hr1
  have hZ1 : ((w.alloc (.cells #[.int .i64 0, .int .i64 0, .int .i64 0, .int .i64 0, .int .i64 0, .int .i64 0, .int .i64 0, .int .i64 0, .int .i64 0, .int .i64 0, .int .i64 0] 25)).alloc (.cells #[.slice x n cap, .int .i64 0] 89)).heap[w.heap.size]? = some (.cells #[.int .i64 zeroPk.leap, .int .i64 zeroPk.version, .int .i64 zeroPk.mode, .int .i64 zeroPk.stratum, .int .i64 zeroPk.poll, .int .i64 zeroPk.delay, .int .i64 zeroPk.disp, .int .i64 zeroPk.ref, .int .i64 zeroPk.orig, .int .i64 zeroPk.recv, .int .i64 zeroPk.xmit] 25) := blk_alloc (blk_new w _) (.cells #[.slice x n cap, .int .i64 0] 89)
  have g1 : Below w.heap.size w ((w.alloc (.cells #[.int .i64 0, .int .i64 0, .int .i64 0, .int .i64 0, .int .i64 0, .int .i64 0, .int .i64 0, .int .i64 0, .int .i64 0, .int .i64 0, .int .i64 0] 25)).alloc (.cells #[.slice x n cap, .int .i64 0] 89)) := by go_grown
  go_wp2_with fail
  refine (packet_c _ _ hr1).mono ?_
  rintro e w2 ⟨p, rfl, hr2, hg2⟩
  have hZ2 := rdP_block hg2 hZ1 (by omega)
  have g2 := grown_below g1 hg2 (by omega)
  clear hr1 hZ1 g1 hr2 hg2 hc0 hc
  have ff := packetP_thaw hZ2
  have f0 := ff 0 (by omega)
  have f1 := ff 1 (by omega)
  have f2 := ff 2 (by omega)
  have f3 := ff 3 (by omega)
  have f4 := ff 4 (by omega)
  have f5 := ff 5 (by omega)
  have f6 := ff 6 (by omega)
  have f7 := ff 7 (by omega)
  have f8 := ff 8 (by omega)
  have f9 := ff 9 (by omega)
  have f10 := ff 10 (by omega)
  clear ff
  obtain ⟨z0, z1, z2, z3, z4, z5, z6, z7, z8, z9, z10⟩ := packet_cells hZ2
  go_wp2_with fail
  obtain ⟨Z, hZ⟩ : ∃ Z, Z = (((((((((((w2.setCell ⟨w.heap.size, 0, none⟩ (.int .i64 p.leap)).setCell ⟨w.heap.size, 1, none⟩ (.int .i64 p.version)).setCell ⟨w.heap.size, 2, none⟩ (.int .i64 p.mode)).setCell ⟨w.heap.size, 3, none⟩ (.int .i64 p.stratum)).setCell ⟨w.heap.size, 4, none⟩ (.int .i64 p.poll)).setCell ⟨w.heap.size, 5, none⟩ (.int .i64 p.delay)).setCell ⟨w.heap.size, 6, none⟩ (.int .i64 p.disp)).setCell ⟨w.heap.size, 7, none⟩ (.int .i64 p.ref)).setCell ⟨w.heap.size, 8, none⟩ (.int .i64 p.orig)).setCell ⟨w.heap.size, 9, none⟩ (.int .i64 p.recv)).setCell ⟨w.heap.size, 10, none⟩ (.int .i64 p.xmit)) := ⟨_, rfl⟩
  have hK : Z.heap[w.heap.size]? = some (.cells #[.int .i64 p.leap, .int .i64 p.version, .int .i64 p.mode, .int .i64 p.stratum, .int .i64 p.poll, .int .i64 p.delay, .int .i64 p.disp, .int .i64 p.ref, .int .i64 p.orig, .int .i64 p.recv, .int .i64 p.xmit] 25) := by
    rw [hZ]
    exact rp_put hZ2 p
  have hG := (show Below w.heap.size w Z by rw [hZ]; exact rp_below g2 (Nat.le_refl _) p)
  rw [← hZ]
  obtain ⟨rx0, rx1, rx2, rx3, rx4, rx5, rx6, rx7, rx8, rx9, rx10⟩ := packet_cells hK
  clear f0 f1 f2 f3 f4 f5 f6 f7 f8 f9 f10 z0 z1 z2 z3 z4 z5 z6 z7 z8 z9 z10
  try simp only [Exit.inBlock, Exit.then]
  refine bodyPost_ret (by simp [results, Try.results11, go_sem, rx0, rx1, rx2, rx3, rx4, rx5, rx6, rx7, rx8, rx9, rx10]; try rfl) rfl ?_
  exact ⟨p, rfl, hG⟩
set_option maxRecDepth 100000 in
set_option maxHeartbeats 2000000 in
theorem drawPacketBytes_c (x : Option Addr) (n cap : Nat) (w : World) (hc : Code w.heap.size w (.slice x n cap) n) (hn : n ≤ 1048576) : Calls Try.prog 9 #[.slice x n cap] w (AnyPk w) := by
  have hc0 := hc.next (w' := w.alloc (.cells #[.int .i64 0, .int .i64 0, .int .i64 0, .int .i64 0, .int .i64 0, .int .i64 0, .int .i64 0, .int .i64 0, .int .i64 0, .int .i64 0, .int .i64 0] 25)) (by go_grown)
  have hZ1 : (w.alloc (.cells #[.int .i64 0, .int .i64 0, .int .i64 0, .int .i64 0, .int .i64 0, .int .i64 0, .int .i64 0, .int .i64 0, .int .i64 0, .int .i64 0, .int .i64 0] 25)).heap[w.heap.size]? = some (.cells #[.int .i64 zeroPk.leap, .int .i64 zeroPk.version, .int .i64 zeroPk.mode, .int .i64 zeroPk.stratum, .int .i64 zeroPk.poll, .int .i64 zeroPk.delay, .int .i64 zeroPk.disp, .int .i64 zeroPk.ref, .int .i64 zeroPk.orig, .int .i64 zeroPk.recv, .int .i64 zeroPk.xmit] 25) := blk_new w _
  have g1 : Below w.heap.size w (w.alloc (.cells #[.int .i64 0, .int .i64 0, .int .i64 0, .int .i64 0, .int .i64 0, .int .i64 0, .int .i64 0, .int .i64 0, .int .i64 0, .int .i64 0, .int .i64 0] 25)) := below_new _ _
  go_enter Try.func9, Try.ntmps9
  go_wp2_with fail
  refine (drawPacketOk_c x n cap _ (hc.next g1) hn).mono ?_
  rintro e w2 ⟨p, rfl, hb2⟩
  have hZ2 := blk_next hb2 hZ1
  have g2 := grow_next g1 hb2
  clear hZ1 g1 hb2 hc
  have ff := packetP_thaw hZ2
  have f0 := ff 0 (by omega)
  have f1 := ff 1 (by omega)
  have f2 := ff 2 (by omega)
  have f3 := ff 3 (by omega)
  have f4 := ff 4 (by omega)
  have f5 := ff 5 (by omega)
  have f6 := ff 6 (by omega)
  have f7 := ff 7 (by omega)
  have f8 := ff 8 (by omega)
  have f9 := ff 9 (by omega)
  have f10 := ff 10 (by omega)
  clear ff
  obtain ⟨z0, z1, z2, z3, z4, z5, z6, z7, z8, z9, z10⟩ := packet_cells hZ2
  go_wp2_with fail
  obtain ⟨Z, hZ⟩ : ∃ Z, Z = (((((((((((w2.setCell ⟨w.heap.size, 0, none⟩ (.int .i64 p.leap)).setCell ⟨w.heap.size, 1, none⟩ (.int .i64 p.version)).setCell ⟨w.heap.size, 2, none⟩ (.int .i64 p.mode)).setCell ⟨w.heap.size, 3, none⟩ (.int .i64 p.stratum)).setCell ⟨w.heap.size, 4, none⟩ (.int .i64 p.poll)).setCell ⟨w.heap.size, 5, none⟩ (.int .i64 p.delay)).setCell ⟨w.heap.size, 6, none⟩ (.int .i64 p.disp)).setCell ⟨w.heap.size, 7, none⟩ (.int .i64 p.ref)).setCell ⟨w.heap.size, 8, none⟩ (.int .i64 p.orig)).setCell ⟨w.heap.size, 9, none⟩ (.int .i64 p.recv)).setCell ⟨w.heap.size, 10, none⟩ (.int .i64 p.xmit)) := ⟨_, rfl⟩
  have hK : Z.heap[w.heap.size]? = some (.cells #[.int .i64 p.leap, .int .i64 p.version, .int .i64 p.mode, .int .i64 p.stratum, .int .i64 p.poll, .int .i64 p.delay, .int .i64 p.disp, .int .i64 p.ref, .int .i64 p.orig, .int .i64 p.recv, .int .i64 p.xmit] 25) := by
    rw [hZ]
    exact rp_put hZ2 p
  have hG := (show Below w.heap.size w Z by rw [hZ]; exact rp_below g2 (Nat.le_refl _) p)
  rw [← hZ]
  obtain ⟨rx0, rx1, rx2, rx3, rx4, rx5, rx6, rx7, rx8, rx9, rx10⟩ := packet_cells hK
  clear f0 f1 f2 f3 f4 f5 f6 f7 f8 f9 f10 z0 z1 z2 z3 z4 z5 z6 z7 z8 z9 z10
  try simp only [Exit.inBlock, Exit.then]
  refine bodyPost_ret (by simp [results, Try.results9, go_sem, rx0, rx1, rx2, rx3, rx4, rx5, rx6, rx7, rx8, rx9, rx10]; try rfl) rfl ?_
  exact ⟨p, rfl, hG⟩
set_option maxRecDepth 100000 in
set_option maxHeartbeats 1000000 in
theorem drawReadPacket_c (x : Option Addr) (n cap : Nat) (w : World) (hc : Code w.heap.size w (.slice x n cap) n) (hn : n ≤ 1048576) : Calls Try.prog 12 #[.slice x n cap] w (AnyTextP 49 w) := by
  go_enter Try.func12, Try.ntmps12
  go_wp2_with fail
  refine (open_c x n cap _).mono ?_
  rintro e w1 ⟨rfl, rfl⟩
  go_wp2_with fail
  refine (packet_c _ _ (rd_open hc hn)).mono ?_
  rintro e w2 ⟨p, rfl, hr2, hg2⟩
  have hb2 := grown_below ((Below.refl _ _).alloc (Nat.le_refl _) _) hg2 (Nat.le_refl _)
  go_wp2_with fail
  refine (packetBytes_spec p _).mono ?_
  rintro e w3 ⟨rfl, hb3⟩
  have hb23 := grow_next hb2 hb3
  have hr3 : Rd w3 w.heap.size := hr2.kept (belowP_grown hb3) (by simp)
  have hsz := bytesP_le p
  obtain ⟨s, es⟩ : ∃ s, p.bytes = s := ⟨_, rfl⟩
  rw [es] at hsz
  rw [es]
  clear es
  go_wp2_with fail
  refine (once_c _ 2 (by omega) (by omega) _ hr3).mono ?_
  rintro e w4 ⟨b, rfl, hr4, hg4⟩
  have hb4 := grown_below hb23 hg4 (Nat.le_refl _)
  cases b with
  | true =>
    go_wp2_with fail
    go_returns
    exact ⟨s, by omega, rfl, hb4⟩
  | false =>
    go_wp2_with fail
    refine (hurt_c _ s (by omega) _ hr4).mono ?_
    rintro e w6 ⟨u, hu, rfl, hr6, hg6⟩
    go_wp2_with fail
    go_returns
    exact ⟨u, by omega, rfl, grown_below hb4 hg6 (Nat.le_refl _)⟩
end Go.Proofs.Ytdapongofiohgaa
