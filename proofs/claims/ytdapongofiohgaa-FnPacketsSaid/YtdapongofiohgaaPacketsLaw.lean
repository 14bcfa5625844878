/- A right packet comes back from its 48 bytes; what is read, written again, has just its bytes: at every drawn packet and text. -/
import Derived.Test.YtdapongofiohgaaPacketsFn
import Derived.Deep.RegionHeld3
import Derived.Lib.QuietBelow
namespace Go.Proofs.Ytdapongofiohgaa
open Go.ChangeShapes Go.WideShapes Go.ChangeAt Go.RowKit Go.Sort
set_option linter.unusedVariables false
set_option linter.unusedSimpArgs false

theorem rp_again (t : ByteArray) (h : rpOk t = true) : (rpRes t).bytes = t := by
  have e : rpRes t = rpPk t := by unfold rpRes; rw [h]; rfl
  have h' := h
  unfold rpOk at h'
  simp only [Bool.and_eq_true, decide_eq_true_eq] at h'
  rw [e]
  have := rp_same t h'.1.1.1.1 h'.1.2
  rw [h] at this
  exact toList_inj (beq_iff_eq.1 this)
theorem isEmpty_of {s : ByteArray} (h : s.size = 0) : s.toList.isEmpty = true := by
  rw [ByteArray.toList_eq, List.isEmpty_iff, ← List.length_eq_zero_iff]
  simpa using h
theorem isEmpty_not {s : ByteArray} (h : s.size ≠ 0) : s.toList.isEmpty = false := by
  rw [ByteArray.toList_eq]
  cases ht : s.data.toList with
  | nil => exact absurd (by have := congrArg List.length ht; simpa using this) h
  | cons _ _ => rfl
set_option maxRecDepth 100000 in
set_option maxHeartbeats 8000000 in
theorem packets_walk (w : World) (a : Option Addr) (n cap z : Nat) (hz : z = n ∧ Code w.heap.size w (.slice a n cap) n) :
    Calls Try.prog 3 #[.slice a n cap] w fun e w' => e = .returned (.bool true) ∧ Below w.heap.size w w' := by
  obtain ⟨hzn, hc⟩ := hz
  clear hzn
  by_cases hbig : n ≤ 1048576
  · go_enter Try.func3, Try.ntmps3
    go_wp2_with (go_at_call 8; go_in)
    refine (drawPacketBytes_c a n cap _ hc hbig).mono ?_
    rintro e w1 ⟨p, rfl, hb1⟩
    have HPI := Lib.hid (fun w => packetBytes_impl p w)
    have HPS := Lib.hid (fun w => packetBytes_spec p w)
    have HSI := Lib.hid (fun w => readPacket_impl p.bytes (Nat.le_trans (bytesP_le p) (by omega)) w)
    have HPO := Lib.hid (packetOk_impl_below p)
    have HB := Lib.hid (fun h => rp_back p h)
    have HN := Lib.hid (fun h => rp_none p h)
    obtain ⟨s, hs⟩ : ∃ s, p.bytes = s := ⟨_, rfl⟩
    rw [hs] at HPI HPS HSI HB HN
    clear hs
    have P1 := blk_new w1 (.cells #[.int .i64 p.leap, .int .i64 p.version, .int .i64 p.mode, .int .i64 p.stratum, .int .i64 p.poll, .int .i64 p.delay, .int .i64 p.disp, .int .i64 p.ref, .int .i64 p.orig, .int .i64 p.recv, .int .i64 p.xmit] 25)
    have G1 := hb1.alloc hb1.size (.cells #[.int .i64 p.leap, .int .i64 p.version, .int .i64 p.mode, .int .i64 p.stratum, .int .i64 p.poll, .int .i64 p.delay, .int .i64 p.disp, .int .i64 p.ref, .int .i64 p.orig, .int .i64 p.recv, .int .i64 p.xmit] 25)
    clear hb1
    go_wp2_with fail
    refine (HPI.out _).mono ?_
    rintro e w2 ⟨rfl, hb2⟩
    have P2 := blk_next hb2 P1
    have G2 := grow_next G1 hb2
    clear P1 G1 hb2
    go_wp2_with fail
    refine (drawPacketOk_c a n cap _ (hc.next G2) hbig).mono ?_
    rintro e w3 ⟨x, rfl, hb3⟩
    have HXI := Lib.hid (packetOk_impl_below x)
    have HXS := Lib.hid (packetOk_spec_below x)
    obtain ⟨kx, hkx⟩ : ∃ k, x.ok = k := ⟨_, rfl⟩
    rw [hkx] at HXI HXS
    clear hkx
    have P3 := blk_alloc (blk_next hb3 P2) (.cells #[.int .i64 x.leap, .int .i64 x.version, .int .i64 x.mode, .int .i64 x.stratum, .int .i64 x.poll, .int .i64 x.delay, .int .i64 x.disp, .int .i64 x.ref, .int .i64 x.orig, .int .i64 x.recv, .int .i64 x.xmit] 25)
    have X3 := blk_new w3 (.cells #[.int .i64 x.leap, .int .i64 x.version, .int .i64 x.mode, .int .i64 x.stratum, .int .i64 x.poll, .int .i64 x.delay, .int .i64 x.disp, .int .i64 x.ref, .int .i64 x.orig, .int .i64 x.recv, .int .i64 x.xmit] 25)
    have g3 := grow_next G2 hb3
    have G3 := g3.alloc g3.size (.cells #[.int .i64 x.leap, .int .i64 x.version, .int .i64 x.mode, .int .i64 x.stratum, .int .i64 x.poll, .int .i64 x.delay, .int .i64 x.disp, .int .i64 x.ref, .int .i64 x.orig, .int .i64 x.recv, .int .i64 x.xmit] 25)
    clear P2 G2 hb3 g3
    go_wp2_with fail
    refine (drawReadPacket_c a n cap _ (hc.next G3) hbig).mono ?_
    rintro e w4 ⟨t, ht, rfl, hb4⟩
    have HTI := Lib.hid (fun w => readPacket_impl t (by omega) w)
    have HTS := Lib.hid (fun w => readPacket_spec t (by omega) w)
    have HAG := Lib.hid (fun h => rp_again t h)
    have HYI := Lib.hid (fun w => packetBytes_impl (rpRes t) w)
    obtain ⟨y, hy⟩ : ∃ y, rpRes t = y := ⟨_, rfl⟩
    obtain ⟨r, hr⟩ : ∃ r, rpOk t = r := ⟨_, rfl⟩
    rw [hy, hr] at HTI HTS HAG
    rw [hy] at HYI
    clear hy hr ht
    have P4 := blk_next hb4 P3
    have X4 := blk_next hb4 X3
    have G4 := grow_next G3 hb4
    clear P3 X3 G3 hb4 hc
    go_wp2_with fail
    refine (HTI.out _).mono ?_
    rintro e w5 ⟨rfl, hg5⟩
    have hb5 := grownP_below' hg5
    have P5 := blk_alloc (blk_next hb5 P4) (.cells #[.int .i64 y.leap, .int .i64 y.version, .int .i64 y.mode, .int .i64 y.stratum, .int .i64 y.poll, .int .i64 y.delay, .int .i64 y.disp, .int .i64 y.ref, .int .i64 y.orig, .int .i64 y.recv, .int .i64 y.xmit] 25)
    have X5 := blk_alloc (blk_next hb5 X4) (.cells #[.int .i64 y.leap, .int .i64 y.version, .int .i64 y.mode, .int .i64 y.stratum, .int .i64 y.poll, .int .i64 y.delay, .int .i64 y.disp, .int .i64 y.ref, .int .i64 y.orig, .int .i64 y.recv, .int .i64 y.xmit] 25)
    have Y5 := blk_new w5 (.cells #[.int .i64 y.leap, .int .i64 y.version, .int .i64 y.mode, .int .i64 y.stratum, .int .i64 y.poll, .int .i64 y.delay, .int .i64 y.disp, .int .i64 y.ref, .int .i64 y.orig, .int .i64 y.recv, .int .i64 y.xmit] 25)
    have g5 := grow_next G4 hb5
    have G5 := g5.alloc g5.size (.cells #[.int .i64 y.leap, .int .i64 y.version, .int .i64 y.mode, .int .i64 y.stratum, .int .i64 y.poll, .int .i64 y.delay, .int .i64 y.disp, .int .i64 y.ref, .int .i64 y.orig, .int .i64 y.recv, .int .i64 y.xmit] 25)
    clear P4 X4 G4 hg5 hb5 g5
    go_wp2_with fail
    refine (HTS.out _).mono ?_
    rintro e w6 ⟨rfl, hb6⟩
    have P6 := blk_alloc (blk_next hb6 P5) (.cells #[.int .i64 y.leap, .int .i64 y.version, .int .i64 y.mode, .int .i64 y.stratum, .int .i64 y.poll, .int .i64 y.delay, .int .i64 y.disp, .int .i64 y.ref, .int .i64 y.orig, .int .i64 y.recv, .int .i64 y.xmit] 25)
    have X6 := blk_alloc (blk_next hb6 X5) (.cells #[.int .i64 y.leap, .int .i64 y.version, .int .i64 y.mode, .int .i64 y.stratum, .int .i64 y.poll, .int .i64 y.delay, .int .i64 y.disp, .int .i64 y.ref, .int .i64 y.orig, .int .i64 y.recv, .int .i64 y.xmit] 25)
    have Y6 := blk_alloc (blk_next hb6 Y5) (.cells #[.int .i64 y.leap, .int .i64 y.version, .int .i64 y.mode, .int .i64 y.stratum, .int .i64 y.poll, .int .i64 y.delay, .int .i64 y.disp, .int .i64 y.ref, .int .i64 y.orig, .int .i64 y.recv, .int .i64 y.xmit] 25)
    have Z6 := blk_new w6 (.cells #[.int .i64 y.leap, .int .i64 y.version, .int .i64 y.mode, .int .i64 y.stratum, .int .i64 y.poll, .int .i64 y.delay, .int .i64 y.disp, .int .i64 y.ref, .int .i64 y.orig, .int .i64 y.recv, .int .i64 y.xmit] 25)
    have g6 := grow_next G5 hb6
    have G6 := g6.alloc g6.size (.cells #[.int .i64 y.leap, .int .i64 y.version, .int .i64 y.mode, .int .i64 y.stratum, .int .i64 y.poll, .int .i64 y.delay, .int .i64 y.disp, .int .i64 y.ref, .int .i64 y.orig, .int .i64 y.recv, .int .i64 y.xmit] 25)
    clear P5 X5 Y5 G5 hb6 g6
    go_upto_region 8 with (fail)
    obtain ⟨W, hW⟩ : ∃ W, W = w6.alloc (.cells #[.int .i64 y.leap, .int .i64 y.version, .int .i64 y.mode, .int .i64 y.stratum, .int .i64 y.poll, .int .i64 y.delay, .int .i64 y.disp, .int .i64 y.ref, .int .i64 y.orig, .int .i64 y.recv, .int .i64 y.xmit] 25) := ⟨_, rfl⟩
    rw [← hW] at P6 X6 Y6 Z6 G6 ⊢
    clear hW
    -- GEN
    obtain ⟨pz0, pz1, pz2, pz3, pz4, pz5, pz6, pz7, pz8, pz9, pz10⟩ := packet_cells (q := p) P6
    have kp0 := cell_regrown pz0
    have kp1 := cell_regrown pz1
    have kp2 := cell_regrown pz2
    have kp3 := cell_regrown pz3
    have kp4 := cell_regrown pz4
    have kp5 := cell_regrown pz5
    have kp6 := cell_regrown pz6
    have kp7 := cell_regrown pz7
    have kp8 := cell_regrown pz8
    have kp9 := cell_regrown pz9
    have kp10 := cell_regrown pz10
    clear pz0 pz1 pz2 pz3 pz4 pz5 pz6 pz7 pz8 pz9 pz10
    obtain ⟨xz0, xz1, xz2, xz3, xz4, xz5, xz6, xz7, xz8, xz9, xz10⟩ := packet_cells (q := x) X6
    have kx0 := cell_regrown xz0
    have kx1 := cell_regrown xz1
    have kx2 := cell_regrown xz2
    have kx3 := cell_regrown xz3
    have kx4 := cell_regrown xz4
    have kx5 := cell_regrown xz5
    have kx6 := cell_regrown xz6
    have kx7 := cell_regrown xz7
    have kx8 := cell_regrown xz8
    have kx9 := cell_regrown xz9
    have kx10 := cell_regrown xz10
    clear xz0 xz1 xz2 xz3 xz4 xz5 xz6 xz7 xz8 xz9 xz10
    obtain ⟨yz0, yz1, yz2, yz3, yz4, yz5, yz6, yz7, yz8, yz9, yz10⟩ := packet_cells (q := y) Y6
    have ky0 := cell_regrown yz0
    have ky1 := cell_regrown yz1
    have ky2 := cell_regrown yz2
    have ky3 := cell_regrown yz3
    have ky4 := cell_regrown yz4
    have ky5 := cell_regrown yz5
    have ky6 := cell_regrown yz6
    have ky7 := cell_regrown yz7
    have ky8 := cell_regrown yz8
    have ky9 := cell_regrown yz9
    have ky10 := cell_regrown yz10
    clear yz0 yz1 yz2 yz3 yz4 yz5 yz6 yz7 yz8 yz9 yz10
    obtain ⟨vz0, vz1, vz2, vz3, vz4, vz5, vz6, vz7, vz8, vz9, vz10⟩ := packet_cells (q := y) Z6
    have kv0 := cell_regrown vz0
    have kv1 := cell_regrown vz1
    have kv2 := cell_regrown vz2
    have kv3 := cell_regrown vz3
    have kv4 := cell_regrown vz4
    have kv5 := cell_regrown vz5
    have kv6 := cell_regrown vz6
    have kv7 := cell_regrown vz7
    have kv8 := cell_regrown vz8
    have kv9 := cell_regrown vz9
    have kv10 := cell_regrown vz10
    clear vz0 vz1 vz2 vz3 vz4 vz5 vz6 vz7 vz8 vz9 vz10
    have C1 := Lib.hid (fun d os => Calls.regrown_of (HPS.out (grow (redrawn W d) os)))
    have C2 := Lib.hid (fun d os => Calls.regrown_of (HXI.out (grow (redrawn W d) os)))
    have C3 := Lib.hid (fun d os => Calls.regrown_of (HXS.out (grow (redrawn W d) os)))
    clear HPS HXI HXS
    cases r with
    | false =>
      refine wp_region_quiet_below (by kernel_rfl) (by kernel_rfl) ?_
      repeat ((with_reducible refine wpQuiet_step (fun K hK => ?_)); go_simp; first | ((with_reducible refine hK _ ?_); clear hK K) | (rw [if_neg (by intro h; exact nomatch h)]; (with_reducible refine hK _ ?_); clear hK K) | (apply Exists.intro; (with_reducible refine ⟨fun _ => ?_, hK _ ?_⟩); (first | with_reducible exact C1.out _ _ | with_reducible exact C2.out _ _ | with_reducible exact C3.out _ _); clear hK K))
      with_reducible refine wpQuiet_nil ?_
      intro _ hw'
      obtain ⟨⟨dq, osq⟩, hw''⟩ := hw'
      subst hw''
      have G8 := grow_next G6 (below_regrown W dq osq)
      have P8 := blk_next (below_regrown W dq osq) P6
      clear kp0 kp1 kp2 kp3 kp4 kp5 kp6 kp7 kp8 kp9 kp10 kx0 kx1 kx2 kx3 kx4 kx5 kx6 kx7 kx8 kx9 kx10 ky0 ky1 ky2 ky3 ky4 ky5 ky6 ky7 ky8 ky9 ky10 kv0 kv1 kv2 kv3 kv4 kv5 kv6 kv7 kv8 kv9 kv10 P6 X6 Y6 Z6 G6
      obtain ⟨W8, hW8⟩ : ∃ W8, W8 = grow (redrawn W dq) osq := ⟨_, rfl⟩
      rw [← hW8] at P8 G8 ⊢
      clear hW8
      obtain ⟨bp, hbp⟩ : ∃ b, p.ok = b := ⟨_, rfl⟩
      rw [hbp] at HPO HB HN
      cases bp with
      | true =>
        obtain ⟨hz, hok, hpk⟩ := HB.out rfl
        have hres : rpRes s = p := by unfold rpRes; rw [hok, hpk]; rfl
        rw [hok, hres] at HSI
        have k1 := isEmpty_not (s := s) (by omega)
        have k2 : ((s.size : Int) == 48) = true := by simp; omega
        clear hz hok hpk hres HB HN hbp HAG HYI HPI HTI HTS
        go_wp2_with fail
        refine (HSI.out _).mono ?_
        rintro e w9 ⟨rfl, hg9⟩
        have hb9 := grownP_below' hg9
        have P9 := blk_alloc (blk_next hb9 P8) (.cells #[.int .i64 p.leap, .int .i64 p.version, .int .i64 p.mode, .int .i64 p.stratum, .int .i64 p.poll, .int .i64 p.delay, .int .i64 p.disp, .int .i64 p.ref, .int .i64 p.orig, .int .i64 p.recv, .int .i64 p.xmit] 25)
        have U9 := blk_new w9 (.cells #[.int .i64 p.leap, .int .i64 p.version, .int .i64 p.mode, .int .i64 p.stratum, .int .i64 p.poll, .int .i64 p.delay, .int .i64 p.disp, .int .i64 p.ref, .int .i64 p.orig, .int .i64 p.recv, .int .i64 p.xmit] 25)
        have g9 := grow_next G8 hb9
        have G9 := g9.alloc g9.size (.cells #[.int .i64 p.leap, .int .i64 p.version, .int .i64 p.mode, .int .i64 p.stratum, .int .i64 p.poll, .int .i64 p.delay, .int .i64 p.disp, .int .i64 p.ref, .int .i64 p.orig, .int .i64 p.recv, .int .i64 p.xmit] 25)
        clear P8 G8 hg9 hb9 g9
        go_upto_region 12 with (fail)
        obtain ⟨W9, hW9⟩ : ∃ W9, W9 = w9.alloc (.cells #[.int .i64 p.leap, .int .i64 p.version, .int .i64 p.mode, .int .i64 p.stratum, .int .i64 p.poll, .int .i64 p.delay, .int .i64 p.disp, .int .i64 p.ref, .int .i64 p.orig, .int .i64 p.recv, .int .i64 p.xmit] 25) := ⟨_, rfl⟩
        rw [← hW9] at P9 U9 G9 ⊢
        clear hW9
        obtain ⟨cp0, cp1, cp2, cp3, cp4, cp5, cp6, cp7, cp8, cp9, cp10⟩ := packet_cells (q := p) P9
        go_wp2_with fail
        refine (HPO.out _).mono ?_
        rintro e w10 ⟨rfl, hb10⟩
        have P10 := blk_next hb10 P9
        have U10 := blk_next hb10 U9
        have G10 := grow_next G9 hb10
        clear P9 U9 G9 hb10 cp0 cp1 cp2 cp3 cp4 cp5 cp6 cp7 cp8 cp9 cp10
        obtain ⟨cp0, cp1, cp2, cp3, cp4, cp5, cp6, cp7, cp8, cp9, cp10⟩ := packet_cells (q := p) P10
        obtain ⟨cu0, cu1, cu2, cu3, cu4, cu5, cu6, cu7, cu8, cu9, cu10⟩ := packet_cells (q := p) U10
        go_wp2_with fail
        go_returns
        exact ⟨rfl, G10⟩
      | false =>
        obtain ⟨hz, hok⟩ := HN.out rfl
        have hres : rpRes s = zeroPk := by unfold rpRes; rw [hok]; rfl
        rw [hok, hres] at HSI
        have k1 := isEmpty_of (s := s) (by rw [hz]; rfl)
        clear hz hok hres HB HN hbp HAG HYI HPI HTI HTS
        go_wp2_with fail
        refine (HSI.out _).mono ?_
        rintro e w9 ⟨rfl, hg9⟩
        have hb9 := grownP_below' hg9
        have P9 := blk_alloc (blk_next hb9 P8) (.cells #[.int .i64 zeroPk.leap, .int .i64 zeroPk.version, .int .i64 zeroPk.mode, .int .i64 zeroPk.stratum, .int .i64 zeroPk.poll, .int .i64 zeroPk.delay, .int .i64 zeroPk.disp, .int .i64 zeroPk.ref, .int .i64 zeroPk.orig, .int .i64 zeroPk.recv, .int .i64 zeroPk.xmit] 25)
        have U9 := blk_new w9 (.cells #[.int .i64 zeroPk.leap, .int .i64 zeroPk.version, .int .i64 zeroPk.mode, .int .i64 zeroPk.stratum, .int .i64 zeroPk.poll, .int .i64 zeroPk.delay, .int .i64 zeroPk.disp, .int .i64 zeroPk.ref, .int .i64 zeroPk.orig, .int .i64 zeroPk.recv, .int .i64 zeroPk.xmit] 25)
        have g9 := grow_next G8 hb9
        have G9 := g9.alloc g9.size (.cells #[.int .i64 zeroPk.leap, .int .i64 zeroPk.version, .int .i64 zeroPk.mode, .int .i64 zeroPk.stratum, .int .i64 zeroPk.poll, .int .i64 zeroPk.delay, .int .i64 zeroPk.disp, .int .i64 zeroPk.ref, .int .i64 zeroPk.orig, .int .i64 zeroPk.recv, .int .i64 zeroPk.xmit] 25)
        clear P8 G8 hg9 hb9 g9
        go_upto_region 12 with (fail)
        obtain ⟨W9, hW9⟩ : ∃ W9, W9 = w9.alloc (.cells #[.int .i64 zeroPk.leap, .int .i64 zeroPk.version, .int .i64 zeroPk.mode, .int .i64 zeroPk.stratum, .int .i64 zeroPk.poll, .int .i64 zeroPk.delay, .int .i64 zeroPk.disp, .int .i64 zeroPk.ref, .int .i64 zeroPk.orig, .int .i64 zeroPk.recv, .int .i64 zeroPk.xmit] 25) := ⟨_, rfl⟩
        rw [← hW9] at P9 U9 G9 ⊢
        clear hW9
        obtain ⟨cp0, cp1, cp2, cp3, cp4, cp5, cp6, cp7, cp8, cp9, cp10⟩ := packet_cells (q := p) P9
        go_wp2_with fail
        refine (HPO.out _).mono ?_
        rintro e w10 ⟨rfl, hb10⟩
        have P10 := blk_next hb10 P9
        have U10 := blk_next hb10 U9
        have G10 := grow_next G9 hb10
        clear P9 U9 G9 hb10 cp0 cp1 cp2 cp3 cp4 cp5 cp6 cp7 cp8 cp9 cp10
        obtain ⟨cp0, cp1, cp2, cp3, cp4, cp5, cp6, cp7, cp8, cp9, cp10⟩ := packet_cells (q := p) P10
        obtain ⟨cu0, cu1, cu2, cu3, cu4, cu5, cu6, cu7, cu8, cu9, cu10⟩ := packet_cells (q := zeroPk) U10
        go_wp2_with fail
        go_returns
        exact ⟨rfl, G10⟩
    | true =>
      have C4 := Lib.hid (fun d os => Calls.regrown_of (show Calls Try.prog 10 #[.agg #[.int .i64 y.leap, .int .i64 y.version, .int .i64 y.mode, .int .i64 y.stratum, .int .i64 y.poll, .int .i64 y.delay, .int .i64 y.disp, .int .i64 y.ref, .int .i64 y.orig, .int .i64 y.recv, .int .i64 y.xmit]] (grow (redrawn W d) os) fun e w' => e = .returned (.string t) ∧ Below (grow (redrawn W d) os).heap.size (grow (redrawn W d) os) w' from HAG.out rfl ▸ HYI.out (grow (redrawn W d) os)))
      refine wp_region_quiet_below (by kernel_rfl) (by kernel_rfl) ?_
      repeat ((with_reducible refine wpQuiet_step (fun K hK => ?_)); go_simp; first | ((with_reducible refine hK _ ?_); clear hK K) | (rw [if_neg (by intro h; exact nomatch h)]; (with_reducible refine hK _ ?_); clear hK K) | (apply Exists.intro; (with_reducible refine ⟨fun _ => ?_, hK _ ?_⟩); (first | with_reducible exact C1.out _ _ | with_reducible exact C2.out _ _ | with_reducible exact C3.out _ _ | with_reducible exact C4.out _ _); clear hK K))
      with_reducible refine wpQuiet_nil ?_
      intro _ hw'
      obtain ⟨⟨dq, osq⟩, hw''⟩ := hw'
      subst hw''
      have G8 := grow_next G6 (below_regrown W dq osq)
      have P8 := blk_next (below_regrown W dq osq) P6
      clear kp0 kp1 kp2 kp3 kp4 kp5 kp6 kp7 kp8 kp9 kp10 kx0 kx1 kx2 kx3 kx4 kx5 kx6 kx7 kx8 kx9 kx10 ky0 ky1 ky2 ky3 ky4 ky5 ky6 ky7 ky8 ky9 ky10 kv0 kv1 kv2 kv3 kv4 kv5 kv6 kv7 kv8 kv9 kv10 P6 X6 Y6 Z6 G6
      obtain ⟨W8, hW8⟩ : ∃ W8, W8 = grow (redrawn W dq) osq := ⟨_, rfl⟩
      rw [← hW8] at P8 G8 ⊢
      clear hW8
      obtain ⟨bp, hbp⟩ : ∃ b, p.ok = b := ⟨_, rfl⟩
      rw [hbp] at HPO HB HN
      cases bp with
      | true =>
        obtain ⟨hz, hok, hpk⟩ := HB.out rfl
        have hres : rpRes s = p := by unfold rpRes; rw [hok, hpk]; rfl
        rw [hok, hres] at HSI
        have k1 := isEmpty_not (s := s) (by omega)
        have k2 : ((s.size : Int) == 48) = true := by simp; omega
        clear hz hok hpk hres HB HN hbp HAG HYI HPI HTI HTS
        go_wp2_with fail
        refine (HSI.out _).mono ?_
        rintro e w9 ⟨rfl, hg9⟩
        have hb9 := grownP_below' hg9
        have P9 := blk_alloc (blk_next hb9 P8) (.cells #[.int .i64 p.leap, .int .i64 p.version, .int .i64 p.mode, .int .i64 p.stratum, .int .i64 p.poll, .int .i64 p.delay, .int .i64 p.disp, .int .i64 p.ref, .int .i64 p.orig, .int .i64 p.recv, .int .i64 p.xmit] 25)
        have U9 := blk_new w9 (.cells #[.int .i64 p.leap, .int .i64 p.version, .int .i64 p.mode, .int .i64 p.stratum, .int .i64 p.poll, .int .i64 p.delay, .int .i64 p.disp, .int .i64 p.ref, .int .i64 p.orig, .int .i64 p.recv, .int .i64 p.xmit] 25)
        have g9 := grow_next G8 hb9
        have G9 := g9.alloc g9.size (.cells #[.int .i64 p.leap, .int .i64 p.version, .int .i64 p.mode, .int .i64 p.stratum, .int .i64 p.poll, .int .i64 p.delay, .int .i64 p.disp, .int .i64 p.ref, .int .i64 p.orig, .int .i64 p.recv, .int .i64 p.xmit] 25)
        clear P8 G8 hg9 hb9 g9
        go_upto_region 12 with (fail)
        obtain ⟨W9, hW9⟩ : ∃ W9, W9 = w9.alloc (.cells #[.int .i64 p.leap, .int .i64 p.version, .int .i64 p.mode, .int .i64 p.stratum, .int .i64 p.poll, .int .i64 p.delay, .int .i64 p.disp, .int .i64 p.ref, .int .i64 p.orig, .int .i64 p.recv, .int .i64 p.xmit] 25) := ⟨_, rfl⟩
        rw [← hW9] at P9 U9 G9 ⊢
        clear hW9
        obtain ⟨cp0, cp1, cp2, cp3, cp4, cp5, cp6, cp7, cp8, cp9, cp10⟩ := packet_cells (q := p) P9
        go_wp2_with fail
        refine (HPO.out _).mono ?_
        rintro e w10 ⟨rfl, hb10⟩
        have P10 := blk_next hb10 P9
        have U10 := blk_next hb10 U9
        have G10 := grow_next G9 hb10
        clear P9 U9 G9 hb10 cp0 cp1 cp2 cp3 cp4 cp5 cp6 cp7 cp8 cp9 cp10
        obtain ⟨cp0, cp1, cp2, cp3, cp4, cp5, cp6, cp7, cp8, cp9, cp10⟩ := packet_cells (q := p) P10
        obtain ⟨cu0, cu1, cu2, cu3, cu4, cu5, cu6, cu7, cu8, cu9, cu10⟩ := packet_cells (q := p) U10
        go_wp2_with fail
        go_returns
        exact ⟨rfl, G10⟩
      | false =>
        obtain ⟨hz, hok⟩ := HN.out rfl
        have hres : rpRes s = zeroPk := by unfold rpRes; rw [hok]; rfl
        rw [hok, hres] at HSI
        have k1 := isEmpty_of (s := s) (by rw [hz]; rfl)
        clear hz hok hres HB HN hbp HAG HYI HPI HTI HTS
        go_wp2_with fail
        refine (HSI.out _).mono ?_
        rintro e w9 ⟨rfl, hg9⟩
        have hb9 := grownP_below' hg9
        have P9 := blk_alloc (blk_next hb9 P8) (.cells #[.int .i64 zeroPk.leap, .int .i64 zeroPk.version, .int .i64 zeroPk.mode, .int .i64 zeroPk.stratum, .int .i64 zeroPk.poll, .int .i64 zeroPk.delay, .int .i64 zeroPk.disp, .int .i64 zeroPk.ref, .int .i64 zeroPk.orig, .int .i64 zeroPk.recv, .int .i64 zeroPk.xmit] 25)
        have U9 := blk_new w9 (.cells #[.int .i64 zeroPk.leap, .int .i64 zeroPk.version, .int .i64 zeroPk.mode, .int .i64 zeroPk.stratum, .int .i64 zeroPk.poll, .int .i64 zeroPk.delay, .int .i64 zeroPk.disp, .int .i64 zeroPk.ref, .int .i64 zeroPk.orig, .int .i64 zeroPk.recv, .int .i64 zeroPk.xmit] 25)
        have g9 := grow_next G8 hb9
        have G9 := g9.alloc g9.size (.cells #[.int .i64 zeroPk.leap, .int .i64 zeroPk.version, .int .i64 zeroPk.mode, .int .i64 zeroPk.stratum, .int .i64 zeroPk.poll, .int .i64 zeroPk.delay, .int .i64 zeroPk.disp, .int .i64 zeroPk.ref, .int .i64 zeroPk.orig, .int .i64 zeroPk.recv, .int .i64 zeroPk.xmit] 25)
        clear P8 G8 hg9 hb9 g9
        go_upto_region 12 with (fail)
        obtain ⟨W9, hW9⟩ : ∃ W9, W9 = w9.alloc (.cells #[.int .i64 zeroPk.leap, .int .i64 zeroPk.version, .int .i64 zeroPk.mode, .int .i64 zeroPk.stratum, .int .i64 zeroPk.poll, .int .i64 zeroPk.delay, .int .i64 zeroPk.disp, .int .i64 zeroPk.ref, .int .i64 zeroPk.orig, .int .i64 zeroPk.recv, .int .i64 zeroPk.xmit] 25) := ⟨_, rfl⟩
        rw [← hW9] at P9 U9 G9 ⊢
        clear hW9
        obtain ⟨cp0, cp1, cp2, cp3, cp4, cp5, cp6, cp7, cp8, cp9, cp10⟩ := packet_cells (q := p) P9
        go_wp2_with fail
        refine (HPO.out _).mono ?_
        rintro e w10 ⟨rfl, hb10⟩
        have P10 := blk_next hb10 P9
        have U10 := blk_next hb10 U9
        have G10 := grow_next G9 hb10
        clear P9 U9 G9 hb10 cp0 cp1 cp2 cp3 cp4 cp5 cp6 cp7 cp8 cp9 cp10
        obtain ⟨cp0, cp1, cp2, cp3, cp4, cp5, cp6, cp7, cp8, cp9, cp10⟩ := packet_cells (q := p) P10
        obtain ⟨cu0, cu1, cu2, cu3, cu4, cu5, cu6, cu7, cu8, cu9, cu10⟩ := packet_cells (q := zeroPk) U10
        go_wp2_with fail
        go_returns
        exact ⟨rfl, G10⟩
  · go_enter Try.func3, Try.ntmps3
    go_wp2_with (go_at_call 8; go_in)
    go_returns
    exact ⟨rfl, Below.refl _ _⟩
set_option maxRecDepth 100000 in
theorem packets_lifted (os : Os) (started : os.Started) (H : Type) (enc : TypeId × Value → H) :
    ReturnsInHanded {} Try.checked os 3 .any (Rows.fnPacketsSpec.pre6 enc Try.prog Try.f3 Rows.fnPacketsRow.domain false) (Rows.fnPacketsSpec.post enc Try.prog Try.f3 false true false false) := by
  refine lifted_of_walk (C := Try.checked) own started (by as_aux_lemma => kernel_rfl) Try.func3
    (ChangeSpec.witness6 (enc := enc) (C := Try.checked) false ⟨#[], #[.slice none 0 0], []⟩ 8 (by as_aux_lemma => kernel_rfl) (by as_aux_lemma => kernel_rfl) (by as_aux_lemma => kernel_rfl) (by as_aux_lemma => kernel_rfl) (by as_aux_lemma => kernel_rfl))
    laidOut rfl (by as_aux_lemma => kernel_rfl) (by as_aux_lemma => kernel_rfl) boolType
    (fun ds h => by
      match ds, h with
      | [_], _ => rfl)
    ?_
  intro W base args ds q hval hA
  rw [Try.params3] at hA hval
  obtain ⟨v0, vs0, d0, ds0, p0, q0, hargs, rfl, rfl, h0, r0⟩ := trodAll_cons hA
  obtain ⟨rfl, rfl, rfl⟩ := trodAll_nil r0
  obtain rfl : args = #[v0] := by cases args; simp_all
  obtain ⟨a0, len0, cap0, z0, rfl, w0⟩ := open_bytes Try.underlying22 Try.underlying5 (by as_aux_lemma => kernel_rfl) (hval 0 22 v0 rfl rfl) h0
  exact packets_walk W a0 len0 cap0 z0 w0

theorem packets_facts : joinedFacts Try.pinned.checked.prog 3 Try.f3 Rows.fnPacketsSpec Rows.fnPacketsRow = true :=
  facts_of (P := Try.prog) (by as_aux_lemma => kernel_rfl) laidOut mapsRow (by as_aux_lemma => kernel_rfl) (by as_aux_lemma => kernel_rfl) rfl noStops rfl noKnobs (by as_aux_lemma => kernel_rfl) (by as_aux_lemma => kernel_rfl) (by as_aux_lemma => kernel_rfl) (by as_aux_lemma => kernel_rfl) (by as_aux_lemma => kernel_rfl) (by as_aux_lemma => kernel_rfl) (by as_aux_lemma => kernel_rfl) (by as_aux_lemma => kernel_rfl) (by as_aux_lemma => kernel_rfl) rfl (by as_aux_lemma => kernel_rfl) (by as_aux_lemma => kernel_rfl) (by as_aux_lemma => kernel_rfl) keysPlain rfl heard enters finals isMake rfl rfl rfl (by as_aux_lemma => kernel_rfl) (by as_aux_lemma => kernel_rfl)

/-- The given statement. -/
theorem packets_holds : Rows.FnPacketsSaid :=
  OpenClaim.holds_of_wide 3 Try.f3 rfl rfl rfl rfl rfl rfl rfl ⟨rfl, rfl, rfl, rfl, rfl⟩ rfl rfl rfl rfl rfl (by as_aux_lemma => kernel_rfl) Try.func3 packets_facts
    (of_decide_eq_true (by as_aux_lemma => kernel_rfl)) (by unfold Func.isWrapper; first | (rw [if_pos (by decide +kernel)]; kernel_rfl) | (rw [if_neg (by decide +kernel)]; exact ⟨rfl, rfl⟩))
    (fun os started H enc _ => packets_lifted os started H enc)
#print axioms packets_holds
end Go.Proofs.Ytdapongofiohgaa
