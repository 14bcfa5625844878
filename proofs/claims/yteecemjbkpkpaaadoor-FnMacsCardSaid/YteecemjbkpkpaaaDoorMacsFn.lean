/- A right packet comes back from its text with the same key; what is read, written again, has just its bytes: at every drawn packet, key and text. -/
import Derived.Test.YteecemjbkpkpaaaDoorMacDraw
import Derived.Test.YteecemjbkpkpaaaDoorShaLaw
import Derived.Lib.QuietBelow
namespace Go.Proofs.YteecemjbkpkpaaaDoor
open Go.ChangeShapes Go.WideShapes Go.ChangeAt Go.RowKit Go.Sort
set_option linter.unusedVariables false
set_option linter.unusedSimpArgs false
set_option maxRecDepth 100000

theorem isEmptyM_of {s : ByteArray} (h : s.size = 0) : s.toList.isEmpty = true := by
  rw [ByteArray.toList_eq, List.isEmpty_iff, ← List.length_eq_zero_iff]
  simpa using h
theorem isEmptyM_not {s : ByteArray} (h : s.size ≠ 0) : s.toList.isEmpty = false := by
  rw [ByteArray.toList_eq]
  cases ht : s.data.toList with
  | nil => exact absurd (by have := congrArg List.length ht; simpa using this) h
  | cons _ _ => rfl
theorem mac_again (t key : ByteArray) (h : rmOk t key = true) : macV (rmRes t key) key = t := by
  by_cases h48 : 48 ≤ t.size
  · have e : rmRes t key = rpPk (t.extract 0 48) := by unfold rmRes; rw [h]; rfl
    rw [e]
    rw [rm_is t key h48, Bool.and_eq_true] at h
    exact toList_inj (beq_iff_eq.1 h.2)
  · rw [rm_short (by omega)] at h
    cases h
theorem mac_back (p : Pk) (k : ByteArray) (h : p.ok = true) (hk : k.size ≤ 1000) : (macV p k).size = 80 ∧ rmOk (macV p k) k = true ∧ rmRes (macV p k) k = p := by
  obtain ⟨b1, b2, b3⟩ := rp_back p h
  have e := macV_yes h hk
  have hsz : (macV p k).size = 80 := by rw [e, ByteArray.size_append, b1, hmacB_size]
  have ex : (macV p k).extract 0 48 = p.bytes := by
    rw [e]
    first | exact ByteArray.extract_append_eq_left b1.symm | exact ByteArray.extract_append_eq_left b1
  have ok : rmOk (macV p k) k = true := by
    rw [rm_is _ _ (by omega), ex, b2, b3]
    simp
  refine ⟨hsz, ok, ?_⟩
  unfold rmRes
  rw [ok, ex, b3]
  rfl
set_option maxHeartbeats 8000000 in
theorem fmacs_walk (w : World) (hp : ShaW w) (x : Option Addr) (n cap z : Nat) (hz : z = n ∧ Code w.heap.size w (.slice x n cap) n) :
    Calls Tryd.prog 3 #[.slice x n cap] w fun e w' => e = .returned (.bool true) ∧ Below w.heap.size w w' := by
  obtain ⟨_, hc⟩ := hz
  by_cases hbig : n ≤ 1048576
  · have hbi : decide ((1048576 : Int) < (n : Int)) = false := decide_eq_false (by omega)
    go_enter Tryd.func3, Tryd.ntmps3
    go_wp2_with (go_at_call 5; go_in)
    refine (drawMacText_c x n cap _ hc hbig).mono ?_
    rintro e w1 ⟨p, k, hk, rfl, hb1⟩
    have P1 := blk_new w1 (.cells #[.int .i64 p.leap, .int .i64 p.version, .int .i64 p.mode, .int .i64 p.stratum, .int .i64 p.poll, .int .i64 p.delay, .int .i64 p.disp, .int .i64 p.ref, .int .i64 p.orig, .int .i64 p.recv, .int .i64 p.xmit] 25)
    have G1 := hb1.alloc hb1.size (.cells #[.int .i64 p.leap, .int .i64 p.version, .int .i64 p.mode, .int .i64 p.stratum, .int .i64 p.poll, .int .i64 p.delay, .int .i64 p.disp, .int .i64 p.ref, .int .i64 p.orig, .int .i64 p.recv, .int .i64 p.xmit] 25)
    have HSI := Lib.hid (fun w h => macText_impl p k (by omega) w h)
    have HSS := Lib.hid (fun w => macText_s p k (by omega) w)
    have HRI := Lib.hid (fun w h => readMac_impl (macV p k) k (by rcases macV_size p k with h | h <;> rw [h] <;> decide) (by omega) w h)
    have HB := Lib.hid (fun h => mac_back p k h (by omega))
    have HN := Lib.hid (fun h => macV_bad (p := p) k h)
    obtain ⟨s, hs⟩ : ∃ s, macV p k = s := ⟨_, rfl⟩
    rw [hs] at HSI HSS HRI HB HN
    clear hs hb1
    obtain ⟨p0, p1, p2, p3, p4, p5, p6, p7, p8, p9, p10⟩ := packet_cells P1
    go_wp2_with fail
    refine (HSI.out _ (hp.next G1)).mono ?_
    rintro e w2 ⟨rfl, hb2⟩
    have P2 := blk_next hb2 P1
    have G2 := grow_next G1 hb2
    clear p0 p1 p2 p3 p4 p5 p6 p7 p8 p9 p10 P1 G1 hb2 HSI
    go_wp2_with fail
    refine (drawReadMac_c x n cap _ (hc.next G2) hbig).mono ?_
    rintro e w3 ⟨t, key, ht, hkey, rfl, hb3⟩
    have P3 := blk_next hb3 P2
    have G3 := grow_next G2 hb3
    have HTI := Lib.hid (fun w h => readMac_impl t key (by omega) (by omega) w h)
    have HTS := Lib.hid (fun w => readMac_s t key (by omega) (by omega) w)
    have HAG := Lib.hid (fun h => mac_again t key h)
    have HYI := Lib.hid (fun w h => macText_impl (rmRes t key) key (by omega) w h)
    obtain ⟨y, hy⟩ : ∃ y, rmRes t key = y := ⟨_, rfl⟩
    obtain ⟨r, hr⟩ : ∃ r, rmOk t key = r := ⟨_, rfl⟩
    rw [hy, hr] at HTI HTS HAG
    rw [hy] at HYI
    clear hy hr ht hkey P2 G2 hb3 hc
    go_wp2_with fail
    refine (HTI.out _ (hp.next G3)).mono ?_
    rintro e w4 ⟨rfl, hb4⟩
    have P4 := blk_alloc (blk_next hb4 P3) (.cells #[.int .i64 y.leap, .int .i64 y.version, .int .i64 y.mode, .int .i64 y.stratum, .int .i64 y.poll, .int .i64 y.delay, .int .i64 y.disp, .int .i64 y.ref, .int .i64 y.orig, .int .i64 y.recv, .int .i64 y.xmit] 25)
    have Y4 := blk_new w4 (.cells #[.int .i64 y.leap, .int .i64 y.version, .int .i64 y.mode, .int .i64 y.stratum, .int .i64 y.poll, .int .i64 y.delay, .int .i64 y.disp, .int .i64 y.ref, .int .i64 y.orig, .int .i64 y.recv, .int .i64 y.xmit] 25)
    have g4 := grow_next G3 hb4
    have G4 := g4.alloc g4.size (.cells #[.int .i64 y.leap, .int .i64 y.version, .int .i64 y.mode, .int .i64 y.stratum, .int .i64 y.poll, .int .i64 y.delay, .int .i64 y.disp, .int .i64 y.ref, .int .i64 y.orig, .int .i64 y.recv, .int .i64 y.xmit] 25)
    clear P3 G3 hb4 g4
    go_wp2_with fail
    refine (HTS.out _).mono ?_
    rintro e w5 ⟨rfl, hb5⟩
    have P6 := blk_alloc (blk_next hb5 P4) (.cells #[.int .i64 y.leap, .int .i64 y.version, .int .i64 y.mode, .int .i64 y.stratum, .int .i64 y.poll, .int .i64 y.delay, .int .i64 y.disp, .int .i64 y.ref, .int .i64 y.orig, .int .i64 y.recv, .int .i64 y.xmit] 25)
    have Y6 := blk_alloc (blk_next hb5 Y4) (.cells #[.int .i64 y.leap, .int .i64 y.version, .int .i64 y.mode, .int .i64 y.stratum, .int .i64 y.poll, .int .i64 y.delay, .int .i64 y.disp, .int .i64 y.ref, .int .i64 y.orig, .int .i64 y.recv, .int .i64 y.xmit] 25)
    have Z6 := blk_new w5 (.cells #[.int .i64 y.leap, .int .i64 y.version, .int .i64 y.mode, .int .i64 y.stratum, .int .i64 y.poll, .int .i64 y.delay, .int .i64 y.disp, .int .i64 y.ref, .int .i64 y.orig, .int .i64 y.recv, .int .i64 y.xmit] 25)
    have g5 := grow_next G4 hb5
    have G6 := g5.alloc g5.size (.cells #[.int .i64 y.leap, .int .i64 y.version, .int .i64 y.mode, .int .i64 y.stratum, .int .i64 y.poll, .int .i64 y.delay, .int .i64 y.disp, .int .i64 y.ref, .int .i64 y.orig, .int .i64 y.recv, .int .i64 y.xmit] 25)
    clear P4 Y4 G4 hb5 g5 HTI HTS
    go_upto_region 8 with (fail)
    obtain ⟨W, hW⟩ : ∃ W, W = w5.alloc (.cells #[.int .i64 y.leap, .int .i64 y.version, .int .i64 y.mode, .int .i64 y.stratum, .int .i64 y.poll, .int .i64 y.delay, .int .i64 y.disp, .int .i64 y.ref, .int .i64 y.orig, .int .i64 y.recv, .int .i64 y.xmit] 25) := ⟨_, rfl⟩
    rw [← hW] at P6 Y6 Z6 G6 ⊢
    clear hW
    cases r with
    | false =>
      obtain ⟨cp0, cp1, cp2, cp3, cp4, cp5, cp6, cp7, cp8, cp9, cp10⟩ := packet_cells (q := p) P6
      obtain ⟨cy0, cy1, cy2, cy3, cy4, cy5, cy6, cy7, cy8, cy9, cy10⟩ := packet_cells (q := y) Y6
      obtain ⟨cv0, cv1, cv2, cv3, cv4, cv5, cv6, cv7, cv8, cv9, cv10⟩ := packet_cells (q := y) Z6
      have qs : (s.toList != s.toList) = false := by simp
      go_wp2_with fail
      refine (HSS.out _).mono ?_
      rintro e w7 ⟨rfl, hb7⟩
      have P7 := blk_next hb7 P6
      have Y7 := blk_next hb7 Y6
      have Z7 := blk_next hb7 Z6
      have G7 := grow_next G6 hb7
      clear cp0 cp1 cp2 cp3 cp4 cp5 cp6 cp7 cp8 cp9 cp10 cy0 cy1 cy2 cy3 cy4 cy5 cy6 cy7 cy8 cy9 cy10 cv0 cv1 cv2 cv3 cv4 cv5 cv6 cv7 cv8 cv9 cv10 P6 Y6 Z6 G6 hb7 HSS
      obtain ⟨cy0, cy1, cy2, cy3, cy4, cy5, cy6, cy7, cy8, cy9, cy10⟩ := packet_cells (q := y) Y7
      obtain ⟨cv0, cv1, cv2, cv3, cv4, cv5, cv6, cv7, cv8, cv9, cv10⟩ := packet_cells (q := y) Z7
      go_wp2_with fail
      obtain ⟨bp, hbp⟩ : ∃ b, p.ok = b := ⟨_, rfl⟩
      rw [hbp] at HB HN
      cases bp with
      | true =>
        obtain ⟨hz, hok, hres⟩ := HB.out rfl
        rw [hok, hres] at HRI
        have k1 := isEmptyM_not (s := s) (by omega)
        have k2 : ((s.size : Int) == 80) = true := by rw [beq_iff_eq]; omega
        clear hz hok hres HB HN hbp HAG HYI
        refine (HRI.out _ (hp.next G7)).mono ?_
        rintro e w9 ⟨rfl, hb9⟩
        have P9 := blk_alloc (blk_next hb9 P7) (.cells #[.int .i64 p.leap, .int .i64 p.version, .int .i64 p.mode, .int .i64 p.stratum, .int .i64 p.poll, .int .i64 p.delay, .int .i64 p.disp, .int .i64 p.ref, .int .i64 p.orig, .int .i64 p.recv, .int .i64 p.xmit] 25)
        have U9 := blk_new w9 (.cells #[.int .i64 p.leap, .int .i64 p.version, .int .i64 p.mode, .int .i64 p.stratum, .int .i64 p.poll, .int .i64 p.delay, .int .i64 p.disp, .int .i64 p.ref, .int .i64 p.orig, .int .i64 p.recv, .int .i64 p.xmit] 25)
        have g9 := grow_next G7 hb9
        have G9 := g9.alloc g9.size (.cells #[.int .i64 p.leap, .int .i64 p.version, .int .i64 p.mode, .int .i64 p.stratum, .int .i64 p.poll, .int .i64 p.delay, .int .i64 p.disp, .int .i64 p.ref, .int .i64 p.orig, .int .i64 p.recv, .int .i64 p.xmit] 25)
        clear P7 G7 hb9 g9
        obtain ⟨cp0, cp1, cp2, cp3, cp4, cp5, cp6, cp7, cp8, cp9, cp10⟩ := packet_cells (q := p) P9
        obtain ⟨cu0, cu1, cu2, cu3, cu4, cu5, cu6, cu7, cu8, cu9, cu10⟩ := packet_cells (q := p) U9
        go_wp2_with fail
        go_returns
        exact ⟨rfl, G9⟩
      | false =>
        have hz := HN.out rfl
        have hok : rmOk s k = false := rm_short (by rw [hz]; decide)
        have hres : rmRes s k = zeroPk := by unfold rmRes; rw [hok]; rfl
        rw [hok, hres] at HRI
        have k1 := isEmptyM_of (s := s) (by rw [hz]; rfl)
        clear hz hok hres HB HN hbp HAG HYI
        refine (HRI.out _ (hp.next G7)).mono ?_
        rintro e w9 ⟨rfl, hb9⟩
        have P9 := blk_alloc (blk_next hb9 P7) (.cells #[.int .i64 zeroPk.leap, .int .i64 zeroPk.version, .int .i64 zeroPk.mode, .int .i64 zeroPk.stratum, .int .i64 zeroPk.poll, .int .i64 zeroPk.delay, .int .i64 zeroPk.disp, .int .i64 zeroPk.ref, .int .i64 zeroPk.orig, .int .i64 zeroPk.recv, .int .i64 zeroPk.xmit] 25)
        have U9 := blk_new w9 (.cells #[.int .i64 zeroPk.leap, .int .i64 zeroPk.version, .int .i64 zeroPk.mode, .int .i64 zeroPk.stratum, .int .i64 zeroPk.poll, .int .i64 zeroPk.delay, .int .i64 zeroPk.disp, .int .i64 zeroPk.ref, .int .i64 zeroPk.orig, .int .i64 zeroPk.recv, .int .i64 zeroPk.xmit] 25)
        have g9 := grow_next G7 hb9
        have G9 := g9.alloc g9.size (.cells #[.int .i64 zeroPk.leap, .int .i64 zeroPk.version, .int .i64 zeroPk.mode, .int .i64 zeroPk.stratum, .int .i64 zeroPk.poll, .int .i64 zeroPk.delay, .int .i64 zeroPk.disp, .int .i64 zeroPk.ref, .int .i64 zeroPk.orig, .int .i64 zeroPk.recv, .int .i64 zeroPk.xmit] 25)
        clear P7 G7 hb9 g9
        obtain ⟨cp0, cp1, cp2, cp3, cp4, cp5, cp6, cp7, cp8, cp9, cp10⟩ := packet_cells (q := p) P9
        obtain ⟨cu0, cu1, cu2, cu3, cu4, cu5, cu6, cu7, cu8, cu9, cu10⟩ := packet_cells (q := zeroPk) U9
        go_wp2_with fail
        go_returns
        exact ⟨rfl, G9⟩
    | true =>
      obtain ⟨cp0, cp1, cp2, cp3, cp4, cp5, cp6, cp7, cp8, cp9, cp10⟩ := packet_cells (q := p) P6
      obtain ⟨cy0, cy1, cy2, cy3, cy4, cy5, cy6, cy7, cy8, cy9, cy10⟩ := packet_cells (q := y) Y6
      obtain ⟨cv0, cv1, cv2, cv3, cv4, cv5, cv6, cv7, cv8, cv9, cv10⟩ := packet_cells (q := y) Z6
      have qs : (s.toList != s.toList) = false := by simp
      go_wp2_with fail
      refine (HSS.out _).mono ?_
      rintro e w7 ⟨rfl, hb7⟩
      have P7 := blk_next hb7 P6
      have Y7 := blk_next hb7 Y6
      have Z7 := blk_next hb7 Z6
      have G7 := grow_next G6 hb7
      clear cp0 cp1 cp2 cp3 cp4 cp5 cp6 cp7 cp8 cp9 cp10 cy0 cy1 cy2 cy3 cy4 cy5 cy6 cy7 cy8 cy9 cy10 cv0 cv1 cv2 cv3 cv4 cv5 cv6 cv7 cv8 cv9 cv10 P6 Y6 Z6 G6 hb7 HSS
      obtain ⟨cy0, cy1, cy2, cy3, cy4, cy5, cy6, cy7, cy8, cy9, cy10⟩ := packet_cells (q := y) Y7
      obtain ⟨cv0, cv1, cv2, cv3, cv4, cv5, cv6, cv7, cv8, cv9, cv10⟩ := packet_cells (q := y) Z7
      go_wp2_with fail
      have HY8 := HYI.out _ (hp.next G7)
      rw [HAG.out (by trivial)] at HY8
      have qt : (t.toList != t.toList) = false := by simp
      refine HY8.mono ?_
      rintro e W8 ⟨rfl, hb8⟩
      have P8 := blk_next hb8 P7
      have G8 := grow_next G7 hb8
      clear cy0 cy1 cy2 cy3 cy4 cy5 cy6 cy7 cy8 cy9 cy10 cv0 cv1 cv2 cv3 cv4 cv5 cv6 cv7 cv8 cv9 cv10 P7 Y7 Z7 G7 hb8
      go_wp2_with fail
      
      obtain ⟨bp, hbp⟩ : ∃ b, p.ok = b := ⟨_, rfl⟩
      rw [hbp] at HB HN
      cases bp with
      | true =>
        obtain ⟨hz, hok, hres⟩ := HB.out rfl
        rw [hok, hres] at HRI
        have k1 := isEmptyM_not (s := s) (by omega)
        have k2 : ((s.size : Int) == 80) = true := by rw [beq_iff_eq]; omega
        clear hz hok hres HB HN hbp HAG HYI
        refine (HRI.out _ (hp.next G8)).mono ?_
        rintro e w9 ⟨rfl, hb9⟩
        have P9 := blk_alloc (blk_next hb9 P8) (.cells #[.int .i64 p.leap, .int .i64 p.version, .int .i64 p.mode, .int .i64 p.stratum, .int .i64 p.poll, .int .i64 p.delay, .int .i64 p.disp, .int .i64 p.ref, .int .i64 p.orig, .int .i64 p.recv, .int .i64 p.xmit] 25)
        have U9 := blk_new w9 (.cells #[.int .i64 p.leap, .int .i64 p.version, .int .i64 p.mode, .int .i64 p.stratum, .int .i64 p.poll, .int .i64 p.delay, .int .i64 p.disp, .int .i64 p.ref, .int .i64 p.orig, .int .i64 p.recv, .int .i64 p.xmit] 25)
        have g9 := grow_next G8 hb9
        have G9 := g9.alloc g9.size (.cells #[.int .i64 p.leap, .int .i64 p.version, .int .i64 p.mode, .int .i64 p.stratum, .int .i64 p.poll, .int .i64 p.delay, .int .i64 p.disp, .int .i64 p.ref, .int .i64 p.orig, .int .i64 p.recv, .int .i64 p.xmit] 25)
        clear P8 G8 hb9 g9
        obtain ⟨cp0, cp1, cp2, cp3, cp4, cp5, cp6, cp7, cp8, cp9, cp10⟩ := packet_cells (q := p) P9
        obtain ⟨cu0, cu1, cu2, cu3, cu4, cu5, cu6, cu7, cu8, cu9, cu10⟩ := packet_cells (q := p) U9
        go_wp2_with fail
        go_returns
        exact ⟨rfl, G9⟩
      | false =>
        have hz := HN.out rfl
        have hok : rmOk s k = false := rm_short (by rw [hz]; decide)
        have hres : rmRes s k = zeroPk := by unfold rmRes; rw [hok]; rfl
        rw [hok, hres] at HRI
        have k1 := isEmptyM_of (s := s) (by rw [hz]; rfl)
        clear hz hok hres HB HN hbp HAG HYI
        refine (HRI.out _ (hp.next G8)).mono ?_
        rintro e w9 ⟨rfl, hb9⟩
        have P9 := blk_alloc (blk_next hb9 P8) (.cells #[.int .i64 zeroPk.leap, .int .i64 zeroPk.version, .int .i64 zeroPk.mode, .int .i64 zeroPk.stratum, .int .i64 zeroPk.poll, .int .i64 zeroPk.delay, .int .i64 zeroPk.disp, .int .i64 zeroPk.ref, .int .i64 zeroPk.orig, .int .i64 zeroPk.recv, .int .i64 zeroPk.xmit] 25)
        have U9 := blk_new w9 (.cells #[.int .i64 zeroPk.leap, .int .i64 zeroPk.version, .int .i64 zeroPk.mode, .int .i64 zeroPk.stratum, .int .i64 zeroPk.poll, .int .i64 zeroPk.delay, .int .i64 zeroPk.disp, .int .i64 zeroPk.ref, .int .i64 zeroPk.orig, .int .i64 zeroPk.recv, .int .i64 zeroPk.xmit] 25)
        have g9 := grow_next G8 hb9
        have G9 := g9.alloc g9.size (.cells #[.int .i64 zeroPk.leap, .int .i64 zeroPk.version, .int .i64 zeroPk.mode, .int .i64 zeroPk.stratum, .int .i64 zeroPk.poll, .int .i64 zeroPk.delay, .int .i64 zeroPk.disp, .int .i64 zeroPk.ref, .int .i64 zeroPk.orig, .int .i64 zeroPk.recv, .int .i64 zeroPk.xmit] 25)
        clear P8 G8 hb9 g9
        obtain ⟨cp0, cp1, cp2, cp3, cp4, cp5, cp6, cp7, cp8, cp9, cp10⟩ := packet_cells (q := p) P9
        obtain ⟨cu0, cu1, cu2, cu3, cu4, cu5, cu6, cu7, cu8, cu9, cu10⟩ := packet_cells (q := zeroPk) U9
        go_wp2_with fail
        go_returns
        exact ⟨rfl, G9⟩
  · have hbi : decide ((1048576 : Int) < (n : Int)) = true := decide_eq_true (by omega)
    go_enter Tryd.func3, Tryd.ntmps3
    go_wp2_with (go_at_call 5; go_in)
    go_returns
    exact ⟨rfl, Below.refl _ _⟩
theorem fmacs_met (os : Os) (args : Array Value) : laidMetH Tryd.prog Rows.fnMacsRow.laid ((World.doorLaid Tryd.prog 400 os).forCall (fun _ _ => 0) ⟨#[], args, []⟩).memory :=
  laidMetH_of_parts3 (fuel := 8) (laidMet_of_run' 8 (by kernel_rfl) (by kernel_rfl)) (by kernel_rfl) (by kernel_rfl)
set_option maxRecDepth 100000 in
theorem fmacs_lifted (os : Os) (started : os.Started) (H : Type) (enc : TypeId × Value → H) :
    ReturnsInHanded {} Tryd.checked os 3 .any (fun w args => (Rows.fnMacsSpec.pre enc Tryd.prog Tryd.f3 [] false w args ∧ laidMetH Tryd.prog Rows.fnMacsRow.laid w) ∧ sizedMet enc Tryd.prog Tryd.f3 (OpenSpec.ofChange Rows.fnMacsSpec) false w args) (Rows.fnMacsSpec.post enc Tryd.prog Tryd.f3 false true false false) := by
  refine lifted_of_walk_laid (C := Tryd.checked) own started (by as_aux_lemma => kernel_rfl) Tryd.func3
    (ChangeSpec.witness_shaped (enc := enc) (C := Tryd.checked) (os := os) (X := fun w _ => laidMetH Tryd.prog Rows.fnMacsRow.laid w) false (World.doorLaid Tryd.prog 400 os) #[.slice none 0 0] 8 rfl (World.shaped_of_RefB (by kernel_rfl) (by kernel_rfl)) (by kernel_rfl) (by kernel_rfl) (by kernel_rfl) (fmacs_met os _))
    laidOut (by as_aux_lemma => kernel_rfl) (by as_aux_lemma => kernel_rfl) rfl boolType
    (fun ds gs h hg => by
      match ds, gs, h, hg with
      | [_], [_, _], _, _ => rfl)
    ?_
  intro W base args ds q hval hA hL
  have laidRow : Rows.fnMacsRow.laid = Rows.fnMacsRow.laid := rfl
  have hp := shaW_of hL (by rfl) (by rfl)
  clear hL
  rw [Tryd.params3] at hA hval
  obtain ⟨v0, vs0, d0, ds0, p0, q0, hargs, rfl, rfl, h0, r0⟩ := trodAll_cons hA
  obtain ⟨rfl, rfl, rfl⟩ := trodAll_nil r0
  obtain rfl : args = #[v0] := by cases args; simp_all
  obtain ⟨a0, len0, cap0, z0, rfl, w0⟩ := open_bytes Tryd.underlying22 Tryd.underlying5 (by as_aux_lemma => kernel_rfl) (hval 0 22 v0 rfl rfl) h0
  exact fmacs_walk W hp a0 len0 cap0 z0 w0

set_option maxHeartbeats 4000000 in
theorem fmacs_facts : joinedFacts Tryd.pinned.checked.prog 3 Tryd.f3 Rows.fnMacsSpec Rows.fnMacsRow = true :=
  facts_of (P := Tryd.prog) (by as_aux_lemma => kernel_rfl) laidOut mapsRow (by as_aux_lemma => kernel_rfl) (by as_aux_lemma => kernel_rfl) rfl noStops rfl noKnobs (by as_aux_lemma => kernel_rfl) (by as_aux_lemma => kernel_rfl) (by as_aux_lemma => kernel_rfl) (by as_aux_lemma => kernel_rfl) (by as_aux_lemma => kernel_rfl) (by as_aux_lemma => kernel_rfl) (by as_aux_lemma => kernel_rfl) (by as_aux_lemma => kernel_rfl) (by as_aux_lemma => kernel_rfl) (by as_aux_lemma => kernel_rfl) (by as_aux_lemma => kernel_rfl) (by as_aux_lemma => kernel_rfl) (by as_aux_lemma => kernel_rfl) keysPlain rfl heard enters finals isMake rfl rfl rfl (by as_aux_lemma => kernel_rfl) (by as_aux_lemma => kernel_rfl)

theorem fmacs_row : Rows.FnMacsSaid :=
  OpenClaim.holds_of_wide 3 Tryd.f3 rfl rfl rfl rfl rfl rfl rfl ⟨rfl, rfl, rfl, rfl, rfl⟩ rfl rfl rfl rfl rfl (by as_aux_lemma => kernel_rfl) Tryd.func3 fmacs_facts
    (of_decide_eq_true (by as_aux_lemma => kernel_rfl)) (by unfold Func.isWrapper; first | (rw [if_pos (by decide +kernel)]; kernel_rfl) | (rw [if_neg (by decide +kernel)]; exact ⟨rfl, rfl⟩))
    (fun os started H enc _ => fmacs_lifted os started H enc)

/-- The given statement. -/
theorem fmacs_holds : Rows.FnMacsCardSaid :=
  Claim7.holds_tied_plain_at .later [] Rows.fnMacsCard.laidKinds true Rows.fnMacsCard.stood.harness false
    fmacs_row (fun _ h => by cases h) (by kernel_rfl) (fun _ h => by cases h) fnMacs_row_tie rfl ⟨rfl, rfl⟩ (by kernel_rfl) rfl
    (fun f fn hf hfn => by
      obtain rfl : f = 3 := Option.some.inj ((show Tryd.prog.funcNamed "loop.example/g00656/laws.FnMacs" = some 3 by kernel_rfl).symm.trans hf) |>.symm
      obtain rfl : fn = Tryd.f3 := (Option.some.inj (Tryd.func3.symm.trans hfn)).symm
      exact ⟨by kernel_rfl, fun j t ht => noStandIn (by rw [Tryd.params3]; kernel_rfl) j t ht⟩)
    (by kernel_rfl)
#print axioms fmacs_holds
end Go.Proofs.YteecemjbkpkpaaaDoor
