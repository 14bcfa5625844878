/- A packet's text with its tag: the program's way and the reference's. -/
import Derived.Test.YteecemjbkpkpaaaDoorMgb
import Derived.Test.YteecemjbkpkpaaaDoorRpBoth
import Derived.Test.YteecemjbkpkpaaaDoorMaskI
import Derived.Test.YteecemjbkpkpaaaDoorShaS
namespace Go.Proofs.YteecemjbkpkpaaaDoor
open Go.ChangeShapes Go.WideShapes Go.ChangeAt Go.RowKit Go.Sort
set_option linter.unusedVariables false
set_option linter.unusedSimpArgs false
set_option maxRecDepth 100000

/-- A packet's text with its tag; nothing where it is not right or the key is too long. -/
def macV (p : Pk) (k : ByteArray) : ByteArray := if p.ok = true ∧ k.size ≤ 1000 then p.bytes ++ hmacB k p.bytes else ⟨#[]⟩
theorem macV_yes {p : Pk} {k : ByteArray} (h : p.ok = true) (hk : k.size ≤ 1000) : macV p k = p.bytes ++ hmacB k p.bytes := if_pos ⟨h, hk⟩
theorem macV_bad {p : Pk} (k : ByteArray) (h : p.ok = false) : macV p k = ⟨#[]⟩ := if_neg (fun e => by rw [h] at e; cases e.1)
theorem macV_long (p : Pk) {k : ByteArray} (h : 1000 < k.size) : macV p k = ⟨#[]⟩ := if_neg (fun e => by omega)
theorem macV_size (p : Pk) (k : ByteArray) : (macV p k).size = 80 ∨ macV p k = ⟨#[]⟩ := by
  by_cases h : p.ok = true ∧ k.size ≤ 1000
  · left
    rw [macV_yes h.1 h.2, ByteArray.size_append, (rp_back p h.1).1, hmacB_size]
  · right
    exact if_neg h
set_option maxHeartbeats 2000000 in
theorem macText_impl (p : Pk) (k : ByteArray) (hk1 : k.size ≤ 1048576) (w : World) (hT : ShaW w) :
    Calls Tryd.prog 7 #[.agg #[.int .i64 p.leap, .int .i64 p.version, .int .i64 p.mode, .int .i64 p.stratum, .int .i64 p.poll, .int .i64 p.delay, .int .i64 p.disp, .int .i64 p.ref, .int .i64 p.orig, .int .i64 p.recv, .int .i64 p.xmit], .string k] w fun e w' => e = .returned (.string (macV p k)) ∧ Below w.heap.size w w' := by
  have hp := packetOk_impl_below p
  obtain ⟨bp, ep⟩ : ∃ b, p.ok = b := ⟨_, rfl⟩
  rw [ep] at hp
  have HP := Lib.hid hp
  clear hp
  have Q0 := blk_new w (.cells #[.int .i64 p.leap, .int .i64 p.version, .int .i64 p.mode, .int .i64 p.stratum, .int .i64 p.poll, .int .i64 p.delay, .int .i64 p.disp, .int .i64 p.ref, .int .i64 p.orig, .int .i64 p.recv, .int .i64 p.xmit] 25)
  have g0 : Below w.heap.size w (w.alloc (.cells #[.int .i64 p.leap, .int .i64 p.version, .int .i64 p.mode, .int .i64 p.stratum, .int .i64 p.poll, .int .i64 p.delay, .int .i64 p.disp, .int .i64 p.ref, .int .i64 p.orig, .int .i64 p.recv, .int .i64 p.xmit] 25)) := below_new _ _
  obtain ⟨x0, x1, x2, x3, x4, x5, x6, x7, x8, x9, x10⟩ := packet_cells Q0
  cases bp with
  | false =>
    rw [macV_bad k ep]
    clear ep
    go_enter Tryd.func7, Tryd.ntmps7
    go_wp2_with fail
    refine (HP.out _).mono ?_
    rintro e w1 ⟨rfl, hb1⟩
    go_wp2_with fail
    go_returns
    exact ⟨rfl, grow_next g0 hb1⟩
  | true =>
    by_cases hk : 1000 < k.size
    · have d1 : decide ((1000 : Int) < (k.size : Int)) = true := decide_eq_true (by omega)
      rw [macV_long p hk]
      clear hk ep
      go_enter Tryd.func7, Tryd.ntmps7
      go_wp2_with fail
      refine (HP.out _).mono ?_
      rintro e w1 ⟨rfl, hb1⟩
      go_wp2_with fail
      go_returns
      exact ⟨rfl, grow_next g0 hb1⟩
    · have d1 : decide ((1000 : Int) < (k.size : Int)) = false := decide_eq_false (by omega)
      have HM := Lib.hid (macV_yes (k := k) ep (by omega))
      have HB := Lib.hid (fun w => packetBytes_impl p w)
      have hbs := (rp_back p ep).1
      obtain ⟨B, hB⟩ : ∃ B, p.bytes = B := ⟨_, rfl⟩
      rw [hB] at HM HB hbs
      have HH := Lib.hid (fun w hT => hmac_impl k B w hT)
      rw [show hmacV k B = hmacB k B from if_neg (by omega)] at HH
      have hts := hmacB_size k B
      obtain ⟨T, hTt⟩ : ∃ T, hmacB k B = T := ⟨_, rfl⟩
      rw [hTt] at HM HH hts
      rw [HM.out]
      clear hk ep hB hTt
      go_enter Tryd.func7, Tryd.ntmps7
      go_wp2_with fail
      refine (HP.out _).mono ?_
      rintro e w1 ⟨rfl, hb1⟩
      have Q1 := blk_next hb1 Q0
      have g1 := grow_next g0 hb1
      clear x0 x1 x2 x3 x4 x5 x6 x7 x8 x9 x10 Q0 g0 hb1
      obtain ⟨x0, x1, x2, x3, x4, x5, x6, x7, x8, x9, x10⟩ := packet_cells Q1
      go_wp2_with fail
      refine (HB.out _).mono ?_
      rintro e w2 ⟨rfl, hb2⟩
      have g2 := grow_next g1 hb2
      go_wp2_with fail
      refine (HH.out _ (hT.next g2)).mono ?_
      rintro e w3 ⟨rfl, hb3⟩
      go_wp2_with fail
      go_returns
      exact ⟨rfl, grow_next g2 hb3⟩
set_option maxHeartbeats 2000000 in
theorem l12Mac_s (p : Pk) (ep : p.ok = true) (k : ByteArray) (hk : k.size ≤ 1000) (w : World) :
    Calls Tryd.prog 23 #[.agg #[.int .i64 p.leap, .int .i64 p.version, .int .i64 p.mode, .int .i64 p.stratum, .int .i64 p.poll, .int .i64 p.delay, .int .i64 p.disp, .int .i64 p.ref, .int .i64 p.orig, .int .i64 p.recv, .int .i64 p.xmit], .string k] w fun e w' => e = .returned (.string (macV p k)) ∧ Below w.heap.size w w' := by
  have HM := Lib.hid (macV_yes (k := k) ep hk)
  have HB := Lib.hid (fun w => l2Bytes_c p ep w)
  have hbs := (rp_back p ep).1
  obtain ⟨B, hB⟩ : ∃ B, p.bytes = B := ⟨_, rfl⟩
  rw [hB] at HM HB hbs
  have HH := Lib.hid (fun w => l12Hmac_s k B hk (by omega) w)
  have hts := hmacB_size k B
  obtain ⟨T, hTt⟩ : ∃ T, hmacB k B = T := ⟨_, rfl⟩
  rw [hTt] at HM HH hts
  rw [HM.out]
  have hcs : (B ++ T).size = 80 := by rw [ByteArray.size_append, hbs, hts]
  clear hB hTt
  have Q0 := blk_new w (.cells #[.int .i64 p.leap, .int .i64 p.version, .int .i64 p.mode, .int .i64 p.stratum, .int .i64 p.poll, .int .i64 p.delay, .int .i64 p.disp, .int .i64 p.ref, .int .i64 p.orig, .int .i64 p.recv, .int .i64 p.xmit] 25)
  have g0 : Below w.heap.size w (w.alloc (.cells #[.int .i64 p.leap, .int .i64 p.version, .int .i64 p.mode, .int .i64 p.stratum, .int .i64 p.poll, .int .i64 p.delay, .int .i64 p.disp, .int .i64 p.ref, .int .i64 p.orig, .int .i64 p.recv, .int .i64 p.xmit] 25)) := below_new _ _
  go_enter Tryd.func23, Tryd.ntmps23
  go_wp2_with fail
  generalize w.alloc (.cells #[.int .i64 p.leap, .int .i64 p.version, .int .i64 p.mode, .int .i64 p.stratum, .int .i64 p.poll, .int .i64 p.delay, .int .i64 p.disp, .int .i64 p.ref, .int .i64 p.orig, .int .i64 p.recv, .int .i64 p.xmit] 25) = W at Q0 g0 ⊢
  obtain ⟨x0, x1, x2, x3, x4, x5, x6, x7, x8, x9, x10⟩ := packet_cells Q0
  have k0 := cell_regrown x0
  have k1 := cell_regrown x1
  have k2 := cell_regrown x2
  have k3 := cell_regrown x3
  have k4 := cell_regrown x4
  have k5 := cell_regrown x5
  have k6 := cell_regrown x6
  have k7 := cell_regrown x7
  have k8 := cell_regrown x8
  have k9 := cell_regrown x9
  have k10 := cell_regrown x10
  clear x0 x1 x2 x3 x4 x5 x6 x7 x8 x9 x10
  have CB := Lib.hid (fun d os => Calls.regrown_of (HB.out (grow (redrawn W d) os)))
  have CH := Lib.hid (fun d os => Calls.regrown_of (HH.out (grow (redrawn W d) os)))
  refine wp_region_quiet_below (by kernel_rfl) (by kernel_rfl) ?_
  repeat ((with_reducible refine wpQuiet_step (fun K hK => ?_)); go_simp; first | ((with_reducible refine hK _ ?_); clear hK K) | (rw [if_neg (by intro h; exact nomatch h)]; (with_reducible refine hK _ ?_); clear hK K) | (apply Exists.intro; (with_reducible refine ⟨fun _ => ?_, hK _ ?_⟩); (first | with_reducible exact CB.out _ _ | with_reducible exact CH.out _ _); clear hK K))
  with_reducible refine wpQuiet_nil ?_
  intro _ hw'
  obtain ⟨⟨dq, osq⟩, hw''⟩ := hw'
  subst hw''
  have g1 := grow_next g0 (below_regrown W dq osq)
  clear k0 k1 k2 k3 k4 k5 k6 k7 k8 k9 k10 CB CH
  go_wp2_with fail
  go_returns
  exact ⟨rfl, g1⟩
set_option maxHeartbeats 2000000 in
theorem macText_s (p : Pk) (k : ByteArray) (hk1 : k.size ≤ 1048576) (w : World) :
    Calls Tryd.prog 11 #[.agg #[.int .i64 p.leap, .int .i64 p.version, .int .i64 p.mode, .int .i64 p.stratum, .int .i64 p.poll, .int .i64 p.delay, .int .i64 p.disp, .int .i64 p.ref, .int .i64 p.orig, .int .i64 p.recv, .int .i64 p.xmit], .string k] w fun e w' => e = .returned (.string (macV p k)) ∧ Below w.heap.size w w' := by
  have hp := packetOk_spec_below p
  obtain ⟨bp, ep⟩ : ∃ b, p.ok = b := ⟨_, rfl⟩
  rw [ep] at hp
  have HP := Lib.hid hp
  clear hp
  have Q0 := blk_new w (.cells #[.int .i64 p.leap, .int .i64 p.version, .int .i64 p.mode, .int .i64 p.stratum, .int .i64 p.poll, .int .i64 p.delay, .int .i64 p.disp, .int .i64 p.ref, .int .i64 p.orig, .int .i64 p.recv, .int .i64 p.xmit] 25)
  have g0 : Below w.heap.size w (w.alloc (.cells #[.int .i64 p.leap, .int .i64 p.version, .int .i64 p.mode, .int .i64 p.stratum, .int .i64 p.poll, .int .i64 p.delay, .int .i64 p.disp, .int .i64 p.ref, .int .i64 p.orig, .int .i64 p.recv, .int .i64 p.xmit] 25)) := below_new _ _
  obtain ⟨x0, x1, x2, x3, x4, x5, x6, x7, x8, x9, x10⟩ := packet_cells Q0
  cases bp with
  | false =>
    rw [macV_bad k ep]
    clear ep
    go_enter Tryd.func11, Tryd.ntmps11
    go_wp2_with fail
    refine (HP.out _).mono ?_
    rintro e w1 ⟨rfl, hb1⟩
    go_wp2_with fail
    go_returns
    exact ⟨rfl, grow_next g0 hb1⟩
  | true =>
    by_cases hk : 1000 < k.size
    · have d1 : decide ((1000 : Int) < (k.size : Int)) = true := decide_eq_true (by omega)
      rw [macV_long p hk]
      clear hk ep
      go_enter Tryd.func11, Tryd.ntmps11
      go_wp2_with fail
      refine (HP.out _).mono ?_
      rintro e w1 ⟨rfl, hb1⟩
      go_wp2_with fail
      go_returns
      exact ⟨rfl, grow_next g0 hb1⟩
    · have d1 : decide ((1000 : Int) < (k.size : Int)) = false := decide_eq_false (by omega)
      have HM := Lib.hid (fun w => l12Mac_s p ep k (by omega) w)
      obtain ⟨T, hTt⟩ : ∃ T, macV p k = T := ⟨_, rfl⟩
      rw [hTt] at HM ⊢
      clear hk ep hTt
      go_enter Tryd.func11, Tryd.ntmps11
      go_wp2_with fail
      refine (HP.out _).mono ?_
      rintro e w1 ⟨rfl, hb1⟩
      have Q1 := blk_next hb1 Q0
      have g1 := grow_next g0 hb1
      clear x0 x1 x2 x3 x4 x5 x6 x7 x8 x9 x10 Q0 g0 hb1
      obtain ⟨x0, x1, x2, x3, x4, x5, x6, x7, x8, x9, x10⟩ := packet_cells Q1
      go_wp2_with fail
      refine (HM.out _).mono ?_
      rintro e w2 ⟨rfl, hb2⟩
      go_wp2_with fail
      go_returns
      exact ⟨rfl, grow_next g1 hb2⟩
end Go.Proofs.YteecemjbkpkpaaaDoor
