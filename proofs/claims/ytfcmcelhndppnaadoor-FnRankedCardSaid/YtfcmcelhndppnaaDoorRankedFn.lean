/- What is ranked has each peer once, the least stratum first, of one stratum the one that reaches least: at all drawn peers. -/
import Derived.Test.YtfcmcelhndppnaaDoorPeersDraw
import Derived.Test.YtfcmcelhndppnaaDoorRankS2
import Derived.Test.YtfcmcelhndppnaaDoorSamePr
import Derived.Test.YtfcmcelhndppnaaDoorRankDraw
import Derived.Test.YtfcmcelhndppnaaDoorTie
import Derived.Test.YtfcmcelhndppnaaDoorCards
namespace Go.Proofs.YtfcmcelhndppnaaDoor
open Go.ChangeShapes Go.WideShapes Go.ChangeAt Go.RowKit Go.Sort
set_option linter.unusedVariables false
set_option linter.unusedSimpArgs false

theorem aheadV_str {a b : Pr} (h : aheadV a b = true) : a.str < b.str ∨ (a.str = b.str ∧ reachR a ≤ reachR b) := by
  rcases (aheadV_iff a b).1 h with h | ⟨h, h' | ⟨h', _⟩⟩
  · exact .inl h
  · exact .inr ⟨h, by omega⟩
  · exact .inr ⟨h, by omega⟩
theorem reach_valR {s : Sm} {r : Int} (h : reachV s = r) (W : World) {ao an au : Addr} (L : Ld W ao an au) : Calls Tryd.prog 24 #[.agg #[.int .i64 s.off, .int .i64 s.delay, .int .i64 s.disp, .int .i64 s.at_]] W fun e w' => e = .returned (.int .i64 r) ∧ Below W.heap.size W w' := h ▸ reach_impl s W L
set_option maxRecDepth 100000 in
set_option maxHeartbeats 4000000 in
theorem rf_walk (w : World) {ao an au : Addr} (L : Ld w ao an au) (x : Option Addr) (n cap z : Nat) (hz : z = n ∧ Code w.heap.size w (.slice x n cap) n) :
    Calls Tryd.prog 5 #[.slice x n cap] w fun e w' => e = .returned (.bool true) ∧ Below w.heap.size w w' := by
  obtain ⟨_, hc⟩ := hz
  by_cases hbig : n ≤ 1048576
  · go_enter Tryd.func5, Tryd.ntmps5
    go_wp2_with (go_at_call 17; go_in)
    refine (drawRanked_c x n cap _ hc hbig).mono ?_
    rintro e w1 ⟨y, cy, l, rfl, hl6, hlc, hcm, hP, hb1⟩
    obtain ⟨m, hm⟩ : ∃ m, m = l.length := ⟨_, rfl⟩
    rw [← hm] at hl6 hlc ⊢
    have HM := Lib.hid hm
    have hmm : m ≤ maxLen := by unfold maxLen; omega
    obtain ⟨A, hA⟩ : ∃ A, rankedV l = A := ⟨_, rfl⟩
    obtain ⟨q, hq⟩ : ∃ q, q = A.length := ⟨_, rfl⟩
    have hqm : q ≤ m := by have := rankedV_len l; rw [hA] at this; omega
    have hI := fun x cap w h {ao an au} L => @ranked_impl l m HM hmm x cap w h ao an au L
    have hS := fun x cap w h => ranked_spec l m HM hmm x cap w h
    have hO := fun x cap w h => peersOk_spec l m HM hmm x cap w h
    rw [hA, ← hq] at hS hI
    obtain ⟨ok, hk⟩ : ∃ k, okPrs l = k := ⟨_, rfl⟩
    rw [hk] at hO
    have HK := Lib.hid hk
    have HA := Lib.hid hA
    have HQ := Lib.hid hq
    have HI := Lib.hid hI
    have HS := Lib.hid hS
    have HO := Lib.hid hO
    have HSM := Lib.hid (fun x y cap cap' w h h' => samePeers_c A q HQ (by omega) x y cap cap' w h h')
    clear hk hA hq hI hS hO hm
    go_wp2_with fail
    refine (HI.out _ _ _ hP (L.next hb1)).mono ?_
    rintro e w2 ⟨v, rfl, ho, hb2⟩
    obtain ⟨z, cz, rfl, r0⟩ := prRow_form ho HQ.out
    have HR2 := Lib.hid r0.prs
    clear ho r0
    have g2 := grow_next hb1 hb2
    have P2 := hP.next hb2
    go_wp2_with fail
    refine (drawPeersOk_c x n cap _ (hc.next g2) hbig).mono ?_
    rintro e w3 ⟨y', cy', l', rfl, hl6', _, _, hP', hb3⟩
    obtain ⟨m', hm'⟩ : ∃ m, m = l'.length := ⟨_, rfl⟩
    rw [← hm'] at hl6' ⊢
    have HM' := Lib.hid hm'
    have hmm' : m' ≤ maxLen := by unfold maxLen; omega
    have hI' := fun x cap w h {ao an au} L => @peersOk_impl l' m' HM' hmm' x cap w h ao an au L
    have hS' := fun x cap w h => peersOk_spec l' m' HM' hmm' x cap w h
    obtain ⟨ok', hk'⟩ : ∃ k, okPrs l' = k := ⟨_, rfl⟩
    rw [hk'] at hI' hS'
    have HI' := Lib.hid hI'
    have HS' := Lib.hid hS'
    clear hm' hk' hI' hS' HM'
    have g3 := grow_next g2 hb3
    have P3 := P2.next hb3
    have R3 := HR2.out.next hb3
    clear P2 hP HR2
    go_wp2_with fail
    refine (HS.out _ _ _ P3).mono ?_
    rintro e w4 ⟨v, rfl, ho, hb4⟩
    obtain ⟨z4, cz4, rfl, r4⟩ := prRow_form ho HQ.out
    have R4' := r4.prs
    clear ho r4
    have g4 := grow_next g3 hb4
    have R4 := R3.next hb4
    have P4 := P3.next hb4
    have P4' := hP'.next hb4
    clear R3 P3 hP'
    go_wp2_with fail
    refine (HSM.out _ _ _ _ _ R4 R4').mono ?_
    rintro e w5 ⟨rfl, hb5⟩
    have g5 := grow_next g4 hb5
    have R5 := R4.next hb5
    have P5 := P4.next hb5
    have P5' := P4'.next hb5
    clear R4 R4' P4 P4'
    go_wp2_with fail
    refine (HI'.out _ _ _ P5' (L.next g5)).mono ?_
    rintro e w6 ⟨rfl, hb6⟩
    have g6 := grow_next g5 hb6
    have R6 := R5.next hb6
    have P6 := P5.next hb6
    have P6' := P5'.next hb6
    clear R5 P5 P5'
    go_wp2_with fail
    refine (HS'.out _ _ _ P6').mono ?_
    rintro e w7 ⟨rfl, hb7⟩
    have g7 := grow_next g6 hb7
    have R7 := R6.next hb7
    have P7 := P6.next hb7
    have P7' := P6'.next hb7
    clear R6 P6 P6'
    have hbb : (ok' != ok') = false := by cases ok' <;> rfl
    have hbe : (ok' == ok') = true := by cases ok' <;> rfl
    go_wp2_with fail
    refine (HO.out _ _ _ P7).mono ?_
    rintro e w8 ⟨rfl, hb8⟩
    have g8 := grow_next g7 hb8
    have R8 := R7.next hb8
    have P8 := P7.next hb8
    have P8' := P7'.next hb8
    clear R7 P7 P7'
    cases ok with
    | false =>
      go_wp2_with fail
      refine (HS.out _ _ _ P8).mono ?_
      rintro e w9 ⟨v, rfl, ho, hb9⟩
      obtain ⟨z4, cz4, rfl, r4⟩ := prRow_form ho HQ.out
      have R9' := r4.prs
      clear ho r4
      have g9 := grow_next g8 hb9
      have R9 := R8.next hb9
      have P9 := P8.next hb9
      have P9' := P8'.next hb9
      go_wp2_with fail
      refine (HSM.out _ _ _ _ _ R9 R9').mono ?_
      rintro e w10 ⟨rfl, hb10⟩
      have g10 := grow_next g9 hb10
      have P10' := P9'.next hb10
      go_wp2_with fail
      refine (HI'.out _ _ _ P10' (L.next g10)).mono ?_
      rintro e w11 ⟨rfl, hb11⟩
      have g11 := grow_next g10 hb11
      have P11' := P10'.next hb11
      go_wp2_with fail
      refine (HS'.out _ _ _ P11').mono ?_
      rintro e w12 ⟨rfl, hb12⟩
      have g12 := grow_next g11 hb12
      go_wp2_with fail
      go_returns
      exact ⟨rfl, g12⟩
    | true =>
      have hrk : A = rkV l := by rw [← HA.out, rankedV, HK.out]; rfl
      have hAS := (okPrs_all HK.out).1
      have hsort : RankS A := hrk ▸ rkV_sorted l (okPrs_ids HK.out)
      have hmem : ∀ v, v ∈ A → v ∈ l := fun v hv => rkV_mem.1 (hrk ▸ hv)
      have HQQ : Hid (q = m) := Lib.hid (by rw [HQ.out, hrk, rkV_length, HM.out])
      have HSO := Lib.hid hsort
      have HME := Lib.hid hmem
      have HAS : Hid (AllSm A) := Lib.hid (hrk ▸ rkV_all hAS)
      clear hrk hAS hsort hmem P8'
      go_wp2_with fail
      go_loopw [6] (fun i wr => ∃ k : Nat, k ≤ q ∧ i = .int .i64 k ∧ Below w8.heap.size w8 wr) (fun i _ => q - (intOf i).toNat)
      case atStart => exact ⟨0, Nat.zero_le _, rfl, Below.refl _ _⟩
      case round =>
        obtain ⟨k, hkq, rfl, hb⟩ := hrel
        have gr := grow_next g8 hb
        by_cases hlt : k < q
        · obtain ⟨v, hv⟩ := getP (l := A) (k := k) (by rw [← HQ.out]; exact hlt)
          have Rr := R8.next hb
          have Pr' := P8.next hb
          have HMM := Lib.hid (fun W h => among_c l v (HME.out v (List.mem_of_getElem? hv)) m HM hmm y cy W h)
          obtain ⟨b, off, rfl, _⟩ := Rr.at_ hv
          obtain ⟨c0, c1, c2, c3, c4, c5⟩ := prs_cell Rr hv
          have kx0 := cell_regrown c0
          have kx1 := cell_regrown c1
          have kx2 := cell_regrown c2
          have kx3 := cell_regrown c3
          have kx4 := cell_regrown c4
          have kx5 := cell_regrown c5
          have KM := Lib.hid (fun d os => Calls.regrown_of (HMM.out (grow (redrawn wr d) os) (Pr'.next (below_regrown wr d os))))
          clear HMM c0 c1 c2 c3 c4 c5
          rcases Nat.eq_zero_or_pos k with hk0 | hk0
          · subst hk0
            simp only [Nat.zero_mul, Nat.add_zero] at kx0 kx1 kx2 kx3 kx4 kx5
            clear hv
            have hd : decide ((0 : Int) < 0) = false := rfl
            go_wp2_with fail
            refine wp_region_quiet_below (by kernel_rfl) (by kernel_rfl) ?_
            repeat ((with_reducible refine wpQuiet_step (fun K hK => ?_)); go_simp; first | ((with_reducible refine hK _ ?_); clear hK K) | (rw [if_neg (by intro h; exact nomatch h)]; (with_reducible refine hK _ ?_); clear hK K) | (apply Exists.intro; (with_reducible refine ⟨fun _ => ?_, hK _ ?_⟩); (first | with_reducible exact KM.out _ _); clear hK K))
            with_reducible refine wpQuiet_nil ?_
            intro _ hw'
            obtain ⟨⟨dq1, osq1⟩, hw''⟩ := hw'
            subst hw''
            have g1 := below_regrown wr dq1 osq1
            generalize hW1 : grow (redrawn wr dq1) osq1 = W1 at *
            clear hW1 kx0 kx1 kx2 kx3 kx4 kx5 KM
            go_wp2_with fail
            go_roundw
            case rel => exact ⟨1, by omega, by go_num, grow_next hb g1⟩
            case measure => simp [intOf]; omega
          · obtain ⟨u, hu⟩ := getP (l := A) (k := k - 1) (by rw [← HQ.out]; omega)
            have hs := HSO.out
            have hau : aheadV u v = true := by
              obtain ⟨i1, e1⟩ := List.getElem?_eq_some_iff.1 hu
              obtain ⟨i2, e2⟩ := List.getElem?_eq_some_iff.1 hv
              rw [← e1, ← e2]
              exact List.pairwise_iff_getElem.1 hs _ _ i1 i2 (by omega)
            obtain ⟨d0, d1, d2, d3, d4, d5⟩ := prs_cell Rr hu
            have ky0 := cell_regrown d0
            have ky1 := cell_regrown d1
            have ky2 := cell_regrown d2
            have ky3 := cell_regrown d3
            have ky4 := cell_regrown d4
            have ky5 := cell_regrown d5
            clear d0 d1 d2 d3 d4 d5
            have hki : ((k - 1 : Nat) : Int) = (k : Int) - 1 := by omega
            have hk1 : IntKind.i64.wrap ((k : Int) - 1) = ((k - 1 : Nat) : Int) := by rw [hki]; exact IntWalk.i64_in _ (by omega)
            have hk2 : decide ((0 : Int) < (k : Int)) = true := decide_eq_true (by omega)
            have hk3 : k - 1 < q := by omega
            have hru := (reachV_bounds u.s (HAS.out.at_ hu)).1
            have hrv := (reachV_bounds v.s (HAS.out.at_ hv)).1
            have KU := Lib.hid (fun d os => Calls.regrown_of (reach_valR (s := u.s) (r := reachR u) hru (grow (redrawn wr d) os) (L.next (grow_next gr (below_regrown wr d os)))))
            have KV := Lib.hid (fun d os => Calls.regrown_of (reach_valR (s := v.s) (r := reachR v) hrv (grow (redrawn wr d) os) (L.next (grow_next gr (below_regrown wr d os)))))
            clear hs hru hrv hu hv hki
            rcases aheadV_str hau with hst | ⟨hst, hrr⟩
            · have e1 : decide (v.str < u.str) = false := decide_eq_false (by omega)
              have e2 : (u.str == v.str) = false := by simpa using (show ¬ u.str = v.str by omega)
              clear hau hst
              go_wp2_with fail
              refine wp_region_quiet_below (by kernel_rfl) (by kernel_rfl) ?_
              repeat ((with_reducible refine wpQuiet_step (fun K hK => ?_)); go_simp; first | ((with_reducible refine hK _ ?_); clear hK K) | (rw [if_neg (by intro h; exact nomatch h)]; (with_reducible refine hK _ ?_); clear hK K) | (apply Exists.intro; (with_reducible refine ⟨fun _ => ?_, hK _ ?_⟩); (first | with_reducible exact KM.out _ _ | with_reducible exact KU.out _ _ | with_reducible exact KV.out _ _); clear hK K))
              with_reducible refine wpQuiet_nil ?_
              intro _ hw'
              obtain ⟨⟨dq1, osq1⟩, hw''⟩ := hw'
              subst hw''
              have g1 := below_regrown wr dq1 osq1
              generalize hW1 : grow (redrawn wr dq1) osq1 = W1 at *
              clear hW1 kx0 kx1 kx2 kx3 kx4 kx5 ky0 ky1 ky2 ky3 ky4 ky5 KM KU KV
              go_wp2_with fail
              go_roundw
              case rel => exact ⟨k + 1, by omega, by go_num, grow_next hb g1⟩
              case measure => simp [intOf]; omega
            · have e1 : decide (v.str < u.str) = false := decide_eq_false (by omega)
              have e2 : (u.str == v.str) = true := by simpa using hst
              obtain ⟨ru, hru⟩ : ∃ r, reachR u = r := ⟨_, rfl⟩
              obtain ⟨rv, hrv⟩ : ∃ r, reachR v = r := ⟨_, rfl⟩
              rw [hru] at KU hrr
              rw [hrv] at KV hrr
              have e3 : decide (rv < ru) = false := decide_eq_false (by omega)
              clear hau hst hru hrv hrr
              go_wp2_with fail
              refine wp_region_quiet_below (by kernel_rfl) (by kernel_rfl) ?_
              repeat ((with_reducible refine wpQuiet_step (fun K hK => ?_)); go_simp; first | ((with_reducible refine hK _ ?_); clear hK K) | (rw [if_neg (by intro h; exact nomatch h)]; (with_reducible refine hK _ ?_); clear hK K) | (apply Exists.intro; (with_reducible refine ⟨fun _ => ?_, hK _ ?_⟩); (first | with_reducible exact KM.out _ _ | with_reducible exact KU.out _ _ | with_reducible exact KV.out _ _); clear hK K))
              with_reducible refine wpQuiet_nil ?_
              intro _ hw'
              obtain ⟨⟨dq1, osq1⟩, hw''⟩ := hw'
              subst hw''
              have g1 := below_regrown wr dq1 osq1
              generalize hW1 : grow (redrawn wr dq1) osq1 = W1 at *
              clear hW1 kx0 kx1 kx2 kx3 kx4 kx5 ky0 ky1 ky2 ky3 ky4 ky5 KM KU KV
              go_wp2_with fail
              go_roundw
              case rel => exact ⟨k + 1, by omega, by go_num, grow_next hb g1⟩
              case measure => simp [intOf]; omega
        · have hqq := HQQ.out
          subst hqq
          go_wp2_with fail
          go_returns
          exact ⟨rfl, gr⟩
  · go_enter Tryd.func5, Tryd.ntmps5
    go_wp2_with (go_at_call 17; go_in)
    go_returns
    exact ⟨rfl, Below.refl _ _⟩
theorem rf_met (os : Os) (args : Array Value) : laidMetH Tryd.prog Rows.fnRankedRow.laid ((World.doorLaid Tryd.prog 400 os).forCall (fun _ _ => 0) ⟨#[], args, []⟩).memory :=
  laidMetH_of_parts3 (fuel := 8) (laidMet_of_run' 8 (by kernel_rfl) (by kernel_rfl)) (by kernel_rfl) (by kernel_rfl)
set_option maxRecDepth 100000 in
theorem rf_lifted (os : Os) (started : os.Started) (H : Type) (enc : TypeId × Value → H) :
    ReturnsInHanded {} Tryd.checked os 5 .any (fun w args => (Rows.fnRankedSpec.pre enc Tryd.prog Tryd.f5 [] false w args ∧ laidMetH Tryd.prog Rows.fnRankedRow.laid w) ∧ sizedMet enc Tryd.prog Tryd.f5 (OpenSpec.ofChange Rows.fnRankedSpec) false w args) (Rows.fnRankedSpec.post enc Tryd.prog Tryd.f5 false true false false) := by
  refine lifted_of_walk_laid (C := Tryd.checked) own started (by as_aux_lemma => kernel_rfl) Tryd.func5
    (ChangeSpec.witness_shaped (enc := enc) (C := Tryd.checked) (os := os) (X := fun w _ => laidMetH Tryd.prog Rows.fnRankedRow.laid w) false (World.doorLaid Tryd.prog 400 os) #[.slice none 0 0] 8 rfl (World.shaped_of_RefB (by kernel_rfl) (by kernel_rfl)) (by kernel_rfl) (by kernel_rfl) (by kernel_rfl) (rf_met os _))
    laidOut (by as_aux_lemma => kernel_rfl) (by as_aux_lemma => kernel_rfl) rfl boolType
    (fun ds gs h hg => by
      match ds, gs, h, hg with
      | [_], [_, _, _], _, _ => rfl)
    ?_
  intro W base args ds q hval hA hL
  have laidRow : Rows.fnRankedRow.laid = Rows.fnRankedRow.laid := rfl
  obtain ⟨ao, an, au, L⟩ := ld_of hL (by simp [Rows.fnRankedRow, handleD, sentD, Rows.laid_errors_errorType, Rows.laid_loop_example_g00656_impl_errNoTime, Rows.laid_loop_example_g00656_impl_errOutside, Rows.laid_loop_example_g00656_impl_errUnsure]) (by simp [Rows.fnRankedRow, handleD, sentD, Rows.laid_errors_errorType, Rows.laid_loop_example_g00656_impl_errNoTime, Rows.laid_loop_example_g00656_impl_errOutside, Rows.laid_loop_example_g00656_impl_errUnsure]) (by simp [Rows.fnRankedRow, handleD, sentD, Rows.laid_errors_errorType, Rows.laid_loop_example_g00656_impl_errNoTime, Rows.laid_loop_example_g00656_impl_errOutside, Rows.laid_loop_example_g00656_impl_errUnsure]) (by simp [Rows.fnRankedRow, handleD, sentD, Rows.laid_errors_errorType, Rows.laid_loop_example_g00656_impl_errNoTime, Rows.laid_loop_example_g00656_impl_errOutside, Rows.laid_loop_example_g00656_impl_errUnsure])
  clear hL
  rw [Tryd.params5] at hA hval
  obtain ⟨v0, vs0, d0, ds0, p0, q0, hargs, rfl, rfl, h0, r0⟩ := trodAll_cons hA
  obtain ⟨rfl, rfl, rfl⟩ := trodAll_nil r0
  obtain rfl : args = #[v0] := by cases args; simp_all
  obtain ⟨a0, len0, cap0, z0, rfl, w0⟩ := open_bytes Tryd.underlying32 Tryd.underlying5 (by as_aux_lemma => kernel_rfl) (hval 0 32 v0 rfl rfl) h0
  exact rf_walk W L a0 len0 cap0 z0 w0

set_option maxHeartbeats 4000000 in
theorem rf_facts : joinedFacts Tryd.pinned.checked.prog 5 Tryd.f5 Rows.fnRankedSpec Rows.fnRankedRow = true :=
  facts_of (P := Tryd.prog) (by as_aux_lemma => kernel_rfl) laidOut mapsRow (by as_aux_lemma => kernel_rfl) (by as_aux_lemma => kernel_rfl) rfl noStops rfl noKnobs (by as_aux_lemma => kernel_rfl) (by as_aux_lemma => kernel_rfl) (by as_aux_lemma => kernel_rfl) (by as_aux_lemma => kernel_rfl) (by as_aux_lemma => kernel_rfl) (by as_aux_lemma => kernel_rfl) (by as_aux_lemma => kernel_rfl) (by as_aux_lemma => kernel_rfl) (by as_aux_lemma => kernel_rfl) (by as_aux_lemma => kernel_rfl) (by as_aux_lemma => kernel_rfl) (by as_aux_lemma => kernel_rfl) (by as_aux_lemma => kernel_rfl) keysPlain rfl heard enters finals isMake rfl rfl rfl (by as_aux_lemma => kernel_rfl) (by as_aux_lemma => kernel_rfl)

theorem rf_row : Rows.FnRankedSaid :=
  OpenClaim.holds_of_wide 5 Tryd.f5 rfl rfl rfl rfl rfl rfl rfl ⟨rfl, rfl, rfl, rfl, rfl⟩ rfl rfl rfl rfl rfl (by as_aux_lemma => kernel_rfl) Tryd.func5 rf_facts
    (of_decide_eq_true (by as_aux_lemma => kernel_rfl)) (by unfold Func.isWrapper; first | (rw [if_pos (by decide +kernel)]; kernel_rfl) | (rw [if_neg (by decide +kernel)]; exact ⟨rfl, rfl⟩))
    (fun os started H enc _ => rf_lifted os started H enc)

/-- The given statement. -/
theorem rf_holds : Rows.FnRankedCardSaid :=
  Claim7.holds_tied_plain_at .later [] Rows.fnRankedCard.laidKinds true Rows.fnRankedCard.stood.harness true
    rf_row (fun _ h => by cases h) (by kernel_rfl) (fun _ h => by cases h) fnRanked_row_tie rfl ⟨rfl, rfl⟩ (by kernel_rfl) rfl
    (fun f fn hf hfn => by
      obtain rfl : f = 5 := Option.some.inj ((show Tryd.prog.funcNamed "loop.example/g00656/laws.FnRanked" = some 5 by kernel_rfl).symm.trans hf) |>.symm
      obtain rfl : fn = Tryd.f5 := (Option.some.inj (Tryd.func5.symm.trans hfn)).symm
      exact ⟨by kernel_rfl, fun j t ht => noStandIn (by rw [Tryd.params5]; kernel_rfl) j t ht⟩)
    (by kernel_rfl)
#print axioms rf_holds
end Go.Proofs.YtfcmcelhndppnaaDoor
