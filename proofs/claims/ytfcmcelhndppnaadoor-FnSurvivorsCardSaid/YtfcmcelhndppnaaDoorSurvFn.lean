/- As many are left as are to be, in their rank; fewer are left of those that are left of more: at all drawn peers and numbers. -/
import Derived.Test.YtfcmcelhndppnaaDoorPeersDraw
import Derived.Test.YtfcmcelhndppnaaDoorSurvS
import Derived.Test.YtfcmcelhndppnaaDoorSurvI
import Derived.Test.YtfcmcelhndppnaaDoorSamePr
import Derived.Test.YtfcmcelhndppnaaDoorRankDraw
import Derived.Test.YtfcmcelhndppnaaDoorTie
import Derived.Test.YtfcmcelhndppnaaDoorCards
namespace Go.Proofs.YtfcmcelhndppnaaDoor
open Go.ChangeShapes Go.WideShapes Go.ChangeAt Go.RowKit Go.Sort
set_option linter.unusedVariables false
set_option linter.unusedSimpArgs false

theorem leftV_more (l : List Pr) (least : Int) : ∀ v, v ∈ leftV l least → v ∈ leftV l (least + 1) := by
  intro v hv
  unfold leftV at *
  by_cases h : ((l.length : Int) - least).toNat = 0
  · have e : ((l.length : Int) - (least + 1)).toNat = 0 := by omega
    rw [e]; rw [h] at hv; exact hv
  · obtain ⟨k, hk⟩ : ∃ k, ((l.length : Int) - least).toNat = k + 1 := ⟨((l.length : Int) - least).toNat - 1, by omega⟩
    have e : ((l.length : Int) - (least + 1)).toNat = k := by omega
    rw [e]
    rw [hk] at hv
    exact (dropW_sub _).subset hv
theorem leftV_sub (l : List Pr) (least : Int) : (leftV l least).Sublist l := leftN_sub _ _
theorem sub_step {α : Type} {S R : List α} {k i : Nat} {a b : α} (h : (S.drop k).Sublist (R.drop i)) (ha : R[i]? = some a) (hb : S[k]? = some b) : (a = b → (S.drop (k + 1)).Sublist (R.drop (i + 1))) ∧ (a ≠ b → (S.drop k).Sublist (R.drop (i + 1))) := by
  obtain ⟨i1, e1⟩ := List.getElem?_eq_some_iff.1 ha
  obtain ⟨i2, e2⟩ := List.getElem?_eq_some_iff.1 hb
  have hR : R.drop i = a :: R.drop (i + 1) := by rw [List.drop_eq_getElem_cons i1, e1]
  have hS : S.drop k = b :: S.drop (k + 1) := by rw [List.drop_eq_getElem_cons i2, e2]
  rw [hR, hS] at h
  constructor
  · intro e
    subst e
    exact List.cons_sublist_cons.1 h
  · intro e
    rw [hS]
    rcases List.sublist_cons_iff.1 h with h | ⟨r, hr, _⟩
    · exact h
    · simp only [List.cons.injEq] at hr
      exact absurd hr.1.symm e
theorem sub_end {α : Type} {S R : List α} {k i : Nat} (h : (S.drop k).Sublist (R.drop i)) (hi : ¬ i < R.length) (hk : k ≤ S.length) : k = S.length := by
  have e : R.drop i = [] := List.drop_of_length_le (by omega)
  rw [e] at h
  have := congrArg List.length (List.sublist_nil.1 h)
  simp at this
  omega
set_option maxRecDepth 100000 in
set_option maxHeartbeats 4000000 in
theorem sf_walk (w : World) {ao an au : Addr} (L : Ld w ao an au) (x : Option Addr) (n cap z : Nat) (hz : z = n ∧ Code w.heap.size w (.slice x n cap) n) :
    Calls Tryd.prog 6 #[.slice x n cap] w fun e w' => e = .returned (.bool true) ∧ Below w.heap.size w w' := by
  obtain ⟨_, hc⟩ := hz
  by_cases hbig : n ≤ 1048576
  · go_enter Tryd.func6, Tryd.ntmps6
    go_wp2_with (go_at_call 17; go_in)
    refine (drawSurvivors_c x n cap _ hc hbig).mono ?_
    rintro e w1 ⟨y, cy, l, t, rfl, t0, t1, hl7, hlc, hcm, hP, hb1⟩
    obtain ⟨m, hm⟩ : ∃ m, m = l.length := ⟨_, rfl⟩
    rw [← hm] at hl7 hlc ⊢
    have HM := Lib.hid hm
    have hmm : m ≤ maxLen := by unfold maxLen; omega
    obtain ⟨A, hA⟩ : ∃ A, survV l t = A := ⟨_, rfl⟩
    obtain ⟨q, hq⟩ : ∃ q, q = A.length := ⟨_, rfl⟩
    have hqm : q ≤ m := by have := survV_len l t; rw [hA] at this; omega
    have hI := fun x cap w h {ao an au} L => @surv_impl l m HM hmm t x cap w h ao an au L
    have hS := fun x cap w h => surv_spec l m HM hmm t x cap w h
    have hO := fun x cap w h => peersOk_spec l m HM hmm x cap w h
    rw [hA, ← hq] at hS hI
    obtain ⟨ok, hk⟩ : ∃ k, okPrs l = k := ⟨_, rfl⟩
    rw [hk] at hO
    have HK := Lib.hid hk
    have HA := Lib.hid hA
    have HQ := Lib.hid hq
    have HI := Lib.hid hI
    have HS := Lib.hid hS
    have HO := Lib.hid hO
    have HSM := Lib.hid (fun x y cap cap' w h h' => samePeers_c A q HQ (by omega) x y cap cap' w h h')
    clear hk hA hq hI hS hO hm
    go_wp2_with fail
    refine (HI.out _ _ _ hP (L.next hb1)).mono ?_
    rintro e w2 ⟨v, rfl, ho, hb2⟩
    obtain ⟨z, cz, rfl, r0⟩ := prRow_form ho HQ.out
    have R2 := r0.prs
    clear ho r0
    have g2 := grow_next hb1 hb2
    have P2 := hP.next hb2
    clear hP
    go_wp2_with fail
    refine (HS.out _ _ _ P2).mono ?_
    rintro e w4 ⟨v, rfl, ho, hb4⟩
    obtain ⟨z4, cz4, rfl, r4⟩ := prRow_form ho HQ.out
    have R4' := r4.prs
    clear ho r4
    have g4 := grow_next g2 hb4
    have R4 := R2.next hb4
    have P4 := P2.next hb4
    clear R2 P2
    go_wp2_with fail
    refine (HSM.out _ _ _ _ _ R4 R4').mono ?_
    rintro e w5 ⟨rfl, hb5⟩
    have g5 := grow_next g4 hb5
    have R5 := R4.next hb5
    have P5 := P4.next hb5
    clear R4 R4' P4
    go_wp2_with fail
    refine (HO.out _ _ _ P5).mono ?_
    rintro e w6 ⟨rfl, hb6⟩
    have g6 := grow_next g5 hb6
    have R6 := R5.next hb6
    have P6 := P5.next hb6
    clear R5 P5
    have again : ∀ (b : Bool), True := fun _ => trivial
    rcases (by cases ok <;> simp <;> omega : ok = false ∨ (ok = true ∧ t < 1) ∨ (ok = true ∧ ¬ t < 1 ∧ 100 < t) ∨ (ok = true ∧ ¬ t < 1 ∧ ¬ 100 < t)) with rfl | ⟨rfl, h1⟩ | ⟨rfl, h1, h2⟩ | ⟨rfl, h1, h2⟩
    · go_wp2_with fail
      refine (HS.out _ _ _ P6).mono ?_
      rintro e w7 ⟨v, rfl, ho, hb7⟩
      obtain ⟨z7, cz7, rfl, r7⟩ := prRow_form ho HQ.out
      have R7' := r7.prs
      clear ho r7
      have R7 := R6.next hb7
      have g7 := grow_next g6 hb7
      go_wp2_with fail
      refine (HSM.out _ _ _ _ _ R7 R7').mono ?_
      rintro e w8 ⟨rfl, hb8⟩
      have g8 := grow_next g7 hb8
      go_wp2_with fail
      go_returns
      exact ⟨rfl, g8⟩
    · have d1 : decide (t < 1) = true := decide_eq_true h1
      go_wp2_with fail
      refine (HS.out _ _ _ P6).mono ?_
      rintro e w7 ⟨v, rfl, ho, hb7⟩
      obtain ⟨z7, cz7, rfl, r7⟩ := prRow_form ho HQ.out
      have R7' := r7.prs
      clear ho r7
      have R7 := R6.next hb7
      have g7 := grow_next g6 hb7
      go_wp2_with fail
      refine (HSM.out _ _ _ _ _ R7 R7').mono ?_
      rintro e w8 ⟨rfl, hb8⟩
      have g8 := grow_next g7 hb8
      go_wp2_with fail
      go_returns
      exact ⟨rfl, g8⟩
    · have d1 : decide (t < 1) = false := decide_eq_false h1
      have d2 : decide (100 < t) = true := decide_eq_true h2
      go_wp2_with fail
      refine (HS.out _ _ _ P6).mono ?_
      rintro e w7 ⟨v, rfl, ho, hb7⟩
      obtain ⟨z7, cz7, rfl, r7⟩ := prRow_form ho HQ.out
      have R7' := r7.prs
      clear ho r7
      have R7 := R6.next hb7
      have g7 := grow_next g6 hb7
      go_wp2_with fail
      refine (HSM.out _ _ _ _ _ R7 R7').mono ?_
      rintro e w8 ⟨rfl, hb8⟩
      have g8 := grow_next g7 hb8
      go_wp2_with fail
      go_returns
      exact ⟨rfl, g8⟩
    · have d1 : decide (t < 1) = false := decide_eq_false h1
      have d2 : decide (100 < t) = false := decide_eq_false h2
      have hA := HA.out
      rw [survV_yes HK.out (by omega)] at hA
      have hw1 : IntKind.i64.wrap (t + 1) = t + 1 := IntWalk.i64_in _ (by omega)
      obtain ⟨C, hC⟩ : ∃ C, survV l (t + 1) = C := ⟨_, rfl⟩
      obtain ⟨c, hcl⟩ : ∃ c, c = C.length := ⟨_, rfl⟩
      have hcm' : c ≤ m := by have := survV_len l (t + 1); rw [hC] at this; have := HM.out; omega
      have hIc := fun x cap w h {ao an au} L => @surv_impl l m HM hmm (t + 1) x cap w h ao an au L
      rw [hC, ← hcl] at hIc
      have HCL := Lib.hid hcl
      rw [survV_yes HK.out (by omega)] at hC
      have HMEM : Hid (∀ v, v ∈ A → v ∈ C) := Lib.hid (by rw [← hA, ← hC]; exact leftV_more _ _)
      have HSUB : Hid (A.Sublist (rkV l)) := Lib.hid (by rw [← hA]; exact leftV_sub _ _)
      have hlen : (q : Int) = min t (m : Int) := by
        have := leftV_length (rkV l) t
        rw [hA, ← HQ.out, rkV_length, ← HM.out] at this
        omega
      obtain ⟨B, hB⟩ : ∃ B, rkV l = B := ⟨_, rfl⟩
      have hBm : m = B.length := by rw [← hB, rkV_length]; exact HM.out
      have hR := fun x cap w h {ao an au} L => @ranked_impl l m HM hmm x cap w h ao an au L
      rw [show rankedV l = B by rw [rankedV, HK.out, ← hB]; rfl, ← hBm] at hR
      rw [hB] at HSUB
      have HBM := Lib.hid hBm
      have HIC := Lib.hid hIc
      have HR := Lib.hid hR
      have HLEN := Lib.hid hlen
      clear hA hC hB hcl hlen hBm hIc hR
      go_wp2_with fail
      refine (HR.out _ _ _ P6 (L.next g6)).mono ?_
      rintro e w7 ⟨v, rfl, ho, hb7⟩
      obtain ⟨yr, cyr, rfl, rr⟩ := prRow_form ho HBM.out
      have B7 := rr.prs
      clear ho rr
      have g7 := grow_next g6 hb7
      have R7 := R6.next hb7
      have P7 := P6.next hb7
      go_wp2_with fail
      refine (HIC.out _ _ _ P7 (L.next g7)).mono ?_
      rintro e w8 ⟨v, rfl, ho, hb8⟩
      obtain ⟨yc, cyc, rfl, rc⟩ := prRow_form ho HCL.out
      have C8 := rc.prs
      clear ho rc
      have g8 := grow_next g7 hb8
      have R8 := R7.next hb8
      have B8 := B7.next hb8
      clear B7 R6 R7 P6 P7
      go_wp2_with fail
      go_loopw [8, 9] (fun p i wr => ∃ j k : Nat, j ≤ m ∧ k ≤ q ∧ i = .int .i64 j ∧ p = .int .i64 k ∧ Hid ((A.drop k).Sublist (B.drop j)) ∧ Below w8.heap.size w8 wr) (fun _ i _ => m - (intOf i).toNat)
      case atStart => exact ⟨0, 0, Nat.zero_le _, Nat.zero_le _, rfl, rfl, Lib.hid (by simpa using HSUB.out), Below.refl _ _⟩
      case round =>
        obtain ⟨j, k, hjm, hkq, rfl, rfl, HD, hb⟩ := hrel
        have gr := grow_next g8 hb
        have Rr := R8.next hb
        have Br := B8.next hb
        by_cases hjk : j < m ∧ k < q
        · obtain ⟨hj, hk⟩ := hjk
          obtain ⟨a, ha⟩ := getP (l := B) (k := j) (by rw [← HBM.out]; exact hj)
          obtain ⟨b, hb'⟩ := getP (l := A) (k := k) (by rw [← HQ.out]; exact hk)
          obtain ⟨b1, off1, rfl, _⟩ := Br.at_ ha
          obtain ⟨b2, off2, rfl, _⟩ := Rr.at_ hb'
          obtain ⟨c0, c1, c2, c3, c4, c5⟩ := prs_cell Br ha
          obtain ⟨e0, e1, e2, e3, e4, e5⟩ := prs_cell Rr hb'
          have hst := sub_step HD.out ha hb'
          have HE := fun W => eq_pr a b W
          clear ha hb' HD
          by_cases hab : a = b
          · rw [samePr_iff.2 hab] at HE
            have HD := Lib.hid (hst.1 hab)
            clear hab hst
            go_wp2_with fail
            go_quiet (fail)
            go_wp2_with fail
            go_roundw
            case rel => exact ⟨j + 1, k + 1, by omega, by omega, by go_num, by go_num, HD, grow_drew hb _⟩
            case measure => simp [intOf]; omega
          · rw [samePr_no hab] at HE
            have HD := Lib.hid (hst.2 hab)
            clear hab hst
            go_wp2_with fail
            go_quiet (fail)
            go_wp2_with fail
            go_roundw
            case rel => exact ⟨j + 1, k, by omega, by omega, by go_num, rfl, HD, grow_drew hb _⟩
            case measure => simp [intOf]; omega
        · have hkq' : k = q := by
            rcases Nat.lt_or_ge j m with h1 | h1
            · omega
            · rw [HQ.out]
              exact sub_end HD.out (by rw [← HBM.out]; omega) (by rw [← HQ.out]; exact hkq)
          obtain rfl := hkq'
          have C9 := C8.next hb
          clear HD Br B8 R8 C8 hjm
          by_cases hj : j < m
          all_goals
            go_wp2_with fail
            go_loopw [10] (fun i wi => ∃ p : Nat, p ≤ k ∧ i = .int .i64 p ∧ Below wr.heap.size wr wi) (fun i _ => k - (intOf i).toNat)
            case atStart => exact ⟨0, Nat.zero_le _, rfl, Below.refl _ _⟩
            case round =>
              obtain ⟨p, hp, rfl, hbi⟩ := hrel
              have gi := grow_next gr hbi
              by_cases hpk : p < k
              · obtain ⟨v, hv⟩ := getP (l := A) (k := p) (by rw [← HQ.out]; exact hpk)
                have Ri := Rr.next hbi
                obtain ⟨b2, off2, rfl, _⟩ := Ri.at_ hv
                obtain ⟨c0, c1, c2, c3, c4, c5⟩ := prs_cell Ri hv
                have HMM := Lib.hid (among_c C v (HMEM.out v (List.mem_of_getElem? hv)) c HCL (by omega) yc cyc _ (C9.next hbi))
                clear hv
                go_wp2_with fail
                refine (HMM.out).mono ?_
                rintro e w9 ⟨rfl, hb9⟩
                go_wp2_with fail
                go_roundw
                case rel => exact ⟨p + 1, by omega, by go_num, grow_next hbi hb9⟩
                case measure => simp [intOf]; omega
              · have hl := HLEN.out
                by_cases htm : t ≤ (m : Int)
                · have ht : t = (k : Int) := by omega
                  have e1 : decide ((m : Int) < t) = false := decide_eq_false (by omega)
                  subst ht
                  clear hl
                  go_wp2_with fail
                  go_returns
                  all_goals exact ⟨by first | rfl | (simp; omega), gi⟩
                · have ht : k = m := by omega
                  have e1 : decide ((m : Int) < t) = true := decide_eq_true (by omega)
                  clear hl
                  subst ht
                  go_wp2_with fail
                  go_returns
                  all_goals exact ⟨by first | rfl | (simp; omega), gi⟩
  · go_enter Tryd.func6, Tryd.ntmps6
    go_wp2_with (go_at_call 17; go_in)
    go_returns
    exact ⟨rfl, Below.refl _ _⟩
theorem sf_met (os : Os) (args : Array Value) : laidMetH Tryd.prog Rows.fnSurvivorsRow.laid ((World.doorLaid Tryd.prog 400 os).forCall (fun _ _ => 0) ⟨#[], args, []⟩).memory :=
  laidMetH_of_parts3 (fuel := 8) (laidMet_of_run' 8 (by kernel_rfl) (by kernel_rfl)) (by kernel_rfl) (by kernel_rfl)
set_option maxRecDepth 100000 in
theorem sf_lifted (os : Os) (started : os.Started) (H : Type) (enc : TypeId × Value → H) :
    ReturnsInHanded {} Tryd.checked os 6 .any (fun w args => (Rows.fnSurvivorsSpec.pre enc Tryd.prog Tryd.f6 [] false w args ∧ laidMetH Tryd.prog Rows.fnSurvivorsRow.laid w) ∧ sizedMet enc Tryd.prog Tryd.f6 (OpenSpec.ofChange Rows.fnSurvivorsSpec) false w args) (Rows.fnSurvivorsSpec.post enc Tryd.prog Tryd.f6 false true false false) := by
  refine lifted_of_walk_laid (C := Tryd.checked) own started (by as_aux_lemma => kernel_rfl) Tryd.func6
    (ChangeSpec.witness_shaped (enc := enc) (C := Tryd.checked) (os := os) (X := fun w _ => laidMetH Tryd.prog Rows.fnSurvivorsRow.laid w) false (World.doorLaid Tryd.prog 400 os) #[.slice none 0 0] 8 rfl (World.shaped_of_RefB (by kernel_rfl) (by kernel_rfl)) (by kernel_rfl) (by kernel_rfl) (by kernel_rfl) (sf_met os _))
    laidOut (by as_aux_lemma => kernel_rfl) (by as_aux_lemma => kernel_rfl) rfl boolType
    (fun ds gs h hg => by
      match ds, gs, h, hg with
      | [_], [_, _, _], _, _ => rfl)
    ?_
  intro W base args ds q hval hA hL
  have laidRow : Rows.fnSurvivorsRow.laid = Rows.fnSurvivorsRow.laid := rfl
  obtain ⟨ao, an, au, L⟩ := ld_of hL (by simp [Rows.fnSurvivorsRow, handleD, sentD, Rows.laid_errors_errorType, Rows.laid_loop_example_g00656_impl_errNoTime, Rows.laid_loop_example_g00656_impl_errOutside, Rows.laid_loop_example_g00656_impl_errUnsure]) (by simp [Rows.fnSurvivorsRow, handleD, sentD, Rows.laid_errors_errorType, Rows.laid_loop_example_g00656_impl_errNoTime, Rows.laid_loop_example_g00656_impl_errOutside, Rows.laid_loop_example_g00656_impl_errUnsure]) (by simp [Rows.fnSurvivorsRow, handleD, sentD, Rows.laid_errors_errorType, Rows.laid_loop_example_g00656_impl_errNoTime, Rows.laid_loop_example_g00656_impl_errOutside, Rows.laid_loop_example_g00656_impl_errUnsure]) (by simp [Rows.fnSurvivorsRow, handleD, sentD, Rows.laid_errors_errorType, Rows.laid_loop_example_g00656_impl_errNoTime, Rows.laid_loop_example_g00656_impl_errOutside, Rows.laid_loop_example_g00656_impl_errUnsure])
  clear hL
  rw [Tryd.params6] at hA hval
  obtain ⟨v0, vs0, d0, ds0, p0, q0, hargs, rfl, rfl, h0, r0⟩ := trodAll_cons hA
  obtain ⟨rfl, rfl, rfl⟩ := trodAll_nil r0
  obtain rfl : args = #[v0] := by cases args; simp_all
  obtain ⟨a0, len0, cap0, z0, rfl, w0⟩ := open_bytes Tryd.underlying32 Tryd.underlying5 (by as_aux_lemma => kernel_rfl) (hval 0 32 v0 rfl rfl) h0
  exact sf_walk W L a0 len0 cap0 z0 w0

set_option maxHeartbeats 4000000 in
theorem sf_facts : joinedFacts Tryd.pinned.checked.prog 6 Tryd.f6 Rows.fnSurvivorsSpec Rows.fnSurvivorsRow = true :=
  facts_of (P := Tryd.prog) (by as_aux_lemma => kernel_rfl) laidOut mapsRow (by as_aux_lemma => kernel_rfl) (by as_aux_lemma => kernel_rfl) rfl noStops rfl noKnobs (by as_aux_lemma => kernel_rfl) (by as_aux_lemma => kernel_rfl) (by as_aux_lemma => kernel_rfl) (by as_aux_lemma => kernel_rfl) (by as_aux_lemma => kernel_rfl) (by as_aux_lemma => kernel_rfl) (by as_aux_lemma => kernel_rfl) (by as_aux_lemma => kernel_rfl) (by as_aux_lemma => kernel_rfl) (by as_aux_lemma => kernel_rfl) (by as_aux_lemma => kernel_rfl) (by as_aux_lemma => kernel_rfl) (by as_aux_lemma => kernel_rfl) keysPlain rfl heard enters finals isMake rfl rfl rfl (by as_aux_lemma => kernel_rfl) (by as_aux_lemma => kernel_rfl)

theorem sf_row : Rows.FnSurvivorsSaid :=
  OpenClaim.holds_of_wide 6 Tryd.f6 rfl rfl rfl rfl rfl rfl rfl ⟨rfl, rfl, rfl, rfl, rfl⟩ rfl rfl rfl rfl rfl (by as_aux_lemma => kernel_rfl) Tryd.func6 sf_facts
    (of_decide_eq_true (by as_aux_lemma => kernel_rfl)) (by unfold Func.isWrapper; first | (rw [if_pos (by decide +kernel)]; kernel_rfl) | (rw [if_neg (by decide +kernel)]; exact ⟨rfl, rfl⟩))
    (fun os started H enc _ => sf_lifted os started H enc)

/-- The given statement. -/
theorem sf_holds : Rows.FnSurvivorsCardSaid :=
  Claim7.holds_tied_plain_at .later [] Rows.fnSurvivorsCard.laidKinds true Rows.fnSurvivorsCard.stood.harness true
    sf_row (fun _ h => by cases h) (by kernel_rfl) (fun _ h => by cases h) fnSurvivors_row_tie rfl ⟨rfl, rfl⟩ (by kernel_rfl) rfl
    (fun f fn hf hfn => by
      obtain rfl : f = 6 := Option.some.inj ((show Tryd.prog.funcNamed "loop.example/g00656/laws.FnSurvivors" = some 6 by kernel_rfl).symm.trans hf) |>.symm
      obtain rfl : fn = Tryd.f6 := (Option.some.inj (Tryd.func6.symm.trans hfn)).symm
      exact ⟨by kernel_rfl, fun j t ht => noStandIn (by rw [Tryd.params6]; kernel_rfl) j t ht⟩)
    (by kernel_rfl)
#print axioms sf_holds
end Go.Proofs.YtfcmcelhndppnaaDoor
