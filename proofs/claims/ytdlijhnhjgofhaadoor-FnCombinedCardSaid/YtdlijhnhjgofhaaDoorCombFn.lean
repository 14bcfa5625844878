/- What is put together lies between the least and the greatest offset; of one peer it is its own: at all drawn peers. -/
import Derived.Test.YtdlijhnhjgofhaaDoorPeersDraw
import Derived.Test.YtdlijhnhjgofhaaDoorCombBt
import Derived.Test.YtdlijhnhjgofhaaDoorTie
import Derived.Test.YtdlijhnhjgofhaaDoorCards
namespace Go.Proofs.YtdlijhnhjgofhaaDoor
open Go.ChangeShapes Go.WideShapes Go.ChangeAt Go.RowKit
set_option linter.unusedVariables false
set_option linter.unusedSimpArgs false

set_option maxRecDepth 100000 in
set_option maxHeartbeats 4000000 in
theorem cf_walk (w : World) {ao an au : Addr} (L : Ld w ao an au) (x : Option Addr) (n cap z : Nat) (hz : z = n ∧ Code w.heap.size w (.slice x n cap) n) :
    Calls Tryd.prog 3 #[.slice x n cap] w fun e w' => e = .returned (.bool true) ∧ Below w.heap.size w w' := by
  obtain ⟨_, hc⟩ := hz
  by_cases hbig : n ≤ 1048576
  · go_enter Tryd.func3, Tryd.ntmps3
    go_wp2_with (go_at_call 11; go_in)
    refine (drawCombined_c x n cap _ hc hbig).mono ?_
    rintro e w1 ⟨y, cy, l, rfl, hl6, hlc, hcm, hP, hb1⟩
    obtain ⟨m, hm⟩ : ∃ m, m = l.length := ⟨_, rfl⟩
    rw [← hm] at hl6 hlc ⊢
    have HM := Lib.hid hm
    have hmm : m ≤ maxLen := by unfold maxLen; omega
    have hI := fun x cap w h {ao an au} L => @comb_impl l m HM hmm x cap w h ao an au L
    have hS := fun x cap w h => comb_spec l m HM hmm x cap w h
    obtain ⟨v, hv⟩ : ∃ v, combA l = v := ⟨_, rfl⟩
    obtain ⟨ok, hk⟩ : ∃ k, combOk l = k := ⟨_, rfl⟩
    rw [hv, hk] at hS hI
    have HV := Lib.hid hv
    have HK := Lib.hid hk
    have HI := Lib.hid hI
    have HS := Lib.hid hS
    clear hv hk hI hS hm
    go_wp2_with fail
    refine (HI.out _ _ _ hP (L.next hb1)).mono ?_
    rintro e w2 ⟨rfl, hb2⟩
    have g2 := grow_next hb1 hb2
    have P2 := hP.next hb2
    go_wp2_with fail
    refine (HS.out _ _ _ P2).mono ?_
    rintro e w3 ⟨rfl, hb3⟩
    have g3 := grow_next g2 hb3
    have P3 := P2.next hb3
    clear P2 hP
    cases ok with
    | false =>
      go_wp2_with fail
      go_returns
      exact ⟨rfl, g3⟩
    | true =>
      obtain ⟨ho, hpos⟩ := combOk_parts HK.out
      have hA := (okPrs_all ho).1
      rw [← HM.out] at hpos
      obtain ⟨u, hu⟩ := getP (l := l) (k := 0) (by rw [← HM.out]; exact hpos)
      obtain ⟨b, off, rfl, _⟩ := P3.at_ hu
      obtain ⟨c0, c1, c2, c3, c4, c5⟩ := prs_cell P3 hu
      simp only [Nat.zero_mul, Nat.add_zero] at c0 c1 c2 c3 c4 c5
      have hpi : (0 : Int) < (m : Int) := by omega
      have HU := Lib.hid hu
      clear hu
      go_wp2_with fail
      go_loopw [8, 9, 10] (fun lo hi i wr => ∃ (k : Nat) (p q : Int), k ≤ m ∧ i = .int .i64 k ∧ lo = .int .i64 p ∧ hi = .int .i64 q ∧ Hid (∀ j v, j < k → l[j]? = some v → p ≤ v.s.off ∧ v.s.off ≤ q) ∧ w3 = wr) (fun _ _ i _ => m - (intOf i).toNat)
      case atStart => exact ⟨0, _, _, Nat.zero_le _, rfl, rfl, rfl, Lib.hid (fun j v hj => by omega), rfl⟩
      case round =>
        obtain ⟨k, p, q, hkm, rfl, rfl, rfl, HB, rfl⟩ := hrel
        by_cases hlt : k < m
        · obtain ⟨t, ht⟩ := getP (l := l) (k := k) (by rw [← HM.out]; exact hlt)
          obtain ⟨d0, d1, d2, d3, d4, d5⟩ := prs_cell P3 ht
          obtain ⟨f, hf⟩ : ∃ f, t.s.off = f := ⟨_, rfl⟩
          rw [hf] at d2
          have HT := Lib.hid ht
          have HF := Lib.hid hf
          clear ht hf
          have step : ∀ p' q' : Int, p' ≤ p → p' ≤ f → q ≤ q' → f ≤ q' → Hid (∀ j v, j < k + 1 → l[j]? = some v → p' ≤ v.s.off ∧ v.s.off ≤ q') := fun p' q' h1 h2 h3 h4 => Lib.hid (fun j v hj hv => by
            rcases Nat.lt_or_ge j k with hjk | hjk
            · have := HB.out j v hjk hv; omega
            · obtain rfl : j = k := by omega
              rw [HT.out] at hv
              simp only [Option.some.injEq] at hv
              have := HF.out
              rw [← hv]
              omega)
          have STEP := Lib.hid step
          clear step
          by_cases h1 : f < p <;> by_cases h2 : q < f
          all_goals
            first | have e1 := decide_eq_false h1 | have e1 := decide_eq_true h1
            first | have e2 := decide_eq_false h2 | have e2 := decide_eq_true h2
            go_wp2_with fail
            go_roundw
            case rel => exact ⟨k + 1, _, _, by omega, by go_num, rfl, rfl, STEP.out _ _ (by omega) (by omega) (by omega) (by omega), by first | rfl | trivial⟩
            case measure => simp [intOf]; omega
        · have e : k = m := by omega
          have hbt := combV_in hA (by rw [← HM.out]; exact hpos) (lo := p) (hi := q) (fun v hv => by
            obtain ⟨j, hj, hjv⟩ := List.mem_iff_getElem.1 hv
            exact HB.out j v (by rw [e, HM.out]; exact hj) (by rw [List.getElem?_eq_getElem hj, hjv]))
          rw [← combA_yes HK.out, HV.out] at hbt
          have h1 : decide (p ≤ v) = true := decide_eq_true hbt.1
          have h2 : decide (v ≤ q) = true := decide_eq_true hbt.2
          obtain ⟨f1, f2⟩ := comb_first HK.out HU.out
          have hI1 := fun cap w h {ao an au} L => @comb_impl (l.take 1) 1 (Lib.hid (by rw [List.length_take, ← HM.out]; omega)) (by unfold maxLen; omega) (some ⟨b, off, none⟩) cap w h ao an au L
          rw [f1, f2] at hI1
          have HI1 := Lib.hid hI1
          have P31 := prs_take P3 1
          have hc1 : 1 ≤ cy := by omega
          clear e hI1 f1 f2
          go_wp2_with fail
          refine (HI1.out _ _ P31 (L.next g3)).mono ?_
          rintro e w4 ⟨rfl, hb4⟩
          have g4 := grow_next g3 hb4
          obtain ⟨c0, c1, c2, c3, c4, c5⟩ := prs_cell (P3.next hb4) HU.out
          simp only [Nat.zero_mul, Nat.add_zero] at c0 c1 c2 c3 c4 c5
          go_wp2_with fail
          go_returns
          exact ⟨rfl, g4⟩
  · go_enter Tryd.func3, Tryd.ntmps3
    go_wp2_with (go_at_call 11; go_in)
    go_returns
    exact ⟨rfl, Below.refl _ _⟩
theorem cf_met (os : Os) (args : Array Value) : laidMetH Tryd.prog Rows.fnCombinedRow.laid ((World.doorLaid Tryd.prog 400 os).forCall (fun _ _ => 0) ⟨#[], args, []⟩).memory :=
  laidMetH_of_parts3 (fuel := 8) (laidMet_of_run' 8 (by kernel_rfl) (by kernel_rfl)) (by kernel_rfl) (by kernel_rfl)
set_option maxRecDepth 100000 in
theorem cf_lifted (os : Os) (started : os.Started) (H : Type) (enc : TypeId × Value → H) :
    ReturnsInHanded {} Tryd.checked os 3 .any (fun w args => (Rows.fnCombinedSpec.pre enc Tryd.prog Tryd.f3 [] false w args ∧ laidMetH Tryd.prog Rows.fnCombinedRow.laid w) ∧ sizedMet enc Tryd.prog Tryd.f3 (OpenSpec.ofChange Rows.fnCombinedSpec) false w args) (Rows.fnCombinedSpec.post enc Tryd.prog Tryd.f3 false true false false) := by
  refine lifted_of_walk_laid (C := Tryd.checked) own started (by as_aux_lemma => kernel_rfl) Tryd.func3
    (ChangeSpec.witness_shaped (enc := enc) (C := Tryd.checked) (os := os) (X := fun w _ => laidMetH Tryd.prog Rows.fnCombinedRow.laid w) false (World.doorLaid Tryd.prog 400 os) #[.slice none 0 0] 8 rfl (World.shaped_of_RefB (by kernel_rfl) (by kernel_rfl)) (by kernel_rfl) (by kernel_rfl) (by kernel_rfl) (cf_met os _))
    laidOut (by as_aux_lemma => kernel_rfl) (by as_aux_lemma => kernel_rfl) rfl boolType
    (fun ds gs h hg => by
      match ds, gs, h, hg with
      | [_], [_, _, _], _, _ => rfl)
    ?_
  intro W base args ds q hval hA hL
  have laidRow : Rows.fnCombinedRow.laid = Rows.fnCombinedRow.laid := rfl
  obtain ⟨ao, an, au, L⟩ := ld_of hL (by simp [Rows.fnCombinedRow, handleD, sentD, Rows.laid_errors_errorType, Rows.laid_loop_example_g00656_impl_errNoTime, Rows.laid_loop_example_g00656_impl_errOutside, Rows.laid_loop_example_g00656_impl_errUnsure]) (by simp [Rows.fnCombinedRow, handleD, sentD, Rows.laid_errors_errorType, Rows.laid_loop_example_g00656_impl_errNoTime, Rows.laid_loop_example_g00656_impl_errOutside, Rows.laid_loop_example_g00656_impl_errUnsure]) (by simp [Rows.fnCombinedRow, handleD, sentD, Rows.laid_errors_errorType, Rows.laid_loop_example_g00656_impl_errNoTime, Rows.laid_loop_example_g00656_impl_errOutside, Rows.laid_loop_example_g00656_impl_errUnsure]) (by simp [Rows.fnCombinedRow, handleD, sentD, Rows.laid_errors_errorType, Rows.laid_loop_example_g00656_impl_errNoTime, Rows.laid_loop_example_g00656_impl_errOutside, Rows.laid_loop_example_g00656_impl_errUnsure])
  clear hL
  rw [Tryd.params3] at hA hval
  obtain ⟨v0, vs0, d0, ds0, p0, q0, hargs, rfl, rfl, h0, r0⟩ := trodAll_cons hA
  obtain ⟨rfl, rfl, rfl⟩ := trodAll_nil r0
  obtain rfl : args = #[v0] := by cases args; simp_all
  obtain ⟨a0, len0, cap0, z0, rfl, w0⟩ := open_bytes Tryd.underlying22 Tryd.underlying5 (by as_aux_lemma => kernel_rfl) (hval 0 22 v0 rfl rfl) h0
  exact cf_walk W L a0 len0 cap0 z0 w0

theorem cf_facts : joinedFacts Tryd.pinned.checked.prog 3 Tryd.f3 Rows.fnCombinedSpec Rows.fnCombinedRow = true :=
  facts_of (P := Tryd.prog) (by as_aux_lemma => kernel_rfl) laidOut mapsRow (by as_aux_lemma => kernel_rfl) (by as_aux_lemma => kernel_rfl) rfl noStops rfl noKnobs (by as_aux_lemma => kernel_rfl) (by as_aux_lemma => kernel_rfl) (by as_aux_lemma => kernel_rfl) (by as_aux_lemma => kernel_rfl) (by as_aux_lemma => kernel_rfl) (by as_aux_lemma => kernel_rfl) (by as_aux_lemma => kernel_rfl) (by as_aux_lemma => kernel_rfl) (by as_aux_lemma => kernel_rfl) (by as_aux_lemma => kernel_rfl) (by as_aux_lemma => kernel_rfl) (by as_aux_lemma => kernel_rfl) (by as_aux_lemma => kernel_rfl) keysPlain rfl heard enters finals isMake rfl rfl rfl (by as_aux_lemma => kernel_rfl) (by as_aux_lemma => kernel_rfl)

theorem cf_row : Rows.FnCombinedSaid :=
  OpenClaim.holds_of_wide 3 Tryd.f3 rfl rfl rfl rfl rfl rfl rfl ⟨rfl, rfl, rfl, rfl, rfl⟩ rfl rfl rfl rfl rfl (by as_aux_lemma => kernel_rfl) Tryd.func3 cf_facts
    (of_decide_eq_true (by as_aux_lemma => kernel_rfl)) (by unfold Func.isWrapper; first | (rw [if_pos (by decide +kernel)]; kernel_rfl) | (rw [if_neg (by decide +kernel)]; exact ⟨rfl, rfl⟩))
    (fun os started H enc _ => cf_lifted os started H enc)

/-- The given statement. -/
theorem cf_holds : Rows.FnCombinedCardSaid :=
  Claim7.holds_tied_plain_at .later [] Rows.fnCombinedCard.laidKinds true Rows.fnCombinedCard.stood.harness true
    cf_row (fun _ h => by cases h) (by kernel_rfl) (fun _ h => by cases h) fnCombined_row_tie rfl ⟨rfl, rfl⟩ (by kernel_rfl) rfl
    (fun f fn hf hfn => by
      obtain rfl : f = 3 := Option.some.inj ((show Tryd.prog.funcNamed "loop.example/g00656/laws.FnCombined" = some 3 by kernel_rfl).symm.trans hf) |>.symm
      obtain rfl : fn = Tryd.f3 := (Option.some.inj (Tryd.func3.symm.trans hfn)).symm
      exact ⟨by kernel_rfl, fun j t ht => noStandIn (by rw [Tryd.params3]; kernel_rfl) j t ht⟩)
    (by kernel_rfl)
#print axioms cf_holds
end Go.Proofs.YtdlijhnhjgofhaaDoor
