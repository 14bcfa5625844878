/- Half a day from any leap what is smeared is just what counts; in a second it changes by less than twelve; it is never farther from what counts than half a second: at all drawn leaps and times. -/
import Derived.Test.YtlgmdicpmifcmaaSmearMiddleFn
import Derived.Test.YtlgmdicpmifcmaaAbs
namespace Go.Proofs.Ytlgmdicpmifcmaa
open Go.ChangeShapes Go.WideShapes Go.ChangeAt Go.RowKit Go.Sort
set_option linter.unusedVariables false
set_option linter.unusedSimpArgs false

/-- Is each of the first so many half a day off? -/
def farTo (l : List Lp) (t : Int) (k : Nat) : Bool := (l.take k).all fun v => decide (t - v.at_ ≤ -43200) || decide (43200 ≤ t - v.at_)
theorem farTo_next {l : List Lp} {t : Int} {k : Nat} {v : Lp} (h : l[k]? = some v) : farTo l t (k + 1) = (farTo l t k && (decide (t - v.at_ ≤ -43200) || decide (43200 ≤ t - v.at_))) := by
  unfold farTo
  rw [take_next h]
  simp

set_option maxHeartbeats 2000000 in
theorem smearedFn_walk (w : World) (a : Option Addr) (n cap z : Nat) (hz : z = n ∧ Code w.heap.size w (.slice a n cap) n) :
    Calls Try.prog 7 #[.slice a n cap] w fun e w' => e = .returned (.bool true) ∧ Below w.heap.size w w' := by
  obtain ⟨hzn, hc⟩ := hz
  clear hzn
  by_cases hbig : n ≤ 1048576
  · go_enter Try.func7, Try.ntmps7
    go_wp2_with (go_at_call 20; go_in)
    refine (drawSmeared_c a n cap _ hc hbig).mono ?_
    rintro e w1 ⟨y, c, l, t, rfl, hl4, hrow, b1⟩
    obtain ⟨hlc, hcm, _⟩ := row_cap hrow
    obtain ⟨m, hm⟩ : ∃ m, m = l.length := ⟨_, rfl⟩
    have HM := Lib.hid hm
    rw [← hm] at hl4 hlc ⊢
    have hmm : m ≤ maxLen := by omega
    clear hm
    obtain ⟨s, hs⟩ : ∃ s, smearedV l t = s := ⟨_, rfl⟩
    have SI := Lib.hid (fun w h => smV_decM hs m HM hmm y c w h)
    have SS := Lib.hid (fun w h => smV_decS hs m HM hmm y c w h)
    have HSV := Lib.hid hs
    clear hs
    by_cases hbad : (okLps l && timeL t) = true ∧ ¬ t = 4000000000
    · obtain ⟨hok, ht4⟩ := hbad
      have hok' := hok
      rw [Bool.and_eq_true] at hok'
      obtain ⟨ho, ht⟩ := hok'
      obtain ⟨t0, t1⟩ := timeL_iff.1 ht
      have ht' : timeL (t + 1) = true := timeL_iff.2 ⟨by omega, by omega⟩
      have HO := Lib.hid ho
      have sV : s = sumL (smearV t) l := by rw [← HSV.out, smearedV_ok hok]
      have hsb := sumL_bound (f := smearV t) (l := l) (B := 1000000) (by omega) (fun v hv => smearV_bound (ok_mem ho v hv))
      rw [← sV, ← HM.out] at hsb
      have hstep := smear_step ho t
      have hnear := smear_near ho t
      have hcb := sumL_bound (f := cntV t) (l := l) (B := 1) (by omega) (fun v hv => cntV_bound (ok_mem ho v hv))
      rw [← HM.out] at hcb
      rw [← sV] at hstep hnear
      have hfar := Lib.hid (fun (hf : farTo l t m = true) => show s = 1000000 * sumL (cntV t) l by
        rw [sV]
        refine smear_far ho (fun v hv => ?_)
        have h1 := List.all_eq_true.1 hf v (by rw [HM.out, List.take_length]; exact hv)
        rw [Bool.or_eq_true, decide_eq_true_eq, decide_eq_true_eq] at h1
        exact h1)
      obtain ⟨q, hq⟩ : ∃ q, sumL (cntV t) l = q := ⟨_, rfl⟩
      obtain ⟨r, hr⟩ : ∃ r, sumL (smearV (t + 1)) l = r := ⟨_, rfl⟩
      rw [hr] at hstep
      rw [hq] at hnear hfar hcb
      have AQ := Lib.hid (fun w h => atV_decM (show leapAtV l t = q by rw [leapAtV_ok hok, hq]) m HM hmm y c w h)
      have AR := Lib.hid (fun w h => smV_decM (show smearedV l (t + 1) = r by rw [smearedV_ok (by rw [HO.out, ht']; rfl), hr]) m HM hmm y c w h)
      have e0 : (s == -1000000000) = false := by simp; omega
      have e1 : (t == 4000000000) = false := by simpa using ht4
      have HA := Lib.hid (fun (k : Nat) (v : Lp) (hv : l[k]? = some v) => (Lp.ok_iff.1 (okLps_at HO.out hv).1).1)
      clear sV hok ho ht ht' hq hr HSV ht4
      go_wp2_with fail
      refine (SI.out _ hrow.lps).mono ?_
      rintro e w2 ⟨rfl, b2⟩
      have g2 := grow_next b1 b2
      have r2 := hrow.next b2
      go_wp2_with fail
      refine (SS.out _ r2.lps).mono ?_
      rintro e w3 ⟨rfl, b3⟩
      have g3 := grow_next g2 b3
      have r3 := r2.next b3
      clear g2 r2 hrow b1 b2 b3 SI SS
      go_wp2_with fail
      go_loopw [6, 7] (fun f i wr => ∃ j : Nat, j ≤ m ∧ i = .int .i64 j ∧ f = .bool (farTo l t j) ∧ wr = w3) (fun _ i _ => m - (intOf i).toNat)
      case atStart => exact ⟨0, Nat.zero_le _, rfl, rfl, rfl⟩
      case round =>
        obtain ⟨j, hj, rfl, rfl, rfl⟩ := hrel
        by_cases hlt : j < m
        · obtain ⟨v, hv⟩ := get_at (l := l) (k := j) (by rw [← HM.out]; omega)
          obtain ⟨g, rfl, _⟩ := r3.at_ hv
          obtain ⟨c0, c1⟩ := r3.atg hv
          have HN := Lib.hid (farTo_next (t := t) hv)
          obtain ⟨v0, v1⟩ := HA.out _ _ hv
          have HB := Lib.hid (abs_c (t - v.at_) (by omega) (by omega))
          have hab : absV (t - v.at_) = t - v.at_ ∨ absV (t - v.at_) = -(t - v.at_) := by unfold absV; split <;> simp
          have haz : 0 ≤ absV (t - v.at_) := by unfold absV; split <;> omega
          obtain ⟨d, hd⟩ : ∃ d, absV (t - v.at_) = d := ⟨_, rfl⟩
          rw [hd] at HB hab haz
          have HT := Lib.hid (show (decide (t - v.at_ ≤ -43200) || decide (43200 ≤ t - v.at_)) = decide (43200 ≤ d) by
            rw [Bool.eq_iff_iff]
            simp only [Bool.or_eq_true, decide_eq_true_eq]
            omega)
          clear hv hd hab haz
          cases hf : farTo l t j with
          | false =>
            have HN' := Lib.hid (show farTo l t (j + 1) = false by rw [HN.out, hf]; rfl)
            clear hf
            go_wp2_with fail
            go_roundw
            case rel => exact ⟨j + 1, by omega, by go_num, by rw [HN'.out], trivial⟩
            case measure => simp [intOf]; omega
          | true =>
            have HN' := Lib.hid (show farTo l t (j + 1) = decide (43200 ≤ d) by rw [HN.out, hf, HT.out]; rfl)
            clear hf
            go_wp2_with fail
            refine (HB.out _).mono ?_
            rintro e w4 ⟨rfl, rfl⟩
            go_wp2_with fail
            go_roundw
            case rel => exact ⟨j + 1, by omega, by go_num, by rw [HN'.out], trivial⟩
            case measure => simp [intOf]; omega
        · obtain rfl : j = m := by omega
          have A1 := Lib.hid (abs_c (r - s) (by omega) (by omega))
          have A2 := Lib.hid (abs_c (s - 1000000 * q) (by omega) (by omega))
          have h1 : absV (r - s) ≤ 12 := by unfold absV; split <;> omega
          have h2 : absV (s - 1000000 * q) ≤ 500000 := by unfold absV; split <;> omega
          obtain ⟨d1, hd1⟩ : ∃ d, absV (r - s) = d := ⟨_, rfl⟩
          obtain ⟨d2, hd2⟩ : ∃ d, absV (s - 1000000 * q) = d := ⟨_, rfl⟩
          rw [hd1] at A1 h1
          rw [hd2] at A2 h2
          clear hd1 hd2
          have hfin : farTo l t j = true → (s == 1000000 * q) = true := fun hf => by simpa using hfar.out hf
          obtain ⟨f, hf⟩ : ∃ f, farTo l t j = f := ⟨_, rfl⟩
          rw [hf] at hfin ⊢
          clear hf hfar
          go_wp2_with fail
          refine (AQ.out _ r3.lps).mono ?_
          rintro e w4 ⟨rfl, b4⟩
          have g4 := grow_next g3 b4
          have r4 := r3.next b4
          go_wp2_with fail
          refine (AR.out _ r4.lps).mono ?_
          rintro e w5 ⟨rfl, b5⟩
          have g5 := grow_next g4 b5
          cases f with
          | true =>
            have hfin' := hfin rfl
            clear hfin
            go_wp2_with fail
            refine (A1.out _).mono ?_
            rintro e w6 ⟨rfl, rfl⟩
            go_wp2_with fail
            refine (A2.out _).mono ?_
            rintro e w6 ⟨rfl, rfl⟩
            go_wp2_with fail
            go_returns
            exact ⟨by simp [h2], g5⟩
          | false =>
            clear hfin
            go_wp2_with fail
            refine (A1.out _).mono ?_
            rintro e w6 ⟨rfl, rfl⟩
            go_wp2_with fail
            refine (A2.out _).mono ?_
            rintro e w6 ⟨rfl, rfl⟩
            go_wp2_with fail
            go_returns
            exact ⟨by simp [h2], g5⟩
    · have hcase : s = -1000000000 ∨ t = 4000000000 := by
        by_cases h4 : t = 4000000000
        · exact .inr h4
        · left
          have : (okLps l && timeL t) = false := by
            cases hh : okLps l && timeL t with
            | false => rfl
            | true => exact absurd ⟨hh, h4⟩ hbad
          rw [← HSV.out, smearedV_no this]
      have heq : ((s == -1000000000) || (t == 4000000000)) = true := by
        rcases hcase with h | h <;> simp [h]
      cases e0 : (s == -1000000000) with
      | true =>
        clear hcase heq hbad HSV
        go_wp2_with fail
        refine (SI.out _ hrow.lps).mono ?_
        rintro e w2 ⟨rfl, b2⟩
        have g2 := grow_next b1 b2
        have r2 := hrow.next b2
        go_wp2_with fail
        refine (SS.out _ r2.lps).mono ?_
        rintro e w3 ⟨rfl, b3⟩
        have g3 := grow_next g2 b3
        have r3 := r2.next b3
        go_wp2_with fail
        refine (SS.out _ r3.lps).mono ?_
        rintro e w4 ⟨rfl, b4⟩
        have g4 := grow_next g3 b4
        go_wp2_with fail
        go_returns
        exact ⟨by simp, g4⟩
      | false =>
        have e1 : (t == 4000000000) = true := by rw [e0] at heq; simpa using heq
        clear hcase heq hbad HSV
        go_wp2_with fail
        refine (SI.out _ hrow.lps).mono ?_
        rintro e w2 ⟨rfl, b2⟩
        have g2 := grow_next b1 b2
        have r2 := hrow.next b2
        go_wp2_with fail
        refine (SS.out _ r2.lps).mono ?_
        rintro e w3 ⟨rfl, b3⟩
        have g3 := grow_next g2 b3
        have r3 := r2.next b3
        go_wp2_with fail
        refine (SS.out _ r3.lps).mono ?_
        rintro e w4 ⟨rfl, b4⟩
        have g4 := grow_next g3 b4
        go_wp2_with fail
        go_returns
        exact ⟨by simp, g4⟩
  · go_enter Try.func7, Try.ntmps7
    go_wp2_with (go_at_call 20; go_in)
    go_returns
    exact ⟨rfl, Below.refl _ _⟩

set_option maxRecDepth 100000 in
theorem smearedFn_lifted (os : Os) (started : os.Started) (H : Type) (enc : TypeId × Value → H) :
    ReturnsInHanded {} Try.checked os 7 .any (Rows.fnSmearedSpec.pre6 enc Try.prog Try.f7 Rows.fnSmearedRow.domain false) (Rows.fnSmearedSpec.post enc Try.prog Try.f7 false true false false) := by
  refine lifted_of_walk (C := Try.checked) own started (by as_aux_lemma => kernel_rfl) Try.func7
    (ChangeSpec.witness6 (enc := enc) (C := Try.checked) false ⟨#[], #[.slice none 0 0], []⟩ 8 (by as_aux_lemma => kernel_rfl) (by as_aux_lemma => kernel_rfl) (by as_aux_lemma => kernel_rfl) (by as_aux_lemma => kernel_rfl) (by as_aux_lemma => kernel_rfl))
    laidOut rfl (by as_aux_lemma => kernel_rfl) (by as_aux_lemma => kernel_rfl) boolType
    (fun ds h => by
      match ds, h with
      | [_], _ => rfl)
    ?_
  intro W base args ds q hval hA
  rw [Try.params7] at hA hval
  obtain ⟨v0, vs0, d0, ds0, p0, q0, hargs, rfl, rfl, h0, r0⟩ := trodAll_cons hA
  obtain ⟨rfl, rfl, rfl⟩ := trodAll_nil r0
  obtain rfl : args = #[v0] := by cases args; simp_all
  obtain ⟨a0, len0, cap0, z0, rfl, w0⟩ := open_bytes Try.underlying34 Try.underlying5 (by as_aux_lemma => kernel_rfl) (hval 0 34 v0 rfl rfl) h0
  exact smearedFn_walk W a0 len0 cap0 z0 w0

theorem smearedFn_facts : joinedFacts Try.pinned.checked.prog 7 Try.f7 Rows.fnSmearedSpec Rows.fnSmearedRow = true :=
  facts_of (P := Try.prog) (by as_aux_lemma => kernel_rfl) laidOut mapsRow (by as_aux_lemma => kernel_rfl) (by as_aux_lemma => kernel_rfl) rfl noStops rfl noKnobs (by as_aux_lemma => kernel_rfl) (by as_aux_lemma => kernel_rfl) (by as_aux_lemma => kernel_rfl) (by as_aux_lemma => kernel_rfl) (by as_aux_lemma => kernel_rfl) (by as_aux_lemma => kernel_rfl) (by as_aux_lemma => kernel_rfl) (by as_aux_lemma => kernel_rfl) (by as_aux_lemma => kernel_rfl) rfl (by as_aux_lemma => kernel_rfl) (by as_aux_lemma => kernel_rfl) (by as_aux_lemma => kernel_rfl) keysPlain rfl heard enters finals isMake rfl rfl rfl (by as_aux_lemma => kernel_rfl) (by as_aux_lemma => kernel_rfl)

/-- The given statement. -/
theorem smearedFn_holds : Rows.FnSmearedSaid :=
  OpenClaim.holds_of_wide 7 Try.f7 rfl rfl rfl rfl rfl rfl rfl ⟨rfl, rfl, rfl, rfl, rfl⟩ rfl rfl rfl rfl rfl (by as_aux_lemma => kernel_rfl) Try.func7 smearedFn_facts
    (of_decide_eq_true (by as_aux_lemma => kernel_rfl)) (by unfold Func.isWrapper; first | (rw [if_pos (by decide +kernel)]; kernel_rfl) | (rw [if_neg (by decide +kernel)]; exact ⟨rfl, rfl⟩))
    (fun os started H enc _ => smearedFn_lifted os started H enc)
#print axioms smearedFn_holds
end Go.Proofs.Ytlgmdicpmifcmaa
