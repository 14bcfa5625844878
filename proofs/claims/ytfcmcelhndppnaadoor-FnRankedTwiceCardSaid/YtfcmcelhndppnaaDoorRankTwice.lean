/- Without the first one all others are ranked as they were: at all drawn peers. -/
import Derived.Test.YtfcmcelhndppnaaDoorPeersDraw
import Derived.Test.YtfcmcelhndppnaaDoorRankS2
import Derived.Test.YtfcmcelhndppnaaDoorSamePr
import Derived.Test.YtfcmcelhndppnaaDoorSurvS
import Derived.Test.YtfcmcelhndppnaaDoorRankDraw
import Derived.Deep.RegionWith
import Derived.Test.YtfcmcelhndppnaaDoorTie
import Derived.Test.YtfcmcelhndppnaaDoorCards
namespace Go.Proofs.YtfcmcelhndppnaaDoor
open Go.ChangeShapes Go.WideShapes Go.ChangeAt Go.RowKit
set_option linter.unusedVariables false
set_option linter.unusedSimpArgs false

def restOf (i0 : Int) (l : List Pr) : List Pr := l.filter fun v => !(v.id == i0)
theorem restOf_next {i0 : Int} {l : List Pr} {k : Nat} {v : Pr} (h : l[k]? = some v) : restOf i0 (l.take (k + 1)) = restOf i0 (l.take k) ++ (if v.id == i0 then [] else [v]) := by
  rw [takeP h]
  unfold restOf
  rw [List.filter_append]
  cases e : v.id == i0 <;> simp [e]
theorem restOf_len (i0 : Int) (l : List Pr) : (restOf i0 l).length ≤ l.length := List.length_filter_le _ _
theorem okFrom_low : ∀ (l : List Pr) {a b : Int}, b ≤ a → okFrom a l = true → okFrom b l = true
  | [], _, _, _, _ => rfl
  | v :: l, a, b, h, h' => by
    simp only [okFrom, Bool.and_eq_true, decide_eq_true_eq] at h' ⊢
    exact ⟨⟨h'.1.1, by omega⟩, h'.2⟩
theorem okFrom_sub {m l : List Pr} (h : m.Sublist l) : ∀ {a : Int}, okFrom a l = true → okFrom a m = true := by
  induction h with
  | slnil => intro a h; exact h
  | cons v h ih =>
    intro a h'
    simp only [okFrom, Bool.and_eq_true, decide_eq_true_eq] at h'
    exact ih (okFrom_low _ (by omega) h'.2)
  | cons_cons v h ih =>
    intro a h'
    simp only [okFrom, Bool.and_eq_true, decide_eq_true_eq] at h' ⊢
    exact ⟨h'.1, ih h'.2⟩
theorem okPrs_sub {m l : List Pr} (h : m.Sublist l) (ho : okPrs l = true) : okPrs m = true := by
  unfold okPrs at *
  rw [Bool.and_eq_true] at *
  refine ⟨okFrom_sub h ho.1, ?_⟩
  have := h.length_le
  have := of_decide_eq_true ho.2
  exact decide_eq_true (by omega)
theorem ranked_rest {l R : List Pr} {a : Pr} (ho : okPrs l = true) (h : rankedV l = a :: R) : rankedV (restOf a.id l) = R := by
  have hsub : (restOf a.id l).Sublist l := List.filter_sublist
  have ho' := okPrs_sub hsub ho
  unfold rankedV at *
  rw [ho] at h
  rw [ho']
  simp only [if_true] at *
  have hid := okPrs_ids ho
  have hp := rkV_perm l
  have hs := rkV_sorted l hid
  rw [h] at hp hs
  have hidr : IdsApart (a :: R) := hid.perm hp.symm
  refine (rank_is (List.Pairwise.sublist hsub hid) (List.pairwise_cons.1 hs).2 ?_).symm
  have e : restOf a.id (a :: R) = R := by
    unfold restOf
    rw [List.filter_cons]
    simp only [beq_self_eq_true, Bool.not_true, Bool.false_eq_true, if_false]
    rw [List.filter_eq_self]
    intro v hv
    have := (List.pairwise_cons.1 hidr).1 v hv
    simp only [Bool.not_eq_true', beq_eq_false_iff_ne]
    exact fun e => this e.symm
  have := hp.filter fun v => !(v.id == a.id)
  have e2 : List.filter (fun v => !(v.id == a.id)) (a :: R) = R := e
  rw [e2] at this
  exact this
theorem ranked_some {l R : List Pr} {a : Pr} (h : rankedV l = a :: R) : okPrs l = true := by
  unfold rankedV at h
  cases e : okPrs l with
  | true => rfl
  | false => rw [e] at h; simp at h
set_option maxRecDepth 100000 in
set_option maxHeartbeats 4000000 in
theorem rt_walk (w : World) {ao an au : Addr} (L : Ld w ao an au) (x : Option Addr) (n cap z : Nat) (hz : z = n ∧ Code w.heap.size w (.slice x n cap) n) :
    Calls Tryd.prog 7 #[.slice x n cap] w fun e w' => e = .returned (.bool true) ∧ Below w.heap.size w w' := by
  obtain ⟨_, hc⟩ := hz
  by_cases hbig : n ≤ 1048576
  · obtain ⟨i0, hi, hz0, hz1, hz2⟩ := info_partsT infoPr'
    have HI0 := Lib.hid hi
    have HZ0 := Lib.hid hz0
    have HZ1 := Lib.hid hz1
    have HZ2 := Lib.hid hz2
    clear hi hz0 hz1 hz2
    go_enter Tryd.func7, Tryd.ntmps7
    go_wp2_with (go_at_call 17; go_in)
    refine (drawRanked_c x n cap _ hc hbig).mono ?_
    rintro e w1 ⟨y, cy, l, rfl, hl6, hlc, hcm, hP, hb1⟩
    obtain ⟨m, hm⟩ : ∃ m, m = l.length := ⟨_, rfl⟩
    rw [← hm] at hl6 hlc ⊢
    have HM := Lib.hid hm
    have hmm : m ≤ maxLen := by unfold maxLen; omega
    obtain ⟨A, hA⟩ : ∃ A, rankedV l = A := ⟨_, rfl⟩
    obtain ⟨q, hq⟩ : ∃ q, q = A.length := ⟨_, rfl⟩
    have hqm : q ≤ m := by have := rankedV_len l; rw [hA] at this; omega
    have hI := fun x cap w h {ao an au} L => @ranked_impl l m HM hmm x cap w h ao an au L
    have hS := fun x cap w h => ranked_spec l m HM hmm x cap w h
    rw [hA, ← hq] at hS hI
    have HA := Lib.hid hA
    have HQ := Lib.hid hq
    have HI := Lib.hid hI
    have HS := Lib.hid hS
    have HSM := Lib.hid (fun x y cap cap' w h h' => samePeers_c A q HQ (by omega) x y cap cap' w h h')
    clear hA hq hI hS hm
    go_wp2_with fail
    refine (HI.out _ _ _ hP (L.next hb1)).mono ?_
    rintro e w2 ⟨v, rfl, ho, hb2⟩
    obtain ⟨z, cz, rfl, r0⟩ := prRow_form ho HQ.out
    have R2 := r0.prs
    have hcz := r0.cap_
    rw [← HQ.out] at hcz
    clear ho r0
    have g2 := grow_next hb1 hb2
    have P2 := hP.next hb2
    clear hP
    go_wp2_with fail
    refine (HS.out _ _ _ P2).mono ?_
    rintro e w4 ⟨v, rfl, ho, hb4⟩
    obtain ⟨z4, cz4, rfl, r4⟩ := prRow_form ho HQ.out
    have R4' := r4.prs
    clear ho r4
    have g4 := grow_next g2 hb4
    have R4 := R2.next hb4
    have P4 := P2.next hb4
    clear R2 P2
    go_wp2_with fail
    refine (HSM.out _ _ _ _ _ R4 R4').mono ?_
    rintro e w5 ⟨rfl, hb5⟩
    have g5 := grow_next g4 hb5
    have R5 := R4.next hb5
    have P5 := P4.next hb5
    clear R4 R4' P4
    rcases Nat.eq_zero_or_pos q with hq0 | hq0
    · have e0 : ((q : Int) == 0) = true := by simpa using hq0
      clear hq0
      go_wp2_with fail
      refine (HS.out _ _ _ P5).mono ?_
      rintro e w7 ⟨v, rfl, ho, hb7⟩
      obtain ⟨z7, cz7, rfl, r7⟩ := prRow_form ho HQ.out
      have R7' := r7.prs
      clear ho r7
      have R7 := R5.next hb7
      have g7 := grow_next g5 hb7
      go_wp2_with fail
      refine (HSM.out _ _ _ _ _ R7 R7').mono ?_
      rintro e w8 ⟨rfl, hb8⟩
      have g8 := grow_next g7 hb8
      go_wp2_with fail
      go_returns
      exact ⟨rfl, g8⟩
    · have e0 : ((q : Int) == 0) = false := by simpa using (show q ≠ 0 by omega)
      obtain ⟨a, R, hAR⟩ : ∃ a R, A = a :: R := by
        cases hA : A with
        | nil => rw [HQ.out, hA] at hq0; simp at hq0
        | cons a R => exact ⟨a, R, rfl⟩
      have hrest := ranked_rest (ranked_some (HA.out.trans hAR)) (HA.out.trans hAR)
      have h0 : A[0]? = some a := by rw [hAR]; rfl
      have hR1 : A.drop 1 = R := by rw [hAR]; rfl
      obtain ⟨b, off, rfl, _⟩ := R5.at_ h0
      obtain ⟨d0, d1, d2, d3, d4, d5⟩ := prs_cell R5 h0
      simp only [Nat.zero_mul, Nat.add_zero] at d0
      obtain ⟨c, hcl⟩ : ∃ c, c = R.length := ⟨_, rfl⟩
      have hcq : c = q - 1 := by rw [HQ.out, hAR, hcl]; rfl
      have HAR := Lib.hid hR1
      have HREST := Lib.hid hrest
      have HCL := Lib.hid hcl
      have HCQ := Lib.hid hcq
      have h0q : (0 : Int) < (q : Int) := by omega
      clear d1 d2 d3 d4 d5 hAR hrest h0 hR1 hcl hcq
      go_wp2_with fail
      have bn : Below w5.heap.size w5 (w5.alloc (.cells #[] 40)) := below_new _ _
      go_loopw [5, 6] (fun o i wr => ∃ k : Nat, k ≤ m ∧ i = .int .i64 k ∧ (∃ p, Hid (p = (restOf a.id (l.take k)).length) ∧ p ≤ k ∧ wr.ownsRow w5.heap.size 40 6 o p (flatPr (restOf a.id (l.take k)))) ∧ Below w5.heap.size w5 wr) (fun _ i _ => m - (intOf i).toNat)
      case atStart => exact ⟨0, Nat.zero_le _, rfl, ⟨0, Lib.hid (by simp [restOf]), Nat.le_refl _, World.ownsRow_made (base := w5.heap.size) (e := 40) (size := 6) w5 #[] 0 (Nat.le_refl _) (by simp [maxLen]) rfl⟩, bn⟩
      case round =>
        obtain ⟨k, hkm, rfl, ⟨p, hp, hpk, hrow⟩, hb⟩ := hrel
        by_cases hlt : k < m
        · obtain ⟨v, hv⟩ := getP (l := l) (k := k) (by rw [← HM.out]; exact hlt)
          have Pk := P5.next hb
          obtain ⟨b1, off1, rfl, _⟩ := Pk.at_ hv
          obtain ⟨c0, c1, c2, c3, c4, c5⟩ := prs_cell Pk hv
          have hd0 : wr.cell? ⟨b, off, none⟩ = some (.int .i64 a.id) := by rw [hb.cell (block_lt_of_cell d0)]; exact d0
          have hnx := restOf_next (i0 := a.id) hv
          clear hv
          cases hva : v.id == a.id with
          | true =>
            rw [hva] at hnx
            simp only [if_true, List.append_nil] at hnx
            have HNX := Lib.hid hnx
            have hne : (v.id != a.id) = false := by simp [bne, hva]
            clear hnx hva
            go_wp2_with fail
            go_quiet (fail)
            go_wp2_with fail
            go_roundw
            case rel => exact ⟨k + 1, by omega, by go_num, ⟨p, by rw [HNX.out]; exact hp, by omega, by rw [HNX.out]; exact hrow.drew⟩, grow_drew hb _⟩
            case measure => simp [intOf]; omega
          | false =>
            rw [hva] at hnx
            simp only [Bool.false_eq_true, if_false] at hnx
            have HF := Lib.hid (show flatPr (restOf a.id (l.take (k + 1))) = flatPr (restOf a.id (l.take k)) ++ v.cells by rw [hnx, flatPr_append]; simp [flatPr])
            have HP1 : Hid (p + 1 = (restOf a.id (l.take (k + 1))).length) := Lib.hid (by rw [hnx, List.length_append, ← hp.out]; rfl)
            have hne : (v.id != a.id) = true := by simp [bne, hva]
            clear hnx hva
            go_wp2_with fail
            go_quiet (fail)
            have B1 : Below w5.heap.size w5 (wr.drewN nq) := grow_drew hb _
            have hrow1 : (wr.drewN nq).ownsRow w5.heap.size 40 6 u5 p (flatPr (restOf a.id (l.take k))) := hrow.drew
            have X : (wr.drewN nq).cell? ⟨b1, off1 + k * 6, none⟩ = some (.int .i64 v.id) ∧ (wr.drewN nq).cell? ⟨b1, off1 + k * 6 + 1, none⟩ = some (.int .i64 v.str) ∧ (wr.drewN nq).cell? ⟨b1, off1 + k * 6 + 2, none⟩ = some (.int .i64 v.s.off) ∧ (wr.drewN nq).cell? ⟨b1, off1 + k * 6 + 3, none⟩ = some (.int .i64 v.s.delay) ∧ (wr.drewN nq).cell? ⟨b1, off1 + k * 6 + 4, none⟩ = some (.int .i64 v.s.disp) ∧ (wr.drewN nq).cell? ⟨b1, off1 + k * 6 + 5, none⟩ = some (.int .i64 v.s.at_) := ⟨c0, c1, c2, c3, c4, c5⟩
            generalize wr.drewN nq = W1 at *
            obtain ⟨x0, x1, x2, x3, x4, x5⟩ := X
            have hs1 := B1.size
            clear c0 c1 c2 c3 c4 c5 hrow hb Pk hd0
            go_wp2_with (at_builtin; refine wpList_append_own _ rfl _ _ 24 rfl w5.heap.size 40 i0 (.agg #[.int .i64 0, .int .i64 0, .int .i64 0, .int .i64 0, .int .i64 0, .int .i64 0]) 6 48 Tryd.underlying24 HI0.out HZ0.out HZ1.out HZ2.out rfl (by decide) _ _ _ rfl (hrow1.alloc _) ⟨W1.heap.size, 0, none⟩ 1 1 v.cells rfl rfl (cell_six_new W1 v _) (by simp [Pr.cells, Value.oneCell']) (by unfold maxLen; omega) (by omega) (by simp; omega) ?_; intro v' w6 hown' hgrow _)
            have B9 : Below w5.heap.size w5 w6 := (B1.alloc B1.size (.cells #[.int .i64 v.id, .int .i64 v.str, .int .i64 v.s.off, .int .i64 v.s.delay, .int .i64 v.s.disp, .int .i64 v.s.at_] 40)).grown hgrow (by simp; omega) (fun g hg => (hrow1.lt g hg).1)
            go_roundw
            case rel => exact ⟨k + 1, by omega, by go_num, ⟨p + 1, HP1, by omega, by rw [HF.out]; exact hown'⟩, B9⟩
            case measure => simp [intOf]; omega
        · have e : k = m := by omega
          have e1 : l.take k = l := by rw [e, HM.out, List.take_length]
          rw [e1] at hrow hp
          obtain ⟨yr, cr, rfl, hpr⟩ := prRow_form hrow hp.out
          have HPR := Lib.hid hpr.prs
          have gb := grow_next g5 hb
          have hlen : p ≤ maxLen := by unfold maxLen; omega
          have hIr := fun w h {ao an au} L => @ranked_impl (restOf a.id l) p hp hlen yr cr w h ao an au L
          rw [HREST.out, ← HCL.out] at hIr
          have HIR := Lib.hid hIr
          have Rk := R5.next hb
          have hA' := prs_drop Rk 1
          rw [HAR.out] at hA'
          have HA' := Lib.hid hA'
          have HSM2 := Lib.hid (fun x y cap cap' w h h' => samePeers_c R c HCL (by have := HCQ.out; omega) x y cap cap' w h h')
          have hq1 : 1 ≤ q := hq0
          have hcc := HCQ.out
          subst hcc
          have bd : Below wr.heap.size wr wr.drew := below_drewR (Below.refl _ _)
          have HPD := Lib.hid (HPR.out.next bd)
          have HAD := Lib.hid (HA'.out.next bd)
          have LD := L.next (grow_next gb bd)
          have gd := grow_next gb bd
          have HN : Hid (cz = 1 → R = []) := Lib.hid (fun h => List.eq_nil_of_length_eq_zero (by have := HCL.out; omega))
          clear hrow hpr hIr hA' e1 e HPR HA'
          by_cases hc1 : cz = 1
          · have hR0 := HN.out hc1
            have HZP := Lib.hid (fun B W x => show Prs B W x R by rw [hR0]; exact RowsAt.none_)
            clear hR0
            go_wp2_with fail
            go_region_with (first
              | (go_at_call 11; (with_reducible refine (HIR.out _ HPD.out LD).mono ?_); rintro e w7 ⟨v7, rfl, ho7, hb7⟩; obtain ⟨yr7, cr7, rfl, rr7⟩ := prRow_form ho7 HCL.out; have R7 := rr7.prs; have g7 := grow_next gd hb7)
              | (go_at_call 20; (with_reducible refine (HSM2.out _ _ _ _ _ R7 (HZP.out _ _ _)).mono ?_); rintro e w8 ⟨rfl, hb8⟩; have g8 := grow_next g7 hb8))
            all_goals
              go_wp2_with fail
              go_returns
              exact ⟨rfl, g8⟩
          · go_wp2_with fail
            go_region_with (first
              | (go_at_call 11; (with_reducible refine (HIR.out _ HPD.out LD).mono ?_); rintro e w7 ⟨v7, rfl, ho7, hb7⟩; obtain ⟨yr7, cr7, rfl, rr7⟩ := prRow_form ho7 HCL.out; have R7 := rr7.prs; have A7 := HAD.out.next hb7; have g7 := grow_next gd hb7)
              | (go_at_call 20; (with_reducible refine (HSM2.out _ _ _ _ _ R7 A7).mono ?_); rintro e w8 ⟨rfl, hb8⟩; have g8 := grow_next g7 hb8))
            all_goals
              go_wp2_with fail
              go_returns
              exact ⟨rfl, g8⟩
  · go_enter Tryd.func7, Tryd.ntmps7
    go_wp2_with (go_at_call 17; go_in)
    go_returns
    exact ⟨rfl, Below.refl _ _⟩
theorem rt_met (os : Os) (args : Array Value) : laidMetH Tryd.prog Rows.fnRankedTwiceRow.laid ((World.doorLaid Tryd.prog 400 os).forCall (fun _ _ => 0) ⟨#[], args, []⟩).memory :=
  laidMetH_of_parts3 (fuel := 8) (laidMet_of_run' 8 (by kernel_rfl) (by kernel_rfl)) (by kernel_rfl) (by kernel_rfl)
set_option maxRecDepth 100000 in
theorem rt_lifted (os : Os) (started : os.Started) (H : Type) (enc : TypeId × Value → H) :
    ReturnsInHanded {} Tryd.checked os 7 .any (fun w args => (Rows.fnRankedTwiceSpec.pre enc Tryd.prog Tryd.f7 [] false w args ∧ laidMetH Tryd.prog Rows.fnRankedTwiceRow.laid w) ∧ sizedMet enc Tryd.prog Tryd.f7 (OpenSpec.ofChange Rows.fnRankedTwiceSpec) false w args) (Rows.fnRankedTwiceSpec.post enc Tryd.prog Tryd.f7 false true false false) := by
  refine lifted_of_walk_laid (C := Tryd.checked) own started (by as_aux_lemma => kernel_rfl) Tryd.func7
    (ChangeSpec.witness_shaped (enc := enc) (C := Tryd.checked) (os := os) (X := fun w _ => laidMetH Tryd.prog Rows.fnRankedTwiceRow.laid w) false (World.doorLaid Tryd.prog 400 os) #[.slice none 0 0] 8 rfl (World.shaped_of_RefB (by kernel_rfl) (by kernel_rfl)) (by kernel_rfl) (by kernel_rfl) (by kernel_rfl) (rt_met os _))
    laidOut (by as_aux_lemma => kernel_rfl) (by as_aux_lemma => kernel_rfl) rfl boolType
    (fun ds gs h hg => by
      match ds, gs, h, hg with
      | [_], [_, _, _], _, _ => rfl)
    ?_
  intro W base args ds q hval hA hL
  have laidRow : Rows.fnRankedTwiceRow.laid = Rows.fnRankedTwiceRow.laid := rfl
  obtain ⟨ao, an, au, L⟩ := ld_of hL (by simp [Rows.fnRankedTwiceRow, handleD, sentD, Rows.laid_errors_errorType, Rows.laid_loop_example_g00656_impl_errNoTime, Rows.laid_loop_example_g00656_impl_errOutside, Rows.laid_loop_example_g00656_impl_errUnsure]) (by simp [Rows.fnRankedTwiceRow, handleD, sentD, Rows.laid_errors_errorType, Rows.laid_loop_example_g00656_impl_errNoTime, Rows.laid_loop_example_g00656_impl_errOutside, Rows.laid_loop_example_g00656_impl_errUnsure]) (by simp [Rows.fnRankedTwiceRow, handleD, sentD, Rows.laid_errors_errorType, Rows.laid_loop_example_g00656_impl_errNoTime, Rows.laid_loop_example_g00656_impl_errOutside, Rows.laid_loop_example_g00656_impl_errUnsure]) (by simp [Rows.fnRankedTwiceRow, handleD, sentD, Rows.laid_errors_errorType, Rows.laid_loop_example_g00656_impl_errNoTime, Rows.laid_loop_example_g00656_impl_errOutside, Rows.laid_loop_example_g00656_impl_errUnsure])
  clear hL
  rw [Tryd.params7] at hA hval
  obtain ⟨v0, vs0, d0, ds0, p0, q0, hargs, rfl, rfl, h0, r0⟩ := trodAll_cons hA
  obtain ⟨rfl, rfl, rfl⟩ := trodAll_nil r0
  obtain rfl : args = #[v0] := by cases args; simp_all
  obtain ⟨a0, len0, cap0, z0, rfl, w0⟩ := open_bytes Tryd.underlying32 Tryd.underlying5 (by as_aux_lemma => kernel_rfl) (hval 0 32 v0 rfl rfl) h0
  exact rt_walk W L a0 len0 cap0 z0 w0

set_option maxHeartbeats 4000000 in
theorem rt_facts : joinedFacts Tryd.pinned.checked.prog 7 Tryd.f7 Rows.fnRankedTwiceSpec Rows.fnRankedTwiceRow = true :=
  facts_of (P := Tryd.prog) (by as_aux_lemma => kernel_rfl) laidOut mapsRow (by as_aux_lemma => kernel_rfl) (by as_aux_lemma => kernel_rfl) rfl noStops rfl noKnobs (by as_aux_lemma => kernel_rfl) (by as_aux_lemma => kernel_rfl) (by as_aux_lemma => kernel_rfl) (by as_aux_lemma => kernel_rfl) (by as_aux_lemma => kernel_rfl) (by as_aux_lemma => kernel_rfl) (by as_aux_lemma => kernel_rfl) (by as_aux_lemma => kernel_rfl) (by as_aux_lemma => kernel_rfl) (by as_aux_lemma => kernel_rfl) (by as_aux_lemma => kernel_rfl) (by as_aux_lemma => kernel_rfl) (by as_aux_lemma => kernel_rfl) keysPlain rfl heard enters finals isMake rfl rfl rfl (by as_aux_lemma => kernel_rfl) (by as_aux_lemma => kernel_rfl)

theorem rt_row : Rows.FnRankedTwiceSaid :=
  OpenClaim.holds_of_wide 7 Tryd.f7 rfl rfl rfl rfl rfl rfl rfl ⟨rfl, rfl, rfl, rfl, rfl⟩ rfl rfl rfl rfl rfl (by as_aux_lemma => kernel_rfl) Tryd.func7 rt_facts
    (of_decide_eq_true (by as_aux_lemma => kernel_rfl)) (by unfold Func.isWrapper; first | (rw [if_pos (by decide +kernel)]; kernel_rfl) | (rw [if_neg (by decide +kernel)]; exact ⟨rfl, rfl⟩))
    (fun os started H enc _ => rt_lifted os started H enc)

/-- The given statement. -/
theorem rt_holds : Rows.FnRankedTwiceCardSaid :=
  Claim7.holds_tied_plain_at .later [] Rows.fnRankedTwiceCard.laidKinds true Rows.fnRankedTwiceCard.stood.harness true
    rt_row (fun _ h => by cases h) (by kernel_rfl) (fun _ h => by cases h) fnRankedTwice_row_tie rfl ⟨rfl, rfl⟩ (by kernel_rfl) rfl
    (fun f fn hf hfn => by
      obtain rfl : f = 7 := Option.some.inj ((show Tryd.prog.funcNamed "loop.example/g00656/laws.FnRankedTwice" = some 7 by kernel_rfl).symm.trans hf) |>.symm
      obtain rfl : fn = Tryd.f7 := (Option.some.inj (Tryd.func7.symm.trans hfn)).symm
      exact ⟨by kernel_rfl, fun j t ht => noStandIn (by rw [Tryd.params7]; kernel_rfl) j t ht⟩)
    (by kernel_rfl)
#print axioms rt_holds
end Go.Proofs.YtfcmcelhndppnaaDoor
