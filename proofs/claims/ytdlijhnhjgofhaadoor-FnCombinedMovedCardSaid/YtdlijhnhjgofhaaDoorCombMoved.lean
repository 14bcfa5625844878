/- When all offsets are more by as much what is put together is more by as much: at all drawn peers. -/
import Derived.Test.YtdlijhnhjgofhaaDoorPeersDraw
import Derived.Test.YtdlijhnhjgofhaaDoorCombBt
import Derived.Test.YtdlijhnhjgofhaaDoorTie
import Derived.Test.YtdlijhnhjgofhaaDoorCards
namespace Go.Proofs.YtdlijhnhjgofhaaDoor
open Go.ChangeShapes Go.WideShapes Go.ChangeAt Go.RowKit
set_option linter.unusedVariables false
set_option linter.unusedSimpArgs false

set_option maxRecDepth 100000 in
set_option maxHeartbeats 4000000 in
theorem cm_walk (w : World) {ao an au : Addr} (L : Ld w ao an au) (x : Option Addr) (n cap z : Nat) (hz : z = n ∧ Code w.heap.size w (.slice x n cap) n) :
    Calls Tryd.prog 4 #[.slice x n cap] w fun e w' => e = .returned (.bool true) ∧ Below w.heap.size w w' := by
  obtain ⟨_, hc⟩ := hz
  by_cases hbig : n ≤ 1048576
  · obtain ⟨i0, hi, hz0, hz1, hz2⟩ := info_partsT infoPr'
    have HI0 := Lib.hid hi
    have HZ0 := Lib.hid hz0
    have HZ1 := Lib.hid hz1
    have HZ2 := Lib.hid hz2
    clear hi hz0 hz1 hz2
    go_enter Tryd.func4, Tryd.ntmps4
    go_wp2_with (go_at_call 11; go_in)
    refine (drawCombined_c x n cap _ hc hbig).mono ?_
    rintro e w1 ⟨y, cy, l, rfl, hl6, hlc, hcm, hP, hb1⟩
    obtain ⟨m, hm⟩ : ∃ m, m = l.length := ⟨_, rfl⟩
    rw [← hm] at hl6 hlc ⊢
    have HM := Lib.hid hm
    have hmm : m ≤ maxLen := by unfold maxLen; omega
    have hI := fun x cap w h {ao an au} L => @comb_impl l m HM hmm x cap w h ao an au L
    have hS := fun x cap w h => comb_spec l m HM hmm x cap w h
    obtain ⟨v, hv⟩ : ∃ v, combA l = v := ⟨_, rfl⟩
    obtain ⟨ok, hk⟩ : ∃ k, combOk l = k := ⟨_, rfl⟩
    rw [hv, hk] at hS hI
    have HV := Lib.hid hv
    have HK := Lib.hid hk
    have HI := Lib.hid hI
    have HS := Lib.hid hS
    clear hv hk hI hS hm
    go_wp2_with fail
    refine (HI.out _ _ _ hP (L.next hb1)).mono ?_
    rintro e w2 ⟨rfl, hb2⟩
    have g2 := grow_next hb1 hb2
    have P2 := hP.next hb2
    go_wp2_with fail
    refine (HS.out _ _ _ P2).mono ?_
    rintro e w3 ⟨rfl, hb3⟩
    have g3 := grow_next g2 hb3
    have P3 := P2.next hb3
    clear P2 hP
    cases ok with
    | false =>
      go_wp2_with fail
      go_returns
      exact ⟨rfl, g3⟩
    | true =>
      obtain ⟨ho, hpos⟩ := combOk_parts HK.out
      have hA := (okPrs_all ho).1
      rw [← HM.out] at hpos
      obtain ⟨u, hu⟩ := getP (l := l) (k := 0) (by rw [← HM.out]; exact hpos)
      obtain ⟨b, off, rfl, _⟩ := P3.at_ hu
      have n0 : 0 ≤ (n : Int) % 1000 := Int.emod_nonneg _ (by omega)
      have n1 : (n : Int) % 1000 < 1000 := Int.emod_lt_of_pos _ (by omega)
      obtain ⟨d, hd⟩ : ∃ d, d = (n : Int) % 1000 := ⟨_, rfl⟩
      have ht : Int.tmod (n : Int) 1000 = d := by rw [hd]; exact (Int.tmod_eq_emod_of_nonneg (by omega))
      rw [← hd] at n0 n1
      clear hu hd
      have B4 : Below w.heap.size w (w3.alloc (.cells #[] 31)) := g3.alloc g3.size _
      have P4 := P3.next (below_new w3 (.cells #[] 31))
      have hs3 : w3.heap.size < (w3.alloc (.cells #[] 31)).heap.size := by simp
      have hs0 := g3.size
      go_wp2_with fail
      go_loopw [9, 10] (fun o i wr => ∃ k : Nat, k ≤ m ∧ i = .int .i64 k ∧ wr.ownsRow w3.heap.size 31 6 o k (flatPr ((l.take k).map (Pr.move d))) ∧ Below w3.heap.size w3 wr) (fun _ i _ => m - (intOf i).toNat)
      case atStart => exact ⟨0, Nat.zero_le _, rfl, World.ownsRow_made (base := w3.heap.size) (e := 31) (size := 6) w3 #[] 0 (Nat.le_refl _) (by simp [maxLen]) rfl, below_new _ _⟩
      case round =>
        obtain ⟨k, hkm, rfl, hrow, hb⟩ := hrel
        by_cases hlt : k < m
        · obtain ⟨t, ht'⟩ := getP (l := l) (k := k) (by rw [← HM.out]; exact hlt)
          obtain ⟨c0, c1, c2, c3, c4, c5⟩ := prs_cell (P3.next hb) ht'
          have hto := offs_in (hA.at_ ht')
          have hw : IntKind.i64.wrap (t.s.off + d) = t.s.off + d := IntWalk.i64_in _ (by omega)
          have HF := Lib.hid (show flatPr ((l.take (k + 1)).map (Pr.move d)) = flatPr ((l.take k).map (Pr.move d)) ++ (Pr.move d t).cells by rw [takeP ht', List.map_append, flatPr_append]; simp [flatPr])
          have hsw := hb.size
          have HO2 := Lib.hid (World.ownsRow.alloc hrow (.cells #[.int .i64 ((Pr.move d t)).id, .int .i64 ((Pr.move d t)).str, .int .i64 ((Pr.move d t)).s.off, .int .i64 ((Pr.move d t)).s.delay, .int .i64 ((Pr.move d t)).s.disp, .int .i64 ((Pr.move d t)).s.at_] 31))
          have B5 : Below w3.heap.size w3 (wr.alloc (.cells #[.int .i64 ((Pr.move d t)).id, .int .i64 ((Pr.move d t)).str, .int .i64 ((Pr.move d t)).s.off, .int .i64 ((Pr.move d t)).s.delay, .int .i64 ((Pr.move d t)).s.disp, .int .i64 ((Pr.move d t)).s.at_] 31)) := hb.alloc hsw _
          have HN5 := Lib.hid (show ∀ j z, (Pr.move d t).cells[j]? = some z → ((wr.alloc (.cells #[.int .i64 ((Pr.move d t)).id, .int .i64 ((Pr.move d t)).str, .int .i64 ((Pr.move d t)).s.off, .int .i64 ((Pr.move d t)).s.delay, .int .i64 ((Pr.move d t)).s.disp, .int .i64 ((Pr.move d t)).s.at_] 31)).alloc (.cells #[.int .i64 ((Pr.move d t)).id, .int .i64 ((Pr.move d t)).str, .int .i64 ((Pr.move d t)).s.off, .int .i64 ((Pr.move d t)).s.delay, .int .i64 ((Pr.move d t)).s.disp, .int .i64 ((Pr.move d t)).s.at_] 31)).cell? ((⟨wr.heap.size + 1, 0, none⟩ : Addr).add j) = some z by
            have := cell_six_new (wr.alloc (.cells #[.int .i64 ((Pr.move d t)).id, .int .i64 ((Pr.move d t)).str, .int .i64 ((Pr.move d t)).s.off, .int .i64 ((Pr.move d t)).s.delay, .int .i64 ((Pr.move d t)).s.disp, .int .i64 ((Pr.move d t)).s.at_] 31)) (Pr.move d t) 31
            rw [World.size_alloc] at this
            exact this)
          clear ht' hto hrow
          go_wp2_with (at_builtin; go_loud (refine wpList_append_own _ rfl _ _ 24 rfl w3.heap.size 31 i0 (.agg #[.int .i64 0, .int .i64 0, .int .i64 0, .int .i64 0, .int .i64 0, .int .i64 0]) 6 48 Tryd.underlying24 HI0.out HZ0.out HZ1.out HZ2.out rfl (by decide) _ _ _ rfl (HO2.out.alloc _) ⟨wr.heap.size + 1, 0, none⟩ 1 1 (Pr.move d t).cells rfl rfl HN5.out (by simp [Pr.cells, Value.oneCell']) (by unfold maxLen; omega) (by omega) (by simp; omega) ?_); intro v' w4 hown' hgrow _)
          have B9 : Below w3.heap.size w3 w4 := (B5.alloc B5.size (.cells #[.int .i64 ((Pr.move d t)).id, .int .i64 ((Pr.move d t)).str, .int .i64 ((Pr.move d t)).s.off, .int .i64 ((Pr.move d t)).s.delay, .int .i64 ((Pr.move d t)).s.disp, .int .i64 ((Pr.move d t)).s.at_] 31)).grown hgrow (by simp; omega) (fun g hg => (HO2.out.lt g hg).1)
          go_roundw
          case rel => exact ⟨k + 1, by omega, by go_num, by rw [HF.out]; exact hown', B9⟩
          case measure => simp [intOf]; omega
        · have e : k = m := by omega
          have e1 : l.take k = l := by rw [e, HM.out, List.take_length]
          rw [e1] at hrow
          have HML : Hid (k = (l.map (Pr.move d)).length) := Lib.hid (by rw [List.length_map, e]; exact HM.out)
          obtain ⟨ym, cm, rfl, hpr⟩ := prRow_form hrow HML.out
          have hIm := fun x cap w h {ao an au} L => @comb_impl (l.map (Pr.move d)) k HML (by unfold maxLen; omega) x cap w h ao an au L
          have gb := g3.trans (hb.mono hs0)
          have HMV : Hid (combOk (l.map (Pr.move d)) = true → combA (l.map (Pr.move d)) = v + d) := Lib.hid (fun hm => by
            rw [combA_yes hm, combV_move hA (by rw [← HM.out]; exact hpos), ← combA_yes HK.out, HV.out])
          have hvin := combA_in HK.out
          rw [HV.out] at hvin
          have hwv : IntKind.i64.wrap (v + d) = v + d := IntWalk.i64_in _ (by omega)
          obtain ⟨v2, hv2⟩ : ∃ v, combA (l.map (Pr.move d)) = v := ⟨_, rfl⟩
          obtain ⟨ok2, hk2⟩ : ∃ k, combOk (l.map (Pr.move d)) = k := ⟨_, rfl⟩
          rw [hv2, hk2] at hIm
          rw [hv2, hk2] at HMV
          have HIM := Lib.hid hIm
          have HPR := Lib.hid hpr.prs
          clear hrow hpr hIm hv2 hk2 e1 e
          go_wp2_with fail
          refine (HIM.out _ _ _ HPR.out (L.next gb)).mono ?_
          rintro e w5 ⟨rfl, hb5⟩
          have g5 := grow_next gb hb5
          cases ok2 with
          | false =>
            go_wp2_with fail
            go_returns
            exact ⟨rfl, g5⟩
          | true =>
            have hvv := HMV.out rfl
            subst hvv
            go_wp2_with fail
            go_returns
            exact ⟨rfl, g5⟩
  · go_enter Tryd.func4, Tryd.ntmps4
    go_wp2_with (go_at_call 11; go_in)
    go_returns
    exact ⟨rfl, Below.refl _ _⟩
theorem cm_met (os : Os) (args : Array Value) : laidMetH Tryd.prog Rows.fnCombinedMovedRow.laid ((World.doorLaid Tryd.prog 400 os).forCall (fun _ _ => 0) ⟨#[], args, []⟩).memory :=
  laidMetH_of_parts3 (fuel := 8) (laidMet_of_run' 8 (by kernel_rfl) (by kernel_rfl)) (by kernel_rfl) (by kernel_rfl)
set_option maxRecDepth 100000 in
theorem cm_lifted (os : Os) (started : os.Started) (H : Type) (enc : TypeId × Value → H) :
    ReturnsInHanded {} Tryd.checked os 4 .any (fun w args => (Rows.fnCombinedMovedSpec.pre enc Tryd.prog Tryd.f4 [] false w args ∧ laidMetH Tryd.prog Rows.fnCombinedMovedRow.laid w) ∧ sizedMet enc Tryd.prog Tryd.f4 (OpenSpec.ofChange Rows.fnCombinedMovedSpec) false w args) (Rows.fnCombinedMovedSpec.post enc Tryd.prog Tryd.f4 false true false false) := by
  refine lifted_of_walk_laid (C := Tryd.checked) own started (by as_aux_lemma => kernel_rfl) Tryd.func4
    (ChangeSpec.witness_shaped (enc := enc) (C := Tryd.checked) (os := os) (X := fun w _ => laidMetH Tryd.prog Rows.fnCombinedMovedRow.laid w) false (World.doorLaid Tryd.prog 400 os) #[.slice none 0 0] 8 rfl (World.shaped_of_RefB (by kernel_rfl) (by kernel_rfl)) (by kernel_rfl) (by kernel_rfl) (by kernel_rfl) (cm_met os _))
    laidOut (by as_aux_lemma => kernel_rfl) (by as_aux_lemma => kernel_rfl) rfl boolType
    (fun ds gs h hg => by
      match ds, gs, h, hg with
      | [_], [_, _, _], _, _ => rfl)
    ?_
  intro W base args ds q hval hA hL
  have laidRow : Rows.fnCombinedMovedRow.laid = Rows.fnCombinedMovedRow.laid := rfl
  obtain ⟨ao, an, au, L⟩ := ld_of hL (by simp [Rows.fnCombinedMovedRow, handleD, sentD, Rows.laid_errors_errorType, Rows.laid_loop_example_g00656_impl_errNoTime, Rows.laid_loop_example_g00656_impl_errOutside, Rows.laid_loop_example_g00656_impl_errUnsure]) (by simp [Rows.fnCombinedMovedRow, handleD, sentD, Rows.laid_errors_errorType, Rows.laid_loop_example_g00656_impl_errNoTime, Rows.laid_loop_example_g00656_impl_errOutside, Rows.laid_loop_example_g00656_impl_errUnsure]) (by simp [Rows.fnCombinedMovedRow, handleD, sentD, Rows.laid_errors_errorType, Rows.laid_loop_example_g00656_impl_errNoTime, Rows.laid_loop_example_g00656_impl_errOutside, Rows.laid_loop_example_g00656_impl_errUnsure]) (by simp [Rows.fnCombinedMovedRow, handleD, sentD, Rows.laid_errors_errorType, Rows.laid_loop_example_g00656_impl_errNoTime, Rows.laid_loop_example_g00656_impl_errOutside, Rows.laid_loop_example_g00656_impl_errUnsure])
  clear hL
  rw [Tryd.params4] at hA hval
  obtain ⟨v0, vs0, d0, ds0, p0, q0, hargs, rfl, rfl, h0, r0⟩ := trodAll_cons hA
  obtain ⟨rfl, rfl, rfl⟩ := trodAll_nil r0
  obtain rfl : args = #[v0] := by cases args; simp_all
  obtain ⟨a0, len0, cap0, z0, rfl, w0⟩ := open_bytes Tryd.underlying22 Tryd.underlying5 (by as_aux_lemma => kernel_rfl) (hval 0 22 v0 rfl rfl) h0
  exact cm_walk W L a0 len0 cap0 z0 w0

theorem cm_facts : joinedFacts Tryd.pinned.checked.prog 4 Tryd.f4 Rows.fnCombinedMovedSpec Rows.fnCombinedMovedRow = true :=
  facts_of (P := Tryd.prog) (by as_aux_lemma => kernel_rfl) laidOut mapsRow (by as_aux_lemma => kernel_rfl) (by as_aux_lemma => kernel_rfl) rfl noStops rfl noKnobs (by as_aux_lemma => kernel_rfl) (by as_aux_lemma => kernel_rfl) (by as_aux_lemma => kernel_rfl) (by as_aux_lemma => kernel_rfl) (by as_aux_lemma => kernel_rfl) (by as_aux_lemma => kernel_rfl) (by as_aux_lemma => kernel_rfl) (by as_aux_lemma => kernel_rfl) (by as_aux_lemma => kernel_rfl) (by as_aux_lemma => kernel_rfl) (by as_aux_lemma => kernel_rfl) (by as_aux_lemma => kernel_rfl) (by as_aux_lemma => kernel_rfl) keysPlain rfl heard enters finals isMake rfl rfl rfl (by as_aux_lemma => kernel_rfl) (by as_aux_lemma => kernel_rfl)

theorem cm_row : Rows.FnCombinedMovedSaid :=
  OpenClaim.holds_of_wide 4 Tryd.f4 rfl rfl rfl rfl rfl rfl rfl ⟨rfl, rfl, rfl, rfl, rfl⟩ rfl rfl rfl rfl rfl (by as_aux_lemma => kernel_rfl) Tryd.func4 cm_facts
    (of_decide_eq_true (by as_aux_lemma => kernel_rfl)) (by unfold Func.isWrapper; first | (rw [if_pos (by decide +kernel)]; kernel_rfl) | (rw [if_neg (by decide +kernel)]; exact ⟨rfl, rfl⟩))
    (fun os started H enc _ => cm_lifted os started H enc)

/-- The given statement. -/
theorem cm_holds : Rows.FnCombinedMovedCardSaid :=
  Claim7.holds_tied_plain_at .later [] Rows.fnCombinedMovedCard.laidKinds true Rows.fnCombinedMovedCard.stood.harness true
    cm_row (fun _ h => by cases h) (by kernel_rfl) (fun _ h => by cases h) fnCombinedMoved_row_tie rfl ⟨rfl, rfl⟩ (by kernel_rfl) rfl
    (fun f fn hf hfn => by
      obtain rfl : f = 4 := Option.some.inj ((show Tryd.prog.funcNamed "loop.example/g00656/laws.FnCombinedMoved" = some 4 by kernel_rfl).symm.trans hf) |>.symm
      obtain rfl : fn = Tryd.f4 := (Option.some.inj (Tryd.func4.symm.trans hfn)).symm
      exact ⟨by kernel_rfl, fun j t ht => noStandIn (by rw [Tryd.params4]; kernel_rfl) j t ht⟩)
    (by kernel_rfl)
#print axioms cm_holds
end Go.Proofs.YtdlijhnhjgofhaaDoor
