/- What is no spike stays none when it is nearer: at all drawn filters and samples. -/
import Derived.Test.YtmekjnnfnlkhiaaDoorFilDraws
import Derived.Test.YtmekjnnfnlkhiaaDoorFilOthS
import Derived.Test.YtmekjnnfnlkhiaaDoorTie
import Derived.Test.YtmekjnnfnlkhiaaDoorCards
namespace Go.Proofs.YtmekjnnfnlkhiaaDoor
open Go.ChangeShapes Go.WideShapes Go.ChangeAt Go.RowKit
set_option linter.unusedVariables false
set_option linter.unusedSimpArgs false

theorem drawPopcorn_c (x : Option Addr) (n cap : Nat) (w : World) (hc : Code w.heap.size w (.slice x n cap) n) (hn : n ≤ 1048576) : Calls Tryd.prog 26 #[.slice x n cap] w (AnySmsS w) := by
  have b0 : Below w.heap.size w (w.alloc (.cells #[.int .i64 0, .int .i64 0, .int .i64 0, .int .i64 0] 26)) := below_new _ _
  have R0 := blk_new w (.cells #[.int .i64 0, .int .i64 0, .int .i64 0, .int .i64 0] 26)
  have HD := Lib.hid (drawFilterAdd_c x n cap _ (hc.next b0) hn)
  go_enter Tryd.func26, Tryd.ntmps26
  go_wp2_with fail
  refine HD.out.mono ?_
  rintro e w1 ⟨g, off, c, m, l, s, rfl, hm, hm8, hmc, hcm, hgw, hS, hb1⟩
  rw [World.size_alloc] at hgw
  have HM := Lib.hid hm
  clear hm
  have b1 := grow_next b0 hb1
  have R1 := blk_next hb1 R0
  obtain ⟨r0, r1, r2, r3⟩ := sample_cells (q := ⟨0, 0, 0, 0⟩) R1
  obtain ⟨f0, f1, f2, f3⟩ := sample_thaw (q := ⟨0, 0, 0, 0⟩) R1
  obtain ⟨x0, x1, x2, x3⟩ := sample_cells (sample_put (q := ⟨0, 0, 0, 0⟩) R1 s)
  have G := below_put (below_put (below_put (below_put b1 (b := w.heap.size) (Nat.le_refl _) 0 (.int .i64 s.off)) (b := w.heap.size) (Nat.le_refl _) 1 (.int .i64 s.delay)) (b := w.heap.size) (Nat.le_refl _) 2 (.int .i64 s.disp)) (b := w.heap.size) (Nat.le_refl _) 3 (.int .i64 s.at_)
  have S5 := hS.keepG (grown_set (grown_set (grown_set (grown_set (World.grownBy.refl w1 (some w.heap.size)) 0 (.int .i64 s.off)) 1 (.int .i64 s.delay)) 2 (.int .i64 s.disp)) 3 (.int .i64 s.at_)) (fun e => by simp only [Option.some.injEq] at e; omega)
  go_wp2_with fail
  try simp only [Exit.inBlock, Exit.then]
  refine bodyPost_ret (by simp [results, Tryd.results26, go_sem, x0, x1, x2, x3, r0, r1, r2, r3]; try rfl) rfl ?_
  exact ⟨g, off, c, m, l, s, rfl, HM.out, hm8, hmc, hcm, by omega, S5, G⟩
theorem near_half {a b : Int} : awayV (b + Int.tdiv (a - b) 2) b ≤ awayV a b := by
  rw [tdiv_two]
  unfold awayV
  split <;> omega
theorem pop_nearer {l : List Sm} {s : Sm} (h : popV l s = false) (ho : okSms l = true) (hs : s.ok = true) (t : Sm) (ht : awayV t.off (bestV l).off ≤ awayV s.off (bestV l).off) : popV l t = false := by
  unfold popV at *
  rw [ho, hs] at h
  rw [ho]
  by_cases h2 : 2 ≤ l.length
  · rw [decide_eq_true h2] at h
    simp only [Bool.true_and, Bool.and_true, decide_eq_false_iff_not] at h
    have e : decide (3 * max (jitV l) 1 < awayV t.off (bestV l).off) = false := decide_eq_false (by omega)
    rw [e, Bool.and_false]
  · rw [decide_eq_false h2]; simp
set_option maxRecDepth 100000 in
set_option maxHeartbeats 4000000 in
theorem sn_walk (w : World) {ao an au : Addr} (L : Ld w ao an au) (x : Option Addr) (n cap z : Nat) (hz : z = n ∧ Code w.heap.size w (.slice x n cap) n) :
    Calls Tryd.prog 7 #[.slice x n cap] w fun e w' => e = .returned (.bool true) ∧ Below w.heap.size w w' := by
  obtain ⟨_, hc⟩ := hz
  by_cases hbig : n ≤ 1048576
  · go_enter Tryd.func7, Tryd.ntmps7
    go_wp2_with (go_at_call 13; go_in)
    refine (drawPopcorn_c x n cap _ hc hbig).mono ?_
    rintro e w1 ⟨g, off, c, m, l, s, rfl, hm, hm8, hmc, hcm, _, hS1, hb1⟩
    have hgw1 : g < w1.heap.size ∨ l = [] := by
      rcases hS1 with h | ⟨b, o, e, hlt, _⟩
      · exact .inr h
      · simp only [Option.some.injEq, Addr.mk.injEq] at e
        obtain ⟨rfl, _, _⟩ := e
        exact .inl hlt
    have HM : Hid (m = l.length) := Lib.hid hm
    have hmm : m ≤ maxLen := by unfold maxLen; omega
    have b1 := hb1.alloc hb1.size (.cells #[.int .i64 s.off, .int .i64 s.delay, .int .i64 s.disp, .int .i64 s.at_] 26)
    have Q1 := blk_new w1 (.cells #[.int .i64 s.off, .int .i64 s.delay, .int .i64 s.disp, .int .i64 s.at_] 26)
    have S1 := hS1.next (below_new w1 (.cells #[.int .i64 s.off, .int .i64 s.delay, .int .i64 s.disp, .int .i64 s.at_] 26))
    have hI := fun s W h {ao an au} L => @popcorn_impl l s m HM hmm (some ⟨g, off, none⟩) c W h ao an au L
    have hP := fun s W h => popcorn_spec l m HM hmm (some ⟨g, off, none⟩) c W h s
    have hF := fun W h => filterOk_spec l m HM hmm (some ⟨g, off, none⟩) c W h
    have hB := fun W h {ao an au} L => @bestOf_impl l m HM hmm (some ⟨g, off, none⟩) c W h ao an au L
    obtain ⟨v, hv⟩ : ∃ v, popV l s = v := ⟨_, rfl⟩
    obtain ⟨ok, hok⟩ : ∃ v, okSms l = v := ⟨_, rfl⟩
    obtain ⟨sok, hsok⟩ : ∃ v, s.ok = v := ⟨_, rfl⟩
    have hIs := fun W h {ao an au} L => @hI s W h ao an au L
    have hPs := fun W h => hP s W h
    rw [hv] at hIs hPs
    rw [hok] at hF
    have HIS := Lib.hid hIs
    have HPS := Lib.hid hPs
    have HI := Lib.hid hI
    have HF := Lib.hid hF
    have HB := Lib.hid hB
    have HSO := Lib.hid (fun W => sampleOk_decS hsok W)
    have HV := Lib.hid hv
    have HOK := Lib.hid hok
    have HSK := Lib.hid hsok
    have hvv : (v != v) = false := by cases v <;> rfl
    have hve : (v == v) = true := by cases v <;> rfl
    generalize hW1 : w1.alloc (.cells #[.int .i64 s.off, .int .i64 s.delay, .int .i64 s.disp, .int .i64 s.at_] 26) = W1 at *
    obtain ⟨x0, x1, x2, x3⟩ := sample_cells Q1
    clear hI hP hF hB hv hok hsok hIs hPs hm hS1
    go_wp2_with fail
    refine (HIS.out _ S1 (L.next b1)).mono ?_
    rintro e w2 ⟨rfl, hb2⟩
    have b2 := grow_next b1 hb2
    have S2 := S1.next hb2
    have Q2 := blk_next hb2 Q1
    obtain ⟨x0, x1, x2, x3⟩ := sample_cells Q2
    go_wp2_with fail
    refine (HPS.out _ S2).mono ?_
    rintro e w3 ⟨rfl, hb3⟩
    have b3 := grow_next b2 hb3
    have S3 := S2.next hb3
    have Q3 := blk_next hb3 Q2
    obtain ⟨x0, x1, x2, x3⟩ := sample_cells Q3
    clear S1 S2 Q1 Q2
    cases v with
    | true =>
      go_wp2_with fail
      refine (HPS.out _ S3).mono ?_
      rintro e w4 ⟨rfl, hb4⟩
      go_wp2_with fail
      go_returns
      exact ⟨rfl, grow_next b3 hb4⟩
    | false =>
      go_wp2_with fail
      refine (HF.out _ S3).mono ?_
      rintro e w4 ⟨rfl, hb4⟩
      have b4 := grow_next b3 hb4
      have S4 := S3.next hb4
      have Q4 := blk_next hb4 Q3
      obtain ⟨x0, x1, x2, x3⟩ := sample_cells Q4
      clear S3 Q3
      cases ok with
      | false =>
        go_wp2_with fail
        refine (HPS.out _ S4).mono ?_
        rintro e w5 ⟨rfl, hb5⟩
        go_wp2_with fail
        go_returns
        exact ⟨rfl, grow_next b4 hb5⟩
      | true =>
        rcases Nat.eq_zero_or_pos m with hm0 | hm0
        · have hz0 : ((m : Int) == 0) = true := by simpa using hm0
          clear hm0
          go_wp2_with fail
          refine (HPS.out _ S4).mono ?_
          rintro e w5 ⟨rfl, hb5⟩
          go_wp2_with fail
          go_returns
          exact ⟨rfl, grow_next b4 hb5⟩
        · have hz0 : ((m : Int) == 0) = false := by simpa using (show m ≠ 0 by omega)
          have hle : 0 < l.length := by rw [← HM.out]; exact hm0
          have hgw1 : g < w1.heap.size := hgw1.resolve_right (List.length_pos_iff.1 hle)
          go_wp2_with fail
          refine (HSO.out _).mono ?_
          rintro e w5 ⟨rfl, hb5⟩
          have b5 := grow_next b4 hb5
          have S5 := S4.next hb5
          have Q5 := blk_next hb5 Q4
          obtain ⟨x0, x1, x2, x3⟩ := sample_cells Q5
          clear S4 Q4 hm0
          cases sok with
          | false =>
            go_wp2_with fail
            refine (HPS.out _ S5).mono ?_
            rintro e w6 ⟨rfl, hb6⟩
            go_wp2_with fail
            go_returns
            exact ⟨rfl, grow_next b5 hb6⟩
          | true =>
            have hbo : bstOk l = true := by unfold bstOk; rw [HOK.out, decide_eq_true hle]; rfl
            have hbv : bstV l = bestV l := by unfold bstV; rw [hbo]; rfl
            have hne : l ≠ [] := List.length_pos_iff.1 hle
            have hqo := off_in ((okSms_all HOK.out).1 _ (bestV_mem hne))
            have hso := off_in HSK.out
            have hn := fun t ht => pop_nearer HV.out HOK.out HSK.out t ht
            obtain ⟨q, hq⟩ : ∃ q, bestV l = q := ⟨_, rfl⟩
            rw [hq] at hbv hqo hn
            have hB2 := HB.out
            rw [hbv, hbo] at hB2
            have HB2 := Lib.hid hB2
            have HN := Lib.hid hn
            clear hB2 hbv hbo hne hn hq hle
            go_wp2_with fail
            refine (HB2.out _ S5 (L.next b5)).mono ?_
            rintro e w6 ⟨rfl, hb6⟩
            have b6' := grow_next b5 hb6
            have b6 := b6'.alloc b6'.size (.cells #[.int .i64 q.off, .int .i64 q.delay, .int .i64 q.disp, .int .i64 q.at_] 26)
            have S6 := (S5.next hb6).next (below_new w6 (.cells #[.int .i64 q.off, .int .i64 q.delay, .int .i64 q.disp, .int .i64 q.at_] 26))
            have Q6 := blk_alloc (blk_next hb6 Q5) (.cells #[.int .i64 q.off, .int .i64 q.delay, .int .i64 q.disp, .int .i64 q.at_] 26)
            have N6 := blk_new w6 (.cells #[.int .i64 q.off, .int .i64 q.delay, .int .i64 q.disp, .int .i64 q.at_] 26)
            generalize hW6 : w6.alloc (.cells #[.int .i64 q.off, .int .i64 q.delay, .int .i64 q.disp, .int .i64 q.at_] 26) = W6 at *
            obtain ⟨x0, x1, x2, x3⟩ := sample_cells Q6
            obtain ⟨f0, f1, f2, f3⟩ := sample_thaw Q6
            obtain ⟨y0, y1, y2, y3⟩ := sample_cells N6
            have hw1 : IntKind.i64.wrap (s.off - q.off) = s.off - q.off := IntWalk.i64_in _ (by omega)
            clear S5 Q5
            have Q7 : (W6.setCell ⟨w1.heap.size, 0, none⟩ (.int .i64 (q.off + Int.tdiv (s.off - q.off) 2))).heap[w1.heap.size]? = some (.cells #[.int .i64 ((⟨q.off + Int.tdiv (s.off - q.off) 2, s.delay, s.disp, s.at_⟩ : Sm)).off, .int .i64 ((⟨q.off + Int.tdiv (s.off - q.off) 2, s.delay, s.disp, s.at_⟩ : Sm)).delay, .int .i64 ((⟨q.off + Int.tdiv (s.off - q.off) 2, s.delay, s.disp, s.at_⟩ : Sm)).disp, .int .i64 ((⟨q.off + Int.tdiv (s.off - q.off) 2, s.delay, s.disp, s.at_⟩ : Sm)).at_] 26) := by simp [World.setCell, Array.getElem?_modify, Q6]
            have S7 := S6.keepG (grown_set (World.grownBy.refl W6 (some w1.heap.size)) 0 (.int .i64 (q.off + Int.tdiv (s.off - q.off) 2))) (fun e => by simp only [Option.some.injEq] at e; have := hgw1; omega)
            have b7 := below_put b6 (b := w1.heap.size) hb1.size 0 (.int .i64 (q.off + Int.tdiv (s.off - q.off) 2))
            have hpop := HN.out ⟨q.off + Int.tdiv (s.off - q.off) 2, s.delay, s.disp, s.at_⟩ near_half
            have hIn := fun W h {ao an au} L => @popcorn_impl l ⟨q.off + Int.tdiv (s.off - q.off) 2, s.delay, s.disp, s.at_⟩ m HM hmm (some ⟨g, off, none⟩) c W h ao an au L
            rw [hpop] at hIn
            have HIN := Lib.hid hIn
            clear hIn hpop
            have hw2 : IntKind.i64.wrap (q.off + Int.tdiv (s.off - q.off) 2) = q.off + Int.tdiv (s.off - q.off) 2 := IntWalk.i64_in _ (by
              rw [tdiv_two]
              split <;> omega)
            have hw3 : IntKind.i64.wrap (Int.tdiv (s.off - q.off) 2) = Int.tdiv (s.off - q.off) 2 := IntWalk.i64_in _ (by
              rw [tdiv_two]
              split <;> omega)
            obtain ⟨z0, z1, z2, z3⟩ := sample_cells Q7
            dsimp only at z0 z1 z2 z3
            go_wp2_with fail
            refine (HIN.out _ S7 (L.next b7)).mono ?_
            rintro e w8 ⟨rfl, hb8⟩
            go_wp2_with fail
            go_returns
            exact ⟨rfl, grow_next b7 hb8⟩
  · go_enter Tryd.func7, Tryd.ntmps7
    go_wp2_with (go_at_call 13; go_in)
    go_returns
    exact ⟨rfl, Below.refl _ _⟩
theorem sn_met (os : Os) (args : Array Value) : laidMetH Tryd.prog Rows.fnSpikeNearRow.laid ((World.doorLaid Tryd.prog 400 os).forCall (fun _ _ => 0) ⟨#[], args, []⟩).memory :=
  laidMetH_of_parts3 (fuel := 8) (laidMet_of_run' 8 (by kernel_rfl) (by kernel_rfl)) (by kernel_rfl) (by kernel_rfl)
set_option maxRecDepth 100000 in
theorem sn_lifted (os : Os) (started : os.Started) (H : Type) (enc : TypeId × Value → H) :
    ReturnsInHanded {} Tryd.checked os 7 .any (fun w args => (Rows.fnSpikeNearSpec.pre enc Tryd.prog Tryd.f7 [] false w args ∧ laidMetH Tryd.prog Rows.fnSpikeNearRow.laid w) ∧ sizedMet enc Tryd.prog Tryd.f7 (OpenSpec.ofChange Rows.fnSpikeNearSpec) false w args) (Rows.fnSpikeNearSpec.post enc Tryd.prog Tryd.f7 false true false false) := by
  refine lifted_of_walk_laid (C := Tryd.checked) own started (by as_aux_lemma => kernel_rfl) Tryd.func7
    (ChangeSpec.witness_shaped (enc := enc) (C := Tryd.checked) (os := os) (X := fun w _ => laidMetH Tryd.prog Rows.fnSpikeNearRow.laid w) false (World.doorLaid Tryd.prog 400 os) #[.slice none 0 0] 8 rfl (World.shaped_of_RefB (by kernel_rfl) (by kernel_rfl)) (by kernel_rfl) (by kernel_rfl) (by kernel_rfl) (sn_met os _))
    laidOut (by as_aux_lemma => kernel_rfl) (by as_aux_lemma => kernel_rfl) rfl boolType
    (fun ds gs h hg => by
      match ds, gs, h, hg with
      | [_], [_, _, _], _, _ => rfl)
    ?_
  intro W base args ds q hval hA hL
  have laidRow : Rows.fnSpikeNearRow.laid = Rows.fnSpikeNearRow.laid := rfl
  obtain ⟨ao, an, au, L⟩ := ld_of hL (by simp [Rows.fnSpikeNearRow, handleD, sentD, Rows.laid_errors_errorType, Rows.laid_loop_example_g00656_impl_errNoTime, Rows.laid_loop_example_g00656_impl_errOutside, Rows.laid_loop_example_g00656_impl_errUnsure]) (by simp [Rows.fnSpikeNearRow, handleD, sentD, Rows.laid_errors_errorType, Rows.laid_loop_example_g00656_impl_errNoTime, Rows.laid_loop_example_g00656_impl_errOutside, Rows.laid_loop_example_g00656_impl_errUnsure]) (by simp [Rows.fnSpikeNearRow, handleD, sentD, Rows.laid_errors_errorType, Rows.laid_loop_example_g00656_impl_errNoTime, Rows.laid_loop_example_g00656_impl_errOutside, Rows.laid_loop_example_g00656_impl_errUnsure]) (by simp [Rows.fnSpikeNearRow, handleD, sentD, Rows.laid_errors_errorType, Rows.laid_loop_example_g00656_impl_errNoTime, Rows.laid_loop_example_g00656_impl_errOutside, Rows.laid_loop_example_g00656_impl_errUnsure])
  clear hL
  rw [Tryd.params7] at hA hval
  obtain ⟨v0, vs0, d0, ds0, p0, q0, hargs, rfl, rfl, h0, r0⟩ := trodAll_cons hA
  obtain ⟨rfl, rfl, rfl⟩ := trodAll_nil r0
  obtain rfl : args = #[v0] := by cases args; simp_all
  obtain ⟨a0, len0, cap0, z0, rfl, w0⟩ := open_bytes Tryd.underlying22 Tryd.underlying5 (by as_aux_lemma => kernel_rfl) (hval 0 22 v0 rfl rfl) h0
  exact sn_walk W L a0 len0 cap0 z0 w0

theorem sn_facts : joinedFacts Tryd.pinned.checked.prog 7 Tryd.f7 Rows.fnSpikeNearSpec Rows.fnSpikeNearRow = true :=
  facts_of (P := Tryd.prog) (by as_aux_lemma => kernel_rfl) laidOut mapsRow (by as_aux_lemma => kernel_rfl) (by as_aux_lemma => kernel_rfl) rfl noStops rfl noKnobs (by as_aux_lemma => kernel_rfl) (by as_aux_lemma => kernel_rfl) (by as_aux_lemma => kernel_rfl) (by as_aux_lemma => kernel_rfl) (by as_aux_lemma => kernel_rfl) (by as_aux_lemma => kernel_rfl) (by as_aux_lemma => kernel_rfl) (by as_aux_lemma => kernel_rfl) (by as_aux_lemma => kernel_rfl) (by as_aux_lemma => kernel_rfl) (by as_aux_lemma => kernel_rfl) (by as_aux_lemma => kernel_rfl) (by as_aux_lemma => kernel_rfl) keysPlain rfl heard enters finals isMake rfl rfl rfl (by as_aux_lemma => kernel_rfl) (by as_aux_lemma => kernel_rfl)

theorem sn_row : Rows.FnSpikeNearSaid :=
  OpenClaim.holds_of_wide 7 Tryd.f7 rfl rfl rfl rfl rfl rfl rfl ⟨rfl, rfl, rfl, rfl, rfl⟩ rfl rfl rfl rfl rfl (by as_aux_lemma => kernel_rfl) Tryd.func7 sn_facts
    (of_decide_eq_true (by as_aux_lemma => kernel_rfl)) (by unfold Func.isWrapper; first | (rw [if_pos (by decide +kernel)]; kernel_rfl) | (rw [if_neg (by decide +kernel)]; exact ⟨rfl, rfl⟩))
    (fun os started H enc _ => sn_lifted os started H enc)

/-- The given statement. -/
theorem sn_holds : Rows.FnSpikeNearCardSaid :=
  Claim7.holds_tied_plain_at .later [] Rows.fnSpikeNearCard.laidKinds true Rows.fnSpikeNearCard.stood.harness true
    sn_row (fun _ h => by cases h) (by kernel_rfl) (fun _ h => by cases h) fnSpikeNear_row_tie rfl ⟨rfl, rfl⟩ (by kernel_rfl) rfl
    (fun f fn hf hfn => by
      obtain rfl : f = 7 := Option.some.inj ((show Tryd.prog.funcNamed "loop.example/g00656/laws.FnSpikeNear" = some 7 by kernel_rfl).symm.trans hf) |>.symm
      obtain rfl : fn = Tryd.f7 := (Option.some.inj (Tryd.func7.symm.trans hfn)).symm
      exact ⟨by kernel_rfl, fun j t ht => noStandIn (by rw [Tryd.params7]; kernel_rfl) j t ht⟩)
    (by kernel_rfl)
#print axioms sn_holds
end Go.Proofs.YtmekjnnfnlkhiaaDoor
