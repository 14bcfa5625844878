/- A right sample comes back from its text; what is read, written again, has just its bytes: at all drawn samples and bytes. -/
import Derived.Test.YtbkkgkmllplbaaaGreatDoorRdSmLaw
import Derived.Test.YtbkkgkmllplbaaaGreatDoorSmDrawT
namespace Go.Proofs.YtbkkgkmllplbaaaGreatDoor
open Go.ChangeShapes Go.WideShapes Go.ChangeAt Go.RowKit
set_option linter.unusedVariables false
set_option linter.unusedSimpArgs false

theorem words_neS (c : Sm) : c.words ≠ ⟨#[]⟩ := by
  intro e
  have h := congrArg ByteArray.size e
  unfold Sm.words at h
  have zb : (⟨#[32]⟩ : ByteArray).size = 1 := rfl
  have z0 : (⟨#[]⟩ : ByteArray).size = 0 := rfl
  simp only [ByteArray.size_append, zb, z0] at h
  omega
theorem read_backS {c x : Sm} {b : Bool} (h : ReadSmIs c.text x b) : b = c.ok ∧ (c.ok = true → x = c) := by
  cases hc : c.ok with
  | true =>
    have e : c.text = c.words := by unfold Sm.text; rw [hc]; rfl
    rw [e] at h
    obtain ⟨h1, h2⟩ := h.same (.inl ⟨rfl, hc, rfl⟩)
    exact ⟨h2, fun _ => h1⟩
  | false =>
    have e : c.text = ⟨#[]⟩ := by unfold Sm.text; rw [hc]; rfl
    rw [e] at h
    rcases h with ⟨_, _, h⟩ | ⟨h, _, _⟩
    · exact absurd h (words_neS x)
    · exact ⟨h, fun h => by cases h⟩
set_option maxHeartbeats 1000000 in
theorem drawSampleText_c (x : Option Addr) (n cap : Nat) (w : World) (hc : Code w.heap.size w (.slice x n cap) n) (hn : n ≤ 1048576) : Calls Tryz.prog 9 #[.slice x n cap] w
    (fun e w' => ∃ c : Sm, e = .returned (.agg #[.int .i64 c.off, .int .i64 c.delay, .int .i64 c.disp, .int .i64 c.at_]) ∧ Below w.heap.size w w') := by
  have hc0 := hc.next (w' := w.alloc (.cells #[.int .i64 Sm.zero.off, .int .i64 Sm.zero.delay, .int .i64 Sm.zero.disp, .int .i64 Sm.zero.at_] 23)) (by go_grown)
  have hZ0 := blk_new w (.cells #[.int .i64 Sm.zero.off, .int .i64 Sm.zero.delay, .int .i64 Sm.zero.disp, .int .i64 Sm.zero.at_] 23)
  have g0 : Below w.heap.size w (w.alloc (.cells #[.int .i64 Sm.zero.off, .int .i64 Sm.zero.delay, .int .i64 Sm.zero.disp, .int .i64 Sm.zero.at_] 23)) := by go_grown
  dsimp only [Sm.zero] at hc0 hZ0 g0
  go_enter Tryz.func9, Tryz.ntmps9
  go_wp2_with fail
  refine (drawSampleOk_c x n cap _ hc0 hn).mono ?_
  rintro e w1 ⟨c, rfl, hb1⟩
  have hZ1 := blk_next hb1 hZ0
  have g1 := grow_next g0 hb1
  clear hc0 hZ0 g0 hb1
  have Z := sample_cells (q := ⟨0, 0, 0, 0⟩) hZ1
  have V := sample_thaw (q := ⟨0, 0, 0, 0⟩) hZ1
  have F := sample_cells (sample_put (q := ⟨0, 0, 0, 0⟩) hZ1 c)
  have G : Below w.heap.size w ((((w1.setCell ⟨w.heap.size, 0, none⟩ (.int .i64 c.off)).setCell ⟨w.heap.size, 1, none⟩ (.int .i64 c.delay)).setCell ⟨w.heap.size, 2, none⟩ (.int .i64 c.disp)).setCell ⟨w.heap.size, 3, none⟩ (.int .i64 c.at_)) := by
    repeat (refine below_put ?_ (Nat.le_refl _) _ _)
    exact g1
  dsimp only at Z F
  clear hZ1 g1
  go_wp2_with fail
  refine bodyPost_ret (by simp [results, Tryz.results9, go_sem, F]; try rfl) rfl ?_
  exact ⟨c, rfl, G⟩
set_option maxRecDepth 100000 in
set_option maxHeartbeats 2000000 in
theorem sampleTexts_walk (w : World) {ao an au : Addr} (L : Ld w ao an au) (hp : DecW w) (x : Option Addr) (n cap z : Nat) (hz : z = n ∧ Code w.heap.size w (.slice x n cap) n) :
    Calls Tryz.prog 4 #[.slice x n cap] w fun e w' => e = .returned (.bool true) ∧ Below w.heap.size w w' := by
  obtain ⟨_, hc⟩ := hz
  by_cases hbig : n ≤ 1048576
  · go_enter Tryz.func4, Tryz.ntmps4
    go_wp2_with (go_at_call 8; go_in)
    refine (drawSampleText_c x n cap _ hc hbig).mono ?_
    rintro e w1 ⟨c, rfl, hb1⟩
    have HI := Lib.hid (fun w {ao an au} L h => @sampleText_impl c w ao an au L h)
    have HS := Lib.hid (fun w => sampleText_spec c w)
    have hsz := c.text_size
    have HB := Lib.hid (fun y b h => @read_backS c y b h)
    have hE : c.text.toList.isEmpty = !c.ok := (show c.text.toList.isEmpty = !c.ok by
      cases h : c.ok with
      | true =>
        have e : c.text = c.words := by unfold Sm.text; rw [h]; rfl
        rw [e]
        cases h2 : c.words.toList.isEmpty with
        | false => rfl
        | true =>
          exfalso
          rw [ByteArray.toList_eq, List.isEmpty_iff] at h2
          exact words_neS c (ByteArray.ext (Array.toList_inj.1 h2))
      | false =>
        have e : c.text = ⟨#[]⟩ := by unfold Sm.text; rw [h]; rfl
        rw [e, ByteArray.toList_eq]; rfl)
    obtain ⟨s, hs⟩ : ∃ s, c.text = s := ⟨_, rfl⟩
    simp only [hs] at HI HS HB hE
    rw [hs] at hsz
    clear hs
    obtain ⟨r, hr⟩ : ∃ r, c.ok = r := ⟨_, rfl⟩
    simp only [hr] at HB hE
    clear hr
    have A1 := blk_new w1 (.cells #[.int .i64 c.off, .int .i64 c.delay, .int .i64 c.disp, .int .i64 c.at_] 23)
    have G1 : Below w.heap.size w (w1.alloc (.cells #[.int .i64 c.off, .int .i64 c.delay, .int .i64 c.disp, .int .i64 c.at_] 23)) := hb1.alloc hb1.size _
    go_wp2_with fail
    refine (HI.out _ (L.next G1) (hp.next G1).pow).mono ?_
    rintro e w2 ⟨rfl, hb2⟩
    have A2 := blk_next hb2 A1
    have G2 := grow_next G1 hb2
    clear A1 G1 hb1 hb2 HI
    go_wp2_with fail
    refine (readSample_impl s (by omega) _ (L.next G2) (hp.next G2)).mono ?_
    rintro e w3 ⟨c2, is, rfl, hr1, hb3⟩
    obtain ⟨e1, HX⟩ := HB.out _ _ hr1
    subst e1
    have A3 := blk_alloc (blk_next hb3 A2) (.cells #[.int .i64 c2.off, .int .i64 c2.delay, .int .i64 c2.disp, .int .i64 c2.at_] 23)
    have B3 := blk_new w3 (.cells #[.int .i64 c2.off, .int .i64 c2.delay, .int .i64 c2.disp, .int .i64 c2.at_] 23)
    have g3 := grow_next G2 hb3
    have G3 := g3.alloc g3.size (.cells #[.int .i64 c2.off, .int .i64 c2.delay, .int .i64 c2.disp, .int .i64 c2.at_] 23)
    have HX1 := Lib.hid HX
    clear A2 G2 hr1 HX hb3 g3 HB
    go_wp2_with fail
    refine (drawReadSample_c x n cap _ (hc.next G3) hbig).mono ?_
    rintro e w4 ⟨t, ht, rfl, hb4⟩
    have A4 := blk_next hb4 A3
    have B4 := blk_next hb4 B3
    have G4 := grow_next G3 hb4
    clear A3 B3 G3 hb4
    go_wp2_with fail
    refine (readSample_impl t (by omega) _ (L.next G4) (hp.next G4)).mono ?_
    rintro e w5 ⟨y, fine, rfl, hr2, hb5⟩
    have A5 := blk_alloc (blk_next hb5 A4) (.cells #[.int .i64 y.off, .int .i64 y.delay, .int .i64 y.disp, .int .i64 y.at_] 23)
    have B5 := blk_alloc (blk_next hb5 B4) (.cells #[.int .i64 y.off, .int .i64 y.delay, .int .i64 y.disp, .int .i64 y.at_] 23)
    have C5 := blk_new w5 (.cells #[.int .i64 y.off, .int .i64 y.delay, .int .i64 y.disp, .int .i64 y.at_] 23)
    have g5 := grow_next G4 hb5
    have G5 := g5.alloc g5.size (.cells #[.int .i64 y.off, .int .i64 y.delay, .int .i64 y.disp, .int .i64 y.at_] 23)
    have HR := Lib.hid hr2
    clear A4 B4 G4 hb5 hr2 g5
    go_wp2_with fail
    refine (readSample_spec t (by omega) _).mono ?_
    rintro e w6 ⟨y', b', rfl, hr3, hb6⟩
    obtain ⟨rfl, rfl⟩ := HR.out.same hr3
    have A6 := blk_alloc (blk_next hb6 A5) (.cells #[.int .i64 y.off, .int .i64 y.delay, .int .i64 y.disp, .int .i64 y.at_] 23)
    have B6 := blk_alloc (blk_next hb6 B5) (.cells #[.int .i64 y.off, .int .i64 y.delay, .int .i64 y.disp, .int .i64 y.at_] 23)
    have C6 := blk_alloc (blk_next hb6 C5) (.cells #[.int .i64 y.off, .int .i64 y.delay, .int .i64 y.disp, .int .i64 y.at_] 23)
    have D6 := blk_new w6 (.cells #[.int .i64 y.off, .int .i64 y.delay, .int .i64 y.disp, .int .i64 y.at_] 23)
    have g6 := grow_next G5 hb6
    have G6 := g6.alloc g6.size (.cells #[.int .i64 y.off, .int .i64 y.delay, .int .i64 y.disp, .int .i64 y.at_] 23)
    clear A5 B5 C5 G5 hb6 hr3 g6
    have XA := sample_cells A6
    have hss : (s.toList == s.toList) = true := by simp
    go_wp2_with fail
    refine (HS.out _).mono ?_
    rintro e w7 ⟨rfl, hb7⟩
    have A7 := blk_next hb7 A6
    have B7 := blk_next hb7 B6
    have C7 := blk_next hb7 C6
    have D7 := blk_next hb7 D6
    have G7 := grow_next G6 hb7
    clear XA A6 B6 C6 D6 G6 hb7 HS
    have XA := sample_cells A7
    have XB := sample_cells B7
    have XC := sample_cells C7
    have XD := sample_cells D7
    cases is with
    | true =>
      obtain rfl : c2 = c := HX1.out rfl
      rcases HR.out with ⟨rfl, hy, hw⟩ | ⟨rfl, _, _⟩
      · have HI := Lib.hid (fun w {ao an au} L h => @sampleText_impl y w ao an au L h)
        have HK := Lib.hid (fun w {ao an au} L => @sampleOk_impl y w ao an au L)
        have et : y.text = t := by unfold Sm.text; rw [hy]; exact hw
        simp only [et] at HI
        simp only [hy] at HK
        have htt : (t.toList == t.toList) = true := by simp
        clear hy hw et
        go_wp2_with fail
        refine (HI.out _ (L.next G7) (hp.next G7).pow).mono ?_
        rintro e w8 ⟨rfl, hb8⟩
        have C8 := blk_next hb8 C7
        have G8 := grow_next G7 hb8
        clear XA XB XC XD A7 B7 C7 D7 hb8
        have XC := sample_cells C8
        go_wp2_with fail
        refine (HK.out _ (L.next G8)).mono ?_
        rintro e w9 ⟨rfl, hb9⟩
        go_wp2_with fail
        go_returns
        exact ⟨rfl, grow_next G8 hb9⟩
      · go_wp2_with fail
        go_returns
        exact ⟨rfl, G7⟩
    | false =>
      rcases HR.out with ⟨rfl, hy, hw⟩ | ⟨rfl, _, _⟩
      · have HI := Lib.hid (fun w {ao an au} L h => @sampleText_impl y w ao an au L h)
        have HK := Lib.hid (fun w {ao an au} L => @sampleOk_impl y w ao an au L)
        have et : y.text = t := by unfold Sm.text; rw [hy]; exact hw
        simp only [et] at HI
        simp only [hy] at HK
        have htt : (t.toList == t.toList) = true := by simp
        clear hy hw et
        go_wp2_with fail
        refine (HI.out _ (L.next G7) (hp.next G7).pow).mono ?_
        rintro e w8 ⟨rfl, hb8⟩
        have C8 := blk_next hb8 C7
        have G8 := grow_next G7 hb8
        clear XA XB XC XD A7 B7 C7 D7 hb8
        have XC := sample_cells C8
        go_wp2_with fail
        refine (HK.out _ (L.next G8)).mono ?_
        rintro e w9 ⟨rfl, hb9⟩
        go_wp2_with fail
        go_returns
        exact ⟨rfl, grow_next G8 hb9⟩
      · go_wp2_with fail
        go_returns
        exact ⟨rfl, G7⟩
  · go_enter Tryz.func4, Tryz.ntmps4
    go_wp2_with (go_at_call 8; go_in)
    go_returns
    exact ⟨rfl, Below.refl _ _⟩
theorem sampleTexts_met (os : Os) (args : Array Value) : laidMetH Tryz.prog Rows.fnSampleTextsRow.laid (((World.doorLaid Tryz.prog 400 os).layVars Tryz.prog (Rows.fnSampleTextsRow.laid.filter fun x => x.2.handleName?.isNone)).forCall (fun _ _ => 0) ⟨#[], args, []⟩).memory :=
  laidMetH_of_parts3 (fuel := 8) (layVars_all _ (by kernel_rfl) (by kernel_rfl)) (by kernel_rfl) (by kernel_rfl)
set_option maxRecDepth 100000 in
theorem sampleTexts_lifted (os : Os) (started : os.Started) (H : Type) (enc : TypeId × Value → H) :
    ReturnsInHanded {} Tryz.checked os 4 .any (fun w args => (Rows.fnSampleTextsSpec.pre enc Tryz.prog Tryz.f4 [] false w args ∧ laidMetH Tryz.prog Rows.fnSampleTextsRow.laid w) ∧ sizedMet enc Tryz.prog Tryz.f4 (OpenSpec.ofChange Rows.fnSampleTextsSpec) false w args) (Rows.fnSampleTextsSpec.post enc Tryz.prog Tryz.f4 false true false false) := by
  refine lifted_of_walk_shaped (C := Tryz.checked) own started (by as_aux_lemma => kernel_rfl) Tryz.func4
    (ChangeSpec.witness_shaped (enc := enc) (C := Tryz.checked) (os := os) (X := fun w _ => laidMetH Tryz.prog Rows.fnSampleTextsRow.laid w) false ((World.doorLaid Tryz.prog 400 os).layVars Tryz.prog (Rows.fnSampleTextsRow.laid.filter fun x => x.2.handleName?.isNone)) #[.slice none 0 0] 8 (World.layVars_os _ _ _) (World.shaped_of_ZipB (by kernel_rfl) (by kernel_rfl)) (by kernel_rfl) (by kernel_rfl) (by kernel_rfl) (sampleTexts_met os _))
    laidOut (by as_aux_lemma => kernel_rfl) (by as_aux_lemma => kernel_rfl) rfl boolType
    (fun ds gs h hg => by
      match ds, gs, h, hg with
      | [_], [_, _, _], _, _ => rfl)
    ?_
  intro W base args ds q hval hA hL hSh
  have laidRow : Rows.fnSampleTextsRow.laid = Rows.fnSampleTextsRow.laid := rfl
  have hp := decW_of hL hSh (by rfl) (by rfl) (by rfl)
  obtain ⟨ao, an, au, L⟩ := ld_of hL (by simp [Rows.fnSampleTextsRow, handleD, sentD, Rows.laid_errors_errorType, Rows.laid_loop_example_g00656_impl_errNoTime, Rows.laid_loop_example_g00656_impl_errOutside, Rows.laid_loop_example_g00656_impl_errUnsure]) (by simp [Rows.fnSampleTextsRow, handleD, sentD, Rows.laid_errors_errorType, Rows.laid_loop_example_g00656_impl_errNoTime, Rows.laid_loop_example_g00656_impl_errOutside, Rows.laid_loop_example_g00656_impl_errUnsure]) (by simp [Rows.fnSampleTextsRow, handleD, sentD, Rows.laid_errors_errorType, Rows.laid_loop_example_g00656_impl_errNoTime, Rows.laid_loop_example_g00656_impl_errOutside, Rows.laid_loop_example_g00656_impl_errUnsure]) (by simp [Rows.fnSampleTextsRow, handleD, sentD, Rows.laid_errors_errorType, Rows.laid_loop_example_g00656_impl_errNoTime, Rows.laid_loop_example_g00656_impl_errOutside, Rows.laid_loop_example_g00656_impl_errUnsure])
  clear hL
  rw [Tryz.params4] at hA hval
  obtain ⟨v0, vs0, d0, ds0, p0, q0, hargs, rfl, rfl, h0, r0⟩ := trodAll_cons hA
  obtain ⟨rfl, rfl, rfl⟩ := trodAll_nil r0
  obtain rfl : args = #[v0] := by cases args; simp_all
  obtain ⟨a0, len0, cap0, z0, rfl, w0⟩ := open_bytes Tryz.underlying28 Tryz.underlying5 (by as_aux_lemma => kernel_rfl) (hval 0 28 v0 rfl rfl) h0
  exact sampleTexts_walk W L hp a0 len0 cap0 z0 w0

set_option maxHeartbeats 4000000 in
theorem sampleTexts_facts : joinedFacts Tryz.pinned.checked.prog 4 Tryz.f4 Rows.fnSampleTextsSpec Rows.fnSampleTextsRow = true :=
  facts_of (P := Tryz.prog) (by as_aux_lemma => kernel_rfl) laidOut mapsRow (by as_aux_lemma => kernel_rfl) (by as_aux_lemma => kernel_rfl) rfl noStops rfl noKnobs (by as_aux_lemma => kernel_rfl) (by as_aux_lemma => kernel_rfl) (by as_aux_lemma => kernel_rfl) (by as_aux_lemma => kernel_rfl) (by as_aux_lemma => kernel_rfl) (by as_aux_lemma => kernel_rfl) (by as_aux_lemma => kernel_rfl) (by as_aux_lemma => kernel_rfl) (by as_aux_lemma => kernel_rfl) (by as_aux_lemma => kernel_rfl) (by as_aux_lemma => kernel_rfl) (by as_aux_lemma => kernel_rfl) (by as_aux_lemma => kernel_rfl) keysPlain rfl heard enters finals isMake rfl rfl rfl (by as_aux_lemma => kernel_rfl) (by as_aux_lemma => kernel_rfl)

theorem sampleTexts_row : Rows.FnSampleTextsSaid :=
  OpenClaim.holds_of_wide 4 Tryz.f4 rfl rfl rfl rfl rfl rfl rfl ⟨rfl, rfl, rfl, rfl, rfl⟩ rfl rfl rfl rfl rfl (by as_aux_lemma => kernel_rfl) Tryz.func4 sampleTexts_facts
    (of_decide_eq_true (by as_aux_lemma => kernel_rfl)) (by unfold Func.isWrapper; first | (rw [if_pos (by decide +kernel)]; kernel_rfl) | (rw [if_neg (by decide +kernel)]; exact ⟨rfl, rfl⟩))
    (fun os started H enc _ => sampleTexts_lifted os started H enc)

/-- The given statement. -/
theorem sampleTexts_holds : Rows.FnSampleTextsCardSaid :=
  Claim7.holds_tied_plain_at .later [] Rows.fnSampleTextsCard.laidKinds true Rows.fnSampleTextsCard.stood.harness true
    sampleTexts_row (fun _ h => by cases h) (by kernel_rfl) (fun _ h => by cases h) fnSampleTexts_row_tie rfl ⟨rfl, rfl⟩ (by kernel_rfl) rfl
    (fun f fn hf hfn => by
      obtain rfl : f = 4 := Option.some.inj ((show Tryz.prog.funcNamed "loop.example/g00656/laws.FnSampleTexts" = some 4 by kernel_rfl).symm.trans hf) |>.symm
      obtain rfl : fn = Tryz.f4 := (Option.some.inj (Tryz.func4.symm.trans hfn)).symm
      exact ⟨by kernel_rfl, fun j t ht => noStandIn (by rw [Tryz.params4]; kernel_rfl) j t ht⟩)
    (by kernel_rfl)
#print axioms sampleTexts_holds
end Go.Proofs.YtbkkgkmllplbaaaGreatDoor
