/- For every list of peers the program's Combined answers as the reference; its argument stays as it was. -/
import Derived.Test.YtddadndebgbmiaaDoorPeersS
import Derived.Test.YtddadndebgbmiaaDoorCombS
import Derived.Test.YtddadndebgbmiaaDoorCombI
import Derived.Test.YtddadndebgbmiaaDoorTie
import Derived.Test.YtddadndebgbmiaaDoorCards
namespace Go.Proofs.YtddadndebgbmiaaDoor
open Go.ChangeShapes Go.WideShapes Go.ChangeAt Go.RowKit
set_option linter.unusedVariables false
set_option linter.unusedSimpArgs false

theorem prsS_dec {l : List Pr} {b : Bool} (hb : okPrs l = b) (n : Nat) (hn : Hid (n = l.length)) (hm : n ≤ maxLen) (x : Option Addr) (cap : Nat) (w : World) (h : Prs w.heap.size w x l) :
    Calls Tryd.prog 13 #[.slice x n cap] w fun e w' => e = .returned (.bool b) ∧ Below w.heap.size w w' := hb ▸ peersOk_spec l n hn hm x cap w h
theorem prsI_dec {l : List Pr} {b : Bool} (hb : okPrs l = b) (n : Nat) (hn : Hid (n = l.length)) (hm : n ≤ maxLen) (x : Option Addr) (cap : Nat) (w : World) (h : Prs w.heap.size w x l) {ao an au : Addr} (L : Ld w ao an au) :
    Calls Tryd.prog 15 #[.slice x n cap] w fun e w' => e = .returned (.bool b) ∧ Below w.heap.size w w' := hb ▸ peersOk_impl l n hn hm x cap w h L

/-- Combined's answers. -/
def combOk (l : List Pr) : Bool := okPrs l && !(l.length == 0)
def combA (l : List Pr) : Int := if combOk l then combV l else 0

theorem comb_spec (l : List Pr) (n : Nat) (hn : Hid (n = l.length)) (hm : n ≤ maxLen) (x : Option Addr) (cap : Nat) (w : World) (h : Prs w.heap.size w x l) :
    Calls Tryd.prog 23 #[.slice x n cap] w fun e w' => e = .returned (.tuple #[.int .i64 (combA l), .bool (combOk l)]) ∧ Below w.heap.size w w' := by
  cases ho : okPrs l with
  | false =>
    have HO := Lib.hid (prsS_dec ho n hn hm x cap w h)
    have e : combOk l = false := by unfold combOk; rw [ho]; rfl
    have e1 : combA l = 0 := by unfold combA; rw [e]; rfl
    rw [e, e1]
    clear ho e e1
    go_enter Tryd.func23, Tryd.ntmps23
    go_wp2_with fail
    refine (HO.out).mono ?_
    rintro e w1 ⟨rfl, hb1⟩
    go_wp2_with fail
    go_returns
    exact ⟨rfl, hb1⟩
  | true =>
    have HO := Lib.hid (prsS_dec ho n hn hm x cap w h)
    obtain ⟨hA, hl⟩ := okPrs_all ho
    by_cases hz : n = 0
    · have e : combOk l = false := by unfold combOk; rw [← hn.out, hz]; simp
      have e1 : combA l = 0 := by unfold combA; rw [e]; rfl
      rw [e, e1]
      subst hz
      clear ho e e1 hn
      go_enter Tryd.func23, Tryd.ntmps23
      go_wp2_with fail
      refine (HO.out).mono ?_
      rintro e w1 ⟨rfl, hb1⟩
      go_wp2_with fail
      go_returns
      exact ⟨rfl, hb1⟩
    · have e : combOk l = true := by unfold combOk; rw [ho, ← hn.out]; simp [hz]
      have e1 : combA l = combV l := by unfold combA; rw [e]; rfl
      rw [e, e1]
      have hn20 : n ≤ 20 := by have := hn.out; omega
      clear ho e e1 hl
      go_enter Tryd.func23, Tryd.ntmps23
      go_wp2_with fail
      refine (HO.out).mono ?_
      rintro e w1 ⟨rfl, hb1⟩
      go_wp2_with fail
      refine (combined_spec l hA n hn (by omega) hn20 x cap _ (h.next hb1)).mono ?_
      rintro e w2 ⟨rfl, hb2⟩
      go_wp2_with fail
      go_returns
      exact ⟨rfl, grow_next hb1 hb2⟩

theorem comb_impl (l : List Pr) (n : Nat) (hn : Hid (n = l.length)) (hm : n ≤ maxLen) (x : Option Addr) (cap : Nat) (w : World) (h : Prs w.heap.size w x l) {ao an au : Addr} (L : Ld w ao an au) :
    Calls Tryd.prog 24 #[.slice x n cap] w fun e w' => e = .returned (.tuple #[.int .i64 (combA l), .bool (combOk l)]) ∧ Below w.heap.size w w' := by
  cases ho : okPrs l with
  | false =>
    have HO := Lib.hid (prsI_dec ho n hn hm x cap w h L)
    have e : combOk l = false := by unfold combOk; rw [ho]; rfl
    have e1 : combA l = 0 := by unfold combA; rw [e]; rfl
    rw [e, e1]
    clear ho e e1
    go_enter Tryd.func24, Tryd.ntmps24
    go_wp2_with fail
    refine (HO.out).mono ?_
    rintro e w1 ⟨rfl, hb1⟩
    go_wp2_with fail
    go_returns
    exact ⟨rfl, hb1⟩
  | true =>
    have HO := Lib.hid (prsI_dec ho n hn hm x cap w h L)
    obtain ⟨hA, hl⟩ := okPrs_all ho
    by_cases hz : n = 0
    · have e : combOk l = false := by unfold combOk; rw [← hn.out, hz]; simp
      have e1 : combA l = 0 := by unfold combA; rw [e]; rfl
      rw [e, e1]
      subst hz
      clear ho e e1 hn
      go_enter Tryd.func24, Tryd.ntmps24
      go_wp2_with fail
      refine (HO.out).mono ?_
      rintro e w1 ⟨rfl, hb1⟩
      go_wp2_with fail
      go_returns
      exact ⟨rfl, hb1⟩
    · have e : combOk l = true := by unfold combOk; rw [ho, ← hn.out]; simp [hz]
      have e1 : combA l = combV l := by unfold combA; rw [e]; rfl
      rw [e, e1]
      have hn20 : n ≤ 20 := by have := hn.out; omega
      obtain ⟨u, hu⟩ := getQ (l := l) (k := 0) (by rw [← hn.out]; omega)
      obtain ⟨b, off, rfl, _⟩ := h.at_ hu
      clear ho e e1 hl hu
      go_enter Tryd.func24, Tryd.ntmps24
      go_wp2_with fail
      refine (HO.out).mono ?_
      rintro e w1 ⟨rfl, hb1⟩
      go_wp2_with fail
      refine (pointersTo_c n (by omega) b off cap _).mono ?_
      rintro e w2 ⟨v, rfl, hown, hb2⟩
      have g2 := grow_next hb1 hb2
      obtain ⟨y, c, rfl, hy⟩ := own_ptrs hown (h.next g2) hn.out
      clear hown
      go_wp2_with fail
      refine (combined_impl l hA n hn (by omega) hn20 y c _ hy (L.next g2)).mono ?_
      rintro e w3 ⟨rfl, hb3⟩
      go_wp2_with fail
      go_returns
      exact ⟨rfl, grow_next g2 hb3⟩

theorem cb_walk (W : World) {ao an au : Addr} (L : Ld W ao an au) (x : Option Addr) (n cap : Nat) (l : List Pr) (h : Hid (n = l.length) ∧ n ≤ cap ∧ cap ≤ maxLen ∧ Prs W.heap.size W x l) :
    Calls Tryd.prog 6 #[.slice x n cap] W fun e w' => e = .returned (.bool true) ∧ Below W.heap.size W w' := by
  obtain ⟨hn, hnc, hcm, hr⟩ := h
  have hnm : n ≤ maxLen := Nat.le_trans hnc hcm
  clear hnc hcm
  have hsz := szPeerS_c n 1048576 (by omega) (by omega) hnm x cap
  by_cases hlt : n ≤ 1048576
  · have HZ := Lib.hid (fun w => show Calls Tryd.prog 12 #[.slice x n cap, .int .i64 1048576] w fun e w' => e = .returned (.int .i64 (1048576 - n)) ∧ w = w' by have := hsz w; rwa [if_pos (by omega)] at this)
    have h1 : (0 : Int) ≤ 1048576 - n := by omega
    have h2 : (1048576 : Int) - n ≤ 1048576 := by omega
    clear hsz
    obtain ⟨d, hd⟩ : ∃ d, combOk l = d := ⟨_, rfl⟩
    obtain ⟨z, hz⟩ : ∃ z, combA l = z := ⟨_, rfl⟩
    have hS := fun x cap w h => comb_spec l n hn hnm x cap w h
    have hI := fun x cap w h {ao an au} L => @comb_impl l n hn hnm x cap w h ao an au L
    rw [hd, hz] at hS hI
    have HS := Lib.hid hS
    have HI := Lib.hid hI
    clear hS hI hd hz
    have HT := Lib.hid (fun w h => toPeerS_c l n hn hlt x cap w h)
    have HE := Lib.hid (fun x y cap cap' w h h' => eqPeerS_c l n hn hnm x y cap cap' w h h')
    go_enter Tryd.func6, Tryd.ntmps6
    go_wp2_with fail
    refine (HZ.out _).mono ?_
    rintro e w1 ⟨rfl, rfl⟩
    go_wp2_with fail
    refine (HT.out _ hr).mono ?_
    rintro e w1 ⟨g1, rfl, t1, _, b1⟩
    go_wp2_with fail
    refine (HS.out _ _ _ t1.prs).mono ?_
    rintro e w2 ⟨rfl, b2⟩
    have G2 := grow_next b1 b2
    go_wp2_with fail
    refine (HT.out _ (hr.next G2)).mono ?_
    rintro e w3 ⟨g3, rfl, t3, _, b3⟩
    have G3 := grow_next G2 b3
    go_wp2_with fail
    refine (HI.out _ _ _ t3.prs (L.next G3)).mono ?_
    rintro e w4 ⟨rfl, b4⟩
    have G4 := grow_next G3 b4
    have t4 := t3.next b4
    go_wp2_with fail
    refine (HT.out _ (hr.next G4)).mono ?_
    rintro e w5 ⟨g5, rfl, t5, _, b5⟩
    have G5 := grow_next G4 b5
    have t4' := t4.next b5
    go_wp2_with fail
    refine (HE.out _ _ _ _ _ t4'.prs t5.prs).mono ?_
    rintro e w6 ⟨rfl, b6⟩
    have G6 := grow_next G5 b6
    go_wp2_with fail
    go_returns
    exact ⟨rfl, G6⟩
  · have HZ := Lib.hid (fun w => show Calls Tryd.prog 12 #[.slice x n cap, .int .i64 1048576] w fun e w' => e = .returned (.int .i64 (-1)) ∧ w = w' by have := hsz w; rwa [if_neg (by omega)] at this)
    clear hsz
    go_enter Tryd.func6, Tryd.ntmps6
    go_wp2_with fail
    refine (HZ.out _).mono ?_
    rintro e w1 ⟨rfl, rfl⟩
    go_wp2_with fail
    go_returns
    exact ⟨rfl, Below.refl _ _⟩

theorem cb_met (os : Os) (args : Array Value) : laidMetH Tryd.prog Rows.fnExactCombinedRow.laid ((World.doorLaid Tryd.prog 400 os).forCall (fun _ _ => 0) ⟨#[], args, []⟩).memory :=
  laidMetH_of_parts3 (fuel := 8) (laidMet_of_run' 8 (by kernel_rfl) (by kernel_rfl)) (by kernel_rfl) (by kernel_rfl)
set_option maxRecDepth 100000 in
theorem cb_lifted (os : Os) (started : os.Started) (H : Type) (enc : TypeId × Value → H) :
    ReturnsInHanded {} Tryd.checked os 6 .any (fun w args => (Rows.fnExactCombinedSpec.pre enc Tryd.prog Tryd.f6 [] false w args ∧ laidMetH Tryd.prog Rows.fnExactCombinedRow.laid w) ∧ sizedMet enc Tryd.prog Tryd.f6 (OpenSpec.ofChange Rows.fnExactCombinedSpec) false w args) (Rows.fnExactCombinedSpec.post enc Tryd.prog Tryd.f6 false true false false) := by
  refine lifted_of_walk_laid (C := Tryd.checked) own started (by as_aux_lemma => kernel_rfl) Tryd.func6
    (ChangeSpec.witness_shaped (enc := enc) (C := Tryd.checked) (os := os) (X := fun w _ => laidMetH Tryd.prog Rows.fnExactCombinedRow.laid w) false (World.doorLaid Tryd.prog 400 os) #[.slice none 0 0] 8 rfl (World.shaped_of_RefB (by kernel_rfl) (by kernel_rfl)) (by kernel_rfl) (by kernel_rfl) (by kernel_rfl) (cb_met os _))
    laidOut (by as_aux_lemma => kernel_rfl) (by as_aux_lemma => kernel_rfl) rfl boolType
    (fun ds gs h hg => by
      match ds, gs, h, hg with
      | [_], [_, _, _], _, _ => rfl)
    ?_
  intro W base args ds q hval hA hL
  have laidRow : Rows.fnExactCombinedRow.laid = Rows.fnExactCombinedRow.laid := rfl
  obtain ⟨ao, an, au, L⟩ := ld_of hL (by simp [Rows.fnExactCombinedRow, handleD, sentD, Rows.laid_errors_errorType, Rows.laid_loop_example_g00656_impl_errNoTime, Rows.laid_loop_example_g00656_impl_errOutside, Rows.laid_loop_example_g00656_impl_errUnsure]) (by simp [Rows.fnExactCombinedRow, handleD, sentD, Rows.laid_errors_errorType, Rows.laid_loop_example_g00656_impl_errNoTime, Rows.laid_loop_example_g00656_impl_errOutside, Rows.laid_loop_example_g00656_impl_errUnsure]) (by simp [Rows.fnExactCombinedRow, handleD, sentD, Rows.laid_errors_errorType, Rows.laid_loop_example_g00656_impl_errNoTime, Rows.laid_loop_example_g00656_impl_errOutside, Rows.laid_loop_example_g00656_impl_errUnsure]) (by simp [Rows.fnExactCombinedRow, handleD, sentD, Rows.laid_errors_errorType, Rows.laid_loop_example_g00656_impl_errNoTime, Rows.laid_loop_example_g00656_impl_errOutside, Rows.laid_loop_example_g00656_impl_errUnsure])
  clear hL
  rw [Tryd.params6] at hA hval
  obtain ⟨v0, vs0, d0, ds0, p0, q0, hargs, rfl, rfl, h0, r0⟩ := trodAll_cons hA
  obtain ⟨rfl, rfl, rfl⟩ := trodAll_nil r0
  obtain rfl : args = #[v0] := by cases args; simp_all
  obtain ⟨a0, len0, cap0, z0, rfl, w0⟩ := open_prs (hval 0 22 v0 rfl rfl) h0
  exact cb_walk W L a0 len0 cap0 z0 w0

theorem cb_facts : joinedFacts Tryd.pinned.checked.prog 6 Tryd.f6 Rows.fnExactCombinedSpec Rows.fnExactCombinedRow = true :=
  facts_of (P := Tryd.prog) (by as_aux_lemma => kernel_rfl) laidOut mapsRow (by as_aux_lemma => kernel_rfl) (by as_aux_lemma => kernel_rfl) rfl noStops rfl noKnobs (by as_aux_lemma => kernel_rfl) (by as_aux_lemma => kernel_rfl) (by as_aux_lemma => kernel_rfl) (by as_aux_lemma => kernel_rfl) (by as_aux_lemma => kernel_rfl) (by as_aux_lemma => kernel_rfl) (by as_aux_lemma => kernel_rfl) (by as_aux_lemma => kernel_rfl) (by as_aux_lemma => kernel_rfl) (by as_aux_lemma => kernel_rfl) (by as_aux_lemma => kernel_rfl) (by as_aux_lemma => kernel_rfl) (by as_aux_lemma => kernel_rfl) keysPlain rfl heard enters finals isMake rfl rfl rfl (by as_aux_lemma => kernel_rfl) (by as_aux_lemma => kernel_rfl)

theorem cb_row : Rows.FnExactCombinedSaid :=
  OpenClaim.holds_of_wide 6 Tryd.f6 rfl rfl rfl rfl rfl rfl rfl ⟨rfl, rfl, rfl, rfl, rfl⟩ rfl rfl rfl rfl rfl (by as_aux_lemma => kernel_rfl) Tryd.func6 cb_facts
    (of_decide_eq_true (by as_aux_lemma => kernel_rfl)) (by unfold Func.isWrapper; first | (rw [if_pos (by decide +kernel)]; kernel_rfl) | (rw [if_neg (by decide +kernel)]; exact ⟨rfl, rfl⟩))
    (fun os started H enc _ => cb_lifted os started H enc)

/-- The given statement. -/
theorem cb_holds : Rows.FnExactCombinedCardSaid :=
  Claim7.holds_tied_plain_at .later [] Rows.fnExactCombinedCard.laidKinds true Rows.fnExactCombinedCard.stood.harness true
    cb_row (fun _ h => by cases h) (by kernel_rfl) (fun _ h => by cases h) fnExactCombined_row_tie rfl ⟨rfl, rfl⟩ (by kernel_rfl) rfl
    (fun f fn hf hfn => by
      obtain rfl : f = 6 := Option.some.inj ((show Tryd.prog.funcNamed "loop.example/g00656/laws.FnExactCombined" = some 6 by kernel_rfl).symm.trans hf) |>.symm
      obtain rfl : fn = Tryd.f6 := (Option.some.inj (Tryd.func6.symm.trans hfn)).symm
      exact ⟨by kernel_rfl, fun j t ht => noStandIn (by rw [Tryd.params6]; kernel_rfl) j t ht⟩)
    (by kernel_rfl)
#print axioms cb_holds
end Go.Proofs.YtddadndebgbmiaaDoor
