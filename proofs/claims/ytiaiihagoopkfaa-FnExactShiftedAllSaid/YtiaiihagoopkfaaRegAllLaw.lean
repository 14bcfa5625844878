/- For every number and list of answers the program's ShiftedAll answers as the reference; its argument stays as it was. -/
import Derived.Test.YtiaiihagoopkfaaRegAll
namespace Go.Proofs.Ytiaiihagoopkfaa
open Go.ChangeShapes Go.WideShapes Go.ChangeAt Go.RowKit Go.Deep
set_option linter.unusedVariables false

set_option maxHeartbeats 1000000 in
theorem exAll_walk (W : World) (v : Int) (_ : (Lit.int .i64 v).wf = true) (x : Option Addr) (n cap : Nat) (l : List Bool) (h : Hid (n = l.length) ∧ n ≤ cap ∧ cap ≤ maxLen ∧ Bls W.heap.size W x l) :
    Calls Try.prog 7 #[.int .i64 v, .slice x n cap] W fun e w' => e = .returned (.bool true) ∧ Below W.heap.size W w' := by
  obtain ⟨hn, hnc, hcm, hr⟩ := h
  clear hnc hcm
  by_cases hlt : n ≤ 1048576
  · obtain ⟨u, hu⟩ : ∃ u, allV v l = u := ⟨_, rfl⟩
    have HS := Lib.hid (fun x cap w h => hu ▸ shiftedAll_spec v l n hn hlt x cap w h)
    have HI := Lib.hid (fun x cap w h => hu ▸ shiftedAll_impl v l n hn hlt x cap w h)
    have HT := Lib.hid (fun w h => toBoolS_c l n hn hlt x cap w h)
    have HE := Lib.hid (fun x y cap cap' w h h' => eqBoolS_c l n hn hlt x y cap cap' w h h')
    clear hu
    go_enter Try.func7, Try.ntmps7
    go_wp2_with fail
    refine (HT.out _ hr).mono ?_
    rintro e w1 ⟨g1, rfl, t1, _, b1⟩
    go_wp2_with fail
    refine (HS.out _ _ _ t1.bls).mono ?_
    rintro e w2 ⟨rfl, rfl⟩
    have G2 := b1
    go_wp2_with fail
    refine (HT.out _ (hr.next G2)).mono ?_
    rintro e w3 ⟨g3, rfl, t3, hg3, b3⟩
    have G3 := grow_next G2 b3
    go_wp2_with fail
    refine (HI.out _ _ _ t3.bls).mono ?_
    rintro e w4 ⟨rfl, rfl⟩
    have G4 := G3
    have t4 := t3
    go_wp2_with fail
    refine (HT.out _ (hr.next G4)).mono ?_
    rintro e w5 ⟨g5, rfl, t5, hg5, b5⟩
    have G5 := grow_next G4 b5
    have t5' := t4.next b5
    go_wp2_with fail
    refine (HE.out _ _ _ _ _ t5'.bls t5.bls).mono ?_
    rintro e w6 ⟨rfl, b6⟩
    have G6 := grow_next G5 b6
    go_wp2_with fail
    go_returns
    exact ⟨rfl, G6⟩
  · go_enter Try.func7, Try.ntmps7
    go_wp2_with fail
    go_returns
    exact ⟨rfl, Below.refl _ _⟩

set_option maxRecDepth 100000 in
theorem exAll_lifted (os : Os) (started : os.Started) (H : Type) (enc : TypeId × Value → H) :
    ReturnsInHanded {} Try.checked os 7 .any (Rows.fnExactShiftedAllSpec.pre6 enc Try.prog Try.f7 Rows.fnExactShiftedAllRow.domain false) (Rows.fnExactShiftedAllSpec.post enc Try.prog Try.f7 false true false false) := by
  refine lifted_of_walk (C := Try.checked) own started (by as_aux_lemma => kernel_rfl) Try.func7
    (ChangeSpec.witness6 (enc := enc) (C := Try.checked) false ⟨#[], #[.int .i64 0, .slice none 0 0], []⟩ 8 (by as_aux_lemma => kernel_rfl) (by as_aux_lemma => kernel_rfl) (by as_aux_lemma => kernel_rfl) (by as_aux_lemma => kernel_rfl) (by as_aux_lemma => kernel_rfl))
    laidOut rfl (by as_aux_lemma => kernel_rfl) (by as_aux_lemma => kernel_rfl) boolType
    (fun ds h => by
      match ds, h with
      | [_, _], _ => rfl)
    ?_
  intro W base args ds q hval hA
  rw [Try.params7] at hA hval
  obtain ⟨v0, vs0, d0, ds0, p0, q0, hargs, rfl, rfl, h0, r0⟩ := trodAll_cons hA
  obtain ⟨v1, vs1, d1, ds1, p1, q1, rfl, rfl, rfl, h1, r1⟩ := trodAll_cons r0
  obtain ⟨rfl, rfl, rfl⟩ := trodAll_nil r1
  obtain rfl : args = #[v0, v1] := by cases args; simp_all
  obtain ⟨a0, rfl, rfl, rfl, w0⟩ := open_int Try.underlying2 (hval 0 2 v0 rfl rfl) h0
  obtain ⟨a1, len1, cap1, z1, rfl, w1⟩ := open_bls (hval 1 28 v1 rfl rfl) h1
  exact exAll_walk W a0 w0 a1 len1 cap1 z1 w1

theorem exAll_facts : joinedFacts Try.pinned.checked.prog 7 Try.f7 Rows.fnExactShiftedAllSpec Rows.fnExactShiftedAllRow = true :=
  facts_of (P := Try.prog) (by as_aux_lemma => kernel_rfl) laidOut mapsRow (by as_aux_lemma => kernel_rfl) (by as_aux_lemma => kernel_rfl) rfl noStops rfl noKnobs (by as_aux_lemma => kernel_rfl) (by as_aux_lemma => kernel_rfl) (by as_aux_lemma => kernel_rfl) (by as_aux_lemma => kernel_rfl) (by as_aux_lemma => kernel_rfl) (by as_aux_lemma => kernel_rfl) (by as_aux_lemma => kernel_rfl) (by as_aux_lemma => kernel_rfl) (by as_aux_lemma => kernel_rfl) rfl (by as_aux_lemma => kernel_rfl) (by as_aux_lemma => kernel_rfl) (by as_aux_lemma => kernel_rfl) keysPlain rfl heard enters finals isMake rfl rfl rfl (by as_aux_lemma => kernel_rfl) (by as_aux_lemma => kernel_rfl)

/-- The given statement. -/
theorem exAll_holds : Rows.FnExactShiftedAllSaid :=
  OpenClaim.holds_of_wide 7 Try.f7 rfl rfl rfl rfl rfl rfl rfl ⟨rfl, rfl, rfl, rfl, rfl⟩ rfl rfl rfl rfl rfl (by as_aux_lemma => kernel_rfl) Try.func7 exAll_facts
    (of_decide_eq_true (by as_aux_lemma => kernel_rfl)) (by unfold Func.isWrapper; first | (rw [if_pos (by decide +kernel)]; kernel_rfl) | (rw [if_neg (by decide +kernel)]; exact ⟨rfl, rfl⟩))
    (fun os started H enc _ => exAll_lifted os started H enc)
#print axioms exAll_holds
end Go.Proofs.Ytiaiihagoopkfaa
