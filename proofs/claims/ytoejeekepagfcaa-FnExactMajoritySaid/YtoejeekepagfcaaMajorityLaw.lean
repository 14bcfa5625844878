/- For every list of intervals the program's Majority answers as the reference; its argument stays as it was. -/
import Derived.Test.YtoejeekepagfcaaIvsL
import Derived.Test.YtoejeekepagfcaaMajority
namespace Go.Proofs.Ytoejeekepagfcaa
open Go.ChangeShapes Go.WideShapes Go.ChangeAt Go.RowKit
set_option linter.unusedVariables false
set_option linter.unusedSimpArgs false

theorem mj_walk (W : World) (x : Option Addr) (n cap : Nat) (l : List Iv) (h : Hid (n = l.length) ∧ n ≤ cap ∧ cap ≤ maxLen ∧ Ivs W.heap.size W x l) :
    Calls Try.prog 5 #[.slice x n cap] W fun e w' => e = .returned (.bool true) ∧ Below W.heap.size W w' := by
  obtain ⟨hn, hnc, hcm, hr⟩ := h
  have hnm : n ≤ maxLen := Nat.le_trans hnc hcm
  clear hnc hcm
  have hsz := szIntervalS_c n 1048576 (by omega) (by omega) hnm x cap
  by_cases hlt : n ≤ 1048576
  · have HZ := Lib.hid (fun w => show Calls Try.prog 13 #[.slice x n cap, .int .i64 1048576] w fun e w' => e = .returned (.int .i64 (1048576 - n)) ∧ w = w' by have := hsz w; rwa [if_pos (by omega)] at this)
    have h1 : (0 : Int) ≤ 1048576 - n := by omega
    have h2 : (1048576 : Int) - n ≤ 1048576 := by omega
    clear hsz
    have HS := Lib.hid (fun x cap w h => (majority_spec l n hn hlt x cap w h).mono fun _ _ h => maj_told h)
    have HI := Lib.hid (fun x cap w h => (majority_impl l n hn hlt x cap w h).mono fun _ _ h => maj_told h)
    have HT := Lib.hid (fun w h => toIntervalS_c l n hn hlt x cap w h)
    have HE := Lib.hid (fun x y cap cap' w h h' => eqIntervalS_c l n hn hnm x y cap cap' w h h')
    go_enter Try.func5, Try.ntmps5
    go_wp2_with fail
    refine (HZ.out _).mono ?_
    rintro e w1 ⟨rfl, rfl⟩
    go_wp2_with fail
    refine (HT.out _ hr).mono ?_
    rintro e w1 ⟨g1, rfl, t1, _, b1⟩
    go_wp2_with fail
    refine (HS.out _ _ _ t1.ivs).mono ?_
    rintro e w2 ⟨lo, hi, M, rfl, hA, b2⟩
    have HA := Lib.hid hA
    clear hA
    have G2 := grow_next b1 b2
    have V2 := blk_new w2 (.cells #[.int .i64 lo, .int .i64 hi] 25)
    have G2' : Below W.heap.size W (w2.alloc (.cells #[.int .i64 lo, .int .i64 hi] 25)) := G2.alloc (by have := G2.size; omega) _
    go_wp2_with fail
    refine (HT.out _ (hr.next G2')).mono ?_
    rintro e w3 ⟨g3, rfl, t3, _, b3⟩
    have G3 := grow_next G2' b3
    have V3 := blk_next b3 V2
    go_wp2_with fail
    refine (HI.out _ _ _ t3.ivs).mono ?_
    rintro e w4 ⟨lo', hi', M', rfl, hA', b4⟩
    obtain ⟨e1, e2, e3⟩ := HA.out.same hA'
    subst e1 e2 e3
    clear hA' HA
    have G4 := grow_next G3 b4
    have t4 := t3.next b4
    have V4 := blk_next b4 V3
    have l4 := (Array.getElem?_eq_some_iff.1 V4).1
    obtain ⟨v0, v1⟩ := iv_cells (q := ⟨lo, hi⟩) V4
    have G4' : Below W.heap.size W (w4.alloc (.cells #[.int .i64 lo, .int .i64 hi] 25)) := G4.alloc (by have := G4.size; omega) _
    have t4' : IvTab n (w4.alloc (.cells #[.int .i64 lo, .int .i64 hi] 25)) g3 l := t4.next (below_new _ _)
    dsimp only at v0 v1
    go_wp2_with fail
    refine (eqInterval_same ⟨lo, hi⟩ _).mono ?_
    rintro e w5 ⟨rfl, b5⟩
    have G5 := grow_next G4' b5
    have t5 := t4'.next b5
    go_wp2_with fail
    refine (HT.out _ (hr.next G5)).mono ?_
    rintro e w6 ⟨g6, rfl, t6, _, b6⟩
    have G6 := grow_next G5 b6
    have t5' := t5.next b6
    go_wp2_with fail
    refine (HE.out _ _ _ _ _ t5'.ivs t6.ivs).mono ?_
    rintro e w7 ⟨rfl, b7⟩
    have G7 := grow_next G6 b7
    go_wp2_with fail
    go_returns
    exact ⟨rfl, G7⟩
  · have HZ := Lib.hid (fun w => show Calls Try.prog 13 #[.slice x n cap, .int .i64 1048576] w fun e w' => e = .returned (.int .i64 (-1)) ∧ w = w' by have := hsz w; rwa [if_neg (by omega)] at this)
    clear hsz
    go_enter Try.func5, Try.ntmps5
    go_wp2_with fail
    refine (HZ.out _).mono ?_
    rintro e w1 ⟨rfl, rfl⟩
    go_wp2_with fail
    go_returns
    exact ⟨rfl, Below.refl _ _⟩

set_option maxRecDepth 100000 in
theorem mj_lifted (os : Os) (started : os.Started) (H : Type) (enc : TypeId × Value → H) :
    ReturnsInHanded {} Try.checked os 5 .any (Rows.fnExactMajoritySpec.pre6 enc Try.prog Try.f5 Rows.fnExactMajorityRow.domain false) (Rows.fnExactMajoritySpec.post enc Try.prog Try.f5 false true false false) := by
  refine lifted_of_walk (C := Try.checked) own started (by as_aux_lemma => kernel_rfl) Try.func5
    (ChangeSpec.witness6 (enc := enc) (C := Try.checked) false ⟨#[], #[.slice none 0 0], []⟩ 8 (by as_aux_lemma => kernel_rfl) (by as_aux_lemma => kernel_rfl) (by as_aux_lemma => kernel_rfl) (by as_aux_lemma => kernel_rfl) (by as_aux_lemma => kernel_rfl))
    laidOut rfl (by as_aux_lemma => kernel_rfl) (by as_aux_lemma => kernel_rfl) boolType
    (fun ds h => by
      match ds, h with
      | [_], _ => rfl)
    ?_
  intro W base args ds q hval hA
  rw [Try.params5] at hA hval
  obtain ⟨v0, vs0, d0, ds0, p0, q0, hargs, rfl, rfl, h0, r0⟩ := trodAll_cons hA
  obtain ⟨rfl, rfl, rfl⟩ := trodAll_nil r0
  obtain rfl : args = #[v0] := by cases args; simp_all
  obtain ⟨a0, len0, cap0, z0, rfl, w0⟩ := open_ivs (hval 0 22 v0 rfl rfl) h0
  exact mj_walk W a0 len0 cap0 z0 w0

theorem mj_facts : joinedFacts Try.pinned.checked.prog 5 Try.f5 Rows.fnExactMajoritySpec Rows.fnExactMajorityRow = true :=
  facts_of (P := Try.prog) (by as_aux_lemma => kernel_rfl) laidOut mapsRow (by as_aux_lemma => kernel_rfl) (by as_aux_lemma => kernel_rfl) rfl noStops rfl noKnobs (by as_aux_lemma => kernel_rfl) (by as_aux_lemma => kernel_rfl) (by as_aux_lemma => kernel_rfl) (by as_aux_lemma => kernel_rfl) (by as_aux_lemma => kernel_rfl) (by as_aux_lemma => kernel_rfl) (by as_aux_lemma => kernel_rfl) (by as_aux_lemma => kernel_rfl) (by as_aux_lemma => kernel_rfl) rfl (by as_aux_lemma => kernel_rfl) (by as_aux_lemma => kernel_rfl) (by as_aux_lemma => kernel_rfl) keysPlain rfl heard enters finals isMake rfl rfl rfl (by as_aux_lemma => kernel_rfl) (by as_aux_lemma => kernel_rfl)

/-- The given statement. -/
theorem mj_holds : Rows.FnExactMajoritySaid :=
  OpenClaim.holds_of_wide 5 Try.f5 rfl rfl rfl rfl rfl rfl rfl ⟨rfl, rfl, rfl, rfl, rfl⟩ rfl rfl rfl rfl rfl (by as_aux_lemma => kernel_rfl) Try.func5 mj_facts
    (of_decide_eq_true (by as_aux_lemma => kernel_rfl)) (by unfold Func.isWrapper; first | (rw [if_pos (by decide +kernel)]; kernel_rfl) | (rw [if_neg (by decide +kernel)]; exact ⟨rfl, rfl⟩))
    (fun os started H enc _ => mj_lifted os started H enc)
#print axioms mj_holds
end Go.Proofs.Ytoejeekepagfcaa
