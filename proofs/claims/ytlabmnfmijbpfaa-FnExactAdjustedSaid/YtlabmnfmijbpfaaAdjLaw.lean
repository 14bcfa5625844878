/- For every clock and every offset and gap the program's Adjusted answers as the reference. -/
import Derived.Test.YtlabmnfmijbpfaaCkAdjI
import Derived.Test.YtlabmnfmijbpfaaCkAdjS
namespace Go.Proofs.Ytlabmnfmijbpfaa
open Go.ChangeShapes Go.WideShapes Go.ChangeAt Go.RowKit
set_option linter.unusedVariables false
set_option linter.unusedSimpArgs false

theorem adjusted_walk (c : Ck) (o : Int) (_ : (Lit.int .i64 o).wf = true) (g : Int) (_ : (Lit.int .i64 g).wf = true) (W : World) :
    Calls Try.prog 10 #[.agg #[.int .i64 c.st, .int .i64 c.off, .int .i64 c.fr, .int .i64 c.poll, .int .i64 c.calm], .int .i64 o, .int .i64 g] W fun e w' => e = .returned (.bool true) ∧ Below W.heap.size W w' := by
  have hS := adjusted_spec c o g
  have hI := adjusted_impl c o g
  obtain ⟨v, hv⟩ : ∃ v, adjV c o g = v := ⟨_, rfl⟩
  obtain ⟨n, hn⟩ : ∃ n, stepV c o g = n := ⟨_, rfl⟩
  obtain ⟨b, hb⟩ : ∃ b, adjOk c o g = b := ⟨_, rfl⟩
  rw [hv, hn, hb] at hS hI
  have HS := Lib.hid hS
  have HI := Lib.hid hI
  clear hS hI hv hn hb
  have Q := blk_new W (.cells #[.int .i64 c.st, .int .i64 c.off, .int .i64 c.fr, .int .i64 c.poll, .int .i64 c.calm] 36)
  have g0 : Below W.heap.size W (W.alloc (.cells #[.int .i64 c.st, .int .i64 c.off, .int .i64 c.fr, .int .i64 c.poll, .int .i64 c.calm] 36)) := by go_grown
  go_enter Try.func10, Try.ntmps10
  go_wp2_with fail
  refine (toClock_c c _).mono ?_
  rintro e w1 ⟨rfl, hb1⟩
  go_wp2_with fail
  refine (HS.out _).mono ?_
  rintro e w2 ⟨rfl, hb2⟩
  have Q2 := blk_next hb2 (blk_next hb1 Q)
  have X := ck_cells Q2
  have g2 := grow_next (grow_next g0 hb1) hb2
  have l2 := (Array.getElem?_eq_some_iff.1 Q2).1
  have P2 := blk_new w2 (.cells #[.int .i64 v.st, .int .i64 v.off, .int .i64 v.fr, .int .i64 v.poll, .int .i64 v.calm] 25)
  have g3 : Below W.heap.size W (w2.alloc (.cells #[.int .i64 v.st, .int .i64 v.off, .int .i64 v.fr, .int .i64 v.poll, .int .i64 v.calm] 25)) := g2.alloc (by have := g2.size; omega) _
  go_wp2_with fail
  refine (toClock_c c _).mono ?_
  rintro e w3 ⟨rfl, hb3⟩
  have P3 := blk_next hb3 P2
  have g4 := grow_next g3 hb3
  go_wp2_with fail
  refine (HI.out _).mono ?_
  rintro e w4 ⟨rfl, hb4⟩
  have P4 := blk_next hb4 P3
  have Y := ck_cells P4
  have l4 := (Array.getElem?_eq_some_iff.1 P4).1
  have g5 := grow_next g4 hb4
  have g6 : Below W.heap.size W (w4.alloc (.cells #[.int .i64 v.st, .int .i64 v.off, .int .i64 v.fr, .int .i64 v.poll, .int .i64 v.calm] 25)) := g5.alloc (by have := g5.size; omega) _
  go_wp2_with fail
  refine (eqClock_same v _).mono ?_
  rintro e w5 ⟨rfl, hb5⟩
  clear X Y
  cases b
  all_goals
    go_wp2_with fail
    go_returns
    exact ⟨rfl, grow_next g6 hb5⟩

set_option maxRecDepth 100000 in
theorem adjusted_lifted (os : Os) (started : os.Started) (H : Type) (enc : TypeId × Value → H) :
    ReturnsInHanded {} Try.checked os 10 .any (Rows.fnExactAdjustedSpec.pre6 enc Try.prog Try.f10 Rows.fnExactAdjustedRow.domain false) (Rows.fnExactAdjustedSpec.post enc Try.prog Try.f10 false true false false) := by
  refine lifted_of_walk (C := Try.checked) own started (by as_aux_lemma => kernel_rfl) Try.func10
    (ChangeSpec.witness6 (enc := enc) (C := Try.checked) false ⟨#[], #[.agg #[.int .i64 0, .int .i64 0, .int .i64 0, .int .i64 0, .int .i64 0], .int .i64 0, .int .i64 0], []⟩ 8 (by as_aux_lemma => kernel_rfl) (by as_aux_lemma => kernel_rfl) (by as_aux_lemma => kernel_rfl) (by as_aux_lemma => kernel_rfl) (by as_aux_lemma => kernel_rfl))
    laidOut rfl (by as_aux_lemma => kernel_rfl) (by as_aux_lemma => kernel_rfl) boolType
    (fun ds h => by
      match ds, h with
      | [_, _, _], _ => rfl)
    ?_
  intro W base args ds q hval hA
  rw [Try.params10] at hA hval
  obtain ⟨v0, vs0, d0, ds0, p0, q0, hargs, rfl, rfl, h0, r0⟩ := trodAll_cons hA
  obtain ⟨v1, vs1, d1, ds1, p1, q1, rfl, rfl, rfl, h1, r1⟩ := trodAll_cons r0
  obtain ⟨v2, vs2, d2, ds2, p2, q2, rfl, rfl, rfl, h2, r2⟩ := trodAll_cons r1
  obtain ⟨rfl, rfl, rfl⟩ := trodAll_nil r2
  obtain rfl : args = #[v0, v1, v2] := by cases args; simp_all
  obtain ⟨a0, rfl⟩ := open_clock (hval 0 36 v0 rfl rfl) h0
  obtain ⟨a1, rfl, rfl, rfl, w1⟩ := open_int Try.underlying2 (hval 1 2 v1 rfl rfl) h1
  obtain ⟨a2, rfl, rfl, rfl, w2⟩ := open_int Try.underlying2 (hval 2 2 v2 rfl rfl) h2
  exact adjusted_walk a0 a1 w1 a2 w2 W

theorem adjusted_facts : joinedFacts Try.pinned.checked.prog 10 Try.f10 Rows.fnExactAdjustedSpec Rows.fnExactAdjustedRow = true :=
  facts_of (P := Try.prog) (by as_aux_lemma => kernel_rfl) laidOut mapsRow (by as_aux_lemma => kernel_rfl) (by as_aux_lemma => kernel_rfl) rfl noStops rfl noKnobs (by as_aux_lemma => kernel_rfl) (by as_aux_lemma => kernel_rfl) (by as_aux_lemma => kernel_rfl) (by as_aux_lemma => kernel_rfl) (by as_aux_lemma => kernel_rfl) (by as_aux_lemma => kernel_rfl) (by as_aux_lemma => kernel_rfl) (by as_aux_lemma => kernel_rfl) (by as_aux_lemma => kernel_rfl) rfl (by as_aux_lemma => kernel_rfl) (by as_aux_lemma => kernel_rfl) (by as_aux_lemma => kernel_rfl) keysPlain rfl heard enters finals isMake rfl rfl rfl (by as_aux_lemma => kernel_rfl) (by as_aux_lemma => kernel_rfl)

/-- The given statement. -/
theorem adjusted_holds : Rows.FnExactAdjustedSaid :=
  OpenClaim.holds_of_wide 10 Try.f10 rfl rfl rfl rfl rfl rfl rfl ⟨rfl, rfl, rfl, rfl, rfl⟩ rfl rfl rfl rfl rfl (by as_aux_lemma => kernel_rfl) Try.func10 adjusted_facts
    (of_decide_eq_true (by as_aux_lemma => kernel_rfl)) (by unfold Func.isWrapper; first | (rw [if_pos (by decide +kernel)]; kernel_rfl) | (rw [if_neg (by decide +kernel)]; exact ⟨rfl, rfl⟩))
    (fun os started H enc _ => adjusted_lifted os started H enc)
#print axioms adjusted_holds
end Go.Proofs.Ytlabmnfmijbpfaa
