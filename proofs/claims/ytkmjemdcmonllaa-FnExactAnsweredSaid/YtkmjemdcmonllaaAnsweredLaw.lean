/- For every packet, stratum and times the program's Answered answers as the reference. -/
import Derived.Test.YtkmjemdcmonllaaAnsweredSpec
namespace Go.Proofs.Ytkmjemdcmonllaa
open Go.ChangeShapes Go.WideShapes Go.ChangeAt Go.RowKit
set_option linter.unusedVariables false
set_option maxHeartbeats 4000000 in
theorem answered_walk (p : Pk) (st : Int) (_ : (Lit.int .i64 st).wf = true) (rv : Int) (_ : (Lit.int .i64 rv).wf = true) (xm : Int) (_ : (Lit.int .i64 xm).wf = true) (w : World) :
    Calls Try.prog 18 #[.agg #[.int .i64 p.leap, .int .i64 p.version, .int .i64 p.mode, .int .i64 p.stratum, .int .i64 p.poll, .int .i64 p.delay, .int .i64 p.disp, .int .i64 p.ref, .int .i64 p.orig, .int .i64 p.recv, .int .i64 p.xmit], .int .i64 st, .int .i64 rv, .int .i64 xm] w fun e w' => e = .returned (.bool true) ∧ Below w.heap.size w w' := by
  have Q := blk_new w (.cells #[.int .i64 p.leap, .int .i64 p.version, .int .i64 p.mode, .int .i64 p.stratum, .int .i64 p.poll, .int .i64 p.delay, .int .i64 p.disp, .int .i64 p.ref, .int .i64 p.orig, .int .i64 p.recv, .int .i64 p.xmit] 48)
  have hg : Below w.heap.size w (w.alloc (.cells #[.int .i64 p.leap, .int .i64 p.version, .int .i64 p.mode, .int .i64 p.stratum, .int .i64 p.poll, .int .i64 p.delay, .int .i64 p.disp, .int .i64 p.ref, .int .i64 p.orig, .int .i64 p.recv, .int .i64 p.xmit] 48)) := by go_grown
  go_enter Try.func18, Try.ntmps18
  go_wp2_with fail
  refine (toPacket_c p _).mono ?_
  rintro e w1 ⟨rfl, hb1⟩
  go_wp2_with fail
  refine (answered_spec p st rv xm _).mono ?_
  rintro e w2 ⟨rfl, hb2⟩
  have Q2 := packet_cells (blk_next hb2 (blk_next hb1 Q))
  have s1 := size_lt hb1 (k := w.heap.size) (by simp <;> omega)
  have s2 := size_lt hb2 s1
  go_wp2_with fail
  refine (toPacket_c p _).mono ?_
  rintro e w3 ⟨rfl, hb3⟩
  obtain ⟨hc3, hf3⟩ := bcell hb3
  have s3 := size_lt hb3 (k := w2.heap.size) (by simp <;> omega)
  clear Q2 s1 s2
  go_wp2_with fail
  refine (answered_impl p st rv xm _).mono ?_
  rintro e w4 ⟨rfl, hb4⟩
  obtain ⟨hc4, hf4⟩ := bcell hb4
  have s4 := size_lt hb4 s3
  go_wp2_with fail
  refine (eqPacket_same _ _).mono ?_
  rintro e w5 ⟨rfl, hb5⟩
  go_wp2_with fail
  go_returns
  have g1 := grow_next (grow_next hg hb1) hb2
  have g3 := grow_next (g1.alloc (by have := g1.size; omega) _) hb3
  have g4 := grow_next g3 hb4
  exact ⟨rfl, grow_next (g4.alloc (by have := g4.size; omega) _) hb5⟩

set_option maxRecDepth 100000 in
theorem answered_lifted (os : Os) (started : os.Started) (H : Type) (enc : TypeId × Value → H) :
    ReturnsInHanded {} Try.checked os 18 .any (Rows.fnExactAnsweredSpec.pre6 enc Try.prog Try.f18 Rows.fnExactAnsweredRow.domain false) (Rows.fnExactAnsweredSpec.post enc Try.prog Try.f18 false true false false) := by
  refine lifted_of_walk (C := Try.checked) own started (by as_aux_lemma => kernel_rfl) Try.func18
    (ChangeSpec.witness6 (enc := enc) (C := Try.checked) false ⟨#[], #[.agg #[.int .i64 0, .int .i64 0, .int .i64 0, .int .i64 0, .int .i64 0, .int .i64 0, .int .i64 0, .int .i64 0, .int .i64 0, .int .i64 0, .int .i64 0], .int .i64 0, .int .i64 0, .int .i64 0], []⟩ 8 (by as_aux_lemma => kernel_rfl) (by as_aux_lemma => kernel_rfl) (by as_aux_lemma => kernel_rfl) (by as_aux_lemma => kernel_rfl) (by as_aux_lemma => kernel_rfl))
    laidOut rfl (by as_aux_lemma => kernel_rfl) (by as_aux_lemma => kernel_rfl) boolType
    (fun ds h => by
      match ds, h with
      | [_, _, _, _], _ => rfl)
    ?_
  intro W base args ds q hval hA
  rw [Try.params18] at hA hval
  obtain ⟨v0, vs0, d0, ds0, p0, q0, hargs, rfl, rfl, h0, r0⟩ := trodAll_cons hA
  obtain ⟨v1, vs1, d1, ds1, p1, q1, rfl, rfl, rfl, h1, r1⟩ := trodAll_cons r0
  obtain ⟨v2, vs2, d2, ds2, p2, q2, rfl, rfl, rfl, h2, r2⟩ := trodAll_cons r1
  obtain ⟨v3, vs3, d3, ds3, p3, q3, rfl, rfl, rfl, h3, r3⟩ := trodAll_cons r2
  obtain ⟨rfl, rfl, rfl⟩ := trodAll_nil r3
  obtain rfl : args = #[v0, v1, v2, v3] := by cases args; simp_all
  obtain ⟨a0, rfl⟩ := open_packet (hval 0 48 v0 rfl rfl) h0
  obtain ⟨a1, rfl, rfl, rfl, w1⟩ := open_int Try.underlying2 (hval 1 2 v1 rfl rfl) h1
  obtain ⟨a2, rfl, rfl, rfl, w2⟩ := open_int Try.underlying2 (hval 2 2 v2 rfl rfl) h2
  obtain ⟨a3, rfl, rfl, rfl, w3⟩ := open_int Try.underlying2 (hval 3 2 v3 rfl rfl) h3
  exact answered_walk a0 a1 w1 a2 w2 a3 w3 W

theorem answered_facts : joinedFacts Try.pinned.checked.prog 18 Try.f18 Rows.fnExactAnsweredSpec Rows.fnExactAnsweredRow = true :=
  facts_of (P := Try.prog) (by as_aux_lemma => kernel_rfl) laidOut mapsRow (by as_aux_lemma => kernel_rfl) (by as_aux_lemma => kernel_rfl) rfl noStops rfl noKnobs (by as_aux_lemma => kernel_rfl) (by as_aux_lemma => kernel_rfl) (by as_aux_lemma => kernel_rfl) (by as_aux_lemma => kernel_rfl) (by as_aux_lemma => kernel_rfl) (by as_aux_lemma => kernel_rfl) (by as_aux_lemma => kernel_rfl) (by as_aux_lemma => kernel_rfl) (by as_aux_lemma => kernel_rfl) rfl (by as_aux_lemma => kernel_rfl) (by as_aux_lemma => kernel_rfl) (by as_aux_lemma => kernel_rfl) keysPlain rfl heard enters finals isMake rfl rfl rfl (by as_aux_lemma => kernel_rfl) (by as_aux_lemma => kernel_rfl)

/-- The given statement. -/
theorem answered_holds : Rows.FnExactAnsweredSaid :=
  OpenClaim.holds_of_wide 18 Try.f18 rfl rfl rfl rfl rfl rfl rfl ⟨rfl, rfl, rfl, rfl, rfl⟩ rfl rfl rfl rfl rfl (by as_aux_lemma => kernel_rfl) Try.func18 answered_facts
    (of_decide_eq_true (by as_aux_lemma => kernel_rfl)) (by unfold Func.isWrapper; first | (rw [if_pos (by decide +kernel)]; kernel_rfl) | (rw [if_neg (by decide +kernel)]; exact ⟨rfl, rfl⟩))
    (fun os started H enc _ => answered_lifted os started H enc)
#print axioms answered_holds
end Go.Proofs.Ytkmjemdcmonllaa
