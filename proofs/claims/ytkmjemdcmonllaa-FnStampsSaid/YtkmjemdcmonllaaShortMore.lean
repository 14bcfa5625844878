/- A longer time is told by no fewer parts: at every drawn length. -/
import Derived.Test.YtkmjemdcmonllaaOrder
import Derived.Test.YtkmjemdcmonllaaDraw1
import Derived.WalkLawsBesides
namespace Go.Proofs.Ytkmjemdcmonllaa
open Go.ChangeShapes Go.WideShapes Go.ChangeAt Go.RowKit
set_option linter.unusedVariables false

theorem shortB_none {d : Int} (h : ¬ (0 ≤ d ∧ d ≤ 65535000000)) : shortB d = ⟨#[]⟩ := if_neg h
theorem shortB_some {d : Int} (h : 0 ≤ d ∧ d ≤ 65535000000) : (shortB d).toList.isEmpty = false := by
  unfold shortB
  rw [if_pos h, put4_toList]
  rfl

set_option maxHeartbeats 1000000 in
theorem shortMore_walk (w : World) (a : Option Addr) (n cap z : Nat) (hz : z = n ∧ Code w.heap.size w (.slice a n cap) n) :
    Calls Try.prog 8 #[.slice a n cap] w fun e w' => e = .returned (.bool true) ∧ Below w.heap.size w w' := by
  obtain ⟨_, hc⟩ := hz
  by_cases hbig : n ≤ 1048576
  · go_enter Try.func8, Try.ntmps8
    go_wp2_with (go_at_call 20; go_in)
    refine (drawShort_c a n cap _ hc hbig).mono ?_
    rintro e w1 ⟨d, d0, d1, rfl, hb1⟩
    go_wp2_with fail
    refine (shortBytes_impl d _).mono ?_
    rintro e w2 ⟨rfl, hb2⟩
    go_wp2_with fail
    refine (shortBytes_spec d _).mono ?_
    rintro e w3 ⟨rfl, hb3⟩
    by_cases hd : 0 ≤ d ∧ d ≤ 65535000000
    · have k1 := shortB_some hd
      have k2 : (!(shortB d).toList.isEmpty) = true := by rw [k1]; rfl
      go_wp2_with fail
      refine (shortBytes_impl (d + n) _).mono ?_
      rintro e w4 ⟨rfl, hb4⟩
      by_cases hd2 : d + n ≤ 65535000000
      · have k3 := shortB_some (d := d + n) (by omega)
        have k4 : (!(shortB (d + n)).toList.isEmpty) = true := by rw [k3]; rfl
        have k5 := short_more d (d + n) (by omega) hd2
        go_wp2_with fail
        go_returns
        exact ⟨rfl, grow_next (grow_next (grow_next hb1 hb2) hb3) hb4⟩
      · rw [shortB_none (d := d + n) (by omega)]
        go_wp2_with fail
        go_returns
        exact ⟨rfl, grow_next (grow_next (grow_next hb1 hb2) hb3) hb4⟩
    · rw [shortB_none hd]
      go_wp2_with fail
      refine (shortBytes_spec d _).mono ?_
      rw [shortB_none hd]
      rintro e w4 ⟨rfl, hb4⟩
      go_wp2_with fail
      go_returns
      exact ⟨rfl, grow_next (grow_next (grow_next hb1 hb2) hb3) hb4⟩
  · go_enter Try.func8, Try.ntmps8
    go_wp2_with (go_at_call 20; go_in)
    go_returns
    exact ⟨rfl, Below.refl _ _⟩

set_option maxRecDepth 100000 in
theorem shortMore_lifted (os : Os) (started : os.Started) (H : Type) (enc : TypeId × Value → H) :
    ReturnsInHanded {} Try.checked os 8 .any (Rows.fnShortMoreSpec.pre6 enc Try.prog Try.f8 Rows.fnShortMoreRow.domain false) (Rows.fnShortMoreSpec.post enc Try.prog Try.f8 false true false false) := by
  refine lifted_of_walk (C := Try.checked) own started (by as_aux_lemma => kernel_rfl) Try.func8
    (ChangeSpec.witness6 (enc := enc) (C := Try.checked) false ⟨#[], #[.slice none 0 0], []⟩ 8 (by as_aux_lemma => kernel_rfl) (by as_aux_lemma => kernel_rfl) (by as_aux_lemma => kernel_rfl) (by as_aux_lemma => kernel_rfl) (by as_aux_lemma => kernel_rfl))
    laidOut rfl (by as_aux_lemma => kernel_rfl) (by as_aux_lemma => kernel_rfl) boolType
    (fun ds h => by
      match ds, h with
      | [_], _ => rfl)
    ?_
  intro W base args ds q hval hA
  rw [Try.params8] at hA hval
  obtain ⟨v0, vs0, d0, ds0, p0, q0, hargs, rfl, rfl, h0, r0⟩ := trodAll_cons hA
  obtain ⟨rfl, rfl, rfl⟩ := trodAll_nil r0
  obtain rfl : args = #[v0] := by cases args; simp_all
  obtain ⟨a0, len0, cap0, z0, rfl, w0⟩ := open_bytes Try.underlying22 Try.underlying5 (by as_aux_lemma => kernel_rfl) (hval 0 22 v0 rfl rfl) h0
  exact shortMore_walk W a0 len0 cap0 z0 w0

theorem shortMore_facts : joinedFacts Try.pinned.checked.prog 8 Try.f8 Rows.fnShortMoreSpec Rows.fnShortMoreRow = true :=
  facts_of (P := Try.prog) (by as_aux_lemma => kernel_rfl) laidOut mapsRow (by as_aux_lemma => kernel_rfl) (by as_aux_lemma => kernel_rfl) rfl noStops rfl noKnobs (by as_aux_lemma => kernel_rfl) (by as_aux_lemma => kernel_rfl) (by as_aux_lemma => kernel_rfl) (by as_aux_lemma => kernel_rfl) (by as_aux_lemma => kernel_rfl) (by as_aux_lemma => kernel_rfl) (by as_aux_lemma => kernel_rfl) (by as_aux_lemma => kernel_rfl) (by as_aux_lemma => kernel_rfl) rfl (by as_aux_lemma => kernel_rfl) (by as_aux_lemma => kernel_rfl) (by as_aux_lemma => kernel_rfl) keysPlain rfl heard enters finals isMake rfl rfl rfl (by as_aux_lemma => kernel_rfl) (by as_aux_lemma => kernel_rfl)

/-- The given statement. -/
theorem shortMore_holds : Rows.FnShortMoreSaid :=
  OpenClaim.holds_of_wide 8 Try.f8 rfl rfl rfl rfl rfl rfl rfl ⟨rfl, rfl, rfl, rfl, rfl⟩ rfl rfl rfl rfl rfl (by as_aux_lemma => kernel_rfl) Try.func8 shortMore_facts
    (of_decide_eq_true (by as_aux_lemma => kernel_rfl)) (by unfold Func.isWrapper; first | (rw [if_pos (by decide +kernel)]; kernel_rfl) | (rw [if_neg (by decide +kernel)]; exact ⟨rfl, rfl⟩))
    (fun os started H enc _ => shortMore_lifted os started H enc)
#print axioms shortMore_holds
end Go.Proofs.Ytkmjemdcmonllaa
