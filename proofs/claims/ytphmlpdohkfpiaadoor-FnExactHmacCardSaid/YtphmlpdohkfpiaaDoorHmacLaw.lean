/- For every key and text the program's Hmac answers as the reference. -/
import Derived.Test.YtphmlpdohkfpiaaDoorShaLaw
namespace Go.Proofs.YtphmlpdohkfpiaaDoor
open Go.ChangeShapes Go.WideShapes Go.ChangeAt Go.RowKit
set_option linter.unusedVariables false
set_option linter.unusedSimpArgs false

set_option maxHeartbeats 1000000 in
theorem hmacX_walk (W : World) (hp : ShaW W) (k : ByteArray) (hmk : k.size ≤ maxLen) (s : ByteArray) (hm : s.size ≤ maxLen) :
    Calls Tryd.prog 4 #[.string k, .string s] W fun e w' => e = .returned (.bool true) ∧ Below W.heap.size W w' := by
  by_cases hk : k.size ≤ 1048576
  · have hdk : decide ((1048576 : Int) < (k.size : Int)) = false := decide_eq_false (by omega)
    by_cases hs : s.size ≤ 1048576
    · have hd : decide ((1048576 : Int) < (s.size : Int)) = false := decide_eq_false (by omega)
      have HS := Lib.hid (fun w => show Calls Tryd.prog 12 #[.string k, .string s] w fun e w' => e = .returned (.string (hmacV k s)) ∧ Below w.heap.size w w' from hmac_s k s w)
      have HI := Lib.hid (fun w h => hmac_impl k s w h)
      obtain ⟨z, hz⟩ : ∃ z, hmacV k s = z := ⟨_, rfl⟩
      rw [hz] at HS HI
      clear hz
      have hq : (z.toList == z.toList) = true := by simp
      go_enter Tryd.func4, Tryd.ntmps4
      go_wp2_with fail
      refine (HS.out _).mono ?_
      rintro e w1 ⟨rfl, hb1⟩
      go_wp2_with fail
      refine (HI.out _ (hp.next hb1)).mono ?_
      rintro e w2 ⟨rfl, hb2⟩
      go_wp2_with fail
      go_returns
      exact ⟨rfl, grow_next hb1 hb2⟩
    · have hd : decide ((1048576 : Int) < (s.size : Int)) = true := decide_eq_true (by omega)
      go_enter Tryd.func4, Tryd.ntmps4
      go_wp2_with fail
      go_returns
      exact ⟨rfl, Below.refl _ _⟩
  · have hdk : decide ((1048576 : Int) < (k.size : Int)) = true := decide_eq_true (by omega)
    go_enter Tryd.func4, Tryd.ntmps4
    go_wp2_with fail
    go_returns
    exact ⟨rfl, Below.refl _ _⟩
theorem hmacX_met (os : Os) (args : Array Value) : laidMetH Tryd.prog Rows.fnExactHmacRow.laid ((World.doorLaid Tryd.prog 400 os).forCall (fun _ _ => 0) ⟨#[], args, []⟩).memory :=
  laidMetH_of_parts3 (fuel := 8) (laidMet_of_run' 8 (by kernel_rfl) (by kernel_rfl)) (by kernel_rfl) (by kernel_rfl)
set_option maxRecDepth 100000 in
theorem hmacX_lifted (os : Os) (started : os.Started) (H : Type) (enc : TypeId × Value → H) :
    ReturnsInHanded {} Tryd.checked os 4 .any (fun w args => (Rows.fnExactHmacSpec.pre enc Tryd.prog Tryd.f4 [] false w args ∧ laidMetH Tryd.prog Rows.fnExactHmacRow.laid w) ∧ sizedMet enc Tryd.prog Tryd.f4 (OpenSpec.ofChange Rows.fnExactHmacSpec) false w args) (Rows.fnExactHmacSpec.post enc Tryd.prog Tryd.f4 false true false false) := by
  refine lifted_of_walk_laid (C := Tryd.checked) own started (by as_aux_lemma => kernel_rfl) Tryd.func4
    (ChangeSpec.witness_shaped (enc := enc) (C := Tryd.checked) (os := os) (X := fun w _ => laidMetH Tryd.prog Rows.fnExactHmacRow.laid w) false (World.doorLaid Tryd.prog 400 os) #[.string ByteArray.empty, .string ByteArray.empty] 8 rfl (World.shaped_of_RefB (by kernel_rfl) (by kernel_rfl)) (by kernel_rfl) (by kernel_rfl) (by kernel_rfl) (hmacX_met os _))
    laidOut (by as_aux_lemma => kernel_rfl) (by as_aux_lemma => kernel_rfl) rfl boolType
    (fun ds gs h hg => by
      match ds, gs, h, hg with
      | [_, _], [_, _], _, _ => rfl)
    ?_
  intro W base args ds q hval hA hL
  have laidRow : Rows.fnExactHmacRow.laid = Rows.fnExactHmacRow.laid := rfl
  have hp := shaW_of hL (by rfl) (by rfl)
  clear hL
  rw [Tryd.params4] at hA hval
  obtain ⟨v0, vs0, d0, ds0, p0, q0, hargs, rfl, rfl, h0, r0⟩ := trodAll_cons hA
  obtain ⟨v1, vs1, d1, ds1, p1, q1, rfl, rfl, rfl, h1, r1⟩ := trodAll_cons r0
  obtain ⟨rfl, rfl, rfl⟩ := trodAll_nil r1
  obtain rfl : args = #[v0, v1] := by cases args; simp_all
  obtain ⟨a0, rfl, rfl, rfl, w0⟩ := Go.ChangeMaps.open_string Tryd.underlying9 (hval 0 9 v0 rfl rfl) h0
  obtain ⟨a1, rfl, rfl, rfl, w1⟩ := Go.ChangeMaps.open_string Tryd.underlying9 (hval 1 9 v1 rfl rfl) h1
  exact hmacX_walk W hp a0 w0 a1 w1

set_option maxHeartbeats 4000000 in
theorem hmacX_facts : joinedFacts Tryd.pinned.checked.prog 4 Tryd.f4 Rows.fnExactHmacSpec Rows.fnExactHmacRow = true :=
  facts_of (P := Tryd.prog) (by as_aux_lemma => kernel_rfl) laidOut mapsRow (by as_aux_lemma => kernel_rfl) (by as_aux_lemma => kernel_rfl) rfl noStops rfl noKnobs (by as_aux_lemma => kernel_rfl) (by as_aux_lemma => kernel_rfl) (by as_aux_lemma => kernel_rfl) (by as_aux_lemma => kernel_rfl) (by as_aux_lemma => kernel_rfl) (by as_aux_lemma => kernel_rfl) (by as_aux_lemma => kernel_rfl) (by as_aux_lemma => kernel_rfl) (by as_aux_lemma => kernel_rfl) (by as_aux_lemma => kernel_rfl) (by as_aux_lemma => kernel_rfl) (by as_aux_lemma => kernel_rfl) (by as_aux_lemma => kernel_rfl) keysPlain rfl heard enters finals isMake rfl rfl rfl (by as_aux_lemma => kernel_rfl) (by as_aux_lemma => kernel_rfl)

theorem hmacX_row : Rows.FnExactHmacSaid :=
  OpenClaim.holds_of_wide 4 Tryd.f4 rfl rfl rfl rfl rfl rfl rfl ⟨rfl, rfl, rfl, rfl, rfl⟩ rfl rfl rfl rfl rfl (by as_aux_lemma => kernel_rfl) Tryd.func4 hmacX_facts
    (of_decide_eq_true (by as_aux_lemma => kernel_rfl)) (by unfold Func.isWrapper; first | (rw [if_pos (by decide +kernel)]; kernel_rfl) | (rw [if_neg (by decide +kernel)]; exact ⟨rfl, rfl⟩))
    (fun os started H enc _ => hmacX_lifted os started H enc)

/-- The given statement. -/
theorem hmacX_holds : Rows.FnExactHmacCardSaid :=
  Claim7.holds_tied_plain_at .later [] Rows.fnExactHmacCard.laidKinds true Rows.fnExactHmacCard.stood.harness false
    hmacX_row (fun _ h => by cases h) (by kernel_rfl) (fun _ h => by cases h) fnExactHmac_row_tie rfl ⟨rfl, rfl⟩ (by kernel_rfl) rfl
    (fun f fn hf hfn => by
      obtain rfl : f = 4 := Option.some.inj ((show Tryd.prog.funcNamed "loop.example/g00656/laws.FnExactHmac" = some 4 by kernel_rfl).symm.trans hf) |>.symm
      obtain rfl : fn = Tryd.f4 := (Option.some.inj (Tryd.func4.symm.trans hfn)).symm
      exact ⟨by kernel_rfl, fun j t ht => noStandIn (by rw [Tryd.params4]; kernel_rfl) j t ht⟩)
    (by kernel_rfl)
#print axioms hmacX_holds
end Go.Proofs.YtphmlpdohkfpiaaDoor
