/- For every text and key the program's ReadMac answers as the reference. -/
import Derived.Test.YtphmlpdohkfpiaaDoorReadMac
import Derived.Test.YtphmlpdohkfpiaaDoorShaLaw
import Derived.Test.YtphmlpdohkfpiaaDoorAsked
namespace Go.Proofs.YtphmlpdohkfpiaaDoor
open Go.ChangeShapes Go.WideShapes Go.ChangeAt Go.RowKit
set_option linter.unusedVariables false
set_option linter.unusedSimpArgs false

set_option maxRecDepth 100000 in
set_option maxHeartbeats 2000000 in
theorem rmacX_walk (W : World) (hp : ShaW W) (s : ByteArray) (hm : s.size ≤ maxLen) (k : ByteArray) (hmk : k.size ≤ maxLen) :
    Calls Tryd.prog 6 #[.string s, .string k] W fun e w' => e = .returned (.bool true) ∧ Below W.heap.size W w' := by
  by_cases hs : s.size ≤ 1048576
  · have hd : decide ((1048576 : Int) < (s.size : Int)) = false := decide_eq_false (by omega)
    by_cases hk : k.size ≤ 1048576
    · have hdk : decide ((1048576 : Int) < (k.size : Int)) = false := decide_eq_false (by omega)
      have HS := Lib.hid (fun w => readMac_s s k hs hk w)
      have HI := Lib.hid (fun w h => readMac_impl s k hs hk w h)
      obtain ⟨p, hpp⟩ : ∃ p, rmRes s k = p := ⟨_, rfl⟩
      obtain ⟨r, hr⟩ : ∃ r, rmOk s k = r := ⟨_, rfl⟩
      rw [hpp, hr] at HS HI
      clear hpp hr
      go_enter Tryd.func6, Tryd.ntmps6
      go_wp2_with fail
      refine (HS.out _).mono ?_
      rintro e w1 ⟨rfl, hb1⟩
      have Q1 := blk_new w1 (.cells #[.int .i64 p.leap, .int .i64 p.version, .int .i64 p.mode, .int .i64 p.stratum, .int .i64 p.poll, .int .i64 p.delay, .int .i64 p.disp, .int .i64 p.ref, .int .i64 p.orig, .int .i64 p.recv, .int .i64 p.xmit] 29)
      have G1 := hb1.alloc hb1.size (.cells #[.int .i64 p.leap, .int .i64 p.version, .int .i64 p.mode, .int .i64 p.stratum, .int .i64 p.poll, .int .i64 p.delay, .int .i64 p.disp, .int .i64 p.ref, .int .i64 p.orig, .int .i64 p.recv, .int .i64 p.xmit] 29)
      go_wp2_with fail
      refine (HI.out _ (hp.next G1)).mono ?_
      rintro e w2 ⟨rfl, hb2⟩
      have Q2 := blk_next hb2 Q1
      have G2 := grow_next G1 hb2
      have hs2 : w1.heap.size < w2.heap.size := (Array.getElem?_eq_some_iff.1 Q2).1
      obtain ⟨x0, x1, x2, x3, x4, x5, x6, x7, x8, x9, x10⟩ := packet_cells Q2
      go_wp2_with fail
      refine (eqPacket_same _ _).mono ?_
      rintro e w3 ⟨rfl, hb3⟩
      go_wp2_with fail
      go_returns
      exact ⟨rfl, grow_next (G2.alloc G2.size _) hb3⟩
    · have hdk : decide ((1048576 : Int) < (k.size : Int)) = true := decide_eq_true (by omega)
      go_enter Tryd.func6, Tryd.ntmps6
      go_wp2_with fail
      go_returns
      exact ⟨rfl, Below.refl _ _⟩
  · have hd : decide ((1048576 : Int) < (s.size : Int)) = true := decide_eq_true (by omega)
    go_enter Tryd.func6, Tryd.ntmps6
    go_wp2_with fail
    go_returns
    exact ⟨rfl, Below.refl _ _⟩
theorem rmacX_met (os : Os) (args : Array Value) : laidMetH Tryd.prog Rows.fnExactReadMacRow.laid ((World.doorLaid Tryd.prog 400 os).forCall (fun _ _ => 0) ⟨#[], args, []⟩).memory :=
  laidMetH_of_parts3 (fuel := 8) (laidMet_of_run' 8 (by kernel_rfl) (by kernel_rfl)) (by kernel_rfl) (by kernel_rfl)
set_option maxRecDepth 100000 in
theorem rmacX_lifted (os : Os) (started : os.Started) (H : Type) (enc : TypeId × Value → H) :
    ReturnsInHanded {} Tryd.checked os 6 .any (fun w args => (Rows.fnExactReadMacSpec.pre enc Tryd.prog Tryd.f6 [] false w args ∧ laidMetH Tryd.prog Rows.fnExactReadMacRow.laid w) ∧ sizedMet enc Tryd.prog Tryd.f6 (OpenSpec.ofChange Rows.fnExactReadMacSpec) false w args) (Rows.fnExactReadMacSpec.post enc Tryd.prog Tryd.f6 false true false false) := by
  refine lifted_of_walk_laid (C := Tryd.checked) own started (by as_aux_lemma => kernel_rfl) Tryd.func6
    (ChangeSpec.witness_shaped (enc := enc) (C := Tryd.checked) (os := os) (X := fun w _ => laidMetH Tryd.prog Rows.fnExactReadMacRow.laid w) false (World.doorLaid Tryd.prog 400 os) #[.string ByteArray.empty, .string ByteArray.empty] 8 rfl (World.shaped_of_RefB (by kernel_rfl) (by kernel_rfl)) (by kernel_rfl) (by kernel_rfl) (by kernel_rfl) (rmacX_met os _))
    laidOut (by as_aux_lemma => kernel_rfl) (by as_aux_lemma => kernel_rfl) rfl boolType
    (fun ds gs h hg => by
      match ds, gs, h, hg with
      | [_, _], [_, _], _, _ => rfl)
    ?_
  intro W base args ds q hval hA hL
  have laidRow : Rows.fnExactReadMacRow.laid = Rows.fnExactReadMacRow.laid := rfl
  have hp := shaW_of hL (by rfl) (by rfl)
  clear hL
  rw [Tryd.params6] at hA hval
  obtain ⟨v0, vs0, d0, ds0, p0, q0, hargs, rfl, rfl, h0, r0⟩ := trodAll_cons hA
  obtain ⟨v1, vs1, d1, ds1, p1, q1, rfl, rfl, rfl, h1, r1⟩ := trodAll_cons r0
  obtain ⟨rfl, rfl, rfl⟩ := trodAll_nil r1
  obtain rfl : args = #[v0, v1] := by cases args; simp_all
  obtain ⟨a0, rfl, rfl, rfl, w0⟩ := Go.ChangeMaps.open_string Tryd.underlying9 (hval 0 9 v0 rfl rfl) h0
  obtain ⟨a1, rfl, rfl, rfl, w1⟩ := Go.ChangeMaps.open_string Tryd.underlying9 (hval 1 9 v1 rfl rfl) h1
  exact rmacX_walk W hp a0 w0 a1 w1

set_option maxHeartbeats 4000000 in
theorem rmacX_facts : joinedFacts Tryd.pinned.checked.prog 6 Tryd.f6 Rows.fnExactReadMacSpec Rows.fnExactReadMacRow = true :=
  facts_of (P := Tryd.prog) (by as_aux_lemma => kernel_rfl) laidOut mapsRow (by as_aux_lemma => kernel_rfl) (by as_aux_lemma => kernel_rfl) rfl noStops rfl noKnobs (by as_aux_lemma => kernel_rfl) (by as_aux_lemma => kernel_rfl) (by as_aux_lemma => kernel_rfl) (by as_aux_lemma => kernel_rfl) (by as_aux_lemma => kernel_rfl) (by as_aux_lemma => kernel_rfl) (by as_aux_lemma => kernel_rfl) (by as_aux_lemma => kernel_rfl) (by as_aux_lemma => kernel_rfl) (by as_aux_lemma => kernel_rfl) (by as_aux_lemma => kernel_rfl) (by as_aux_lemma => kernel_rfl) (by as_aux_lemma => kernel_rfl) keysPlain rfl heard enters finals isMake rfl rfl rfl (by as_aux_lemma => kernel_rfl) (by as_aux_lemma => kernel_rfl)

theorem rmacX_row : Rows.FnExactReadMacSaid :=
  OpenClaim.holds_of_wide 6 Tryd.f6 rfl rfl rfl rfl rfl rfl rfl ⟨rfl, rfl, rfl, rfl, rfl⟩ rfl rfl rfl rfl rfl (by as_aux_lemma => kernel_rfl) Tryd.func6 rmacX_facts
    (of_decide_eq_true (by as_aux_lemma => kernel_rfl)) (by unfold Func.isWrapper; first | (rw [if_pos (by decide +kernel)]; kernel_rfl) | (rw [if_neg (by decide +kernel)]; exact ⟨rfl, rfl⟩))
    (fun os started H enc _ => rmacX_lifted os started H enc)

/-- The given statement. -/
theorem rmacX_holds : Rows.FnExactReadMacCardSaid :=
  Claim7.holds_tied_plain_at .later [] Rows.fnExactReadMacCard.laidKinds true Rows.fnExactReadMacCard.stood.harness false
    rmacX_row (fun _ h => by cases h) (by kernel_rfl) (fun _ h => by cases h) fnExactReadMac_row_tie rfl ⟨rfl, rfl⟩ (by kernel_rfl) rfl
    (fun f fn hf hfn => by
      obtain rfl : f = 6 := Option.some.inj ((show Tryd.prog.funcNamed "loop.example/g00656/laws.FnExactReadMac" = some 6 by kernel_rfl).symm.trans hf) |>.symm
      obtain rfl : fn = Tryd.f6 := (Option.some.inj (Tryd.func6.symm.trans hfn)).symm
      exact ⟨by kernel_rfl, fun j t ht => noStandIn (by rw [Tryd.params6]; kernel_rfl) j t ht⟩)
    (by kernel_rfl)
#print axioms rmacX_holds
end Go.Proofs.YtphmlpdohkfpiaaDoor
