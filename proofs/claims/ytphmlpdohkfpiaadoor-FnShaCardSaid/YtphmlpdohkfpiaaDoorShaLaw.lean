/- For every text the program's Sha256 answers as the reference, its Hmac for every key and text. -/
import Derived.Test.YtphmlpdohkfpiaaDoorMaskI
import Derived.Test.YtphmlpdohkfpiaaDoorShaS
import Derived.Test.YtphmlpdohkfpiaaDoorFrameL
import Derived.Lib.LaidTab
import Derived.Test.YtphmlpdohkfpiaaDoorTie
import Derived.Test.YtphmlpdohkfpiaaDoorCards
import Derived.LaidSub
import Derived.MakeChecks
import Derived.Stop.LaidErr
import Derived.Lay
namespace Go.Proofs.YtphmlpdohkfpiaaDoor
open Go.ChangeShapes Go.WideShapes Go.ChangeAt Go.RowKit
set_option linter.unusedVariables false
set_option linter.unusedSimpArgs false

theorem var_blk {w : World} {n : String} {g : Nat} {cs : Array Value} (hg : Tryd.prog.globalNamed n = some g) (h : w.var? Tryd.prog n = some cs) : ∃ T fr, w.heap[g]? = some (.cells cs T fr) := by
  unfold World.var? at h
  rw [hg] at h
  simp only [Option.bind_some] at h
  split at h
  · rename_i c t f he
    simp only [Option.some.injEq] at h
    subst h
    exact ⟨_, _, he⟩
  · cases h
set_option maxRecDepth 100000 in
theorem shaW_of {W : World} {l : List (String × DataW Unit)} (h : laidMetH Tryd.prog l W)
    (h1 : l.filter (fun x => x.1 == "loop.example/g00656/impl.firstWords") = [("loop.example/g00656/impl.firstWords", Lib.tabData .u32 firstV.list)])
    (h2 : l.filter (fun x => x.1 == "loop.example/g00656/impl.roundWords") = [("loop.example/g00656/impl.roundWords", Lib.tabData .u32 kL)]) : ShaW W := by
  have a1 := h.filter (fun x => x.1 == "loop.example/g00656/impl.firstWords")
  rw [h1] at a1
  rw [Go.MakeChecks.laidMetH_plain _ _ _ (by rfl)] at a1
  have b1 := Lib.tabIs_of_head (g := 0) (t := 55) (e := 53) (n := 8) (by kernel_rfl) (by kernel_rfl) (by kernel_rfl) (by kernel_rfl) (by kernel_rfl) (by kernel_rfl) a1
  have a2 := h.filter (fun x => x.1 == "loop.example/g00656/impl.roundWords")
  rw [h2] at a2
  rw [Go.MakeChecks.laidMetH_plain _ _ _ (by rfl)] at a2
  have b2 := Lib.tabIs_of_head (g := 1) (t := 57) (e := 53) (n := 64) (by kernel_rfl) (by kernel_rfl) (by kernel_rfl) (by kernel_rfl) (by kernel_rfl) (by kernel_rfl) a2
  exact ⟨var_blk (by kernel_rfl) b1, var_blk (by kernel_rfl) b2⟩
set_option maxHeartbeats 1000000 in
theorem shaX_walk (W : World) (hp : ShaW W) (s : ByteArray) (hm : s.size ≤ maxLen) :
    Calls Tryd.prog 3 #[.string s] W fun e w' => e = .returned (.bool true) ∧ Below W.heap.size W w' := by
  by_cases hs : s.size ≤ 1048576
  · have hd : decide ((1048576 : Int) < (s.size : Int)) = false := decide_eq_false (by omega)
    have HS := Lib.hid (fun w => show Calls Tryd.prog 10 #[.string s] w fun e w' => e = .returned (.string (shaV s)) ∧ Below w.heap.size w w' from sha_s s w)
    have HI := Lib.hid (fun w h => sha_impl s w h)
    obtain ⟨z, hz⟩ : ∃ z, shaV s = z := ⟨_, rfl⟩
    rw [hz] at HS HI
    clear hz
    have hq : (z.toList == z.toList) = true := by simp
    go_enter Tryd.func3, Tryd.ntmps3
    go_wp2_with fail
    refine (HS.out _).mono ?_
    rintro e w1 ⟨rfl, hb1⟩
    go_wp2_with fail
    refine (HI.out _ (hp.next hb1)).mono ?_
    rintro e w2 ⟨rfl, hb2⟩
    go_wp2_with fail
    go_returns
    exact ⟨rfl, grow_next hb1 hb2⟩
  · have hd : decide ((1048576 : Int) < (s.size : Int)) = true := decide_eq_true (by omega)
    go_enter Tryd.func3, Tryd.ntmps3
    go_wp2_with fail
    go_returns
    exact ⟨rfl, Below.refl _ _⟩
theorem shaX_met (os : Os) (args : Array Value) : laidMetH Tryd.prog Rows.fnExactSha256Row.laid ((World.doorLaid Tryd.prog 400 os).forCall (fun _ _ => 0) ⟨#[], args, []⟩).memory :=
  laidMetH_of_parts3 (fuel := 8) (laidMet_of_run' 8 (by kernel_rfl) (by kernel_rfl)) (by kernel_rfl) (by kernel_rfl)
set_option maxRecDepth 100000 in
theorem shaX_lifted (os : Os) (started : os.Started) (H : Type) (enc : TypeId × Value → H) :
    ReturnsInHanded {} Tryd.checked os 3 .any (fun w args => (Rows.fnExactSha256Spec.pre enc Tryd.prog Tryd.f3 [] false w args ∧ laidMetH Tryd.prog Rows.fnExactSha256Row.laid w) ∧ sizedMet enc Tryd.prog Tryd.f3 (OpenSpec.ofChange Rows.fnExactSha256Spec) false w args) (Rows.fnExactSha256Spec.post enc Tryd.prog Tryd.f3 false true false false) := by
  refine lifted_of_walk_laid (C := Tryd.checked) own started (by as_aux_lemma => kernel_rfl) Tryd.func3
    (ChangeSpec.witness_shaped (enc := enc) (C := Tryd.checked) (os := os) (X := fun w _ => laidMetH Tryd.prog Rows.fnExactSha256Row.laid w) false (World.doorLaid Tryd.prog 400 os) #[.string ByteArray.empty] 8 rfl (World.shaped_of_RefB (by kernel_rfl) (by kernel_rfl)) (by kernel_rfl) (by kernel_rfl) (by kernel_rfl) (shaX_met os _))
    laidOut (by as_aux_lemma => kernel_rfl) (by as_aux_lemma => kernel_rfl) rfl boolType
    (fun ds gs h hg => by
      match ds, gs, h, hg with
      | [_], [_, _], _, _ => rfl)
    ?_
  intro W base args ds q hval hA hL
  have laidRow : Rows.fnExactSha256Row.laid = Rows.fnExactSha256Row.laid := rfl
  have hp := shaW_of hL (by rfl) (by rfl)
  clear hL
  rw [Tryd.params3] at hA hval
  obtain ⟨v0, vs0, d0, ds0, p0, q0, hargs, rfl, rfl, h0, r0⟩ := trodAll_cons hA
  obtain ⟨rfl, rfl, rfl⟩ := trodAll_nil r0
  obtain rfl : args = #[v0] := by cases args; simp_all
  obtain ⟨a0, rfl, rfl, rfl, w0⟩ := Go.ChangeMaps.open_string Tryd.underlying9 (hval 0 9 v0 rfl rfl) h0
  exact shaX_walk W hp a0 w0

set_option maxHeartbeats 4000000 in
theorem shaX_facts : joinedFacts Tryd.pinned.checked.prog 3 Tryd.f3 Rows.fnExactSha256Spec Rows.fnExactSha256Row = true :=
  facts_of (P := Tryd.prog) (by as_aux_lemma => kernel_rfl) laidOut mapsRow (by as_aux_lemma => kernel_rfl) (by as_aux_lemma => kernel_rfl) rfl noStops rfl noKnobs (by as_aux_lemma => kernel_rfl) (by as_aux_lemma => kernel_rfl) (by as_aux_lemma => kernel_rfl) (by as_aux_lemma => kernel_rfl) (by as_aux_lemma => kernel_rfl) (by as_aux_lemma => kernel_rfl) (by as_aux_lemma => kernel_rfl) (by as_aux_lemma => kernel_rfl) (by as_aux_lemma => kernel_rfl) (by as_aux_lemma => kernel_rfl) (by as_aux_lemma => kernel_rfl) (by as_aux_lemma => kernel_rfl) (by as_aux_lemma => kernel_rfl) keysPlain rfl heard enters finals isMake rfl rfl rfl (by as_aux_lemma => kernel_rfl) (by as_aux_lemma => kernel_rfl)

theorem shaX_row : Rows.FnExactSha256Said :=
  OpenClaim.holds_of_wide 3 Tryd.f3 rfl rfl rfl rfl rfl rfl rfl ⟨rfl, rfl, rfl, rfl, rfl⟩ rfl rfl rfl rfl rfl (by as_aux_lemma => kernel_rfl) Tryd.func3 shaX_facts
    (of_decide_eq_true (by as_aux_lemma => kernel_rfl)) (by unfold Func.isWrapper; first | (rw [if_pos (by decide +kernel)]; kernel_rfl) | (rw [if_neg (by decide +kernel)]; exact ⟨rfl, rfl⟩))
    (fun os started H enc _ => shaX_lifted os started H enc)

/-- The given statement. -/
theorem shaX_holds : Rows.FnExactSha256CardSaid :=
  Claim7.holds_tied_plain_at .later [] Rows.fnExactSha256Card.laidKinds true Rows.fnExactSha256Card.stood.harness false
    shaX_row (fun _ h => by cases h) (by kernel_rfl) (fun _ h => by cases h) fnExactSha256_row_tie rfl ⟨rfl, rfl⟩ (by kernel_rfl) rfl
    (fun f fn hf hfn => by
      obtain rfl : f = 3 := Option.some.inj ((show Tryd.prog.funcNamed "loop.example/g00656/laws.FnExactSha256" = some 3 by kernel_rfl).symm.trans hf) |>.symm
      obtain rfl : fn = Tryd.f3 := (Option.some.inj (Tryd.func3.symm.trans hfn)).symm
      exact ⟨by kernel_rfl, fun j t ht => noStandIn (by rw [Tryd.params3]; kernel_rfl) j t ht⟩)
    (by kernel_rfl)
#print axioms shaX_holds
end Go.Proofs.YtphmlpdohkfpiaaDoor
