/- However long a way takes, and back, an offset is wrong by no more than half of both, up to a whole number: at all drawn times. -/
import Derived.Test.YtbabkpcefpacpaaDoorSampleMk
import Derived.Test.YtbabkpcefpacpaaDoorDraw3
import Derived.Test.YtbabkpcefpacpaaDoorTie
import Derived.Deep.RegionWith
import Derived.Test.YtbabkpcefpacpaaDoorCards
namespace Go.Proofs.YtbabkpcefpacpaaDoor
open Go.ChangeShapes Go.WideShapes Go.ChangeAt Go.RowKit
set_option linter.unusedVariables false
set_option linter.unusedSimpArgs false

/-- How far a number is from nought. -/
def absV (n : Int) : Int := if 0 ≤ n then n else -n
theorem abs_c (n : Int) (h0 : -4611686018427387904 ≤ n) (h1 : n ≤ 4611686018427387904) (w : World) :
    Calls Tryd.prog 27 #[.int .i64 n] w fun e w' => e = .returned (.int .i64 (absV n)) ∧ w = w' := by
  rcases Int.lt_trichotomy n 0 with h | h | h
  · have e : absV n = -n := by unfold absV; rw [if_neg (by omega)]
    rw [e]
    go_enter Tryd.func27, Tryd.ntmps27
    go_wp2
    all_goals first
      | (go_returns; exact ⟨rfl, rfl⟩)
      | (exfalso; omega)
  · subst h
    go_enter Tryd.func27, Tryd.ntmps27
    go_wp2
    go_returns
    exact ⟨rfl, rfl⟩
  · have e : absV n = n := by unfold absV; rw [if_pos (by omega)]
    rw [e]
    go_enter Tryd.func27, Tryd.ntmps27
    go_wp2
    all_goals first
      | (go_returns; exact ⟨rfl, rfl⟩)
      | (exfalso; omega)

theorem below_drew {B : Nat} {a w : World} (h : Below B a w) : Below B a w.drew := h.trans ⟨rfl, rfl, rfl, Nat.le_refl _, fun _ _ => rfl⟩

set_option maxHeartbeats 2000000 in
theorem bound_walk (w : World) {ao an au ab : Addr} {tx : List UInt8} (L : Ld w ao an au) (B : Sent w 3 tx ab) (x : Option Addr) (n cap z : Nat) (hz : z = n ∧ Code w.heap.size w (.slice x n cap) n) :
    Calls Tryd.prog 8 #[.slice x n cap] w fun e w' => e = .returned (.bool true) ∧ Below w.heap.size w w' := by
  obtain ⟨_, hc⟩ := hz
  by_cases hbig : n ≤ 1048576
  · go_enter Tryd.func8, Tryd.ntmps8
    go_wp2_with (go_at_call 24; go_in)
    refine (drawSampleOf_c x n cap _ hc hbig).mono ?_
    rintro e w1 ⟨a, b, c, d, rfl, hb1⟩
    have hI := @sampleOf_impl a b c d
    have hS := sampleOf_spec a b c d
    obtain ⟨v, hv⟩ : ∃ v, smOfV a b c d = v := ⟨_, rfl⟩
    obtain ⟨ok, hk⟩ : ∃ k, smOfOk a b c d = k := ⟨_, rfl⟩
    rw [hv, hk] at hS hI
    have HV := Lib.hid hv
    have HK := Lib.hid hk
    have HI := Lib.hid hI
    have HS := Lib.hid hS
    clear hv hk hI hS
    go_wp2_with fail
    refine (HS.out _).mono ?_
    rintro e w2 ⟨rfl, hb2⟩
    have g2 := grow_next hb1 hb2
    have g2' : Below w.heap.size w (w2.alloc (.cells #[.int .i64 v.off, .int .i64 v.delay, .int .i64 v.disp, .int .i64 v.at_] 25)) := g2.alloc (by have := g2.size; omega) _
    go_wp2_with fail
    refine (HI.out _ (L.next g2') (B.next g2')).mono ?_
    rintro e w3 ⟨rfl, hb3⟩
    have g3 := grow_next g2' hb3
    have P3 := blk_new w3 (.cells #[.int .i64 v.off, .int .i64 v.delay, .int .i64 v.disp, .int .i64 v.at_] 25)
    have g4 : Below w.heap.size w (w3.alloc (.cells #[.int .i64 v.off, .int .i64 v.delay, .int .i64 v.disp, .int .i64 v.at_] 25)) := g3.alloc (by have := g3.size; omega) _
    cases ok with
    | false =>
      go_wp2_with fail
      go_returns
      exact ⟨rfl, g4⟩
    | true =>
      obtain ⟨hw, ho⟩ := smOfOk_parts HK.out
      have hv : v = smOf a b c d := HV.out.symm.trans (smOfV_yes HK.out)
      obtain ⟨⟨a0, a1⟩, ⟨b0, b1⟩, ⟨c0, c1⟩, ⟨d0, d1⟩, ad, bc⟩ := waysOk_iff.1 hw
      rw [← hv] at ho
      obtain ⟨⟨u0, u1⟩, ⟨t0, t1⟩, ⟨s0, s1⟩, _⟩ := Sm.ok_iff.1 ho
      have eo : v.off = (b - a + c - d) / 2 := by rw [hv]; rfl
      have ed : v.delay = d - a - (c - b) := by rw [hv]; rfl
      have EO := Lib.hid eo
      have ED := Lib.hid ed
      have F : ∀ k : Int, 0 ≤ k → k ≤ 4 → decide (absV (v.off - (c - d + (b - a - (c - d)) / 4 * k)) ≤ (v.delay + 1) / 2) = true := fun k k0 k1 => by
        rw [eo, ed]
        have q0 : 0 ≤ (b - a - (c - d)) / 4 := by omega
        obtain ⟨q, hq⟩ : ∃ q, (b - a - (c - d)) / 4 = q := ⟨_, rfl⟩
        have hk : q * k = 0 ∨ q * k = q ∨ q * k = q * 2 ∨ q * k = q * 3 ∨ q * k = q * 4 := by
          rcases (show k = 0 ∨ k = 1 ∨ k = 2 ∨ k = 3 ∨ k = 4 by omega) with rfl | rfl | rfl | rfl | rfl <;> omega
        obtain ⟨qk, hqk⟩ : ∃ qk, q * k = qk := ⟨_, rfl⟩
        rw [hq, hqk]
        rw [hqk] at hk
        simp only [decide_eq_true_eq]
        unfold absV
        split <;> omega
      have F2 : ∀ k : Int, 0 ≤ k → k ≤ 4 → -8000000000000000 ≤ (b - a - (c - d)) / 4 * k ∧ (b - a - (c - d)) / 4 * k ≤ 8000000000000000 := fun k k0 k1 => by
        obtain ⟨q, hq⟩ : ∃ q, (b - a - (c - d)) / 4 = q := ⟨_, rfl⟩
        rw [hq]
        rcases (show k = 0 ∨ k = 1 ∨ k = 2 ∨ k = 3 ∨ k = 4 by omega) with rfl | rfl | rfl | rfl | rfl <;> omega
      have hlow : c - d ≤ b - a := by omega
      obtain ⟨x0, x1, x2, x3⟩ := sample_cells P3
      have HF := Lib.hid F
      have HF2 := Lib.hid F2
      clear hw ho hv eo ed F F2
      go_wp2_with fail
      go_loopw [11] (fun i wr => ∃ k : Nat, k ≤ 5 ∧ i = .int .i64 k ∧ wr.heap[w3.heap.size]? = some (.cells #[.int .i64 v.off, .int .i64 v.delay, .int .i64 v.disp, .int .i64 v.at_] 25) ∧ Below w.heap.size w wr) (fun i _ => 5 - (intOf i).toNat)
      case atStart => exact ⟨0, by omega, rfl, P3, g4⟩
      case round =>
        obtain ⟨k, hk, rfl, PR, GR⟩ := hrel
        obtain ⟨z0, z1, z2, z3⟩ := sample_cells PR
        by_cases hlt : k < 5
        · have m0 := HF2.out k (by omega) (by omega)
          have m1 := HF.out k (by omega) (by omega)
          obtain ⟨qk, hqk⟩ : ∃ qk, (b - a - (c - d)) / 4 * (k : Int) = qk := ⟨_, rfl⟩
          rw [hqk] at m0 m1
          obtain ⟨av, hav⟩ : ∃ av, absV (v.off - (c - d + qk)) = av := ⟨_, rfl⟩
          rw [hav] at m1
          have we : IntKind.i64.wrap (v.off - (c - d + qk)) = v.off - (c - d + qk) := Go.IntWalk.i64_in _ (by omega)
          have hA := abs_c (v.off - (c - d + qk)) (by omega) (by omega)
          rw [hav, ← we] at hA
          have HA := Lib.hid hA
          have m2 : av ≤ (v.delay + 1) / 2 := by simpa only [decide_eq_true_eq] using m1
          have m3 : decide ((v.delay + 1) / 2 < av) = false := decide_eq_false (by omega)
          have we3 : IntKind.i64.wrap ((IntKind.i64.wrap (v.delay + 1)).tdiv 2) = (v.delay + 1) / 2 := by
            rw [Go.IntWalk.i64_in (v.delay + 1) (by omega), tdiv_pos (by omega)]
            exact Go.IntWalk.i64_in _ (by omega)
          clear hA hav we
          go_wp2_with fail
          go_region_with (go_at_call 27; refine (HA.out _).mono ?_; rintro e w4 ⟨rfl, rfl⟩)
          all_goals
            go_wp2_with fail
            go_roundw
            all_goals first
              | exact ⟨⟨k + 1, by omega, by go_num, PR, below_drew GR⟩, by simp [intOf]; omega⟩
              | exact ⟨⟨k + 1, by omega, by go_num, PR, GR⟩, by simp [intOf]; omega⟩
              | exact ⟨k + 1, by omega, by go_num, PR, below_drew GR⟩
              | exact ⟨k + 1, by omega, by go_num, PR, GR⟩
              | (simp [intOf]; omega)
              | rfl
              | (exfalso; omega)
        · go_wp2_with fail
          go_returns
          exact ⟨rfl, GR⟩
  · go_enter Tryd.func8, Tryd.ntmps8
    go_wp2_with (go_at_call 24; go_in)
    go_returns
    exact ⟨rfl, Below.refl _ _⟩
theorem bound_met (os : Os) (args : Array Value) : laidMetH Tryd.prog Rows.fnBoundRow.laid ((World.doorLaid Tryd.prog 400 os).forCall (fun _ _ => 0) ⟨#[], args, []⟩).memory :=
  laidMetH_of_parts3 (fuel := 8) (laidMet_of_run' 8 (by kernel_rfl) (by kernel_rfl)) (by kernel_rfl) (by kernel_rfl)
set_option maxRecDepth 100000 in
theorem bound_lifted (os : Os) (started : os.Started) (H : Type) (enc : TypeId × Value → H) :
    ReturnsInHanded {} Tryd.checked os 8 .any (fun w args => (Rows.fnBoundSpec.pre enc Tryd.prog Tryd.f8 [] false w args ∧ laidMetH Tryd.prog Rows.fnBoundRow.laid w) ∧ sizedMet enc Tryd.prog Tryd.f8 (OpenSpec.ofChange Rows.fnBoundSpec) false w args) (Rows.fnBoundSpec.post enc Tryd.prog Tryd.f8 false true false false) := by
  refine lifted_of_walk_laid (C := Tryd.checked) own started (by as_aux_lemma => kernel_rfl) Tryd.func8
    (ChangeSpec.witness_shaped (enc := enc) (C := Tryd.checked) (os := os) (X := fun w _ => laidMetH Tryd.prog Rows.fnBoundRow.laid w) false (World.doorLaid Tryd.prog 400 os) #[.slice none 0 0] 8 rfl (World.shaped_of_RefB (by kernel_rfl) (by kernel_rfl)) (by kernel_rfl) (by kernel_rfl) (by kernel_rfl) (bound_met os _))
    laidOut (by as_aux_lemma => kernel_rfl) (by as_aux_lemma => kernel_rfl) rfl boolType
    (fun ds gs h hg => by
      match ds, gs, h, hg with
      | [_], [_, _, _, _], _, _ => rfl)
    ?_
  intro W base args ds q hval hA hL
  have laidRow : Rows.fnBoundRow.laid = Rows.fnBoundRow.laid := rfl
  obtain ⟨ao, an, au, L⟩ := ld_of hL (by simp [Rows.fnBoundRow, handleD, sentD, Rows.laid_errors_errorType, Rows.laid_loop_example_g00656_impl_errNoTime, Rows.laid_loop_example_g00656_impl_errOutside, Rows.laid_loop_example_g00656_impl_errUnsure, Rows.laid_loop_example_g00656_impl_errBack]) (by simp [Rows.fnBoundRow, handleD, sentD, Rows.laid_errors_errorType, Rows.laid_loop_example_g00656_impl_errNoTime, Rows.laid_loop_example_g00656_impl_errOutside, Rows.laid_loop_example_g00656_impl_errUnsure, Rows.laid_loop_example_g00656_impl_errBack]) (by simp [Rows.fnBoundRow, handleD, sentD, Rows.laid_errors_errorType, Rows.laid_loop_example_g00656_impl_errNoTime, Rows.laid_loop_example_g00656_impl_errOutside, Rows.laid_loop_example_g00656_impl_errUnsure, Rows.laid_loop_example_g00656_impl_errBack]) (by simp [Rows.fnBoundRow, handleD, sentD, Rows.laid_errors_errorType, Rows.laid_loop_example_g00656_impl_errNoTime, Rows.laid_loop_example_g00656_impl_errOutside, Rows.laid_loop_example_g00656_impl_errUnsure, Rows.laid_loop_example_g00656_impl_errBack])
  obtain ⟨ab, B⟩ := sentH_of (n := "loop.example/g00656/impl.errBack") (text := [116, 105, 109, 101, 32, 103, 111, 101, 115, 32, 98, 97, 99, 107]) (g := 3) hL (by simp [Rows.fnBoundRow, handleD, sentD, Rows.laid_errors_errorType, Rows.laid_loop_example_g00656_impl_errNoTime, Rows.laid_loop_example_g00656_impl_errOutside, Rows.laid_loop_example_g00656_impl_errUnsure, Rows.laid_loop_example_g00656_impl_errBack]) (by simp [Rows.fnBoundRow, handleD, sentD, Rows.laid_errors_errorType, Rows.laid_loop_example_g00656_impl_errNoTime, Rows.laid_loop_example_g00656_impl_errOutside, Rows.laid_loop_example_g00656_impl_errUnsure, Rows.laid_loop_example_g00656_impl_errBack]) (by kernel_rfl) (by kernel_rfl)
  clear hL
  rw [Tryd.params8] at hA hval
  obtain ⟨v0, vs0, d0, ds0, p0, q0, hargs, rfl, rfl, h0, r0⟩ := trodAll_cons hA
  obtain ⟨rfl, rfl, rfl⟩ := trodAll_nil r0
  obtain rfl : args = #[v0] := by cases args; simp_all
  obtain ⟨a0, len0, cap0, z0, rfl, w0⟩ := open_bytes Tryd.underlying35 Tryd.underlying5 (by as_aux_lemma => kernel_rfl) (hval 0 35 v0 rfl rfl) h0
  exact bound_walk W L B a0 len0 cap0 z0 w0

theorem bound_facts : joinedFacts Tryd.pinned.checked.prog 8 Tryd.f8 Rows.fnBoundSpec Rows.fnBoundRow = true :=
  facts_of (P := Tryd.prog) (by as_aux_lemma => kernel_rfl) laidOut mapsRow (by as_aux_lemma => kernel_rfl) (by as_aux_lemma => kernel_rfl) rfl noStops rfl noKnobs (by as_aux_lemma => kernel_rfl) (by as_aux_lemma => kernel_rfl) (by as_aux_lemma => kernel_rfl) (by as_aux_lemma => kernel_rfl) (by as_aux_lemma => kernel_rfl) (by as_aux_lemma => kernel_rfl) (by as_aux_lemma => kernel_rfl) (by as_aux_lemma => kernel_rfl) (by as_aux_lemma => kernel_rfl) (by as_aux_lemma => kernel_rfl) (by as_aux_lemma => kernel_rfl) (by as_aux_lemma => kernel_rfl) (by as_aux_lemma => kernel_rfl) keysPlain rfl heard enters finals isMake rfl rfl rfl (by as_aux_lemma => kernel_rfl) (by as_aux_lemma => kernel_rfl)

theorem bound_row : Rows.FnBoundSaid :=
  OpenClaim.holds_of_wide 8 Tryd.f8 rfl rfl rfl rfl rfl rfl rfl ⟨rfl, rfl, rfl, rfl, rfl⟩ rfl rfl rfl rfl rfl (by as_aux_lemma => kernel_rfl) Tryd.func8 bound_facts
    (of_decide_eq_true (by as_aux_lemma => kernel_rfl)) (by unfold Func.isWrapper; first | (rw [if_pos (by decide +kernel)]; kernel_rfl) | (rw [if_neg (by decide +kernel)]; exact ⟨rfl, rfl⟩))
    (fun os started H enc _ => bound_lifted os started H enc)

/-- The given statement. -/
theorem bound_holds : Rows.FnBoundCardSaid :=
  Claim7.holds_tied_plain_at .later [] Rows.fnBoundCard.laidKinds true Rows.fnBoundCard.stood.harness true
    bound_row (fun _ h => by cases h) (by kernel_rfl) (fun _ h => by cases h) fnBound_row_tie rfl ⟨rfl, rfl⟩ (by kernel_rfl) rfl
    (fun f fn hf hfn => by
      obtain rfl : f = 8 := Option.some.inj ((show Tryd.prog.funcNamed "loop.example/g00656/laws.FnBound" = some 8 by kernel_rfl).symm.trans hf) |>.symm
      obtain rfl : fn = Tryd.f8 := (Option.some.inj (Tryd.func8.symm.trans hfn)).symm
      exact ⟨by kernel_rfl, fun j t ht => noStandIn (by rw [Tryd.params8]; kernel_rfl) j t ht⟩)
    (by kernel_rfl)
#print axioms bound_holds
end Go.Proofs.YtbabkpcefpacpaaDoor
