/- A question that is answered at once, by a clock that is right, tells no offset and no delay: at all drawn questions. -/
import Derived.Test.YtbabkpcefpacpaaDoorSampleMk
import Derived.Test.YtbabkpcefpacpaaDoorDraw2
import Derived.Test.YtbabkpcefpacpaaDoorAnswered
import Derived.Test.YtbabkpcefpacpaaDoorTie
import Derived.Test.YtbabkpcefpacpaaDoorCards
namespace Go.Proofs.YtbabkpcefpacpaaDoor
open Go.ChangeShapes Go.WideShapes Go.ChangeAt Go.RowKit
set_option linter.unusedVariables false
set_option linter.unusedSimpArgs false

theorem askOk_parts {now poll : Int} (h : askOk now poll = true) : (0 ≤ poll ∧ poll ≤ 17) ∧ (0 ≤ now ∧ now ≤ 4000000000000000) ∧ now ≠ 0 ∧ (Pk.ask now poll).ok = true := by
  have h2 : (Pk.ask now poll).ok = true := by
    unfold askOk at h
    exact (Bool.and_eq_true _ _ ▸ h).2
  have h1 : now ≠ 0 := by
    intro e
    subst e
    simp [askOk] at h
  have h3 := h2
  simp only [Pk.ok, Pk.head, Pk.steps, Pk.lengths, Pk.times, Pk.ask, Bool.and_eq_true, inB_iff] at h3
  exact ⟨by omega, by omega, h1, h2⟩

theorem asked_numbers {now poll : Int} (h : askOk now poll = true) :
    askPk now poll = ⟨0, 4, 3, 0, poll, 0, 0, 0, 0, 0, now⟩ ∧ ansOk ⟨0, 4, 3, 0, poll, 0, 0, 0, 0, 0, now⟩ 1 now now = true ∧
    ansPk ⟨0, 4, 3, 0, poll, 0, 0, 0, 0, 0, now⟩ 1 now now = ⟨0, 4, 4, 1, poll, 0, 0, 0, now, now, now⟩ ∧
    smOfOk now now now now = true ∧ smOfV now now now now = ⟨0, 0, 1, now⟩ := by
  obtain ⟨⟨p0, p1⟩, ⟨n0, n1⟩, hne, hok⟩ := askOk_parts h
  have e1 : askPk now poll = ⟨0, 4, 3, 0, poll, 0, 0, 0, 0, 0, now⟩ := by unfold askPk; rw [h]; rfl
  have e2 : (⟨0, 4, 4, 1, poll, 0, 0, 0, now, now, now⟩ : Pk).ok = true := by
    simp only [Pk.ok, Pk.head, Pk.steps, Pk.lengths, Pk.times, Bool.and_eq_true, inB_iff]
    omega
  have e3 : ansOk ⟨0, 4, 3, 0, poll, 0, 0, 0, 0, 0, now⟩ 1 now now = true := by
    have a1 : (⟨0, 4, 3, 0, poll, 0, 0, 0, 0, 0, now⟩ : Pk).asks = true := by
      unfold Pk.asks
      rw [show (⟨0, 4, 3, 0, poll, 0, 0, 0, 0, 0, now⟩ : Pk).ok = true from hok]
      simp [hne]
    have a2 : (Pk.ans ⟨0, 4, 3, 0, poll, 0, 0, 0, 0, 0, now⟩ 1 now now).answers = true := by
      unfold Pk.answers Pk.ans
      dsimp only
      rw [e2]
      simp [inB]
    unfold ansOk
    rw [a1, a2]
    rfl
  have e4 : waysOk now now now now = true := waysOk_iff.2 ⟨⟨n0, n1⟩, ⟨n0, n1⟩, ⟨n0, n1⟩, ⟨n0, n1⟩, Int.le_refl _, Int.le_refl _⟩
  have e5 : smOf now now now now = ⟨0, 0, 1, now⟩ := by
    unfold smOf
    rw [show now - now + now - now = 0 by omega, show now - now - (now - now) = 0 by omega, show now - now = 0 by omega]
    rfl
  have e6 : smOfOk now now now now = true := by
    unfold smOfOk
    rw [e4, e5, Bool.true_and, Sm.ok_iff]
    dsimp only
    omega
  exact ⟨e1, e3, by unfold ansPk; rw [e3]; rfl, e6, by rw [smOfV_yes e6, e5]⟩

theorem asked_valI {now poll : Int} {v : Pk} {k : Bool} (h : askPk now poll = v) (hk : askOk now poll = k) (w : World) :
    Calls Tryd.prog 31 #[.int .i64 now, .int .i64 poll] w fun e w' => e = .returned (.tuple #[.agg #[.int .i64 v.leap, .int .i64 v.version, .int .i64 v.mode, .int .i64 v.stratum, .int .i64 v.poll, .int .i64 v.delay, .int .i64 v.disp, .int .i64 v.ref, .int .i64 v.orig, .int .i64 v.recv, .int .i64 v.xmit], .bool k]) ∧ Below w.heap.size w w' := h ▸ hk ▸ asked_impl now poll w
theorem asked_val {now poll : Int} {v : Pk} {k : Bool} (h : askPk now poll = v) (hk : askOk now poll = k) (w : World) :
    Calls Tryd.prog 32 #[.int .i64 now, .int .i64 poll] w fun e w' => e = .returned (.tuple #[.agg #[.int .i64 v.leap, .int .i64 v.version, .int .i64 v.mode, .int .i64 v.stratum, .int .i64 v.poll, .int .i64 v.delay, .int .i64 v.disp, .int .i64 v.ref, .int .i64 v.orig, .int .i64 v.recv, .int .i64 v.xmit], .bool k]) ∧ Below w.heap.size w w' := h ▸ hk ▸ asked_spec now poll w
theorem ans_val {p : Pk} {st rv xm : Int} {v : Pk} {k : Bool} (h : ansPk p st rv xm = v) (hk : ansOk p st rv xm = k) (w : World) :
    Calls Tryd.prog 33 #[.agg #[.int .i64 p.leap, .int .i64 p.version, .int .i64 p.mode, .int .i64 p.stratum, .int .i64 p.poll, .int .i64 p.delay, .int .i64 p.disp, .int .i64 p.ref, .int .i64 p.orig, .int .i64 p.recv, .int .i64 p.xmit], .int .i64 st, .int .i64 rv, .int .i64 xm] w fun e w' => e = .returned (.tuple #[.agg #[.int .i64 v.leap, .int .i64 v.version, .int .i64 v.mode, .int .i64 v.stratum, .int .i64 v.poll, .int .i64 v.delay, .int .i64 v.disp, .int .i64 v.ref, .int .i64 v.orig, .int .i64 v.recv, .int .i64 v.xmit], .bool k]) ∧ Below w.heap.size w w' := h ▸ hk ▸ answered_impl p st rv xm w
theorem smp_val {a b c d : Int} {v : Sm} {k : Bool} (h : smOfV a b c d = v) (hk : smOfOk a b c d = k) (W : World) (ao an au ab : Addr) (tx : List UInt8) (L : Ld W ao an au) (B : Sent W 3 tx ab) :
    Calls Tryd.prog 18 #[.int .i64 a, .int .i64 b, .int .i64 c, .int .i64 d] W fun e w' => e = .returned (.tuple #[.agg #[.int .i64 v.off, .int .i64 v.delay, .int .i64 v.disp, .int .i64 v.at_], .bool k]) ∧ Below W.heap.size W w' := h ▸ hk ▸ sampleOf_impl a b c d W L B

set_option maxRecDepth 100000 in
set_option maxHeartbeats 4000000 in
theorem askedBack_walk (w : World) {ao an au ab : Addr} {tx : List UInt8} (L : Ld w ao an au) (B : Sent w 3 tx ab) (x : Option Addr) (n cap z : Nat) (hz : z = n ∧ Code w.heap.size w (.slice x n cap) n) :
    Calls Tryd.prog 12 #[.slice x n cap] w fun e w' => e = .returned (.bool true) ∧ Below w.heap.size w w' := by
  obtain ⟨_, hc⟩ := hz
  by_cases hbig : n ≤ 1048576
  · go_enter Tryd.func12, Tryd.ntmps12
    go_wp2_with (go_at_call 24; go_in)
    refine (drawAsked_c x n cap _ hc hbig).mono ?_
    rintro e w1 ⟨now, poll, _, _, rfl, hb1⟩
    cases hok : askOk now poll with
    | false =>
      obtain ⟨v, hv⟩ : ∃ v, askPk now poll = v := ⟨_, rfl⟩
      have HI := Lib.hid (fun w => asked_valI hv hok w)
      have HS := Lib.hid (fun w => asked_val hv hok w)
      clear hv hok
      go_wp2_with fail
      refine (HI.out _).mono ?_
      rintro e w2 ⟨rfl, hb2⟩
      have g2 := grow_next hb1 hb2
      have Q2 := blk_new w2 (.cells #[.int .i64 v.leap, .int .i64 v.version, .int .i64 v.mode, .int .i64 v.stratum, .int .i64 v.poll, .int .i64 v.delay, .int .i64 v.disp, .int .i64 v.ref, .int .i64 v.orig, .int .i64 v.recv, .int .i64 v.xmit] 46)
      have g2' : Below w.heap.size w (w2.alloc (.cells #[.int .i64 v.leap, .int .i64 v.version, .int .i64 v.mode, .int .i64 v.stratum, .int .i64 v.poll, .int .i64 v.delay, .int .i64 v.disp, .int .i64 v.ref, .int .i64 v.orig, .int .i64 v.recv, .int .i64 v.xmit] 46)) := g2.alloc (by have := g2.size; omega) _
      go_wp2_with fail
      refine (HS.out _).mono ?_
      rintro e w3 ⟨rfl, hb3⟩
      have g3 := grow_next g2' hb3
      have Q3 := blk_next hb3 Q2
      have l3 := (Array.getElem?_eq_some_iff.1 Q3).1
      obtain ⟨x0, x1, x2, x3, x4, x5, x6, x7, x8, x9, x10⟩ := packet_cells Q3
      go_wp2_with fail
      go_returns
      exact ⟨rfl, g3.alloc (by have := g3.size; omega) _⟩
    | true =>
      obtain ⟨e1, e2, e3, e4, e5⟩ := asked_numbers hok
      have HI := Lib.hid (fun w => asked_valI e1 hok w)
      have HS := Lib.hid (fun w => asked_val e1 hok w)
      have HA := Lib.hid (fun w => ans_val e3 e2 w)
      have HM := Lib.hid (fun W {ao an au ab tx} L B => smp_val e5 e4 W ao an au ab tx L B)
      clear e1 e2 e3 e4 e5 hok
      go_wp2_with fail
      refine (HI.out _).mono ?_
      rintro e w2 ⟨rfl, hb2⟩
      have g2 := grow_next hb1 hb2
      have Q2 := blk_new w2 (.cells #[.int .i64 0, .int .i64 4, .int .i64 3, .int .i64 0, .int .i64 poll, .int .i64 0, .int .i64 0, .int .i64 0, .int .i64 0, .int .i64 0, .int .i64 now] 46)
      have g2' : Below w.heap.size w (w2.alloc (.cells #[.int .i64 0, .int .i64 4, .int .i64 3, .int .i64 0, .int .i64 poll, .int .i64 0, .int .i64 0, .int .i64 0, .int .i64 0, .int .i64 0, .int .i64 now] 46)) := g2.alloc (by have := g2.size; omega) _
      go_wp2_with fail
      refine (HS.out _).mono ?_
      rintro e w3 ⟨rfl, hb3⟩
      have g3 := grow_next g2' hb3
      have Q3 := blk_next hb3 Q2
      have l3 := (Array.getElem?_eq_some_iff.1 Q3).1
      have g3' : Below w.heap.size w (w3.alloc (.cells #[.int .i64 0, .int .i64 4, .int .i64 3, .int .i64 0, .int .i64 poll, .int .i64 0, .int .i64 0, .int .i64 0, .int .i64 0, .int .i64 0, .int .i64 now] 46)) := g3.alloc (by have := g3.size; omega) _
      obtain ⟨x0, x1, x2, x3, x4, x5, x6, x7, x8, x9, x10⟩ := packet_cells (q := ⟨0, 4, 3, 0, poll, 0, 0, 0, 0, 0, now⟩) Q3
      dsimp only at x0 x1 x2 x3 x4 x5 x6 x7 x8 x9 x10
      go_wp2_with fail
      refine (HA.out _).mono ?_
      rintro e w4 ⟨rfl, hb4⟩
      have g4 := grow_next g3' hb4
      have g4' : Below w.heap.size w (w4.alloc (.cells #[.int .i64 0, .int .i64 4, .int .i64 4, .int .i64 1, .int .i64 poll, .int .i64 0, .int .i64 0, .int .i64 0, .int .i64 now, .int .i64 now, .int .i64 now] 46)) := g4.alloc (by have := g4.size; omega) _
      go_wp2_with fail
      refine (HM.out _ (L.next g4') (B.next g4')).mono ?_
      rintro e w5 ⟨rfl, hb5⟩
      have g5 := grow_next g4' hb5
      go_wp2_with fail
      go_returns
      exact ⟨by simp, g5.alloc (by have := g5.size; omega) _⟩
  · go_enter Tryd.func12, Tryd.ntmps12
    go_wp2_with (go_at_call 24; go_in)
    go_returns
    exact ⟨rfl, Below.refl _ _⟩

theorem askedBack_met (os : Os) (args : Array Value) : laidMetH Tryd.prog Rows.fnAskedBackRow.laid ((World.doorLaid Tryd.prog 400 os).forCall (fun _ _ => 0) ⟨#[], args, []⟩).memory :=
  laidMetH_of_parts3 (fuel := 8) (laidMet_of_run' 8 (by kernel_rfl) (by kernel_rfl)) (by kernel_rfl) (by kernel_rfl)
set_option maxRecDepth 100000 in
theorem askedBack_lifted (os : Os) (started : os.Started) (H : Type) (enc : TypeId × Value → H) :
    ReturnsInHanded {} Tryd.checked os 12 .any (fun w args => (Rows.fnAskedBackSpec.pre enc Tryd.prog Tryd.f12 [] false w args ∧ laidMetH Tryd.prog Rows.fnAskedBackRow.laid w) ∧ sizedMet enc Tryd.prog Tryd.f12 (OpenSpec.ofChange Rows.fnAskedBackSpec) false w args) (Rows.fnAskedBackSpec.post enc Tryd.prog Tryd.f12 false true false false) := by
  refine lifted_of_walk_laid (C := Tryd.checked) own started (by as_aux_lemma => kernel_rfl) Tryd.func12
    (ChangeSpec.witness_shaped (enc := enc) (C := Tryd.checked) (os := os) (X := fun w _ => laidMetH Tryd.prog Rows.fnAskedBackRow.laid w) false (World.doorLaid Tryd.prog 400 os) #[.slice none 0 0] 8 rfl (World.shaped_of_RefB (by kernel_rfl) (by kernel_rfl)) (by kernel_rfl) (by kernel_rfl) (by kernel_rfl) (askedBack_met os _))
    laidOut (by as_aux_lemma => kernel_rfl) (by as_aux_lemma => kernel_rfl) rfl boolType
    (fun ds gs h hg => by
      match ds, gs, h, hg with
      | [_], [_, _, _, _], _, _ => rfl)
    ?_
  intro W base args ds q hval hA hL
  have laidRow : Rows.fnAskedBackRow.laid = Rows.fnAskedBackRow.laid := rfl
  obtain ⟨ao, an, au, L⟩ := ld_of hL (by simp [Rows.fnAskedBackRow, handleD, sentD, Rows.laid_errors_errorType, Rows.laid_loop_example_g00656_impl_errNoTime, Rows.laid_loop_example_g00656_impl_errOutside, Rows.laid_loop_example_g00656_impl_errUnsure, Rows.laid_loop_example_g00656_impl_errBack]) (by simp [Rows.fnAskedBackRow, handleD, sentD, Rows.laid_errors_errorType, Rows.laid_loop_example_g00656_impl_errNoTime, Rows.laid_loop_example_g00656_impl_errOutside, Rows.laid_loop_example_g00656_impl_errUnsure, Rows.laid_loop_example_g00656_impl_errBack]) (by simp [Rows.fnAskedBackRow, handleD, sentD, Rows.laid_errors_errorType, Rows.laid_loop_example_g00656_impl_errNoTime, Rows.laid_loop_example_g00656_impl_errOutside, Rows.laid_loop_example_g00656_impl_errUnsure, Rows.laid_loop_example_g00656_impl_errBack]) (by simp [Rows.fnAskedBackRow, handleD, sentD, Rows.laid_errors_errorType, Rows.laid_loop_example_g00656_impl_errNoTime, Rows.laid_loop_example_g00656_impl_errOutside, Rows.laid_loop_example_g00656_impl_errUnsure, Rows.laid_loop_example_g00656_impl_errBack])
  obtain ⟨ab, B⟩ := sentH_of (n := "loop.example/g00656/impl.errBack") (text := [116, 105, 109, 101, 32, 103, 111, 101, 115, 32, 98, 97, 99, 107]) (g := 3) hL (by simp [Rows.fnAskedBackRow, handleD, sentD, Rows.laid_errors_errorType, Rows.laid_loop_example_g00656_impl_errNoTime, Rows.laid_loop_example_g00656_impl_errOutside, Rows.laid_loop_example_g00656_impl_errUnsure, Rows.laid_loop_example_g00656_impl_errBack]) (by simp [Rows.fnAskedBackRow, handleD, sentD, Rows.laid_errors_errorType, Rows.laid_loop_example_g00656_impl_errNoTime, Rows.laid_loop_example_g00656_impl_errOutside, Rows.laid_loop_example_g00656_impl_errUnsure, Rows.laid_loop_example_g00656_impl_errBack]) (by kernel_rfl) (by kernel_rfl)
  clear hL
  rw [Tryd.params12] at hA hval
  obtain ⟨v0, vs0, d0, ds0, p0, q0, hargs, rfl, rfl, h0, r0⟩ := trodAll_cons hA
  obtain ⟨rfl, rfl, rfl⟩ := trodAll_nil r0
  obtain rfl : args = #[v0] := by cases args; simp_all
  obtain ⟨a0, len0, cap0, z0, rfl, w0⟩ := open_bytes Tryd.underlying35 Tryd.underlying5 (by as_aux_lemma => kernel_rfl) (hval 0 35 v0 rfl rfl) h0
  exact askedBack_walk W L B a0 len0 cap0 z0 w0

theorem askedBack_facts : joinedFacts Tryd.pinned.checked.prog 12 Tryd.f12 Rows.fnAskedBackSpec Rows.fnAskedBackRow = true :=
  facts_of (P := Tryd.prog) (by as_aux_lemma => kernel_rfl) laidOut mapsRow (by as_aux_lemma => kernel_rfl) (by as_aux_lemma => kernel_rfl) rfl noStops rfl noKnobs (by as_aux_lemma => kernel_rfl) (by as_aux_lemma => kernel_rfl) (by as_aux_lemma => kernel_rfl) (by as_aux_lemma => kernel_rfl) (by as_aux_lemma => kernel_rfl) (by as_aux_lemma => kernel_rfl) (by as_aux_lemma => kernel_rfl) (by as_aux_lemma => kernel_rfl) (by as_aux_lemma => kernel_rfl) (by as_aux_lemma => kernel_rfl) (by as_aux_lemma => kernel_rfl) (by as_aux_lemma => kernel_rfl) (by as_aux_lemma => kernel_rfl) keysPlain rfl heard enters finals isMake rfl rfl rfl (by as_aux_lemma => kernel_rfl) (by as_aux_lemma => kernel_rfl)

theorem askedBack_row : Rows.FnAskedBackSaid :=
  OpenClaim.holds_of_wide 12 Tryd.f12 rfl rfl rfl rfl rfl rfl rfl ⟨rfl, rfl, rfl, rfl, rfl⟩ rfl rfl rfl rfl rfl (by as_aux_lemma => kernel_rfl) Tryd.func12 askedBack_facts
    (of_decide_eq_true (by as_aux_lemma => kernel_rfl)) (by unfold Func.isWrapper; first | (rw [if_pos (by decide +kernel)]; kernel_rfl) | (rw [if_neg (by decide +kernel)]; exact ⟨rfl, rfl⟩))
    (fun os started H enc _ => askedBack_lifted os started H enc)

/-- The given statement. -/
theorem askedBack_holds : Rows.FnAskedBackCardSaid :=
  Claim7.holds_tied_plain_at .later [] Rows.fnAskedBackCard.laidKinds true Rows.fnAskedBackCard.stood.harness true
    askedBack_row (fun _ h => by cases h) (by kernel_rfl) (fun _ h => by cases h) fnAskedBack_row_tie rfl ⟨rfl, rfl⟩ (by kernel_rfl) rfl
    (fun f fn hf hfn => by
      obtain rfl : f = 12 := Option.some.inj ((show Tryd.prog.funcNamed "loop.example/g00656/laws.FnAskedBack" = some 12 by kernel_rfl).symm.trans hf) |>.symm
      obtain rfl : fn = Tryd.f12 := (Option.some.inj (Tryd.func12.symm.trans hfn)).symm
      exact ⟨by kernel_rfl, fun j t ht => noStandIn (by rw [Tryd.params12]; kernel_rfl) j t ht⟩)
    (by kernel_rfl)
#print axioms askedBack_holds
end Go.Proofs.YtbabkpcefpacpaaDoor
