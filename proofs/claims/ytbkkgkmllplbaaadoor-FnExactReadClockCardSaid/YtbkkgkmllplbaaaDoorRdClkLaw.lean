/- For every text the program's ReadClock answers as the reference. -/
import Derived.Stop.LaidErr
import Derived.Lay
import Derived.Test.YtbkkgkmllplbaaaDoorRdClkI
import Derived.Test.YtbkkgkmllplbaaaDoorFrameS
import Derived.Test.YtbkkgkmllplbaaaDoorClkTextLaw
namespace Go.Proofs.YtbkkgkmllplbaaaDoor
open Go.ChangeShapes Go.WideShapes Go.ChangeAt Go.RowKit
set_option linter.unusedVariables false
set_option linter.unusedSimpArgs false

set_option maxRecDepth 100000 in
theorem errRowsD : ((List.range Tryd.prog.types.size).all fun u => Tryd.prog.typeName? 3 u != some ("*" ++ "errors.errorString") || u == 167) = true := by kernel_rfl
set_option maxRecDepth 100000 in
theorem errNamedD : ((List.range Tryd.prog.types.size).all fun e => Tryd.prog.typeName? 2 e != some "errors.errorString" || (match (Tryd.prog.info? e).map (·.desc) with | some (TypeDesc.named _ _) => true | _ => false)) = true := by kernel_rfl
/-- One of the library's two errors, as a statement lays it. -/
def sentE (text : List UInt8) : DataW Unit := .iface "*errors.errorString" (.ptr (.agg [.lit (.string text)]))
set_option maxRecDepth 100000 in
theorem sentVar_of {W : World} {l : List (String × DataW Unit)} (h : laidMetH Tryd.prog l W) {n : String} {text : List UInt8} {g : Nat} (hm : l.filter (fun x => x.1 == n) = [(n, sentE text)])
    (hn : Tryd.prog.globalNamed n = some g) (ht : (Tryd.prog.globals[g]?).map (·.type) = some 63) : ∃ t p, W.var? Tryd.prog n = some #[.iface t p] := by
  have h1 := h.filter (fun x => x.1 == n)
  rw [hm] at h1
  rw [Go.MakeChecks.laidMetH_plain _ _ _ (by rfl)] at h1
  obtain ⟨a, s, hv, _⟩ := laid_sentinel (tp := 167) (te := 169) (ts := 9) h1 hn ht Tryd.underlying63
    (fun u hu => typeName_ptr_named errRowsD errNamedD (by decide) u hu) Tryd.underlying167 Tryd.underlying169 rfl rfl Tryd.underlying9 (by kernel_rfl) (by kernel_rfl)
  exact ⟨_, _, hv⟩
theorem decW_of {W : World} {l : List (String × DataW Unit)} (h : laidMetH Tryd.prog l W) (hsh : W.ShapedOpen Tryd.prog) (hm : l.filter (fun x => x.1 == "internal/strconv.uint64pow10") = [("internal/strconv.uint64pow10", Lib.tabData .u64 Lib.pow10Tab)])
    (h1 : l.filter (fun x => x.1 == "strconv.ErrSyntax") = [("strconv.ErrSyntax", sentE [105, 110, 118, 97, 108, 105, 100, 32, 115, 121, 110, 116, 97, 120])])
    (h2 : l.filter (fun x => x.1 == "strconv.ErrRange") = [("strconv.ErrRange", sentE [118, 97, 108, 117, 101, 32, 111, 117, 116, 32, 111, 102, 32, 114, 97, 110, 103, 101])]) : DecW W :=
  ⟨pow_of h hm, Tryd.laysM146.s1_3 W hsh, sentVar_of (g := 10) h h1 (by kernel_rfl) (by kernel_rfl), sentVar_of (g := 11) h h2 (by kernel_rfl) (by kernel_rfl)⟩
set_option maxRecDepth 100000 in
set_option maxHeartbeats 1000000 in
theorem readClock_walk (W : World) (hp : DecW W) (s : ByteArray) (hm : s.size ≤ maxLen) :
    Calls Tryd.prog 5 #[.string s] W fun e w' => e = .returned (.bool true) ∧ Below W.heap.size W w' := by
  by_cases hs : s.size ≤ 1048576
  · have hd : decide ((1048576 : Int) < (s.size : Int)) = false := decide_eq_false (by omega)
    have HS := Lib.hid (fun w => readClock_spec s hs w)
    have HI := Lib.hid (fun w h => readClock_impl s hs w h)
    go_enter Tryd.func5, Tryd.ntmps5
    go_wp2_with fail
    refine (HS.out _).mono ?_
    rintro e w1 ⟨c, b, rfl, hr1, hb1⟩
    have Q1 := blk_new w1 (.cells #[.int .i64 c.st, .int .i64 c.off, .int .i64 c.fr, .int .i64 c.poll, .int .i64 c.calm] 25)
    have G1 := hb1.alloc hb1.size (.cells #[.int .i64 c.st, .int .i64 c.off, .int .i64 c.fr, .int .i64 c.poll, .int .i64 c.calm] 25)
    have HR := Lib.hid hr1
    clear hr1
    go_wp2_with fail
    refine (HI.out _ (hp.next G1)).mono ?_
    rintro e w2 ⟨c', b', rfl, hr2, hb2⟩
    obtain ⟨rfl, rfl⟩ := HR.out.same hr2
    have Q2 := blk_next hb2 Q1
    have G2 := grow_next G1 hb2
    have hs2 : w1.heap.size < w2.heap.size := (Array.getElem?_eq_some_iff.1 Q2).1
    obtain ⟨x0, x1, x2, x3, x4⟩ := ck_cells Q2
    clear hr2 Q1 Q2
    go_wp2_with fail
    refine (eqClock_same _ _).mono ?_
    rintro e w3 ⟨rfl, hb3⟩
    go_wp2_with fail
    go_returns
    exact ⟨rfl, grow_next (G2.alloc G2.size _) hb3⟩
  · have hd : decide ((1048576 : Int) < (s.size : Int)) = true := decide_eq_true (by omega)
    go_enter Tryd.func5, Tryd.ntmps5
    go_wp2_with fail
    go_returns
    exact ⟨rfl, Below.refl _ _⟩
set_option maxRecDepth 100000 in
theorem readClock_lifted (os : Os) (started : os.Started) (H : Type) (enc : TypeId × Value → H) :
    ReturnsInHanded {} Tryd.checked os 5 .any (fun w args => (Rows.fnExactReadClockSpec.pre enc Tryd.prog Tryd.f5 [] false w args ∧ laidMetH Tryd.prog Rows.fnExactReadClockRow.laid w) ∧ sizedMet enc Tryd.prog Tryd.f5 (OpenSpec.ofChange Rows.fnExactReadClockSpec) false w args) (Rows.fnExactReadClockSpec.post enc Tryd.prog Tryd.f5 false true false false) := by
  refine lifted_of_walk_shaped (C := Tryd.checked) own started (by as_aux_lemma => kernel_rfl) Tryd.func5
    (ChangeSpec.witness_shaped (enc := enc) (C := Tryd.checked) (os := os) (X := fun w _ => laidMetH Tryd.prog Rows.fnExactReadClockRow.laid w) false (World.laidAll Tryd.prog os Rows.fnExactReadClockRow.laid) #[.string ByteArray.empty] 8 (World.laidAll_os _ _ _) (World.shaped_of_ZipB (by kernel_rfl) (by kernel_rfl)) (by kernel_rfl) (by kernel_rfl) (by kernel_rfl) (by rw [Go.MakeChecks.laidMetH_plain _ _ _ (by kernel_rfl)]; exact laidMet_laidAll _ (by kernel_rfl) (by kernel_rfl)))
    laidOut (by as_aux_lemma => kernel_rfl) (by as_aux_lemma => kernel_rfl) rfl boolType
    (fun ds gs h hg => by
      match ds, gs, h, hg with
      | [_], [], _, _ => rfl)
    ?_
  intro W base args ds q hval hA hL hSh
  have laidRow : Rows.fnExactReadClockRow.laid = Rows.fnExactReadClockRow.laid := rfl
  have hp := decW_of hL hSh (by rfl) (by rfl) (by rfl)
  clear hL
  rw [Tryd.params5] at hA hval
  obtain ⟨v0, vs0, d0, ds0, p0, q0, hargs, rfl, rfl, h0, r0⟩ := trodAll_cons hA
  obtain ⟨rfl, rfl, rfl⟩ := trodAll_nil r0
  obtain rfl : args = #[v0] := by cases args; simp_all
  obtain ⟨a0, rfl, rfl, rfl, w0⟩ := Go.ChangeMaps.open_string Tryd.underlying9 (hval 0 9 v0 rfl rfl) h0
  exact readClock_walk W hp a0 w0

set_option maxHeartbeats 4000000 in
theorem readClock_facts : joinedFacts Tryd.pinned.checked.prog 5 Tryd.f5 Rows.fnExactReadClockSpec Rows.fnExactReadClockRow = true :=
  facts_of (P := Tryd.prog) (by as_aux_lemma => kernel_rfl) laidOut mapsRow (by as_aux_lemma => kernel_rfl) (by as_aux_lemma => kernel_rfl) rfl noStops rfl noKnobs (by as_aux_lemma => kernel_rfl) (by as_aux_lemma => kernel_rfl) (by as_aux_lemma => kernel_rfl) (by as_aux_lemma => kernel_rfl) (by as_aux_lemma => kernel_rfl) (by as_aux_lemma => kernel_rfl) (by as_aux_lemma => kernel_rfl) (by as_aux_lemma => kernel_rfl) (by as_aux_lemma => kernel_rfl) (by as_aux_lemma => kernel_rfl) (by as_aux_lemma => kernel_rfl) (by as_aux_lemma => kernel_rfl) (by as_aux_lemma => kernel_rfl) keysPlain rfl heard enters finals isMake rfl rfl rfl (by as_aux_lemma => kernel_rfl) (by as_aux_lemma => kernel_rfl)

theorem readClock_row : Rows.FnExactReadClockSaid :=
  OpenClaim.holds_of_wide 5 Tryd.f5 rfl rfl rfl rfl rfl rfl rfl ⟨rfl, rfl, rfl, rfl, rfl⟩ rfl rfl rfl rfl rfl (by as_aux_lemma => kernel_rfl) Tryd.func5 readClock_facts
    (of_decide_eq_true (by as_aux_lemma => kernel_rfl)) (by unfold Func.isWrapper; first | (rw [if_pos (by decide +kernel)]; kernel_rfl) | (rw [if_neg (by decide +kernel)]; exact ⟨rfl, rfl⟩))
    (fun os started H enc _ => readClock_lifted os started H enc)

/-- The given statement. -/
theorem readClock_holds : Rows.FnExactReadClockCardSaid :=
  Claim7.holds_tied_plain_at .later [] Rows.fnExactReadClockCard.laidKinds true Rows.fnExactReadClockCard.stood.harness true
    readClock_row (fun _ h => by cases h) (by kernel_rfl) (fun _ h => by cases h) fnExactReadClock_row_tie rfl ⟨rfl, rfl⟩ (by kernel_rfl) rfl
    (fun f fn hf hfn => by
      obtain rfl : f = 5 := Option.some.inj ((show Tryd.prog.funcNamed "loop.example/g00656/laws.FnExactReadClock" = some 5 by kernel_rfl).symm.trans hf) |>.symm
      obtain rfl : fn = Tryd.f5 := (Option.some.inj (Tryd.func5.symm.trans hfn)).symm
      exact ⟨by kernel_rfl, fun j t ht => noStandIn (by rw [Tryd.params5]; kernel_rfl) j t ht⟩)
    (by kernel_rfl)
#print axioms readClock_holds
end Go.Proofs.YtbkkgkmllplbaaaDoor
