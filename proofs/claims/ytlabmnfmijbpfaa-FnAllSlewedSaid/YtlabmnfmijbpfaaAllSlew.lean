/- With time enough nothing is left to be slewed: at all drawn clocks. -/
import Derived.Test.YtlabmnfmijbpfaaCkSlewI
import Derived.Test.YtlabmnfmijbpfaaCkDraws
namespace Go.Proofs.Ytlabmnfmijbpfaa
open Go.ChangeShapes Go.WideShapes Go.ChangeAt Go.RowKit
set_option linter.unusedVariables false
set_option linter.unusedSimpArgs false

theorem slew_all {c : Ck} (h : slewOk c 300 = true) : (slewV c 300).off = 0 ∧ (slewV c 300).ok = true := by
  obtain ⟨hc, _⟩ := slewOk_iff.1 h
  obtain ⟨s, ⟨o0, o1⟩, f, p, a⟩ := Ck.ok_iff.1 hc
  have d := clampV_of (n := c.off) (m := 500 * 300) (by omega)
  rw [(slewV_yes h).1, Ck.ok_iff]
  dsimp only
  omega
theorem slew_none {v : Ck} (h : v.ok = true) : slewOk v 0 = true ∧ slewV v 0 = v ∧ slewnV v 0 = 0 := by
  have k : slewOk v 0 = true := slewOk_iff.2 ⟨h, by omega, by omega⟩
  obtain ⟨e1, e2⟩ := slewV_yes k
  have d := clampV_of (n := v.off) (m := 500 * 0) (by omega)
  refine ⟨k, ?_, ?_⟩
  · rw [e1]
    exact Ck.same rfl (by dsimp only; omega) rfl rfl rfl
  · rw [e2]; omega

set_option maxHeartbeats 2000000 in
theorem allSlew_walk (w : World) (x : Option Addr) (n cap z : Nat) (hz : z = n ∧ Code w.heap.size w (.slice x n cap) n) :
    Calls Try.prog 6 #[.slice x n cap] w fun e w' => e = .returned (.bool true) ∧ Below w.heap.size w w' := by
  obtain ⟨_, hc⟩ := hz
  by_cases hbig : n ≤ 1048576
  · go_enter Try.func6, Try.ntmps6
    go_wp2_with (go_at_call 12; go_in)
    refine (drawSlewed_c x n cap _ hc hbig).mono ?_
    rintro e w1 ⟨c, g, g0, g1, rfl, hb1⟩
    have hS := slewed_spec c 300
    have hI := slewed_impl c 300
    obtain ⟨v, hv⟩ : ∃ v, slewV c 300 = v := ⟨_, rfl⟩
    obtain ⟨m, hm⟩ : ∃ m, slewnV c 300 = m := ⟨_, rfl⟩
    obtain ⟨b, hb⟩ : ∃ b, slewOk c 300 = b := ⟨_, rfl⟩
    have hE : b = true → v.off = 0 ∧ v.ok = true := fun e => hv ▸ slew_all (hb.trans e)
    rw [hv, hm, hb] at hS hI
    have HS := Lib.hid hS
    have HI := Lib.hid hI
    clear hS hI hv hm hb
    have P1 := blk_new w1 (.cells #[.int .i64 c.st, .int .i64 c.off, .int .i64 c.fr, .int .i64 c.poll, .int .i64 c.calm] 25)
    have G1 : Below w.heap.size w (w1.alloc (.cells #[.int .i64 c.st, .int .i64 c.off, .int .i64 c.fr, .int .i64 c.poll, .int .i64 c.calm] 25)) := hb1.alloc (by have := hb1.size; omega) _
    go_wp2_with fail
    refine (HI.out _).mono ?_
    rintro e w2 ⟨rfl, hb2⟩
    have Q1 := blk_next hb2 P1
    have X := ck_cells Q1
    have G2 := grow_next G1 hb2
    have l1 := (Array.getElem?_eq_some_iff.1 Q1).1
    have P2 := blk_new w2 (.cells #[.int .i64 v.st, .int .i64 v.off, .int .i64 v.fr, .int .i64 v.poll, .int .i64 v.calm] 25)
    have G3 : Below w.heap.size w (w2.alloc (.cells #[.int .i64 v.st, .int .i64 v.off, .int .i64 v.fr, .int .i64 v.poll, .int .i64 v.calm] 25)) := G2.alloc (by have := G2.size; omega) _
    go_wp2_with fail
    refine (HS.out _).mono ?_
    rintro e w3 ⟨rfl, hb3⟩
    have Q2 := blk_next hb3 P2
    have Y := ck_cells Q2
    have G4 := grow_next G3 hb3
    have l2 := (Array.getElem?_eq_some_iff.1 Q2).1
    have Q3 := blk_alloc Q2 (.cells #[.int .i64 v.st, .int .i64 v.off, .int .i64 v.fr, .int .i64 v.poll, .int .i64 v.calm] 25)
    have G5 : Below w.heap.size w (w3.alloc (.cells #[.int .i64 v.st, .int .i64 v.off, .int .i64 v.fr, .int .i64 v.poll, .int .i64 v.calm] 25)) := G4.alloc (by have := G4.size; omega) _
    clear P1 G1 Q1 X G2 P2 G3 hb1 hb2 hb3 G4 HI HS l1
    cases b with
    | false =>
      clear hE
      go_wp2_with fail
      go_returns
      exact ⟨rfl, G5⟩
    | true =>
      obtain ⟨e1, e2⟩ := hE rfl
      obtain ⟨k1, k2, k3⟩ := slew_none e2
      have hI := slewed_impl v 0
      rw [k1, k2, k3] at hI
      have HI := Lib.hid hI
      have ez : ((v.off : Int) == 0) = true := by rw [e1]; rfl
      clear hI e1 e2 k1 k2 k3 hE
      go_wp2_with fail
      refine (HI.out _).mono ?_
      rintro e w4 ⟨rfl, hb4⟩
      have Q4 := blk_next hb4 Q3
      have Z := ck_cells Q4
      have G6 := grow_next G5 hb4
      have l3 := (Array.getElem?_eq_some_iff.1 Q4).1
      have G7 : Below w.heap.size w (w4.alloc (.cells #[.int .i64 v.st, .int .i64 v.off, .int .i64 v.fr, .int .i64 v.poll, .int .i64 v.calm] 25)) := G6.alloc (by have := G6.size; omega) _
      clear Y Q3 Q2 Q4 G5 G6 hb4 HI
      go_wp2_with fail
      go_returns
      exact ⟨rfl, G7⟩
  · go_enter Try.func6, Try.ntmps6
    go_wp2_with (go_at_call 12; go_in)
    go_returns
    exact ⟨rfl, Below.refl _ _⟩

set_option maxRecDepth 100000 in
theorem allSlew_lifted (os : Os) (started : os.Started) (H : Type) (enc : TypeId × Value → H) :
    ReturnsInHanded {} Try.checked os 6 .any (Rows.fnAllSlewedSpec.pre6 enc Try.prog Try.f6 Rows.fnAllSlewedRow.domain false) (Rows.fnAllSlewedSpec.post enc Try.prog Try.f6 false true false false) := by
  refine lifted_of_walk (C := Try.checked) own started (by as_aux_lemma => kernel_rfl) Try.func6
    (ChangeSpec.witness6 (enc := enc) (C := Try.checked) false ⟨#[], #[.slice none 0 0], []⟩ 8 (by as_aux_lemma => kernel_rfl) (by as_aux_lemma => kernel_rfl) (by as_aux_lemma => kernel_rfl) (by as_aux_lemma => kernel_rfl) (by as_aux_lemma => kernel_rfl))
    laidOut rfl (by as_aux_lemma => kernel_rfl) (by as_aux_lemma => kernel_rfl) boolType
    (fun ds h => by
      match ds, h with
      | [_], _ => rfl)
    ?_
  intro W base args ds q hval hA
  rw [Try.params6] at hA hval
  obtain ⟨v0, vs0, d0, ds0, p0, q0, hargs, rfl, rfl, h0, r0⟩ := trodAll_cons hA
  obtain ⟨rfl, rfl, rfl⟩ := trodAll_nil r0
  obtain rfl : args = #[v0] := by cases args; simp_all
  obtain ⟨a0, len0, cap0, z0, rfl, w0⟩ := open_bytes Try.underlying22 Try.underlying5 (by as_aux_lemma => kernel_rfl) (hval 0 22 v0 rfl rfl) h0
  exact allSlew_walk W a0 len0 cap0 z0 w0

theorem allSlew_facts : joinedFacts Try.pinned.checked.prog 6 Try.f6 Rows.fnAllSlewedSpec Rows.fnAllSlewedRow = true :=
  facts_of (P := Try.prog) (by as_aux_lemma => kernel_rfl) laidOut mapsRow (by as_aux_lemma => kernel_rfl) (by as_aux_lemma => kernel_rfl) rfl noStops rfl noKnobs (by as_aux_lemma => kernel_rfl) (by as_aux_lemma => kernel_rfl) (by as_aux_lemma => kernel_rfl) (by as_aux_lemma => kernel_rfl) (by as_aux_lemma => kernel_rfl) (by as_aux_lemma => kernel_rfl) (by as_aux_lemma => kernel_rfl) (by as_aux_lemma => kernel_rfl) (by as_aux_lemma => kernel_rfl) rfl (by as_aux_lemma => kernel_rfl) (by as_aux_lemma => kernel_rfl) (by as_aux_lemma => kernel_rfl) keysPlain rfl heard enters finals isMake rfl rfl rfl (by as_aux_lemma => kernel_rfl) (by as_aux_lemma => kernel_rfl)

/-- The given statement. -/
theorem allSlew_holds : Rows.FnAllSlewedSaid :=
  OpenClaim.holds_of_wide 6 Try.f6 rfl rfl rfl rfl rfl rfl rfl ⟨rfl, rfl, rfl, rfl, rfl⟩ rfl rfl rfl rfl rfl (by as_aux_lemma => kernel_rfl) Try.func6 allSlew_facts
    (of_decide_eq_true (by as_aux_lemma => kernel_rfl)) (by unfold Func.isWrapper; first | (rw [if_pos (by decide +kernel)]; kernel_rfl) | (rw [if_neg (by decide +kernel)]; exact ⟨rfl, rfl⟩))
    (fun os started H enc _ => allSlew_lifted os started H enc)
#print axioms allSlew_holds
end Go.Proofs.Ytlabmnfmijbpfaa
