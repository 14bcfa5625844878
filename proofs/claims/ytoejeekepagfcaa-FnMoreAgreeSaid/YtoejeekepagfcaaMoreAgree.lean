/- With an interval more no fewer agree, and at most one more: at all drawn intervals. -/
import Derived.Test.YtoejeekepagfcaaIvsDraw
import Derived.Test.YtoejeekepagfcaaAgreeLess
namespace Go.Proofs.Ytoejeekepagfcaa
open Go.ChangeShapes Go.WideShapes Go.ChangeAt Go.RowKit
set_option linter.unusedVariables false
set_option linter.unusedSimpArgs false

set_option maxHeartbeats 2000000 in
theorem ma_walk (w : World) (x : Option Addr) (n cap z : Nat) (hz : z = n ∧ Code w.heap.size w (.slice x n cap) n) :
    Calls Try.prog 9 #[.slice x n cap] w fun e w' => e = .returned (.bool true) ∧ Below w.heap.size w w' := by
  obtain ⟨_, hc⟩ := hz
  by_cases hbig : n ≤ 1048576
  · go_enter Try.func9, Try.ntmps9
    go_wp2_with (go_at_call 27; go_in)
    refine (drawAgreed_c x n cap _ hc hbig).mono ?_
    rintro e w1 ⟨y, c, l, rfl, hl8, hrow, hb1⟩
    obtain ⟨m, hm⟩ : ∃ m, m = l.length := ⟨_, rfl⟩
    have hm8 : m ≤ 8 := by rw [hm]; exact hl8
    have hmc : m ≤ c := by rw [hm]; exact hrow.cap_.1
    have hc63 := hrow.cap_.2
    unfold maxLen at hc63
    have HM := Lib.hid hm
    rw [← hm]
    clear hm hl8
    go_wp2_with fail
    refine (agreed_impl l m HM (by omega) y c _ hrow.ivs).mono ?_
    rintro e w2 ⟨lo, hi, M, rfl, hA, hb2⟩
    have HA := Lib.hid hA
    obtain ⟨M0, M1⟩ := hA.bounds
    rw [← HM.out] at M1
    clear hA
    have g2 := grow_next hb1 hb2
    have B2 := blk_new w2 (.cells #[.int .i64 lo, .int .i64 hi] 25)
    have r2 := (hrow.next hb2).next (below_new w2 (.cells #[.int .i64 lo, .int .i64 hi] 25))
    have g2' : Below w.heap.size w (w2.alloc (.cells #[.int .i64 lo, .int .i64 hi] 25)) := g2.alloc (by have := g2.size; omega) _
    clear hrow hb1 hb2
    go_wp2_with fail
    refine (agreed_spec l m HM (by omega) y c _ r2.ivs).mono ?_
    rintro e w3 ⟨lo', hi', M', rfl, hA', hb3⟩
    obtain ⟨e1, e2, e3⟩ := HA.out.same hA'
    subst e1 e2 e3
    clear hA'
    have g3 := grow_next g2' hb3
    have B3 := blk_next hb3 B2
    have r3 := (r2.next hb3).next (below_new w3 (.cells #[.int .i64 lo, .int .i64 hi] 25))
    have C3 := blk_new w3 (.cells #[.int .i64 lo, .int .i64 hi] 25)
    have g3' : Below w.heap.size w (w3.alloc (.cells #[.int .i64 lo, .int .i64 hi] 25)) := g3.alloc (by have := g3.size; omega) _
    have l3 := (Array.getElem?_eq_some_iff.1 B3).1
    obtain ⟨b0, b1⟩ := iv_cells (q := ⟨lo, hi⟩) B3
    obtain ⟨c0, c1⟩ := iv_cells (q := ⟨lo, hi⟩) C3
    dsimp only at b0 b1 c0 c1
    clear g2 g2' g3 r2 hb3 B2
    by_cases h0 : M = 0
    · have e0 : (M == 0) = true := by simp [h0]
      clear h0
      go_wp2_with fail
      go_returns
      exact ⟨by simp, g3'⟩
    · have e0 : (M == 0) = false := by simp [h0]
      have hm1 : 1 ≤ m := by omega
      have HL := Lib.hid (fun (lo' hi' k : Int) (h : Agr (l.take (m - 1)) lo' hi' k) => agree_less HA.out h0 (k := m - 1) (by have := HM.out; omega) h)
      have hmt : ((m : Int) - 1).toNat = m - 1 := by omega
      have hm2 : (0 : Int) ≤ (m : Int) - 1 := by omega
      have hm3 : (m : Int) - 1 ≤ (c : Int) := by omega
      have HN := Lib.hid (show m - 1 = (l.take (m - 1)).length by rw [List.length_take]; have := HM.out; omega)
      obtain ⟨v, hv⟩ := get_at (l := l) (k := 0) (by rw [← HM.out]; omega)
      obtain ⟨gg, off, rfl, _⟩ := r3.ivs.at_ hv
      clear h0 hv
      go_wp2_with fail
      refine (agreed_impl (l.take (m - 1)) (m - 1) HN (by omega) (some ⟨gg, off, none⟩) c _ (r3.ivs.take _)).mono ?_
      rintro e w4 ⟨lo2, hi2, k, rfl, hA2, hb4⟩
      obtain ⟨k0, k1⟩ := hA2.bounds
      obtain ⟨q1, q2⟩ := HL.out _ _ _ hA2
      rw [List.length_take] at k1
      clear hA2
      have g4 := grow_next g3' hb4
      have g4' : Below w.heap.size w (w4.alloc (.cells #[.int .i64 lo2, .int .i64 hi2] 25)) := g4.alloc (by have := g4.size; omega) _
      have d1 : decide (k ≤ M) = true := decide_eq_true q1
      have d2 : decide (M ≤ k + 1) = true := decide_eq_true q2
      go_wp2_with fail
      go_returns
      exact ⟨by simp, g4'⟩
  · go_enter Try.func9, Try.ntmps9
    go_wp2_with (go_at_call 27; go_in)
    go_returns
    exact ⟨rfl, Below.refl _ _⟩
set_option maxRecDepth 100000 in
theorem ma_lifted (os : Os) (started : os.Started) (H : Type) (enc : TypeId × Value → H) :
    ReturnsInHanded {} Try.checked os 9 .any (Rows.fnMoreAgreeSpec.pre6 enc Try.prog Try.f9 Rows.fnMoreAgreeRow.domain false) (Rows.fnMoreAgreeSpec.post enc Try.prog Try.f9 false true false false) := by
  refine lifted_of_walk (C := Try.checked) own started (by as_aux_lemma => kernel_rfl) Try.func9
    (ChangeSpec.witness6 (enc := enc) (C := Try.checked) false ⟨#[], #[.slice none 0 0], []⟩ 8 (by as_aux_lemma => kernel_rfl) (by as_aux_lemma => kernel_rfl) (by as_aux_lemma => kernel_rfl) (by as_aux_lemma => kernel_rfl) (by as_aux_lemma => kernel_rfl))
    laidOut rfl (by as_aux_lemma => kernel_rfl) (by as_aux_lemma => kernel_rfl) boolType
    (fun ds h => by
      match ds, h with
      | [_], _ => rfl)
    ?_
  intro W base args ds q hval hA
  rw [Try.params9] at hA hval
  obtain ⟨v0, vs0, d0, ds0, p0, q0, hargs, rfl, rfl, h0, r0⟩ := trodAll_cons hA
  obtain ⟨rfl, rfl, rfl⟩ := trodAll_nil r0
  obtain rfl : args = #[v0] := by cases args; simp_all
  obtain ⟨a0, len0, cap0, z0, rfl, w0⟩ := open_bytes Try.underlying40 Try.underlying5 (by as_aux_lemma => kernel_rfl) (hval 0 40 v0 rfl rfl) h0
  exact ma_walk W a0 len0 cap0 z0 w0

theorem ma_facts : joinedFacts Try.pinned.checked.prog 9 Try.f9 Rows.fnMoreAgreeSpec Rows.fnMoreAgreeRow = true :=
  facts_of (P := Try.prog) (by as_aux_lemma => kernel_rfl) laidOut mapsRow (by as_aux_lemma => kernel_rfl) (by as_aux_lemma => kernel_rfl) rfl noStops rfl noKnobs (by as_aux_lemma => kernel_rfl) (by as_aux_lemma => kernel_rfl) (by as_aux_lemma => kernel_rfl) (by as_aux_lemma => kernel_rfl) (by as_aux_lemma => kernel_rfl) (by as_aux_lemma => kernel_rfl) (by as_aux_lemma => kernel_rfl) (by as_aux_lemma => kernel_rfl) (by as_aux_lemma => kernel_rfl) rfl (by as_aux_lemma => kernel_rfl) (by as_aux_lemma => kernel_rfl) (by as_aux_lemma => kernel_rfl) keysPlain rfl heard enters finals isMake rfl rfl rfl (by as_aux_lemma => kernel_rfl) (by as_aux_lemma => kernel_rfl)

/-- The given statement. -/
theorem ma_holds : Rows.FnMoreAgreeSaid :=
  OpenClaim.holds_of_wide 9 Try.f9 rfl rfl rfl rfl rfl rfl rfl ⟨rfl, rfl, rfl, rfl, rfl⟩ rfl rfl rfl rfl rfl (by as_aux_lemma => kernel_rfl) Try.func9 ma_facts
    (of_decide_eq_true (by as_aux_lemma => kernel_rfl)) (by unfold Func.isWrapper; first | (rw [if_pos (by decide +kernel)]; kernel_rfl) | (rw [if_neg (by decide +kernel)]; exact ⟨rfl, rfl⟩))
    (fun os started H enc _ => ma_lifted os started H enc)
#print axioms ma_holds
end Go.Proofs.Ytoejeekepagfcaa
