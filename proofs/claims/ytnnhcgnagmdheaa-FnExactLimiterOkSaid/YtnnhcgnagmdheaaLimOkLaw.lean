/- For every limiter the program's LimiterOk answers as the reference; its argument stays as it was. -/
import Derived.Test.YtnnhcgnagmdheaaLimOk
namespace Go.Proofs.Ytnnhcgnagmdheaa
open Go.ChangeShapes Go.WideShapes Go.ChangeAt Go.RowKit
set_option linter.unusedVariables false
set_option linter.unusedSimpArgs false

theorem below_drewX (w : World) : Below w.heap.size w w.drew := ⟨rfl, rfl, rfl, Nat.le_refl _, fun _ _ => rfl⟩
set_option maxRecDepth 100000 in
set_option maxHeartbeats 4000000 in
theorem lo_walk (W : World) (x : Option Addr) (n cap : Nat) (l : List Cl) (h : Hid (n = l.length) ∧ n ≤ cap ∧ cap ≤ maxLen ∧ Cls W.heap.size W x l) :
    Calls Try.prog 9 #[.agg #[.slice x n cap]] W fun e w' => e = .returned (.bool true) ∧ Below W.heap.size W w' := by
  obtain ⟨hn, hnc, hcm, hr⟩ := h
  have hnm : n ≤ maxLen := Nat.le_trans hnc hcm
  have HZ := Lib.hid (fun W => szLimiter_c n hnm x cap W)
  obtain ⟨o, ho⟩ : ∃ o, limOk l = o := ⟨_, rfl⟩
  have HS := Lib.hid (fun x cap W h => (ho ▸ limOk_spec l n hn hnm x cap W h : Calls Try.prog 37 #[.agg #[.slice x n cap]] W fun e w' => e = .returned (.bool o) ∧ Below W.heap.size W w'))
  have HI := Lib.hid (fun x cap W h => (ho ▸ limOk_impl l n hn hnm x cap W h : Calls Try.prog 39 #[.agg #[.slice x n cap]] W fun e w' => e = .returned (.bool o) ∧ Below W.heap.size W w'))
  have HE := Lib.hid (fun x y cap cap' w h h' => eqLimiter_c l n hn hnm x y cap cap' w h h')
  have hoo : (o != o) = false := by cases o <;> rfl
  have B0 : Below W.heap.size W (W.alloc (.cells #[.slice x n cap] 47)) := below_new _ _
  have Q0 := blk_new W (.cells #[.slice x n cap] 47)
  have r0 := hr.next B0
  have hnm' : n ≤ 9223372036854775807 := by unfold maxLen at hnm; omega
  clear hnc hcm hnm ho hr
  go_enter Try.func9, Try.ntmps9
  go_upto_region 2 with (fail)
  generalize W.alloc (.cells #[.slice x n cap] 47) = W0 at *
  obtain ⟨q0, _⟩ := one_cell Q0
  go_wp2_with fail
  refine (HZ.out _).mono ?_
  rintro e w0 ⟨rfl, hb0⟩
  have b0 := grow_next B0 hb0
  have Q1 := blk_next hb0 Q0
  have r1 := r0.next hb0
  obtain ⟨q1, _⟩ := one_cell Q1
  clear q0
  by_cases hneg : (1048576 : Int) - (n : Int) < 0
  · have hL : leftOf 1048576 n = -1 := if_pos hneg
    rw [hL]
    clear hneg
    go_wp2_with fail
    go_returns
    exact ⟨rfl, b0⟩
  · have hL : leftOf 1048576 n = 1048576 - n := if_neg hneg
    rw [hL]
    have hd : decide ((1048576 : Int) - (n : Int) < 0) = false := decide_eq_false hneg
    have hd2 : ¬ (1048576 : Int) < (n : Int) := by omega
    have HT := Lib.hid (fun w h => toLimiter_c l n hn (by omega) x cap w h)
    clear HZ Q0 r0
    go_wp2_with fail
    refine (HT.out _ r1).mono ?_
    rintro e w1 ⟨g1, rfl, t1, _, hb1⟩
    have b1 := grow_next b0 hb1
    have r2 := r1.next hb1
    have Q2 := blk_next hb1 Q1
    go_wp2_with fail
    refine (HS.out _ _ _ t1.cls).mono ?_
    rintro e w2 ⟨rfl, hb2⟩
    have b2 := grow_next b1 hb2
    have r3 := r2.next hb2
    have Q3 := blk_next hb2 Q2
    obtain ⟨q3, _⟩ := one_cell Q3
    clear q1 Q1 Q2 r1 r2 t1
    go_wp2_with fail
    refine (HT.out _ r3).mono ?_
    rintro e w3 ⟨g3, rfl, t3, _, hb3⟩
    have b3 := grow_next b2 hb3
    have B4 : Below w3.heap.size w3 (w3.alloc (.cells #[.slice (some ⟨g3, 0, none⟩) n n] 52)) := below_new _ _
    have b4 := grow_next b3 B4
    have N4 := blk_new w3 (.cells #[.slice (some ⟨g3, 0, none⟩) n n] 52)
    have t4 := t3.next B4
    have r4 := (r3.next hb3).next B4
    have Q4 := blk_next B4 (blk_next hb3 Q3)
    generalize hW4 : w3.alloc (.cells #[.slice (some ⟨g3, 0, none⟩) n n] 52) = W4 at *
    obtain ⟨x4, _⟩ := one_cell N4
    clear q3 Q3 r3 t3
    go_wp2_with fail
    refine (HI.out _ _ _ t4.cls).mono ?_
    rintro e w5 ⟨rfl, hb5⟩
    have b5 := grow_next b4 hb5
    have t5 := t4.next hb5
    have r5 := r4.next hb5
    have Q5 := blk_next hb5 Q4
    have N5 := blk_next hb5 N4
    clear x4 Q4 N4 t4 r4 hW4
    have gd := below_drewX w5
    have r6 := r5.next gd
    have t6 := t5.next gd
    have Q6 := blk_next gd Q5
    have N6 := blk_next gd N5
    have b6 := grow_next b5 gd
    go_wp2_with fail
    generalize hW6 : w5.drew = W6 at *
    obtain ⟨q6, _⟩ := one_cell Q6
    obtain ⟨x6, _⟩ := one_cell N6
    clear gd r5 t5 Q5 N5
    go_region_with (first
      | (go_at_call 38; (with_reducible refine (HT.out _ r6).mono ?_); rintro e w7 ⟨g7, rfl, t7, _, hb7⟩; have b7 := grow_next b6 hb7; have t6' := t6.next hb7; have Q7 := blk_next hb7 Q6; have N7 := blk_next hb7 N6; obtain ⟨q7, _⟩ := one_cell Q7; obtain ⟨x7, _⟩ := one_cell N7)
      | (go_at_call 40; (with_reducible refine (HE.out _ _ _ _ _ t6'.cls t7.cls).mono ?_); rintro e w8 ⟨rfl, hb8⟩; have b8 := grow_next b7 hb8))
    all_goals
      go_wp2_with fail
      go_returns
      exact ⟨rfl, b8⟩

set_option maxRecDepth 100000 in
theorem lo_lifted (os : Os) (started : os.Started) (H : Type) (enc : TypeId × Value → H) :
    ReturnsInHanded {} Try.checked os 9 .any (Rows.fnExactLimiterOkSpec.pre6 enc Try.prog Try.f9 Rows.fnExactLimiterOkRow.domain false) (Rows.fnExactLimiterOkSpec.post enc Try.prog Try.f9 false true false false) := by
  refine lifted_of_walk (C := Try.checked) own started (by as_aux_lemma => kernel_rfl) Try.func9
    (ChangeSpec.witness6 (enc := enc) (C := Try.checked) false ⟨#[], #[.agg #[.slice none 0 0]], []⟩ 8 (by as_aux_lemma => kernel_rfl) (by as_aux_lemma => kernel_rfl) (by as_aux_lemma => kernel_rfl) (by as_aux_lemma => kernel_rfl) (by as_aux_lemma => kernel_rfl))
    laidOut rfl (by as_aux_lemma => kernel_rfl) (by as_aux_lemma => kernel_rfl) boolType
    (fun ds h => by
      match ds, h with
      | [_], _ => rfl)
    ?_
  intro W base args ds q hval hA
  rw [Try.params9] at hA hval
  obtain ⟨v0, vs0, d0, ds0, p0, q0, hargs, rfl, rfl, h0, r0⟩ := trodAll_cons hA
  obtain ⟨rfl, rfl, rfl⟩ := trodAll_nil r0
  obtain rfl : args = #[v0] := by cases args; simp_all
  obtain ⟨a0, len0, cap0, z0, rfl, w0⟩ := open_limiter (hval 0 47 v0 rfl rfl) h0
  exact lo_walk W a0 len0 cap0 z0 w0

theorem lo_facts : joinedFacts Try.pinned.checked.prog 9 Try.f9 Rows.fnExactLimiterOkSpec Rows.fnExactLimiterOkRow = true :=
  facts_of (P := Try.prog) (by as_aux_lemma => kernel_rfl) laidOut mapsRow (by as_aux_lemma => kernel_rfl) (by as_aux_lemma => kernel_rfl) rfl noStops rfl noKnobs (by as_aux_lemma => kernel_rfl) (by as_aux_lemma => kernel_rfl) (by as_aux_lemma => kernel_rfl) (by as_aux_lemma => kernel_rfl) (by as_aux_lemma => kernel_rfl) (by as_aux_lemma => kernel_rfl) (by as_aux_lemma => kernel_rfl) (by as_aux_lemma => kernel_rfl) (by as_aux_lemma => kernel_rfl) rfl (by as_aux_lemma => kernel_rfl) (by as_aux_lemma => kernel_rfl) (by as_aux_lemma => kernel_rfl) keysPlain rfl heard enters finals isMake rfl rfl rfl (by as_aux_lemma => kernel_rfl) (by as_aux_lemma => kernel_rfl)

/-- The given statement. -/
theorem lo_holds : Rows.FnExactLimiterOkSaid :=
  OpenClaim.holds_of_wide 9 Try.f9 rfl rfl rfl rfl rfl rfl rfl ⟨rfl, rfl, rfl, rfl, rfl⟩ rfl rfl rfl rfl rfl (by as_aux_lemma => kernel_rfl) Try.func9 lo_facts
    (of_decide_eq_true (by as_aux_lemma => kernel_rfl)) (by unfold Func.isWrapper; first | (rw [if_pos (by decide +kernel)]; kernel_rfl) | (rw [if_neg (by decide +kernel)]; exact ⟨rfl, rfl⟩))
    (fun os started H enc _ => lo_lifted os started H enc)
#print axioms lo_holds
end Go.Proofs.Ytnnhcgnagmdheaa
