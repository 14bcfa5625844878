/- For every list of nodes the program's NodesOk answers as the reference; its argument stays as it was. -/
import Derived.Test.YtnnhcgnagmdheaaNdOkI
import Derived.Test.YtnnhcgnagmdheaaNdOkS
namespace Go.Proofs.Ytnnhcgnagmdheaa
open Go.ChangeShapes Go.WideShapes Go.ChangeAt Go.RowKit
set_option linter.unusedVariables false
set_option linter.unusedSimpArgs false

set_option maxRecDepth 100000 in
theorem open_nds {H : Type} {enc : TypeId × Value → H} {w : World} {held : Bool} {r : Reach} {b0 : Nat} {v : Value} {d : DataW H} {q : List MemPlace}
    (hv : Value.okWide Try.prog w r b0 22 v) (h : DataW.Trod enc Try.prog w 0 (fun _ => true) held 22 v d q) :
    ∃ (x : Option Addr) (len cap : Nat) (l : List Nd), v = .slice x len cap ∧ (Hid (len = l.length) ∧ len ≤ cap ∧ cap ≤ maxLen ∧ Nds w.heap.size w x l) := by
  obtain ⟨x, len, cap, l, rfl, hl, hr, hc, hm⟩ := open_nodes (enc := enc) Try.underlying22 Try.underlying68 (by kernel_rfl) ⟨⟨rfl, rfl, rfl, rfl⟩, by kernel_rfl, by kernel_rfl, by kernel_rfl, by kernel_rfl⟩ Try.underlying4 Try.underlying29 Try.underlying2 (by kernel_rfl) Try.underlying2 Try.underlying2 hv h
  exact ⟨x, len, cap, l, rfl, Lib.hid hl, hc, hm, hr⟩
theorem no_walk (W : World) (x : Option Addr) (n cap : Nat) (l : List Nd) (h : Hid (n = l.length) ∧ n ≤ cap ∧ cap ≤ maxLen ∧ Nds W.heap.size W x l) :
    Calls Try.prog 3 #[.slice x n cap] W fun e w' => e = .returned (.bool true) ∧ Below W.heap.size W w' := by
  obtain ⟨hn, hnc, hcm, hr⟩ := h
  have hnm : n ≤ maxLen := Nat.le_trans hnc hcm
  have HZ := Lib.hid (szNodeS_c l n hn hnm x cap W hr)
  obtain ⟨o, ho⟩ : ∃ o, nodesOk l = o := ⟨_, rfl⟩
  have HS := Lib.hid (fun x cap W h => (ho ▸ nodesOk_spec l n hn hnm x cap W h : Calls Try.prog 14 #[.slice x n cap] W fun e w' => e = .returned (.bool o) ∧ Below W.heap.size W w'))
  have HI := Lib.hid (fun x cap W h => (ho ▸ nodesOk_impl l n hn hnm x cap W h : Calls Try.prog 16 #[.slice x n cap] W fun e w' => e = .returned (.bool o) ∧ Below W.heap.size W w'))
  have HE := Lib.hid (fun x y cap cap' w h h' => eqNodeS_c l n hn hnm x y cap cap' w h h')
  have hoo : (o != o) = false := by cases o <;> rfl
  clear hnc hcm hnm ho
  go_enter Try.func3, Try.ntmps3
  go_wp2_with fail
  refine HZ.out.mono ?_
  rintro e w0 ⟨r, rfl, hz, b0⟩
  rcases hz with hz | ⟨hz, hn1, hs1⟩
  · have hd : decide (r < 0) = true := decide_eq_true hz
    go_wp2_with fail
    go_returns
    exact ⟨rfl, b0⟩
  · have hd : decide (r < 0) = false := decide_eq_false (by omega)
    have HT := Lib.hid (fun w h => toNodeS_c l n hn hn1 hs1 x cap w h)
    have hr0 := hr.next b0
    clear hr hz HZ
    go_wp2_with fail
    refine (HT.out _ hr0).mono ?_
    rintro e w1 ⟨g1, rfl, t1, _, hb1⟩
    have b1 := grow_next b0 hb1
    have r1 := hr0.next hb1
    go_wp2_with fail
    refine (HS.out _ _ _ t1.nds).mono ?_
    rintro e w2 ⟨rfl, hb2⟩
    have b2 := grow_next b1 hb2
    have r2 := r1.next hb2
    go_wp2_with fail
    refine (HT.out _ r2).mono ?_
    rintro e w3 ⟨g3, rfl, t3, _, hb3⟩
    have b3 := grow_next b2 hb3
    have r3 := r2.next hb3
    go_wp2_with fail
    refine (HI.out _ _ _ t3.nds).mono ?_
    rintro e w4 ⟨rfl, hb4⟩
    have b4 := grow_next b3 hb4
    have r4 := r3.next hb4
    have t4 := t3.next hb4
    go_wp2_with fail
    refine (HT.out _ r4).mono ?_
    rintro e w5 ⟨g5, rfl, t5, _, hb5⟩
    have b5 := grow_next b4 hb5
    have t5' := t4.next hb5
    go_wp2_with fail
    refine (HE.out _ _ _ _ _ t5'.nds t5.nds).mono ?_
    rintro e w6 ⟨rfl, hb6⟩
    go_wp2_with fail
    go_returns
    exact ⟨rfl, grow_next b5 hb6⟩

set_option maxRecDepth 100000 in
theorem no_lifted (os : Os) (started : os.Started) (H : Type) (enc : TypeId × Value → H) :
    ReturnsInHanded {} Try.checked os 3 .any (Rows.fnExactNodesOkSpec.pre6 enc Try.prog Try.f3 Rows.fnExactNodesOkRow.domain false) (Rows.fnExactNodesOkSpec.post enc Try.prog Try.f3 false true false false) := by
  refine lifted_of_walk (C := Try.checked) own started (by as_aux_lemma => kernel_rfl) Try.func3
    (ChangeSpec.witness6 (enc := enc) (C := Try.checked) false ⟨#[], #[.slice none 0 0], []⟩ 8 (by as_aux_lemma => kernel_rfl) (by as_aux_lemma => kernel_rfl) (by as_aux_lemma => kernel_rfl) (by as_aux_lemma => kernel_rfl) (by as_aux_lemma => kernel_rfl))
    laidOut rfl (by as_aux_lemma => kernel_rfl) (by as_aux_lemma => kernel_rfl) boolType
    (fun ds h => by
      match ds, h with
      | [_], _ => rfl)
    ?_
  intro W base args ds q hval hA
  rw [Try.params3] at hA hval
  obtain ⟨v0, vs0, d0, ds0, p0, q0, hargs, rfl, rfl, h0, r0⟩ := trodAll_cons hA
  obtain ⟨rfl, rfl, rfl⟩ := trodAll_nil r0
  obtain rfl : args = #[v0] := by cases args; simp_all
  obtain ⟨a0, len0, cap0, z0, rfl, w0⟩ := open_nds (hval 0 22 v0 rfl rfl) h0
  exact no_walk W a0 len0 cap0 z0 w0

theorem no_facts : joinedFacts Try.pinned.checked.prog 3 Try.f3 Rows.fnExactNodesOkSpec Rows.fnExactNodesOkRow = true :=
  facts_of (P := Try.prog) (by as_aux_lemma => kernel_rfl) laidOut mapsRow (by as_aux_lemma => kernel_rfl) (by as_aux_lemma => kernel_rfl) rfl noStops rfl noKnobs (by as_aux_lemma => kernel_rfl) (by as_aux_lemma => kernel_rfl) (by as_aux_lemma => kernel_rfl) (by as_aux_lemma => kernel_rfl) (by as_aux_lemma => kernel_rfl) (by as_aux_lemma => kernel_rfl) (by as_aux_lemma => kernel_rfl) (by as_aux_lemma => kernel_rfl) (by as_aux_lemma => kernel_rfl) rfl (by as_aux_lemma => kernel_rfl) (by as_aux_lemma => kernel_rfl) (by as_aux_lemma => kernel_rfl) keysPlain rfl heard enters finals isMake rfl rfl rfl (by as_aux_lemma => kernel_rfl) (by as_aux_lemma => kernel_rfl)

/-- The given statement. -/
theorem no_holds : Rows.FnExactNodesOkSaid :=
  OpenClaim.holds_of_wide 3 Try.f3 rfl rfl rfl rfl rfl rfl rfl ⟨rfl, rfl, rfl, rfl, rfl⟩ rfl rfl rfl rfl rfl (by as_aux_lemma => kernel_rfl) Try.func3 no_facts
    (of_decide_eq_true (by as_aux_lemma => kernel_rfl)) (by unfold Func.isWrapper; first | (rw [if_pos (by decide +kernel)]; kernel_rfl) | (rw [if_neg (by decide +kernel)]; exact ⟨rfl, rfl⟩))
    (fun os started H enc _ => no_lifted os started H enc)
#print axioms no_holds
end Go.Proofs.Ytnnhcgnagmdheaa
