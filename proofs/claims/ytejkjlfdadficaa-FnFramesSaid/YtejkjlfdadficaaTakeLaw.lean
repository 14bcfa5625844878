/- For every text the program's TakeFrames answers as the reference; its answer owns its memory. -/
import Derived.Test.YtejkjlfdadficaaTakeS
namespace Go.Proofs.Ytejkjlfdadficaa
open Go.ChangeShapes Go.WideShapes Go.ChangeAt Go.RowKit
set_option linter.unusedVariables false
set_option linter.unusedSimpArgs false

theorem StrRow.geMap {base : Nat} {W : World} {z : Option Addr} {cz : Nat} {c : List ByteArray} (h : StrRow base W z cz c) : ∀ k, z.map (·.block) = some k → base ≤ k := fun k e => by
  rcases h.2 with ⟨e', _⟩ | ⟨g, c', cur, e', hb, _⟩
  · simp only [Value.slice.injEq] at e'
    rw [e'.1] at e
    cases e
  · simp only [Value.slice.injEq] at e'
    rw [e'.1] at e
    simp at e
    omega
theorem StrRow.ne {base : Nat} {W : World} {z : Option Addr} {cz : Nat} {c : List ByteArray} (h : StrRow base W z cz c) {g : Nat} (hg : g < base) : some g ≠ z.map (·.block) := fun e => by
  have := h.geMap g e.symm
  omega
theorem stF_bound (s : ByteArray) : ∀ k, 8 * (stF s k).2.length ≤ (stF s k).1 ∧ (stF s k).1 ≤ s.size := by
  intro k
  induction k with
  | zero => exact ⟨Nat.le_refl _, Nat.zero_le _⟩
  | succ k ih =>
    rw [stF]
    split
    · rename_i ho
      have h3 := (fOk_parts ho).2.2
      rw [restF_size] at h3
      dsimp only
      rw [List.length_append, List.length_singleton]
      omega
    · exact ih
theorem framesF_length (s : ByteArray) : 8 * (framesF s).length ≤ s.size := by
  have := stF_bound s (s.size + 1)
  unfold framesF
  omega
set_option maxRecDepth 100000 in
set_option maxHeartbeats 1000000 in
theorem take_walk (s : ByteArray) (hs : s.size ≤ maxLen) (W : World) :
    Calls Try.prog 4 #[.string s] W fun e w' => e = .returned (.bool true) ∧ Below W.heap.size W w' := by
  unfold maxLen at hs
  by_cases hbig : s.size ≤ 1048576
  · have HS := Lib.hid (take_spec s (by omega))
    have HI := Lib.hid (take_impl s (by omega))
    have hl := framesF_length s
    unfold TakePost at HS HI
    obtain ⟨c, hc⟩ : ∃ c, framesF s = c := ⟨_, rfl⟩
    obtain ⟨p, hp⟩ : ∃ p, endF s = p := ⟨_, rfl⟩
    rw [hc] at HS HI hl
    rw [hp] at HS HI
    obtain ⟨m, hm⟩ : ∃ m, m = c.length := ⟨_, rfl⟩
    rw [← hm] at HS HI hl
    have HM := Lib.hid hm
    have hm1 : m ≤ 1048576 := by omega
    clear hc hp hm
    go_enter Try.func4, Try.ntmps4
    go_wp2_with fail
    refine (HS.out _).mono ?_
    rintro e w1 ⟨v, rfl, ho, b1⟩
    rw [HM.out] at ho
    obtain ⟨y, cy, rfl, r0⟩ := str_row ho
    rw [← HM.out]
    clear ho
    go_wp2_with fail
    refine (HI.out _).mono ?_
    rintro e w2 ⟨v, rfl, ho, b2⟩
    rw [HM.out] at ho
    obtain ⟨z, cz, rfl, r1⟩ := str_row ho
    rw [← HM.out]
    clear ho
    have G2 := grow_next b1 b2
    have q0 := r0.next b2
    have hlt0 := r0.lt
    go_wp2_with fail
    refine (eqStringS_c c m HM hm1 _ _ z y cz cy _ r1 q0).mono ?_
    rintro e w3 ⟨rfl, b3⟩
    have G3 := grow_next G2 b3
    have q0 := q0.next b3
    have r1 := r1.next b3
    go_wp2_with fail
    refine (markStringS_c c m HM hm1 1 (by omega) (by omega) _ z cz _ r1).mono ?_
    rintro e w4 ⟨rfl, r2, b4⟩
    have hne : ∀ g, y = some ⟨g, 0, none⟩ → some g ≠ z.map (·.block) := fun g e => r1.ne (hlt0 g e)
    have q0 := q0.keep b4 hne
    have G4 : Below W.heap.size W w4 := G3.grown b4 G3.size (fun k e => Nat.le_trans b1.size (r1.geMap k e))
    have hpos : decide (((1 : Nat) : Int) + (m : Int) < 0) = false := decide_eq_false (by omega)
    go_wp2_with fail
    refine (heldStringS_c m hm1 1 (by omega) (by omega) _ z cz _ r2).mono ?_
    rintro e w5 ⟨rfl, b5⟩
    have G5 := grow_next G4 b5
    have q0 := q0.next b5
    have r2 := r2.next b5
    go_wp2_with fail
    refine (HI.out _).mono ?_
    rintro e w6 ⟨v, rfl, ho, b6⟩
    rw [HM.out] at ho
    obtain ⟨z2, cz2, rfl, r3⟩ := str_row ho
    rw [← HM.out]
    clear ho
    have G6 := grow_next G5 b6
    have q0 := q0.next b6
    have r2 := r2.next b6
    go_wp2_with fail
    refine (eqStringS_c c m HM hm1 _ _ z2 y cz2 cy _ r3 q0).mono ?_
    rintro e w7 ⟨rfl, b7⟩
    have G7 := grow_next G6 b7
    have r2 := r2.next b7
    go_wp2_with fail
    refine (heldStringS_c m hm1 1 (by omega) (by omega) _ z cz _ r2).mono ?_
    rintro e w8 ⟨rfl, b8⟩
    have G8 := grow_next G7 b8
    go_wp2_with fail
    go_returns
    exact ⟨rfl, G8⟩
  · go_enter Try.func4, Try.ntmps4
    go_wp2_with fail
    go_returns
    exact ⟨rfl, Below.refl _ _⟩
set_option maxRecDepth 100000 in
theorem take_lifted (os : Os) (started : os.Started) (H : Type) (enc : TypeId × Value → H) :
    ReturnsInHanded {} Try.checked os 4 .any (Rows.fnExactTakeFramesSpec.pre6 enc Try.prog Try.f4 Rows.fnExactTakeFramesRow.domain false) (Rows.fnExactTakeFramesSpec.post enc Try.prog Try.f4 false true false false) := by
  refine lifted_of_walk (C := Try.checked) own started (by as_aux_lemma => kernel_rfl) Try.func4
    (ChangeSpec.witness6 (enc := enc) (C := Try.checked) false ⟨#[], #[.string ByteArray.empty], []⟩ 8 (by as_aux_lemma => kernel_rfl) (by as_aux_lemma => kernel_rfl) (by as_aux_lemma => kernel_rfl) (by as_aux_lemma => kernel_rfl) (by as_aux_lemma => kernel_rfl))
    laidOut rfl (by as_aux_lemma => kernel_rfl) (by as_aux_lemma => kernel_rfl) boolType
    (fun ds h => by
      match ds, h with
      | [_], _ => rfl)
    ?_
  intro W base args ds q hval hA
  rw [Try.params4] at hA hval
  obtain ⟨v0, vs0, d0, ds0, p0, q0, hargs, rfl, rfl, h0, r0⟩ := trodAll_cons hA
  obtain ⟨rfl, rfl, rfl⟩ := trodAll_nil r0
  obtain rfl : args = #[v0] := by cases args; simp_all
  obtain ⟨a0, rfl, rfl, rfl, w0⟩ := Go.ChangeMaps.open_string Try.underlying9 (hval 0 9 v0 rfl rfl) h0
  exact take_walk a0 w0 W

theorem take_facts : joinedFacts Try.pinned.checked.prog 4 Try.f4 Rows.fnExactTakeFramesSpec Rows.fnExactTakeFramesRow = true :=
  facts_of (P := Try.prog) (by as_aux_lemma => kernel_rfl) laidOut mapsRow (by as_aux_lemma => kernel_rfl) (by as_aux_lemma => kernel_rfl) rfl noStops rfl noKnobs (by as_aux_lemma => kernel_rfl) (by as_aux_lemma => kernel_rfl) (by as_aux_lemma => kernel_rfl) (by as_aux_lemma => kernel_rfl) (by as_aux_lemma => kernel_rfl) (by as_aux_lemma => kernel_rfl) (by as_aux_lemma => kernel_rfl) (by as_aux_lemma => kernel_rfl) (by as_aux_lemma => kernel_rfl) rfl (by as_aux_lemma => kernel_rfl) (by as_aux_lemma => kernel_rfl) (by as_aux_lemma => kernel_rfl) keysPlain rfl heard enters finals isMake rfl rfl rfl (by as_aux_lemma => kernel_rfl) (by as_aux_lemma => kernel_rfl)

/-- The given statement. -/
theorem take_holds : Rows.FnExactTakeFramesSaid :=
  OpenClaim.holds_of_wide 4 Try.f4 rfl rfl rfl rfl rfl rfl rfl ⟨rfl, rfl, rfl, rfl, rfl⟩ rfl rfl rfl rfl rfl (by as_aux_lemma => kernel_rfl) Try.func4 take_facts
    (of_decide_eq_true (by as_aux_lemma => kernel_rfl)) (by unfold Func.isWrapper; first | (rw [if_pos (by decide +kernel)]; kernel_rfl) | (rw [if_neg (by decide +kernel)]; exact ⟨rfl, rfl⟩))
    (fun os started H enc _ => take_lifted os started H enc)
#print axioms take_holds
end Go.Proofs.Ytejkjlfdadficaa
