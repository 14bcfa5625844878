/- For every list of intervals the program's Chimers answers as the reference; its argument stays as it was; its answer owns its memory. -/
import Derived.Test.YtoejeekepagfcaaInts
namespace Go.Proofs.Ytoejeekepagfcaa
open Go.ChangeShapes Go.WideShapes Go.ChangeAt Go.RowKit
set_option linter.unusedVariables false
set_option linter.unusedSimpArgs false

theorem IvTab.any {m g o : Nat} {w : World} {l : List Iv} {v : Value} (h : IvTab m w g l) : IvTab m (w.setCell ⟨g, o, none⟩ v) g [] := by
  obtain ⟨cur, h1, h2, _, _⟩ := h
  exact ⟨_, heap_set h1 _ _, by simp [h2], by simp, by simp⟩

set_option maxHeartbeats 1000000 in
theorem markIntervalS_c (n : Nat) (hm : n ≤ 1048576) (k0 : Int) (h0 : 0 ≤ k0) (h1 : k0 ≤ 1048576) (g cap : Nat) (l : List Iv) (w : World) (h : IvTab n w g l) :
    Calls Try.prog 22 #[.slice (some ⟨g, 0, none⟩) n cap, .int .i64 k0] w fun e w' => e = .returned (.int .i64 (k0 + 2 * n)) ∧ w.grownBy w' (some g) := by
  have hS : IvTab n w g [] := by
    obtain ⟨cur, a, b, _, _⟩ := h
    exact ⟨cur, a, b, by simp, by simp⟩
  clear h
  go_enter Try.func22, Try.ntmps22
  go_wp2
  go_loopw [1, 5] (fun m i wr => ∃ k : Nat, k ≤ n ∧ i = .int .i64 k ∧ m = .int .i64 (k0 + 2 * k) ∧ IvTab n wr g [] ∧ w.grownBy wr (some g)) (fun _ i _ => n - (intOf i).toNat)
  case atStart => exact ⟨0, Nat.zero_le _, rfl, by simp, hS, World.grownBy.refl _ _⟩
  case round =>
    obtain ⟨k, hk, rfl, rfl, hr, hg⟩ := hrel
    by_cases hlt : k < n
    · obtain ⟨⟨u0, r0⟩, ⟨u1, r1⟩, f0, f1⟩ := hr.room hlt
      have hr' := (hr.any (o := k * 2) (v := .int .i64 (k0 + 2 * k))).any (o := k * 2 + 1) (v := .int .i64 (k0 + 2 * k + 1))
      have hg' := grown_set (grown_set hg (k * 2) (.int .i64 (k0 + 2 * k))) (k * 2 + 1) (.int .i64 (k0 + 2 * k + 1))
      go_wp2_with fail
      go_roundw
      case rel => exact ⟨k + 1, by omega, by go_num, by rw [show k0 + 2 * ((k + 1 : Nat) : Int) = k0 + 2 * (k : Int) + 1 + 1 from by omega], hr', hg'⟩
      case measure => simp [intOf]; omega
    · have HE := Lib.hid (show k = n by omega)
      go_wp2_with fail
      go_returns
      exact ⟨by rw [HE.out]; rfl, hg⟩

theorem int_row {base : Nat} {w : World} {v : Value} {c : List Int} (h : w.ownsRow base 2 1 v c.length (c.map (Value.int .i64))) : ∃ x cap, v = .slice x c.length cap ∧ IntRow base w x cap c := by
  obtain ⟨x, cap, rfl⟩ := ownsRow_form h
  exact ⟨x, cap, rfl, h⟩

set_option maxHeartbeats 1000000 in
theorem ch_walk (W : World) (x : Option Addr) (n cap : Nat) (l : List Iv) (h : Hid (n = l.length) ∧ n ≤ cap ∧ cap ≤ maxLen ∧ Ivs W.heap.size W x l) :
    Calls Try.prog 4 #[.slice x n cap] W fun e w' => e = .returned (.bool true) ∧ Below W.heap.size W w' := by
  obtain ⟨hn, hnc, hcm, hr⟩ := h
  have hnm : n ≤ maxLen := Nat.le_trans hnc hcm
  clear hnc hcm
  have hsz := szIntervalS_c n 1048576 (by omega) (by omega) hnm x cap
  by_cases hlt : n ≤ 1048576
  · have HZ := Lib.hid (fun w => show Calls Try.prog 13 #[.slice x n cap, .int .i64 1048576] w fun e w' => e = .returned (.int .i64 (1048576 - n)) ∧ w = w' by have := hsz w; rwa [if_pos (by omega)] at this)
    have h1 : (0 : Int) ≤ 1048576 - n := by omega
    have h2 : (1048576 : Int) - n ≤ 1048576 := by omega
    clear hsz
    have HS := Lib.hid (fun x cap w h => chimers_spec l n hn hlt x cap w h)
    have HI := Lib.hid (fun x cap w h => chimers_impl l n hn hlt x cap w h)
    have HT := Lib.hid (fun w h => toIntervalS_c l n hn hlt x cap w h)
    have HE := Lib.hid (fun x y cap cap' w h h' => eqIntervalS_c l n hn hnm x y cap cap' w h h')
    go_enter Try.func4, Try.ntmps4
    go_wp2_with fail
    refine (HZ.out _).mono ?_
    rintro e w1 ⟨rfl, rfl⟩
    go_wp2_with fail
    refine (HT.out _ hr).mono ?_
    rintro e w1 ⟨g1, rfl, t1, _, b1⟩
    go_wp2_with fail
    refine (HS.out _ _ _ t1.ivs).mono ?_
    rintro e w2 ⟨c, hC, v, rfl, ho, b2⟩
    obtain ⟨y, cy, rfl, r0⟩ := int_row ho
    have hcl := hC.length
    rw [← hn.out] at hcl
    obtain ⟨m, hm'⟩ : ∃ m, m = c.length := ⟨_, rfl⟩
    rw [← hm'] at hcl ⊢
    have HM := Lib.hid hm'
    have HC := Lib.hid hC
    clear hC hm' ho
    have G2 := grow_next b1 b2
    go_wp2_with fail
    refine (HT.out _ (hr.next G2)).mono ?_
    rintro e w3 ⟨g3, rfl, t3, hg3, b3⟩
    have G3 := grow_next G2 b3
    have q0 := r0.next b3
    have hlt0 : ∀ g, y = some ⟨g, 0, none⟩ → g < g3 := fun g e => by have := r0.lt g e; omega
    go_wp2_with fail
    refine (HI.out _ _ _ t3.ivs).mono ?_
    rintro e w4 ⟨c', hC', v, rfl, ho, b4⟩
    obtain rfl := HC.out.same hC'
    obtain ⟨z, cz, rfl, r1⟩ := int_row ho
    rw [← HM.out]
    clear hC' ho
    have G4 := grow_next G3 b4
    have q0 := q0.next b4
    have t4 := t3.next b4
    have hge1 : ∀ g, z = some ⟨g, 0, none⟩ → w3.heap.size ≤ g := r1.ge
    have hs3 : g3 < w3.heap.size := TabAt.lt t3
    go_wp2_with fail
    refine (eqInt64S_c c m HM (by omega) _ _ z y cz cy _ r1 q0).mono ?_
    rintro e w5 ⟨rfl, b5⟩
    have G5 := grow_next G4 b5
    have q0 := q0.next b5
    have r1 := r1.next b5
    have t5 := t4.next b5
    go_wp2_with fail
    refine (HT.out _ (hr.next G5)).mono ?_
    rintro e w6 ⟨g6, rfl, t6, _, b6⟩
    have G6 := grow_next G5 b6
    have q0 := q0.next b6
    have r1 := r1.next b6
    have t5' := t5.next b6
    go_wp2_with fail
    refine (HE.out _ _ _ _ _ t5'.ivs t6.ivs).mono ?_
    rintro e w7 ⟨rfl, b7⟩
    have G7 := grow_next G6 b7
    have q0 := q0.next b7
    have r1 := r1.next b7
    have t7 := t5'.next b7
    go_wp2_with fail
    refine (markIntervalS_c n hlt 1 (by omega) (by omega) g3 _ l _ t7).mono ?_
    rintro e w8 ⟨rfl, b8⟩
    have hgW : W.heap.size ≤ g3 := Nat.le_trans G2.size hg3
    have G8 := grownBy_below G7 G7.size b8 (fun k e => by simp only [Option.some.injEq] at e; omega)
    have q0 := q0.keep b8 (fun g e => by have := hlt0 g e; simp; omega)
    have r1 := r1.keep b8 (fun g e => by have := hge1 g e; simp; omega)
    have hpos : decide ((1 : Int) + 2 * (n : Int) < 0) = false := decide_eq_false (by omega)
    go_wp2_with fail
    refine (eqInt64S_c c m HM (by omega) _ _ z y cz cy _ r1 q0).mono ?_
    rintro e w9 ⟨rfl, b9⟩
    have G9 := grow_next G8 b9
    have q0 := q0.next b9
    have r1 := r1.next b9
    go_wp2_with fail
    refine (markInt64S_c c m HM (by omega) 1 (by omega) (by omega) _ z cz _ r1).mono ?_
    rintro e w10 ⟨rfl, r2, b10⟩
    have G10 := grownBy_below G9 G9.size b10 (fun k e => by
      cases z with
      | none => simp at e
      | some a =>
        simp at e
        obtain ⟨hl, hh⟩ : a = ⟨a.block, 0, none⟩ ∧ True := by
          rcases r1.2 with ⟨e', _⟩ | ⟨g, c', cur, e', _⟩
          · simp at e'
          · simp only [Value.slice.injEq, Option.some.injEq] at e'
            rw [e'.1]
            simp
        have := hge1 a.block (by rw [← hl])
        have := G3.size
        omega)
    have q0 := q0.keep b10 (fun g e => by
      have h1 := hlt0 g e
      intro he
      cases z with
      | none => simp at he
      | some a =>
        simp at he
        have ha : a = ⟨a.block, 0, none⟩ := by
          rcases r1.2 with ⟨e', _⟩ | ⟨g, c', cur, e', _⟩
          · simp at e'
          · simp only [Value.slice.injEq, Option.some.injEq] at e'
            rw [e'.1]
        have := hge1 a.block (by rw [← ha])
        omega)
    have e1 : decide ((1 : Int) + (m : Int) < 0) = false := decide_eq_false (by omega)
    clear hge1 hlt0 r1
    go_wp2_with fail
    refine (heldInt64S_c m (by omega) 1 (by omega) (by omega) _ z cz _ r2).mono ?_
    rintro e w11 ⟨rfl, rfl⟩
    go_wp2_with fail
    refine (HT.out _ (hr.next G10)).mono ?_
    rintro e w12 ⟨g12, rfl, t12, _, b12⟩
    have G12 := grow_next G10 b12
    have q0 := q0.next b12
    have r2 := r2.next b12
    go_wp2_with fail
    refine (HI.out _ _ _ t12.ivs).mono ?_
    rintro e w13 ⟨c', hC', v, rfl, ho, b13⟩
    obtain rfl := HC.out.same hC'
    obtain ⟨u, cu, rfl, r3⟩ := int_row ho
    rw [← HM.out]
    clear hC' ho
    have G13 := grow_next G12 b13
    have q0 := q0.next b13
    have r2 := r2.next b13
    go_wp2_with fail
    refine (eqInt64S_c c m HM (by omega) _ _ u y cu cy _ r3 q0).mono ?_
    rintro e w14 ⟨rfl, b14⟩
    have G14 := grow_next G13 b14
    have r2 := r2.next b14
    go_wp2_with fail
    refine (heldInt64S_c m (by omega) 1 (by omega) (by omega) _ z cz _ r2).mono ?_
    rintro e w15 ⟨rfl, rfl⟩
    go_wp2_with fail
    go_returns
    exact ⟨rfl, G14⟩
  · have HZ := Lib.hid (fun w => show Calls Try.prog 13 #[.slice x n cap, .int .i64 1048576] w fun e w' => e = .returned (.int .i64 (-1)) ∧ w = w' by have := hsz w; rwa [if_neg (by omega)] at this)
    clear hsz
    go_enter Try.func4, Try.ntmps4
    go_wp2_with fail
    refine (HZ.out _).mono ?_
    rintro e w1 ⟨rfl, rfl⟩
    go_wp2_with fail
    go_returns
    exact ⟨rfl, Below.refl _ _⟩

set_option maxRecDepth 100000 in
theorem ch_lifted (os : Os) (started : os.Started) (H : Type) (enc : TypeId × Value → H) :
    ReturnsInHanded {} Try.checked os 4 .any (Rows.fnExactChimersSpec.pre6 enc Try.prog Try.f4 Rows.fnExactChimersRow.domain false) (Rows.fnExactChimersSpec.post enc Try.prog Try.f4 false true false false) := by
  refine lifted_of_walk (C := Try.checked) own started (by as_aux_lemma => kernel_rfl) Try.func4
    (ChangeSpec.witness6 (enc := enc) (C := Try.checked) false ⟨#[], #[.slice none 0 0], []⟩ 8 (by as_aux_lemma => kernel_rfl) (by as_aux_lemma => kernel_rfl) (by as_aux_lemma => kernel_rfl) (by as_aux_lemma => kernel_rfl) (by as_aux_lemma => kernel_rfl))
    laidOut rfl (by as_aux_lemma => kernel_rfl) (by as_aux_lemma => kernel_rfl) boolType
    (fun ds h => by
      match ds, h with
      | [_], _ => rfl)
    ?_
  intro W base args ds q hval hA
  rw [Try.params4] at hA hval
  obtain ⟨v0, vs0, d0, ds0, p0, q0, hargs, rfl, rfl, h0, r0⟩ := trodAll_cons hA
  obtain ⟨rfl, rfl, rfl⟩ := trodAll_nil r0
  obtain rfl : args = #[v0] := by cases args; simp_all
  obtain ⟨a0, len0, cap0, z0, rfl, w0⟩ := open_ivs (hval 0 22 v0 rfl rfl) h0
  exact ch_walk W a0 len0 cap0 z0 w0

theorem ch_facts : joinedFacts Try.pinned.checked.prog 4 Try.f4 Rows.fnExactChimersSpec Rows.fnExactChimersRow = true :=
  facts_of (P := Try.prog) (by as_aux_lemma => kernel_rfl) laidOut mapsRow (by as_aux_lemma => kernel_rfl) (by as_aux_lemma => kernel_rfl) rfl noStops rfl noKnobs (by as_aux_lemma => kernel_rfl) (by as_aux_lemma => kernel_rfl) (by as_aux_lemma => kernel_rfl) (by as_aux_lemma => kernel_rfl) (by as_aux_lemma => kernel_rfl) (by as_aux_lemma => kernel_rfl) (by as_aux_lemma => kernel_rfl) (by as_aux_lemma => kernel_rfl) (by as_aux_lemma => kernel_rfl) rfl (by as_aux_lemma => kernel_rfl) (by as_aux_lemma => kernel_rfl) (by as_aux_lemma => kernel_rfl) keysPlain rfl heard enters finals isMake rfl rfl rfl (by as_aux_lemma => kernel_rfl) (by as_aux_lemma => kernel_rfl)

/-- The given statement. -/
theorem ch_holds : Rows.FnExactChimersSaid :=
  OpenClaim.holds_of_wide 4 Try.f4 rfl rfl rfl rfl rfl rfl rfl ⟨rfl, rfl, rfl, rfl, rfl⟩ rfl rfl rfl rfl rfl (by as_aux_lemma => kernel_rfl) Try.func4 ch_facts
    (of_decide_eq_true (by as_aux_lemma => kernel_rfl)) (by unfold Func.isWrapper; first | (rw [if_pos (by decide +kernel)]; kernel_rfl) | (rw [if_neg (by decide +kernel)]; exact ⟨rfl, rfl⟩))
    (fun os started H enc _ => ch_lifted os started H enc)
#print axioms ch_holds
end Go.Proofs.Ytoejeekepagfcaa
