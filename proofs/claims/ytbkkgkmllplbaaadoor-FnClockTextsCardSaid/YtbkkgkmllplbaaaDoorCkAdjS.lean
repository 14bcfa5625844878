/- The reference's Adjusted by a clock's numbers. -/
import Derived.Test.YtbkkgkmllplbaaaDoorCkI
import Derived.Test.YtbkkgkmllplbaaaDoorCkTwo
import Derived.Deep.CutRange
namespace Go.Proofs.YtbkkgkmllplbaaaDoor
open Go.ChangeShapes Go.WideShapes Go.ChangeAt Go.RowKit
set_option linter.unusedVariables false
set_option linter.unusedSimpArgs false

theorem l7Poll_c (c : Ck) (h : c.ok = true) (o : Int) (ho : -4611686018427387904 ≤ o ∧ o ≤ 4611686018427387904) (w : World) :
    Calls Tryd.prog 62 #[.agg #[.int .i64 c.st, .int .i64 c.off, .int .i64 c.fr, .int .i64 c.poll, .int .i64 c.calm], .int .i64 o] w fun e w' => e = .returned (.agg #[.int .i64 (polled c o).st, .int .i64 (polled c o).off, .int .i64 (polled c o).fr, .int .i64 (polled c o).poll, .int .i64 (polled c o).calm]) ∧ Below w.heap.size w w' := by
  obtain ⟨_, _, _, ⟨p0, p1⟩, a0, a1⟩ := Ck.ok_iff.1 h
  obtain ⟨m, hm⟩ : ∃ m, m = max o (-o) := ⟨_, rfl⟩
  have HA : Hid (∀ w, Calls Tryd.prog 60 #[.int .i64 o] w fun e w' => e = .returned (.int .i64 m) ∧ w = w') := Lib.hid (fun w => hm ▸ l1Abs_c o ho.1 ho.2 w)
  obtain ⟨v, hw⟩ : ∃ v, v = polled c o := ⟨_, rfl⟩
  rw [← hw]
  by_cases m1 : 10000 ≤ m
  · have hv : v = ⟨c.st, c.off, c.fr, max (c.poll - 1) 4, 0⟩ := by rw [hw]; unfold polled; rw [if_pos (unB_no (by omega))]
    have E := Lib.hid hv
    clear hv hw hm h ho
    go_enter Tryd.func62, Tryd.ntmps62
    go_wp2_with (go_at_call 60; refine (HA.out _).mono ?_; rintro e w1 ⟨rfl, rfl⟩)
    all_goals
      go_returns
      exact ⟨ret_ck (by rw [E.out]; exact Ck.same rfl rfl rfl (by dsimp only; omega) rfl), by go_grown⟩
  · have u1 : unB o 10000 = true := unB_iff.2 (by omega)
    by_cases m2 : m < 1000
    · have u2 : unB o 1000 = true := unB_iff.2 (by omega)
      have hv1 : v = calmedV c := by rw [hw]; unfold polled calmedV; rw [u1, u2]; rfl
      by_cases hc : c.calm < 3
      · have hv : v = ⟨c.st, c.off, c.fr, c.poll, c.calm + 1⟩ := by rw [hv1]; unfold calmedV; rw [if_pos hc]
        subst hv
        clear hv1 hw hm h ho u1 u2
        go_enter Tryd.func62, Tryd.ntmps62
        go_wp2_with (go_at_call 60; refine (HA.out _).mono ?_; rintro e w1 ⟨rfl, rfl⟩)
        all_goals
          go_returns
          exact ⟨rfl, by go_grown⟩
      · have hv : v = ⟨c.st, c.off, c.fr, min (c.poll + 1) 10, 0⟩ := by rw [hv1]; unfold calmedV; rw [if_neg hc]
        have E := Lib.hid hv
        clear hv hv1 hw hm h ho u1 u2
        go_enter Tryd.func62, Tryd.ntmps62
        go_wp2_with (go_at_call 60; refine (HA.out _).mono ?_; rintro e w1 ⟨rfl, rfl⟩)
        all_goals
          go_returns
          exact ⟨ret_ck (by rw [E.out]; exact Ck.same rfl rfl rfl (by dsimp only; omega) rfl), by go_grown⟩
    · have u2 : unB o 1000 = false := unB_no (by omega)
      have hv : v = c := by rw [hw]; unfold polled; rw [u1, u2]; rfl
      subst hv
      clear hw hm h ho u1 u2
      go_enter Tryd.func62, Tryd.ntmps62
      go_wp2_with (go_at_call 60; refine (HA.out _).mono ?_; rintro e w1 ⟨rfl, rfl⟩)
      all_goals
        go_returns
        exact ⟨rfl, by go_grown⟩

theorem ckOk_decS {c : Ck} {b : Bool} (h : c.ok = b) (w : World) : Calls Tryd.prog 20 #[.agg #[.int .i64 c.st, .int .i64 c.off, .int .i64 c.fr, .int .i64 c.poll, .int .i64 c.calm]] w fun e w' => e = .returned (.bool b) ∧ Below w.heap.size w w' := h ▸ clockOk_spec c w
/-- What the reference's Adjusted answers. -/
def AdjPostS (w : World) (c : Ck) (n : Int) (b : Bool) : Ending → World → Prop := fun e w' => e = .returned (.tuple #[.agg #[.int .i64 c.st, .int .i64 c.off, .int .i64 c.fr, .int .i64 c.poll, .int .i64 c.calm], .int .i64 n, .bool b]) ∧ Below w.heap.size w w'
theorem adjV_noS {c : Ck} {o g : Int} (h : adjOk c o g = false) : adjV c o g = Ck.zero ∧ stepV c o g = 0 := by
  unfold adjV stepV; rw [h]; exact ⟨rfl, rfl⟩
theorem adjOk_ofS (c : Ck) (o g : Int) : (c.ok = false ∧ adjOk c o g = false) ∨ (c.ok = true ∧ inB (-1000000000000) o 1000000000000 = false ∧ adjOk c o g = false) ∨ (c.ok = true ∧ inB (-1000000000000) o 1000000000000 = true ∧ inB 1 g 100000 = false ∧ adjOk c o g = false) ∨ (c.ok = true ∧ inB (-1000000000000) o 1000000000000 = true ∧ inB 1 g 100000 = true ∧ adjOk c o g = true) := by
  unfold adjOk
  cases c.ok <;> cases inB (-1000000000000) o 1000000000000 <;> cases inB 1 g 100000 <;> simp

theorem adjusted_no (c : Ck) (o g : Int) (h : adjOk c o g = false) (w : World) :
    Calls Tryd.prog 47 #[.agg #[.int .i64 c.st, .int .i64 c.off, .int .i64 c.fr, .int .i64 c.poll, .int .i64 c.calm], .int .i64 o, .int .i64 g] w (AdjPostS w (adjV c o g) (stepV c o g) (adjOk c o g)) := by
  obtain ⟨e1, e2⟩ := adjV_noS h
  rw [e1, e2]
  rcases adjOk_ofS c o g with ⟨h0, h⟩ | ⟨h0, h1, h⟩ | ⟨h0, h1, h2, h⟩ | ⟨_, _, _, h'⟩
  rotate_left 3
  · rw [h] at h'; cases h'
  all_goals
    rw [h]
    dsimp only [Ck.zero]
    have H0 := Lib.hid (fun w => ckOk_decS h0 w)
    clear e1 e2 h h0
    go_enter Tryd.func47, Tryd.ntmps47
    go_wp2_with fail
    refine (H0.out _).mono ?_
    rintro e w1 ⟨rfl, hb⟩
    have T := (Two.new w c Ck.zero).next hb
    have X := T.cells
    have F := T.fin Ck.zero _ rfl
    dsimp only [Ck.zero] at X F
    clear T hb
    go_wp2_with (go_at_call 35; refine (l1In_c _ _ _ _).mono ?_; rintro e w1 ⟨rfl, rfl⟩)
    refine bodyPost_ret (by simp [results, Tryd.results47, go_sem, F]; try rfl) rfl ?_
    exact ⟨rfl, F.2⟩

set_option maxHeartbeats 1000000 in
theorem adjusted_small (c : Ck) (o g : Int) (h0 : c.ok = true) (h1 : inB (-1000000000000) o 1000000000000 = true) (h2 : inB 1 g 100000 = true) (hu : unB o 128000 = true) (w : World) :
    Calls Tryd.prog 47 #[.agg #[.int .i64 c.st, .int .i64 c.off, .int .i64 c.fr, .int .i64 c.poll, .int .i64 c.calm], .int .i64 o, .int .i64 g] w (AdjPostS w (followedV c o g) 0 true) := by
  obtain ⟨g0, g1⟩ := inB_iff.1 h2
  obtain ⟨o0, o1⟩ := unB_iff.1 hu
  obtain ⟨q0, q1⟩ := tdiv_bounds (a := o) (b := 16 * g) (m := 128000) (by omega) (by omega) (by omega)
  obtain ⟨_, _, ⟨f0, f1⟩, ⟨p0, p1⟩, a0, a1⟩ := Ck.ok_iff.1 h0
  obtain ⟨r, hr⟩ : ∃ r, r = clampV (c.fr + Int.tdiv o (16 * g)) 500 := ⟨_, rfl⟩
  have hb := clampV_bounds (c.fr + Int.tdiv o (16 * g)) (show (0 : Int) ≤ 500 by omega)
  rw [← hr] at hb
  have hok : (⟨1, o, r, c.poll, c.calm⟩ : Ck).ok = true := Ck.ok_iff.2 (by dsimp only; omega)
  obtain ⟨v, hv⟩ : ∃ v, v = followedV c o g := ⟨_, rfl⟩
  have hv' : v = polled ⟨1, o, r, c.poll, c.calm⟩ o := by rw [hv]; unfold followedV rateV; rw [← hr]
  rw [← hv]
  obtain ⟨m, hm⟩ : ∃ m, m = max o (-o) := ⟨_, rfl⟩
  have HA : Hid (∀ w, Calls Tryd.prog 60 #[.int .i64 o] w fun e w' => e = .returned (.int .i64 m) ∧ w = w') := Lib.hid (fun w => hm ▸ l1Abs_c o (by omega) (by omega) w)
  have ml : m < 128000 := by omega
  have HH : Hid (∀ w, Calls Tryd.prog 61 #[.int .i64 (c.fr + Int.tdiv o (16 * g)), .int .i64 500] w fun e w' => e = .returned (.int .i64 r) ∧ w = w') := Lib.hid (fun w => hr ▸ l7Clamp_c (c.fr + Int.tdiv o (16 * g)) 500 (by omega) (by omega) w)
  have HP : Hid (∀ w, Calls Tryd.prog 62 #[.agg #[.int .i64 1, .int .i64 o, .int .i64 r, .int .i64 c.poll, .int .i64 c.calm], .int .i64 o] w fun e w' => e = .returned (.agg #[.int .i64 v.st, .int .i64 v.off, .int .i64 v.fr, .int .i64 v.poll, .int .i64 v.calm]) ∧ Below w.heap.size w w') := Lib.hid (fun w => hv' ▸ l7Poll_c ⟨1, o, r, c.poll, c.calm⟩ hok o (by omega) w)
  have H0 := Lib.hid (fun w => ckOk_decS h0 w)
  have hm1 : IntKind.i64.wrap (16 * g) = 16 * g := IntWalk.i64_in _ (by omega)
  have hq1 : IntKind.i64.wrap (Int.tdiv o (16 * g)) = Int.tdiv o (16 * g) := IntWalk.i64_in _ (by omega)
  have ha1 : IntKind.i64.wrap (c.fr + Int.tdiv o (16 * g)) = c.fr + Int.tdiv o (16 * g) := IntWalk.i64_in _ (by omega)
  have hz : ¬ (16 * g = 0) := by omega
  clear hr hb hok hv hv' hm hu h0
  go_enter Tryd.func47, Tryd.ntmps47
  go_wp2_with fail
  refine (H0.out _).mono ?_
  rintro e w1 ⟨rfl, hb⟩
  have T := (Two.new w c Ck.zero).next hb
  have X := T.cells
  dsimp only [Ck.zero] at X
  clear hb
  go_upto_region 4 with (first | (go_at_call 35; refine (l1In_c _ _ _ _).mono ?_; rintro e w2 ⟨rfl, rfl⟩) | (go_at_call 60; refine (HA.out _).mono ?_; rintro e w2 ⟨rfl, rfl⟩))
  go_region_with (go_at_call 61; refine (HH.out _).mono ?_; rintro e w2 ⟨rfl, rfl⟩)
  all_goals
    clear hm1 hq1 ha1 hz
    have T2 := (((T.set1.2.2.1 r).set1.2.1 o).set1.1 1).drew
    dsimp only at T2
    go_wp2_with fail
    refine (HP.out _).mono ?_
    rintro e w3 ⟨rfl, hb3⟩
    have T3 : Two w w3 ⟨1, o, r, c.poll, c.calm⟩ Ck.zero := T2.next hb3
    clear X
    have X := T3.cells
    have F := T3.fin v _ rfl
    dsimp only [Ck.zero] at X F
    go_wp2_with fail
    refine bodyPost_ret (by simp [results, Tryd.results47, go_sem, F]; try rfl) rfl ?_
    exact ⟨rfl, F.2⟩

set_option maxHeartbeats 1000000 in
theorem adjusted_great (c : Ck) (o g : Int) (h0 : c.ok = true) (h1 : inB (-1000000000000) o 1000000000000 = true) (h2 : inB 1 g 100000 = true) (hu : unB o 128000 = false) (w : World) :
    Calls Tryd.prog 47 #[.agg #[.int .i64 c.st, .int .i64 c.off, .int .i64 c.fr, .int .i64 c.poll, .int .i64 c.calm], .int .i64 o, .int .i64 g] w (AdjPostS w (greatV c) (if c.st = 1 then 0 else o) true) := by
  obtain ⟨⟨s0, s1⟩, _⟩ := Ck.ok_iff.1 h0
  obtain ⟨o0, o1⟩ := inB_iff.1 h1
  obtain ⟨m, hm⟩ : ∃ m, m = max o (-o) := ⟨_, rfl⟩
  have HA : Hid (∀ w, Calls Tryd.prog 60 #[.int .i64 o] w fun e w' => e = .returned (.int .i64 m) ∧ w = w') := Lib.hid (fun w => hm ▸ l1Abs_c o (by omega) (by omega) w)
  have ml : ¬ m < 128000 := by
    intro hl
    have : unB o 128000 = true := unB_iff.2 (by omega)
    rw [this] at hu
    cases hu
  have H0 := Lib.hid (fun w => ckOk_decS h0 w)
  clear hm hu h0
  by_cases hs : c.st = 1
  · obtain ⟨st, off, fr, poll, calm⟩ := c
    dsimp only at hs
    subst hs
    have e1 : greatV ⟨1, off, fr, poll, calm⟩ = ⟨2, off, fr, poll, calm⟩ := rfl
    rw [e1]
    clear e1
    dsimp only at H0 ⊢
    simp only [if_true]
    go_enter Tryd.func47, Tryd.ntmps47
    go_wp2_with fail
    refine (H0.out _).mono ?_
    rintro e w1 ⟨rfl, hb⟩
    have T := (Two.new w ⟨1, off, fr, poll, calm⟩ Ck.zero).next hb
    have X := T.cells
    have F := (T.set1.1 2).fin ⟨2, off, fr, poll, calm⟩ _ rfl
    dsimp only [Ck.zero] at X F
    clear hb
    go_wp2_with (first | (go_at_call 35; refine (l1In_c _ _ _ _).mono ?_; rintro e w2 ⟨rfl, rfl⟩) | (go_at_call 60; refine (HA.out _).mono ?_; rintro e w2 ⟨rfl, rfl⟩))
    refine bodyPost_ret (by simp [results, Tryd.results47, go_sem, F]; try rfl) rfl ?_
    exact ⟨rfl, F.2⟩
  · have e1 : greatV c = ⟨1, 0, c.fr, 4, 0⟩ := by unfold greatV; rw [if_neg hs]
    rw [e1, if_neg hs]
    have hs' : ((c.st : Int) == 1) = false := by simpa using hs
    clear e1
    go_enter Tryd.func47, Tryd.ntmps47
    go_wp2_with fail
    refine (H0.out _).mono ?_
    rintro e w1 ⟨rfl, hb⟩
    have T := (Two.new w c Ck.zero).next hb
    have X := T.cells
    have F := T.fin ⟨1, 0, c.fr, 4, 0⟩ _ rfl
    dsimp only [Ck.zero] at X F
    clear hb
    go_wp2_with (first | (go_at_call 35; refine (l1In_c _ _ _ _).mono ?_; rintro e w2 ⟨rfl, rfl⟩) | (go_at_call 60; refine (HA.out _).mono ?_; rintro e w2 ⟨rfl, rfl⟩))
    refine bodyPost_ret (by simp [results, Tryd.results47, go_sem, F]; try rfl) rfl ?_
    exact ⟨rfl, F.2⟩

theorem adjusted_spec (c : Ck) (o g : Int) (w : World) :
    Calls Tryd.prog 47 #[.agg #[.int .i64 c.st, .int .i64 c.off, .int .i64 c.fr, .int .i64 c.poll, .int .i64 c.calm], .int .i64 o, .int .i64 g] w (AdjPostS w (adjV c o g) (stepV c o g) (adjOk c o g)) := by
  rcases adjOk_ofS c o g with ⟨_, h⟩ | ⟨_, _, h⟩ | ⟨_, _, _, h⟩ | ⟨h0, h1, h2, h⟩
  · exact adjusted_no c o g h w
  · exact adjusted_no c o g h w
  · exact adjusted_no c o g h w
  · cases hu : unB o 128000 with
    | true =>
      have e1 : adjV c o g = followedV c o g := by unfold adjV; rw [h, hu]; rfl
      have e2 : stepV c o g = 0 := by unfold stepV; rw [h, hu]; rfl
      rw [e1, e2, h]
      exact adjusted_small c o g h0 h1 h2 hu w
    | false =>
      have e1 : adjV c o g = greatV c := by unfold adjV; rw [h, hu]; rfl
      have e2 : stepV c o g = if c.st = 1 then 0 else o := by unfold stepV; rw [h, hu]; rfl
      rw [e1, e2, h]
      exact adjusted_great c o g h0 h1 h2 hu w
end Go.Proofs.YtbkkgkmllplbaaaDoor
