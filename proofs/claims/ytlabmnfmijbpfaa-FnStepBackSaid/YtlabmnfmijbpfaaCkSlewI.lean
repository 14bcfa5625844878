/- The program's Slewed and the reference's by a clock's numbers. -/
import Derived.Test.YtlabmnfmijbpfaaCkI
import Derived.Test.YtlabmnfmijbpfaaCkTwo
import Derived.Deep.CutRange
namespace Go.Proofs.Ytlabmnfmijbpfaa
open Go.ChangeShapes Go.WideShapes Go.ChangeAt Go.RowKit
set_option linter.unusedVariables false
set_option linter.unusedSimpArgs false

theorem ckOk_dec1 {c : Ck} {b : Bool} (h : c.ok = b) (w : World) : Calls Try.prog 17 #[.agg #[.int .i64 c.st, .int .i64 c.off, .int .i64 c.fr, .int .i64 c.poll, .int .i64 c.calm]] w fun e w' => e = .returned (.bool b) ∧ Below w.heap.size w w' := h ▸ clockOk_impl c w
theorem ckOk_dec2 {c : Ck} {b : Bool} (h : c.ok = b) (w : World) : Calls Try.prog 18 #[.agg #[.int .i64 c.st, .int .i64 c.off, .int .i64 c.fr, .int .i64 c.poll, .int .i64 c.calm]] w fun e w' => e = .returned (.bool b) ∧ Below w.heap.size w w' := h ▸ clockOk_spec c w

theorem slewV_no {c : Ck} {g : Int} (h : slewOk c g = false) : slewV c g = Ck.zero ∧ slewnV c g = 0 := by
  unfold slewV slewnV; rw [h]; exact ⟨rfl, rfl⟩
theorem slewV_yes {c : Ck} {g : Int} (h : slewOk c g = true) : slewV c g = ⟨c.st, c.off - clampV c.off (500 * g), c.fr, c.poll, c.calm⟩ ∧ slewnV c g = clampV c.off (500 * g) + c.fr * g := by
  unfold slewV slewnV; rw [h]; exact ⟨rfl, rfl⟩
theorem slewOk_of (c : Ck) (g : Int) : (c.ok = false ∧ slewOk c g = false) ∨ (c.ok = true ∧ inB 0 g 100000 = false ∧ slewOk c g = false) ∨ (c.ok = true ∧ inB 0 g 100000 = true ∧ slewOk c g = true) := by
  unfold slewOk
  cases c.ok <;> cases inB 0 g 100000 <;> simp
/-- What Slewed answers. -/
def SlewPost (w : World) (c : Ck) (n : Int) (b : Bool) : Ending → World → Prop := fun e w' => e = .returned (.tuple #[.agg #[.int .i64 c.st, .int .i64 c.off, .int .i64 c.fr, .int .i64 c.poll, .int .i64 c.calm], .int .i64 n, .bool b]) ∧ Below w.heap.size w w'

theorem fr_bounds {a b : Int} (h0 : -500 ≤ a) (h1 : a ≤ 500) (h2 : 0 ≤ b) (h3 : b ≤ 100000) : -50000000 ≤ a * b ∧ a * b ≤ 50000000 := by
  constructor
  · have : -500 * b ≤ a * b := Int.mul_le_mul_of_nonneg_right h0 h2
    omega
  · have : a * b ≤ 500 * b := Int.mul_le_mul_of_nonneg_right h1 h2
    omega

set_option maxHeartbeats 1000000 in
theorem slewed_impl (c : Ck) (g : Int) (w : World) :
    Calls Try.prog 21 #[.agg #[.int .i64 c.st, .int .i64 c.off, .int .i64 c.fr, .int .i64 c.poll, .int .i64 c.calm], .int .i64 g] w (SlewPost w (slewV c g) (slewnV c g) (slewOk c g)) := by
  rcases slewOk_of c g with ⟨h0, h⟩ | ⟨h0, h2, h⟩ | ⟨h0, h2, h⟩
  · obtain ⟨e1, e2⟩ := slewV_no h
    rw [e1, e2, h]
    dsimp only [Ck.zero]
    have H0 := Lib.hid (fun w => ckOk_dec1 h0 w)
    clear e1 e2 h h0
    go_enter Try.func21, Try.ntmps21
    go_wp2_with fail
    refine (H0.out _).mono ?_
    rintro e w1 ⟨rfl, hb⟩
    have T := (Two.new w c Ck.zero).next hb
    have X := T.cells
    have F := T.fin Ck.zero _ rfl
    dsimp only [Ck.zero] at X F
    clear T hb
    go_wp2_with fail
    refine bodyPost_ret (by simp [results, Try.results21, go_sem, F]; try rfl) rfl ?_
    exact ⟨rfl, F.2⟩
  · obtain ⟨e1, e2⟩ := slewV_no h
    rw [e1, e2, h]
    dsimp only [Ck.zero]
    have H0 := Lib.hid (fun w => ckOk_dec1 h0 w)
    clear e1 e2 h h0
    go_enter Try.func21, Try.ntmps21
    go_wp2_with fail
    refine (H0.out _).mono ?_
    rintro e w1 ⟨rfl, hb⟩
    have T := (Two.new w c Ck.zero).next hb
    have X := T.cells
    have F := T.fin Ck.zero _ rfl
    dsimp only [Ck.zero] at X F
    clear T hb
    go_wp2_with (go_at_call 31; refine (within_c _ _ _ _).mono ?_; rintro e w1 ⟨rfl, rfl⟩)
    refine bodyPost_ret (by simp [results, Try.results21, go_sem, F]; try rfl) rfl ?_
    exact ⟨rfl, F.2⟩
  · obtain ⟨e1, e2⟩ := slewV_yes h
    obtain ⟨g0, g1⟩ := (slewOk_iff.1 h).2
    obtain ⟨_, ⟨f0, f1⟩, ⟨r0, r1⟩, _, _⟩ := Ck.ok_iff.1 h0
    have hb := clampV_bounds c.off (show (0 : Int) ≤ 500 * g by omega)
    have hc := clampV_of (n := c.off) (m := 500 * g) (by omega)
    obtain ⟨b0, b1⟩ := fr_bounds r0 r1 g0 g1
    obtain ⟨d, hd⟩ : ∃ d, d = clampV c.off (500 * g) := ⟨_, rfl⟩
    have HH : Hid (∀ w, Calls Try.prog 39 #[.int .i64 c.off, .int .i64 (500 * g)] w fun e w' => e = .returned (.int .i64 d) ∧ w = w') := Lib.hid (fun w => hd ▸ held_c c.off (500 * g) (by omega) (by omega) w)
    rw [← hd] at hb hc e1 e2
    have d0 : -127999 ≤ d := by omega
    have d1 : d ≤ 127999 := by omega
    rw [e1, e2, h]
    have H0 := Lib.hid (fun w => ckOk_dec1 h0 w)
    clear e1 e2 h h0 hb hc hd
    go_enter Try.func21, Try.ntmps21
    go_wp2_with fail
    refine (H0.out _).mono ?_
    rintro e w1 ⟨rfl, hb⟩
    have T := (Two.new w c Ck.zero).next hb
    have X := T.cells
    dsimp only [Ck.zero] at X
    clear hb
    go_upto_region 5 with (first | (go_at_call 31; refine (within_c _ _ _ _).mono ?_; rintro e w2 ⟨rfl, rfl⟩) | (go_at_call 39; refine (HH.out _).mono ?_; rintro e w2 ⟨rfl, rfl⟩))
    obtain ⟨W2, hW2⟩ : ∃ W2, W2 = w1.setCell ⟨w.heap.size, 1, none⟩ (.int .i64 (c.off - d)) := ⟨_, rfl⟩
    have T2 := T.set1.2.1 (c.off - d)
    rw [← hW2] at T2 ⊢
    clear X hW2
    have X := T2.cells
    have F := T2.fin ⟨c.st, c.off - d, c.fr, c.poll, c.calm⟩ _ rfl
    dsimp only [Ck.zero] at X F
    have hm : IntKind.i64.wrap (c.fr * g) = c.fr * g := IntWalk.i64_in _ (by omega)
    have hs : IntKind.i64.wrap (d + c.fr * g) = d + c.fr * g := IntWalk.i64_in _ (by omega)
    go_region_with fail
    all_goals
      go_wp2_with fail
      refine bodyPost_ret (by simp [results, Try.results21, go_sem, F]; try rfl) rfl ?_
      exact ⟨rfl, below_drewR F.2⟩

set_option maxHeartbeats 1000000 in
theorem slewed_spec (c : Ck) (g : Int) (w : World) :
    Calls Try.prog 22 #[.agg #[.int .i64 c.st, .int .i64 c.off, .int .i64 c.fr, .int .i64 c.poll, .int .i64 c.calm], .int .i64 g] w (SlewPost w (slewV c g) (slewnV c g) (slewOk c g)) := by
  rcases slewOk_of c g with ⟨h0, h⟩ | ⟨h0, h2, h⟩ | ⟨h0, h2, h⟩
  · obtain ⟨e1, e2⟩ := slewV_no h
    rw [e1, e2, h]
    dsimp only [Ck.zero]
    have H0 := Lib.hid (fun w => ckOk_dec2 h0 w)
    clear e1 e2 h h0
    go_enter Try.func22, Try.ntmps22
    go_wp2_with fail
    refine (H0.out _).mono ?_
    rintro e w1 ⟨rfl, hb⟩
    have T := (Two.new w c Ck.zero).next hb
    have X := T.cells
    have F := T.fin Ck.zero _ rfl
    dsimp only [Ck.zero] at X F
    clear T hb
    go_wp2_with fail
    refine bodyPost_ret (by simp [results, Try.results22, go_sem, F]; try rfl) rfl ?_
    exact ⟨rfl, F.2⟩
  · obtain ⟨e1, e2⟩ := slewV_no h
    rw [e1, e2, h]
    dsimp only [Ck.zero]
    have H0 := Lib.hid (fun w => ckOk_dec2 h0 w)
    clear e1 e2 h h0
    go_enter Try.func22, Try.ntmps22
    go_wp2_with fail
    refine (H0.out _).mono ?_
    rintro e w1 ⟨rfl, hb⟩
    have T := (Two.new w c Ck.zero).next hb
    have X := T.cells
    have F := T.fin Ck.zero _ rfl
    dsimp only [Ck.zero] at X F
    clear T hb
    go_wp2_with (go_at_call 35; refine (l1In_c _ _ _ _).mono ?_; rintro e w1 ⟨rfl, rfl⟩)
    refine bodyPost_ret (by simp [results, Try.results22, go_sem, F]; try rfl) rfl ?_
    exact ⟨rfl, F.2⟩
  · obtain ⟨e1, e2⟩ := slewV_yes h
    obtain ⟨g0, g1⟩ := (slewOk_iff.1 h).2
    obtain ⟨_, ⟨f0, f1⟩, ⟨r0, r1⟩, _, _⟩ := Ck.ok_iff.1 h0
    have hb := clampV_bounds c.off (show (0 : Int) ≤ 500 * g by omega)
    have hc := clampV_of (n := c.off) (m := 500 * g) (by omega)
    obtain ⟨b0, b1⟩ := fr_bounds r0 r1 g0 g1
    obtain ⟨d, hd⟩ : ∃ d, d = clampV c.off (500 * g) := ⟨_, rfl⟩
    have HH : Hid (∀ w, Calls Try.prog 37 #[.int .i64 c.off, .int .i64 (500 * g)] w fun e w' => e = .returned (.int .i64 d) ∧ w = w') := Lib.hid (fun w => hd ▸ l7Clamp_c c.off (500 * g) (by omega) (by omega) w)
    rw [← hd] at hb hc e1 e2
    have d0 : -127999 ≤ d := by omega
    have d1 : d ≤ 127999 := by omega
    rw [e1, e2, h]
    have H0 := Lib.hid (fun w => ckOk_dec2 h0 w)
    clear e1 e2 h h0 hb hc hd
    go_enter Try.func22, Try.ntmps22
    go_wp2_with fail
    refine (H0.out _).mono ?_
    rintro e w1 ⟨rfl, hb⟩
    have T := (Two.new w c Ck.zero).next hb
    have X := T.cells
    dsimp only [Ck.zero] at X
    clear hb
    go_upto_region 5 with (first | (go_at_call 35; refine (l1In_c _ _ _ _).mono ?_; rintro e w2 ⟨rfl, rfl⟩) | (go_at_call 37; refine (HH.out _).mono ?_; rintro e w2 ⟨rfl, rfl⟩))
    obtain ⟨W2, hW2⟩ : ∃ W2, W2 = w1.setCell ⟨w.heap.size, 1, none⟩ (.int .i64 (c.off - d)) := ⟨_, rfl⟩
    have T2 := T.set1.2.1 (c.off - d)
    rw [← hW2] at T2 ⊢
    clear X hW2
    have X := T2.cells
    have F := T2.fin ⟨c.st, c.off - d, c.fr, c.poll, c.calm⟩ _ rfl
    dsimp only [Ck.zero] at X F
    have hm : IntKind.i64.wrap (c.fr * g) = c.fr * g := IntWalk.i64_in _ (by omega)
    have hs : IntKind.i64.wrap (d + c.fr * g) = d + c.fr * g := IntWalk.i64_in _ (by omega)
    go_region_with fail
    all_goals
      go_wp2_with fail
      refine bodyPost_ret (by simp [results, Try.results22, go_sem, F]; try rfl) rfl ?_
      exact ⟨rfl, below_drewR F.2⟩
end Go.Proofs.Ytlabmnfmijbpfaa
