/- A clock's text: the reference's way. -/
import Derived.Test.YtbkkgkmllplbaaaDoorDecS
import Derived.Test.YtbkkgkmllplbaaaDoorCkOk
import Derived.Lib.QuietBelow
import Derived.Deep.RegionHeld3
namespace Go.Proofs.YtbkkgkmllplbaaaDoor
open Go.ChangeShapes Go.WideShapes Go.ChangeAt Go.RowKit Go.Sort
set_option linter.unusedVariables false
set_option linter.unusedSimpArgs false

/-- Five numbers with blanks between. -/
def Ck.words (c : Ck) : ByteArray := decB c.st ++ ⟨#[32]⟩ ++ decB c.off ++ ⟨#[32]⟩ ++ decB c.fr ++ ⟨#[32]⟩ ++ decB c.poll ++ ⟨#[32]⟩ ++ decB c.calm
def Ck.text (c : Ck) : ByteArray := if c.ok then c.words else ⟨#[]⟩
set_option maxRecDepth 100000 in
set_option maxHeartbeats 4000000 in
theorem l7Text_c (c : Ck) (h : c.ok = true) (w : World) : Calls Tryd.prog 21 #[.agg #[.int .i64 c.st, .int .i64 c.off, .int .i64 c.fr, .int .i64 c.poll, .int .i64 c.calm]] w fun e w' => e = .returned (.string c.words) ∧ Below w.heap.size w w' := by
  obtain ⟨⟨a0, a1⟩, ⟨b0, b1⟩, ⟨c0, c1⟩, ⟨d0, d1⟩, ⟨e0, e1⟩⟩ := Ck.ok_iff.1 h
  have H1 := Lib.hid (fun w => l1Dec_c c.st (by omega) (by omega) w)
  have H2 := Lib.hid (fun w => l1Dec_c c.off (by omega) (by omega) w)
  have H3 := Lib.hid (fun w => l1Dec_c c.fr (by omega) (by omega) w)
  have H4 := Lib.hid (fun w => l1Dec_c c.poll (by omega) (by omega) w)
  have H5 := Lib.hid (fun w => l1Dec_c c.calm (by omega) (by omega) w)
  have z1 := decB_le c.st (by omega) (by omega)
  have z2 := decB_le c.off (by omega) (by omega)
  have z3 := decB_le c.fr (by omega) (by omega)
  have z4 := decB_le c.poll (by omega) (by omega)
  have z5 := decB_le c.calm (by omega) (by omega)
  have HE := Lib.hid (show c.words = decB c.st ++ ⟨#[32]⟩ ++ decB c.off ++ ⟨#[32]⟩ ++ decB c.fr ++ ⟨#[32]⟩ ++ decB c.poll ++ ⟨#[32]⟩ ++ decB c.calm from rfl)
  obtain ⟨s1, hs1⟩ : ∃ s, decB c.st = s := ⟨_, rfl⟩
  obtain ⟨s2, hs2⟩ : ∃ s, decB c.off = s := ⟨_, rfl⟩
  obtain ⟨s3, hs3⟩ : ∃ s, decB c.fr = s := ⟨_, rfl⟩
  obtain ⟨s4, hs4⟩ : ∃ s, decB c.poll = s := ⟨_, rfl⟩
  obtain ⟨s5, hs5⟩ : ∃ s, decB c.calm = s := ⟨_, rfl⟩
  simp only [hs1] at H1 z1 HE
  simp only [hs2] at H2 z2 HE
  simp only [hs3] at H3 z3 HE
  simp only [hs4] at H4 z4 HE
  simp only [hs5] at H5 z5 HE
  have zb : (⟨#[32]⟩ : ByteArray).size = 1 := rfl
  obtain ⟨l1, hl1⟩ : ∃ l, s1.size = l := ⟨_, rfl⟩
  obtain ⟨l2, hl2⟩ : ∃ l, s2.size = l := ⟨_, rfl⟩
  obtain ⟨l3, hl3⟩ : ∃ l, s3.size = l := ⟨_, rfl⟩
  obtain ⟨l4, hl4⟩ : ∃ l, s4.size = l := ⟨_, rfl⟩
  obtain ⟨l5, hl5⟩ : ∃ l, s5.size = l := ⟨_, rfl⟩
  rw [hl1] at z1
  rw [hl2] at z2
  rw [hl3] at z3
  rw [hl4] at z4
  rw [hl5] at z5
  have n1 : ¬ 9223372036854775807 < l1 + 1 := by omega
  have n2 : ¬ 9223372036854775807 < l1 + 1 + l2 := by omega
  have n3 : ¬ 9223372036854775807 < l1 + 1 + l2 + 1 := by omega
  have n4 : ¬ 9223372036854775807 < l1 + 1 + l2 + 1 + l3 := by omega
  have n5 : ¬ 9223372036854775807 < l1 + 1 + l2 + 1 + l3 + 1 := by omega
  have n6 : ¬ 9223372036854775807 < l1 + 1 + l2 + 1 + l3 + 1 + l4 := by omega
  have n7 : ¬ 9223372036854775807 < l1 + 1 + l2 + 1 + l3 + 1 + l4 + 1 := by omega
  have n8 : ¬ 9223372036854775807 < l1 + 1 + l2 + 1 + l3 + 1 + l4 + 1 + l5 := by omega
  clear z1 z2 z3 z4 z5
  clear hs1 hs2 hs3 hs4 hs5 a0 a1 b0 b1 c0 c1 d0 d1 e0 e1 h
  rw [HE.out]
  clear HE
  have Q0 := blk_new w (.cells #[.int .i64 c.st, .int .i64 c.off, .int .i64 c.fr, .int .i64 c.poll, .int .i64 c.calm] 25)
  have g0 : Below w.heap.size w (w.alloc (.cells #[.int .i64 c.st, .int .i64 c.off, .int .i64 c.fr, .int .i64 c.poll, .int .i64 c.calm] 25)) := by go_grown
  go_enter Tryd.func21, Tryd.ntmps21
  go_wp2_with fail
  obtain ⟨W0, hW0⟩ : ∃ W0, W0 = w.alloc (.cells #[.int .i64 c.st, .int .i64 c.off, .int .i64 c.fr, .int .i64 c.poll, .int .i64 c.calm] 25) := ⟨_, rfl⟩
  rw [← hW0] at Q0 g0 ⊢
  clear hW0
  obtain ⟨x0, x1, x2, x3, x4⟩ := ck_cells Q0
  have y0 := cell_regrown x0
  have y1 := cell_regrown x1
  have y2 := cell_regrown x2
  have y3 := cell_regrown x3
  have y4 := cell_regrown x4
  have C1 := Lib.hid (fun d os => Calls.regrown_of (H1.out (grow (redrawn W0 d) os)))
  have C2 := Lib.hid (fun d os => Calls.regrown_of (H2.out (grow (redrawn W0 d) os)))
  have C3 := Lib.hid (fun d os => Calls.regrown_of (H3.out (grow (redrawn W0 d) os)))
  have C4 := Lib.hid (fun d os => Calls.regrown_of (H4.out (grow (redrawn W0 d) os)))
  have C5 := Lib.hid (fun d os => Calls.regrown_of (H5.out (grow (redrawn W0 d) os)))
  clear x0 x1 x2 x3 x4 H1 H2 H3 H4 H5
  refine wp_region_quiet_below (by kernel_rfl) (by kernel_rfl) ?_
  repeat ((with_reducible refine wpQuiet_step (fun K hK => ?_)); go_simp; first | ((with_reducible refine hK _ ?_); clear hK K) | (rw [if_neg (by intro h; exact nomatch h)]; (with_reducible refine hK _ ?_); clear hK K) | (apply Exists.intro; (with_reducible refine ⟨fun _ => ?_, hK _ ?_⟩); (first | with_reducible exact C1.out _ _ | with_reducible exact C2.out _ _ | with_reducible exact C3.out _ _ | with_reducible exact C4.out _ _ | with_reducible exact C5.out _ _); clear hK K))
  with_reducible refine wpQuiet_nil ?_
  intro _ hw'
  obtain ⟨⟨dq, osq⟩, hw''⟩ := hw'
  subst hw''
  have g1 := grow_next g0 (below_regrown W0 dq osq)
  clear y0 y1 y2 y3 y4 C1 C2 C3 C4 C5
  go_wp2_with fail
  go_returns
  exact ⟨rfl, g1⟩
set_option maxHeartbeats 1000000 in
theorem clockText_spec (c : Ck) (w : World) : Calls Tryd.prog 7 #[.agg #[.int .i64 c.st, .int .i64 c.off, .int .i64 c.fr, .int .i64 c.poll, .int .i64 c.calm]] w fun e w' => e = .returned (.string c.text) ∧ Below w.heap.size w w' := by
  have HO := Lib.hid (fun w => clockOk_spec c w)
  have Q0 := blk_new w (.cells #[.int .i64 c.st, .int .i64 c.off, .int .i64 c.fr, .int .i64 c.poll, .int .i64 c.calm] 25)
  have g0 : Below w.heap.size w (w.alloc (.cells #[.int .i64 c.st, .int .i64 c.off, .int .i64 c.fr, .int .i64 c.poll, .int .i64 c.calm] 25)) := by go_grown
  cases hb : c.ok with
  | false =>
    have ht : c.text = ⟨#[]⟩ := by unfold Ck.text; rw [hb]; rfl
    rw [ht]
    simp only [hb] at HO
    clear ht hb
    go_enter Tryd.func7, Tryd.ntmps7
    go_wp2_with fail
    refine (HO.out _).mono ?_
    rintro e w1 ⟨rfl, hb1⟩
    go_wp2_with fail
    go_returns
    exact ⟨rfl, grow_next g0 hb1⟩
  | true =>
    have ht : c.text = c.words := by unfold Ck.text; rw [hb]; rfl
    have HT := Lib.hid (fun w => l7Text_c c hb w)
    rw [ht]
    simp only [hb] at HO
    obtain ⟨s, hs⟩ : ∃ s, c.words = s := ⟨_, rfl⟩
    rw [hs]
    simp only [hs] at HT
    clear ht hb hs
    go_enter Tryd.func7, Tryd.ntmps7
    go_wp2_with fail
    refine (HO.out _).mono ?_
    rintro e w1 ⟨rfl, hb1⟩
    obtain ⟨x0, x1, x2, x3, x4⟩ := ck_cells (blk_next hb1 Q0)
    go_wp2_with fail
    refine (HT.out _).mono ?_
    rintro e w2 ⟨rfl, hb2⟩
    go_wp2_with fail
    go_returns
    exact ⟨rfl, grow_next (grow_next g0 hb1) hb2⟩
end Go.Proofs.YtbkkgkmllplbaaaDoor
