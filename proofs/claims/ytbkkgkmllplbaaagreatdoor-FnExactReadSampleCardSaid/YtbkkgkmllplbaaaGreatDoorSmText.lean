/- A sample's text: both ways. -/
import Derived.Test.YtbkkgkmllplbaaaGreatDoorDecI
import Derived.Test.YtbkkgkmllplbaaaGreatDoorSampleOk
import Derived.Lib.QuietBelow
import Derived.Deep.RegionHeld3
namespace Go.Proofs.YtbkkgkmllplbaaaGreatDoor
open Go.ChangeShapes Go.WideShapes Go.ChangeAt Go.RowKit Go.Sort
set_option linter.unusedVariables false
set_option linter.unusedSimpArgs false

/-- Five numbers with blanks between. -/
def Sm.words (c : Sm) : ByteArray := decB c.off ++ ⟨#[32]⟩ ++ decB c.delay ++ ⟨#[32]⟩ ++ decB c.disp ++ ⟨#[32]⟩ ++ decB c.at_
def Sm.text (c : Sm) : ByteArray := if c.ok then c.words else ⟨#[]⟩
set_option maxRecDepth 100000 in
set_option maxHeartbeats 4000000 in
theorem l11Text_c (c : Sm) (h : c.ok = true) (w : World) : Calls Tryz.prog 22 #[.agg #[.int .i64 c.off, .int .i64 c.delay, .int .i64 c.disp, .int .i64 c.at_]] w fun e w' => e = .returned (.string c.words) ∧ Below w.heap.size w w' := by
  obtain ⟨⟨a0, a1⟩, ⟨b0, b1⟩, ⟨c0, c1⟩, ⟨d0, d1⟩⟩ := Sm.ok_iff.1 h
  have H1 := Lib.hid (fun w => l1Dec_c c.off (by omega) (by omega) w)
  have H2 := Lib.hid (fun w => l1Dec_c c.delay (by omega) (by omega) w)
  have H3 := Lib.hid (fun w => l1Dec_c c.disp (by omega) (by omega) w)
  have H4 := Lib.hid (fun w => l1Dec_c c.at_ (by omega) (by omega) w)
  have z1 := decB_le c.off (by omega) (by omega)
  have z2 := decB_le c.delay (by omega) (by omega)
  have z3 := decB_le c.disp (by omega) (by omega)
  have z4 := decB_le c.at_ (by omega) (by omega)
  have HE := Lib.hid (show c.words = decB c.off ++ ⟨#[32]⟩ ++ decB c.delay ++ ⟨#[32]⟩ ++ decB c.disp ++ ⟨#[32]⟩ ++ decB c.at_ from rfl)
  obtain ⟨s1, hs1⟩ : ∃ s, decB c.off = s := ⟨_, rfl⟩
  obtain ⟨s2, hs2⟩ : ∃ s, decB c.delay = s := ⟨_, rfl⟩
  obtain ⟨s3, hs3⟩ : ∃ s, decB c.disp = s := ⟨_, rfl⟩
  obtain ⟨s4, hs4⟩ : ∃ s, decB c.at_ = s := ⟨_, rfl⟩
  simp only [hs1] at H1 z1 HE
  simp only [hs2] at H2 z2 HE
  simp only [hs3] at H3 z3 HE
  simp only [hs4] at H4 z4 HE
  have zb : (⟨#[32]⟩ : ByteArray).size = 1 := rfl
  obtain ⟨l1, hl1⟩ : ∃ l, s1.size = l := ⟨_, rfl⟩
  obtain ⟨l2, hl2⟩ : ∃ l, s2.size = l := ⟨_, rfl⟩
  obtain ⟨l3, hl3⟩ : ∃ l, s3.size = l := ⟨_, rfl⟩
  obtain ⟨l4, hl4⟩ : ∃ l, s4.size = l := ⟨_, rfl⟩
  rw [hl1] at z1
  rw [hl2] at z2
  rw [hl3] at z3
  rw [hl4] at z4
  have n1 : ¬ 9223372036854775807 < l1 + 1 := by omega
  have n2 : ¬ 9223372036854775807 < l1 + 1 + l2 := by omega
  have n3 : ¬ 9223372036854775807 < l1 + 1 + l2 + 1 := by omega
  have n4 : ¬ 9223372036854775807 < l1 + 1 + l2 + 1 + l3 := by omega
  have n5 : ¬ 9223372036854775807 < l1 + 1 + l2 + 1 + l3 + 1 := by omega
  have n6 : ¬ 9223372036854775807 < l1 + 1 + l2 + 1 + l3 + 1 + l4 := by omega
  clear z1 z2 z3 z4
  clear hs1 hs2 hs3 hs4 a0 a1 b0 b1 c0 c1 d0 d1 h
  rw [HE.out]
  clear HE
  have Q0 := blk_new w (.cells #[.int .i64 c.off, .int .i64 c.delay, .int .i64 c.disp, .int .i64 c.at_] 23)
  have g0 : Below w.heap.size w (w.alloc (.cells #[.int .i64 c.off, .int .i64 c.delay, .int .i64 c.disp, .int .i64 c.at_] 23)) := by go_grown
  go_enter Tryz.func22, Tryz.ntmps22
  go_wp2_with fail
  obtain ⟨W0, hW0⟩ : ∃ W0, W0 = w.alloc (.cells #[.int .i64 c.off, .int .i64 c.delay, .int .i64 c.disp, .int .i64 c.at_] 23) := ⟨_, rfl⟩
  rw [← hW0] at Q0 g0 ⊢
  clear hW0
  obtain ⟨x0, x1, x2, x3⟩ := sample_cells Q0
  have y0 := cell_regrown x0
  have y1 := cell_regrown x1
  have y2 := cell_regrown x2
  have y3 := cell_regrown x3
  have C1 := Lib.hid (fun d os => Calls.regrown_of (H1.out (grow (redrawn W0 d) os)))
  have C2 := Lib.hid (fun d os => Calls.regrown_of (H2.out (grow (redrawn W0 d) os)))
  have C3 := Lib.hid (fun d os => Calls.regrown_of (H3.out (grow (redrawn W0 d) os)))
  have C4 := Lib.hid (fun d os => Calls.regrown_of (H4.out (grow (redrawn W0 d) os)))
  clear x0 x1 x2 x3 H1 H2 H3 H4
  refine wp_region_quiet_below (by kernel_rfl) (by kernel_rfl) ?_
  repeat ((with_reducible refine wpQuiet_step (fun K hK => ?_)); go_simp; first | ((with_reducible refine hK _ ?_); clear hK K) | (rw [if_neg (by intro h; exact nomatch h)]; (with_reducible refine hK _ ?_); clear hK K) | (apply Exists.intro; (with_reducible refine ⟨fun _ => ?_, hK _ ?_⟩); (first | with_reducible exact C1.out _ _ | with_reducible exact C2.out _ _ | with_reducible exact C3.out _ _ | with_reducible exact C4.out _ _); clear hK K))
  with_reducible refine wpQuiet_nil ?_
  intro _ hw'
  obtain ⟨⟨dq, osq⟩, hw''⟩ := hw'
  subst hw''
  have g1 := grow_next g0 (below_regrown W0 dq osq)
  clear y0 y1 y2 y3 C1 C2 C3 C4
  go_wp2_with fail
  go_returns
  exact ⟨rfl, g1⟩
set_option maxRecDepth 100000 in
set_option maxHeartbeats 1000000 in
theorem sampleText_spec (c : Sm) (w : World) : Calls Tryz.prog 12 #[.agg #[.int .i64 c.off, .int .i64 c.delay, .int .i64 c.disp, .int .i64 c.at_]] w fun e w' => e = .returned (.string c.text) ∧ Below w.heap.size w w' := by
  have HO := Lib.hid (fun w => sampleOk_spec c w)
  have Q0 := blk_new w (.cells #[.int .i64 c.off, .int .i64 c.delay, .int .i64 c.disp, .int .i64 c.at_] 23)
  have g0 : Below w.heap.size w (w.alloc (.cells #[.int .i64 c.off, .int .i64 c.delay, .int .i64 c.disp, .int .i64 c.at_] 23)) := by go_grown
  cases hb : c.ok with
  | false =>
    have ht : c.text = ⟨#[]⟩ := by unfold Sm.text; rw [hb]; rfl
    rw [ht]
    simp only [hb] at HO
    clear ht hb
    go_enter Tryz.func12, Tryz.ntmps12
    go_wp2_with fail
    refine (HO.out _).mono ?_
    rintro e w1 ⟨rfl, hb1⟩
    go_wp2_with fail
    go_returns
    exact ⟨rfl, grow_next g0 hb1⟩
  | true =>
    have ht : c.text = c.words := by unfold Sm.text; rw [hb]; rfl
    have HT := Lib.hid (fun w => l11Text_c c hb w)
    rw [ht]
    simp only [hb] at HO
    obtain ⟨s, hs⟩ : ∃ s, c.words = s := ⟨_, rfl⟩
    rw [hs]
    simp only [hs] at HT
    clear ht hb hs
    go_enter Tryz.func12, Tryz.ntmps12
    go_wp2_with fail
    refine (HO.out _).mono ?_
    rintro e w1 ⟨rfl, hb1⟩
    obtain ⟨x0, x1, x2, x3⟩ := sample_cells (blk_next hb1 Q0)
    go_wp2_with fail
    refine (HT.out _).mono ?_
    rintro e w2 ⟨rfl, hb2⟩
    go_wp2_with fail
    go_returns
    exact ⟨rfl, grow_next (grow_next g0 hb1) hb2⟩
theorem words_joinS (c : Sm) : (⟨(Lib.join ([c.off, c.delay, c.disp, c.at_].map (fun x => (decB x).data.toList)) [32]).toArray⟩ : ByteArray) = c.words := by
  apply ByteArray.ext
  apply Array.toList_inj.1
  simp [Lib.join, List.intercalate, Sm.words]
theorem cells_four4 (w : World) (T : TypeId) (a b c d : Int) : (w.alloc (.cells #[.int .i64 a, .int .i64 b, .int .i64 c, .int .i64 d] T)).heap[w.heap.size]? = some (.cells ([a, b, c, d].map (Value.int .i64)).toArray T) := blk_new w _
set_option maxRecDepth 100000 in
set_option maxRecDepth 100000 in
set_option maxHeartbeats 1000000 in
theorem sampleText_impl (c : Sm) (w : World) {ao an au : Addr} (L : Ld w ao an au) (hp : Pow w) : Calls Tryz.prog 10 #[.agg #[.int .i64 c.off, .int .i64 c.delay, .int .i64 c.disp, .int .i64 c.at_]] w fun e w' => e = .returned (.string c.text) ∧ Below w.heap.size w w' := by
  have HO := Lib.hid (fun w {ao an au} L => @sampleOk_impl c w ao an au L)
  have Q0 := blk_new w (.cells #[.int .i64 c.off, .int .i64 c.delay, .int .i64 c.disp, .int .i64 c.at_] 23)
  have g0 : Below w.heap.size w (w.alloc (.cells #[.int .i64 c.off, .int .i64 c.delay, .int .i64 c.disp, .int .i64 c.at_] 23)) := by go_grown
  cases hb : c.ok with
  | false =>
    have ht : c.text = ⟨#[]⟩ := by unfold Sm.text; rw [hb]; rfl
    rw [ht]
    simp only [hb] at HO
    clear ht hb
    go_enter Tryz.func10, Tryz.ntmps10
    go_wp2_with fail
    refine (HO.out _ (L.next g0)).mono ?_
    rintro e w1 ⟨rfl, hb1⟩
    go_wp2_with fail
    go_returns
    exact ⟨rfl, grow_next g0 hb1⟩
  | true =>
    have ht : c.text = c.words := by unfold Sm.text; rw [hb]; rfl
    obtain ⟨⟨a0, a1⟩, ⟨b0, b1⟩, ⟨c0, c1⟩, ⟨d0, d1⟩⟩ := Sm.ok_iff.1 hb
    have HX := Lib.hid (show ∀ x ∈ [c.off, c.delay, c.disp, c.at_], -9223372036854775807 ≤ x ∧ x ≤ 9223372036854775807 from by
      intro x hx
      simp only [List.mem_cons, List.not_mem_nil, or_false] at hx
      rcases hx with rfl | rfl | rfl | rfl <;> omega)
    have HW := Lib.hid (words_joinS c)
    rw [ht]
    simp only [hb] at HO
    clear ht hb a0 a1 b0 b1 c0 c1 d0 d1
    go_enter Tryz.func10, Tryz.ntmps10
    go_wp2_with fail
    refine (HO.out _ (L.next g0)).mono ?_
    rintro e w1 ⟨rfl, hb1⟩
    obtain ⟨x0, x1, x2, x3⟩ := sample_cells (blk_next hb1 Q0)
    have G1 := grow_next g0 hb1
    have HD := Lib.hid (decimalText_c [c.off, c.delay, c.disp, c.at_] 4 (Lib.hid rfl) (by omega) HX.out w1.heap.size 2 (w1.alloc (.cells #[.int .i64 c.off, .int .i64 c.delay, .int .i64 c.disp, .int .i64 c.at_] 2)) ((hp.next G1).next (below_new _ _)) (cells_four4 _ _ _ _ _ _))
    have G2 := G1.alloc G1.size (.cells #[.int .i64 c.off, .int .i64 c.delay, .int .i64 c.disp, .int .i64 c.at_] 2)
    go_wp2_with fail
    refine HD.out.mono ?_
    rintro e w2 ⟨rfl, hb2⟩
    go_wp2_with fail
    go_returns
    exact ⟨by rw [← HW.out]; rfl, grow_next G2 hb2⟩
end Go.Proofs.YtbkkgkmllplbaaaGreatDoor
