/- A clock read back from its text: the program's way. -/
import Derived.Test.YtbkkgkmllplbaaaDoorRdNumI
namespace Go.Proofs.YtbkkgkmllplbaaaDoor
open Go.ChangeShapes Go.WideShapes Go.ChangeAt Go.RowKit Go.Sort
set_option linter.unusedVariables false
set_option linter.unusedSimpArgs false

attribute [local go_sem] detQuiet detUpon Cls
theorem told_words {s : ByteArray} {a b d e f : Int} (h : Told readV (wordsOf s) [a, b, d, e, f]) : (⟨a, b, d, e, f⟩ : Ck).words = s := by
  have h1 := h.read.1
  simp only [List.map_cons, List.map_nil] at h1
  rcases of_wordsOf h1 with ⟨h, _⟩ | ⟨s1, e1, h2⟩
  · cases h
  rcases of_wordsOf h2 with ⟨h, _⟩ | ⟨s2, e2, h3⟩
  · cases h
  rcases of_wordsOf h3 with ⟨h, _⟩ | ⟨s3, e3, h4⟩
  · cases h
  rcases of_wordsOf h4 with ⟨h, _⟩ | ⟨s4, e4, h5⟩
  · cases h
  rcases of_wordsOf h5 with ⟨_, e5⟩ | ⟨s5, _, h6⟩
  · rw [e1, e2, e3, e4, e5]
    unfold Ck.words
    simp only [ByteArray.append_assoc]
  · have := wordsOf_pos s5
    rw [h6] at this
    simp at this
set_option maxRecDepth 100000 in
set_option maxHeartbeats 2000000 in
theorem readClock_impl (s : ByteArray) (hs : s.size ≤ 1048576) (w : World) (h : DecW w) :
    Calls Tryd.prog 14 #[.string s] w fun e w' => ∃ c b, e = .returned (.tuple #[.agg #[.int .i64 c.st, .int .i64 c.off, .int .i64 c.fr, .int .i64 c.poll, .int .i64 c.calm], .bool b]) ∧ ReadIs s c b ∧ Below w.heap.size w w' := by
  have HC := Lib.hid (fun w h => show Calls Tryd.prog 27 #[.string s, .int .i64 5] w (DecsPost w s 5) from readDecimals_c s hs 5 (by omega) w h)
  unfold DecsPost at HC
  have HT := Lib.hid (fun c w => clockOk_impl c w)
  have Q0 := blk_new w (.cells #[.int .i64 Ck.zero.st, .int .i64 Ck.zero.off, .int .i64 Ck.zero.fr, .int .i64 Ck.zero.poll, .int .i64 Ck.zero.calm] 25)
  have g0 : Below w.heap.size w (w.alloc (.cells #[.int .i64 Ck.zero.st, .int .i64 Ck.zero.off, .int .i64 Ck.zero.fr, .int .i64 Ck.zero.poll, .int .i64 Ck.zero.calm] 25)) := by go_grown
  go_enter Tryd.func14, Tryd.ntmps14
  go_wp2_with fail
  refine (HC.out _ (h.next g0)).mono ?_
  rintro e w1 ⟨hb1, ⟨o, xs, rfl, hl, ht, hrow⟩ | ⟨rfl, hno⟩⟩
  · have Q1 := blk_next hb1 Q0
    have G1 := grow_next g0 hb1
    obtain ⟨g, cap, rfl, hgb, hgl, hcell⟩ := int_cells hl (by omega) hrow
    obtain ⟨v0, v1, v2, v3, v4, rfl⟩ := list5D hl
    have HTold := Lib.hid ht
    have x0 := hcell 0 v0 rfl
    have x1 := hcell 1 v1 rfl
    have x2 := hcell 2 v2 rfl
    have x3 := hcell 3 v3 rfl
    have x4 := hcell 4 v4 rfl
    have y0 := cell_regrown x0
    have y1 := cell_regrown x1
    have y2 := cell_regrown x2
    have y3 := cell_regrown x3
    have y4 := cell_regrown x4
    clear x0 x1 x2 x3 x4 ht hrow hcell hl hb1 g0 Q0 hgl hgb
    go_wp2_with fail
    refine wp_region_det_last 16 6 (CkAt w1.heap.size) (by repeat (first | exact Snoc.one _ | apply Snoc.cons)) (by kernel_rfl) (by kernel_rfl) (by kernel_rfl) (by simp) (CkAt.next _) ?_
    repeat ((with_reducible refine wpDet_step (by kernel_rfl) (by kernel_rfl) (fun K hK => ?_)); go_simp; first | ((with_reducible refine hK _ ?_); clear hK K) | (rw [if_neg (by intro h; exact nomatch h)]; (with_reducible refine hK _ ?_); clear hK K) | (apply Exists.intro; (with_reducible refine ⟨fun _ => ?_, hK _ ?_⟩); (fail); clear hK K))
    refine wpDet_made (by kernel_rfl) ?_ ?_
    · rintro _ ⟨p', rfl⟩
      refine ⟨.pointer (some ⟨(grow (redrawn w1 p'.d) p'.os).heap.size, 0, none⟩), (grow (redrawn w1 p'.d) p'.os).alloc (.cells #[.int .i64 Ck.zero.st, .int .i64 Ck.zero.off, .int .i64 Ck.zero.fr, .int .i64 Ck.zero.poll, .int .i64 Ck.zero.calm] 25), ?_, below_new _ _, ⟨_, (below_regrown w1 p'.d p'.os).size, rfl, blk_new _ _⟩⟩
      generalize grow (redrawn w1 p'.d) p'.os = W1
      go_simp
      rfl
    with_reducible refine wpDet_nil ?_
    intro u w' hw' hg'
    have g1 := cls_below.1 hw'
    obtain ⟨b, hB, rfl, Qb⟩ := hg'
    have hlt0 := (Array.getElem?_eq_some_iff.1 Q1).1
    have hne : b ≠ w.heap.size := by omega
    have hge : w.heap.size ≤ b := by omega
    have R1 := blk_next g1 Q1
    have G2 := grow_next G1 g1
    clear hw' g1 y0 y1 y2 y3 y4 Q1 G1
    obtain ⟨f0, f1, f2, f3, f4⟩ := ck_thaw Qb
    obtain ⟨z0, z1, z2, z3, z4⟩ := ck_cells Qb
    obtain ⟨v, hv⟩ : ∃ v : Ck, v = ⟨v0, v1, v2, v3, v4⟩ := ⟨_, rfl⟩
    obtain ⟨e0, e1, e2, e3, e4⟩ : v0 = v.st ∧ v1 = v.off ∧ v2 = v.fr ∧ v3 = v.poll ∧ v4 = v.calm := by rw [hv]; exact ⟨rfl, rfl, rfl, rfl, rfl⟩
    subst e0 e1 e2 e3 e4
    clear hv
    refine ⟨(((((w'.setCell ⟨b, 0, none⟩ (.int .i64 v.st)).setCell ⟨b, 1, none⟩ (.int .i64 v.off)).setCell ⟨b, 2, none⟩ (.int .i64 v.fr)).setCell ⟨b, 3, none⟩ (.int .i64 v.poll)).setCell ⟨b, 4, none⟩ (.int .i64 v.calm)), ?_, ?_⟩
    · go_simp
      try rfl
    clear f0 f1 f2 f3 f4 z0 z1 z2 z3 z4
    obtain ⟨V, hV⟩ : ∃ V, V = (((((w'.setCell ⟨b, 0, none⟩ (.int .i64 v.st)).setCell ⟨b, 1, none⟩ (.int .i64 v.off)).setCell ⟨b, 2, none⟩ (.int .i64 v.fr)).setCell ⟨b, 3, none⟩ (.int .i64 v.poll)).setCell ⟨b, 4, none⟩ (.int .i64 v.calm)) := ⟨_, rfl⟩
    rw [← hV]
    have Q2 : V.heap[b]? = some (.cells #[.int .i64 v.st, .int .i64 v.off, .int .i64 v.fr, .int .i64 v.poll, .int .i64 v.calm] 25) := by
      rw [hV]
      exact ck_put Qb v
    have R2 : V.heap[w.heap.size]? = some (.cells #[.int .i64 Ck.zero.st, .int .i64 Ck.zero.off, .int .i64 Ck.zero.fr, .int .i64 Ck.zero.poll, .int .i64 Ck.zero.calm] 25) := by
      rw [hV]
      exact ck_other R1 hne v
    have G3 : Below w.heap.size w V := by
      rw [hV]
      repeat (refine below_set ?_ hge _ _)
      exact G2
    clear hV Qb R1 G2 hB
    obtain ⟨z0, z1, z2, z3, z4⟩ := ck_cells Q2
    have HT1 := Lib.hid (HT.out v V)
    cases hb : v.ok with
    | false =>
      rw [hb] at HT1
      have HN := Lib.hid (show ReadIs s Ck.zero false from .inr ⟨rfl, rfl, fun c' hc hs' => by
        have e := Ck.of_list (told_some HTold.out (told_ck readV_dec hc hs'))
        have e1 : v = c' := e.symm
        rw [e1, hc] at hb
        cases hb⟩)
      clear HTold HT HC hb
      go_wp2_with fail
      refine HT1.out.mono ?_
      rintro e w3 ⟨rfl, hb3⟩
      have R3 := blk_next hb3 R2
      have G4 := grow_next G3 hb3
      obtain ⟨f0, f1, f2, f3, f4⟩ := ck_thaw R3
      have X := ck_cells R3
      dsimp only [Ck.zero] at X
      obtain ⟨y0, y1, y2, y3, y4⟩ := X
      have F := ck_cells (ck_put R3 Ck.zero)
      dsimp only [Ck.zero] at F
      have GF : Below w.heap.size w (((((w3.setCell ⟨w.heap.size, 0, none⟩ (.int .i64 Ck.zero.st)).setCell ⟨w.heap.size, 1, none⟩ (.int .i64 Ck.zero.off)).setCell ⟨w.heap.size, 2, none⟩ (.int .i64 Ck.zero.fr)).setCell ⟨w.heap.size, 3, none⟩ (.int .i64 Ck.zero.poll)).setCell ⟨w.heap.size, 4, none⟩ (.int .i64 Ck.zero.calm)) := by
        repeat (refine below_set ?_ (Nat.le_refl _) _ _)
        exact G4
      dsimp only [Ck.zero] at GF
      go_wp2_with fail
      refine bodyPost_ret (by simp [results, Tryd.results14, go_sem, F]; try rfl) rfl ?_
      exact ⟨Ck.zero, false, rfl, HN.out, GF⟩
    | true =>
      rw [hb] at HT1
      have HN := Lib.hid (show ReadIs s v true from .inl ⟨rfl, hb, told_words HTold.out⟩)
      clear HTold HT HC hb
      go_wp2_with fail
      refine HT1.out.mono ?_
      rintro e w3 ⟨rfl, hb3⟩
      have R3 := blk_next hb3 R2
      have Q3 := blk_next hb3 Q2
      have G4 := grow_next G3 hb3
      obtain ⟨f0, f1, f2, f3, f4⟩ := ck_thaw R3
      obtain ⟨y0, y1, y2, y3, y4⟩ := ck_cells Q3
      have X := ck_cells R3
      dsimp only [Ck.zero] at X
      obtain ⟨x0, x1, x2, x3, x4⟩ := X
      have F := ck_cells (ck_put R3 v)
      have GF : Below w.heap.size w (((((w3.setCell ⟨w.heap.size, 0, none⟩ (.int .i64 v.st)).setCell ⟨w.heap.size, 1, none⟩ (.int .i64 v.off)).setCell ⟨w.heap.size, 2, none⟩ (.int .i64 v.fr)).setCell ⟨w.heap.size, 3, none⟩ (.int .i64 v.poll)).setCell ⟨w.heap.size, 4, none⟩ (.int .i64 v.calm)) := by
        repeat (refine below_set ?_ (Nat.le_refl _) _ _)
        exact G4
      go_wp2_with fail
      refine bodyPost_ret (by simp [results, Tryd.results14, go_sem, F]; try rfl) rfl ?_
      exact ⟨v, true, rfl, HN.out, GF⟩
  · have Q1 := blk_next hb1 Q0
    have G1 := grow_next g0 hb1
    have HN := Lib.hid (read_no readV_dec hno)
    clear hno HC HT g0 Q0 hb1
    obtain ⟨f0, f1, f2, f3, f4⟩ := ck_thaw Q1
    have X := ck_cells Q1
    dsimp only [Ck.zero] at X
    obtain ⟨z0, z1, z2, z3, z4⟩ := X
    have F := ck_cells (ck_put Q1 Ck.zero)
    dsimp only [Ck.zero] at F
    have GF : Below w.heap.size w (((((w1.setCell ⟨w.heap.size, 0, none⟩ (.int .i64 Ck.zero.st)).setCell ⟨w.heap.size, 1, none⟩ (.int .i64 Ck.zero.off)).setCell ⟨w.heap.size, 2, none⟩ (.int .i64 Ck.zero.fr)).setCell ⟨w.heap.size, 3, none⟩ (.int .i64 Ck.zero.poll)).setCell ⟨w.heap.size, 4, none⟩ (.int .i64 Ck.zero.calm)) := by
      repeat (refine below_set ?_ (Nat.le_refl _) _ _)
      exact G1
    dsimp only [Ck.zero] at GF
    go_wp2_with fail
    refine bodyPost_ret (by simp [results, Tryd.results14, go_sem, F]; try rfl) rfl ?_
    exact ⟨Ck.zero, false, rfl, HN.out, GF⟩
end Go.Proofs.YtbkkgkmllplbaaaDoor
