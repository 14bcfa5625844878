/- A clock read back from its text: the reference's way. -/
import Derived.Test.YtbkkgkmllplbaaaDoorNumsS
import Derived.Test.YtbkkgkmllplbaaaDoorDetLast
namespace Go.Proofs.YtbkkgkmllplbaaaDoor
open Go.ChangeShapes Go.WideShapes Go.ChangeAt Go.RowKit Go.Sort
set_option linter.unusedVariables false
set_option linter.unusedSimpArgs false

attribute [local go_sem] detQuiet detUpon Cls
/-- What is read: the right clock of this text, if there is one. -/
def ReadIs (s : ByteArray) (c : Ck) (b : Bool) : Prop := (b = true ∧ c.ok = true ∧ c.words = s) ∨ (b = false ∧ c = Ck.zero ∧ ∀ c' : Ck, c'.ok = true → c'.words ≠ s)
def Ck.list (c : Ck) : List Int := [c.st, c.off, c.fr, c.poll, c.calm]
theorem Ck.list_in {c : Ck} (h : c.ok = true) : ∀ x ∈ c.list, -maxDec ≤ x ∧ x ≤ maxDec := by
  obtain ⟨⟨a0, a1⟩, ⟨b0, b1⟩, ⟨c0, c1⟩, ⟨d0, d1⟩, ⟨e0, e1⟩⟩ := Ck.ok_iff.1 h
  intro x hx
  unfold maxDec
  simp only [Ck.list, List.mem_cons, List.not_mem_nil, or_false] at hx
  rcases hx with rfl | rfl | rfl | rfl | rfl <;> omega
theorem wordsOf_words (c : Ck) : wordsOf c.words = c.list.map decB := by
  unfold Ck.words
  rw [ByteArray.append_assoc, ByteArray.append_assoc, ByteArray.append_assoc, ByteArray.append_assoc, ByteArray.append_assoc, ByteArray.append_assoc]
  have hn := fun n => decB_noBl n
  have e : ∀ (a : ByteArray) (t : ByteArray), NoBl a → wordsOf (a ++ (⟨#[32]⟩ ++ t)) = a :: wordsOf t := fun a t h => by
    rw [← ByteArray.append_assoc]; exact wordsOf_cons h
  first
    | rw [e _ _ (hn _), e _ _ (hn _), e _ _ (hn _), e _ _ (hn _), wordsOf_one (hn _)]; rfl
    | (simp only [ByteArray.append_assoc]; rw [e _ _ (hn _), e _ _ (hn _), e _ _ (hn _), e _ _ (hn _), wordsOf_one (hn _)]; rfl)
theorem Ck.of_list {c : Ck} {a b d e f : Int} (h : [a, b, d, e, f] = c.list) : c = ⟨a, b, d, e, f⟩ := by
  unfold Ck.list at h
  simp only [List.cons.injEq, and_true] at h
  obtain ⟨rfl, rfl, rfl, rfl, rfl⟩ := h
  rfl
theorem told_some {f : ByteArray → Option Int} {ws : List ByteArray} {xs ys : List Int} (h : Told f ws xs) (h' : Told f ws ys) : xs = ys := by
  unfold Told at h h'
  rw [h] at h'
  exact List.map_inj_right (fun _ _ => Option.some.inj) |>.1 h'
/-- What was told is the clock's, where one has this text. -/
theorem told_ck {f : ByteArray → Option Int} (hf : ∀ n, (-maxDec ≤ n ∧ n ≤ maxDec) → f (decB n) = some n) {s : ByteArray} {c : Ck} (h : c.ok = true) (hs : c.words = s) : Told f (wordsOf s) c.list := by
  rw [← hs, wordsOf_words]
  exact told_dec hf (Ck.list_in h)
theorem read_no {f : ByteArray → Option Int} (hf : ∀ n, (-maxDec ≤ n ∧ n ≤ maxDec) → f (decB n) = some n) {s : ByteArray} (h : ∀ xs : List Int, xs.length = 5 → ¬ Told f (wordsOf s) xs) : ReadIs s Ck.zero false :=
  .inr ⟨rfl, rfl, fun c' hc hs => h c'.list rfl (told_ck hf hc hs)⟩
theorem ReadIs.same {s : ByteArray} {c c' : Ck} {b b' : Bool} (h : ReadIs s c b) (h' : ReadIs s c' b') : c = c' ∧ b = b' := by
  rcases h with ⟨rfl, hc, hs⟩ | ⟨rfl, rfl, hn⟩
  · rcases h' with ⟨rfl, hc', hs'⟩ | ⟨rfl, rfl, hn'⟩
    · refine ⟨?_, rfl⟩
      have h1 := told_ck readV_dec hc hs
      have h2 := told_ck readV_dec hc' hs'
      exact (Ck.of_list (told_some h1 h2)).symm ▸ rfl
    · exact absurd hs (hn' _ hc)
  · rcases h' with ⟨rfl, hc', hs'⟩ | ⟨rfl, rfl, hn'⟩
    · exact absurd hs' (hn _ hc')
    · exact ⟨rfl, rfl⟩
def CkAt (B : Nat) (u : Value) (w : World) : Prop := ∃ b, B ≤ b ∧ u = .pointer (some ⟨b, 0, none⟩) ∧ w.heap[b]? = some (.cells #[.int .i64 Ck.zero.st, .int .i64 Ck.zero.off, .int .i64 Ck.zero.fr, .int .i64 Ck.zero.poll, .int .i64 Ck.zero.calm] 25)
theorem CkAt.next (B : Nat) : ∀ u w w', CkAt B u w → Below w.heap.size w w' → CkAt B u w' := fun u w w' ⟨b, hB, e, h⟩ hb => ⟨b, hB, e, blk_next hb h⟩
theorem list5D {l : List Int} (h : l.length = 5) : ∃ a b c d e, l = [a, b, c, d, e] := by
  match l, h with
  | [a, b, c, d, e], _ => exact ⟨a, b, c, d, e, rfl⟩
theorem int_cells {base : Nat} {w : World} {o : Value} {l : List Int} {n : Nat} (hn : l.length = n) (hp : 0 < n) (h : w.ownsRow base 2 1 o n (l.map (Value.int .i64))) : ∃ g cap, o = .slice (some ⟨g, 0, none⟩) n cap ∧ base ≤ g ∧ g < w.heap.size ∧ ∀ (j : Nat) x, l[j]? = some x → w.cell? ⟨g, j, none⟩ = some (.int .i64 x) := by
  rcases id h.2 with ⟨_, h0⟩ | ⟨g, cap, cur, rfl, hb, hg, _⟩
  · omega
  · refine ⟨g, cap, rfl, hb, (Array.getElem?_eq_some_iff.1 hg).1, fun j x hx => ?_⟩
    have hj := (List.getElem?_eq_some_iff.1 hx).1
    rw [World.ownsRow.cellAt h j (by omega), List.getElem?_map, hx]
    rfl
set_option maxRecDepth 100000 in
set_option maxHeartbeats 2000000 in
theorem readClock_spec (s : ByteArray) (hs : s.size ≤ 1048576) (w : World) :
    Calls Tryd.prog 13 #[.string s] w fun e w' => ∃ c b, e = .returned (.tuple #[.agg #[.int .i64 c.st, .int .i64 c.off, .int .i64 c.fr, .int .i64 c.poll, .int .i64 c.calm], .bool b]) ∧ ReadIs s c b ∧ Below w.heap.size w w' := by
  have HC := Lib.hid (fun w => show Calls Tryd.prog 26 #[.string s, .int .i64 5] w (NumsPost w s 5) from l7Nums_c s hs 5 (by omega) w)
  unfold NumsPost at HC
  have HT := Lib.hid (fun c w => clockText_spec c w)
  have Q0 := blk_new w (.cells #[.int .i64 Ck.zero.st, .int .i64 Ck.zero.off, .int .i64 Ck.zero.fr, .int .i64 Ck.zero.poll, .int .i64 Ck.zero.calm] 25)
  have g0 : Below w.heap.size w (w.alloc (.cells #[.int .i64 Ck.zero.st, .int .i64 Ck.zero.off, .int .i64 Ck.zero.fr, .int .i64 Ck.zero.poll, .int .i64 Ck.zero.calm] 25)) := by go_grown
  go_enter Tryd.func13, Tryd.ntmps13
  go_wp2_with fail
  refine (HC.out _).mono ?_
  rintro e w1 ⟨hb1, ⟨o, xs, rfl, hl, ht, hrow⟩ | ⟨rfl, hno⟩⟩
  · have Q1 := blk_next hb1 Q0
    have G1 := grow_next g0 hb1
    obtain ⟨g, cap, rfl, hgb, hgl, hcell⟩ := int_cells hl (by omega) hrow
    obtain ⟨v0, v1, v2, v3, v4, rfl⟩ := list5D hl
    have HTold := Lib.hid ht
    have x0 := hcell 0 v0 rfl
    have x1 := hcell 1 v1 rfl
    have x2 := hcell 2 v2 rfl
    have x3 := hcell 3 v3 rfl
    have x4 := hcell 4 v4 rfl
    have y0 := cell_regrown x0
    have y1 := cell_regrown x1
    have y2 := cell_regrown x2
    have y3 := cell_regrown x3
    have y4 := cell_regrown x4
    clear x0 x1 x2 x3 x4 ht hrow hcell hl hb1 g0 Q0 hgl hgb
    go_wp2_with fail
    refine wp_region_det_last 16 5 (CkAt w1.heap.size) (by repeat (first | exact Snoc.one _ | apply Snoc.cons)) (by kernel_rfl) (by kernel_rfl) (by kernel_rfl) (by simp) (CkAt.next _) ?_
    repeat ((with_reducible refine wpDet_step (by kernel_rfl) (by kernel_rfl) (fun K hK => ?_)); go_simp; first | ((with_reducible refine hK _ ?_); clear hK K) | (rw [if_neg (by intro h; exact nomatch h)]; (with_reducible refine hK _ ?_); clear hK K) | (apply Exists.intro; (with_reducible refine ⟨fun _ => ?_, hK _ ?_⟩); (fail); clear hK K))
    refine wpDet_made (by kernel_rfl) ?_ ?_
    · rintro _ ⟨p', rfl⟩
      refine ⟨.pointer (some ⟨(grow (redrawn w1 p'.d) p'.os).heap.size, 0, none⟩), (grow (redrawn w1 p'.d) p'.os).alloc (.cells #[.int .i64 Ck.zero.st, .int .i64 Ck.zero.off, .int .i64 Ck.zero.fr, .int .i64 Ck.zero.poll, .int .i64 Ck.zero.calm] 25), ?_, below_new _ _, ⟨_, (below_regrown w1 p'.d p'.os).size, rfl, blk_new _ _⟩⟩
      generalize grow (redrawn w1 p'.d) p'.os = W1
      go_simp
      rfl
    with_reducible refine wpDet_nil ?_
    intro u w' hw' hg'
    have g1 := cls_below.1 hw'
    obtain ⟨b, hB, rfl, Qb⟩ := hg'
    have hlt0 := (Array.getElem?_eq_some_iff.1 Q1).1
    have hne : b ≠ w.heap.size := by omega
    have hge : w.heap.size ≤ b := by omega
    have R1 := blk_next g1 Q1
    have G2 := grow_next G1 g1
    clear hw' g1 y0 y1 y2 y3 y4 Q1 G1
    obtain ⟨f0, f1, f2, f3, f4⟩ := ck_thaw Qb
    obtain ⟨z0, z1, z2, z3, z4⟩ := ck_cells Qb
    obtain ⟨v, hv⟩ : ∃ v : Ck, v = ⟨v0, v1, v2, v3, v4⟩ := ⟨_, rfl⟩
    obtain ⟨e0, e1, e2, e3, e4⟩ : v0 = v.st ∧ v1 = v.off ∧ v2 = v.fr ∧ v3 = v.poll ∧ v4 = v.calm := by rw [hv]; exact ⟨rfl, rfl, rfl, rfl, rfl⟩
    subst e0 e1 e2 e3 e4
    clear hv
    refine ⟨(((((w'.setCell ⟨b, 0, none⟩ (.int .i64 v.st)).setCell ⟨b, 1, none⟩ (.int .i64 v.off)).setCell ⟨b, 2, none⟩ (.int .i64 v.fr)).setCell ⟨b, 3, none⟩ (.int .i64 v.poll)).setCell ⟨b, 4, none⟩ (.int .i64 v.calm)), ?_, ?_⟩
    · go_simp
      try rfl
    clear f0 f1 f2 f3 f4 z0 z1 z2 z3 z4
    obtain ⟨V, hV⟩ : ∃ V, V = (((((w'.setCell ⟨b, 0, none⟩ (.int .i64 v.st)).setCell ⟨b, 1, none⟩ (.int .i64 v.off)).setCell ⟨b, 2, none⟩ (.int .i64 v.fr)).setCell ⟨b, 3, none⟩ (.int .i64 v.poll)).setCell ⟨b, 4, none⟩ (.int .i64 v.calm)) := ⟨_, rfl⟩
    rw [← hV]
    have Q2 : V.heap[b]? = some (.cells #[.int .i64 v.st, .int .i64 v.off, .int .i64 v.fr, .int .i64 v.poll, .int .i64 v.calm] 25) := by
      rw [hV]
      exact ck_put Qb v
    have R2 : V.heap[w.heap.size]? = some (.cells #[.int .i64 Ck.zero.st, .int .i64 Ck.zero.off, .int .i64 Ck.zero.fr, .int .i64 Ck.zero.poll, .int .i64 Ck.zero.calm] 25) := by
      rw [hV]
      exact ck_other R1 hne v
    have G3 : Below w.heap.size w V := by
      rw [hV]
      repeat (refine below_set ?_ hge _ _)
      exact G2
    clear hV Qb R1 G2 hB
    obtain ⟨z0, z1, z2, z3, z4⟩ := ck_cells Q2
    have HT1 := Lib.hid (HT.out v V)
    obtain ⟨t, ht⟩ : ∃ t, v.text = t := ⟨_, rfl⟩
    rw [ht] at HT1
    have HTX := Lib.hid ht
    clear ht
    cases hb : (t.toList == s.toList) with
    | false =>
      have HN := Lib.hid (show ReadIs s Ck.zero false from .inr ⟨rfl, rfl, fun c' hc hs' => by
        have e := Ck.of_list (told_some HTold.out (told_ck (fun _ h => numV_dec h) hc hs'))
        have e1 : v = c' := e.symm
        rw [e1] at HTX
        have : t = s := by rw [← HTX.out, ← hs']; unfold Ck.text; rw [hc]; rfl
        rw [this] at hb
        simp at hb⟩)
      clear HTX HTold HT HC
      go_wp2_with fail
      refine HT1.out.mono ?_
      rintro e w3 ⟨rfl, hb3⟩
      have R3 := blk_next hb3 R2
      have G4 := grow_next G3 hb3
      obtain ⟨f0, f1, f2, f3, f4⟩ := ck_thaw R3
      have X := ck_cells R3
      dsimp only [Ck.zero] at X
      obtain ⟨y0, y1, y2, y3, y4⟩ := X
      have F := ck_cells (ck_put R3 Ck.zero)
      dsimp only [Ck.zero] at F
      have GF : Below w.heap.size w (((((w3.setCell ⟨w.heap.size, 0, none⟩ (.int .i64 Ck.zero.st)).setCell ⟨w.heap.size, 1, none⟩ (.int .i64 Ck.zero.off)).setCell ⟨w.heap.size, 2, none⟩ (.int .i64 Ck.zero.fr)).setCell ⟨w.heap.size, 3, none⟩ (.int .i64 Ck.zero.poll)).setCell ⟨w.heap.size, 4, none⟩ (.int .i64 Ck.zero.calm)) := by
        repeat (refine below_set ?_ (Nat.le_refl _) _ _)
        exact G4
      dsimp only [Ck.zero] at GF
      go_wp2_with fail
      refine bodyPost_ret (by simp [results, Tryd.results13, go_sem, F]; try rfl) rfl ?_
      exact ⟨Ck.zero, false, rfl, HN.out, GF⟩
    | true =>
      have ht : t = s := by
        have h1 := beq_iff_eq.1 hb
        rw [ByteArray.toList_eq, ByteArray.toList_eq] at h1
        exact ByteArray.ext (Array.toList_inj.1 h1)
      have hok : v.ok = true := by
        cases h : v.ok with
        | true => rfl
        | false =>
          exfalso
          have h1 := HTX.out
          unfold Ck.text at h1
          rw [h, ht] at h1
          have h2 : s = ⟨#[]⟩ := by rw [← h1]; rfl
          have h3 := HTold.out
          rw [h2, wordsOf_one (show NoBl ⟨#[]⟩ from fun x hx => by cases hx)] at h3
          have := h3.length
          simp at this
      have HN := Lib.hid (show ReadIs s v true from .inl ⟨rfl, hok, by
        rw [← ht, ← HTX.out]; unfold Ck.text; rw [hok]; rfl⟩)
      clear HTX HTold HT HC ht hok
      go_wp2_with fail
      refine HT1.out.mono ?_
      rintro e w3 ⟨rfl, hb3⟩
      have R3 := blk_next hb3 R2
      have Q3 := blk_next hb3 Q2
      have G4 := grow_next G3 hb3
      obtain ⟨f0, f1, f2, f3, f4⟩ := ck_thaw R3
      obtain ⟨y0, y1, y2, y3, y4⟩ := ck_cells Q3
      have X := ck_cells R3
      dsimp only [Ck.zero] at X
      obtain ⟨x0, x1, x2, x3, x4⟩ := X
      have F := ck_cells (ck_put R3 v)
      have GF : Below w.heap.size w (((((w3.setCell ⟨w.heap.size, 0, none⟩ (.int .i64 v.st)).setCell ⟨w.heap.size, 1, none⟩ (.int .i64 v.off)).setCell ⟨w.heap.size, 2, none⟩ (.int .i64 v.fr)).setCell ⟨w.heap.size, 3, none⟩ (.int .i64 v.poll)).setCell ⟨w.heap.size, 4, none⟩ (.int .i64 v.calm)) := by
        repeat (refine below_set ?_ (Nat.le_refl _) _ _)
        exact G4
      go_wp2_with fail
      refine bodyPost_ret (by simp [results, Tryd.results13, go_sem, F]; try rfl) rfl ?_
      exact ⟨v, true, rfl, HN.out, GF⟩
  · have Q1 := blk_next hb1 Q0
    have G1 := grow_next g0 hb1
    have HN := Lib.hid (read_no (fun _ h => numV_dec h) hno)
    clear hno HC HT g0 Q0 hb1
    obtain ⟨f0, f1, f2, f3, f4⟩ := ck_thaw Q1
    have X := ck_cells Q1
    dsimp only [Ck.zero] at X
    obtain ⟨z0, z1, z2, z3, z4⟩ := X
    have F := ck_cells (ck_put Q1 Ck.zero)
    dsimp only [Ck.zero] at F
    have GF : Below w.heap.size w (((((w1.setCell ⟨w.heap.size, 0, none⟩ (.int .i64 Ck.zero.st)).setCell ⟨w.heap.size, 1, none⟩ (.int .i64 Ck.zero.off)).setCell ⟨w.heap.size, 2, none⟩ (.int .i64 Ck.zero.fr)).setCell ⟨w.heap.size, 3, none⟩ (.int .i64 Ck.zero.poll)).setCell ⟨w.heap.size, 4, none⟩ (.int .i64 Ck.zero.calm)) := by
      repeat (refine below_set ?_ (Nat.le_refl _) _ _)
      exact G1
    dsimp only [Ck.zero] at GF
    go_wp2_with fail
    refine bodyPost_ret (by simp [results, Tryd.results13, go_sem, F]; try rfl) rfl ?_
    exact ⟨Ck.zero, false, rfl, HN.out, GF⟩
end Go.Proofs.YtbkkgkmllplbaaaDoor
