/- The program's FilterOk, JitterOf, BestOf, Popcorn. -/
import Derived.Test.YthgamidodkkpbaaDoorFilJit
import Derived.Deep.Cut
namespace Go.Proofs.YthgamidodkkpbaaDoor
open Go.ChangeShapes Go.WideShapes Go.ChangeAt Go.RowKit Go.Sort
set_option linter.unusedVariables false
set_option linter.unusedSimpArgs false

theorem fil_boxed {w w1 w2 : World} {C : List Value} {m : List Sm} (hb1 : Below w.heap.size w w1) (hF : Fil C m) (hw2 : w2 = (w1.alloc (.cells zero33.toArray 46)).setRow w1.heap.size C.toArray) : FilAt w2 w1.heap.size m ∧ Below w.heap.size w w2 :=
  ⟨⟨C, setRow_heap' hw2 (blk_new w1 (.cells zero33.toArray 46)), hF⟩, below_setRow' (hb1.alloc hb1.size _) hb1.size hw2⟩
theorem fil_info {C : List Value} {m : List Sm} (hF : Fil C m) : (Tryd.prog.info? 46).map (·.size) = some C.toArray.size := by
  have : C.toArray.size = 33 := by simpa using hF.len
  rw [this]; exact filI
theorem fil_size {C : List Value} {m : List Sm} (hF : Fil C m) : zero33.toArray.size = C.toArray.size := by
  have : C.toArray.size = 33 := by simpa using hF.len
  rw [this]; rfl
theorem okFromS_all : ∀ (l : List Sm) (o : Option Sm), okFromS o l = true → AllOkS l
  | [], _, _ => fun v hv => by simp at hv
  | s :: l, o, h => fun v hv => by
    simp only [okFromS, Bool.and_eq_true] at h
    rcases List.mem_cons.1 hv with rfl | hv
    · exact h.1.1
    · exact okFromS_all l _ h.2 v hv
theorem okSms_all {l : List Sm} (h : okSms l = true) : AllOkS l ∧ l.length ≤ 8 := by
  unfold okSms at h
  rw [Bool.and_eq_true] at h
  exact ⟨okFromS_all _ _ h.1, of_decide_eq_true h.2⟩

section
variable (l : List Sm) (n : Nat) (hn : Hid (n = l.length)) (hm : n ≤ maxLen) (x : Option Addr) (cap : Nat) (w : World) (h : Sms w.heap.size w x l) {ao an au : Addr} (L : Ld w ao an au)
include hn hm h L

set_option maxRecDepth 100000 in
theorem filterOk_impl : Calls Tryd.prog 13 #[.slice x n cap] w fun e w' => e = .returned (.bool (okSms l)) ∧ Below w.heap.size w w' := by
  go_enter Tryd.func13, Tryd.ntmps13
  go_wp2_with fail
  refine (filterOf_c l n hn hm x cap w h L).mono ?_
  rintro e w1 ⟨C, m, rfl, hF, hml, hb1⟩
  go_wp2_with (refine wpList_store_row rfl 46 (.tmp 3) (.tmp 8) rfl w1.heap.size 46 zero33.toArray C.toArray rfl rfl (blk_new w1 (.cells zero33.toArray 46)) (fil_info hF) (fil_size hF) (fil_one hF) ?_; intro w2 hw2)
  go_returns
  exact ⟨rfl, (fil_boxed hb1 hF hw2.out).2⟩

set_option maxRecDepth 100000 in
theorem jitterOf_impl : Calls Tryd.prog 19 #[.slice x n cap] w fun e w' => e = .returned (.int .i64 (if okSms l then jitV l else -1)) ∧ Below w.heap.size w w' := by
  have HF := Lib.hid (filterOf_c l n hn hm x cap w h L)
  unfold FilPost at HF
  cases ho : okSms l with
  | false =>
    rw [ho] at HF
    go_enter Tryd.func19, Tryd.ntmps19
    go_wp2_with fail
    refine HF.out.mono ?_
    rintro e w1 ⟨C, m, rfl, hF, hml, hb1⟩
    go_wp2_with (refine wpList_store_row rfl 46 (.tmp 3) (.tmp 8) rfl w1.heap.size 46 zero33.toArray C.toArray rfl rfl (blk_new w1 (.cells zero33.toArray 46)) (fil_info hF) (fil_size hF) (fil_one hF) ?_; intro w2 hw2)
    go_returns
    exact ⟨rfl, (fil_boxed hb1 hF hw2.out).2⟩
  | true =>
    have hA := (okSms_all ho).1
    rw [ho] at HF
    clear ho
    go_enter Tryd.func19, Tryd.ntmps19
    go_wp2_with fail
    refine HF.out.mono ?_
    rintro e w1 ⟨C, m, rfl, hF, hml, hb1⟩
    have e := hml (by trivial)
    subst e
    go_wp2_with (refine wpList_store_row rfl 46 (.tmp 3) (.tmp 8) rfl w1.heap.size 46 zero33.toArray C.toArray rfl rfl (blk_new w1 (.cells zero33.toArray 46)) (fil_info hF) (fil_size hF) (fil_one hF) ?_; intro w2 hw2)
    obtain ⟨F2, b2⟩ := fil_boxed hb1 hF hw2.out
    refine (jitter_c m hA w1.heap.size w2 F2).mono ?_
    rintro e w3 ⟨rfl, hb3⟩
    go_wp2_with fail
    go_returns
    exact ⟨rfl, grow_next b2 hb3⟩
/-- What BestOf tells. -/
def bstOk (l : List Sm) : Bool := okSms l && decide (0 < l.length)
def bstV (l : List Sm) : Sm := if bstOk l then bestV l else Sm.zero

set_option maxRecDepth 100000 in
set_option maxHeartbeats 1000000 in
theorem bestOf_impl : Calls Tryd.prog 16 #[.slice x n cap] w fun e w' => e = .returned (.tuple #[.agg #[.int .i64 ((bstV l)).off, .int .i64 ((bstV l)).delay, .int .i64 ((bstV l)).disp, .int .i64 ((bstV l)).at_], .bool (bstOk l)]) ∧ Below w.heap.size w w' := by
  have b0 : Below w.heap.size w (w.alloc (.cells #[.int .i64 0, .int .i64 0, .int .i64 0, .int .i64 0] 26)) := below_new _ _
  have R0 := blk_new w (.cells #[.int .i64 0, .int .i64 0, .int .i64 0, .int .i64 0] 26)
  have HF := Lib.hid (filterOf_c l n hn hm x cap _ (h.next b0) (L.next b0))
  unfold FilPost at HF
  cases ho : okSms l with
  | false =>
    have e1 : bstOk l = false := by unfold bstOk; rw [ho]; rfl
    have e2 : bstV l = Sm.zero := by unfold bstV; rw [e1]; rfl
    rw [e1, e2]
    rw [ho] at HF
    clear ho e1 e2
    go_enter Tryd.func16, Tryd.ntmps16
    go_wp2_with fail
    refine HF.out.mono ?_
    rintro e w1 ⟨C, m, rfl, hF, hml, hb1⟩
    have R1 := blk_next hb1 R0
    have g1 := grow_next b0 hb1
    go_upto_region 2 with (refine wpList_store_row rfl 46 (.tmp 4) (.tmp 9) rfl w1.heap.size 46 zero33.toArray C.toArray rfl rfl (blk_new w1 (.cells zero33.toArray 46)) (fil_info hF) (fil_size hF) (fil_one hF) ?_; intro w2 hw2)
    obtain ⟨F2, b2⟩ := fil_boxed g1 hF hw2.out
    have R2 := (setRow_other' hw2.out (j := w.heap.size) (by have := (Array.getElem?_eq_some_iff.1 R1).1; omega)).trans (blk_alloc R1 (.cells zero33.toArray 46))
    obtain ⟨r0, r1, r2, r3⟩ := sample_cells (q := ⟨0, 0, 0, 0⟩) R2
    obtain ⟨g0, g1, g2, g3⟩ := sample_thaw (q := ⟨0, 0, 0, 0⟩) R2
    clear hw2
    have HZ := Lib.hid (sample_put (q := ⟨0, 0, 0, 0⟩) R2 ⟨0, 0, 0, 0⟩)
    go_wp2_with fail
    obtain ⟨x0, x1, x2, x3⟩ := sample_cells (q := ⟨0, 0, 0, 0⟩) HZ.out
    dsimp only at x0 x1 x2 x3
    have G := below_put (below_put (below_put (below_put b2 (b := w.heap.size) (Nat.le_refl _) 0 (.int .i64 0)) (b := w.heap.size) (Nat.le_refl _) 1 (.int .i64 0)) (b := w.heap.size) (Nat.le_refl _) 2 (.int .i64 0)) (b := w.heap.size) (Nat.le_refl _) 3 (.int .i64 0)
    try simp only [Exit.inBlock, Exit.then]
    refine bodyPost_ret (by simp [results, Tryd.results16, go_sem, x0, x1, x2, x3, r0, r1, r2, r3]; try rfl) rfl ?_
    exact ⟨rfl, G⟩
  | true =>
    rw [ho] at HF
    by_cases hp : 0 < l.length
    · have e1 : bstOk l = true := by unfold bstOk; rw [ho, decide_eq_true hp]; rfl
      have e2 : bstV l = bestV l := by unfold bstV; rw [e1]; rfl
      rw [e1, e2]
      have hne : l ≠ [] := List.length_pos_iff.1 hp
      clear ho e1 e2
      go_enter Tryd.func16, Tryd.ntmps16
      go_wp2_with fail
      refine HF.out.mono ?_
      rintro e w1 ⟨C, m, rfl, hF, hml, hb1⟩
      have e := hml (by trivial)
      subst e
      have R1 := blk_next hb1 R0
      have g1 := grow_next b0 hb1
      go_upto_region 2 with (refine wpList_store_row rfl 46 (.tmp 4) (.tmp 9) rfl w1.heap.size 46 zero33.toArray C.toArray rfl rfl (blk_new w1 (.cells zero33.toArray 46)) (fil_info hF) (fil_size hF) (fil_one hF) ?_; intro w2 hw2)
      obtain ⟨F2, b2⟩ := fil_boxed g1 hF hw2.out
      have R2 := (setRow_other' hw2.out (j := w.heap.size) (by have := (Array.getElem?_eq_some_iff.1 R1).1; omega)).trans (blk_alloc R1 (.cells zero33.toArray 46))
      have hc2 := F2.count
      have hz : ((m.length : Int) == 0) = false := by simpa using hne
      clear hw2
      go_wp2_with fail
      refine (best_c m w1.heap.size w2 F2).mono ?_
      rintro e w3 ⟨q, rfl, hq, hb3⟩
      have hq' := hq hne
      have R3 := blk_next hb3 R2
      have b3 := grow_next b2 hb3
      obtain ⟨r0, r1, r2, r3⟩ := sample_cells (q := ⟨0, 0, 0, 0⟩) R3
      obtain ⟨g0, g1, g2, g3⟩ := sample_thaw (q := ⟨0, 0, 0, 0⟩) R3
      have HQ := Lib.hid hq'
      clear hq hq'
      go_wp2_with fail
      obtain ⟨x0, x1, x2, x3⟩ := sample_cells (sample_put (q := ⟨0, 0, 0, 0⟩) R3 q)
      have G := below_put (below_put (below_put (below_put b3 (b := w.heap.size) (Nat.le_refl _) 0 (.int .i64 q.off)) (b := w.heap.size) (Nat.le_refl _) 1 (.int .i64 q.delay)) (b := w.heap.size) (Nat.le_refl _) 2 (.int .i64 q.disp)) (b := w.heap.size) (Nat.le_refl _) 3 (.int .i64 q.at_)
      try simp only [Exit.inBlock, Exit.then]
      refine bodyPost_ret (by simp [results, Tryd.results16, go_sem, x0, x1, x2, x3, r0, r1, r2, r3]; try rfl) rfl ?_
      exact ⟨by rw [← HQ.out], G⟩
    · have e1 : bstOk l = false := by unfold bstOk; rw [ho, decide_eq_false hp]; rfl
      have e2 : bstV l = Sm.zero := by unfold bstV; rw [e1]; rfl
      rw [e1, e2]
      clear ho e1 e2
      go_enter Tryd.func16, Tryd.ntmps16
      go_wp2_with fail
      refine HF.out.mono ?_
      rintro e w1 ⟨C, m, rfl, hF, hml, hb1⟩
      have e := hml (by trivial)
      subst e
      have R1 := blk_next hb1 R0
      have g1 := grow_next b0 hb1
      go_upto_region 2 with (refine wpList_store_row rfl 46 (.tmp 4) (.tmp 9) rfl w1.heap.size 46 zero33.toArray C.toArray rfl rfl (blk_new w1 (.cells zero33.toArray 46)) (fil_info hF) (fil_size hF) (fil_one hF) ?_; intro w2 hw2)
      obtain ⟨F2, b2⟩ := fil_boxed g1 hF hw2.out
      have R2 := (setRow_other' hw2.out (j := w.heap.size) (by have := (Array.getElem?_eq_some_iff.1 R1).1; omega)).trans (blk_alloc R1 (.cells zero33.toArray 46))
      obtain ⟨r0, r1, r2, r3⟩ := sample_cells (q := ⟨0, 0, 0, 0⟩) R2
      obtain ⟨g0, g1, g2, g3⟩ := sample_thaw (q := ⟨0, 0, 0, 0⟩) R2
      have hc2 := F2.count
      have hz : ((m.length : Int) == 0) = true := by simpa using hp
      have HZ := Lib.hid (sample_put (q := ⟨0, 0, 0, 0⟩) R2 ⟨0, 0, 0, 0⟩)
      clear hw2
      go_wp2_with fail
      obtain ⟨x0, x1, x2, x3⟩ := sample_cells (q := ⟨0, 0, 0, 0⟩) HZ.out
      dsimp only at x0 x1 x2 x3
      have G := below_put (below_put (below_put (below_put b2 (b := w.heap.size) (Nat.le_refl _) 0 (.int .i64 0)) (b := w.heap.size) (Nat.le_refl _) 1 (.int .i64 0)) (b := w.heap.size) (Nat.le_refl _) 2 (.int .i64 0)) (b := w.heap.size) (Nat.le_refl _) 3 (.int .i64 0)
      try simp only [Exit.inBlock, Exit.then]
      refine bodyPost_ret (by simp [results, Tryd.results16, go_sem, x0, x1, x2, x3, r0, r1, r2, r3]; try rfl) rfl ?_
      exact ⟨rfl, G⟩
end
end Go.Proofs.YthgamidodkkpbaaDoor
