/- The best sample of a filter, its jitter: the program's way. -/
import Derived.Test.YthgamidodkkpbaaDoorFilOf
namespace Go.Proofs.YthgamidodkkpbaaDoor
open Go.ChangeShapes Go.WideShapes Go.ChangeAt Go.RowKit Go.Sort
set_option linter.unusedVariables false
set_option linter.unusedSimpArgs false

theorem list_c (l : List Sm) (b : Nat) (w : World) (h : FilAt w b l) :
    Calls Tryd.prog 33 #[.pointer (some ⟨b, 0, none⟩)] w fun e w' => e = .returned (.slice (some ⟨b, 0, none⟩) l.length 8) ∧ Below w.heap.size w w' := by
  have hc := h.count
  have hle := h.le
  have h1 : (l.length : Int) ≤ 8 := by omega
  have h2 : l.length ≤ 8 := hle
  go_enter Tryd.func33, Tryd.ntmps33
  go_wp2_with fail
  go_quiet (fail)
  go_wp2_with fail
  go_returns
  exact ⟨rfl, grow_drew (Below.refl _ _) _⟩

theorem put4_other {W : World} {b k : Nat} (hne : b ≠ k) (v0 v1 v2 v3 : Value) :
    ((((W.setCell ⟨b, 0, none⟩ v0).setCell ⟨b, 1, none⟩ v1).setCell ⟨b, 2, none⟩ v2).setCell ⟨b, 3, none⟩ v3).heap[k]? = W.heap[k]? := by
  simp [World.setCell, Array.getElem?_modify, hne]
theorem FilAt.keep {w w' : World} {b : Nat} {l : List Sm} (h : FilAt w b l) (e : w'.heap[b]? = w.heap[b]?) : FilAt w' b l := by
  obtain ⟨C, hC, hF⟩ := h
  exact ⟨C, e.trans hC, hF⟩
/-- The least delay, of these the last one. -/
def bestStep (q s : Sm) : Sm := if s.delay ≤ q.delay then s else q
def bestFrom (q : Sm) (l : List Sm) : Sm := l.foldl bestStep q
def bestV (l : List Sm) : Sm := match l with | [] => Sm.zero | a :: _ => bestFrom a l
theorem bestFrom_next (q : Sm) {l : List Sm} {k : Nat} {v : Sm} (h : l[k]? = some v) : bestFrom q (l.take (k + 1)) = bestStep (bestFrom q (l.take k)) v := by
  unfold bestFrom
  rw [take_nextS h, List.foldl_append]
  rfl
theorem bestV_at {l : List Sm} {v : Sm} (h : l[0]? = some v) : bestV l = bestFrom v l := by
  cases l with
  | nil => simp at h
  | cons a l => simp at h; subst h; rfl
theorem step_cases (q s : Sm) (b : Bool) (h : decide (s.delay ≤ q.delay) = b) : bestStep q s = if b then s else q := by
  unfold bestStep
  cases b with
  | true => rw [if_pos (of_decide_eq_true h)]; rfl
  | false => rw [if_neg (of_decide_eq_false h)]; rfl

set_option maxRecDepth 100000 in
set_option maxHeartbeats 2000000 in
theorem best_from (q0 : Sm) (l : List Sm) (b : Nat) (w : World) (h : FilAt w b l) (hq : w.cell? ⟨b, 0, none⟩ = some (.int .i64 q0.off) ∧ w.cell? ⟨b, 1, none⟩ = some (.int .i64 q0.delay) ∧ w.cell? ⟨b, 2, none⟩ = some (.int .i64 q0.disp) ∧ w.cell? ⟨b, 3, none⟩ = some (.int .i64 q0.at_)) :
    Calls Tryd.prog 35 #[.pointer (some ⟨b, 0, none⟩)] w fun e w' => e = .returned (.agg #[.int .i64 ((bestFrom q0 l)).off, .int .i64 ((bestFrom q0 l)).delay, .int .i64 ((bestFrom q0 l)).disp, .int .i64 ((bestFrom q0 l)).at_]) ∧ Below w.heap.size w w' := by
  obtain ⟨q0c, q1c, q2c, q3c⟩ := hq
  have hblt := h.lt
  obtain ⟨n, hn⟩ : ∃ n, n = l.length := ⟨_, rfl⟩
  have hle := h.le
  have HN := Lib.hid hn
  have HL := Lib.hid (fun W h => list_c l b W h)
  rw [← hn] at HL hle
  clear hn
  go_enter Tryd.func35, Tryd.ntmps35
  go_upto_region 2 with (fail)
  have R2 := blk_alloc (blk_new w (.cells #[.int .i64 0, .int .i64 0, .int .i64 0, .int .i64 0] 26)) (.cells #[.int .i64 q0.off, .int .i64 q0.delay, .int .i64 q0.disp, .int .i64 q0.at_] 26)
  have P2 := blk_new (w.alloc (.cells #[.int .i64 0, .int .i64 0, .int .i64 0, .int .i64 0] 26)) (.cells #[.int .i64 q0.off, .int .i64 q0.delay, .int .i64 q0.disp, .int .i64 q0.at_] 26)
  rw [World.size_alloc] at P2
  have b2 : Below w.heap.size w ((w.alloc (.cells #[.int .i64 0, .int .i64 0, .int .i64 0, .int .i64 0] 26)).alloc (.cells #[.int .i64 q0.off, .int .i64 q0.delay, .int .i64 q0.disp, .int .i64 q0.at_] 26)) := by go_grown
  have F2 := (h.next (below_new w (.cells #[.int .i64 0, .int .i64 0, .int .i64 0, .int .i64 0] 26))).next (below_new _ (.cells #[.int .i64 q0.off, .int .i64 q0.delay, .int .i64 q0.disp, .int .i64 q0.at_] 26))
  generalize (w.alloc (.cells #[.int .i64 0, .int .i64 0, .int .i64 0, .int .i64 0] 26)).alloc (.cells #[.int .i64 q0.off, .int .i64 q0.delay, .int .i64 q0.disp, .int .i64 q0.at_] 26) = w2 at *
  go_wp2_with fail
  refine (HL.out _ F2).mono ?_
  rintro e w3 ⟨rfl, hb3⟩
  have R3 := Lib.hid (blk_next hb3 R2)
  have P3 := Lib.hid (blk_next hb3 P2)
  have F3 := F2.next hb3
  have b3 := grow_next b2 hb3
  clear R2 P2 F2 q0c q1c q2c q3c
  go_wp2_with fail
  go_loopw [14] (fun i wr => ∃ (k : Nat) (q : Sm), k ≤ n ∧ i = .int .i64 k ∧ Hid (q = bestFrom q0 (l.take k)) ∧ Hid (wr.heap[w.heap.size]? = some (.cells #[.int .i64 0, .int .i64 0, .int .i64 0, .int .i64 0] 26)) ∧ Hid (wr.heap[w.heap.size + 1]? = some (.cells #[.int .i64 q.off, .int .i64 q.delay, .int .i64 q.disp, .int .i64 q.at_] 26)) ∧ FilAt wr b l ∧ Below w.heap.size w wr) (fun i _ => n - (intOf i).toNat)
  case atStart => exact ⟨0, q0, Nat.zero_le _, rfl, Lib.hid rfl, R3, P3, F3, b3⟩
  case round =>
    obtain ⟨k, q, hk, rfl, HQ, HR, HP, hF, hb⟩ := hrel
    have hsz := hb.size
    have hp1 : w.heap.size + 1 < wr.heap.size := (Array.getElem?_eq_some_iff.1 HP.out).1
    obtain ⟨p0, p1, p2, p3⟩ := sample_cells HP.out
    obtain ⟨f0, f1, f2, f3⟩ := sample_thaw HP.out
    obtain ⟨r0, r1, r2, r3⟩ := sample_cells (q := ⟨0, 0, 0, 0⟩) HR.out
    obtain ⟨g0, g1, g2, g3⟩ := sample_thaw (q := ⟨0, 0, 0, 0⟩) HR.out
    by_cases hlt : k < n
    · obtain ⟨v, hv⟩ : ∃ v, l[k]? = some v := ⟨l[k]'(by rw [← HN.out]; exact hlt), List.getElem?_eq_getElem _⟩
      obtain ⟨c0, c1, c2, c3⟩ := hF.at_ hv
      have hnx := bestFrom_next q0 hv
      rw [← HQ.out] at hnx
      have hk8 : k < 8 := by omega
      clear hv
      cases hd : decide (v.delay ≤ q.delay) with
      | true =>
        rw [step_cases q v true hd] at hnx
        have HNX := Lib.hid hnx.symm
        clear hnx
        go_upto_region 7 with (fail)
        have N0 := sample_put HP.out v
        have M0 := (put4_other (W := wr) (b := w.heap.size + 1) (k := w.heap.size) (by omega) (.int .i64 v.off) (.int .i64 v.delay) (.int .i64 v.disp) (.int .i64 v.at_)).trans HR.out
        have F0 := hF.keep (put4_other (W := wr) (b := w.heap.size + 1) (k := b) (by omega) (.int .i64 v.off) (.int .i64 v.delay) (.int .i64 v.disp) (.int .i64 v.at_))
        have B0 := below_put (below_put (below_put (below_put hb (b := w.heap.size + 1) (by omega) 0 (.int .i64 v.off)) (b := w.heap.size + 1) (by omega) 1 (.int .i64 v.delay)) (b := w.heap.size + 1) (by omega) 2 (.int .i64 v.disp)) (b := w.heap.size + 1) (by omega) 3 (.int .i64 v.at_)
        generalize (((wr.setCell ⟨w.heap.size + 1, 0, none⟩ (.int .i64 v.off)).setCell ⟨w.heap.size + 1, 1, none⟩ (.int .i64 v.delay)).setCell ⟨w.heap.size + 1, 2, none⟩ (.int .i64 v.disp)).setCell ⟨w.heap.size + 1, 3, none⟩ (.int .i64 v.at_) = wS at *
        have N1 := Lib.hid (blk_alloc N0 (.cells #[.int .i64 v.off, .int .i64 v.delay, .int .i64 v.disp, .int .i64 v.at_] 26))
        have M1 := Lib.hid (blk_alloc M0 (.cells #[.int .i64 v.off, .int .i64 v.delay, .int .i64 v.disp, .int .i64 v.at_] 26))
        have F1 := F0.next (below_new wS (.cells #[.int .i64 v.off, .int .i64 v.delay, .int .i64 v.disp, .int .i64 v.at_] 26))
        have B1 := B0.alloc B0.size (.cells #[.int .i64 v.off, .int .i64 v.delay, .int .i64 v.disp, .int .i64 v.at_] 26)
        go_wp2_with fail
        go_roundw
        case rel => exact ⟨k + 1, v, by omega, by go_num, HNX, M1, N1, F1, B1⟩
        case measure => simp [intOf]; omega
      | false =>
        rw [step_cases q v false hd] at hnx
        have HNX := Lib.hid hnx.symm
        clear hnx
        have N1 := Lib.hid (blk_alloc HP.out (.cells #[.int .i64 v.off, .int .i64 v.delay, .int .i64 v.disp, .int .i64 v.at_] 26))
        have M1 := Lib.hid (blk_alloc HR.out (.cells #[.int .i64 v.off, .int .i64 v.delay, .int .i64 v.disp, .int .i64 v.at_] 26))
        have F1 := hF.next (below_new wr (.cells #[.int .i64 v.off, .int .i64 v.delay, .int .i64 v.disp, .int .i64 v.at_] 26))
        have B1 := hb.alloc hb.size (.cells #[.int .i64 v.off, .int .i64 v.delay, .int .i64 v.disp, .int .i64 v.at_] 26)
        go_wp2_with fail
        go_roundw
        case rel => exact ⟨k + 1, q, by omega, by go_num, HNX, M1, N1, F1, B1⟩
        case measure => simp [intOf]; omega
    · have e : k = n := by omega
      have e1 : l.take k = l := by rw [e, HN.out, List.take_length]
      have hq := HQ.out
      rw [e1] at hq
      have HQ := Lib.hid hq
      clear hq e1 e
      go_wp2_with fail
      obtain ⟨x0, x1, x2, x3⟩ := sample_cells (sample_put (q := ⟨0, 0, 0, 0⟩) HR.out q)
      have G := below_put (below_put (below_put (below_put hb (b := w.heap.size) (Nat.le_refl _) 0 (.int .i64 q.off)) (b := w.heap.size) (Nat.le_refl _) 1 (.int .i64 q.delay)) (b := w.heap.size) (Nat.le_refl _) 2 (.int .i64 q.disp)) (b := w.heap.size) (Nat.le_refl _) 3 (.int .i64 q.at_)
      try simp only [Exit.inBlock, Exit.then]
      refine bodyPost_ret (by simp [results, Tryd.results35, go_sem, x0, x1, x2, x3]; try rfl) rfl ?_
      rw [← HQ.out]
      exact ⟨rfl, G⟩
end Go.Proofs.YthgamidodkkpbaaDoor
