/- Whole disks copied and held against each other by the laws. -/
import Derived.Test.YtgmjdalfbebgbaaDkEq
namespace Go.Proofs.Ytgmjdalfbebgbaa
open Go.ChangeShapes Go.WideShapes Go.ChangeAt Go.RowKit
set_option linter.unusedVariables false
set_option linter.unusedSimpArgs false
set_option maxRecDepth 100000

theorem blk_otherD {W : World} {b b' : Nat} {o : Obj} (e : W.heap[b]? = some o) (hne : b' ≠ b) (j : Nat) (z : Value) : (W.setCell ⟨b', j, none⟩ z).heap[b]? = some o := by simpa [World.setCell, Array.getElem?_modify, hne] using e
/-- A disk of the call's own: three rows. -/
structure DkTab (n m q : Nat) (w : World) (g1 g2 g3 : Nat) (d : Dk) : Prop where
  live : FTab (n * 2) 84 w g1 (flatG flC d.live)
  safe : FTab (m * 2) 84 w g2 (flatG flC d.safe)
  ops : FTab (q * 4) 40 w g3 (flatG dpC d.ops)
theorem DkTab.next {n m q g1 g2 g3 : Nat} {w w' : World} {d : Dk} (h : DkTab n m q w g1 g2 g3 d) (hb : Below w.heap.size w w') : DkTab n m q w' g1 g2 g3 d := ⟨h.live.next hb, h.safe.next hb, h.ops.next hb⟩
theorem DkTab.at_ {n m q g1 g2 g3 : Nat} {w : World} {d : Dk} (h : DkTab n m q w g1 g2 g3 d) (hn : n = d.live.length) (hm : m = d.safe.length) (hq : q = d.ops.length) : DkAt w.heap.size w (some ⟨g1, 0, none⟩) (some ⟨g2, 0, none⟩) (some ⟨g3, 0, none⟩) n m q d :=
  ⟨FTab.at_ (C := flC) h.live, FTab.at_ (C := flC) h.safe, FTab.at_ (C := dpC) h.ops, hn, hm, hq⟩
def FreshD (n m q : Nat) (W : World) (d : Dk) : Ending → World → Prop := fun e w' => ∃ g1 g2 g3, e = .returned (.agg #[.slice (some ⟨g1, 0, none⟩) n n, .slice (some ⟨g2, 0, none⟩) m m, .slice (some ⟨g3, 0, none⟩) q q]) ∧ DkTab n m q w' g1 g2 g3 d ∧ W.heap.size ≤ g1 ∧ g1 < g2 ∧ g2 < g3 ∧ Below W.heap.size W w'
set_option maxHeartbeats 4000000 in
theorem toDisk_c (d : Dk) (x y z : Option Addr) (n m q cx cy cz : Nat) (hn : n ≤ 1048576) (hm : m ≤ 1048576) (hq : q ≤ 1048576) (w : World) (h : DkAt w.heap.size w x y z n m q d) :
    Calls Try.prog 14 #[.agg #[.slice x n cx, .slice y m cy, .slice z q cz]] w (FreshD n m q w d) := by
  have Z0 := blk_alloc (blk_alloc (blk_new w (.cells #[.slice x n cx, .slice y m cy, .slice z q cz] 25)) (.cells #[.slice none 0 0, .slice none 0 0, .slice none 0 0] 31)) (.cells #[.slice none 0 0, .slice none 0 0, .slice none 0 0] 31)
  have Z1 := blk_alloc (blk_new (w.alloc (.cells #[.slice x n cx, .slice y m cy, .slice z q cz] 25)) (.cells #[.slice none 0 0, .slice none 0 0, .slice none 0 0] 31)) (.cells #[.slice none 0 0, .slice none 0 0, .slice none 0 0] 31)
  have Z2 := blk_new ((w.alloc (.cells #[.slice x n cx, .slice y m cy, .slice z q cz] 25)).alloc (.cells #[.slice none 0 0, .slice none 0 0, .slice none 0 0] 31)) (.cells #[.slice none 0 0, .slice none 0 0, .slice none 0 0] 31)
  simp only [World.size_alloc] at Z1 Z2
  have g3 : Below w.heap.size w (((w.alloc (.cells #[.slice x n cx, .slice y m cy, .slice z q cz] 25)).alloc (.cells #[.slice none 0 0, .slice none 0 0, .slice none 0 0] 31)).alloc (.cells #[.slice none 0 0, .slice none 0 0, .slice none 0 0] 31)) := by go_grown
  have HX : Hid (n = d.live.length ∧ m = d.safe.length ∧ q = d.ops.length) := Lib.hid ⟨h.hn, h.hm, h.hq⟩
  go_enter Try.func14, Try.ntmps14
  go_upto_region 2 with (fail)
  generalize ((w.alloc (.cells #[.slice x n cx, .slice y m cy, .slice z q cz] 25)).alloc (.cells #[.slice none 0 0, .slice none 0 0, .slice none 0 0] 31)).alloc (.cells #[.slice none 0 0, .slice none 0 0, .slice none 0 0] 31) = w3 at *
  have hs3 : w.heap.size + 1 + 1 < w3.heap.size := (Array.getElem?_eq_some_iff.1 Z2).1
  obtain ⟨a0, a1, a2⟩ := three_cellsD Z0
  have HH := Lib.hid h
  clear h
  have HT := Lib.hid (toFileS_c d.live n (Lib.hid HX.out.1) hn x cx w3 ((HH.out.live.below g3).mono g3.size))
  go_upto_region 3 with (go_at_call 45; (with_reducible refine HT.out.mono ?_); rintro e w4 ⟨b1, rfl, T1, hp1, hb4⟩; have X2 := blk_next hb4 Z2; obtain ⟨o0, o1, o2⟩ := three_cellsD X2; have f0 := blk_thaw X2 0)
  have g5 := below_setCell (grow_next g3 hb4) (b := w.heap.size + 1 + 1) (by omega) 0 (.slice (some ⟨b1, 0, none⟩) n n)
  have Y0 := blk_otherD (blk_next hb4 Z0) (b' := w.heap.size + 1 + 1) (by omega) 0 (.slice (some ⟨b1, 0, none⟩) n n)
  have Y1 := blk_otherD (blk_next hb4 Z1) (b' := w.heap.size + 1 + 1) (by omega) 0 (.slice (some ⟨b1, 0, none⟩) n n)
  have Y2 := heap_set X2 0 (.slice (some ⟨b1, 0, none⟩) n n)
  have U1 : FTab (n * 2) 84 (w4.setCell ⟨w.heap.size + 1 + 1, 0, none⟩ (.slice (some ⟨b1, 0, none⟩) n n)) b1 (flatG flC d.live) := T1.keep (by simp [World.setCell, Array.getElem?_modify, show ¬ w.heap.size + 1 + 1 = b1 by omega])
  have hs5 : w.heap.size + 1 + 1 < (w4.setCell ⟨w.heap.size + 1 + 1, 0, none⟩ (.slice (some ⟨b1, 0, none⟩) n n)).heap.size := (Array.getElem?_eq_some_iff.1 Y2).1
  generalize w4.setCell ⟨w.heap.size + 1 + 1, 0, none⟩ (.slice (some ⟨b1, 0, none⟩) n n) = w5 at *
  clear HT X2 o0 o1 o2 f0 a0 a1 a2 Z0 Z1 Z2 T1
  obtain ⟨a0, a1, a2⟩ := three_cellsD Y0
  have HT := Lib.hid (toFileS_c d.safe m (Lib.hid HX.out.2.1) hm y cy w5 ((HH.out.safe.below g5).mono g5.size))
  go_upto_region 4 with (go_at_call 45; (with_reducible refine HT.out.mono ?_); rintro e w6 ⟨b2, rfl, T2, hp2, hb6⟩; have X2 := blk_next hb6 Y2; obtain ⟨o0, o1, o2⟩ := three_cellsD X2; have f0 := blk_thaw X2 1)
  have hlt1 := U1.lt
  have g7 := below_setCell (grow_next g5 hb6) (b := w.heap.size + 1 + 1) (by omega) 1 (.slice (some ⟨b2, 0, none⟩) m m)
  have Z0 := blk_otherD (blk_next hb6 Y0) (b' := w.heap.size + 1 + 1) (by omega) 1 (.slice (some ⟨b2, 0, none⟩) m m)
  have Z1 := blk_otherD (blk_next hb6 Y1) (b' := w.heap.size + 1 + 1) (by omega) 1 (.slice (some ⟨b2, 0, none⟩) m m)
  have Z2 := heap_set X2 1 (.slice (some ⟨b2, 0, none⟩) m m)
  have V1 : FTab (n * 2) 84 (w6.setCell ⟨w.heap.size + 1 + 1, 1, none⟩ (.slice (some ⟨b2, 0, none⟩) m m)) b1 (flatG flC d.live) := (U1.next hb6).keep (by simp [World.setCell, Array.getElem?_modify, show ¬ w.heap.size + 1 + 1 = b1 by omega])
  have V2 : FTab (m * 2) 84 (w6.setCell ⟨w.heap.size + 1 + 1, 1, none⟩ (.slice (some ⟨b2, 0, none⟩) m m)) b2 (flatG flC d.safe) := T2.keep (by simp [World.setCell, Array.getElem?_modify, show ¬ w.heap.size + 1 + 1 = b2 by omega])
  have hs7 : w.heap.size + 1 + 1 < (w6.setCell ⟨w.heap.size + 1 + 1, 1, none⟩ (.slice (some ⟨b2, 0, none⟩) m m)).heap.size := (Array.getElem?_eq_some_iff.1 Z2).1
  generalize w6.setCell ⟨w.heap.size + 1 + 1, 1, none⟩ (.slice (some ⟨b2, 0, none⟩) m m) = w7 at *
  clear HT X2 o0 o1 o2 f0 a0 a1 a2 Y0 Y1 Y2 T2 U1
  obtain ⟨a0, a1, a2⟩ := three_cellsD Z0
  have hlt2 := V2.lt
  have HT := Lib.hid (toDOpS_c d.ops q (Lib.hid HX.out.2.2) hq z cz w7 ((HH.out.ops.below g7).mono g7.size))
  go_upto_region 5 with (go_at_call 46; (with_reducible refine HT.out.mono ?_); rintro e w8 ⟨b3, rfl, T3, hp3, hb8⟩; have X2 := blk_next hb8 Z2; obtain ⟨o0, o1, o2⟩ := three_cellsD X2; have f0 := blk_thaw X2 2)
  have g9 := below_setCell (grow_next g7 hb8) (b := w.heap.size + 1 + 1) (by omega) 2 (.slice (some ⟨b3, 0, none⟩) q q)
  have Y1 := blk_otherD (blk_next hb8 Z1) (b' := w.heap.size + 1 + 1) (by omega) 2 (.slice (some ⟨b3, 0, none⟩) q q)
  have Y2 := heap_set X2 2 (.slice (some ⟨b3, 0, none⟩) q q)
  have U1 : FTab (n * 2) 84 (w8.setCell ⟨w.heap.size + 1 + 1, 2, none⟩ (.slice (some ⟨b3, 0, none⟩) q q)) b1 (flatG flC d.live) := (V1.next hb8).keep (by simp [World.setCell, Array.getElem?_modify, show ¬ w.heap.size + 1 + 1 = b1 by omega])
  have U2 : FTab (m * 2) 84 (w8.setCell ⟨w.heap.size + 1 + 1, 2, none⟩ (.slice (some ⟨b3, 0, none⟩) q q)) b2 (flatG flC d.safe) := (V2.next hb8).keep (by simp [World.setCell, Array.getElem?_modify, show ¬ w.heap.size + 1 + 1 = b2 by omega])
  have U3 : FTab (q * 4) 40 (w8.setCell ⟨w.heap.size + 1 + 1, 2, none⟩ (.slice (some ⟨b3, 0, none⟩) q q)) b3 (flatG dpC d.ops) := T3.keep (by simp [World.setCell, Array.getElem?_modify, show ¬ w.heap.size + 1 + 1 = b3 by omega])
  generalize w8.setCell ⟨w.heap.size + 1 + 1, 2, none⟩ (.slice (some ⟨b3, 0, none⟩) q q) = w9 at *
  clear HT X2 o0 o1 o2 f0 a0 a1 a2 Z0 Z1 Z2 T3 V1 V2
  simp only [List.setIfInBounds_toArray, List.set_cons_zero, List.set_cons_succ] at Y2
  obtain ⟨o0, o1, o2⟩ := three_cellsD Y2
  obtain ⟨r0, r1, r2⟩ := three_cellsD Y1
  have f0 := blk_thaw Y1 0
  have f1 := blk_thaw Y1 1
  have f2 := blk_thaw Y1 2
  go_wp2_with fail
  try simp only [Exit.inBlock, Exit.then]
  have R : (((w9.setCell ⟨w.heap.size + 1, 0, none⟩ (.slice (some ⟨b1, 0, none⟩) n n)).setCell ⟨w.heap.size + 1, 1, none⟩ (.slice (some ⟨b2, 0, none⟩) m m)).setCell ⟨w.heap.size + 1, 2, none⟩ (.slice (some ⟨b3, 0, none⟩) q q)).heap[w.heap.size + 1]? = some (.cells #[.slice (some ⟨b1, 0, none⟩) n n, .slice (some ⟨b2, 0, none⟩) m m, .slice (some ⟨b3, 0, none⟩) q q] 31) := heap_set (heap_set (heap_set Y1 0 _) 1 _) 2 _
  obtain ⟨q0, q1, q2⟩ := three_cellsD R
  have G := below_setCell (below_setCell (below_setCell g9 (b := w.heap.size + 1) (by omega) 0 (.slice (some ⟨b1, 0, none⟩) n n)) (b := w.heap.size + 1) (by omega) 1 (.slice (some ⟨b2, 0, none⟩) m m)) (b := w.heap.size + 1) (by omega) 2 (.slice (some ⟨b3, 0, none⟩) q q)
  refine bodyPost_ret (by simp [results, Try.results14, go_sem, q0, q1, q2]; try rfl) rfl ?_
  exact ⟨b1, b2, b3, rfl, ⟨U1.keep (by simp [World.setCell, Array.getElem?_modify, show ¬ w.heap.size + 1 = b1 by omega]), U2.keep (by simp [World.setCell, Array.getElem?_modify, show ¬ w.heap.size + 1 = b2 by omega]), U3.keep (by simp [World.setCell, Array.getElem?_modify, show ¬ w.heap.size + 1 = b3 by omega])⟩, by omega, by omega, by omega, G⟩
set_option maxHeartbeats 2000000 in
theorem eqDisk_c (d : Dk) (x y z x' y' z' : Option Addr) (n m q cx cy cz cx' cy' cz' : Nat) (hn : n ≤ maxLen) (hm : m ≤ maxLen) (hq : q ≤ maxLen) (w : World) (h : DkAt w.heap.size w x y z n m q d) (h' : DkAt w.heap.size w x' y' z' n m q d) :
    Calls Try.prog 16 #[.agg #[.slice x n cx, .slice y m cy, .slice z q cz], .agg #[.slice x' n cx', .slice y' m cy', .slice z' q cz']] w fun e w' => e = .returned (.bool true) ∧ Below w.heap.size w w' := by
  have Z0 := blk_alloc (blk_new w (.cells #[.slice x n cx, .slice y m cy, .slice z q cz] 31)) (.cells #[.slice x' n cx', .slice y' m cy', .slice z' q cz'] 31)
  have Z1 := blk_new (w.alloc (.cells #[.slice x n cx, .slice y m cy, .slice z q cz] 31)) (.cells #[.slice x' n cx', .slice y' m cy', .slice z' q cz'] 31)
  simp only [World.size_alloc] at Z1
  have g2 : Below w.heap.size w ((w.alloc (.cells #[.slice x n cx, .slice y m cy, .slice z q cz] 31)).alloc (.cells #[.slice x' n cx', .slice y' m cy', .slice z' q cz'] 31)) := by go_grown
  go_enter Try.func16, Try.ntmps16
  go_upto_region 1 with fail
  generalize (w.alloc (.cells #[.slice x n cx, .slice y m cy, .slice z q cz] 31)).alloc (.cells #[.slice x' n cx', .slice y' m cy', .slice z' q cz'] 31) = W at *
  have HX : Hid (n = d.live.length ∧ m = d.safe.length ∧ q = d.ops.length) := Lib.hid ⟨h.hn, h.hm, h.hq⟩
  have D := h.next g2
  have D' := h'.next g2
  obtain ⟨a0, a1, a2⟩ := three_cellsD Z0
  obtain ⟨b0, b1, b2⟩ := three_cellsD Z1
  have HE := Lib.hid (eqFileS_c d.live n (Lib.hid HX.out.1) hn x x' cx cx' W D.live D'.live)
  go_upto_region 3 with (go_at_call 54; (with_reducible refine HE.out.mono ?_); rintro e w2 ⟨rfl, hb2⟩)
  have D2 := D.next hb2
  have D2' := D'.next hb2
  have X0 := blk_next hb2 Z0
  have X1 := blk_next hb2 Z1
  have g3 := grow_next g2 hb2
  clear a0 a1 a2 b0 b1 b2 HE Z0 Z1
  obtain ⟨a0, a1, a2⟩ := three_cellsD X0
  obtain ⟨b0, b1, b2⟩ := three_cellsD X1
  have HE := Lib.hid (eqFileS_c d.safe m (Lib.hid HX.out.2.1) hm y y' cy cy' w2 D2.safe D2'.safe)
  go_upto_region 5 with (go_at_call 54; (with_reducible refine HE.out.mono ?_); rintro e w3 ⟨rfl, hb3⟩)
  have D3 := D2.next hb3
  have D3' := D2'.next hb3
  have Y0 := blk_next hb3 X0
  have Y1 := blk_next hb3 X1
  have g4 := grow_next g3 hb3
  clear a0 a1 a2 b0 b1 b2 HE X0 X1
  obtain ⟨a0, a1, a2⟩ := three_cellsD Y0
  obtain ⟨b0, b1, b2⟩ := three_cellsD Y1
  have HE := Lib.hid (eqDOpS_c d.ops q (Lib.hid HX.out.2.2) hq z z' cz cz' w3 D3.ops D3'.ops)
  go_wp2_with (go_at_call 55; (with_reducible refine HE.out.mono ?_); rintro e w4 ⟨rfl, hb4⟩)
  go_returns
  exact ⟨rfl, grow_next g4 hb4⟩
end Go.Proofs.Ytgmjdalfbebgbaa
