/- One leap more put into the sorted list. -/
import Derived.Test.YtlgmdicpmifcmaaLList
namespace Go.Proofs.Ytlgmdicpmifcmaa
open Go.ChangeShapes Go.WideShapes Go.ChangeAt Go.RowKit
set_option linter.unusedVariables false
set_option linter.unusedSimpArgs false

/-- What putting leaves: one more at its place; nothing below base has turned. -/
def PutLp (base p : Nat) (W : World) (x : Option Addr) (n cap : Nat) (e : Lp) (E : List Lp) : Ending → World → Prop := fun r w' =>
  ∃ (k : Nat) (y : Option Addr) (c : Nat), r = .returned (.tuple #[]) ∧ PlaceOf e E k ∧ ListAt w' p y (n + 1) c ∧ w'.ownsRow base 30 2 (.slice y (n + 1) c) (n + 1) (flatLp (E.take k ++ e :: E.drop k)) ∧ Below base W w' ∧ ∀ j, j < W.heap.size → j ≠ p → some j ≠ (Value.slice x E.length cap).ownBlock → w'.heap[j]? = W.heap[j]?

theorem put_endL (base p k : Nat) (e : Lp) (E : List Lp) (n : Nat) (hn : Hid (n = E.length)) (hbp : base ≤ p) (W wn : World) (x y : Option Addr) (cap c : Nat) (hP : PlaceOf e E k)
    (hown : wn.ownsRow base 30 2 (.slice y (n + 1) c) (n + 1) (flatLp (E.take k ++ e :: E.drop k))) (hL : ListAt wn p x n cap) (hB : Below base W wn)
    (hK : ∀ j, j < W.heap.size → some j ≠ (Value.slice x E.length cap).ownBlock → wn.heap[j]? = W.heap[j]?) :
    PutLp base p W x n cap e E (.returned (.tuple #[])) (wn.setCell ⟨p, 1, none⟩ (.slice y (n + 1) c)) := by
  refine ⟨k, y, c, rfl, hP, hL.put y _ c, ?_, hB.setCell hbp _, fun j hj hp ho => (by
    rw [← hK j hj ho]
    simp [World.setCell, Array.getElem?_modify, Ne.symm hp])⟩
  refine ⟨hown.1, ?_⟩
  rcases hown.2 with h | ⟨g, c', cur, h, hb, hg, r⟩
  · exact .inl h
  · refine .inr ⟨g, c', cur, h, hb, ?_, r⟩
    have hne : p ≠ g := fun e => by
      subst e
      have := hg.symm.trans hL
      simp at this
    simp [World.setCell, Array.getElem?_modify, hne, hg]

theorem put_fin (base p k : Nat) (e : Lp) (E : List Lp) (n : Nat) (hn : Hid (n = E.length)) (hbp : base ≤ p) (W W1 wp X wn : World) (hpw : p < W.heap.size) (x y : Option Addr) (cap c : Nat) (hP : PlaceOf e E k)
    (hown : wn.ownsRow base 30 2 (.slice y (n + 1) c) (n + 1) (flatLp (E.take k ++ e :: E.drop k))) (hL : ListAt wn p x n cap) (B1 : Below W.heap.size W W1) (G : Below W1.heap.size W1 wp) (GX : Below wp.heap.size wp X) (hbn : Below base X wn)
    (hkn : ∀ j, j < X.heap.size → some j ≠ (Value.slice x E.length cap).ownBlock → wn.heap[j]? = X.heap[j]?) :
    PutLp base p W x n cap e E (.returned (.tuple #[])) (wn.setCell ⟨p, 1, none⟩ (.slice y (n + 1) c)) := by
  have GG := grow_next (grow_next B1 G) GX
  refine put_endL base p k e E n hn hbp W wn x y cap c hP hown hL ((GG.mono (by omega)).trans hbn) (fun j hj ho => ?_)
  rw [hkn j (by have := GG.size; omega) ho]
  exact GG.block j hj

set_option maxHeartbeats 4000000 in
theorem put_lp (base p : Nat) (e : Lp) (E : List Lp) (n : Nat) (hn : Hid (n = E.length)) (hsm : n ≤ 100000) (x : Option Addr) (cap : Nat) (W : World) (hb : base ≤ p) (hL : ListAt W p x n cap) (hE : LpRow base W x cap E) :
    Calls Try.prog 42 #[.pointer (some ⟨p, 0, none⟩), .agg #[.int .i64 e.at_, .int .i64 e.add]] W (PutLp base p W x n cap e E) := by
  have hpw : p < W.heap.size := (Array.getElem?_eq_some_iff.1 hL).1
  have I1 := blk_new W (.cells #[.int .i64 e.at_, .int .i64 e.add] 30)
  have B1 := below_new W (.cells #[.int .i64 e.at_, .int .i64 e.add] 30)
  have L1 : ListAt (W.alloc (.cells #[.int .i64 e.at_, .int .i64 e.add] 30)) p x n cap := hL.next B1
  have E1 : LpRow base (W.alloc (.cells #[.int .i64 e.at_, .int .i64 e.add] 30)) x cap E := hE.next B1
  have hlt0 := hE.lt
  have hs1 : (W.alloc (.cells #[.int .i64 e.at_, .int .i64 e.add] 30)).heap.size = W.heap.size + 1 := by simp
  go_enter Try.func42, Try.ntmps42
  go_wp2_with fail
  obtain ⟨W1, hW1⟩ : ∃ W1, W.alloc (.cells #[.int .i64 e.at_, .int .i64 e.add] 30) = W1 := ⟨_, rfl⟩
  rw [hW1] at I1 B1 L1 E1 hs1 ⊢
  obtain ⟨q0, hq0⟩ : ∃ q0, q0 = W.heap.size := ⟨_, rfl⟩
  rw [← hq0] at I1 hs1 ⊢
  have hK1 : ∀ j, j < W.heap.size → W1.heap[j]? = W.heap[j]? := fun j hj => B1.block j hj
  have hpq : p < q0 := by omega
  have HQ := Lib.hid hq0
  clear hW1 hq0
  obtain ⟨m0, m1⟩ := L1.cells
  have f1 := L1.thaw
  obtain ⟨i0, i1⟩ := lp_cells I1
  have hp1 : p < W1.heap.size := by omega
  have hq1 : q0 < W1.heap.size := by omega
  have HS1 := Lib.hid hs1
  clear hs1
  have L1d : ListAt (W1.alloc (.cells #[.int .i64 e.at_, .int .i64 e.add] 30)).drew p x n cap := L1.next (below_newd W1 _)
  have E1d : LpRow base (W1.alloc (.cells #[.int .i64 e.at_, .int .i64 e.add] 30)).drew x cap E := E1.next (below_newd W1 _)
  go_region_with
    (first
      | (go_at_call 31; refine (placeOf_lp base p e E n hn hsm x cap _ ?_ ?_).mono ?_; (first | exact L1 | exact L1d); (first | exact E1 | exact E1d); rintro r wp ⟨k, rfl, hP, hbp⟩; have G : Below W1.heap.size W1 wp := (by first | exact below_drewL hbp | exact grow_next (below_newd W1 _) hbp); have L3 := L1.next G; have E3 := E1.next G; have I3 := blk_next G I1; obtain ⟨m03, m13⟩ := L3.cells; have B3 := lp_cells I3; have B4 := lp_cells (blk_alloc I3 (.cells #[.int .i64 e.at_, .int .i64 e.add] 30)); have hp3 : p < wp.heap.size := Nat.lt_of_lt_of_le hp1 G.size; try (have J3 := blk_next hbp (blk_newd W1 (.cells #[.int .i64 e.at_, .int .i64 e.add] 30))))
      | (go_at_call 45; refine (insert_lp base p x cap n k _ _ (Lib.hid rfl) e E _ hn hb ?_ ?_ hsm (by rw [hn.out]; exact hP.1) ?_ ?_).mono ?_; (first | exact L3 | exact L3.next (below_new _ _)); (first | exact E3 | exact E3.next (below_new _ _)); (first | exact blk_new _ _ | exact J3); (intro g hg; have := hlt0 g hg; have := HQ.out; have := HS1.out; have := G.size; omega); rintro r wn ⟨yy, cc, rfl, hown', hLn, hbn, hkn⟩; obtain ⟨m0n, m1n⟩ := hLn.cells; have n2 := hLn.thaw; have B5 := lp_cells ((hkn q0 (by first | (have := G.size; omega) | (simp; have := G.size; omega)) (fun h => by have := (hlt0 q0 h.symm).2; have := HQ.out; omega)).trans (by first | exact I3 | exact blk_alloc I3 _))))
  all_goals
    go_returns
    first
      | exact put_fin base p k e E n hn hb W W1 wp _ wn hpw x yy cap cc hP hown' hLn B1 G (Below.refl _ _) hbn hkn
      | exact put_fin base p k e E n hn hb W W1 wp _ wn hpw x yy cap cc hP hown' hLn B1 G (below_new wp _) hbn hkn
      | exact put_fin base p k e E n hn hb W W1 wp _ wn hpw x yy cap cc hP hown' hLn B1 G (below_newd wp _) hbn hkn
end Go.Proofs.Ytlgmdicpmifcmaa
