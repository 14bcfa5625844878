/- Limiters of the call's own: marked, looked at again; what lies while two answers are held against each other. -/
import Derived.Test.YtckonbbdeohccaaCameI
namespace Go.Proofs.Ytckonbbdeohccaa
open Go.ChangeShapes Go.WideShapes Go.ChangeAt Go.RowKit Go.Maps
set_option linter.unusedVariables false
set_option linter.unusedSimpArgs false
set_option maxRecDepth 100000

theorem marked_below {base : Nat} {w W0 w' : World} {x : Option Addr} (hb : Below w.heap.size w W0) (h : W0.grownBy w' (x.map (·.block))) : w.grownBy w' (x.map (·.block)) :=
  (grownC hb : w.grownBy W0 none) |> fun g => ⟨h.os.trans g.os, h.tape.trans g.tape, h.output.trans g.output, Nat.le_trans g.size h.size, fun k hk hne => (h.block k (Nat.lt_of_lt_of_le hk g.size) hne).trans (g.block k hk (by simp))⟩
set_option maxHeartbeats 1000000 in
theorem markLimiter_c (l : List Cl) (n : Nat) (hn : Hid (n = l.length)) (hm : n ≤ 1048576) (k0 : Int) (h0 : 0 ≤ k0) (h1 : k0 ≤ 1048576) (base : Nat) (x : Option Addr) (cap : Nat) (w : World) (h : ClRow base w x cap l) :
    Calls Try.prog 16 #[.agg #[.slice x n cap], .int .i64 k0] w (MarkedC base w x cap n k0) := by
  have Q0 := blk_new w (.cells #[.slice x n cap] 28)
  have B0 : Below w.heap.size w (w.alloc (.cells #[.slice x n cap] 28)) := below_new _ _
  have HM := Lib.hid (markClientS_c l n hn hm k0 h0 h1 base x cap _ (h.next B0))
  obtain ⟨c0, _⟩ := one_cell Q0
  go_enter Try.func16, Try.ntmps16
  go_wp2_with fail
  refine HM.out.mono ?_
  rintro e w1 ⟨rfl, hr, hg⟩
  go_wp2_with fail
  go_returns
  exact ⟨rfl, hr, marked_below (base := base) B0 hg⟩
set_option maxHeartbeats 1000000 in
theorem heldLimiter_c (n : Nat) (hm : n ≤ 1048576) (k0 : Int) (h0 : 0 ≤ k0) (h1 : k0 ≤ 1048576) (base : Nat) (x : Option Addr) (cap : Nat) (w : World) (h : ClRow base w x cap (mkCs k0 n)) :
    Calls Try.prog 17 #[.agg #[.slice x n cap], .int .i64 k0] w fun e w' => e = .returned (.int .i64 (k0 + 3 * n)) ∧ Below w.heap.size w w' := by
  have Q0 := blk_new w (.cells #[.slice x n cap] 28)
  have B0 : Below w.heap.size w (w.alloc (.cells #[.slice x n cap] 28)) := below_new _ _
  have HM := Lib.hid (heldClientS_c n hm k0 h0 h1 base x cap _ (h.next B0))
  obtain ⟨q, hq⟩ : ∃ q, k0 + 3 * (n : Int) = q := ⟨_, rfl⟩
  have hq0 : decide (q < 0) = false := decide_eq_false (by omega)
  have hq1 : ¬ q < 0 := by omega
  rw [hq] at HM ⊢
  obtain ⟨c0, _⟩ := one_cell Q0
  clear hq
  go_enter Try.func17, Try.ntmps17
  go_wp2_with fail
  refine HM.out.mono ?_
  rintro e w1 ⟨rfl, rfl⟩
  go_wp2_with fail
  go_returns
  exact ⟨rfl, B0⟩
/-- The block that a row lies in. -/
theorem ClRow.ne_box {base : Nat} {W : World} {g cap p : Nat} {l : List Cl} {v : Value} (h : ClRow base W (some ⟨g, 0, none⟩) cap l) (hp : W.heap[p]? = some (.cells #[v] 28)) : g ≠ p := fun e => by
  subst e
  rcases h.2 with ⟨e, _⟩ | ⟨g', c, cur, e, _, hg, _⟩
  · simp at e
  · simp only [Value.slice.injEq, Option.some.injEq, Addr.mk.injEq] at e
    rw [← e.1.1, hp] at hg
    have ht : (28 : Nat) = 52 := by
      simp only [Option.some.injEq, Obj.cells.injEq] at hg
      exact hg.2.1
    exact absurd ht (by decide)
/-- What lies while two answers are held against each other: the argument, the reference's answer, the copy that was handed in, the program's answer. -/
structure LC (W w : World) (x : Option Addr) (n cap : Nat) (l : List Cl) (p8 p11 p12 : Nat) (y : Option Addr) (cy : Nat) (g : Nat) (z : Option Addr) (cz : Nat) (A X Z : List Cl) : Prop where
  low : Below W.heap.size W w
  box3 : w.heap[W.heap.size]? = some (.cells #[.slice x n cap] 24)
  box8 : w.heap[p8]? = some (.cells #[.slice y A.length cy] 28)
  box11 : w.heap[p11]? = some (.cells #[.slice (some ⟨g, 0, none⟩) n n] 28)
  box12 : w.heap[p12]? = some (.cells #[.slice z A.length cz] 28)
  p8w : W.heap.size < p8
  p11w : W.heap.size < p11
  p12w : W.heap.size < p12
  rowY : ClRow 0 w y cy A
  rowX : ClRow 0 w (some ⟨g, 0, none⟩) n X
  rowZ : ClRow 0 w z cz Z
  gw : W.heap.size < g
  zw : ∀ k, z.map (·.block) = some k → W.heap.size < k
  yg : ∀ k, y = some ⟨k, 0, none⟩ → k ≠ g
  zg : ∀ k, z = some ⟨k, 0, none⟩ → k ≠ g
  yz : ∀ k, y = some ⟨k, 0, none⟩ → z.map (·.block) ≠ some k
section
variable {W w w' : World} {x : Option Addr} {n cap : Nat} {l : List Cl} {p8 p11 p12 : Nat} {y : Option Addr} {cy g : Nat} {z : Option Addr} {cz : Nat} {A X Z X' Z' : List Cl}
theorem LC.next (h : LC W w x n cap l p8 p11 p12 y cy g z cz A X Z) (hb : Below w.heap.size w w') : LC W w' x n cap l p8 p11 p12 y cy g z cz A X Z :=
  { h with low := grow_next h.low hb, box3 := blk_next hb h.box3, box8 := blk_next hb h.box8, box11 := blk_next hb h.box11, box12 := blk_next hb h.box12, rowY := h.rowY.next hb, rowX := h.rowX.next hb, rowZ := h.rowZ.next hb }
theorem box_keep {p : Nat} {o : Obj} {row : Option Nat} (h : w.heap[p]? = some o) (hg : w.grownBy w' row) (hne : some p ≠ row) : w'.heap[p]? = some o := (hg.block p (Array.getElem?_eq_some_iff.1 h).1 hne).trans h
theorem LC.markX (h : LC W w x n cap l p8 p11 p12 y cy g z cz A X Z) (hr : ClRow 0 w' (some ⟨g, 0, none⟩) n X') (hg : w.grownBy w' (some g)) : LC W w' x n cap l p8 p11 p12 y cy g z cz A X' Z :=
  { h with
    low := h.low.grown hg h.low.size (fun j hj => by cases hj; exact Nat.le_of_lt h.gw)
    box3 := box_keep h.box3 hg (fun e => by have := h.gw; simp only [Option.some.injEq] at e; omega)
    box8 := box_keep h.box8 hg (fun e => h.rowX.ne_box h.box8 (by simpa using e.symm))
    box11 := box_keep h.box11 hg (fun e => h.rowX.ne_box h.box11 (by simpa using e.symm))
    box12 := box_keep h.box12 hg (fun e => h.rowX.ne_box h.box12 (by simpa using e.symm))
    rowY := h.rowY.keep hg (fun k e e2 => h.yg k e (by simpa using e2.symm))
    rowX := hr
    rowZ := h.rowZ.keep hg (fun k e e2 => h.zg k e (by simpa using e2.symm)) }
theorem LC.markZ (h : LC W w x n cap l p8 p11 p12 y cy g z cz A X Z) (hr : ClRow 0 w' z cz Z') (hg : w.grownBy w' (z.map (·.block))) : LC W w' x n cap l p8 p11 p12 y cy g z cz A X Z' := by
  have key : ∀ p v, w.heap[p]? = some (.cells #[v] 28) → some p ≠ z.map (·.block) := fun p v hp e => by
    have hz := h.rowZ.own e.symm
    have hr := h.rowZ
    rw [hz] at hr
    exact hr.ne_box hp rfl
  exact { h with
    low := h.low.grown hg h.low.size (fun j hj => Nat.le_of_lt (h.zw j hj))
    box3 := box_keep h.box3 hg (fun e => by have := h.zw _ e.symm; omega)
    box8 := box_keep h.box8 hg (key _ _ h.box8)
    box11 := box_keep h.box11 hg (key _ _ h.box11)
    box12 := box_keep h.box12 hg (key _ _ h.box12)
    rowY := h.rowY.keep hg (fun k e e2 => h.yz k e e2)
    rowX := h.rowX.keep hg (fun k e e2 => by
      simp only [Option.some.injEq, Addr.mk.injEq] at e
      have := h.rowZ.own e2
      exact h.zg k this e.1.symm)
    rowZ := hr }
end
end Go.Proofs.Ytckonbbdeohccaa
