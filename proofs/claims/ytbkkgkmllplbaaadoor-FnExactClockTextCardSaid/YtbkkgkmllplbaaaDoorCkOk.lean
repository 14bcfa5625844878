/- The program's small words on clocks, and ClockOk: the program's way and the reference's. -/
import Derived.Test.YtbkkgkmllplbaaaDoorCk
namespace Go.Proofs.YtbkkgkmllplbaaaDoor
open Go.ChangeShapes Go.WideShapes Go.ChangeAt Go.RowKit
set_option linter.unusedVariables false
set_option linter.unusedSimpArgs false

theorem ret_num {a b : Int} (h : a = b) : Ending.returned (.int .i64 a) = Ending.returned (.int .i64 b) := by rw [h]

theorem isUnder_c (n b : Int) (h0 : 0 ≤ b) (h1 : b ≤ 4611686018427387904) (w : World) :
    Calls Tryd.prog 34 #[.int .i64 n, .int .i64 b] w fun e w' => e = .returned (.bool (unB n b)) ∧ w = w' := by
  by_cases c0 : -b < n
  · by_cases c1 : n < b
    · rw [unB_iff.2 ⟨c0, c1⟩]
      go_enter Tryd.func34, Tryd.ntmps34
      go_wp2
      go_returns
      exact ⟨rfl, rfl⟩
    · rw [unB_no (by omega)]
      go_enter Tryd.func34, Tryd.ntmps34
      go_wp2
      go_returns
      exact ⟨rfl, rfl⟩
  · rw [unB_no (by omega)]
    go_enter Tryd.func34, Tryd.ntmps34
    go_wp2
    go_returns
    exact ⟨rfl, rfl⟩

theorem l7Clamp_c (n m : Int) (h0 : 0 ≤ m) (h1 : m ≤ 4611686018427387904) (w : World) :
    Calls Tryd.prog 61 #[.int .i64 n, .int .i64 m] w fun e w' => e = .returned (.int .i64 (clampV n m)) ∧ w = w' := by
  go_enter Tryd.func61, Tryd.ntmps61
  go_wp2
  all_goals
    go_returns
    exact ⟨ret_num (by unfold clampV; omega), rfl⟩

theorem l1Abs_c (n : Int) (h0 : -4611686018427387904 ≤ n) (h1 : n ≤ 4611686018427387904) (w : World) :
    Calls Tryd.prog 60 #[.int .i64 n] w fun e w' => e = .returned (.int .i64 (max n (-n))) ∧ w = w' := by
  go_enter Tryd.func60, Tryd.ntmps60
  go_wp2
  all_goals
    go_returns
    exact ⟨ret_num (by omega), rfl⟩

theorem clockOk_impl (c : Ck) (w : World) :
    Calls Tryd.prog 19 #[.agg #[.int .i64 c.st, .int .i64 c.off, .int .i64 c.fr, .int .i64 c.poll, .int .i64 c.calm]] w fun e w' => e = .returned (.bool c.ok) ∧ Below w.heap.size w w' := by
  go_enter Tryd.func19, Tryd.ntmps19
  go_wp2_with (first | (go_at_call 33; refine (within_c _ _ _ _).mono ?_; rintro e w1 ⟨rfl, rfl⟩) | (go_at_call 34; refine (isUnder_c _ _ (by omega) (by omega) _).mono ?_; rintro e w1 ⟨rfl, rfl⟩))
  all_goals (go_returns; exact ⟨by simp [Ck.ok, ← unB_step, *], by go_grown⟩)

theorem clockOk_spec (c : Ck) (w : World) :
    Calls Tryd.prog 20 #[.agg #[.int .i64 c.st, .int .i64 c.off, .int .i64 c.fr, .int .i64 c.poll, .int .i64 c.calm]] w fun e w' => e = .returned (.bool c.ok) ∧ Below w.heap.size w w' := by
  go_enter Tryd.func20, Tryd.ntmps20
  go_wp2_with (go_at_call 35; refine (l1In_c _ _ _ _).mono ?_; rintro e w1 ⟨rfl, rfl⟩)
  all_goals (go_returns; exact ⟨by simp [Ck.ok, *], by go_grown⟩)


theorem list5 {α : Type} (l : List α) (h : l.length = 5) : ∃ a b c d e, l = [a, b, c, d, e] :=
  match l, h with
  | [a, b, c, d, e], _ => ⟨a, b, c, d, e, rfl⟩

set_option maxRecDepth 100000 in
theorem open_clock {H : Type} {enc : TypeId × Value → H} {w : World} {base : Nat} {spare : Nat → Bool} {held : Bool} {r : Reach} {b0 : Nat} {v : Value} {d : DataW H} {q : List MemPlace}
    (hv : Value.okWide Tryd.prog w r b0 23 v) (h : DataW.Trod enc Tryd.prog w base spare held 23 v d q) : ∃ p : Ck, v = .agg #[.int .i64 p.st, .int .i64 p.off, .int .i64 p.fr, .int .i64 p.poll, .int .i64 p.calm] := by
  obtain ⟨ns, rfl, hl, _⟩ := open_flat Tryd.underlying23 (by kernel_rfl) (by kernel_rfl) hv h
  obtain ⟨a, b, c, d, e, rfl⟩ := list5 ns hl
  exact ⟨⟨a, b, c, d, e⟩, rfl⟩

theorem toClock_c (p : Ck) (w : World) :
    Calls Tryd.prog 8 #[.agg #[.int .i64 p.st, .int .i64 p.off, .int .i64 p.fr, .int .i64 p.poll, .int .i64 p.calm]] w fun e w' => e = .returned (.agg #[.int .i64 p.st, .int .i64 p.off, .int .i64 p.fr, .int .i64 p.poll, .int .i64 p.calm]) ∧ Below w.heap.size w w' := by
  go_enter Tryd.func8, Tryd.ntmps8
  go_wp2
  go_returns
  exact ⟨rfl, by go_grown⟩

theorem eqClock_same (p : Ck) (w : World) :
    Calls Tryd.prog 15 #[.agg #[.int .i64 p.st, .int .i64 p.off, .int .i64 p.fr, .int .i64 p.poll, .int .i64 p.calm], .agg #[.int .i64 p.st, .int .i64 p.off, .int .i64 p.fr, .int .i64 p.poll, .int .i64 p.calm]] w fun e w' => e = .returned (.bool true) ∧ Below w.heap.size w w' := by
  go_enter Tryd.func15, Tryd.ntmps15
  go_wp2
  go_returns
  exact ⟨rfl, by go_grown⟩

theorem ck_cells {W : World} {b : Nat} {T : TypeId} {q : Ck} (h : W.heap[b]? = some (.cells #[.int .i64 q.st, .int .i64 q.off, .int .i64 q.fr, .int .i64 q.poll, .int .i64 q.calm] T)) : W.cell? ⟨b, 0, none⟩ = some (.int .i64 q.st) ∧ W.cell? ⟨b, 1, none⟩ = some (.int .i64 q.off) ∧ W.cell? ⟨b, 2, none⟩ = some (.int .i64 q.fr) ∧ W.cell? ⟨b, 3, none⟩ = some (.int .i64 q.poll) ∧ W.cell? ⟨b, 4, none⟩ = some (.int .i64 q.calm) := by
  simp [World.cell?, h]
theorem ck_thaw {W : World} {b : Nat} {T : TypeId} {q : Ck} (h : W.heap[b]? = some (.cells #[.int .i64 q.st, .int .i64 q.off, .int .i64 q.fr, .int .i64 q.poll, .int .i64 q.calm] T)) : W.frozen? ⟨b, 0, none⟩ = false ∧ W.frozen? ⟨b, 1, none⟩ = false ∧ W.frozen? ⟨b, 2, none⟩ = false ∧ W.frozen? ⟨b, 3, none⟩ = false ∧ W.frozen? ⟨b, 4, none⟩ = false := by
  refine ⟨?_, ?_, ?_, ?_, ?_⟩ <;> simp [World.frozen?, h]
theorem ck_put {W : World} {b : Nat} {T : TypeId} {q : Ck} (h : W.heap[b]? = some (.cells #[.int .i64 q.st, .int .i64 q.off, .int .i64 q.fr, .int .i64 q.poll, .int .i64 q.calm] T)) (r : Ck) :
    (((((W.setCell ⟨b, 0, none⟩ (.int .i64 r.st)).setCell ⟨b, 1, none⟩ (.int .i64 r.off)).setCell ⟨b, 2, none⟩ (.int .i64 r.fr)).setCell ⟨b, 3, none⟩ (.int .i64 r.poll)).setCell ⟨b, 4, none⟩ (.int .i64 r.calm)).heap[b]? = some (.cells #[.int .i64 r.st, .int .i64 r.off, .int .i64 r.fr, .int .i64 r.poll, .int .i64 r.calm] T) := by
  simp [World.setCell, Array.getElem?_modify, h]
theorem ck_other {W : World} {b k : Nat} {o : Obj} (h : W.heap[k]? = some o) (hne : b ≠ k) (r : Ck) : (((((W.setCell ⟨b, 0, none⟩ (.int .i64 r.st)).setCell ⟨b, 1, none⟩ (.int .i64 r.off)).setCell ⟨b, 2, none⟩ (.int .i64 r.fr)).setCell ⟨b, 3, none⟩ (.int .i64 r.poll)).setCell ⟨b, 4, none⟩ (.int .i64 r.calm)).heap[k]? = some o := by
  simp [World.setCell, Array.getElem?_modify, hne, h]
theorem below_set {w W : World} {b : Nat} (h : Below w.heap.size w W) (hb : w.heap.size ≤ b) (o : Nat) (v : Value) : Below w.heap.size w (W.setCell ⟨b, o, none⟩ v) := h.setCell hb v
end Go.Proofs.YtbkkgkmllplbaaaDoor
