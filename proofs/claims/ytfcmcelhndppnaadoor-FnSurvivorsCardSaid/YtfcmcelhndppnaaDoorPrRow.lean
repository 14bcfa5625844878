/- Rows of peers of the call's own. -/
import Derived.Test.YtfcmcelhndppnaaDoorPeersL
import Derived.Laws.AppendOwn
import Derived.Laws.OwnMore
namespace Go.Proofs.YtfcmcelhndppnaaDoor
open Go.ChangeShapes Go.WideShapes Go.ChangeAt Go.RowKit
set_option linter.unusedVariables false
set_option linter.unusedSimpArgs false

def Pr.cells (v : Pr) : List Value := v.row.map (Value.int .i64)
theorem Pr.cells_len (v : Pr) : v.cells.length = 6 := rfl
def flatPr (l : List Pr) : List Value := l.flatMap Pr.cells
theorem flatPr_append (a b : List Pr) : flatPr (a ++ b) = flatPr a ++ flatPr b := by simp [flatPr]
theorem flatPr_at {l : List Pr} {k : Nat} {e : Pr} (h : l[k]? = some e) {j : Nat} {z : Int} (hj : e.row[j]? = some z) : (flatPr l)[k * 6 + j]? = some (.int .i64 z) := by
  have hj6 : j < 6 := (List.getElem?_eq_some_iff.1 hj).1
  induction l generalizing k with
  | nil => simp at h
  | cons a l ih =>
    have e1 : flatPr (a :: l) = a.cells ++ flatPr l := rfl
    rw [e1]
    cases k with
    | zero =>
      simp at h
      subst h
      rw [Nat.zero_mul, Nat.zero_add, List.getElem?_append_left (by rw [Pr.cells_len]; omega)]
      simp [Pr.cells, hj]
    | succ k =>
      rw [List.getElem?_cons_succ] at h
      rw [List.getElem?_append_right (by rw [Pr.cells_len]; omega), Pr.cells_len, show (k + 1) * 6 + j - 6 = k * 6 + j by omega]
      exact ih h

/-- A row of peers of the call's own. -/
def PrRow (base : Nat) (W : World) (x : Option Addr) (cap : Nat) (l : List Pr) : Prop := W.ownsRow base 40 6 (.slice x l.length cap) l.length (flatPr l)
section
variable {base : Nat} {W W' : World} {x : Option Addr} {cap : Nat} {l : List Pr}
theorem PrRow.prs (h : PrRow base W x cap l) : Prs W.heap.size W x l := by
  have h0 := h
  rcases h.2 with ⟨e, e0⟩ | ⟨g, c, cur, e, hb, hg, _⟩
  · exact .inl (List.eq_nil_of_length_eq_zero e0)
  · simp only [Value.slice.injEq] at e
    obtain ⟨rfl, _, rfl⟩ := e
    refine .inr ⟨g, 0, rfl, (Array.getElem?_eq_some_iff.1 hg).1, fun i v j z hi hj => ?_⟩
    have hil := (List.getElem?_eq_some_iff.1 hi).1
    have hj6 : j < 6 := (List.getElem?_eq_some_iff.1 hj).1
    rw [Nat.zero_add, World.ownsRow.cellAt h0 _ (by omega)]
    exact flatPr_at hi hj
theorem PrRow.cap_ (h : PrRow base W x cap l) : l.length ≤ cap ∧ cap ≤ maxLen := by
  rcases h.2 with ⟨e, e0⟩ | ⟨g, c, cur, e, hb, hg, a, b, _⟩
  · simp only [Value.slice.injEq] at e
    obtain ⟨_, _, rfl⟩ := e
    exact ⟨by omega, Nat.zero_le _⟩
  · simp only [Value.slice.injEq] at e
    obtain ⟨_, _, rfl⟩ := e
    exact ⟨a, b⟩
end

theorem infoPr' : (Tryd.prog.info? 40).map (fun i => (i.zero, i.size, i.bytes)) = some (some (.agg #[.int .i64 0, .int .i64 0, .int .i64 0, .int .i64 0, .int .i64 0, .int .i64 0]), 6, 48) := by kernel_rfl
theorem cell_six_new (w : World) (v : Pr) (t : TypeId) : ∀ j z, v.cells[j]? = some z → (w.alloc (.cells #[.int .i64 v.id, .int .i64 v.str, .int .i64 v.s.off, .int .i64 v.s.delay, .int .i64 v.s.disp, .int .i64 v.s.at_] t)).cell? ((⟨w.heap.size, 0, none⟩ : Addr).add j) = some z := by
  intro j z hz
  match j, hz with
  | 0, hz => simp [Pr.cells, Pr.row] at hz; subst hz; simp [Addr.add]
  | 1, hz => simp [Pr.cells, Pr.row] at hz; subst hz; simp [Addr.add]
  | 2, hz => simp [Pr.cells, Pr.row] at hz; subst hz; simp [Addr.add]
  | 3, hz => simp [Pr.cells, Pr.row] at hz; subst hz; simp [Addr.add]
  | 4, hz => simp [Pr.cells, Pr.row] at hz; subst hz; simp [Addr.add]
  | 5, hz => simp [Pr.cells, Pr.row] at hz; subst hz; simp [Addr.add]
  | j + 6, hz => simp [Pr.cells, Pr.row] at hz
theorem PrRow.next {base : Nat} {W W' : World} {x : Option Addr} {cap : Nat} {l : List Pr} (h : PrRow base W x cap l) (hb : Below W.heap.size W W') : PrRow base W' x cap l := by
  refine ⟨h.1, ?_⟩
  rcases h.2 with e | ⟨g, c, cur, e, hb', hg, r⟩
  · exact .inl e
  · exact .inr ⟨g, c, cur, e, hb', blk_next hb hg, r⟩
theorem PrRow.lt {base : Nat} {W : World} {g cap : Nat} {l : List Pr} (h : PrRow base W (some ⟨g, 0, none⟩) cap l) : base ≤ g ∧ g < W.heap.size := World.ownsRow.lt h g rfl
theorem PrRow.keep {base : Nat} {W W' : World} {x : Option Addr} {cap : Nat} {l : List Pr} {row : Option Nat} (h : PrRow base W x cap l) (hg : W.grownBy W' row) (hr : ∀ g, x = some ⟨g, 0, none⟩ → row ≠ some g) : PrRow base W' x cap l := by
  refine ⟨h.1, ?_⟩
  rcases h.2 with e | ⟨g, c, cur, e, hb', hh, r⟩
  · exact .inl e
  · refine .inr ⟨g, c, cur, e, hb', ?_, r⟩
    rw [hg.block g (Array.getElem?_eq_some_iff.1 hh).1 (fun e' => hr g (by simp only [Value.slice.injEq] at e; exact e.1) e'.symm)]
    exact hh
theorem flatPr_len (l : List Pr) : (flatPr l).length = l.length * 6 := by
  induction l with
  | nil => rfl
  | cons a l ih =>
    have e1 : flatPr (a :: l) = a.cells ++ flatPr l := rfl
    rw [e1, List.length_append, Pr.cells_len, ih, List.length_cons]
    omega
theorem flatPr_one {l : List Pr} : ∀ v ∈ flatPr l, v.oneCell' = true := by
  intro v hv
  obtain ⟨e, _, he⟩ := List.mem_flatMap.1 hv
  obtain ⟨n, _, rfl⟩ := List.mem_map.1 he
  rfl
theorem flatPr_take (l : List Pr) (k : Nat) : (flatPr l).take (k * 6) = flatPr (l.take k) := by
  induction l generalizing k with
  | nil => simp [flatPr]
  | cons e l ih =>
    cases k with
    | zero => simp [flatPr]
    | succ k =>
      have e1 : flatPr (e :: l) = e.cells ++ flatPr l := rfl
      have e2 : flatPr (e :: l.take k) = e.cells ++ flatPr (l.take k) := rfl
      rw [List.take_succ_cons, e1, e2, List.take_append, List.take_of_length_le (by rw [Pr.cells_len]; omega), Pr.cells_len, show (k + 1) * 6 - 6 = k * 6 by omega, ih]
theorem flatPr_drop (l : List Pr) (k : Nat) : (flatPr l).drop (k * 6) = flatPr (l.drop k) := by
  induction l generalizing k with
  | nil => simp [flatPr]
  | cons e l ih =>
    cases k with
    | zero => simp
    | succ k =>
      have e1 : flatPr (e :: l) = e.cells ++ flatPr l := rfl
      rw [List.drop_succ_cons, e1, List.drop_append, List.drop_of_length_le (by rw [Pr.cells_len]; omega), Pr.cells_len, show (k + 1) * 6 - 6 = k * 6 by omega, ih, List.nil_append]
/-- An own row, whatever its value's name. -/
theorem prRow_form {base n : Nat} {W : World} {v : Value} {l : List Pr} (h : W.ownsRow base 40 6 v n (flatPr l)) (hn : n = l.length) : ∃ x cap, v = .slice x n cap ∧ PrRow base W x cap l := by
  subst hn
  obtain ⟨x, cap, rfl⟩ := ownsRow_formT h
  exact ⟨x, cap, rfl, h⟩
theorem PrRow.cell {base : Nat} {W : World} {g cap k : Nat} {l : List Pr} {e : Pr} (h : PrRow base W (some ⟨g, 0, none⟩) cap l) (hk : l[k]? = some e) : W.cell? ⟨g, k * 6, none⟩ = some (.int .i64 e.id) ∧ W.cell? ⟨g, k * 6 + 1, none⟩ = some (.int .i64 e.str) ∧ W.cell? ⟨g, k * 6 + 2, none⟩ = some (.int .i64 e.s.off) ∧ W.cell? ⟨g, k * 6 + 3, none⟩ = some (.int .i64 e.s.delay) ∧ W.cell? ⟨g, k * 6 + 4, none⟩ = some (.int .i64 e.s.disp) ∧ W.cell? ⟨g, k * 6 + 5, none⟩ = some (.int .i64 e.s.at_) := by
  obtain ⟨b, off, e', _, c⟩ := (h.prs).at_ hk
  have h0 := h
  have hkl := (List.getElem?_eq_some_iff.1 hk).1
  have cc := fun j z (hj : e.row[j]? = some z) => (World.ownsRow.cellAt h0 (k * 6 + j) (by have := (List.getElem?_eq_some_iff.1 hj).1; simp [Pr.row] at this; omega)).trans (flatPr_at hk hj)
  exact ⟨cc 0 _ rfl, cc 1 _ rfl, cc 2 _ rfl, cc 3 _ rfl, cc 4 _ rfl, cc 5 _ rfl⟩
theorem own_next {W W' : World} {base : Nat} {e : TypeId} {size : Nat} {v : Value} {n : Nat} {xs : List Value} (h : W.ownsRow base e size v n xs) (hb : Below W.heap.size W W') : W'.ownsRow base e size v n xs := by
  refine ⟨h.1, ?_⟩
  rcases h.2 with e | ⟨g, c, cur, e, hb', hg, r⟩
  · exact .inl e
  · exact .inr ⟨g, c, cur, e, hb', blk_next hb hg, r⟩
end Go.Proofs.YtfcmcelhndppnaaDoor
