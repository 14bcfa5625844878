/- Rows of clients of the call's own. -/
import Derived.Test.YtckonbbdeohccaaClMap
import Derived.Laws.AppendOwn
import Derived.Laws.OwnMore
namespace Go.Proofs.Ytckonbbdeohccaa
open Go.ChangeShapes Go.WideShapes Go.ChangeAt Go.RowKit
set_option linter.unusedVariables false
set_option linter.unusedSimpArgs false

def Cl.cells (c : Cl) : List Value := c.row.map (Value.int .i64)
theorem Cl.cells_len (v : Cl) : v.cells.length = 3 := rfl
def flatCl (l : List Cl) : List Value := l.flatMap Cl.cells
theorem flatCl_append (a b : List Cl) : flatCl (a ++ b) = flatCl a ++ flatCl b := by simp [flatCl]
theorem flatCl_at {l : List Cl} {k : Nat} {e : Cl} (h : l[k]? = some e) {j : Nat} {z : Int} (hj : e.row[j]? = some z) : (flatCl l)[k * 3 + j]? = some (.int .i64 z) := by
  have hj3 : j < 3 := (List.getElem?_eq_some_iff.1 hj).1
  induction l generalizing k with
  | nil => simp at h
  | cons a l ih =>
    have e1 : flatCl (a :: l) = a.cells ++ flatCl l := rfl
    rw [e1]
    cases k with
    | zero =>
      simp at h
      subst h
      rw [Nat.zero_mul, Nat.zero_add, List.getElem?_append_left (by rw [Cl.cells_len]; omega)]
      simp [Cl.cells, hj]
    | succ k =>
      rw [List.getElem?_cons_succ] at h
      rw [List.getElem?_append_right (by rw [Cl.cells_len]; omega), Cl.cells_len, show (k + 1) * 3 + j - 3 = k * 3 + j by omega]
      exact ih h

/-- A row of peers of the call's own. -/
def ClRow (base : Nat) (W : World) (x : Option Addr) (cap : Nat) (l : List Cl) : Prop := W.ownsRow base 52 3 (.slice x l.length cap) l.length (flatCl l)
section
variable {base : Nat} {W W' : World} {x : Option Addr} {cap : Nat} {l : List Cl}
theorem ClRow.cls (h : ClRow base W x cap l) : Cls W.heap.size W x l := by
  have h0 := h
  rcases h.2 with ⟨e, e0⟩ | ⟨g, c, cur, e, hb, hg, _⟩
  · exact .inl (List.eq_nil_of_length_eq_zero e0)
  · simp only [Value.slice.injEq] at e
    obtain ⟨rfl, _, rfl⟩ := e
    refine .inr ⟨g, 0, rfl, (Array.getElem?_eq_some_iff.1 hg).1, fun i v j z hi hj => ?_⟩
    have hil := (List.getElem?_eq_some_iff.1 hi).1
    have hj3 : j < 3 := (List.getElem?_eq_some_iff.1 hj).1
    rw [Nat.zero_add, World.ownsRow.cellAt h0 _ (by omega)]
    exact flatCl_at hi hj
theorem ClRow.cap_ (h : ClRow base W x cap l) : l.length ≤ cap ∧ cap ≤ maxLen := by
  rcases h.2 with ⟨e, e0⟩ | ⟨g, c, cur, e, hb, hg, a, b, _⟩
  · simp only [Value.slice.injEq] at e
    obtain ⟨_, _, rfl⟩ := e
    exact ⟨by omega, Nat.zero_le _⟩
  · simp only [Value.slice.injEq] at e
    obtain ⟨_, _, rfl⟩ := e
    exact ⟨a, b⟩
end

theorem cell_new_cl (w : World) (v : Cl) (t : TypeId) : ∀ j z, v.cells[j]? = some z → (w.alloc (.cells #[.int .i64 v.id, .int .i64 v.last, .int .i64 v.score] t)).cell? ((⟨w.heap.size, 0, none⟩ : Addr).add j) = some z := by
  intro j z hz
  match j, hz with
  | 0, hz => simp [Cl.cells, Cl.row] at hz; subst hz; simp [Addr.add]
  | 1, hz => simp [Cl.cells, Cl.row] at hz; subst hz; simp [Addr.add]
  | 2, hz => simp [Cl.cells, Cl.row] at hz; subst hz; simp [Addr.add]
  | j + 3, hz => simp [Cl.cells, Cl.row] at hz
theorem ClRow.next {base : Nat} {W W' : World} {x : Option Addr} {cap : Nat} {l : List Cl} (h : ClRow base W x cap l) (hb : Below W.heap.size W W') : ClRow base W' x cap l := by
  refine ⟨h.1, ?_⟩
  rcases h.2 with e | ⟨g, c, cur, e, hb', hg, r⟩
  · exact .inl e
  · exact .inr ⟨g, c, cur, e, hb', blk_next hb hg, r⟩
theorem ClRow.lt {base : Nat} {W : World} {g cap : Nat} {l : List Cl} (h : ClRow base W (some ⟨g, 0, none⟩) cap l) : base ≤ g ∧ g < W.heap.size := World.ownsRow.lt h g rfl
theorem ClRow.keep {base : Nat} {W W' : World} {x : Option Addr} {cap : Nat} {l : List Cl} {row : Option Nat} (h : ClRow base W x cap l) (hg : W.grownBy W' row) (hr : ∀ g, x = some ⟨g, 0, none⟩ → row ≠ some g) : ClRow base W' x cap l := by
  refine ⟨h.1, ?_⟩
  rcases h.2 with e | ⟨g, c, cur, e, hb', hh, r⟩
  · exact .inl e
  · refine .inr ⟨g, c, cur, e, hb', ?_, r⟩
    rw [hg.block g (Array.getElem?_eq_some_iff.1 hh).1 (fun e' => hr g (by simp only [Value.slice.injEq] at e; exact e.1) e'.symm)]
    exact hh
theorem flatCl_len (l : List Cl) : (flatCl l).length = l.length * 3 := by
  induction l with
  | nil => rfl
  | cons a l ih =>
    have e1 : flatCl (a :: l) = a.cells ++ flatCl l := rfl
    rw [e1, List.length_append, Cl.cells_len, ih, List.length_cons]
    omega
theorem flatCl_one {l : List Cl} : ∀ v ∈ flatCl l, v.oneCell' = true := by
  intro v hv
  obtain ⟨e, _, he⟩ := List.mem_flatMap.1 hv
  obtain ⟨n, _, rfl⟩ := List.mem_map.1 he
  rfl
theorem flatCl_take (l : List Cl) (k : Nat) : (flatCl l).take (k * 3) = flatCl (l.take k) := by
  induction l generalizing k with
  | nil => simp [flatCl]
  | cons e l ih =>
    cases k with
    | zero => simp [flatCl]
    | succ k =>
      have e1 : flatCl (e :: l) = e.cells ++ flatCl l := rfl
      have e2 : flatCl (e :: l.take k) = e.cells ++ flatCl (l.take k) := rfl
      rw [List.take_succ_cons, e1, e2, List.take_append, List.take_of_length_le (by rw [Cl.cells_len]; omega), Cl.cells_len, show (k + 1) * 3 - 3 = k * 3 by omega, ih]
theorem flatCl_drop (l : List Cl) (k : Nat) : (flatCl l).drop (k * 3) = flatCl (l.drop k) := by
  induction l generalizing k with
  | nil => simp [flatCl]
  | cons e l ih =>
    cases k with
    | zero => simp
    | succ k =>
      have e1 : flatCl (e :: l) = e.cells ++ flatCl l := rfl
      rw [List.drop_succ_cons, e1, List.drop_append, List.drop_of_length_le (by rw [Cl.cells_len]; omega), Cl.cells_len, show (k + 1) * 3 - 3 = k * 3 by omega, ih, List.nil_append]
/-- An own row, whatever its value's name. -/
theorem clRow_form {base n : Nat} {W : World} {v : Value} {l : List Cl} (h : W.ownsRow base 52 3 v n (flatCl l)) (hn : n = l.length) : ∃ x cap, v = .slice x n cap ∧ ClRow base W x cap l := by
  subst hn
  obtain ⟨x, cap, rfl⟩ := ownsRow_formT h
  exact ⟨x, cap, rfl, h⟩
theorem ClRow.cell {base : Nat} {W : World} {g cap k : Nat} {l : List Cl} {e : Cl} (h : ClRow base W (some ⟨g, 0, none⟩) cap l) (hk : l[k]? = some e) : (W.cell? ⟨g, k * 3, none⟩ = some (.int .i64 e.id) ∧ W.cell? ⟨g, k * 3 + 1, none⟩ = some (.int .i64 e.last) ∧ W.cell? ⟨g, k * 3 + 2, none⟩ = some (.int .i64 e.score)) := by
  obtain ⟨b, off, e', _, c⟩ := (h.cls).at_ hk
  have h0 := h
  have hkl := (List.getElem?_eq_some_iff.1 hk).1
  have cc := fun j z (hj : e.row[j]? = some z) => (World.ownsRow.cellAt h0 (k * 3 + j) (by have := (List.getElem?_eq_some_iff.1 hj).1; simp [Cl.row] at this; omega)).trans (flatCl_at hk hj)
  exact ⟨cc 0 _ rfl, cc 1 _ rfl, cc 2 _ rfl⟩
theorem own_nextC {W W' : World} {base : Nat} {e : TypeId} {size : Nat} {v : Value} {n : Nat} {xs : List Value} (h : W.ownsRow base e size v n xs) (hb : Below W.heap.size W W') : W'.ownsRow base e size v n xs := by
  refine ⟨h.1, ?_⟩
  rcases h.2 with e | ⟨g, c, cur, e, hb', hg, r⟩
  · exact .inl e
  · exact .inr ⟨g, c, cur, e, hb', blk_next hb hg, r⟩
theorem cls_news {B : Nat} {W : World} {b off : Nat} {l : List Cl} (h : Cls B W (some ⟨b, off, none⟩) l) : ∀ i u, (flatCl l)[i]? = some u → W.cell? ((⟨b, off, none⟩ : Addr).add i) = some u := by
  intro i u hi
  have hil : i < l.length * 3 := by have := (List.getElem?_eq_some_iff.1 hi).1; rwa [flatCl_len] at this
  obtain ⟨v, hv⟩ : ∃ v, l[i / 3]? = some v := ⟨l[i / 3]'(by omega), List.getElem?_eq_getElem _⟩
  obtain ⟨z, hz⟩ : ∃ z, v.row[i % 3]? = some z := ⟨v.row[i % 3]'(by simp [Cl.row]; omega), List.getElem?_eq_getElem _⟩
  have e : i / 3 * 3 + i % 3 = i := by omega
  have hb := flatCl_at hv hz
  rw [e, hi] at hb
  rw [Option.some.inj hb, show (⟨b, off, none⟩ : Addr).add i = ⟨b, off + i, none⟩ by unfold Addr.add; split <;> simp_all]
  rcases h with h | ⟨b', off', e', _, hc⟩
  · subst h; simp at hv
  · simp only [Option.some.injEq, Addr.mk.injEq] at e'
    obtain ⟨rfl, rfl, _⟩ := e'
    have := hc (i / 3) v (i % 3) z hv hz
    rw [show off + i / 3 * 3 + i % 3 = off + i by omega] at this
    exact this
theorem below_drewC {B : Nat} {a w : World} (h : Below B a w) : Below B a w.drew := h.trans ⟨rfl, rfl, rfl, Nat.le_refl _, fun _ _ => rfl⟩
end Go.Proofs.Ytckonbbdeohccaa
