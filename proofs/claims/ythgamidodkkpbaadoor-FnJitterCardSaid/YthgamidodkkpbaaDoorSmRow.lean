/- Rows of samples of the call's own. -/
import Derived.Test.YthgamidodkkpbaaDoorFilOf
import Derived.Laws.AppendOwn
import Derived.Laws.OwnMore
namespace Go.Proofs.YthgamidodkkpbaaDoor
open Go.ChangeShapes Go.WideShapes Go.ChangeAt Go.RowKit
set_option linter.unusedVariables false
set_option linter.unusedSimpArgs false

theorem Sm.cells_len (v : Sm) : v.cells.length = 4 := rfl
def flatSm (l : List Sm) : List Value := l.flatMap Sm.cells
theorem flatSm_append (a b : List Sm) : flatSm (a ++ b) = flatSm a ++ flatSm b := by simp [flatSm]
theorem flatSm_at {l : List Sm} {k : Nat} {e : Sm} (h : l[k]? = some e) {j : Nat} {z : Int} (hj : e.row[j]? = some z) : (flatSm l)[k * 4 + j]? = some (.int .i64 z) := by
  have hj4 : j < 4 := (List.getElem?_eq_some_iff.1 hj).1
  induction l generalizing k with
  | nil => simp at h
  | cons a l ih =>
    have e1 : flatSm (a :: l) = a.cells ++ flatSm l := rfl
    rw [e1]
    cases k with
    | zero =>
      simp at h
      subst h
      rw [Nat.zero_mul, Nat.zero_add, List.getElem?_append_left (by rw [Sm.cells_len]; omega)]
      simp [Sm.cells, hj]
    | succ k =>
      rw [List.getElem?_cons_succ] at h
      rw [List.getElem?_append_right (by rw [Sm.cells_len]; omega), Sm.cells_len, show (k + 1) * 4 + j - 4 = k * 4 + j by omega]
      exact ih h

/-- A row of peers of the call's own. -/
def SmRow (base : Nat) (W : World) (x : Option Addr) (cap : Nat) (l : List Sm) : Prop := W.ownsRow base 26 4 (.slice x l.length cap) l.length (flatSm l)
section
variable {base : Nat} {W W' : World} {x : Option Addr} {cap : Nat} {l : List Sm}
theorem SmRow.sms (h : SmRow base W x cap l) : Sms W.heap.size W x l := by
  have h0 := h
  rcases h.2 with ⟨e, e0⟩ | ⟨g, c, cur, e, hb, hg, _⟩
  · exact .inl (List.eq_nil_of_length_eq_zero e0)
  · simp only [Value.slice.injEq] at e
    obtain ⟨rfl, _, rfl⟩ := e
    refine .inr ⟨g, 0, rfl, (Array.getElem?_eq_some_iff.1 hg).1, fun i v j z hi hj => ?_⟩
    have hil := (List.getElem?_eq_some_iff.1 hi).1
    have hj4 : j < 4 := (List.getElem?_eq_some_iff.1 hj).1
    rw [Nat.zero_add, World.ownsRow.cellAt h0 _ (by omega)]
    exact flatSm_at hi hj
theorem SmRow.cap_ (h : SmRow base W x cap l) : l.length ≤ cap ∧ cap ≤ maxLen := by
  rcases h.2 with ⟨e, e0⟩ | ⟨g, c, cur, e, hb, hg, a, b, _⟩
  · simp only [Value.slice.injEq] at e
    obtain ⟨_, _, rfl⟩ := e
    exact ⟨by omega, Nat.zero_le _⟩
  · simp only [Value.slice.injEq] at e
    obtain ⟨_, _, rfl⟩ := e
    exact ⟨a, b⟩
end

theorem infoSm' : (Tryd.prog.info? 26).map (fun i => (i.zero, i.size, i.bytes)) = some (some (.agg #[.int .i64 0, .int .i64 0, .int .i64 0, .int .i64 0]), 4, 32) := by kernel_rfl
theorem cell_four_new (w : World) (v : Sm) (t : TypeId) : ∀ j z, v.cells[j]? = some z → (w.alloc (.cells #[.int .i64 v.off, .int .i64 v.delay, .int .i64 v.disp, .int .i64 v.at_] t)).cell? ((⟨w.heap.size, 0, none⟩ : Addr).add j) = some z := by
  intro j z hz
  match j, hz with
  | 0, hz => simp [Sm.cells, Sm.row] at hz; subst hz; simp [Addr.add]
  | 1, hz => simp [Sm.cells, Sm.row] at hz; subst hz; simp [Addr.add]
  | 2, hz => simp [Sm.cells, Sm.row] at hz; subst hz; simp [Addr.add]
  | 3, hz => simp [Sm.cells, Sm.row] at hz; subst hz; simp [Addr.add]
  | j + 4, hz => simp [Sm.cells, Sm.row] at hz
theorem SmRow.next {base : Nat} {W W' : World} {x : Option Addr} {cap : Nat} {l : List Sm} (h : SmRow base W x cap l) (hb : Below W.heap.size W W') : SmRow base W' x cap l := by
  refine ⟨h.1, ?_⟩
  rcases h.2 with e | ⟨g, c, cur, e, hb', hg, r⟩
  · exact .inl e
  · exact .inr ⟨g, c, cur, e, hb', blk_next hb hg, r⟩
theorem SmRow.lt {base : Nat} {W : World} {g cap : Nat} {l : List Sm} (h : SmRow base W (some ⟨g, 0, none⟩) cap l) : base ≤ g ∧ g < W.heap.size := World.ownsRow.lt h g rfl
theorem SmRow.keep {base : Nat} {W W' : World} {x : Option Addr} {cap : Nat} {l : List Sm} {row : Option Nat} (h : SmRow base W x cap l) (hg : W.grownBy W' row) (hr : ∀ g, x = some ⟨g, 0, none⟩ → row ≠ some g) : SmRow base W' x cap l := by
  refine ⟨h.1, ?_⟩
  rcases h.2 with e | ⟨g, c, cur, e, hb', hh, r⟩
  · exact .inl e
  · refine .inr ⟨g, c, cur, e, hb', ?_, r⟩
    rw [hg.block g (Array.getElem?_eq_some_iff.1 hh).1 (fun e' => hr g (by simp only [Value.slice.injEq] at e; exact e.1) e'.symm)]
    exact hh
theorem flatSm_len (l : List Sm) : (flatSm l).length = l.length * 4 := by
  induction l with
  | nil => rfl
  | cons a l ih =>
    have e1 : flatSm (a :: l) = a.cells ++ flatSm l := rfl
    rw [e1, List.length_append, Sm.cells_len, ih, List.length_cons]
    omega
theorem flatSm_one {l : List Sm} : ∀ v ∈ flatSm l, v.oneCell' = true := by
  intro v hv
  obtain ⟨e, _, he⟩ := List.mem_flatMap.1 hv
  obtain ⟨n, _, rfl⟩ := List.mem_map.1 he
  rfl
theorem flatSm_take (l : List Sm) (k : Nat) : (flatSm l).take (k * 4) = flatSm (l.take k) := by
  induction l generalizing k with
  | nil => simp [flatSm]
  | cons e l ih =>
    cases k with
    | zero => simp [flatSm]
    | succ k =>
      have e1 : flatSm (e :: l) = e.cells ++ flatSm l := rfl
      have e2 : flatSm (e :: l.take k) = e.cells ++ flatSm (l.take k) := rfl
      rw [List.take_succ_cons, e1, e2, List.take_append, List.take_of_length_le (by rw [Sm.cells_len]; omega), Sm.cells_len, show (k + 1) * 4 - 4 = k * 4 by omega, ih]
theorem flatSm_drop (l : List Sm) (k : Nat) : (flatSm l).drop (k * 4) = flatSm (l.drop k) := by
  induction l generalizing k with
  | nil => simp [flatSm]
  | cons e l ih =>
    cases k with
    | zero => simp
    | succ k =>
      have e1 : flatSm (e :: l) = e.cells ++ flatSm l := rfl
      rw [List.drop_succ_cons, e1, List.drop_append, List.drop_of_length_le (by rw [Sm.cells_len]; omega), Sm.cells_len, show (k + 1) * 4 - 4 = k * 4 by omega, ih, List.nil_append]
/-- An own row, whatever its value's name. -/
theorem smRow_form {base n : Nat} {W : World} {v : Value} {l : List Sm} (h : W.ownsRow base 26 4 v n (flatSm l)) (hn : n = l.length) : ∃ x cap, v = .slice x n cap ∧ SmRow base W x cap l := by
  subst hn
  obtain ⟨x, cap, rfl⟩ := ownsRow_formT h
  exact ⟨x, cap, rfl, h⟩
theorem SmRow.cell {base : Nat} {W : World} {g cap k : Nat} {l : List Sm} {e : Sm} (h : SmRow base W (some ⟨g, 0, none⟩) cap l) (hk : l[k]? = some e) : (W.cell? ⟨g, k * 4, none⟩ = some (.int .i64 e.off) ∧ W.cell? ⟨g, k * 4 + 1, none⟩ = some (.int .i64 e.delay) ∧ W.cell? ⟨g, k * 4 + 2, none⟩ = some (.int .i64 e.disp) ∧ W.cell? ⟨g, k * 4 + 3, none⟩ = some (.int .i64 e.at_)) := by
  obtain ⟨b, off, e', _, c⟩ := (h.sms).at_ hk
  have h0 := h
  have hkl := (List.getElem?_eq_some_iff.1 hk).1
  have cc := fun j z (hj : e.row[j]? = some z) => (World.ownsRow.cellAt h0 (k * 4 + j) (by have := (List.getElem?_eq_some_iff.1 hj).1; simp [Sm.row] at this; omega)).trans (flatSm_at hk hj)
  exact ⟨cc 0 _ rfl, cc 1 _ rfl, cc 2 _ rfl, cc 3 _ rfl⟩
theorem own_nextS {W W' : World} {base : Nat} {e : TypeId} {size : Nat} {v : Value} {n : Nat} {xs : List Value} (h : W.ownsRow base e size v n xs) (hb : Below W.heap.size W W') : W'.ownsRow base e size v n xs := by
  refine ⟨h.1, ?_⟩
  rcases h.2 with e | ⟨g, c, cur, e, hb', hg, r⟩
  · exact .inl e
  · exact .inr ⟨g, c, cur, e, hb', blk_next hb hg, r⟩
theorem sms_news {B : Nat} {W : World} {b off : Nat} {l : List Sm} (h : Sms B W (some ⟨b, off, none⟩) l) : ∀ i u, (flatSm l)[i]? = some u → W.cell? ((⟨b, off, none⟩ : Addr).add i) = some u := by
  intro i u hi
  have hil : i < l.length * 4 := by have := (List.getElem?_eq_some_iff.1 hi).1; rwa [flatSm_len] at this
  obtain ⟨v, hv⟩ : ∃ v, l[i / 4]? = some v := ⟨l[i / 4]'(by omega), List.getElem?_eq_getElem _⟩
  obtain ⟨z, hz⟩ : ∃ z, v.row[i % 4]? = some z := ⟨v.row[i % 4]'(by simp [Sm.row]; omega), List.getElem?_eq_getElem _⟩
  have e : i / 4 * 4 + i % 4 = i := by omega
  have hb := flatSm_at hv hz
  rw [e, hi] at hb
  rw [Option.some.inj hb, show (⟨b, off, none⟩ : Addr).add i = ⟨b, off + i, none⟩ by unfold Addr.add; split <;> simp_all]
  rcases h with h | ⟨b', off', e', _, hc⟩
  · subst h; simp at hv
  · simp only [Option.some.injEq, Addr.mk.injEq] at e'
    obtain ⟨rfl, rfl, _⟩ := e'
    have := hc (i / 4) v (i % 4) z hv hz
    rw [show off + i / 4 * 4 + i % 4 = off + i by omega] at this
    exact this
theorem FilAt.sms {w : World} {b : Nat} {l : List Sm} (h : FilAt w b l) : Sms w.heap.size w (some ⟨b, 0, none⟩) l := by
  refine .inr ⟨b, 0, rfl, h.lt, fun i v j z hi hj => ?_⟩
  obtain ⟨C, hC, hF⟩ := h
  rw [cell_of_row w b _ _ _ _ hC, Nat.zero_add]
  simpa using hF.at_ i v j z hi hj
theorem below_drewS {B : Nat} {a w : World} (h : Below B a w) : Below B a w.drew := h.trans ⟨rfl, rfl, rfl, Nat.le_refl _, fun _ _ => rfl⟩
end Go.Proofs.YthgamidodkkpbaaDoor
