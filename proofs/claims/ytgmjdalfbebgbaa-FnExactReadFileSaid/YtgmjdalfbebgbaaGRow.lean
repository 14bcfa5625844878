/- Rows of structs of any cells: that came in, or of the call's own; parts of them; as sources of an append. -/
import Derived.Test.YtgmjdalfbebgbaaTab
import Derived.Test.YtgmjdalfbebgbaaAppAny
import Derived.Laws.OwnMore
namespace Go.Proofs.Ytgmjdalfbebgbaa
open Go.ChangeShapes Go.WideShapes Go.ChangeAt Go.RowKit
set_option linter.unusedVariables false
set_option linter.unusedSimpArgs false

/-- How an element lies: so many cells, one cell each. -/
structure Cells (α : Type) where
  cells : α → List Value
  size : Nat
  len : ∀ a, (cells a).length = size
  one : ∀ a, ∀ u ∈ cells a, u.oneCell' = true
  pos : 0 < size
def flatG {α : Type} (C : Cells α) (l : List α) : List Value := l.flatMap C.cells
/-- From this address on lie these elements, in a block below B; or there are none. -/
def GAt {α : Type} (C : Cells α) (B : Nat) (w : World) (x : Option Addr) (l : List α) : Prop :=
  l = [] ∨ ∃ b off, x = some ⟨b, off, none⟩ ∧ b < B ∧ ∀ i v j u, l[i]? = some v → (C.cells v)[j]? = some u → w.cell? ⟨b, off + i * C.size + j, none⟩ = some u
/-- A row of one's own. -/
def GRow {α : Type} (C : Cells α) (t : TypeId) (base : Nat) (W : World) (x : Option Addr) (cap : Nat) (l : List α) : Prop := W.ownsRow base t (C.size) (.slice x l.length cap) l.length (flatG C l)
theorem getG {α : Type} {l : List α} {k : Nat} (h : k < l.length) : ∃ v, l[k]? = some v := ⟨l[k], List.getElem?_eq_getElem h⟩
theorem take_nextG {α : Type} {l : List α} {k : Nat} {v : α} (h : l[k]? = some v) : l.take (k + 1) = l.take k ++ [v] := by rw [List.take_add_one, h]; rfl
section
variable {α : Type} {C : Cells α} {t : TypeId} {base B B' cap : Nat} {w w' : World} {x : Option Addr} {l : List α}
theorem flatG_nil : flatG C ([] : List α) = [] := rfl
theorem flatG_append (a b : List α) : flatG C (a ++ b) = flatG C a ++ flatG C b := by simp [flatG]
theorem flatG_one1 (a : α) : flatG C [a] = C.cells a := by simp [flatG]
theorem flatG_len (l : List α) : (flatG C l).length = l.length * C.size := by
  induction l with
  | nil => simp [flatG]
  | cons a l ih =>
    have e1 : flatG C (a :: l) = C.cells a ++ flatG C l := rfl
    rw [e1, List.length_append, C.len, ih, List.length_cons, Nat.add_mul, Nat.one_mul, Nat.add_comm]
theorem flatG_at {k : Nat} {e : α} (h : l[k]? = some e) {j : Nat} {u : Value} (hj : (C.cells e)[j]? = some u) : (flatG C l)[k * C.size + j]? = some u := by
  have hj3 : j < C.size := by have := (List.getElem?_eq_some_iff.1 hj).1; rwa [C.len] at this
  induction l generalizing k with
  | nil => simp at h
  | cons a l ih =>
    have e1 : flatG C (a :: l) = C.cells a ++ flatG C l := rfl
    rw [e1]
    cases k with
    | zero =>
      simp at h
      subst h
      rw [Nat.zero_mul, Nat.zero_add, List.getElem?_append_left (by rw [C.len]; omega)]
      exact hj
    | succ k =>
      rw [List.getElem?_cons_succ] at h
      have e2 : (k + 1) * C.size + j = C.size + (k * C.size + j) := by rw [Nat.add_mul, Nat.one_mul]; omega
      rw [List.getElem?_append_right (by rw [C.len]; omega), C.len, e2, Nat.add_sub_cancel_left]
      exact ih h
theorem flatG_oneC : ∀ v ∈ flatG C l, v.oneCell' = true := by
  intro v hv
  obtain ⟨e, _, he⟩ := List.mem_flatMap.1 hv
  exact C.one e v he
theorem flatG_get {i : Nat} {u : Value} (h : (flatG C l)[i]? = some u) : ∃ k e j, l[k]? = some e ∧ (C.cells e)[j]? = some u ∧ i = k * C.size + j := by
  have hil : i < l.length * C.size := by have := (List.getElem?_eq_some_iff.1 h).1; rwa [flatG_len] at this
  have hp : 0 < C.size := C.pos
  have hd : i / C.size < l.length := by rw [Nat.div_lt_iff_lt_mul hp]; exact hil
  have hm : i % C.size < C.size := Nat.mod_lt _ hp
  obtain ⟨v, hv⟩ : ∃ v, l[i / C.size]? = some v := ⟨_, List.getElem?_eq_getElem hd⟩
  obtain ⟨z, hz⟩ : ∃ z, (C.cells v)[i % C.size]? = some z := ⟨_, List.getElem?_eq_getElem (by rw [C.len]; exact hm)⟩
  have e : i / C.size * C.size + i % C.size = i := by rw [Nat.mul_comm]; exact Nat.div_add_mod i _
  have hb := flatG_at hv hz
  rw [e, h] at hb
  exact ⟨_, v, _, hv, by rw [hz, Option.some.inj hb], e.symm⟩
theorem addr_add (b o i : Nat) : (⟨b, o, none⟩ : Addr).add i = ⟨b, o + i, none⟩ := by unfold Addr.add; split <;> simp_all
theorem GAt.none_ : GAt C B w x ([] : List α) := .inl rfl
theorem GAt.below (h : GAt C B w x l) (hb : Below B w w') : GAt C B w' x l := by
  rcases h with h | ⟨b, off, e, hlt, hc⟩
  · exact .inl h
  · exact .inr ⟨b, off, e, hlt, fun i v j u hi hj => (hb.cell (p := ⟨b, off + i * C.size + j, none⟩) hlt).trans (hc i v j u hi hj)⟩
theorem GAt.mono (h : GAt C B w x l) (hB : B ≤ B') : GAt C B' w x l := by
  rcases h with h | ⟨b, off, e, hlt, hc⟩
  · exact .inl h
  · exact .inr ⟨b, off, e, by omega, hc⟩
theorem GAt.next (h : GAt C w.heap.size w x l) (hb : Below w.heap.size w w') : GAt C w'.heap.size w' x l := (h.below hb).mono hb.size
theorem GAt.at_ {i : Nat} {v : α} (h : GAt C B w x l) (hi : l[i]? = some v) : ∃ b off, x = some ⟨b, off, none⟩ ∧ b < B ∧ ∀ j u, (C.cells v)[j]? = some u → w.cell? ⟨b, off + i * C.size + j, none⟩ = some u := by
  rcases h with rfl | ⟨b, off, e, hlt, hc⟩
  · simp at hi
  · exact ⟨b, off, e, hlt, fun j u hj => hc i v j u hi hj⟩
theorem GAt.news {b off : Nat} (h : GAt C B w (some ⟨b, off, none⟩) l) : ∀ i u, (flatG C l)[i]? = some u → w.cell? ((⟨b, off, none⟩ : Addr).add i) = some u := by
  intro i u hi
  obtain ⟨k, e, j, hk, hj, rfl⟩ := flatG_get hi
  obtain ⟨b', off', ex, _, hc⟩ := h.at_ hk
  simp only [Option.some.injEq, Addr.mk.injEq] at ex
  obtain ⟨rfl, rfl, _⟩ := ex
  rw [addr_add, ← Nat.add_assoc]
  exact hc j u hj
theorem GAt.src {n : Nat} (h : GAt C B w x l) (hn : n = l.length) (hnil : x = none → cap = 0) : SrcAt w (.slice x n cap) n (C.size) (flatG C l) := by
  subst hn
  rcases x with _ | a
  · have hl : l = [] := by
      rcases h with h | ⟨b, off, e, _⟩
      · exact h
      · cases e
    subst hl
    exact .inl ⟨by rw [hnil rfl]; rfl, rfl, rfl⟩
  · refine .inr ⟨a, cap, rfl, flatG_len l, fun j u hj => ?_⟩
    have h0 := h
    rcases h with h | ⟨b, off, e, _, _⟩
    · subst h; simp [flatG] at hj
    · simp only [Option.some.injEq] at e
      subst e
      exact h0.news j u hj
theorem GRow.at (h : GRow C t base w x cap l) : GAt C w.heap.size w x l := by
  have h0 := h
  rcases h.2 with ⟨e, e0⟩ | ⟨g, c, cur, e, hb, hg, _⟩
  · exact .inl (List.eq_nil_of_length_eq_zero e0)
  · simp only [Value.slice.injEq] at e
    obtain ⟨rfl, _, rfl⟩ := e
    refine .inr ⟨g, 0, rfl, (Array.getElem?_eq_some_iff.1 hg).1, fun i v j u hi hj => ?_⟩
    have hil := (List.getElem?_eq_some_iff.1 hi).1
    have hjl : j < C.size := by have := (List.getElem?_eq_some_iff.1 hj).1; rwa [C.len] at this
    have hb2 : i * C.size + j < l.length * C.size := by
      have h2 : (i + 1) * C.size ≤ l.length * C.size := Nat.mul_le_mul_right _ (by omega)
      rw [Nat.add_mul, Nat.one_mul] at h2
      omega
    rw [Nat.zero_add, World.ownsRow.cellAt h0 _ (by omega)]
    exact flatG_at hi hj
theorem GRow.cap_ (h : GRow C t base w x cap l) : l.length ≤ cap ∧ cap ≤ maxLen := by
  rcases h.2 with ⟨e, e0⟩ | ⟨g, c, cur, e, hb, hg, a, b, _⟩
  · simp only [Value.slice.injEq] at e
    obtain ⟨_, _, rfl⟩ := e
    exact ⟨by omega, Nat.zero_le _⟩
  · simp only [Value.slice.injEq] at e
    obtain ⟨_, _, rfl⟩ := e
    exact ⟨a, b⟩
theorem GRow.nil_ (h : GRow C t base w x cap l) : x = none → cap = 0 := by
  rcases h.2 with ⟨e, _⟩ | ⟨g, c, cur, e, _⟩
  · simp only [Value.slice.injEq] at e
    exact fun _ => e.2.2
  · simp only [Value.slice.injEq] at e
    intro e2
    rw [e.1] at e2
    cases e2
theorem GRow.own_ (h : GRow C t base w x cap l) : x = none ∨ ∃ g, x = some ⟨g, 0, none⟩ ∧ base ≤ g ∧ g < w.heap.size := by
  rcases h.2 with ⟨e, e0⟩ | ⟨g, c, cur, e, hb, hg, _⟩
  · simp only [Value.slice.injEq] at e; exact .inl e.1
  · simp only [Value.slice.injEq] at e; exact .inr ⟨g, e.1, hb, (Array.getElem?_eq_some_iff.1 hg).1⟩
theorem GRow.keep {row : Option Nat} (h : GRow C t base w x cap l) (hg : w.grownBy w' row) (hr : ∀ g, x = some ⟨g, 0, none⟩ → row ≠ some g) : GRow C t base w' x cap l := by
  refine ⟨h.1, ?_⟩
  rcases h.2 with e | ⟨g, c, cur, e, hb', hh, r⟩
  · exact .inl e
  · refine .inr ⟨g, c, cur, e, hb', ?_, r⟩
    rw [hg.block g (Array.getElem?_eq_some_iff.1 hh).1 (fun e' => hr g (by simp only [Value.slice.injEq] at e; exact e.1) e'.symm)]
    exact hh
theorem GRow.next (h : GRow C t base w x cap l) (hb : Below w.heap.size w w') : GRow C t base w' x cap l :=
  h.keep (row := none) ⟨hb.os, hb.tape, hb.output, hb.size, fun k hk _ => hb.block k hk⟩ (fun _ _ => by simp)
theorem GRow.mono {base' : Nat} (h : GRow C t base w x cap l) (hb : base' ≤ base) : GRow C t base' w x cap l := by
  refine ⟨h.1, ?_⟩
  rcases h.2 with h | ⟨g, c, cur, h, h1, r⟩
  · exact .inl h
  · exact .inr ⟨g, c, cur, h, by omega, r⟩
theorem GRow.nil (t : TypeId) (base : Nat) (w : World) : GRow C t base w none 0 ([] : List α) := World.ownsRow_nil _ _ _ _
theorem grow_form {n : Nat} {v : Value} (h : w.ownsRow base t (C.size) v n (flatG C l)) (hn : n = l.length) : ∃ x cap, v = .slice x n cap ∧ GRow C t base w x cap l := by
  subst hn
  rcases id h with ⟨_, ⟨rfl, h0⟩ | ⟨g, cap, cur, rfl, _⟩⟩
  · refine ⟨none, 0, by rw [h0], ?_⟩
    unfold GRow
    rw [h0] at h ⊢
    exact h
  · exact ⟨_, cap, rfl, h⟩
/-- A box is no row: their types part. -/
theorem GRow.ne_box {g p : Nat} {c : Array Value} {t' : TypeId} (h : GRow C t base w (some ⟨g, 0, none⟩) cap l) (hp : w.heap[p]? = some (.cells c t')) (ht : t ≠ t') : g ≠ p := fun e => by
  subst e
  rcases h.2 with ⟨e, _⟩ | ⟨g', c', cur, e, _, hg, _⟩
  · simp at e
  · simp only [Value.slice.injEq, Option.some.injEq, Addr.mk.injEq] at e
    rw [← e.1.1, hp] at hg
    simp only [Option.some.injEq, Obj.cells.injEq] at hg
    exact ht hg.2.1.symm
end
/-- New cells of one element. -/
theorem cells_newG {α : Type} (C : Cells α) (w : World) (v : α) (t : TypeId) : ∀ j u, (C.cells v)[j]? = some u → (w.alloc (.cells (C.cells v).toArray t)).cell? ((⟨w.heap.size, 0, none⟩ : Addr).add j) = some u := by
  intro j u hj
  rw [addr_add, Nat.zero_add]
  have := blk_new w (.cells (C.cells v).toArray t)
  unfold World.cell?
  rw [this]
  simpa using hj
end Go.Proofs.Ytgmjdalfbebgbaa
