/- A row of nodes of the call's own, each with a row of peers of its own; copied by the program. -/
import Derived.Test.YtckonbbdeohccaaNdTo
import Derived.Laws.OwnMore
import Derived.Laws.Cover3
import Derived.Maps.AppendAt
import Derived.Lib.QuietBelow
namespace Go.Proofs.Ytckonbbdeohccaa
open Go.ChangeShapes Go.WideShapes Go.ChangeAt Go.RowKit Go.Sort
set_option linter.unusedVariables false
set_option linter.unusedSimpArgs false

/-- A node and where its peers lie. -/
structure Np where
  v : Nd
  px : Option Addr
  pc : Nat
def Np.cells (e : Np) : List Value := [.bool e.v.src, .slice e.px e.v.peers.length e.pc, .int .i64 e.v.ref, .int .i64 e.v.str]
theorem Np.cells_len (e : Np) : e.cells.length = 4 := rfl
def flatNp (E : List Np) : List Value := E.flatMap Np.cells
theorem flatNp_append (a b : List Np) : flatNp (a ++ b) = flatNp a ++ flatNp b := by simp [flatNp]
theorem flatNp_len (E : List Np) : (flatNp E).length = E.length * 4 := by
  induction E with
  | nil => rfl
  | cons a E ih =>
    have e : flatNp (a :: E) = a.cells ++ flatNp E := rfl
    rw [e, List.length_append, ih, Np.cells_len, List.length_cons]
    omega
theorem flatNp_one {E : List Np} : ∀ v ∈ flatNp E, v.oneCell' = true := by
  intro v hv
  obtain ⟨e, _, h⟩ := List.mem_flatMap.1 hv
  simp [Np.cells] at h
  rcases h with rfl | rfl | rfl | rfl <;> rfl
theorem flatNp_at {E : List Np} {k : Nat} {e : Np} (h : E[k]? = some e) {j : Nat} {z : Value} (hj : e.cells[j]? = some z) : (flatNp E)[k * 4 + j]? = some z := by
  have hj4 : j < 4 := by have := (List.getElem?_eq_some_iff.1 hj).1; rwa [Np.cells_len] at this
  induction E generalizing k with
  | nil => simp at h
  | cons a E ih =>
    have e1 : flatNp (a :: E) = a.cells ++ flatNp E := rfl
    rw [e1]
    cases k with
    | zero =>
      simp at h
      subst h
      rw [Nat.zero_mul, Nat.zero_add, List.getElem?_append_left (by rw [Np.cells_len]; omega)]
      exact hj
    | succ k =>
      rw [List.getElem?_cons_succ] at h
      rw [List.getElem?_append_right (by rw [Np.cells_len]; omega), Np.cells_len, show (k + 1) * 4 + j - 4 = k * 4 + j by omega]
      exact ih h
/-- Its peers lie in a row of the call's own. -/
def PeersOwn (base : Nat) (w : World) (e : Np) : Prop := w.ownsRow base 2 1 (.slice e.px e.v.peers.length e.pc) e.v.peers.length (e.v.peers.map (Value.int .i64))
theorem PeersOwn.ints {base : Nat} {w : World} {e : Np} (h : PeersOwn base w e) : IntsAt w.heap.size w e.px e.v.peers ∧ e.v.peers.length ≤ e.pc ∧ e.pc ≤ maxLen := by
  have h0 := h
  rcases h.2 with ⟨e1, e0⟩ | ⟨g, c, cur, e1, hb, hg, a, b, _⟩
  · simp only [Value.slice.injEq] at e1
    exact ⟨.inl (List.eq_nil_of_length_eq_zero e0), by omega, by rw [e1.2.2]; exact Nat.zero_le _⟩
  · simp only [Value.slice.injEq] at e1
    obtain ⟨e2, _, e3⟩ := e1
    refine ⟨.inr ⟨g, 0, e2, (Array.getElem?_eq_some_iff.1 hg).1, fun i v j z hi hj => ?_⟩, by omega, by omega⟩
    have hil := (List.getElem?_eq_some_iff.1 hi).1
    match j, hj with
    | 0, hj =>
      simp at hj
      subst hj
      unfold PeersOwn at h0
      rw [e2] at h0
      rw [Nat.mul_one, Nat.zero_add, Nat.add_zero, World.ownsRow.cellAt h0 _ (by omega), List.getElem?_map, hi]
      rfl
    | j + 1, hj => simp at hj
/-- Each one's peers lie in a row of its own, apart from the row of the nodes. -/
def PeersAll (base : Nat) (w : World) (o : Value) (E : List Np) : Prop := ∀ e ∈ E, PeersOwn base w e ∧ ∀ p, (Value.slice e.px e.v.peers.length e.pc).ownBlock = some p → o.ownBlock ≠ some p
theorem PeersOwn.kept {base : Nat} {w w' : World} {e : Np} {row : Option Nat} (h : PeersOwn base w e) (hg : w.grownBy w' row) (hne : ∀ p, (Value.slice e.px e.v.peers.length e.pc).ownBlock = some p → row ≠ some p) : PeersOwn base w' e :=
  World.ownsRow.kept h hg (by
    cases hx : (Value.slice e.px e.v.peers.length e.pc).ownBlock with
    | none => exact .inl rfl
    | some p => exact .inr (fun e2 => hne p hx e2.symm))
theorem PeersOwn.lt {base : Nat} {w : World} {e : Np} (h : PeersOwn base w e) : ∀ p, (Value.slice e.px e.v.peers.length e.pc).ownBlock = some p → base ≤ p ∧ p < w.heap.size := fun p hp => World.ownsRow.lt h p hp
theorem grown_of_below {w w' : World} (h : Below w.heap.size w w') : w.grownBy w' none := ⟨h.os, h.tape, h.output, h.size, fun k hk _ => h.block k hk⟩
theorem PeersAll.next {base : Nat} {w w' : World} {o : Value} {E : List Np} (h : PeersAll base w o E) (hb : Below w.heap.size w w') : PeersAll base w' o E := fun e he => ⟨(h e he).1.kept (grown_of_below hb) (fun _ _ => by simp), (h e he).2⟩
theorem ownsRow_next {W W' : World} {base : Nat} {e : TypeId} {size : Nat} {v : Value} {n : Nat} {xs : List Value} (h : W.ownsRow base e size v n xs) (hb : Below W.heap.size W W') : W'.ownsRow base e size v n xs := by
  refine ⟨h.1, ?_⟩
  rcases h.2 with e | ⟨g, c, cur, e, hb', hg, r⟩
  · exact .inl e
  · exact .inr ⟨g, c, cur, e, hb', (hb.block g (Array.getElem?_eq_some_iff.1 hg).1).trans hg, r⟩
end Go.Proofs.Ytckonbbdeohccaa
