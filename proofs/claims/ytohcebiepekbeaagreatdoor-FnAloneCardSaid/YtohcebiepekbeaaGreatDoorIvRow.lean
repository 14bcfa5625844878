/- Rows of intervals of the call's own. -/
import Derived.Test.YtohcebiepekbeaaGreatDoorIvs
import Derived.Laws.AppendOwn
import Derived.Laws.OwnMore
namespace Go.Proofs.YtohcebiepekbeaaGreatDoor
open Go.ChangeShapes Go.WideShapes Go.ChangeAt Go.RowKit
set_option linter.unusedVariables false
set_option linter.unusedSimpArgs false

def Iv.cells (v : Iv) : List Value := [.int .i64 v.lo, .int .i64 v.hi]
def flatIv (l : List Iv) : List Value := l.flatMap Iv.cells
theorem flatIv_cons (e : Iv) (l : List Iv) : flatIv (e :: l) = .int .i64 e.lo :: .int .i64 e.hi :: flatIv l := rfl
theorem flatIv_append (a b : List Iv) : flatIv (a ++ b) = flatIv a ++ flatIv b := by simp [flatIv]
theorem flatIv_at {l : List Iv} {k : Nat} {e : Iv} (h : l[k]? = some e) : (flatIv l)[k * 2]? = some (.int .i64 e.lo) ∧ (flatIv l)[k * 2 + 1]? = some (.int .i64 e.hi) := by
  induction l generalizing k with
  | nil => simp at h
  | cons a l ih =>
    cases k with
    | zero => simp at h; subst h; exact ⟨rfl, rfl⟩
    | succ k =>
      rw [List.getElem?_cons_succ] at h
      have := ih h
      rw [show (k + 1) * 2 = k * 2 + 2 by omega, flatIv_cons]
      exact this

/-- A row of intervals of the call's own. -/
def IvRow (base : Nat) (W : World) (x : Option Addr) (cap : Nat) (l : List Iv) : Prop := W.ownsRow base 45 2 (.slice x l.length cap) l.length (flatIv l)
section
variable {base : Nat} {W W' : World} {x : Option Addr} {cap : Nat} {l : List Iv}
theorem IvRow.ivs (h : IvRow base W x cap l) : Ivs W.heap.size W x l := by
  have h0 := h
  rcases h.2 with ⟨e, e0⟩ | ⟨g, c, cur, e, hb, hg, _⟩
  · exact .inl (List.eq_nil_of_length_eq_zero e0)
  · simp only [Value.slice.injEq] at e
    obtain ⟨rfl, _, rfl⟩ := e
    refine .inr ⟨g, 0, rfl, (Array.getElem?_eq_some_iff.1 hg).1, fun i v j z hi hj => ?_⟩
    have hil := (List.getElem?_eq_some_iff.1 hi).1
    obtain ⟨f0, f1⟩ := flatIv_at hi
    match j, hj with
    | 0, hj =>
      simp [Iv.row] at hj
      subst hj
      rw [World.ownsRow.cellAt h0 _ (by omega)]
      simpa using f0
    | 1, hj =>
      simp [Iv.row] at hj
      subst hj
      rw [World.ownsRow.cellAt h0 _ (by omega)]
      simpa using f1
    | j + 2, hj => simp [Iv.row] at hj
theorem IvRow.keep {row : Option Nat} (h : IvRow base W x cap l) (hg : W.grownBy W' row) (hne : ∀ g, x = some ⟨g, 0, none⟩ → some g ≠ row) : IvRow base W' x cap l := by
  refine ⟨h.1, ?_⟩
  rcases h.2 with e | ⟨g, c, cur, e, hb', hgg, r⟩
  · exact .inl e
  · refine .inr ⟨g, c, cur, e, hb', (hg.block g (Array.getElem?_eq_some_iff.1 hgg).1 (hne g ?_)).trans hgg, r⟩
    simp only [Value.slice.injEq] at e
    exact e.1
theorem IvRow.next (h : IvRow base W x cap l) (hb : Below W.heap.size W W') : IvRow base W' x cap l :=
  h.keep (row := none) ⟨hb.os, hb.tape, hb.output, hb.size, fun k hk _ => hb.block k hk⟩ (fun _ _ => by simp)
theorem IvRow.ge (h : IvRow base W x cap l) : ∀ g, x = some ⟨g, 0, none⟩ → base ≤ g ∧ g < W.heap.size := fun g e => by
  subst e
  exact World.ownsRow.lt h g rfl
theorem IvRow.cap_ (h : IvRow base W x cap l) : l.length ≤ cap ∧ cap ≤ maxLen := by
  rcases h.2 with ⟨e, e0⟩ | ⟨g, c, cur, e, hb, hg, a, b, _⟩
  · simp only [Value.slice.injEq] at e
    obtain ⟨_, _, rfl⟩ := e
    exact ⟨by omega, Nat.zero_le _⟩
  · simp only [Value.slice.injEq] at e
    obtain ⟨_, _, rfl⟩ := e
    exact ⟨a, b⟩
end
theorem infoIv' : (Tryz.prog.info? 45).map (fun i => (i.zero, i.size, i.bytes)) = some (some (.agg #[.int .i64 0, .int .i64 0]), 2, 16) := by kernel_rfl
theorem cell_two_new (w : World) (u v : Value) (t : TypeId) : ∀ j z, [u, v][j]? = some z → (w.alloc (.cells #[u, v] t)).cell? ((⟨w.heap.size, 0, none⟩ : Addr).add j) = some z := by
  intro j z hz
  match j, hz with
  | 0, hz => simp at hz; subst hz; simp [Addr.add]
  | 1, hz => simp at hz; subst hz; simp [Addr.add]
  | j + 2, hz => simp at hz
end Go.Proofs.YtohcebiepekbeaaGreatDoor
