/- Nodes copied by the laws: a row of numbers, a node, a list of nodes, all of the call's own. -/
import Derived.Test.YtdapongofiohgaaNdRead
namespace Go.Proofs.Ytdapongofiohgaa
open Go.ChangeShapes Go.WideShapes Go.ChangeAt Go.RowKit
set_option linter.unusedVariables false
set_option linter.unusedSimpArgs false

/-- In block p lie these numbers and nothing else; it may be written. -/
def IntBlk (w : World) (p : Nat) (l : List Int) : Prop := TabAt (fun z => [z]) 1 l.length 2 w p l
section
variable {w w' : World} {p : Nat} {l : List Int}
theorem IntBlk.ints (h : IntBlk w p l) : IntsAt w.heap.size w (some ⟨p, 0, none⟩) l := TabAt.rows h
theorem IntBlk.next (h : IntBlk w p l) (hb : Below w.heap.size w w') : IntBlk w' p l := TabAt.next h hb
theorem IntBlk.keep (h : IntBlk w p l) (hg : w'.heap[p]? = w.heap[p]?) : IntBlk w' p l := TabAt.keep h hg
theorem IntBlk.lt (h : IntBlk w p l) : p < w.heap.size := TabAt.lt h
end
theorem infoInt' : (Try.prog.info? 2).map (fun i => (i.zero, i.size, i.bytes)) = some (some (.int .i64 0), 1, 8) := by kernel_rfl
theorem infoNd' : (Try.prog.info? 48).map (fun i => (i.zero, i.size, i.bytes)) = some (some (.agg #[.bool false, .slice none 0 0, .int .i64 0, .int .i64 0]), 4, 48) := by kernel_rfl
/-- So many of the first of them lie in block g, which has room for all. -/
def IntTab (m : Nat) (w : World) (g : Nat) (l : List Int) : Prop := TabAt (fun z => [z]) 1 m 2 w g l
theorem IntTab.put {m g : Nat} {w : World} {l : List Int} (h : IntTab m w g l) (hk : l.length < m) (z : Int) : IntTab m (w.setCell ⟨g, l.length, none⟩ (.int .i64 z)) g (l ++ [z]) := by
  obtain ⟨cur, h1, h2, h3, h4⟩ := h
  refine ⟨_, heap_set h1 _ _, by simp [h2], by simp; omega, fun i u j y hi hj => ?_⟩
  simp only [Array.getElem?_setIfInBounds]
  match j, hj with
  | 0, hj =>
    simp at hj
    subst hj
    rcases Nat.lt_or_ge i l.length with hl | hl
    · rw [List.getElem?_append_left hl] at hi
      rw [if_neg (by omega)]
      exact h4 i u 0 u hi rfl
    · have e : i = l.length := by
        have := (List.getElem?_eq_some_iff.1 hi).1
        simp at this
        omega
      subst e
      simp at hi
      subst hi
      rw [if_pos (by omega), if_pos (by omega)]
  | j + 1, hj => simp at hj
theorem take_nextI {l : List Int} {k : Nat} {v : Int} (h : l[k]? = some v) : l.take (k + 1) = l.take k ++ [v] := by rw [List.take_add_one, h]; rfl
def FreshInts (W : World) (l : List Int) : Ending → World → Prop := fun e w' => ∃ p, e = .returned (.slice (some ⟨p, 0, none⟩) l.length l.length) ∧ W.heap.size ≤ p ∧ IntBlk w' p l ∧ Below W.heap.size W w'
/-- A node's cells, read off its block. -/
theorem node_cells {W : World} {b : Nat} {v : Nd} {q : Option Addr} {c : Nat} {T : TypeId} (e : W.heap[b]? = some (.cells #[.bool v.src, .slice q v.peers.length c, .int .i64 v.ref, .int .i64 v.str] T)) : W.cell? ⟨b, 0, none⟩ = some (.bool v.src) ∧ W.cell? ⟨b, 1, none⟩ = some (.slice q v.peers.length c) ∧ W.cell? ⟨b, 2, none⟩ = some (.int .i64 v.ref) ∧ W.cell? ⟨b, 3, none⟩ = some (.int .i64 v.str) := by simp [World.cell?, e]
theorem four_cells {W : World} {b : Nat} {x0 x1 x2 x3 : Value} {T : TypeId} (e : W.heap[b]? = some (.cells #[x0, x1, x2, x3] T)) : (W.cell? ⟨b, 0, none⟩ = some x0 ∧ W.cell? ⟨b, 1, none⟩ = some x1 ∧ W.cell? ⟨b, 2, none⟩ = some x2 ∧ W.cell? ⟨b, 3, none⟩ = some x3) ∧ W.frozen? ⟨b, 0, none⟩ = false ∧ W.frozen? ⟨b, 1, none⟩ = false ∧ W.frozen? ⟨b, 2, none⟩ = false ∧ W.frozen? ⟨b, 3, none⟩ = false := by simp [World.cell?, World.frozen?, e]
theorem blk_other {W : World} {b b' : Nat} {o : Obj} (e : W.heap[b]? = some o) (hne : b' ≠ b) (j : Nat) (z : Value) : (W.setCell ⟨b', j, none⟩ z).heap[b]? = some o := by simpa [World.setCell, Array.getElem?_modify, hne] using e
theorem four_put {W : World} {b : Nat} {x0 x1 x2 x3 : Value} {T : TypeId} (e : W.heap[b]? = some (.cells #[x0, x1, x2, x3] T)) (y0 y1 y2 y3 : Value) : ((((W.setCell ⟨b, 0, none⟩ y0).setCell ⟨b, 1, none⟩ y1).setCell ⟨b, 2, none⟩ y2).setCell ⟨b, 3, none⟩ y3).heap[b]? = some (.cells #[y0, y1, y2, y3] T) := heap_set (heap_set (heap_set (heap_set e 0 y0) 1 y1) 2 y2) 3 y3
def zeroNd : Nd := ⟨false, [], 0, 0⟩
def FreshNode (W : World) (v : Nd) : Ending → World → Prop := fun e w' => ∃ p, e = .returned (.agg #[.bool v.src, .slice (some ⟨p, 0, none⟩) v.peers.length v.peers.length, .int .i64 v.ref, .int .i64 v.str]) ∧ W.heap.size ≤ p ∧ IntBlk w' p v.peers ∧ Below W.heap.size W w'
/-- In block g lie these nodes from its head on; it has room for m of them and may be written; each one's peers lie in a block of their own behind g. -/
def NdTab (m : Nat) (w : World) (g : Nat) (l : List Nd) : Prop :=
  ∃ cur : Array Value, w.heap[g]? = some (.cells cur 48 (0, 0)) ∧ cur.size = m * 4 ∧ l.length ≤ m ∧ ∀ i v, l[i]? = some v → ∃ p, g < p ∧ cur[i * 4]? = some (.bool v.src) ∧ cur[i * 4 + 1]? = some (.slice (some ⟨p, 0, none⟩) v.peers.length v.peers.length) ∧ cur[i * 4 + 2]? = some (.int .i64 v.ref) ∧ cur[i * 4 + 3]? = some (.int .i64 v.str) ∧ IntBlk w p v.peers ∧ v.peers.length ≤ maxLen
section
variable {m g : Nat} {w w' : World} {l : List Nd}
theorem NdTab.lt (h : NdTab m w g l) : g < w.heap.size := by
  obtain ⟨cur, hg, _⟩ := h
  exact (Array.getElem?_eq_some_iff.1 hg).1
theorem NdTab.next (h : NdTab m w g l) (hb : Below w.heap.size w w') : NdTab m w' g l := by
  have hlt := h.lt
  obtain ⟨cur, h1, h2, h3, h4⟩ := h
  refine ⟨cur, (hb.block g hlt).trans h1, h2, h3, fun i v hi => ?_⟩
  obtain ⟨p, hp, c0, c1, c2, c3, hI, hm⟩ := h4 i v hi
  exact ⟨p, hp, c0, c1, c2, c3, hI.next hb, hm⟩
theorem NdTab.nds (h : NdTab m w g l) : Nds w.heap.size w (some ⟨g, 0, none⟩) l := by
  have hlt := h.lt
  obtain ⟨cur, h1, h2, h3, h4⟩ := h
  refine .inr ⟨g, 0, rfl, hlt, fun i v hi => ?_⟩
  obtain ⟨p, hp, c0, c1, c2, c3, hI, hm⟩ := h4 i v hi
  refine ⟨some ⟨p, 0, none⟩, v.peers.length, ?_, ?_, ?_, ?_, hI.ints, Nat.le_refl _, hm⟩ <;> simp [World.cell?, h1, c0, c1, c2, c3]
theorem NdTab.room (h : NdTab m w g l) {k : Nat} (hk : k < m) : ((∃ u, w.cell? ⟨g, k * 4, none⟩ = some u) ∧ (∃ u, w.cell? ⟨g, k * 4 + 1, none⟩ = some u) ∧ (∃ u, w.cell? ⟨g, k * 4 + 2, none⟩ = some u) ∧ (∃ u, w.cell? ⟨g, k * 4 + 3, none⟩ = some u)) ∧ w.frozen? ⟨g, k * 4, none⟩ = false ∧ w.frozen? ⟨g, k * 4 + 1, none⟩ = false ∧ w.frozen? ⟨g, k * 4 + 2, none⟩ = false ∧ w.frozen? ⟨g, k * 4 + 3, none⟩ = false := by
  obtain ⟨cur, h1, h2, _⟩ := h
  refine ⟨⟨⟨cur[k * 4]'(by omega), ?_⟩, ⟨cur[k * 4 + 1]'(by omega), ?_⟩, ⟨cur[k * 4 + 2]'(by omega), ?_⟩, ⟨cur[k * 4 + 3]'(by omega), ?_⟩⟩, ?_, ?_, ?_, ?_⟩
  · simp [World.cell?, h1, show k * 4 < cur.size by omega]
  · simp [World.cell?, h1, show k * 4 + 1 < cur.size by omega]
  · simp [World.cell?, h1, show k * 4 + 2 < cur.size by omega]
  · simp [World.cell?, h1, show k * 4 + 3 < cur.size by omega]
  all_goals simp [World.frozen?, h1]
theorem NdTab.put (h : NdTab m w g l) (hk : l.length < m) (v : Nd) {p : Nat} (hp : g < p) (hI : IntBlk w p v.peers) (hm : v.peers.length ≤ maxLen) :
    NdTab m ((((w.setCell ⟨g, l.length * 4, none⟩ (.bool v.src)).setCell ⟨g, l.length * 4 + 1, none⟩ (.slice (some ⟨p, 0, none⟩) v.peers.length v.peers.length)).setCell ⟨g, l.length * 4 + 2, none⟩ (.int .i64 v.ref)).setCell ⟨g, l.length * 4 + 3, none⟩ (.int .i64 v.str)) g (l ++ [v]) := by
  obtain ⟨cur, h1, h2, h3, h4⟩ := h
  refine ⟨_, heap_set (heap_set (heap_set (heap_set h1 _ _) _ _) _ _) _ _, by simp [h2], by simp; omega, fun i u hi => ?_⟩
  simp only [Array.getElem?_setIfInBounds, Array.size_setIfInBounds]
  have hkeep : ∀ {q : Nat} {ns : List Int}, g < q → IntBlk w q ns → IntBlk ((((w.setCell ⟨g, l.length * 4, none⟩ (.bool v.src)).setCell ⟨g, l.length * 4 + 1, none⟩ (.slice (some ⟨p, 0, none⟩) v.peers.length v.peers.length)).setCell ⟨g, l.length * 4 + 2, none⟩ (.int .i64 v.ref)).setCell ⟨g, l.length * 4 + 3, none⟩ (.int .i64 v.str)) q ns := fun hq hb => hb.keep (by simp [World.setCell, Array.getElem?_modify, Nat.ne_of_lt hq])
  rcases Nat.lt_or_ge i l.length with hl | hl
  · rw [List.getElem?_append_left hl] at hi
    obtain ⟨q, hq, c0, c1, c2, c3, hJ, hn⟩ := h4 i u hi
    refine ⟨q, hq, ?_, ?_, ?_, ?_, hkeep hq hJ, hn⟩
    · rw [if_neg (by omega), if_neg (by omega), if_neg (by omega), if_neg (by omega)]; exact c0
    · rw [if_neg (by omega), if_neg (by omega), if_neg (by omega), if_neg (by omega)]; exact c1
    · rw [if_neg (by omega), if_neg (by omega), if_neg (by omega), if_neg (by omega)]; exact c2
    · rw [if_neg (by omega), if_neg (by omega), if_neg (by omega), if_neg (by omega)]; exact c3
  · have e : i = l.length := by
      have := (List.getElem?_eq_some_iff.1 hi).1
      simp at this
      omega
    subst e
    simp at hi
    subst hi
    refine ⟨p, hp, ?_, ?_, ?_, ?_, hkeep hp hI, hm⟩
    · rw [if_neg (by omega), if_neg (by omega), if_neg (by omega), if_pos (by omega), if_pos (by omega)]
    · rw [if_neg (by omega), if_neg (by omega), if_pos (by omega), if_pos (by omega)]
    · rw [if_neg (by omega), if_pos (by omega), if_pos (by omega)]
    · rw [if_pos (by omega), if_pos (by omega)]
end
theorem take_nextN {l : List Nd} {k : Nat} {v : Nd} (h : l[k]? = some v) : l.take (k + 1) = l.take k ++ [v] := by rw [List.take_add_one, h]; rfl
/-- A list of nodes of the call's own: all of it lies behind what was there. -/
def FreshNds (n : Nat) (W : World) (l : List Nd) : Ending → World → Prop := fun e w' => ∃ g, e = .returned (.slice (some ⟨g, 0, none⟩) n n) ∧ NdTab n w' g l ∧ W.heap.size ≤ g ∧ Below W.heap.size W w'
end Go.Proofs.Ytdapongofiohgaa
