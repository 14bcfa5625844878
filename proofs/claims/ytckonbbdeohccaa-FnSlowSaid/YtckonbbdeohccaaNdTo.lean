/- Nodes copied by the laws: a row of numbers, a node, a list of nodes, all of the call's own. -/
import Derived.Test.YtckonbbdeohccaaNdRead
namespace Go.Proofs.Ytckonbbdeohccaa
open Go.ChangeShapes Go.WideShapes Go.ChangeAt Go.RowKit
set_option linter.unusedVariables false
set_option linter.unusedSimpArgs false

/-- In block p lie these numbers and nothing else; it may be written. -/
def IntBlk (w : World) (p : Nat) (l : List Int) : Prop := TabAt (fun z => [z]) 1 l.length 2 w p l
section
variable {w w' : World} {p : Nat} {l : List Int}
theorem IntBlk.ints (h : IntBlk w p l) : IntsAt w.heap.size w (some ⟨p, 0, none⟩) l := TabAt.rows h
theorem IntBlk.next (h : IntBlk w p l) (hb : Below w.heap.size w w') : IntBlk w' p l := TabAt.next h hb
theorem IntBlk.keep (h : IntBlk w p l) (hg : w'.heap[p]? = w.heap[p]?) : IntBlk w' p l := TabAt.keep h hg
theorem IntBlk.lt (h : IntBlk w p l) : p < w.heap.size := TabAt.lt h
end
theorem infoInt' : (Try.prog.info? 2).map (fun i => (i.zero, i.size, i.bytes)) = some (some (.int .i64 0), 1, 8) := by kernel_rfl
/-- So many of the first of them lie in block g, which has room for all. -/
def IntTab (m : Nat) (w : World) (g : Nat) (l : List Int) : Prop := TabAt (fun z => [z]) 1 m 2 w g l
theorem IntTab.put {m g : Nat} {w : World} {l : List Int} (h : IntTab m w g l) (hk : l.length < m) (z : Int) : IntTab m (w.setCell ⟨g, l.length, none⟩ (.int .i64 z)) g (l ++ [z]) := by
  obtain ⟨cur, h1, h2, h3, h4⟩ := h
  refine ⟨_, heap_set h1 _ _, by simp [h2], by simp; omega, fun i u j y hi hj => ?_⟩
  simp only [Array.getElem?_setIfInBounds]
  match j, hj with
  | 0, hj =>
    simp at hj
    subst hj
    rcases Nat.lt_or_ge i l.length with hl | hl
    · rw [List.getElem?_append_left hl] at hi
      rw [if_neg (by omega)]
      exact h4 i u 0 u hi rfl
    · have e : i = l.length := by
        have := (List.getElem?_eq_some_iff.1 hi).1
        simp at this
        omega
      subst e
      simp at hi
      subst hi
      rw [if_pos (by omega), if_pos (by omega)]
  | j + 1, hj => simp at hj
theorem take_nextI {l : List Int} {k : Nat} {v : Int} (h : l[k]? = some v) : l.take (k + 1) = l.take k ++ [v] := by rw [List.take_add_one, h]; rfl
def FreshInts (W : World) (l : List Int) : Ending → World → Prop := fun e w' => ∃ p, e = .returned (.slice (some ⟨p, 0, none⟩) l.length l.length) ∧ W.heap.size ≤ p ∧ IntBlk w' p l ∧ Below W.heap.size W w'
set_option maxHeartbeats 1000000 in
theorem toInts_c (l : List Int) (n : Nat) (hn : Hid (n = l.length)) (hm : n ≤ 1048576) (x : Option Addr) (cap : Nat) (w : World) (h : IntsAt w.heap.size w x l) :
    Calls Try.prog 19 #[.slice x n cap] w (FreshInts w l) := by
  have hmk := run_make_tab (P := Try.prog) Try.underlying35 infoInt' n (by omega) hm
  have hT : IntTab n (w.alloc (.cells (madeCells (Value.int .i64 0).cells (n * 1)) 2)) w.heap.size [] := TabAt.made _ rfl w (Nat.zero_le _)
  rw [Nat.mul_one] at hT
  simp only [Nat.mul_one] at hmk
  go_enter Try.func19, Try.ntmps19
  go_wp2
  go_loopw [4] (fun i wr => ∃ k : Nat, k ≤ n ∧ i = .int .i64 k ∧ IntTab n wr w.heap.size (l.take k) ∧ Below w.heap.size w wr) (fun i _ => n - (intOf i).toNat)
  case atStart => exact ⟨0, Nat.zero_le _, rfl, hT, by go_grown⟩
  case round =>
    obtain ⟨k, hk, rfl, ht, hb⟩ := hrel
    clear hmk
    by_cases hlt : k < n
    · obtain ⟨v, hv⟩ := getI (l := l) (k := k) (by rw [← hn.out]; exact hlt)
      obtain ⟨b, off, rfl, hbB, c0⟩ := (h.next hb).at_ hv
      have HV := Lib.hid (take_nextI hv)
      have HK := Lib.hid (show (l.take k).length = k by have := hn.out; simp; omega)
      obtain ⟨⟨u0, r0⟩, f0⟩ := TabAt.room ht (o := k) (by omega)
      have hp := ht.put (by rw [HK.out]; exact hlt) v
      rw [HK.out, ← HV.out] at hp
      have G := below_setCell hb (Nat.le_refl w.heap.size) k (.int .i64 v)
      clear hv
      go_wp2_with fail
      go_roundw
      case rel => exact ⟨k + 1, by omega, by go_num, hp, G⟩
      case measure => simp [intOf]; omega
    · have e : k = n := by omega
      have hT' : IntBlk wr w.heap.size l := by
        rw [e, hn.out, List.take_length] at ht
        exact ht
      have HE := Lib.hid hn.out
      clear e
      go_wp2_with fail
      go_returns
      exact ⟨w.heap.size, (by rw [← HE.out]; rfl), Nat.le_refl _, hT', hb⟩
/-- A node's cells, read off its block. -/
theorem node_cells {W : World} {b : Nat} {v : Nd} {q : Option Addr} {c : Nat} {T : TypeId} (e : W.heap[b]? = some (.cells #[.bool v.src, .slice q v.peers.length c, .int .i64 v.ref, .int .i64 v.str] T)) : W.cell? ⟨b, 0, none⟩ = some (.bool v.src) ∧ W.cell? ⟨b, 1, none⟩ = some (.slice q v.peers.length c) ∧ W.cell? ⟨b, 2, none⟩ = some (.int .i64 v.ref) ∧ W.cell? ⟨b, 3, none⟩ = some (.int .i64 v.str) := by simp [World.cell?, e]
theorem four_cells {W : World} {b : Nat} {x0 x1 x2 x3 : Value} {T : TypeId} (e : W.heap[b]? = some (.cells #[x0, x1, x2, x3] T)) : (W.cell? ⟨b, 0, none⟩ = some x0 ∧ W.cell? ⟨b, 1, none⟩ = some x1 ∧ W.cell? ⟨b, 2, none⟩ = some x2 ∧ W.cell? ⟨b, 3, none⟩ = some x3) ∧ W.frozen? ⟨b, 0, none⟩ = false ∧ W.frozen? ⟨b, 1, none⟩ = false ∧ W.frozen? ⟨b, 2, none⟩ = false ∧ W.frozen? ⟨b, 3, none⟩ = false := by simp [World.cell?, World.frozen?, e]
theorem blk_other {W : World} {b b' : Nat} {o : Obj} (e : W.heap[b]? = some o) (hne : b' ≠ b) (j : Nat) (z : Value) : (W.setCell ⟨b', j, none⟩ z).heap[b]? = some o := by simpa [World.setCell, Array.getElem?_modify, hne] using e
theorem four_put {W : World} {b : Nat} {x0 x1 x2 x3 : Value} {T : TypeId} (e : W.heap[b]? = some (.cells #[x0, x1, x2, x3] T)) (y0 y1 y2 y3 : Value) : ((((W.setCell ⟨b, 0, none⟩ y0).setCell ⟨b, 1, none⟩ y1).setCell ⟨b, 2, none⟩ y2).setCell ⟨b, 3, none⟩ y3).heap[b]? = some (.cells #[y0, y1, y2, y3] T) := heap_set (heap_set (heap_set (heap_set e 0 y0) 1 y1) 2 y2) 3 y3
def zeroNd : Nd := ⟨false, [], 0, 0⟩
def FreshNode (W : World) (v : Nd) : Ending → World → Prop := fun e w' => ∃ p, e = .returned (.agg #[.bool v.src, .slice (some ⟨p, 0, none⟩) v.peers.length v.peers.length, .int .i64 v.ref, .int .i64 v.str]) ∧ W.heap.size ≤ p ∧ IntBlk w' p v.peers ∧ Below W.heap.size W w'
section
variable {m g : Nat} {w w' : World} {l : List Nd}
end
theorem take_nextN {l : List Nd} {k : Nat} {v : Nd} (h : l[k]? = some v) : l.take (k + 1) = l.take k ++ [v] := by rw [List.take_add_one, h]; rfl
end Go.Proofs.Ytckonbbdeohccaa
