/- All edges of a list of intervals, in their order. -/
import Derived.Test.YtohcebiepekbeaaGreatDoorEdges
namespace Go.Proofs.YtohcebiepekbeaaGreatDoor
open Go.ChangeShapes Go.WideShapes Go.ChangeAt Go.RowKit
set_option linter.unusedVariables false
set_option linter.unusedSimpArgs false
attribute [local go_sem] run_store_func

def edgesIn (l : List Iv) : List Ed := l.flatMap fun v => [⟨v.lo, 1⟩, ⟨v.hi, -1⟩]
theorem edgesIn_length (l : List Iv) : (edgesIn l).length = l.length * 2 := by
  induction l with
  | nil => rfl
  | cons v l ih => simp only [edgesIn, List.flatMap_cons, List.length_append, List.length_cons, List.length_nil] at ih ⊢; omega
theorem edgesIn_next {l : List Iv} {k : Nat} {v : Iv} (h : l[k]? = some v) : edgesIn (l.take (k + 1)) = edgesIn (l.take k) ++ [⟨v.lo, 1⟩, ⟨v.hi, -1⟩] := by
  rw [take_next h]; simp [edgesIn]

/-- A row of all edges, in their order; nothing that lay has turned. -/
def EdgesPost (w : World) (l : List Iv) : Ending → World → Prop := fun r w' =>
  ∃ (y : Option Addr) (c : Nat) (E : List Ed), r = .returned (.slice y E.length c) ∧ EdRow w.heap.size w' y c E ∧ SortedEd E ∧ E.Perm (edgesIn l) ∧ Below w.heap.size w w'

/-- The list's state behind so many. -/
def EdgesAt (w wr : World) (l : List Iv) (k : Nat) : Prop :=
  ∃ (y : Option Addr) (c : Nat) (E : List Ed), ListAt wr w.heap.size y E.length c ∧ EdRow w.heap.size wr y c E ∧ SortedEd E ∧ E.Perm (edgesIn (l.take k)) ∧ Below w.heap.size w wr

set_option maxHeartbeats 1000000 in
theorem edgesOf_c (l : List Iv) (n : Nat) (hn : Hid (n = l.length)) (hm : n ≤ 20) (x : Option Addr) (cap : Nat) (w : World) (h : Ivs w.heap.size w x l) :
    Calls Tryz.prog 84 #[.slice x n cap] w (EdgesPost w l) := by
  go_enter Tryz.func84, Tryz.ntmps84
  go_wp2
  go_loopw [9] (fun i wr => ∃ k : Nat, k ≤ n ∧ i = .int .i64 k ∧ EdgesAt w wr l k) (fun i _ => n - (intOf i).toNat)
  case atStart =>
    refine ⟨0, Nat.zero_le _, rfl, none, 0, [], ?_, ?_, List.Pairwise.nil, List.Perm.refl _, by go_grown⟩
    · exact blk_new _ _
    · exact World.ownsRow_nil _ _ _ _
  case round =>
    obtain ⟨k, hk, rfl, y, c, E, hL, hE, hS, hP, hB⟩ := hrel
    have HP := Lib.hid hP
    have hEl : E.length = k * 2 := by
      rw [hP.length_eq, edgesIn_length, List.length_take]
      have := hn.out
      omega
    clear hP
    by_cases hlt : k < n
    · obtain ⟨v, hv⟩ := get_at (l := l) (k := k) (by rw [← hn.out]; exact hlt)
      obtain ⟨b, off, rfl, hbB, c0, c1⟩ := (h.next hB).at_ hv
      have HV := Lib.hid (edgesIn_next hv)
      clear hv
      obtain ⟨m, hm'⟩ : ∃ m, m = E.length := ⟨_, rfl⟩
      have hm2 : m = k * 2 := hm'.trans hEl
      have HM := Lib.hid hm'
      rw [← hm'] at hL
      clear hEl hm'
      have hB1 : Below w.heap.size w (wr.alloc (.cells #[.int .i64 v.lo, .int .i64 v.hi] 45)) := hB.alloc (by have := hB.size; omega) _
      have V1 := blk_new wr (.cells #[.int .i64 v.lo, .int .i64 v.hi] 45)
      have hws : w.heap.size ≤ wr.heap.size := hB.size
      have l1 : wr.heap.size ≠ w.heap.size := by have := (Array.getElem?_eq_some_iff.1 hL).1; omega
      have hL0 := hL.next (below_new wr (.cells #[.int .i64 v.lo, .int .i64 v.hi] 45))
      have hE0 := hE.next (below_new wr (.cells #[.int .i64 v.lo, .int .i64 v.hi] 45))
      have hlt0 := hE.lt
      clear hL hE hB
      go_wp2_with fail
      refine (put_c w.heap.size w.heap.size ⟨v.lo, 1⟩ E m HM (by omega) y c _ (Nat.le_refl _) hL0 hE0 hS).mono ?_
      rintro r w1 ⟨y1, c1', E1, rfl, hL1, hE1, hS1, hP1, hB2, hK1⟩
      have V2 : w1.heap[wr.heap.size]? = some (.cells #[.int .i64 v.lo, .int .i64 v.hi] 45) := (hK1 _ (by simp) l1 (fun e => by have := (hlt0 _ e.symm).2; omega)).trans V1
      have hB2 := hB1.trans hB2
      obtain ⟨v0, v1⟩ := iv_cells V2
      obtain ⟨m1, hm1⟩ : ∃ m1, m1 = E1.length := ⟨_, rfl⟩
      have hml : m1 = m + 1 := by rw [hm1, hP1.length_eq, List.length_cons, ← HM.out]
      have HM1 := Lib.hid hm1
      rw [← hm1] at hL1
      have HP1 := Lib.hid hP1
      clear hm1 hP1 hK1 c0 c1
      go_wp2_with fail
      refine (put_c w.heap.size w.heap.size ⟨v.hi, -1⟩ E1 m1 HM1 (by omega) y1 c1' _ (Nat.le_refl _) hL1 hE1 hS1).mono ?_
      rintro r w2 ⟨y2, c2', E2, rfl, hL2, hE2, hS2, hP2, hB3, _⟩
      have hB3 := hB2.trans hB3
      go_wp2_with fail
      go_roundw
      case rel =>
        refine ⟨k + 1, by omega, by go_num, y2, c2', E2, hL2, hE2, hS2, ?_, hB3⟩
        rw [HV.out]
        refine hP2.trans ?_
        refine (List.Perm.cons _ HP1.out).trans ?_
        refine (List.Perm.swap _ _ _).trans ?_
        refine (((HP.out).cons _).cons _).trans ?_
        exact (List.perm_append_comm (l₁ := [(⟨v.lo, 1⟩ : Ed), ⟨v.hi, -1⟩]))
      case measure => simp [intOf]; omega
    · have e : k = n := by omega
      have hP' : E.Perm (edgesIn l) := by
        have := HP.out
        rw [e, hn.out, List.take_length] at this
        exact this
      have HP' := Lib.hid hP'
      obtain ⟨l0, l1⟩ := hL.cells
      clear e hP' hEl
      go_wp2_with fail
      go_returns
      exact ⟨y, c, E, rfl, hE, hS, HP'.out, hB⟩
end Go.Proofs.YtohcebiepekbeaaGreatDoor
