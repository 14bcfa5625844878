/- Numbers as bytes, the highest first: the program's way, by a range over a function. -/
import Derived.RangeFuncBox
import Derived.RangeFuncNested
import Derived.RangeFuncLeaves
import Derived.Shelf.Abstract
import Derived.WalkKit
import Derived.OwnWalkIn
import Derived.TacticsInMore
import Derived.LoopNIn
import Derived.LoopIn
import Derived.Maps.AppendAt
import Derived.Test.YteecemjbkpkpaaaDoorPut
namespace Go.Proofs.YteecemjbkpkpaaaDoor
open Go.ChangeShapes Go.WideShapes Go.ChangeAt Go.RowKit Go.Shelf
set_option linter.unusedVariables false

attribute [local go_sem] Oper.semAt_some

/-- What the iterator asks of a round that goes on: the box of its number holds it still. -/
def BoxKept (B : Nat) (v : Value) (W W' : World) : Prop := Boxed W B 2 v → Boxed W' B 2 v

set_option maxRecDepth 100000 in
set_option maxHeartbeats 2000000 in
/-- The iterator at a count of four: the four bytes, or the first few of them where a round says no more. -/
theorem highest4_in (F : Fence) (n : Nat) (hf : F.fn 58) (hro : F.round = none) (hn : 1 ≤ n) (l Bn Bc : Nat) (v : Int) (h0 : 0 ≤ v) (h1 : v < 4611686018427387904) (J Jx : List Int → World → Prop)
    (hY : ∀ pre x W, J pre W → pre.length < 4 → YieldAt F (n - 1) Tryd.prog l #[.int .u8 x] W fun e W' =>
      (e = .returned (.bool true) ∧ J (pre ++ [x]) W' ∧ BoxKept Bn (.int .i64 v) W W') ∨ (e = .returned (.bool false) ∧ Jx (pre ++ [x]) W'))
    (W : World) (hxn : Boxed W Bn 2 (.int .i64 v)) (hBc : W.cell? ⟨Bc, 0, none⟩ = some (.int .i64 4)) (hJ : J [] W) :
    CallsIn F n Tryd.prog 58 #[.func (.yield l) #[] #[], .pointer (some ⟨Bc, 0, none⟩), .pointer (some ⟨Bn, 0, none⟩)] W fun e W' => (∃ v, e = .returned v) ∧
      ((∃ ys, ys = nums4 v ∧ J ys W') ∨ (∃ pre, True ∧ Jx pre W')) := by
  refine callsIn_of_wp Tryd.func58 rfl hf ?_ hro
  simp only [Tryd.ntmps58, List.size_toArray, List.length_cons, List.length_nil, Nat.reduceAdd, Nat.reduceSub, Array.replicate_succ, Array.replicate_zero, List.push_toArray, List.append_toArray, List.nil_append, List.cons_append]
  have hBn := hxn.cell
  gi_wp2
  refine wpIn_loop_rounds 5 ?_
  rw [roundsIn_succ]
  obtain ⟨fn1, t1, a1, b1, hy1, hR1⟩ := hY [] (v / 16777216 % 256) W hJ (by simp)
  gi_wp2
  refine hR1.mono ?_
  rintro e W1 (⟨rfl, hJ1, hk1⟩ | ⟨rfl, hJx1⟩)
  · have hxn1 := hk1 hxn
    have hBn1 := hxn1.cell
    clear hBn hR1 hy1
    obtain ⟨fn2, t2, a2, b2, hy2, hR2⟩ := hY [v / 16777216 % 256] (v / 65536 % 256) W1 hJ1 (by simp)
    gi_wp2
    rw [roundsIn_succ]
    gi_wp2
    refine hR2.mono ?_
    rintro e W2 (⟨rfl, hJ2, hk2⟩ | ⟨rfl, hJx2⟩)
    · have hxn2 := hk2 hxn1
      have hBn2 := hxn2.cell
      clear hBn1 hR2 hy2
      obtain ⟨fn3, t3, a3, b3, hy3, hR3⟩ := hY [v / 16777216 % 256, v / 65536 % 256] (v / 256 % 256) W2 hJ2 (by simp)
      gi_wp2
      rw [roundsIn_succ]
      gi_wp2
      refine hR3.mono ?_
      rintro e W3 (⟨rfl, hJ3, hk3⟩ | ⟨rfl, hJx3⟩)
      · have hxn3 := hk3 hxn2
        have hBn3 := hxn3.cell
        clear hBn2 hR3 hy3
        obtain ⟨fn4, t4, a4, b4, hy4, hR4⟩ := hY [v / 16777216 % 256, v / 65536 % 256, v / 256 % 256] (v % 256) W3 hJ3 (by simp)
        gi_wp2
        rw [roundsIn_succ]
        gi_wp2
        refine hR4.mono ?_
        rintro e W4 (⟨rfl, hJ4, hk4⟩ | ⟨rfl, hJx4⟩)
        · gi_wp2
          rw [roundsIn_succ]
          gi_wp2
          go_end0
          exact ⟨⟨_, rfl⟩, .inl ⟨_, rfl, hJ4⟩⟩
        · gi_wp2
          refine bodyPost_ret (results_none rfl _ _ _) rfl ?_
          exact ⟨⟨_, rfl⟩, .inr ⟨_, trivial, hJx4⟩⟩
      · gi_wp2
        refine bodyPost_ret (results_none rfl _ _ _) rfl ?_
        exact ⟨⟨_, rfl⟩, .inr ⟨_, trivial, hJx3⟩⟩
    · gi_wp2
      refine bodyPost_ret (results_none rfl _ _ _) rfl ?_
      exact ⟨⟨_, rfl⟩, .inr ⟨_, trivial, hJx2⟩⟩
  · gi_wp2
    refine bodyPost_ret (results_none rfl _ _ _) rfl ?_
    exact ⟨⟨_, rfl⟩, .inr ⟨_, trivial, hJx1⟩⟩

set_option maxHeartbeats 1000000 in
/-- The maker of the iterator: both parameters are boxed; the function value captures the boxes. -/
theorem highest_in (F : Fence) (n : Nat) (hf : F.fn 43) (hro : F.round = none) (v c : Int) (w : World) :
    CallsIn F n Tryd.prog 43 #[.int .i64 v, .int .i64 c] w fun e w' => e = .returned (.func (.func 58) #[] #[.pointer (some ⟨w.heap.size + 1, 0, none⟩), .pointer (some ⟨w.heap.size, 0, none⟩)]) ∧
      w' = (w.alloc (.cells #[.int .i64 v] 2)).alloc (.cells #[.int .i64 c] 3) := by
  refine callsIn_of_wp Tryd.func43 rfl hf ?_ hro
  simp only [Tryd.ntmps43, List.size_toArray, List.length_cons, List.length_nil, Nat.reduceAdd, Nat.reduceSub, Array.replicate_succ, Array.replicate_zero, List.push_toArray, List.append_toArray, List.nil_append, List.cons_append]
  gi_wp2
  go_ret
  exact ⟨rfl, rfl⟩

theorem highest4_stops (F : Fence) (n : Nat) (hf : F.fn 58) (hro : F.round = none) (hn : 1 ≤ n) (Bn Bc : Nat) (v : Int) (h0 : 0 ≤ v) (h1 : v < 4611686018427387904) (w : World)
    (hBn : Boxed w Bn 2 (.int .i64 v)) (hBc : Boxed w Bc 3 (.int .i64 4)) :
    SeqStopsK F n Tryd.prog 58 #[.pointer (some ⟨Bc, 0, none⟩), .pointer (some ⟨Bn, 0, none⟩)] (fun x : Int => #[Value.int .u8 x]) (BoxKept Bn (.int .i64 v)) (fun ys => ys = nums4 v) (fun _ => True) 4 w := fun l J Jx W hW _ _ hY hJ =>
  highest4_in F n hf hro hn l Bn Bc v h0 h1 J Jx hY W ((hW.block Bn hBn.lt).trans hBn) ((hW.cell (p := ⟨Bc, 0, none⟩) hBc.lt).trans hBc.cell) hJ

end Go.Proofs.YteecemjbkpkpaaaDoor
