/- Registers: their bits; the iterator over the last eight answers. -/
import Derived.RangeFuncBox
import Derived.Laws.BitsLemmas
import Derived.RangeFuncNested
import Derived.RangeFuncLeaves
import Derived.Shelf.Abstract
import Derived.WalkKit
import Derived.OwnWalkIn
import Derived.TacticsInMore
import Derived.LoopNIn
import Derived.LoopIn
import Derived.Test.YtiaiihagoopkfaaIn
namespace Go.Proofs.Ytiaiihagoopkfaa
open Go.ChangeShapes Go.WideShapes Go.ChangeAt Go.RowKit Go.Shelf
set_option linter.unusedVariables false

attribute [local go_sem] Oper.semAt_some

/-- A register. -/
def regB (n : Int) : Bool := inB 0 n 255
theorem regB_iff {n : Int} : regB n = true ↔ 0 ≤ n ∧ n ≤ 255 := inB_iff

/-- What holds of the numbers 0 to 255 holds of each register. -/
theorem reg_all {p : Int → Bool} (h : (List.range 256).all (fun k => p (k : Int)) = true) {n : Int} (hr : regB n = true) : p n = true := by
  obtain ⟨h0, h1⟩ := regB_iff.1 hr
  have := List.all_eq_true.1 h n.toNat (List.mem_range.2 (by omega))
  rwa [Int.toNat_of_nonneg h0] at this

theorem isReg_c (n : Int) (w : World) :
    Calls Try.prog 38 #[.int .i64 n] w fun e w' => e = .returned (.bool (regB n)) ∧ w = w' := by
  go_enter Try.func38, Try.ntmps38
  go_wp2_with (go_at_call 42; refine (within_c _ _ _ _).mono ?_; rintro e w1 ⟨rfl, rfl⟩)
  go_returns
  exact ⟨rfl, rfl⟩

theorem l13Ok_c (n : Int) (w : World) :
    Calls Try.prog 37 #[.int .i64 n] w fun e w' => e = .returned (.bool (regB n)) ∧ w = w' := by
  go_enter Try.func37, Try.ntmps37
  go_wp2_with (go_at_call 41; refine (l1In_c _ _ _ _).mono ?_; rintro e w1 ⟨rfl, rfl⟩)
  go_returns
  exact ⟨rfl, rfl⟩

/-- The answer so many questions ago. -/
def bit (n : Int) (k : Nat) : Bool := n / 2 ^ k % 2 == 1
def bitsTo (n : Int) (k : Nat) : List Bool := (List.range k).map (bit n)
theorem bitsTo_length (n : Int) (k : Nat) : (bitsTo n k).length = k := by simp [bitsTo]
theorem bitsTo_succ (n : Int) (k : Nat) : bitsTo n (k + 1) = bitsTo n k ++ [bit n k] := by simp [bitsTo, List.range_succ]

theorem and_one (n : Int) : bits .and .i64 n 1 = n % 2 := by
  have h1 : (BitVec.ofInt 64 1).toNat = 2 ^ 1 - 1 := by decide
  have key : (BitVec.ofInt 64 n &&& BitVec.ofInt 64 1).toNat = (n % ((2 ^ 64 : Nat) : Int)).toNat % 2 ^ 1 := by
    rw [BitVec.toNat_and, BitVec.toNat_ofInt, h1, Nat.and_two_pow_sub_one_eq_mod]
  show IntKind.i64.wrap ((BitVec.ofInt 64 n &&& BitVec.ofInt 64 1).toNat : Nat) = n % 2
  rw [key, IntKind.wrap_i64]
  omega

/-- What the iterator asks of a round that goes on: the box of its number holds it still. -/
def RegKept (B : Nat) (v : Value) (W W' : World) : Prop := Boxed W B 2 v → Boxed W' B 2 v

set_option maxRecDepth 100000 in
set_option maxHeartbeats 2000000 in
theorem answers_in (F : Fence) (m : Nat) (hf : F.fn 50) (hro : F.round = none) (hm : 1 ≤ m) (l Bn : Nat) (n : Int) (h0 : 0 ≤ n) (h1 : n ≤ 255) (J Jx : List Bool → World → Prop)
    (hY : ∀ pre x W, J pre W → pre.length < 8 → YieldAt F (m - 1) Try.prog l #[.bool x] W fun e W' =>
      (e = .returned (.bool true) ∧ J (pre ++ [x]) W' ∧ RegKept Bn (.int .i64 n) W W') ∨ (e = .returned (.bool false) ∧ Jx (pre ++ [x]) W'))
    (W : World) (hxn : Boxed W Bn 2 (.int .i64 n)) (hJ : J [] W) :
    CallsIn F m Try.prog 50 #[.func (.yield l) #[] #[], .pointer (some ⟨Bn, 0, none⟩)] W fun e W' => (∃ v, e = .returned v) ∧
      ((∃ ys, ys = bitsTo n 8 ∧ J ys W') ∨ (∃ pre, (∃ k, k ≤ 8 ∧ pre = bitsTo n k) ∧ Jx pre W')) := by
  refine callsIn_of_wp Try.func50 rfl hf ?_ hro
  simp only [Try.ntmps50, List.size_toArray, List.length_cons, List.length_nil, Nat.reduceAdd, Nat.reduceSub, Array.replicate_succ, Array.replicate_zero, List.push_toArray, List.append_toArray, List.nil_append, List.cons_append]
  gi_wp2
  gi_loopw [4] (fun i wr => ∃ k : Nat, k ≤ 8 ∧ i = .int .i64 k ∧ J (bitsTo n k) wr ∧ Boxed wr Bn 2 (.int .i64 n)) (fun i _ => 8 - (intOf i).toNat)
  case atStart => exact ⟨0, Nat.zero_le _, rfl, hJ, hxn⟩
  case round =>
    obtain ⟨k, hk, rfl, hJ1, hx⟩ := hrel
    have hc := hx.cell
    by_cases hlt : k < 8
    · obtain ⟨fn1, t1, a1, b1, hy1, hR1⟩ := hY (bitsTo n k) (n / 2 ^ k % 2 == 1) wr hJ1 (by rw [bitsTo_length]; exact hlt)
      have hb := and_one (n / 2 ^ k)
      gi_wp2
      refine hR1.mono ?_
      rintro e W1 (⟨rfl, hJ2, hk2⟩ | ⟨rfl, hJx2⟩)
      · gi_wp2
        go_roundw
        case rel => exact ⟨k + 1, by omega, by simp, by rw [bitsTo_succ]; exact hJ2, hk2 hx⟩
        case measure => simp [intOf]; omega
      · gi_wp2
        refine bodyPost_ret (results_none rfl _ _ _) rfl ?_
        exact ⟨⟨_, rfl⟩, .inr ⟨_, ⟨k + 1, by omega, (bitsTo_succ _ _).symm⟩, hJx2⟩⟩
    · obtain rfl : k = 8 := by omega
      gi_wp2
      go_end0
      exact ⟨⟨_, rfl⟩, .inl ⟨_, rfl, hJ1⟩⟩

theorem answersMk_in (F : Fence) (m : Nat) (hf : F.fn 40) (hro : F.round = none) (n : Int) (w : World) :
    CallsIn F m Try.prog 40 #[.int .i64 n] w fun e w' => e = .returned (.func (.func 50) #[] #[.pointer (some ⟨w.heap.size, 0, none⟩)]) ∧
      w' = w.alloc (.cells #[.int .i64 n] 2) := by
  refine callsIn_of_wp Try.func40 rfl hf ?_ hro
  simp only [Try.ntmps40, List.size_toArray, List.length_cons, List.length_nil, Nat.reduceAdd, Nat.reduceSub, Array.replicate_succ, Array.replicate_zero, List.push_toArray, List.append_toArray, List.nil_append, List.cons_append]
  gi_wp2
  go_ret
  exact ⟨rfl, rfl⟩

theorem answers_stops (F : Fence) (m : Nat) (hf : F.fn 50) (hro : F.round = none) (hm : 1 ≤ m) (Bn : Nat) (n : Int) (h0 : 0 ≤ n) (h1 : n ≤ 255) (w : World)
    (hBn : Boxed w Bn 2 (.int .i64 n)) :
    SeqStopsK F m Try.prog 50 #[.pointer (some ⟨Bn, 0, none⟩)] (fun x : Bool => #[Value.bool x]) (RegKept Bn (.int .i64 n)) (fun ys => ys = bitsTo n 8) (fun pre => ∃ k, k ≤ 8 ∧ pre = bitsTo n k) 8 w := fun l J Jx W hW _ _ hY hJ =>
  answers_in F m hf hro hm l Bn n h0 h1 J Jx hY W ((hW.block Bn hBn.lt).trans hBn) hJ
end Go.Proofs.Ytiaiihagoopkfaa
