/- An interval by its two ends: right or not, the program's way and the reference's. -/
import Derived.Test.YtohcebiepekbeaaGreatDoorMga
import Derived.BigGuardPart
import Derived.BigQuiet
namespace Go.Proofs.YtohcebiepekbeaaGreatDoor
open Go.ChangeShapes Go.WideShapes Go.ChangeAt Go.RowKit
set_option linter.unusedVariables false
set_option linter.unusedSimpArgs false

structure Iv where
  lo : Int
  hi : Int
deriving DecidableEq

def Iv.ok (i : Iv) : Bool := decide (-4000000000000 ≤ i.lo) && decide (i.lo ≤ i.hi) && decide (i.hi ≤ 4000000000000)
theorem Iv.ok_iff {i : Iv} : i.ok = true ↔ -4000000000000 ≤ i.lo ∧ i.lo ≤ i.hi ∧ i.hi ≤ 4000000000000 := by
  simp [Iv.ok, and_assoc]
theorem Iv.ok_yes {i : Iv} (h0 : -4000000000000 ≤ i.lo) (h1 : i.lo ≤ i.hi) (h2 : i.hi ≤ 4000000000000) : i.ok = true := Iv.ok_iff.2 ⟨h0, h1, h2⟩
theorem Iv.ok_no {i : Iv} (h : ¬ (-4000000000000 ≤ i.lo ∧ i.lo ≤ i.hi ∧ i.hi ≤ 4000000000000)) : i.ok = false := by
  cases e : i.ok with
  | false => rfl
  | true => exact absurd (Iv.ok_iff.1 e) h
theorem inB_no {lo n hi : Int} (h : ¬ (lo ≤ n ∧ n ≤ hi)) : inB lo n hi = false := by
  cases e : inB lo n hi with
  | false => rfl
  | true => exact absurd (inB_iff.1 e) h

theorem intervalOk_impl (i : Iv) (w : World) :
    Calls Tryz.prog 104 #[.agg #[.int .i64 i.lo, .int .i64 i.hi]] w fun e w' => e = .returned (.bool i.ok) ∧ Below w.heap.size w w' := by
  by_cases h0 : -4000000000000 ≤ i.lo
  · by_cases h1 : i.lo ≤ i.hi
    · by_cases h2 : i.hi ≤ 4000000000000
      · rw [Iv.ok_yes h0 h1 h2]
        go_enter Tryz.func104, Tryz.ntmps104
        go_wp2
        go_returns
        exact ⟨rfl, by go_grown⟩
      · rw [Iv.ok_no (by omega)]
        go_enter Tryz.func104, Tryz.ntmps104
        go_wp2
        go_returns
        exact ⟨rfl, by go_grown⟩
    · rw [Iv.ok_no (by omega)]
      go_enter Tryz.func104, Tryz.ntmps104
      go_wp2
      go_returns
      exact ⟨rfl, by go_grown⟩
  · rw [Iv.ok_no (by omega)]
    go_enter Tryz.func104, Tryz.ntmps104
    go_wp2
    go_returns
    exact ⟨rfl, by go_grown⟩

theorem l5Edge_c (n : Int) (w : World) :
    Calls Tryz.prog 141 #[.int .i64 n] w fun e w' => e = .returned (.bool (inB (-4000000000000) n 4000000000000)) ∧ w = w' := by
  go_enter Tryz.func141, Tryz.ntmps141
  go_wp2_with (go_at_call 54; refine (l1In_c _ _ _ _).mono ?_; rintro e w1 ⟨rfl, rfl⟩)
  go_returns
  exact ⟨rfl, rfl⟩

theorem edge_dec {n : Int} {b : Bool} (h : inB (-4000000000000) n 4000000000000 = b) (w : World) :
    Calls Tryz.prog 141 #[.int .i64 n] w fun e w' => e = .returned (.bool b) ∧ w = w' := h ▸ l5Edge_c n w

theorem intervalOk_spec (i : Iv) (w : World) :
    Calls Tryz.prog 121 #[.agg #[.int .i64 i.lo, .int .i64 i.hi]] w fun e w' => e = .returned (.bool i.ok) ∧ Below w.heap.size w w' := by
  by_cases h0 : -4000000000000 ≤ i.lo ∧ i.lo ≤ 4000000000000
  · have hL := Lib.hid (fun w => edge_dec (inB_yes h0.1 h0.2) w)
    by_cases h2 : -4000000000000 ≤ i.hi ∧ i.hi ≤ 4000000000000
    · have hH := Lib.hid (fun w => edge_dec (inB_yes h2.1 h2.2) w)
      by_cases h1 : i.lo ≤ i.hi
      · rw [Iv.ok_yes h0.1 h1 h2.2]
        go_enter Tryz.func121, Tryz.ntmps121
        go_wp2_with fail
        refine (hL.out _).mono ?_
        rintro e w1 ⟨rfl, rfl⟩
        go_wp2_with fail
        refine (hH.out _).mono ?_
        rintro e w1 ⟨rfl, rfl⟩
        go_wp2_with fail
        go_returns
        exact ⟨rfl, by go_grown⟩
      · rw [Iv.ok_no (by omega)]
        go_enter Tryz.func121, Tryz.ntmps121
        go_wp2_with fail
        refine (hL.out _).mono ?_
        rintro e w1 ⟨rfl, rfl⟩
        go_wp2_with fail
        refine (hH.out _).mono ?_
        rintro e w1 ⟨rfl, rfl⟩
        go_wp2_with fail
        go_returns
        exact ⟨by simp [h1], by go_grown⟩
    · have hH := Lib.hid (fun w => edge_dec (inB_no h2) w)
      rw [Iv.ok_no (by omega)]
      go_enter Tryz.func121, Tryz.ntmps121
      go_wp2_with fail
      refine (hL.out _).mono ?_
      rintro e w1 ⟨rfl, rfl⟩
      go_wp2_with fail
      refine (hH.out _).mono ?_
      rintro e w1 ⟨rfl, rfl⟩
      go_wp2_with fail
      go_returns
      exact ⟨rfl, by go_grown⟩
  · have hL := Lib.hid (fun w => edge_dec (inB_no h0) w)
    rw [Iv.ok_no (by omega)]
    go_enter Tryz.func121, Tryz.ntmps121
    go_wp2_with fail
    refine (hL.out _).mono ?_
    rintro e w1 ⟨rfl, rfl⟩
    go_wp2_with fail
    go_returns
    exact ⟨rfl, by go_grown⟩

theorem list2 {α : Type} (l : List α) (h : l.length = 2) : ∃ a b, l = [a, b] :=
  match l, h with
  | [a, b], _ => ⟨a, b, rfl⟩




theorem iv_cells {W : World} {b : Nat} {T : TypeId} {q : Iv} (h : W.heap[b]? = some (.cells #[.int .i64 q.lo, .int .i64 q.hi] T)) : W.cell? ⟨b, 0, none⟩ = some (.int .i64 q.lo) ∧ W.cell? ⟨b, 1, none⟩ = some (.int .i64 q.hi) := by
  simp [World.cell?, h]
theorem iv_thaw {W : World} {b : Nat} {T : TypeId} {q : Iv} (h : W.heap[b]? = some (.cells #[.int .i64 q.lo, .int .i64 q.hi] T)) : W.frozen? ⟨b, 0, none⟩ = false ∧ W.frozen? ⟨b, 1, none⟩ = false := by
  refine ⟨?_, ?_⟩ <;> simp [World.frozen?, h]
theorem iv_put {W : World} {b : Nat} {T : TypeId} {q : Iv} (h : W.heap[b]? = some (.cells #[.int .i64 q.lo, .int .i64 q.hi] T)) (r : Iv) :
    ((W.setCell ⟨b, 0, none⟩ (.int .i64 r.lo)).setCell ⟨b, 1, none⟩ (.int .i64 r.hi)).heap[b]? = some (.cells #[.int .i64 r.lo, .int .i64 r.hi] T) := by
  simp [World.setCell, Array.getElem?_modify, h]
theorem iv_other {W : World} {b c : Nat} {o : Obj} (h : W.heap[b]? = some o) (hne : b ≠ c) (u v : Value) : ((W.setCell ⟨c, 0, none⟩ u).setCell ⟨c, 1, none⟩ v).heap[b]? = some o := by
  have : c ≠ b := Ne.symm hne
  simp [World.setCell, Array.getElem?_modify, h, this]
end Go.Proofs.YtohcebiepekbeaaGreatDoor
