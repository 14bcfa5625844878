/- An op as a value of the program's interface; false where it is not of its form. -/
import Derived.Test.YtgmjdalfbebgbaaFl
import Derived.Deep.RegionWith
import Derived.Deep.Cut
namespace Go.Proofs.Ytgmjdalfbebgbaa
open Go.ChangeShapes Go.WideShapes Go.ChangeAt Go.RowKit
set_option linter.unusedVariables false
set_option linter.unusedSimpArgs false
set_option maxRecDepth 100000

def Dp.val (o : Dp) : Value := .agg #[.int .i64 o.kind, .string o.name, .string o.to, .string o.data]
def chV (o : Dp) : Value := if o.kind = 1 then .iface 113 (.agg #[.string o.name, .string o.data]) else if o.kind = 2 then .iface 115 (.agg #[.string o.name, .string o.to]) else .iface 117 (.agg #[.string o.name])
theorem four_new (w : World) (x0 x1 x2 x3 : Value) (t : TypeId) : (w.alloc (.cells #[x0, x1, x2, x3] t)).cell? ⟨w.heap.size, 0, none⟩ = some x0 ∧ (w.alloc (.cells #[x0, x1, x2, x3] t)).cell? ⟨w.heap.size, 1, none⟩ = some x1 ∧ (w.alloc (.cells #[x0, x1, x2, x3] t)).cell? ⟨w.heap.size, 2, none⟩ = some x2 ∧ (w.alloc (.cells #[x0, x1, x2, x3] t)).cell? ⟨w.heap.size, 3, none⟩ = some x3 := ⟨blk_cell (blk_new w _) rfl, blk_cell (blk_new w _) rfl, blk_cell (blk_new w _) rfl, blk_cell (blk_new w _) rfl⟩
set_option maxHeartbeats 2000000 in
theorem changeOf_c (o : Dp) (w : World) : Calls Try.prog 49 #[.agg #[.int .i64 o.kind, .string o.name, .string o.to, .string o.data]] w fun e w' => e = .returned (.tuple #[if formV o = true then chV o else .nilIface, .bool (formV o)]) ∧ Below w.heap.size w w' := by
  have B1 : Below w.heap.size w ((w.alloc (.cells #[.int .i64 o.kind, .string o.name, .string o.to, .string o.data] 40)).alloc (.cells #[.string o.name] 111)) := by go_grown
  have Z0 := blk_alloc (blk_new w (.cells #[.int .i64 o.kind, .string o.name, .string o.to, .string o.data] 40)) (.cells #[.string o.name] 111)
  have Z1 := blk_new (w.alloc (.cells #[.int .i64 o.kind, .string o.name, .string o.to, .string o.data] 40)) (.cells #[.string o.name] 111)
  simp only [World.size_alloc] at Z1
  obtain ⟨kind, name, to, data⟩ := o
  simp only at Z0 Z1 B1 ⊢
  unfold formV chV
  simp only
  have HN := Lib.hid (fun W => nameOk_c name W)
  have HT := Lib.hid (fun W => nameOk_c to W)
  obtain ⟨nm, hnm⟩ : ∃ b, nmOk name = b := ⟨_, rfl⟩
  obtain ⟨tm, htm⟩ : ∃ b, nmOk to = b := ⟨_, rfl⟩
  obtain ⟨te, hte⟩ : ∃ b, to.toList.isEmpty = b := ⟨_, rfl⟩
  obtain ⟨de, hde⟩ : ∃ b, data.toList.isEmpty = b := ⟨_, rfl⟩
  rw [hnm] at HN ⊢
  rw [htm] at HT ⊢
  rw [hte, hde]
  clear hnm htm
  go_enter Try.func49, Try.ntmps49
  go_upto_region 2 with fail
  generalize (w.alloc (.cells #[.int .i64 kind, .string name, .string to, .string data] 40)).alloc (.cells #[.string name] 111) = W at *
  have c0 := blk_cell (k := 0) Z0 rfl
  have c1 := blk_cell (k := 1) Z0 rfl
  have c2 := blk_cell (k := 2) Z0 rfl
  have c3 := blk_cell (k := 3) Z0 rfl
  have c4 := blk_cell (k := 0) Z1 rfl
  cases nm with
  | false =>
    go_wp2_with fail
    refine (HN.out _).mono ?_
    rintro e w1 ⟨rfl, rfl⟩
    go_wp2_with fail
    go_returns
    exact ⟨rfl, B1⟩
  | true =>
    go_wp2_with fail
    refine (HN.out _).mono ?_
    rintro e w1 ⟨rfl, rfl⟩
    by_cases k1 : kind = 1
    · subst k1
      cases te with
      | true =>
        go_wp2_with fail
        go_returns
        exact ⟨rfl, B1⟩
      | false =>
        go_wp2_with fail
        go_returns
        exact ⟨rfl, B1⟩
    · have q1 : (kind == 1) = false := by rw [beq_eq_false_iff_ne]; exact k1
      have E1 := Lib.hid k1
      by_cases k2 : kind = 2
      · subst k2
        cases tm with
        | false =>
          go_wp2_with (go_at_call 83; refine (HT.out _).mono ?_; rintro e w1 ⟨rfl, rfl⟩)
          go_returns
          exact ⟨rfl, B1⟩
        | true =>
          cases de with
          | false =>
            go_wp2_with (go_at_call 83; refine (HT.out _).mono ?_; rintro e w1 ⟨rfl, rfl⟩)
            go_returns
            exact ⟨rfl, B1⟩
          | true =>
            go_wp2_with (go_at_call 83; refine (HT.out _).mono ?_; rintro e w1 ⟨rfl, rfl⟩)
            go_returns
            exact ⟨rfl, B1⟩
      · have q2 : (kind == 2) = false := by rw [beq_eq_false_iff_ne]; exact k2
        have E2 := Lib.hid k2
        by_cases k3 : kind = 3
        · subst k3
          cases te with
          | false =>
            go_wp2_with fail
            go_returns
            exact ⟨rfl, B1⟩
          | true =>
            cases de with
            | false =>
              go_wp2_with fail
              go_returns
              exact ⟨rfl, B1⟩
            | true =>
              go_wp2_with fail
              go_returns
              exact ⟨rfl, B1⟩
        · have q3 : (kind == 3) = false := by rw [beq_eq_false_iff_ne]; exact k3
          have E3 := Lib.hid k3
          go_wp2_with fail
          all_goals
            go_returns
            exact ⟨by simp [k1, k2, k3], B1⟩
end Go.Proofs.Ytgmjdalfbebgbaa
