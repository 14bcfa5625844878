/- What stands ahead of the first such byte: the reference's way. -/
import Derived.Test.YtbkkgkmllplbaaaDoorBase
import Derived.Test.YtbkkgkmllplbaaaDoorKeep
import Derived.Lib.Hide
import Derived.Deep.QuietTactic
import Derived.IntWalk
namespace Go.Proofs.YtbkkgkmllplbaaaDoor
open Go.ChangeShapes Go.WideShapes Go.ChangeAt Go.RowKit
set_option linter.unusedVariables false
set_option linter.unusedSimpArgs false

/-- No such byte ahead of this place. -/
def NoneTo (s : ByteArray) (c : UInt8) (k : Nat) : Prop := ∀ j b, j < k → s.data.toList[j]? = some b → b ≠ c
theorem NoneTo.next {s : ByteArray} {c : UInt8} {k : Nat} (h : NoneTo s c k) (hk : k < s.size) (hc : s[k] ≠ c) : NoneTo s c (k + 1) := fun j b hj hb => by
  by_cases e : j = k
  · subst e
    have h1 : s.data.toList[j]? = some s[j] := by
      rw [Array.getElem?_toList]
      exact Array.getElem?_eq_getElem (by simpa using hk)
    rw [h1] at hb
    rw [← Option.some.inj hb]
    exact hc
  · exact h j b (by omega) hb
def CutPost (s : ByteArray) (c : UInt8) (w : World) : Ending → World → Prop := fun e w' => Below w.heap.size w w' ∧
  ((∃ k, ∃ h : k < s.size, s[k] = c ∧ NoneTo s c k ∧ e = .returned (.tuple #[.string (s.extract 0 k), .string (s.extract (k + 1) s.size), .bool true])) ∨
   (NoneTo s c s.size ∧ e = .returned (.tuple #[.string s, .string ⟨#[]⟩, .bool false])))
set_option maxHeartbeats 1000000 in
theorem l1Cut_c (s : ByteArray) (hs : s.size ≤ 1048576) (c : UInt8) (w : World) :
    Calls Tryd.prog 56 #[.string s, .int .u8 c.toNat] w (CutPost s c w) := by
  go_enter Tryd.func56, Tryd.ntmps56
  go_wp2
  go_loop [7] (fun i => ∃ k : Nat, k ≤ s.size ∧ i = .int .i64 k ∧ NoneTo s c k) (fun i => s.size - (intOf i).toNat)
  case atStart => exact ⟨0, Nat.zero_le _, rfl, fun j b hj _ => absurd hj (Nat.not_lt_zero j)⟩
  case round =>
    obtain ⟨k, hk, rfl, hn⟩ := hrel
    by_cases hlt : k < s.size
    · by_cases hc : s[k] = c
      · have hx : ((s[k].toNat : Int) == (c.toNat : Int)) = true := by rw [hc]; simp
        have hw1 : IntKind.i64.wrap ((k : Int) + 1) = (k : Int) + 1 := IntWalk.i64_in _ (by omega)
        have hw2 : ((k : Int) + 1).toNat = k + 1 := by omega
        go_wp2
        go_region
        all_goals
          go_wp2
          go_returns
          exact ⟨below_drewR (Below.refl _ _), .inl ⟨k, hlt, hc, hn, rfl⟩⟩
      · have hx : ((s[k].toNat : Int) == (c.toNat : Int)) = false := by
          rw [beq_eq_false_iff_ne]
          intro e
          exact hc (UInt8.toNat_inj.1 (by omega))
        go_wp2
        go_round
        case rel => exact ⟨k + 1, by omega, by go_num, hn.next hlt hc⟩
        case measure => simp [intOf]; omega
    · have e : k = s.size := by omega
      subst e
      go_wp2
      go_returns
      exact ⟨Below.refl _ _, .inr ⟨hn, rfl⟩⟩
end Go.Proofs.YtbkkgkmllplbaaaDoor
