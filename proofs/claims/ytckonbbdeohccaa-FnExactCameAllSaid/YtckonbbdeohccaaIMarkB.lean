/- Rows of numbers marked from a greater first mark. -/
import Derived.Test.YtckonbbdeohccaaIRow
namespace Go.Proofs.Ytckonbbdeohccaa
open Go.ChangeShapes Go.WideShapes Go.ChangeAt Go.RowKit
set_option linter.unusedVariables false
set_option linter.unusedSimpArgs false

set_option maxHeartbeats 1000000 in
theorem markIRowB_c (l : List Int) (n : Nat) (hn : Hid (n = l.length)) (hm : n ≤ 1048576) (k0 : Int) (h0 : 0 ≤ k0) (h1 : k0 ≤ 16777216) (base : Nat) (x : Option Addr) (cap : Nat) (w : World) (h : IRow base w x cap l) :
    Calls Try.prog 22 #[.slice x n cap, .int .i64 k0] w (MarkedJ base w x cap n k0) := by
  go_enter Try.func22, Try.ntmps22
  go_wp2
  go_loopw [1, 5] (fun m i wr => ∃ k : Nat, k ≤ n ∧ i = .int .i64 k ∧ m = .int .i64 (k0 + k) ∧ IRow base wr x cap (marksJ k0 k ++ l.drop k) ∧ w.grownBy wr (x.map (·.block))) (fun _ i _ => n - (intOf i).toNat)
  case atStart => exact ⟨0, Nat.zero_le _, rfl, by simp, by simpa [marksJ] using h, World.grownBy.refl _ _⟩
  case round =>
    obtain ⟨k, hk, rfl, rfl, hr, hg⟩ := hrel
    by_cases hlt : k < n
    · have hkl : k < l.length := by rw [← hn.out]; exact hlt
      obtain ⟨v, hv⟩ : ∃ v, (marksJ k0 k ++ l.drop k)[k]? = some v := getI (by rw [List.length_append, marksJ_length, List.length_drop]; omega)
      obtain ⟨g, rfl, hbg, _, c0, f0⟩ := hr.at_ hv
      have hp := hr.put (k := k) (by rw [List.length_append, marksJ_length, List.length_drop]; omega) (k0 + k)
      rw [marksJ_set hkl] at hp
      have hg' := grown_setJ hg k (.int .i64 (k0 + k))
      clear hv
      go_wp2_with fail
      go_roundw
      case rel => exact ⟨k + 1, by omega, by go_num, by rw [show ((k + 1 : Nat) : Int) = (k : Int) + 1 from by omega, Int.add_assoc], hp, hg'⟩
      case measure => simp [intOf]; omega
    · have e : k = n := by omega
      have hr' : IRow base wr x cap (marksJ k0 n) := by
        rw [e, List.drop_of_length_le (by rw [← hn.out]; exact Nat.le_refl _), List.append_nil] at hr
        exact hr
      have HE := Lib.hid e
      clear e hr
      go_wp2_with fail
      go_returns
      exact ⟨by rw [HE.out]; rfl, hr', hg⟩

theorem heldIRowB_c (n : Nat) (hm : n ≤ 1048576) (k0 : Int) (h0 : 0 ≤ k0) (h1 : k0 ≤ 16777216) (base : Nat) (x : Option Addr) (cap : Nat) (w : World) (h : IRow base w x cap (marksJ k0 n)) :
    Calls Try.prog 23 #[.slice x n cap, .int .i64 k0] w fun e w' => e = .returned (.int .i64 (k0 + n)) ∧ w = w' := by
  go_enter Try.func23, Try.ntmps23
  go_wp2
  go_loop [1, 5] (fun m i => ∃ k : Nat, k ≤ n ∧ i = .int .i64 k ∧ m = .int .i64 (k0 + k)) (fun _ i => n - (intOf i).toNat)
  case atStart => exact ⟨0, Nat.zero_le _, rfl, by simp⟩
  case round =>
    obtain ⟨k, hk, rfl, rfl⟩ := hrel
    by_cases hlt : k < n
    · obtain ⟨g, rfl, _, _, c0, _⟩ := h.at_ (marksJ_at hlt)
      go_wp2_with fail
      go_round
      case rel => exact ⟨k + 1, by omega, by go_num, by rw [show ((k + 1 : Nat) : Int) = (k : Int) + 1 from by omega, Int.add_assoc]⟩
      case measure => simp [intOf]; omega
    · have HE := Lib.hid (show k = n by omega)
      go_wp2_with fail
      go_returns
      exact ⟨by rw [HE.out]; rfl, rfl⟩
end Go.Proofs.Ytckonbbdeohccaa
