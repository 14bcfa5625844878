/- Lists of samples held against each other by the laws; two samples held against each other. -/
import Derived.Test.YthgamidodkkpbaaDoorFilMath
import Derived.Test.YthgamidodkkpbaaDoorSmsL
namespace Go.Proofs.YthgamidodkkpbaaDoor
open Go.ChangeShapes Go.WideShapes Go.ChangeAt Go.RowKit
set_option linter.unusedVariables false
set_option linter.unusedSimpArgs false

set_option maxHeartbeats 2000000 in
theorem sameSamples_c (l : List Sm) (n : Nat) (hn : Hid (n = l.length)) (hm : n ≤ maxLen) (x y : Option Addr) (cap cap' : Nat) (w : World) (h : Sms w.heap.size w x l) (h' : Sms w.heap.size w y l) :
    Calls Tryd.prog 12 #[.slice x n cap, .slice y n cap'] w fun e w' => e = .returned (.bool true) ∧ Below w.heap.size w w' := by
  unfold maxLen at hm
  go_enter Tryd.func12, Tryd.ntmps12
  go_wp2
  go_loopw [5] (fun i wr => ∃ k : Nat, k ≤ n ∧ i = .int .i64 k ∧ Below w.heap.size w wr) (fun i _ => n - (intOf i).toNat)
  case atStart => exact ⟨0, Nat.zero_le _, rfl, Below.refl _ _⟩
  case round =>
    obtain ⟨k, hk, rfl, hb⟩ := hrel
    by_cases hlt : k < n
    · obtain ⟨v, hv⟩ := getS (l := l) (k := k) (by rw [← hn.out]; exact hlt)
      have hr := h.next hb
      have hr' := h'.next hb
      obtain ⟨b, off, rfl, hbB, c0, c1, c2, c3⟩ := hr.at_ hv
      obtain ⟨b', off', rfl, hbB', c0', c1', c2', c3'⟩ := hr'.at_ hv
      clear hv
      go_wp2_with fail
      go_quiet (fail)
      go_wp2_with fail
      go_roundw
      case rel => exact ⟨k + 1, by omega, by go_num, grow_drew hb _⟩
      case measure => simp [intOf]; omega
    · go_wp2_with fail
      go_returns
      exact ⟨rfl, hb⟩
theorem Sm.eq_iff {u v : Sm} : u = v ↔ (u.off = v.off ∧ u.delay = v.delay ∧ u.disp = v.disp ∧ u.at_ = v.at_) := by
  obtain ⟨a, b, c, d⟩ := u
  obtain ⟨a', b', c', d'⟩ := v
  simp
/-- Is it the same sample, number by number? -/
def sameSm (u v : Sm) : Bool := (u.off == v.off) && ((u.delay == v.delay) && ((u.disp == v.disp) && (u.at_ == v.at_)))
theorem sameSm_iff {u v : Sm} : sameSm u v = true ↔ u = v := by
  rw [Sm.eq_iff]
  simp [sameSm]
theorem sameSm_no {u v : Sm} (h : u ≠ v) : sameSm u v = false := by
  cases e : sameSm u v with
  | false => rfl
  | true => exact absurd (sameSm_iff.1 e) h
theorem sameSm_self (u : Sm) : sameSm u u = true := sameSm_iff.2 rfl
set_option maxRecDepth 100000 in
set_option maxHeartbeats 1000000 in
theorem eq_sm (u v : Sm) (w : World) : (Op.equalIn 10000 26 (.agg #[.int .i64 u.off, .int .i64 u.delay, .int .i64 u.disp, .int .i64 u.at_]) (.agg #[.int .i64 v.off, .int .i64 v.delay, .int .i64 v.disp, .int .i64 v.at_])).run Tryd.prog w = .ok (sameSm u v) w := by
  unfold sameSm
  cases h0 : (u.off == v.off)
  · go_simp
  cases h1 : (u.delay == v.delay)
  · go_simp
  cases h2 : (u.disp == v.disp)
  · go_simp
  cases h3 : (u.at_ == v.at_)
  · go_simp
  · go_simp
end Go.Proofs.YthgamidodkkpbaaDoor
