/- A register with many answers more: the program's way and the reference's. -/
import Derived.Test.YtiaiihagoopkfaaRegOps
import Derived.Test.YtiaiihagoopkfaaBls
namespace Go.Proofs.Ytiaiihagoopkfaa
open Go.ChangeShapes Go.WideShapes Go.ChangeAt Go.RowKit Go.Deep
set_option linter.unusedVariables false
set_option linter.unusedSimpArgs false

/-- One by one. -/
def allR (n : Int) (l : List Bool) : Int := l.foldl shiftR n
theorem allR_snoc (n : Int) (l : List Bool) (g : Bool) : allR n (l ++ [g]) = shiftR (allR n l) g := by simp [allR]
theorem allR_reg {n : Int} (h : regB n = true) : ∀ l : List Bool, regB (allR n l) = true := by
  intro l
  unfold allR
  induction l generalizing n with
  | nil => exact h
  | cons a l ih => exact ih (shiftR_reg _ _)
def allV (n : Int) (l : List Bool) : Int := if regB n && decide (l.length ≤ 1000) then allR n l else -1
theorem allV_no {n : Int} {l : List Bool} (h : regB n = false) : allV n l = -1 := by simp [allV, h]
theorem allV_long {n : Int} {l : List Bool} (h : ¬ l.length ≤ 1000) : allV n l = -1 := by unfold allV; simp [h]
theorem allV_ok {n : Int} {l : List Bool} (h : regB n = true) (h' : l.length ≤ 1000) : allV n l = allR n l := by simp [allV, h, h']

set_option maxHeartbeats 1000000 in
theorem shiftedAll_impl (v : Int) (l : List Bool) (n : Nat) (hn : Hid (n = l.length)) (hm : n ≤ 1048576) (x : Option Addr) (cap : Nat) (w : World) (h : Bls w.heap.size w x l) :
    Calls Try.prog 23 #[.int .i64 v, .slice x n cap] w fun e w' => e = .returned (.int .i64 (allV v l)) ∧ w = w' := by
  cases hr : regB v with
  | false =>
    rw [allV_no hr]
    go_enter Try.func23, Try.ntmps23
    go_wp2_with (first | (go_at_call 38; refine (isReg_c _ _).mono ?_; rintro e w1 ⟨rfl, rfl⟩))
    go_returns
    exact ⟨rfl, rfl⟩
  | true =>
    by_cases hl : n ≤ 1000
    · rw [allV_ok hr (by rw [← hn.out]; exact hl)]
      have HR := Lib.hid (fun k => allR_reg hr (l.take k))
      go_enter Try.func23, Try.ntmps23
      go_wp2_with (first | (go_at_call 38; refine (isReg_c _ _).mono ?_; rintro e w1 ⟨rfl, rfl⟩))
      clear hr
      go_loopw [0, 17] (fun m i wr => ∃ k : Nat, k ≤ n ∧ i = .int .i64 k ∧ m = .int .i64 (allR v (l.take k)) ∧ w = wr) (fun _ i _ => n - (intOf i).toNat)
      case atStart => exact ⟨0, Nat.zero_le _, rfl, rfl, rfl⟩
      case round =>
        obtain ⟨k, hk, rfl, rfl, rfl⟩ := hrel
        by_cases hlt : k < n
        · obtain ⟨g, hg⟩ := getB_ (l := l) (k := k) (by rw [← hn.out]; exact hlt)
          obtain ⟨b, off, rfl, hbB, c0⟩ := h.at_ hg
          have HT := Lib.hid (show shiftV (allR v (l.take k)) g = allR v (l.take (k + 1)) by rw [take_nextB hg, allR_snoc, shiftV_reg (HR.out k)])
          have HS := Lib.hid (fun w => HT.out ▸ shifted_impl (allR v (l.take k)) g w)
          clear hg
          go_wp2_with fail
          refine (HS.out _).mono ?_
          rintro e w1 ⟨rfl, rfl⟩
          go_wp2_with fail
          go_roundw
          case rel => exact ⟨k + 1, by omega, by go_num, rfl, trivial⟩
          case measure => simp [intOf]; omega
        · have e : k = n := by omega
          have HE := Lib.hid (show l.take k = l by rw [e, hn.out, List.take_length])
          clear e
          go_wp2_with fail
          go_returns
          exact ⟨by rw [HE.out]; rfl, rfl⟩
    · rw [allV_long (by rw [← hn.out]; exact hl)]
      go_enter Try.func23, Try.ntmps23
      go_wp2_with (first | (go_at_call 38; refine (isReg_c _ _).mono ?_; rintro e w1 ⟨rfl, rfl⟩))
      go_returns
      exact ⟨rfl, rfl⟩

set_option maxHeartbeats 1000000 in
theorem shiftedAll_spec (v : Int) (l : List Bool) (n : Nat) (hn : Hid (n = l.length)) (hm : n ≤ 1048576) (x : Option Addr) (cap : Nat) (w : World) (h : Bls w.heap.size w x l) :
    Calls Try.prog 21 #[.int .i64 v, .slice x n cap] w fun e w' => e = .returned (.int .i64 (allV v l)) ∧ w = w' := by
  cases hr : regB v with
  | false =>
    rw [allV_no hr]
    go_enter Try.func21, Try.ntmps21
    go_wp2_with (first | (go_at_call 37; refine (l13Ok_c _ _).mono ?_; rintro e w1 ⟨rfl, rfl⟩))
    go_returns
    exact ⟨rfl, rfl⟩
  | true =>
    by_cases hl : n ≤ 1000
    · rw [allV_ok hr (by rw [← hn.out]; exact hl)]
      have HR := Lib.hid (fun k => allR_reg hr (l.take k))
      go_enter Try.func21, Try.ntmps21
      go_wp2_with (first | (go_at_call 37; refine (l13Ok_c _ _).mono ?_; rintro e w1 ⟨rfl, rfl⟩))
      clear hr
      go_loopw [0, 5] (fun m i wr => ∃ k : Nat, k ≤ n ∧ i = .int .i64 k ∧ m = .int .i64 (allR v (l.take k)) ∧ w = wr) (fun _ i _ => n - (intOf i).toNat)
      case atStart => exact ⟨0, Nat.zero_le _, rfl, rfl, rfl⟩
      case round =>
        obtain ⟨k, hk, rfl, rfl, rfl⟩ := hrel
        by_cases hlt : k < n
        · obtain ⟨g, hg⟩ := getB_ (l := l) (k := k) (by rw [← hn.out]; exact hlt)
          obtain ⟨b, off, rfl, hbB, c0⟩ := h.at_ hg
          have HT := Lib.hid (show shiftV (allR v (l.take k)) g = allR v (l.take (k + 1)) by rw [take_nextB hg, allR_snoc, shiftV_reg (HR.out k)])
          have HS := Lib.hid (fun w => HT.out ▸ shifted_spec (allR v (l.take k)) g w)
          clear hg
          go_wp2_with fail
          refine (HS.out _).mono ?_
          rintro e w1 ⟨rfl, rfl⟩
          go_wp2_with fail
          go_roundw
          case rel => exact ⟨k + 1, by omega, by go_num, rfl, trivial⟩
          case measure => simp [intOf]; omega
        · have e : k = n := by omega
          have HE := Lib.hid (show l.take k = l by rw [e, hn.out, List.take_length])
          clear e
          go_wp2_with fail
          go_returns
          exact ⟨by rw [HE.out]; rfl, rfl⟩
    · rw [allV_long (by rw [← hn.out]; exact hl)]
      go_enter Try.func21, Try.ntmps21
      go_wp2_with (first | (go_at_call 37; refine (l13Ok_c _ _).mono ?_; rintro e w1 ⟨rfl, rfl⟩))
      go_returns
      exact ⟨rfl, rfl⟩
end Go.Proofs.Ytiaiihagoopkfaa
