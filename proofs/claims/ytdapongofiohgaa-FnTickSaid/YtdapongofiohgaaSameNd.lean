/- Lists of nodes held against each other. -/
import Derived.Test.YtdapongofiohgaaNdRead
import Derived.Test.YtdapongofiohgaaNdRow
import Derived.Lib.QuietBelow
namespace Go.Proofs.Ytdapongofiohgaa
open Go.ChangeShapes Go.WideShapes Go.ChangeAt Go.RowKit Go.Sort
set_option linter.unusedVariables false
set_option linter.unusedSimpArgs false

set_option maxHeartbeats 1000000 in
theorem sameIntsM_c (l : List Int) (n : Nat) (hn : Hid (n = l.length)) (hm : n ≤ 1048576) (x y : Option Addr) (cap cap' : Nat) (w : World) (h : IntsAt w.heap.size w x l) (h' : IntsAt w.heap.size w y l) :
    Calls Try.prog 56 #[.slice x n cap, .slice y n cap'] w fun e w' => e = .returned (.bool true) ∧ Below w.heap.size w w' := by
  go_enter Try.func56, Try.ntmps56
  go_wp2
  go_loopw [5] (fun i wr => ∃ k : Nat, k ≤ n ∧ i = .int .i64 k ∧ Below w.heap.size w wr) (fun i _ => n - (intOf i).toNat)
  case atStart => exact ⟨0, Nat.zero_le _, rfl, Below.refl _ _⟩
  case round =>
    obtain ⟨k, hk, rfl, hb⟩ := hrel
    by_cases hlt : k < n
    · obtain ⟨v, hv⟩ := getI (l := l) (k := k) (by rw [← hn.out]; exact hlt)
      obtain ⟨g, off, rfl, _, c0⟩ := (h.next hb).at_ hv
      obtain ⟨g', off', rfl, _, c1⟩ := (h'.next hb).at_ hv
      have HV := Lib.hid hv
      clear hv
      go_wp2_with fail
      go_quiet (fail)
      go_wp2_with fail
      go_roundw
      case rel => exact ⟨k + 1, by omega, by go_num, grow_drew hb _⟩
      case measure => simp [intOf]; omega
    · go_wp2_with fail
      go_returns
      exact ⟨rfl, hb⟩
set_option maxRecDepth 100000 in
set_option maxHeartbeats 2000000 in
theorem sameNodes_c (l : List Nd) (n : Nat) (hn : Hid (n = l.length)) (hm : n ≤ 1048576) (hp : ∀ v ∈ l, v.peers.length ≤ 1048576) (x y : Option Addr) (cap cap' : Nat) (w : World) (h : Nds w.heap.size w x l) (h' : Nds w.heap.size w y l) :
    Calls Try.prog 27 #[.slice x n cap, .slice y n cap'] w fun e w' => e = .returned (.bool true) ∧ Below w.heap.size w w' := by
  go_enter Try.func27, Try.ntmps27
  go_wp2
  go_loopw [5] (fun i wr => ∃ k : Nat, k ≤ n ∧ i = .int .i64 k ∧ Below w.heap.size w wr) (fun i _ => n - (intOf i).toNat)
  case atStart => exact ⟨0, Nat.zero_le _, rfl, Below.refl _ _⟩
  case round =>
    obtain ⟨k, hk, rfl, hb⟩ := hrel
    by_cases hlt : k < n
    · obtain ⟨v, hv⟩ := getN (l := l) (k := k) (by rw [← hn.out]; exact hlt)
      obtain ⟨g, off, px, pc, rfl, _, a0, a1, a2, a3, ap, _, _⟩ := (h.next hb).at_ hv
      obtain ⟨g', off', qx, qc, rfl, _, b0, b1, b2, b3, bp, _, _⟩ := (h'.next hb).at_ hv
      have hpl := hp v (List.mem_of_getElem? hv)
      obtain ⟨m, hm'⟩ : ∃ m, v.peers.length = m := ⟨_, rfl⟩
      have HM := Lib.hid hm'.symm
      rw [hm'] at a1 b1 hpl
      have C1 := Lib.hid (fun d os => Calls.regrown_of (sameIntsM_c v.peers m HM hpl px qx pc qc (grow (redrawn wr d) os) (ap.next (below_regrown wr d os)) (bp.next (below_regrown wr d os))))
      have k0 := cell_regrown a0
      have k1 := cell_regrown a1
      have k2 := cell_regrown a2
      have k3 := cell_regrown a3
      have j0 := cell_regrown b0
      have j1 := cell_regrown b1
      have j2 := cell_regrown b2
      have j3 := cell_regrown b3
      have e0 : (v.src != v.src) = false := by cases v.src <;> rfl
      have e1 : (v.src == v.src) = true := by cases v.src <;> rfl
      clear hv hm' ap bp a0 a1 a2 a3 b0 b1 b2 b3
      go_wp2_with fail
      refine wp_region_quiet_below (by kernel_rfl) (by kernel_rfl) ?_
      repeat ((with_reducible refine wpQuiet_step (fun K hK => ?_)); go_simp; first | ((with_reducible refine hK _ ?_); clear hK K) | (rw [if_neg (by intro h; exact nomatch h)]; (with_reducible refine hK _ ?_); clear hK K) | (apply Exists.intro; (with_reducible refine ⟨fun _ => ?_, hK _ ?_⟩); (first | with_reducible exact C1.out _ _); clear hK K))
      with_reducible refine wpQuiet_nil ?_
      intro _ hw'
      obtain ⟨⟨dq, osq⟩, hw''⟩ := hw'
      subst hw''
      have g1 := grow_next hb (below_regrown wr dq osq)
      go_wp2_with fail
      go_roundw
      case rel => exact ⟨k + 1, by omega, by go_num, g1⟩
      case measure => simp [intOf]; omega
    · go_wp2_with fail
      go_returns
      exact ⟨rfl, hb⟩
end Go.Proofs.Ytdapongofiohgaa
