/- How much lists of nodes hold; lists of numbers and of nodes held against each other. -/
import Derived.Test.YtckonbbdeohccaaNd
import Derived.IntWalk
import Derived.BigQuiet
import Derived.Deep.Cut
import Derived.Deep.RegionWith
import Derived.Deep.QuietTactic
namespace Go.Proofs.Ytckonbbdeohccaa
open Go.ChangeShapes Go.WideShapes Go.ChangeAt Go.RowKit
set_option linter.unusedVariables false
set_option linter.unusedSimpArgs false

def peersSum (l : List Nd) : Nat := (l.map fun v => v.peers.length).sum
theorem peersSum_next {l : List Nd} {k : Nat} {v : Nd} (h : l[k]? = some v) : peersSum (l.take (k + 1)) = peersSum (l.take k) + v.peers.length := by
  unfold peersSum
  rw [List.take_add_one, h]
  simp
theorem peersSum_take (l : List Nd) (k : Nat) : peersSum (l.take k) ≤ peersSum l := by
  unfold peersSum
  have := List.take_append_drop k l
  rw [← this, List.map_append, List.sum_append, List.take_append_drop]
  omega
theorem peersSum_le {l : List Nd} {k : Nat} {v : Nd} (h : l[k]? = some v) : v.peers.length ≤ peersSum l := by
  have := peersSum_next h
  have := peersSum_take l (k + 1)
  omega
/-- What is left, or below nought. -/
def leftOf (left n : Int) : Int := if left - n < 0 then -1 else left - n
set_option maxHeartbeats 1000000 in
theorem eqInts_c (l : List Int) (n : Nat) (hn : Hid (n = l.length)) (hm : n ≤ maxLen) (x y : Option Addr) (cap cap' : Nat) (w : World) (h : IntsAt w.heap.size w x l) (h' : IntsAt w.heap.size w y l) :
    Calls Try.prog 21 #[.slice x n cap, .slice y n cap'] w fun e w' => e = .returned (.bool true) ∧ Below w.heap.size w w' := by
  unfold maxLen at hm
  go_enter Try.func21, Try.ntmps21
  go_wp2
  go_loopw [5] (fun i wr => ∃ k : Nat, k ≤ n ∧ i = .int .i64 k ∧ Below w.heap.size w wr) (fun i _ => n - (intOf i).toNat)
  case atStart => exact ⟨0, Nat.zero_le _, rfl, Below.refl _ _⟩
  case round =>
    obtain ⟨k, hk, rfl, hb⟩ := hrel
    by_cases hlt : k < n
    · obtain ⟨v, hv⟩ := getI (l := l) (k := k) (by rw [← hn.out]; exact hlt)
      obtain ⟨b, off, rfl, _, c0⟩ := (h.next hb).at_ hv
      obtain ⟨b', off', rfl, _, c1⟩ := (h'.next hb).at_ hv
      clear hv
      go_wp2_with fail
      go_quiet (fail)
      go_wp2_with fail
      go_roundw
      case rel => exact ⟨k + 1, by omega, by go_num, grow_drew hb _⟩
      case measure => simp [intOf]; omega
    · go_wp2_with fail
      go_returns
      exact ⟨rfl, hb⟩
end Go.Proofs.Ytckonbbdeohccaa
