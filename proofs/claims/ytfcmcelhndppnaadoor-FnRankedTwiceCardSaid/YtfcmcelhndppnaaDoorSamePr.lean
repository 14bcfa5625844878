/- Lists of peers held against each other by the laws; a peer looked for. -/
import Derived.Test.YtfcmcelhndppnaaDoorPrRow
import Derived.Test.YtfcmcelhndppnaaDoorPeersS
import Derived.Test.YtfcmcelhndppnaaDoorSurvS
namespace Go.Proofs.YtfcmcelhndppnaaDoor
open Go.ChangeShapes Go.WideShapes Go.ChangeAt Go.RowKit
set_option linter.unusedVariables false
set_option linter.unusedSimpArgs false

set_option maxHeartbeats 2000000 in
theorem samePeers_c (l : List Pr) (n : Nat) (hn : Hid (n = l.length)) (hm : n ≤ maxLen) (x y : Option Addr) (cap cap' : Nat) (w : World) (h : Prs w.heap.size w x l) (h' : Prs w.heap.size w y l) :
    Calls Tryd.prog 20 #[.slice x n cap, .slice y n cap'] w fun e w' => e = .returned (.bool true) ∧ Below w.heap.size w w' := by
  unfold maxLen at hm
  go_enter Tryd.func20, Tryd.ntmps20
  go_wp2
  go_loopw [5] (fun i wr => ∃ k : Nat, k ≤ n ∧ i = .int .i64 k ∧ Below w.heap.size w wr) (fun i _ => n - (intOf i).toNat)
  case atStart => exact ⟨0, Nat.zero_le _, rfl, Below.refl _ _⟩
  case round =>
    obtain ⟨k, hk, rfl, hb⟩ := hrel
    by_cases hlt : k < n
    · obtain ⟨v, hv⟩ := getP (l := l) (k := k) (by rw [← hn.out]; exact hlt)
      have hr := h.next hb
      have hr' := h'.next hb
      obtain ⟨b, off, rfl, hbB, c0, c1, c2, c3, c4, c5⟩ := hr.at_ hv
      obtain ⟨b', off', rfl, hbB', c0', c1', c2', c3', c4', c5'⟩ := hr'.at_ hv
      clear hv
      go_wp2_with fail
      go_quiet (fail)
      go_wp2_with fail
      go_roundw
      case rel => exact ⟨k + 1, by omega, by go_num, grow_drew hb _⟩
      case measure => simp [intOf]; omega
    · go_wp2_with fail
      go_returns
      exact ⟨rfl, hb⟩
theorem Pr.eq_iff {u v : Pr} : u = v ↔ (u.id = v.id ∧ u.str = v.str ∧ u.s.off = v.s.off ∧ u.s.delay = v.s.delay ∧ u.s.disp = v.s.disp ∧ u.s.at_ = v.s.at_) := by
  obtain ⟨a, b, c, d, e, f⟩ := u
  obtain ⟨a', b', c', d', e', f'⟩ := v
  simp
/-- Is it the same peer, number by number? -/
def samePr (u v : Pr) : Bool := (u.id == v.id) && ((u.str == v.str) && ((u.s.off == v.s.off) && ((u.s.delay == v.s.delay) && ((u.s.disp == v.s.disp) && (u.s.at_ == v.s.at_)))))
theorem samePr_iff {u v : Pr} : samePr u v = true ↔ u = v := by
  rw [Pr.eq_iff]
  simp [samePr]
theorem samePr_no {u v : Pr} (h : u ≠ v) : samePr u v = false := by
  cases e : samePr u v with
  | false => rfl
  | true => exact absurd (samePr_iff.1 e) h
theorem samePr_self (u : Pr) : samePr u u = true := samePr_iff.2 rfl
set_option maxRecDepth 100000 in
set_option maxHeartbeats 1000000 in
theorem eq_pr (u v : Pr) (w : World) : (Op.equalIn 10000 40 (.agg #[.int .i64 u.id, .int .i64 u.str, .int .i64 u.s.off, .int .i64 u.s.delay, .int .i64 u.s.disp, .int .i64 u.s.at_]) (.agg #[.int .i64 v.id, .int .i64 v.str, .int .i64 v.s.off, .int .i64 v.s.delay, .int .i64 v.s.disp, .int .i64 v.s.at_])).run Tryd.prog w = .ok (samePr u v) w := by
  unfold samePr
  cases h0 : (u.id == v.id)
  · go_simp
  cases h1 : (u.str == v.str)
  · go_simp
  cases h2 : (u.s.off == v.s.off)
  · go_simp
  cases h3 : (u.s.delay == v.s.delay)
  · go_simp
  cases h4 : (u.s.disp == v.s.disp)
  · go_simp
  cases h5 : (u.s.at_ == v.s.at_)
  · go_simp
  · go_simp
set_option maxHeartbeats 2000000 in
theorem among_c (l : List Pr) (v : Pr) (hv : v ∈ l) (n : Nat) (hn : Hid (n = l.length)) (hm : n ≤ maxLen) (x : Option Addr) (cap : Nat) (w : World) (h : Prs w.heap.size w x l) :
    Calls Tryd.prog 23 #[.slice x n cap, .agg #[.int .i64 v.id, .int .i64 v.str, .int .i64 v.s.off, .int .i64 v.s.delay, .int .i64 v.s.disp, .int .i64 v.s.at_]] w fun e w' => e = .returned (.bool true) ∧ Below w.heap.size w w' := by
  unfold maxLen at hm
  obtain ⟨q, hq, hqv⟩ := List.mem_iff_getElem.1 hv
  have hqv' : l[q]? = some v := by rw [List.getElem?_eq_getElem hq, hqv]
  rw [← hn.out] at hq
  have gb : Below w.heap.size w (w.alloc (.cells #[.int .i64 v.id, .int .i64 v.str, .int .i64 v.s.off, .int .i64 v.s.delay, .int .i64 v.s.disp, .int .i64 v.s.at_] 40)) := below_new _ _
  have Q0 := blk_new w (.cells #[.int .i64 v.id, .int .i64 v.str, .int .i64 v.s.off, .int .i64 v.s.delay, .int .i64 v.s.disp, .int .i64 v.s.at_] 40)
  have HQ := Lib.hid hqv'
  clear hqv hqv' hv
  go_enter Tryd.func23, Tryd.ntmps23
  go_wp2
  go_loopw [5] (fun i wr => ∃ k : Nat, k ≤ q ∧ i = .int .i64 k ∧ Below (w.alloc (.cells #[.int .i64 v.id, .int .i64 v.str, .int .i64 v.s.off, .int .i64 v.s.delay, .int .i64 v.s.disp, .int .i64 v.s.at_] 40)).heap.size (w.alloc (.cells #[.int .i64 v.id, .int .i64 v.str, .int .i64 v.s.off, .int .i64 v.s.delay, .int .i64 v.s.disp, .int .i64 v.s.at_] 40)) wr) (fun i _ => n - (intOf i).toNat)
  case atStart => exact ⟨0, Nat.zero_le _, rfl, Below.refl _ _⟩
  case round =>
    obtain ⟨k, hk, rfl, hb0⟩ := hrel
    have hb := grow_next gb hb0
    have hlt : k < n := by omega
    obtain ⟨u, hu⟩ := getP (l := l) (k := k) (by rw [← hn.out]; exact hlt)
    obtain ⟨b, off, rfl, _⟩ := h.at_ hu
    obtain ⟨c0, c1, c2, c3, c4, c5⟩ := prs_cell (h.next hb) hu
    obtain ⟨d0, d1, d2, d3, d4, d5⟩ := peer_cells (blk_next hb0 Q0)
    by_cases huv : u = v
    · subst huv
      clear hu
      go_wp2_with fail
      go_quiet (fail)
      go_wp2_with fail
      go_returns
      exact ⟨rfl, grow_drew hb _⟩
    · have hkq : k ≠ q := fun e => by
        subst e
        rw [HQ.out] at hu
        exact huv (Option.some.inj hu).symm
      clear hu
      go_wp2_with fail
      have HE := fun W => eq_pr u v W
      rw [samePr_no huv] at HE
      go_quiet (fail)
      go_wp2_with fail
      go_roundw
      case rel => exact ⟨k + 1, by omega, by go_num, grow_drew hb0 _⟩
      case measure => simp [intOf]; omega
end Go.Proofs.YtfcmcelhndppnaaDoor
