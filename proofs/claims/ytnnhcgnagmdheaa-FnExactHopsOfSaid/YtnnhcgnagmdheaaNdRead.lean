/- How much lists of nodes hold; lists of numbers and of nodes held against each other. -/
import Derived.Test.YtnnhcgnagmdheaaNd
import Derived.IntWalk
import Derived.BigQuiet
import Derived.Deep.Cut
import Derived.Deep.RegionWith
import Derived.Deep.QuietTactic
namespace Go.Proofs.Ytnnhcgnagmdheaa
open Go.ChangeShapes Go.WideShapes Go.ChangeAt Go.RowKit
set_option linter.unusedVariables false
set_option linter.unusedSimpArgs false

def peersSum (l : List Nd) : Nat := (l.map fun v => v.peers.length).sum
theorem peersSum_next {l : List Nd} {k : Nat} {v : Nd} (h : l[k]? = some v) : peersSum (l.take (k + 1)) = peersSum (l.take k) + v.peers.length := by
  unfold peersSum
  rw [List.take_add_one, h]
  simp
theorem peersSum_take (l : List Nd) (k : Nat) : peersSum (l.take k) ≤ peersSum l := by
  unfold peersSum
  have := List.take_append_drop k l
  rw [← this, List.map_append, List.sum_append, List.take_append_drop]
  omega
theorem peersSum_le {l : List Nd} {k : Nat} {v : Nd} (h : l[k]? = some v) : v.peers.length ≤ peersSum l := by
  have := peersSum_next h
  have := peersSum_take l (k + 1)
  omega
/-- What is left, or below nought. -/
def leftOf (left n : Int) : Int := if left - n < 0 then -1 else left - n
set_option maxHeartbeats 1000000 in
theorem szNode_c (v : Nd) (px : Option Addr) (pc : Nat) (hp : v.peers.length ≤ maxLen) (left : Int) (h0 : 0 ≤ left) (h1 : left ≤ 1048576) (w : World) :
    Calls Try.prog 50 #[.agg #[.bool v.src, .slice px v.peers.length pc, .int .i64 v.ref, .int .i64 v.str], .int .i64 left] w fun e w' => e = .returned (.int .i64 (leftOf left v.peers.length)) ∧ Below w.heap.size w w' := by
  unfold maxLen at hp
  obtain ⟨n, hn⟩ : ∃ n, v.peers.length = n := ⟨_, rfl⟩
  rw [hn] at hp ⊢
  have hw : IntKind.i64.wrap (left - (n : Int)) = left - n := IntWalk.i64_in _ (by omega)
  obtain ⟨d, hd⟩ : ∃ d, left - (n : Int) = d := ⟨_, rfl⟩
  rw [hd] at hw
  have HD := Lib.hid hd
  clear hn
  unfold leftOf
  rw [hd]
  clear hd
  go_enter Try.func50, Try.ntmps50
  by_cases hneg : d < 0
  · have hdd : decide (d < 0) = true := decide_eq_true hneg
    have hs : left - (n : Int) = d := HD.out
    rw [if_pos hneg]
    go_wp2_with (go_in)
    go_returns
    exact ⟨rfl, by go_grown⟩
  · have hdd : decide (d < 0) = false := decide_eq_false hneg
    have hs : left - (n : Int) = d := HD.out
    rw [if_neg hneg]
    go_wp2_with (go_in)
    go_returns
    exact ⟨rfl, by go_grown⟩
set_option maxHeartbeats 2000000 in
theorem szNodeS_c (l : List Nd) (n : Nat) (hn : Hid (n = l.length)) (hm : n ≤ maxLen) (x : Option Addr) (cap : Nat) (w : World) (h : Nds w.heap.size w x l) :
    Calls Try.prog 13 #[.slice x n cap, .int .i64 1048576] w fun e w' => ∃ r : Int, e = .returned (.int .i64 r) ∧ (r < 0 ∨ (0 ≤ r ∧ n ≤ 1048576 ∧ peersSum l ≤ 1048576)) ∧ Below w.heap.size w w' := by
  unfold maxLen at hm
  have hw : IntKind.i64.wrap ((1048576 : Int) - n) = 1048576 - n := IntWalk.i64_in _ (by omega)
  go_enter Try.func13, Try.ntmps13
  by_cases hbig : 1048576 < n
  · have hd : decide ((1048576 : Int) - n < 0) = true := decide_eq_true (by omega)
    go_wp2_with fail
    go_returns
    exact ⟨_, rfl, .inl (by omega), Below.refl _ _⟩
  · have hd : decide ((1048576 : Int) - n < 0) = false := decide_eq_false (by omega)
    obtain ⟨s, hs⟩ : ∃ s, (1048576 : Int) - n = s := ⟨_, rfl⟩
    rw [hs] at hd hw
    have hs' := Lib.hid hs
    go_wp2_with fail
    clear hs
    go_loopw [1, 5] (fun q i wr => ∃ (k : Nat) (a : Int), k ≤ n ∧ i = .int .i64 k ∧ q = .int .i64 a ∧ 0 ≤ a ∧ Hid (a + (n : Int) + ((peersSum (l.take k) : Nat) : Int) = 1048576) ∧ Below w.heap.size w wr) (fun _ i _ => n - (intOf i).toNat)
    case atStart => exact ⟨0, s, Nat.zero_le _, rfl, rfl, by have := hs'.out; omega, Lib.hid (by have := hs'.out; simp [peersSum]; omega), Below.refl _ _⟩
    case round =>
      obtain ⟨k, a, hk, rfl, rfl, ha, HA, hb⟩ := hrel
      have ha1 : a ≤ 1048576 := by have := HA.out; omega
      by_cases hlt : k < n
      · obtain ⟨v, hv⟩ := getN (l := l) (k := k) (by rw [← hn.out]; exact hlt)
        have hnx := peersSum_next hv
        obtain ⟨b, off, px, pc, rfl, hbB, c0, c1, c2, c3, _, hp1, hp2⟩ := (h.next hb).at_ hv
        have HN := Lib.hid hnx
        have HZ := Lib.hid (szNode_c v px pc (Nat.le_trans hp1 hp2) a ha ha1 wr)
        obtain ⟨p, hp⟩ : ∃ p, v.peers.length = p := ⟨_, rfl⟩
        rw [hp] at c1 HZ HN
        clear hv hnx hp1 hp hs' ha1
        go_wp2_with fail
        refine HZ.out.mono ?_
        rintro e w1 ⟨rfl, hb1⟩
        have g1 := grow_next hb hb1
        by_cases hneg : a - (p : Int) < 0
        · have hL : leftOf a p = -1 := if_pos hneg
          rw [hL]
          clear hneg
          go_wp2_with fail
          go_returns
          exact ⟨_, rfl, .inl (by omega), g1⟩
        · have hL : leftOf a p = a - p := if_neg hneg
          rw [hL]
          have hdd : decide (a - (p : Int) < 0) = false := decide_eq_false hneg
          have HG := Lib.hid hneg
          go_wp2_with fail
          go_roundw
          case rel => exact ⟨k + 1, a - p, by omega, by go_num, rfl, by have := HG.out; omega, Lib.hid (by have := HN.out; have := HA.out; omega), g1⟩
          case measure => simp [intOf]; omega
      · have HE := Lib.hid (show k = n by omega)
        go_wp2_with fail
        go_returns
        refine ⟨_, rfl, .inr ⟨ha, by omega, ?_⟩, hb⟩
        have h1 := HA.out
        rw [HE.out, hn.out, List.take_length] at h1
        omega

set_option maxHeartbeats 1000000 in
theorem eqInts_c (l : List Int) (n : Nat) (hn : Hid (n = l.length)) (hm : n ≤ maxLen) (x y : Option Addr) (cap cap' : Nat) (w : World) (h : IntsAt w.heap.size w x l) (h' : IntsAt w.heap.size w y l) :
    Calls Try.prog 33 #[.slice x n cap, .slice y n cap'] w fun e w' => e = .returned (.bool true) ∧ Below w.heap.size w w' := by
  unfold maxLen at hm
  go_enter Try.func33, Try.ntmps33
  go_wp2
  go_loopw [5] (fun i wr => ∃ k : Nat, k ≤ n ∧ i = .int .i64 k ∧ Below w.heap.size w wr) (fun i _ => n - (intOf i).toNat)
  case atStart => exact ⟨0, Nat.zero_le _, rfl, Below.refl _ _⟩
  case round =>
    obtain ⟨k, hk, rfl, hb⟩ := hrel
    by_cases hlt : k < n
    · obtain ⟨v, hv⟩ := getI (l := l) (k := k) (by rw [← hn.out]; exact hlt)
      obtain ⟨b, off, rfl, _, c0⟩ := (h.next hb).at_ hv
      obtain ⟨b', off', rfl, _, c1⟩ := (h'.next hb).at_ hv
      clear hv
      go_wp2_with fail
      go_quiet (fail)
      go_wp2_with fail
      go_roundw
      case rel => exact ⟨k + 1, by omega, by go_num, grow_drew hb _⟩
      case measure => simp [intOf]; omega
    · go_wp2_with fail
      go_returns
      exact ⟨rfl, hb⟩
set_option maxHeartbeats 1000000 in
theorem eqNode_c (v : Nd) (px py : Option Addr) (pc pd : Nat) (hp : v.peers.length ≤ maxLen) (w : World) (h : IntsAt w.heap.size w px v.peers) (h' : IntsAt w.heap.size w py v.peers) :
    Calls Try.prog 20 #[.agg #[.bool v.src, .slice px v.peers.length pc, .int .i64 v.ref, .int .i64 v.str], .agg #[.bool v.src, .slice py v.peers.length pd, .int .i64 v.ref, .int .i64 v.str]] w fun e w' => e = .returned (.bool true) ∧ Below w.heap.size w w' := by
  have g2 : Below w.heap.size w ((w.alloc (.cells #[.bool v.src, .slice px v.peers.length pc, .int .i64 v.ref, .int .i64 v.str] 31)).alloc (.cells #[.bool v.src, .slice py v.peers.length pd, .int .i64 v.ref, .int .i64 v.str] 31)) := (below_new w _).alloc (below_new w (.cells #[.bool v.src, .slice px v.peers.length pc, .int .i64 v.ref, .int .i64 v.str] 31)).size _
  have B1 := blk_alloc (blk_new w (.cells #[.bool v.src, .slice px v.peers.length pc, .int .i64 v.ref, .int .i64 v.str] 31)) (.cells #[.bool v.src, .slice py v.peers.length pd, .int .i64 v.ref, .int .i64 v.str] 31)
  have B2 := blk_new (w.alloc (.cells #[.bool v.src, .slice px v.peers.length pc, .int .i64 v.ref, .int .i64 v.str] 31)) (.cells #[.bool v.src, .slice py v.peers.length pd, .int .i64 v.ref, .int .i64 v.str] 31)
  rw [World.size_alloc] at B2
  have hee : (v.src != v.src) = false := by cases v.src <;> rfl
  go_enter Try.func20, Try.ntmps20
  go_upto_region 3 with (fail)
  generalize (w.alloc (.cells #[.bool v.src, .slice px v.peers.length pc, .int .i64 v.ref, .int .i64 v.str] 31)).alloc (.cells #[.bool v.src, .slice py v.peers.length pd, .int .i64 v.ref, .int .i64 v.str] 31) = w1 at *
  have HQ := Lib.hid (eqInts_c v.peers v.peers.length (Lib.hid rfl) hp px py pc pd w1 (h.next g2) (h'.next g2))
  have cells : ∀ {W : World} {b : Nat} {q : Option Addr} {c : Nat}, W.heap[b]? = some (.cells #[.bool v.src, .slice q v.peers.length c, .int .i64 v.ref, .int .i64 v.str] 31) → W.cell? ⟨b, 0, none⟩ = some (.bool v.src) ∧ W.cell? ⟨b, 1, none⟩ = some (.slice q v.peers.length c) ∧ W.cell? ⟨b, 2, none⟩ = some (.int .i64 v.ref) ∧ W.cell? ⟨b, 3, none⟩ = some (.int .i64 v.str) := fun e => by simp [World.cell?, e]
  obtain ⟨a0, a1, a2, a3⟩ := cells B1
  obtain ⟨e0, e1, e2, e3⟩ := cells B2
  go_wp2_with fail
  refine HQ.out.mono ?_
  rintro e w2 ⟨rfl, hb2⟩
  obtain ⟨a0, a1, a2, a3⟩ := cells (blk_next hb2 B1)
  obtain ⟨e0, e1, e2, e3⟩ := cells (blk_next hb2 B2)
  go_wp2_with fail
  go_returns
  exact ⟨rfl, grow_next g2 hb2⟩
set_option maxHeartbeats 2000000 in
theorem eqNodeS_c (l : List Nd) (n : Nat) (hn : Hid (n = l.length)) (hm : n ≤ maxLen) (x y : Option Addr) (cap cap' : Nat) (w : World) (h : Nds w.heap.size w x l) (h' : Nds w.heap.size w y l) :
    Calls Try.prog 17 #[.slice x n cap, .slice y n cap'] w fun e w' => e = .returned (.bool true) ∧ Below w.heap.size w w' := by
  unfold maxLen at hm
  go_enter Try.func17, Try.ntmps17
  go_wp2
  go_loopw [5] (fun i wr => ∃ k : Nat, k ≤ n ∧ i = .int .i64 k ∧ Below w.heap.size w wr) (fun i _ => n - (intOf i).toNat)
  case atStart => exact ⟨0, Nat.zero_le _, rfl, Below.refl _ _⟩
  case round =>
    obtain ⟨k, hk, rfl, hb⟩ := hrel
    by_cases hlt : k < n
    · obtain ⟨v, hv⟩ := getN (l := l) (k := k) (by rw [← hn.out]; exact hlt)
      obtain ⟨b, off, px, pc, rfl, _, c0, c1, c2, c3, hp, p1, p2⟩ := (h.next hb).at_ hv
      obtain ⟨b', off', py, pd, rfl, _, e0, e1, e2, e3, hq, p3, p4⟩ := (h'.next hb).at_ hv
      have gd : Below wr.heap.size wr wr.drew := ⟨rfl, rfl, rfl, Nat.le_refl _, fun _ _ => rfl⟩
      have HE := Lib.hid (fun W hg1 hg2 => eqNode_c v px py pc pd (Nat.le_trans p1 p2) W hg1 hg2)
      have HP := Lib.hid (hp.next gd)
      have HQ := Lib.hid (hq.next gd)
      clear hv hp hq p1 p3 gd
      go_wp2_with fail
      go_region_with (go_at_call 20; (with_reducible refine (HE.out _ HP.out HQ.out).mono ?_); rintro e w1 ⟨rfl, hb1⟩)
      all_goals
        go_wp2_with fail
        go_roundw
        case rel => exact ⟨k + 1, by omega, by go_num, grow_next hb (below_drewL hb1)⟩
        case measure => simp [intOf]; omega
    · go_wp2_with fail
      go_returns
      exact ⟨rfl, hb⟩
end Go.Proofs.Ytnnhcgnagmdheaa
