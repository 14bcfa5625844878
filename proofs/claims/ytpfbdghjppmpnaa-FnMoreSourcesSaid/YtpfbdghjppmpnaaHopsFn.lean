/- A source has no hops; each other one that is reached has a peer with one hop less, and none with fewer: at all drawn nodes. -/
import Derived.Test.YtpfbdghjppmpnaaLoops
import Derived.Test.YtpfbdghjppmpnaaHopsR
import Derived.Test.YtpfbdghjppmpnaaNdDraws
namespace Go.Proofs.Ytpfbdghjppmpnaa
open Go.ChangeShapes Go.WideShapes Go.ChangeAt Go.RowKit
set_option linter.unusedVariables false
set_option linter.unusedSimpArgs false

def hat (H : List Int) (p : Int) : Int := (H[p.toNat]?).getD 0
theorem hat_of {H : List Int} {j : Nat} {z : Int} (h : H[j]? = some z) : hat H (j : Int) = z := by unfold hat; rw [Int.toNat_natCast, h]; rfl
def nearTo (H : List Int) (hi : Int) (ps : List Int) (k : Nat) : Bool := (ps.take k).any fun p => decide (0 ≤ hat H p) && (hat H p == hi - 1)
theorem nearTo_next {H : List Int} {hi : Int} {ps : List Int} {k : Nat} {p : Int} (h : ps[k]? = some p) : nearTo H hi ps (k + 1) = (nearTo H hi ps k || (decide (0 ≤ hat H p) && (hat H p == hi - 1))) := by
  unfold nearTo
  rw [List.take_add_one, h, List.any_append]
  simp
theorem hop_cases {l : List Nd} {i : Nat} : (reach l l.length i = false ∧ hopsAt l l.length i = -1) ∨ ∃ d, d < l.length ∧ distIs l d i ∧ hopsAt l l.length i = (d : Int) := by
  cases h : reach l l.length i with
  | false => exact .inl ⟨rfl, hopsAt_no h⟩
  | true =>
    obtain ⟨d, hd, hdi⟩ := dist_of h
    exact .inr ⟨d, dist_lt hdi, hdi, hopsAt_of hdi hd⟩
theorem hopsL_get {l : List Nd} {i : Nat} (h : i < l.length) : (hopsL l)[i]? = some (hopsAt l l.length i) := by
  unfold hopsL
  rw [List.getElem?_map, List.getElem?_range h]
  rfl
theorem hat_hops {l : List Nd} {p : Int} (h0 : 0 ≤ p) (h1 : p < l.length) : hat (hopsL l) p = hopsAt l l.length p.toNat := by
  unfold hat
  rw [hopsL_get (by omega)]
  rfl
/-- What is told of hops. -/
theorem hop_facts {l : List Nd} (hok : nodesOk l = true) {i : Nat} {v : Nd} (hv : l[i]? = some v) : ∃ hi, (hopsL l)[i]? = some hi ∧ -1 ≤ hi ∧ hi ≤ 12 ∧ (hi == 0) = v.src ∧ (∀ p ∈ v.peers, 0 ≤ hat (hopsL l) p → 0 ≤ hi ∧ hi ≤ hat (hopsL l) p + 1) ∧ (0 < hi → nearTo (hopsL l) hi v.peers v.peers.length = true) ∧ (∀ p ∈ v.peers, 0 ≤ p ∧ p < l.length ∧ -1 ≤ hat (hopsL l) p ∧ hat (hopsL l) p ≤ 12) := by
  have hil := (List.getElem?_eq_some_iff.1 hv).1
  have hl12 := nodesOk_len hok
  have hin : ∀ p ∈ v.peers, 0 ≤ p ∧ p < l.length := fun p hp => by
    have := peer_in (nodesOk_at hok hv) hp
    omega
  refine ⟨_, hopsL_get hil, ?_, ?_, ?_, ?_, ?_, ?_⟩
  · rcases hop_cases (l := l) (i := i) with ⟨_, e⟩ | ⟨d, _, _, e⟩ <;> rw [e] <;> omega
  · rcases hop_cases (l := l) (i := i) with ⟨_, e⟩ | ⟨d, _, _, e⟩ <;> rw [e] <;> omega
  · cases hs : v.src with
    | true =>
      have h0 : distIs l 0 i := ⟨by rw [reach_zero hv, hs], fun k' hk => absurd hk (Nat.not_lt_zero _)⟩
      rw [hopsAt_of h0 (Nat.zero_le _)]
      rfl
    | false =>
      rcases hop_cases (l := l) (i := i) with ⟨_, e⟩ | ⟨d, _, hd, e⟩
      · rw [e]; rfl
      · rw [e]
        cases d with
        | zero =>
          have := hd.1
          rw [reach_zero hv, hs] at this
          cases this
        | succ d =>
          simp only [beq_eq_false_iff_ne, ne_eq]
          omega
  · intro p hp h0
    obtain ⟨p0, p1⟩ := hin p hp
    rw [hat_hops p0 p1] at h0 ⊢
    rcases hop_cases (l := l) (i := p.toNat) with ⟨_, e⟩ | ⟨d, hd, hdi, e⟩
    · rw [e] at h0; omega
    · rw [e]
      have hr : reach l (d + 1) i = true := by
        rw [reach_succ hv, Bool.or_eq_true, List.any_eq_true]
        exact .inr ⟨p, hp, hdi.1⟩
      obtain ⟨d', hd', hdi'⟩ := dist_of hr
      rw [hopsAt_of hdi' (by omega)]
      omega
  · intro h0
    rcases hop_cases (l := l) (i := i) with ⟨_, e⟩ | ⟨d, hd, hdi, e⟩
    · rw [e] at h0; omega
    · rw [e] at h0 ⊢
      cases d with
      | zero => omega
      | succ d =>
        obtain ⟨v', p, hv', hp, hdp⟩ := dist_prev hdi
        rw [hv] at hv'
        obtain rfl := Option.some.inj hv'
        obtain ⟨p0, p1⟩ := hin p hp
        unfold nearTo
        rw [List.take_length, List.any_eq_true]
        refine ⟨p, hp, ?_⟩
        rw [hat_hops p0 p1, hopsAt_of hdp (by omega)]
        simp
  · intro p hp
    obtain ⟨p0, p1⟩ := hin p hp
    rw [hat_hops p0 p1]
    rcases hop_cases (l := l) (i := p.toNat) with ⟨_, e⟩ | ⟨d, hd, hdi, e⟩ <;> rw [e] <;> omega
theorem ints_own {base m cap : Nat} {w : World} {y : Option Addr} {l : List Int} (h : w.ownsRow base 2 1 (.slice y m cap) m (l.map (Value.int .i64))) (hm : m = l.length) : IntsAt w.heap.size w y l := by
  subst hm
  exact (PeersOwn.ints (e := ⟨⟨false, l, 0, 0⟩, y, cap⟩) h).1
set_option maxHeartbeats 1000000 in
theorem sameIntsN_c (l : List Int) (n : Nat) (hn : Hid (n = l.length)) (hm : n ≤ 1048576) (x y : Option Addr) (cap cap' : Nat) (w : World) (h : IntsAt w.heap.size w x l) (h' : IntsAt w.heap.size w y l) :
    Calls Try.prog 7 #[.slice x n cap, .slice y n cap'] w fun e w' => e = .returned (.bool true) ∧ Below w.heap.size w w' := by
  go_enter Try.func7, Try.ntmps7
  go_wp2
  go_loopw [5] (fun i wr => ∃ k : Nat, k ≤ n ∧ i = .int .i64 k ∧ Below w.heap.size w wr) (fun i _ => n - (intOf i).toNat)
  case atStart => exact ⟨0, Nat.zero_le _, rfl, Below.refl _ _⟩
  case round =>
    obtain ⟨k, hk, rfl, hb⟩ := hrel
    by_cases hlt : k < n
    · obtain ⟨v, hv⟩ := getI (l := l) (k := k) (by rw [← hn.out]; exact hlt)
      obtain ⟨g, off, rfl, _, c0⟩ := (h.next hb).at_ hv
      obtain ⟨g', off', rfl, _, c1⟩ := (h'.next hb).at_ hv
      have HV := Lib.hid hv
      clear hv
      go_wp2_with fail
      go_quiet (fail)
      go_wp2_with fail
      go_roundw
      case rel => exact ⟨k + 1, by omega, by go_num, grow_drew hb _⟩
      case measure => simp [intOf]; omega
    · go_wp2_with fail
      go_returns
      exact ⟨rfl, hb⟩
def IntsPost (W : World) (H : List Int) (m : Nat) : Ending → World → Prop := fun e w' => ∃ y c, e = .returned (.slice y m c) ∧ IntsAt w'.heap.size w' y H ∧ Below W.heap.size W w'
end Go.Proofs.Ytpfbdghjppmpnaa
