/- A source has no hops; each other one that is reached has a peer with one hop less, and none with fewer: at all drawn nodes. -/
import Derived.Test.YtfdlaomgaagmgaaLoops
import Derived.Test.YtfdlaomgaagmgaaHopsR
import Derived.Test.YtfdlaomgaagmgaaNdDraws
namespace Go.Proofs.Ytfdlaomgaagmgaa
open Go.ChangeShapes Go.WideShapes Go.ChangeAt Go.RowKit
set_option linter.unusedVariables false
set_option linter.unusedSimpArgs false

def hat (H : List Int) (p : Int) : Int := (H[p.toNat]?).getD 0
theorem hat_of {H : List Int} {j : Nat} {z : Int} (h : H[j]? = some z) : hat H (j : Int) = z := by unfold hat; rw [Int.toNat_natCast, h]; rfl
def nearTo (H : List Int) (hi : Int) (ps : List Int) (k : Nat) : Bool := (ps.take k).any fun p => decide (0 ≤ hat H p) && (hat H p == hi - 1)
theorem nearTo_next {H : List Int} {hi : Int} {ps : List Int} {k : Nat} {p : Int} (h : ps[k]? = some p) : nearTo H hi ps (k + 1) = (nearTo H hi ps k || (decide (0 ≤ hat H p) && (hat H p == hi - 1))) := by
  unfold nearTo
  rw [List.take_add_one, h, List.any_append]
  simp
theorem hop_cases {l : List Nd} {i : Nat} : (reach l l.length i = false ∧ hopsAt l l.length i = -1) ∨ ∃ d, d < l.length ∧ distIs l d i ∧ hopsAt l l.length i = (d : Int) := by
  cases h : reach l l.length i with
  | false => exact .inl ⟨rfl, hopsAt_no h⟩
  | true =>
    obtain ⟨d, hd, hdi⟩ := dist_of h
    exact .inr ⟨d, dist_lt hdi, hdi, hopsAt_of hdi hd⟩
theorem hopsL_get {l : List Nd} {i : Nat} (h : i < l.length) : (hopsL l)[i]? = some (hopsAt l l.length i) := by
  unfold hopsL
  rw [List.getElem?_map, List.getElem?_range h]
  rfl
theorem hat_hops {l : List Nd} {p : Int} (h0 : 0 ≤ p) (h1 : p < l.length) : hat (hopsL l) p = hopsAt l l.length p.toNat := by
  unfold hat
  rw [hopsL_get (by omega)]
  rfl
/-- What is told of hops. -/
theorem hop_facts {l : List Nd} (hok : nodesOk l = true) {i : Nat} {v : Nd} (hv : l[i]? = some v) : ∃ hi, (hopsL l)[i]? = some hi ∧ -1 ≤ hi ∧ hi ≤ 12 ∧ (hi == 0) = v.src ∧ (∀ p ∈ v.peers, 0 ≤ hat (hopsL l) p → 0 ≤ hi ∧ hi ≤ hat (hopsL l) p + 1) ∧ (0 < hi → nearTo (hopsL l) hi v.peers v.peers.length = true) ∧ (∀ p ∈ v.peers, 0 ≤ p ∧ p < l.length ∧ -1 ≤ hat (hopsL l) p ∧ hat (hopsL l) p ≤ 12) := by
  have hil := (List.getElem?_eq_some_iff.1 hv).1
  have hl12 := nodesOk_len hok
  have hin : ∀ p ∈ v.peers, 0 ≤ p ∧ p < l.length := fun p hp => by
    have := peer_in (nodesOk_at hok hv) hp
    omega
  refine ⟨_, hopsL_get hil, ?_, ?_, ?_, ?_, ?_, ?_⟩
  · rcases hop_cases (l := l) (i := i) with ⟨_, e⟩ | ⟨d, _, _, e⟩ <;> rw [e] <;> omega
  · rcases hop_cases (l := l) (i := i) with ⟨_, e⟩ | ⟨d, _, _, e⟩ <;> rw [e] <;> omega
  · cases hs : v.src with
    | true =>
      have h0 : distIs l 0 i := ⟨by rw [reach_zero hv, hs], fun k' hk => absurd hk (Nat.not_lt_zero _)⟩
      rw [hopsAt_of h0 (Nat.zero_le _)]
      rfl
    | false =>
      rcases hop_cases (l := l) (i := i) with ⟨_, e⟩ | ⟨d, _, hd, e⟩
      · rw [e]; rfl
      · rw [e]
        cases d with
        | zero =>
          have := hd.1
          rw [reach_zero hv, hs] at this
          cases this
        | succ d =>
          simp only [beq_eq_false_iff_ne, ne_eq]
          omega
  · intro p hp h0
    obtain ⟨p0, p1⟩ := hin p hp
    rw [hat_hops p0 p1] at h0 ⊢
    rcases hop_cases (l := l) (i := p.toNat) with ⟨_, e⟩ | ⟨d, hd, hdi, e⟩
    · rw [e] at h0; omega
    · rw [e]
      have hr : reach l (d + 1) i = true := by
        rw [reach_succ hv, Bool.or_eq_true, List.any_eq_true]
        exact .inr ⟨p, hp, hdi.1⟩
      obtain ⟨d', hd', hdi'⟩ := dist_of hr
      rw [hopsAt_of hdi' (by omega)]
      omega
  · intro h0
    rcases hop_cases (l := l) (i := i) with ⟨_, e⟩ | ⟨d, hd, hdi, e⟩
    · rw [e] at h0; omega
    · rw [e] at h0 ⊢
      cases d with
      | zero => omega
      | succ d =>
        obtain ⟨v', p, hv', hp, hdp⟩ := dist_prev hdi
        rw [hv] at hv'
        obtain rfl := Option.some.inj hv'
        obtain ⟨p0, p1⟩ := hin p hp
        unfold nearTo
        rw [List.take_length, List.any_eq_true]
        refine ⟨p, hp, ?_⟩
        rw [hat_hops p0 p1, hopsAt_of hdp (by omega)]
        simp
  · intro p hp
    obtain ⟨p0, p1⟩ := hin p hp
    rw [hat_hops p0 p1]
    rcases hop_cases (l := l) (i := p.toNat) with ⟨_, e⟩ | ⟨d, hd, hdi, e⟩ <;> rw [e] <;> omega
theorem ints_own {base m cap : Nat} {w : World} {y : Option Addr} {l : List Int} (h : w.ownsRow base 2 1 (.slice y m cap) m (l.map (Value.int .i64))) (hm : m = l.length) : IntsAt w.heap.size w y l := by
  subst hm
  exact (PeersOwn.ints (e := ⟨⟨false, l, 0, 0⟩, y, cap⟩) h).1
set_option maxHeartbeats 1000000 in
theorem sameIntsN_c (l : List Int) (n : Nat) (hn : Hid (n = l.length)) (hm : n ≤ 1048576) (x y : Option Addr) (cap cap' : Nat) (w : World) (h : IntsAt w.heap.size w x l) (h' : IntsAt w.heap.size w y l) :
    Calls Try.prog 20 #[.slice x n cap, .slice y n cap'] w fun e w' => e = .returned (.bool true) ∧ Below w.heap.size w w' := by
  go_enter Try.func20, Try.ntmps20
  go_wp2
  go_loopw [5] (fun i wr => ∃ k : Nat, k ≤ n ∧ i = .int .i64 k ∧ Below w.heap.size w wr) (fun i _ => n - (intOf i).toNat)
  case atStart => exact ⟨0, Nat.zero_le _, rfl, Below.refl _ _⟩
  case round =>
    obtain ⟨k, hk, rfl, hb⟩ := hrel
    by_cases hlt : k < n
    · obtain ⟨v, hv⟩ := getI (l := l) (k := k) (by rw [← hn.out]; exact hlt)
      obtain ⟨g, off, rfl, _, c0⟩ := (h.next hb).at_ hv
      obtain ⟨g', off', rfl, _, c1⟩ := (h'.next hb).at_ hv
      have HV := Lib.hid hv
      clear hv
      go_wp2_with fail
      go_quiet (fail)
      go_wp2_with fail
      go_roundw
      case rel => exact ⟨k + 1, by omega, by go_num, grow_drew hb _⟩
      case measure => simp [intOf]; omega
    · go_wp2_with fail
      go_returns
      exact ⟨rfl, hb⟩
def IntsPost (W : World) (H : List Int) (m : Nat) : Ending → World → Prop := fun e w' => ∃ y c, e = .returned (.slice y m c) ∧ IntsAt w'.heap.size w' y H ∧ Below W.heap.size W w'
set_option maxRecDepth 100000 in
set_option maxHeartbeats 8000000 in
theorem hf_walk (w : World) (x : Option Addr) (n cap z : Nat) (hz : z = n ∧ Code w.heap.size w (.slice x n cap) n) :
    Calls Try.prog 5 #[.slice x n cap] w fun e w' => e = .returned (.bool true) ∧ Below w.heap.size w w' := by
  obtain ⟨_, hc⟩ := hz
  by_cases hbig : n ≤ 1048576
  · have HDL := Lib.hid (fun W (h : Code W.heap.size W (.slice x n cap) n) => drawLoops_c x n cap W h hbig)
    go_enter Try.func5, Try.ntmps5
    go_wp2_with (go_at_call 6; go_in)
    refine (drawHopsOf_c x n cap _ hc hbig).mono ?_
    rintro e w1 ⟨y, m, c, l, rfl, hm, hm8, hnd, hb1⟩
    obtain ⟨b, hb⟩ : ∃ b, nodesOk l = b := ⟨_, rfl⟩
    have hmm : m ≤ maxLen := by unfold maxLen; omega
    obtain ⟨H, hH⟩ : ∃ H, hopsV l = H := ⟨_, rfl⟩
    obtain ⟨mh, hmh⟩ : ∃ mh, mh = H.length := ⟨_, rfl⟩
    have hml : mh = if b then m else 0 := by
      rw [hmh, ← hH, ← hb]
      unfold hopsV
      split
      · rw [hopsL_len, ← hm.out]
      · rfl
    have hmh8 : mh ≤ 1048576 := by rw [hml]; split <;> omega
    have HMH : Hid (mh = H.length) := Lib.hid hmh
    have conv : ∀ {W w' : World} {e : Ending}, HopsPost W l (hopsV l).length e w' → IntsPost W H mh e w' := fun {W w' e} h => by
      obtain ⟨y, cc, rfl, ho, hbl⟩ := h
      rw [hH] at ho ⊢
      rw [hmh]
      exact ⟨y, cc, rfl, ints_own ho rfl, hbl⟩
    have HI := Lib.hid ((hopsOf_impl l m hm hmm y c w1 hnd).mono (fun e w' h => conv h) : Calls Try.prog 19 #[.slice y m c] w1 (IntsPost w1 H mh))
    have HS := Lib.hid (fun W h => ((hopsOf_spec l m hm hmm y c W h).mono (fun e w' h => conv h) : Calls Try.prog 21 #[.slice y m c] W (IntsPost W H mh)))
    have HN := Lib.hid (fun W h => (hb ▸ nodesOk_spec l m hm hmm y c W h : Calls Try.prog 13 #[.slice y m c] W fun e w' => e = .returned (.bool b) ∧ Below W.heap.size W w'))
    have HE := Lib.hid (fun (xx yy : Option Addr) cc cc' w h h' => sameIntsN_c H mh HMH hmh8 xx yy cc cc' w h h')
    have HB := Lib.hid hb
    have HH := Lib.hid hH
    have HML := Lib.hid hml
    have c1 := hc.next hb1
    clear hb hmm hH hmh hml conv
    go_wp2_with fail
    refine HI.out.mono ?_
    rintro e w2 ⟨hy, hcp, rfl, hi2, hb2⟩
    have n2 := hnd.next hb2
    have g2 := grow_next hb1 hb2
    have c2 := c1.next hb2
    clear hnd hb1 hb2 c1
    go_wp2_with fail
    refine (HDL.out _ c2).mono ?_
    rintro e w3 ⟨y2, m2, c2', l2, rfl, hm2, hm28, nd2, hb3⟩
    obtain ⟨o, ho⟩ : ∃ o, loopsV l2 = o := ⟨_, rfl⟩
    have hmm2 : m2 ≤ maxLen := by unfold maxLen; omega
    have HLI := Lib.hid (fun W h => (ho ▸ loops_impl l2 m2 hm2 hmm2 y2 c2' W h : Calls Try.prog 16 #[.slice y2 m2 c2'] W fun e w' => e = .returned (.bool o) ∧ Below W.heap.size W w'))
    have HLS := Lib.hid (fun W h => (ho ▸ loops_spec l2 m2 hm2 hmm2 y2 c2' W h : Calls Try.prog 17 #[.slice y2 m2 c2'] W fun e w' => e = .returned (.bool o) ∧ Below W.heap.size W w'))
    have hoo : (o != o) = false := by cases o <;> rfl
    have hoo2 : (o == o) = true := by cases o <;> rfl
    have n3 := n2.next hb3
    have i3 := hi2.next hb3
    have g3 := grow_next g2 hb3
    clear n2 g2 hb3 hi2 ho hmm2 c2
    go_wp2_with fail
    refine (HS.out _ n3).mono ?_
    rintro e w4 ⟨sy, sc, rfl, si4, hb4⟩
    have n4 := n3.next hb4
    have i4 := i3.next hb4
    have m4 := nd2.next hb4
    have g4 := grow_next g3 hb4
    clear n3 i3 nd2 g3 hb4
    go_wp2_with fail
    refine (HE.out _ _ _ _ _ i4 si4).mono ?_
    rintro e w5 ⟨rfl, hb5⟩
    have n5 := n4.next hb5
    have i5 := i4.next hb5
    have m5 := m4.next hb5
    have g5 := grow_next g4 hb5
    clear n4 i4 m4 g4 hb5 si4
    go_wp2_with fail
    refine (HLI.out _ m5).mono ?_
    rintro e w6 ⟨rfl, hb6⟩
    have n6 := n5.next hb6
    have i6 := i5.next hb6
    have m6 := m5.next hb6
    have g6 := grow_next g5 hb6
    clear n5 i5 m5 g5 hb6
    go_wp2_with fail
    refine (HLS.out _ m6).mono ?_
    rintro e w7 ⟨rfl, hb7⟩
    have n7 := n6.next hb7
    have i7 := i6.next hb7
    have m7 := m6.next hb7
    have g7 := grow_next g6 hb7
    clear n6 i6 m6 g6 hb7
    go_wp2_with fail
    refine (HN.out _ n7).mono ?_
    rintro e w8 ⟨rfl, hb8⟩
    have n8 := n7.next hb8
    have i8 := i7.next hb8
    have m8 := m7.next hb8
    have g8 := grow_next g7 hb8
    clear n7 i7 m7 g7 hb8
    cases b with
    | false =>
      go_wp2_with fail
      refine (HS.out _ n8).mono ?_
      rintro e w9 ⟨sy2, sc2, rfl, si9, hb9⟩
      have i9 := i8.next hb9
      have m9 := m8.next hb9
      have g9 := grow_next g8 hb9
      go_wp2_with fail
      refine (HE.out _ _ _ _ _ i9 si9).mono ?_
      rintro e w10 ⟨rfl, hb10⟩
      have m10 := m9.next hb10
      have g10 := grow_next g9 hb10
      go_wp2_with fail
      refine (HLI.out _ m10).mono ?_
      rintro e w11 ⟨rfl, hb11⟩
      have m11 := m10.next hb11
      have g11 := grow_next g10 hb11
      go_wp2_with fail
      refine (HLS.out _ m11).mono ?_
      rintro e w12 ⟨rfl, hb12⟩
      go_wp2_with fail
      go_returns
      exact ⟨rfl, grow_next g11 hb12⟩
    | true =>
      have hmm3 : mh = m := by simpa using HML.out
      subst hmm3
      have hHL : H = hopsL l := by
        rw [← HH.out]
        unfold hopsV
        rw [HB.out]
        rfl
      have HF := Lib.hid (fun (i : Nat) (v : Nd) (hv : l[i]? = some v) => (hHL ▸ hop_facts HB.out hv : ∃ hi, H[i]? = some hi ∧ -1 ≤ hi ∧ hi ≤ 12 ∧ (hi == 0) = v.src ∧ (∀ p ∈ v.peers, 0 ≤ hat H p → 0 ≤ hi ∧ hi ≤ hat H p + 1) ∧ (0 < hi → nearTo H hi v.peers v.peers.length = true) ∧ (∀ p ∈ v.peers, 0 ≤ p ∧ p < l.length ∧ -1 ≤ hat H p ∧ hat H p ≤ 12)))
      clear hHL m8 HLI HLS HS HI HE HN HDL
      go_wp2_with fail
      go_loopw [6] (fun q wr => ∃ i : Nat, i ≤ mh ∧ q = .int .i64 i ∧ Below w8.heap.size w8 wr) (fun q _ => mh - (intOf q).toNat)
      case atStart => exact ⟨0, Nat.zero_le _, rfl, Below.refl _ _⟩
      case round =>
        obtain ⟨i, hi, rfl, hb⟩ := hrel
        by_cases hlt : i < mh
        · have hd0 : decide ((i : Int) < (mh : Int)) = true := decide_eq_true (by omega)
          obtain ⟨v, hv⟩ := getN (l := l) (k := i) (by rw [← hm.out]; exact hlt)
          obtain ⟨q, hq, q0, q1, hsrc, hB, hC, hP⟩ := HF.out i v hv
          have ir := i8.next hb
          have nr := n8.next hb
          obtain ⟨gh, oh, rfl, _, ch⟩ := ir.at_ hq
          obtain ⟨b, off, px, pc, rfl, _, d0, d1, d2, d3, hps, _, _⟩ := nr.at_ hv
          have hsrc2 : (!(q == 0) == v.src) = false := by rw [hsrc]; cases v.src <;> rfl
          have hsrc3 : ((q == 0) != v.src) = false := by rw [hsrc]; cases v.src <;> rfl
          have hw1 : IntKind.i64.wrap (q - 1) = q - 1 := IntWalk.i64_in _ (by omega)
          have HV := Lib.hid hv
          have HQ := Lib.hid hq
          have HBB := Lib.hid hB
          have HCC := Lib.hid hC
          have HPP := Lib.hid hP
          obtain ⟨np, hnp⟩ : ∃ np, np = v.peers.length := ⟨_, rfl⟩
          have HNP := Lib.hid hnp
          have hnp12 : np ≤ 12 := by rw [hnp]; exact l_peers_short' HB.out (List.mem_of_getElem? hv)
          rw [← hnp] at d1
          have gr := grow_next g8 hb
          clear hv hq hB hC hP hsrc hnp
          go_wp2_with fail
          go_quiet (fail)
          go_wp2_with fail
          go_loopw [7, 8] (fun a t wr' => ∃ (k : Nat) (nb : Bool), k ≤ np ∧ t = .int .i64 k ∧ a = .bool nb ∧ Hid (nb = nearTo H q v.peers k) ∧ Below w8.heap.size w8 wr') (fun _ t _ => np - (intOf t).toNat)
          case atStart => exact ⟨0, false, Nat.zero_le _, rfl, rfl, Lib.hid rfl, grow_drew hb _⟩
          case round =>
            clear ch d0 d1 d2 d3 hps ir nr gr hb
            obtain ⟨k, nb, hk, rfl, rfl, HNB, hb'⟩ := hrel
            rename_i wr'
            have ir := i8.next hb'
            have nr := n8.next hb'
            obtain ⟨gh', oh', e1, _, ch⟩ := ir.at_ HQ.out
            simp only [Option.some.injEq, Addr.mk.injEq, and_true] at e1
            obtain ⟨rfl, rfl⟩ := e1
            obtain ⟨b', off', px', pc', e2, _, d0, d1, d2, d3, hps, _, _⟩ := nr.at_ HV.out
            simp only [Option.some.injEq, Addr.mk.injEq, and_true] at e2
            obtain ⟨rfl, rfl⟩ := e2
            rw [← HNP.out] at d1
            clear d0 d2 d3
            by_cases hkn : k < np
            · have hd1 : decide ((k : Int) < (np : Int)) = true := decide_eq_true (by omega)
              obtain ⟨p, hp⟩ := getI (l := v.peers) (k := k) (by rw [← HNP.out]; exact hkn)
              obtain ⟨bp, op, rfl, _, cp⟩ := hps.at_ hp
              obtain ⟨p0, p1, p2, p3⟩ := HPP.out p (List.mem_of_getElem? hp)
              have hbq := HBB.out p (List.mem_of_getElem? hp)
              have hnx := nearTo_next (H := H) (hi := q) hp
              rw [← HNB.out] at hnx
              obtain ⟨j, rfl⟩ : ∃ j : Nat, p = (j : Int) := ⟨p.toNat, by omega⟩
              have hjm : j < mh := by rw [hm.out]; omega
              obtain ⟨r, hr⟩ := getI (l := H) (k := j) (by rw [← HMH.out]; exact hjm)
              rw [hat_of hr] at p2 p3 hbq hnx
              obtain ⟨gh', oh', e3, _, cj⟩ := ir.at_ hr
              simp only [Option.some.injEq, Addr.mk.injEq, and_true] at e3
              obtain ⟨rfl, rfl⟩ := e3
              have hw2 : IntKind.i64.wrap (r + 1) = r + 1 := IntWalk.i64_in _ (by omega)
              clear hp hr p0 p1
              cases hd : decide (0 ≤ r) with
              | false =>
                rw [hd] at hnx
                have HNX := Lib.hid hnx
                clear hnx hbq
                cases nb <;> (go_wp2_with fail; go_roundw; (case rel => exact ⟨k + 1, _, by omega, by go_num, rfl, Lib.hid (by rw [HNX.out]; rfl), hb'⟩); (case measure => simp [intOf]; omega))
              | true =>
                have h2 := hbq (of_decide_eq_true hd)
                have hd4 : decide (q < 0) = false := decide_eq_false (by omega)
                have hd5 : decide (r + 1 < q) = false := decide_eq_false (by omega)
                rw [hd] at hnx
                cases he : (r == q - 1) with
                | false =>
                  rw [he] at hnx
                  have HNX := Lib.hid hnx
                  clear hnx hbq
                  cases nb <;> (go_wp2_with fail; go_roundw; (case rel => exact ⟨k + 1, _, by omega, by go_num, rfl, Lib.hid (by rw [HNX.out]; rfl), hb'⟩); (case measure => simp [intOf]; omega))
                | true =>
                  rw [he] at hnx
                  have HNX := Lib.hid hnx
                  clear hnx hbq
                  cases nb <;> (go_wp2_with fail; go_roundw; (case rel => exact ⟨k + 1, _, by omega, by go_num, rfl, Lib.hid (by rw [HNX.out]; rfl), hb'⟩); (case measure => simp [intOf]; omega))
            · have hd1 : decide ((k : Int) < (np : Int)) = false := decide_eq_false (by omega)
              cases hd7 : decide (0 < q) with
              | false =>
                cases nb <;> (go_wp2_with fail; go_roundw; (case rel => exact ⟨i + 1, by omega, by go_num, hb'⟩); (case measure => simp [intOf]; omega))
              | true =>
                have hnb := HCC.out (of_decide_eq_true hd7)
                rw [← HNP.out, show np = k by omega, ← HNB.out] at hnb
                subst hnb
                go_wp2_with fail
                go_roundw
                case rel => exact ⟨i + 1, by omega, by go_num, hb'⟩
                case measure => simp [intOf]; omega
        · have hd0 : decide ((i : Int) < (mh : Int)) = false := decide_eq_false (by omega)
          go_wp2_with fail
          go_returns
          exact ⟨rfl, grow_next g8 hb⟩
  · go_enter Try.func5, Try.ntmps5
    go_wp2_with (go_at_call 6; go_in)
    go_returns
    exact ⟨rfl, Below.refl _ _⟩
set_option maxRecDepth 100000 in
theorem hf_lifted (os : Os) (started : os.Started) (H : Type) (enc : TypeId × Value → H) :
    ReturnsInHanded {} Try.checked os 5 .any (Rows.fnHopsSpec.pre6 enc Try.prog Try.f5 Rows.fnHopsRow.domain false) (Rows.fnHopsSpec.post enc Try.prog Try.f5 false true false false) := by
  refine lifted_of_walk (C := Try.checked) own started (by as_aux_lemma => kernel_rfl) Try.func5
    (ChangeSpec.witness6 (enc := enc) (C := Try.checked) false ⟨#[], #[.slice none 0 0], []⟩ 8 (by as_aux_lemma => kernel_rfl) (by as_aux_lemma => kernel_rfl) (by as_aux_lemma => kernel_rfl) (by as_aux_lemma => kernel_rfl) (by as_aux_lemma => kernel_rfl))
    laidOut rfl (by as_aux_lemma => kernel_rfl) (by as_aux_lemma => kernel_rfl) boolType
    (fun ds h => by
      match ds, h with
      | [_], _ => rfl)
    ?_
  intro W base args ds q hval hA
  rw [Try.params5] at hA hval
  obtain ⟨v0, vs0, d0, ds0, p0, q0, hargs, rfl, rfl, h0, r0⟩ := trodAll_cons hA
  obtain ⟨rfl, rfl, rfl⟩ := trodAll_nil r0
  obtain rfl : args = #[v0] := by cases args; simp_all
  obtain ⟨a0, len0, cap0, z0, rfl, w0⟩ := open_bytes Try.underlying22 Try.underlying5 (by as_aux_lemma => kernel_rfl) (hval 0 22 v0 rfl rfl) h0
  exact hf_walk W a0 len0 cap0 z0 w0

theorem hf_facts : joinedFacts Try.pinned.checked.prog 5 Try.f5 Rows.fnHopsSpec Rows.fnHopsRow = true :=
  facts_of (P := Try.prog) (by as_aux_lemma => kernel_rfl) laidOut mapsRow (by as_aux_lemma => kernel_rfl) (by as_aux_lemma => kernel_rfl) rfl noStops rfl noKnobs (by as_aux_lemma => kernel_rfl) (by as_aux_lemma => kernel_rfl) (by as_aux_lemma => kernel_rfl) (by as_aux_lemma => kernel_rfl) (by as_aux_lemma => kernel_rfl) (by as_aux_lemma => kernel_rfl) (by as_aux_lemma => kernel_rfl) (by as_aux_lemma => kernel_rfl) (by as_aux_lemma => kernel_rfl) rfl (by as_aux_lemma => kernel_rfl) (by as_aux_lemma => kernel_rfl) (by as_aux_lemma => kernel_rfl) keysPlain rfl heard enters finals isMake rfl rfl rfl (by as_aux_lemma => kernel_rfl) (by as_aux_lemma => kernel_rfl)

/-- The given statement. -/
theorem hf_holds : Rows.FnHopsSaid :=
  OpenClaim.holds_of_wide 5 Try.f5 rfl rfl rfl rfl rfl rfl rfl ⟨rfl, rfl, rfl, rfl, rfl⟩ rfl rfl rfl rfl rfl (by as_aux_lemma => kernel_rfl) Try.func5 hf_facts
    (of_decide_eq_true (by as_aux_lemma => kernel_rfl)) (by unfold Func.isWrapper; first | (rw [if_pos (by decide +kernel)]; kernel_rfl) | (rw [if_neg (by decide +kernel)]; exact ⟨rfl, rfl⟩))
    (fun os started H enc _ => hf_lifted os started H enc)
#print axioms hf_holds
end Go.Proofs.Ytfdlaomgaagmgaa
