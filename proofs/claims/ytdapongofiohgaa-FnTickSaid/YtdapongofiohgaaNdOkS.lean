/- Which lists of nodes are right: of the reference. -/
import Derived.Test.YtdapongofiohgaaNdOk
import Derived.Test.YtdapongofiohgaaNdTo
namespace Go.Proofs.Ytdapongofiohgaa
open Go.ChangeShapes Go.WideShapes Go.ChangeAt Go.RowKit Go.Sort
set_option linter.unusedVariables false
set_option linter.unusedSimpArgs false

theorem l1In_below (n lo hi : Int) (w : World) : Calls Try.prog 43 #[.int .i64 n, .int .i64 lo, .int .i64 hi] w fun e w' => e = .returned (.bool (inB lo n hi)) ∧ Below w.heap.size w w' := (l1In_c n lo hi w).mono (by rintro e w' ⟨rfl, rfl⟩; exact ⟨rfl, Below.refl _ _⟩)
set_option maxHeartbeats 1000000 in
theorem l8Has_c (l : List Int) (a : Int) (n : Nat) (hn : Hid (n = l.length)) (hm : n ≤ maxLen) (x : Option Addr) (cap : Nat) (w : World) (h : IntsAt w.heap.size w x l) :
    Calls Try.prog 80 #[.slice x n cap, .int .i64 a] w fun e w' => e = .returned (.bool (l.contains a)) ∧ Below w.heap.size w w' := by
  unfold maxLen at hm
  go_enter Try.func80, Try.ntmps80
  go_wp2
  go_loopw [5] (fun i wr => ∃ k : Nat, k ≤ n ∧ i = .int .i64 k ∧ Hid ((l.take k).contains a = false) ∧ Below w.heap.size w wr) (fun i _ => n - (intOf i).toNat)
  case atStart => exact ⟨0, Nat.zero_le _, rfl, Lib.hid rfl, Below.refl _ _⟩
  case round =>
    obtain ⟨k, hk, rfl, HA, hb⟩ := hrel
    by_cases hlt : k < n
    · obtain ⟨z, hz⟩ := getI (l := l) (k := k) (by rw [← hn.out]; exact hlt)
      obtain ⟨b, off, rfl, _, c0⟩ := (h.next hb).at_ hz
      have hnx := has_next a hz
      rw [HA.out, Bool.false_or] at hnx
      cases ha : (z == a) with
      | true =>
        have e : z = a := by simpa using ha
        have HH := Lib.hid (has_hit hz)
        subst e
        clear hz hnx HA
        go_wp2_with fail
        go_returns
        exact ⟨by rw [HH.out]; rfl, hb⟩
      | false =>
        rw [ha] at hnx
        have HA1 := Lib.hid hnx
        clear hz hnx HA
        go_wp2_with fail
        go_roundw
        case rel => exact ⟨k + 1, by omega, by go_num, HA1, hb⟩
        case measure => simp [intOf]; omega
    · have HE := Lib.hid (has_full a (show k = l.length by rw [← hn.out]; omega))
      go_wp2_with fail
      go_returns
      exact ⟨by rw [← HE.out, HA.out]; rfl, hb⟩
/-- The reference's test of what a node says of itself is the program's. -/
theorem stands_eq {v : Nd} (h : v.peers.contains (-1) = false) : standsB v = if v.src then (v.str == 1 && v.ref == -1) else (inB 2 v.str 15 && v.peers.contains v.ref || (v.str == 16 && v.ref == -1)) := by
  unfold standsB
  cases v.src with
  | true => simp only [if_true]; rw [Bool.and_comm]
  | false =>
    simp only [Bool.false_eq_true, if_false]
    cases hr : (v.ref == -1) with
    | true =>
      have e : v.ref = -1 := by simpa using hr
      simp only [if_true]
      rw [e, h]
      simp
    | false =>
      simp only [Bool.false_eq_true, if_false, Bool.and_false, Bool.or_false]
      rw [Bool.and_comm]
set_option maxRecDepth 100000 in
set_option maxHeartbeats 8000000 in
theorem l8Node_c (N : Nat) (hN : N ≤ 9223372036854775807) (at_ : Nat) (v : Nd) (px : Option Addr) (pc : Nat) (hp : v.peers.length ≤ maxLen) (w : World) (h : IntsAt w.heap.size w px v.peers) :
    Calls Try.prog 60 #[.agg #[.bool v.src, .slice px v.peers.length pc, .int .i64 v.ref, .int .i64 v.str], .int .i64 at_, .int .i64 N] w fun e w' => e = .returned (.bool (ndOk N at_ v)) ∧ Below w.heap.size w w' := by
  unfold maxLen at hp
  have Q0 := blk_new w (.cells #[.bool v.src, .slice px v.peers.length pc, .int .i64 v.ref, .int .i64 v.str] 48)
  have B0 : Below w.heap.size w (w.alloc (.cells #[.bool v.src, .slice px v.peers.length pc, .int .i64 v.ref, .int .i64 v.str] 48)) := below_new _ _
  have hw0 : IntKind.i64.wrap ((N : Int) - 1) = (N : Int) - 1 := IntWalk.i64_in _ (by omega)
  obtain ⟨n, hn⟩ : ∃ n, n = v.peers.length := ⟨_, rfl⟩
  have HN := Lib.hid hn
  have hnb : n ≤ 9223372036854775807 := by omega
  clear hn
  have c0 := node_cells Q0
  go_enter Try.func60, Try.ntmps60
  go_upto_region 2 with (fail)
  have h0 := h.next B0
  generalize w.alloc (.cells #[.bool v.src, .slice px v.peers.length pc, .int .i64 v.ref, .int .i64 v.str] 48) = w0 at *
  clear c0 h
  go_loopw [7] (fun i wr => ∃ k : Nat, k ≤ n ∧ i = .int .i64 k ∧ Hid (riseTo N v.peers k = true) ∧ Hid ((v.peers.take k).contains (at_ : Int) = false) ∧ Below w0.heap.size w0 wr) (fun i _ => n - (intOf i).toNat)
  case atStart => exact ⟨0, Nat.zero_le _, rfl, Lib.hid rfl, Lib.hid rfl, Below.refl _ _⟩
  case round =>
    obtain ⟨k, hk, rfl, HR, HA, hb⟩ := hrel
    have g0 := grow_next B0 hb
    have Q1 := blk_next hb Q0
    obtain ⟨q0, q1, q2, q3⟩ := node_cells Q1
    rw [← HN.out] at q1
    by_cases hlt : k < n
    · obtain ⟨z, hz⟩ := getI (l := v.peers) (k := k) (by rw [← HN.out]; exact hlt)
      obtain ⟨b, off, rfl, _, e0⟩ := (h0.next hb).at_ hz
      have hnr := riseTo_next (N := (N : Int)) hz
      rw [HR.out, Bool.true_and] at hnr
      have hna := has_next (at_ : Int) hz
      rw [HA.out, Bool.false_or] at hna
      have j0 := cell_regrown q0
      have j1 := cell_regrown q1
      have j2 := cell_regrown q2
      have j3 := cell_regrown q3
      have d0 := cell_regrown e0
      have KL := Lib.hid (fun d os => Calls.regrown_of (l1In_below z 0 ((N : Int) - 1) (grow (redrawn wr d) os)))
      have hFr : riseAt N v.peers k z = false → ndOk N at_ v = false := fun hf => by
        unfold ndOk
        rw [riseTo_false hz hf]; rfl
      have hFa : z = (at_ : Int) → ndOk N at_ v = false := fun hf => by
        unfold ndOk
        rw [← hf, has_hit hz]; simp
      cases h1 : inB 0 z ((N : Int) - 1) with
      | false =>
        have HF := Lib.hid (hFr (by unfold riseAt; rw [h1]; rfl))
        rw [h1] at KL
        clear hz hnr hna h1 hFr hFa e0 HR HA
        go_wp2_with fail
        refine wp_region_quiet_below (by kernel_rfl) (by kernel_rfl) ?_
        repeat ((with_reducible refine wpQuiet_step (fun K hK => ?_)); go_simp; first | ((with_reducible refine hK _ ?_); clear hK K) | (rw [if_neg (by intro h; exact nomatch h)]; (with_reducible refine hK _ ?_); clear hK K) | (apply Exists.intro; (with_reducible refine ⟨fun _ => ?_, hK _ ?_⟩); (with_reducible exact KL.out _ _); clear hK K))
        with_reducible refine wpQuiet_nil ?_
        intro _ hw'
        obtain ⟨⟨dq, osq⟩, hw''⟩ := hw'
        subst hw''
        have g1 := grow_next hb (below_regrown wr dq osq)
        have g2 := grow_next B0 g1
        generalize hW1 : grow (redrawn wr dq) osq = W1 at *
        go_wp2_with fail
        go_returns
        exact ⟨by rw [HF.out]; rfl, g2⟩
      | true =>
        rw [h1] at KL
        cases h2 : (z == (at_ : Int)) with
        | true =>
          have HF := Lib.hid (hFa (by simpa using h2))
          clear hz hnr hna h1 hFr hFa e0 HR HA
          go_wp2_with fail
          refine wp_region_quiet_below (by kernel_rfl) (by kernel_rfl) ?_
          repeat ((with_reducible refine wpQuiet_step (fun K hK => ?_)); go_simp; first | ((with_reducible refine hK _ ?_); clear hK K) | (rw [if_neg (by intro h; exact nomatch h)]; (with_reducible refine hK _ ?_); clear hK K) | (apply Exists.intro; (with_reducible refine ⟨fun _ => ?_, hK _ ?_⟩); (with_reducible exact KL.out _ _); clear hK K))
          with_reducible refine wpQuiet_nil ?_
          intro _ hw'
          obtain ⟨⟨dq, osq⟩, hw''⟩ := hw'
          subst hw''
          have g1 := grow_next hb (below_regrown wr dq osq)
          have g2 := grow_next B0 g1
          generalize hW1 : grow (redrawn wr dq) osq = W1 at *
          go_wp2_with fail
          go_returns
          exact ⟨by rw [HF.out]; rfl, g2⟩
        | false =>
          rw [h2] at hna
          have HA1 := Lib.hid hna
          rcases Nat.eq_zero_or_pos k with hk0 | hk0
          · have hr : riseAt N v.peers k z = true := by
              unfold riseAt
              rw [h1, hk0, prevOf_zero]
              have := (inB_iff.1 h1).1
              rw [decide_eq_true (by omega)]; rfl
            rw [hr] at hnr
            have HR1 := Lib.hid hnr
            have hd : decide ((0 : Int) < (k : Int)) = false := decide_eq_false (by omega)
            have hd2 : ¬ 0 < k := by omega
            have DU : True := trivial
            clear hz hnr hna h1 hFr hFa e0 HR HA hr hk0
            go_wp2_with fail
            refine wp_region_quiet_below (by kernel_rfl) (by kernel_rfl) ?_
            repeat ((with_reducible refine wpQuiet_step (fun K hK => ?_)); go_simp; first | ((with_reducible refine hK _ ?_); clear hK K) | (rw [if_neg (by intro h; exact nomatch h)]; (with_reducible refine hK _ ?_); clear hK K) | (apply Exists.intro; (with_reducible refine ⟨fun _ => ?_, hK _ ?_⟩); (with_reducible exact KL.out _ _); clear hK K))
            with_reducible refine wpQuiet_nil ?_
            intro _ hw'
            obtain ⟨⟨dq, osq⟩, hw''⟩ := hw'
            subst hw''
            have g1 := grow_next hb (below_regrown wr dq osq)
            generalize hW1 : grow (redrawn wr dq) osq = W1 at *
            clear hW1 j0 j1 j2 j3 d0 KL DU
            go_wp2_with fail
            go_roundw
            case rel => exact ⟨k + 1, by omega, by go_num, HR1, HA1, g1⟩
            case measure => simp [intOf]; omega
          · obtain ⟨u, hu⟩ := getI (l := v.peers) (k := k - 1) (by rw [← HN.out]; omega)
            obtain ⟨b', off', e', _, e1⟩ := (h0.next hb).at_ hu
            simp only [Option.some.injEq, Addr.mk.injEq] at e'
            obtain ⟨rfl, rfl, _⟩ := e'
            have DU := cell_regrown e1
            have hki : ((k - 1 : Nat) : Int) = (k : Int) - 1 := by omega
            have hk1 : IntKind.i64.wrap ((k : Int) - 1) = ((k - 1 : Nat) : Int) := by rw [hki]; exact IntWalk.i64_in _ (by omega)
            have hk2 : decide ((0 : Int) < (k : Int)) = true := decide_eq_true (by omega)
            have hk3 : k - 1 < n := by omega
            have hpv : prevOf v.peers k = u := by
              have := prevOf_next hu
              rwa [Nat.sub_add_cancel hk0] at this
            by_cases hau : z ≤ u
            · have HF := Lib.hid (hFr (by unfold riseAt; rw [hpv, decide_eq_false (by omega), Bool.and_false]))
              have hd : decide (z ≤ u) = true := decide_eq_true hau
              clear hz hnr hna h1 hFr hFa e0 HR HA hu hpv hau hki e1
              go_wp2_with fail
              refine wp_region_quiet_below (by kernel_rfl) (by kernel_rfl) ?_
              repeat ((with_reducible refine wpQuiet_step (fun K hK => ?_)); go_simp; first | ((with_reducible refine hK _ ?_); clear hK K) | (rw [if_neg (by intro h; exact nomatch h)]; (with_reducible refine hK _ ?_); clear hK K) | (apply Exists.intro; (with_reducible refine ⟨fun _ => ?_, hK _ ?_⟩); (with_reducible exact KL.out _ _); clear hK K))
              with_reducible refine wpQuiet_nil ?_
              intro _ hw'
              obtain ⟨⟨dq, osq⟩, hw''⟩ := hw'
              subst hw''
              have g1 := grow_next hb (below_regrown wr dq osq)
              have g2 := grow_next B0 g1
              generalize hW1 : grow (redrawn wr dq) osq = W1 at *
              go_wp2_with fail
              go_returns
              exact ⟨by rw [HF.out]; rfl, g2⟩
            · have hr : riseAt N v.peers k z = true := by
                unfold riseAt
                rw [h1, hpv, decide_eq_true (by omega)]; rfl
              rw [hr] at hnr
              have HR1 := Lib.hid hnr
              have hd : decide (z ≤ u) = false := decide_eq_false hau
              clear hz hnr hna h1 hFr hFa e0 HR HA hu hpv hau hki e1 hr
              go_wp2_with fail
              refine wp_region_quiet_below (by kernel_rfl) (by kernel_rfl) ?_
              repeat ((with_reducible refine wpQuiet_step (fun K hK => ?_)); go_simp; first | ((with_reducible refine hK _ ?_); clear hK K) | (rw [if_neg (by intro h; exact nomatch h)]; (with_reducible refine hK _ ?_); clear hK K) | (apply Exists.intro; (with_reducible refine ⟨fun _ => ?_, hK _ ?_⟩); (with_reducible exact KL.out _ _); clear hK K))
              with_reducible refine wpQuiet_nil ?_
              intro _ hw'
              obtain ⟨⟨dq, osq⟩, hw''⟩ := hw'
              subst hw''
              have g1 := grow_next hb (below_regrown wr dq osq)
              generalize hW1 : grow (redrawn wr dq) osq = W1 at *
              clear hW1 j0 j1 j2 j3 d0 KL DU
              go_wp2_with fail
              go_roundw
              case rel => exact ⟨k + 1, by omega, by go_num, HR1, HA1, g1⟩
              case measure => simp [intOf]; omega
    · have hRR := HR.out
      have hAA := HA.out
      have hkl : k = v.peers.length := by rw [← HN.out]; omega
      rw [hkl] at hRR
      rw [has_full _ hkl] at hAA
      have hND : ndOk N at_ v = standsB v := by unfold ndOk; rw [hRR, hAA]; rfl
      have HS := Lib.hid (hND.trans (stands_eq (has_neg hRR)))
      clear hRR hAA hND
      cases hs : v.src with
      | true =>
        rw [hs] at q0
        have HSS := Lib.hid hs
        clear hs
        cases h1 : (v.str == 1) with
        | false =>
          have HF : Hid (ndOk N at_ v = false) := Lib.hid (by rw [HS.out, HSS.out, h1]; rfl)
          go_wp2_with fail
          go_returns
          exact ⟨by rw [HF.out]; rfl, g0⟩
        | true =>
          obtain ⟨r, hr⟩ : ∃ r, (v.ref == -1) = r := ⟨_, rfl⟩
          have HF : Hid (ndOk N at_ v = r) := Lib.hid (by rw [HS.out, HSS.out, h1, hr]; rfl)
          go_wp2_with fail
          go_returns
          exact ⟨by rw [HF.out]; rfl, g0⟩
      | false =>
        rw [hs] at q0
        have HSS := Lib.hid hs
        clear hs
        obtain ⟨i, hi⟩ : ∃ i, inB 2 v.str 15 = i := ⟨_, rfl⟩
        obtain ⟨c, hc⟩ : ∃ c, v.peers.contains v.ref = c := ⟨_, rfl⟩
        obtain ⟨r, hr⟩ : ∃ r, (v.ref == -1) = r := ⟨_, rfl⟩
        obtain ⟨t, ht⟩ : ∃ t, (v.str == 16) = t := ⟨_, rfl⟩
        have HF : Hid (ndOk N at_ v = (i && c || (t && r))) := Lib.hid (by rw [HS.out, HSS.out, hi, hc, hr, ht]; rfl)
        have KI := Lib.hid (fun W => (hi ▸ l1In_below v.str 2 15 W : Calls Try.prog 43 #[.int .i64 v.str, .int .i64 2, .int .i64 15] W fun e w' => e = .returned (.bool i) ∧ Below W.heap.size W w'))
        have KH := Lib.hid (fun W hh => (hc ▸ l8Has_c v.peers v.ref n HN (by unfold maxLen; omega) px pc W hh : Calls Try.prog 80 #[.slice px n pc, .int .i64 v.ref] W fun e w' => e = .returned (.bool c) ∧ Below W.heap.size W w'))
        have h1 := h0.next hb
        clear hi hc
        go_wp2_with fail
        with_reducible refine (KI.out _).mono ?_
        rintro e w2 ⟨rfl, hb2⟩
        have g2 := grow_next g0 hb2
        have Q2 := blk_next hb2 Q1
        have h2 := h1.next hb2
        obtain ⟨q0, q1, q2, q3⟩ := node_cells Q2
        rw [← HN.out] at q1
        rw [HSS.out] at q0
        clear Q1 h1
        cases i with
        | false =>
          cases t with
          | false =>
            go_wp2_with fail
            go_returns
            exact ⟨by rw [HF.out]; rfl, g2⟩
          | true =>
            go_wp2_with fail
            go_returns
            exact ⟨by rw [HF.out]; rfl, g2⟩
        | true =>
          go_wp2_with fail
          with_reducible refine (KH.out _ h2).mono ?_
          rintro e w3 ⟨rfl, hb3⟩
          have g3 := grow_next g2 hb3
          have Q3 := blk_next hb3 Q2
          obtain ⟨q0, q1, q2, q3⟩ := node_cells Q3
          cases c with
          | true =>
            go_wp2_with fail
            go_returns
            exact ⟨by rw [HF.out]; rfl, g3⟩
          | false =>
            cases t with
            | false =>
              go_wp2_with fail
              go_returns
              exact ⟨by rw [HF.out]; rfl, g3⟩
            | true =>
              go_wp2_with fail
              go_returns
              exact ⟨by rw [HF.out]; rfl, g3⟩
set_option maxRecDepth 100000 in
set_option maxHeartbeats 4000000 in
theorem nodesOk_spec (l : List Nd) (n : Nat) (hn : Hid (n = l.length)) (hm : n ≤ maxLen) (x : Option Addr) (cap : Nat) (w : World) (h : Nds w.heap.size w x l) :
    Calls Try.prog 29 #[.slice x n cap] w fun e w' => e = .returned (.bool (nodesOk l)) ∧ Below w.heap.size w w' := by
  have hmx := hm
  unfold maxLen at hm
  go_enter Try.func29, Try.ntmps29
  go_wp2
  go_loopw [3] (fun i wr => ∃ k : Nat, k ≤ n ∧ i = .int .i64 k ∧ Hid (okTo l k = true) ∧ Below w.heap.size w wr) (fun i _ => n - (intOf i).toNat)
  case atStart => exact ⟨0, Nat.zero_le _, rfl, Lib.hid rfl, Below.refl _ _⟩
  case round =>
    obtain ⟨k, hk, rfl, HO, hb⟩ := hrel
    by_cases hlt : k < n
    · obtain ⟨v, hv⟩ := getN (l := l) (k := k) (by rw [← hn.out]; exact hlt)
      obtain ⟨b, off, px, pc, rfl, _, c0, c1, c2, c3, hp, p1, p2⟩ := (h.next hb).at_ hv
      have hnx := okTo_next hv
      rw [HO.out, Bool.true_and] at hnx
      have HNF := Lib.hid (fun hf => okTo_false hv hf)
      obtain ⟨r, hr⟩ : ∃ r, ndOk l.length k v = r := ⟨_, rfl⟩
      have HC := Lib.hid (l8Node_c n (by unfold maxLen at hmx; omega) k v px pc (Nat.le_trans p1 p2) wr hp)
      rw [hr] at hnx
      have hr' := hr
      rw [← hn.out] at hr'
      rw [hr'] at HC
      have HNX := Lib.hid hnx
      have HRR := Lib.hid hr
      clear hv hnx hr hr' hp p1
      go_wp2_with fail
      refine HC.out.mono ?_
      rintro e w1 ⟨rfl, hb1⟩
      have b1 := grow_next hb hb1
      cases r with
      | false =>
        have HF := Lib.hid (HNF.out HRR.out)
        go_wp2_with fail
        go_returns
        exact ⟨by rw [HF.out]; rfl, b1⟩
      | true =>
        go_wp2_with fail
        go_roundw
        case rel => exact ⟨k + 1, by omega, by go_num, HNX, b1⟩
        case measure => simp [intOf]; omega
    · have hv : nodesOk l = decide ((n : Int) ≤ 12) := by
        unfold nodesOk
        rw [← hn.out, show n = k by omega, HO.out, Bool.true_and]
        by_cases h8 : k ≤ 12
        · rw [decide_eq_true h8, decide_eq_true (by omega)]
        · rw [decide_eq_false h8, decide_eq_false (by omega)]
      have HV := Lib.hid hv
      clear hv
      go_wp2_with fail
      go_returns
      exact ⟨by rw [HV.out]; rfl, hb⟩
end Go.Proofs.Ytdapongofiohgaa
