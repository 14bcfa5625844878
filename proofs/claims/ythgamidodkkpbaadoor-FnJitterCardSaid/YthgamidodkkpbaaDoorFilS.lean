/- Right filters, the best one, the jitter: the reference's way. -/
import Derived.Test.YthgamidodkkpbaaDoorFilAddI
import Derived.Deep.RegionWith
import Derived.BigQuiet
namespace Go.Proofs.YthgamidodkkpbaaDoor
open Go.ChangeShapes Go.WideShapes Go.ChangeAt Go.RowKit Go.Sort
set_option linter.unusedVariables false
set_option linter.unusedSimpArgs false

theorem getS {l : List Sm} {k : Nat} (h : k < l.length) : ∃ v, l[k]? = some v := ⟨l[k], List.getElem?_eq_getElem h⟩
theorem last_take {l : List Sm} {k : Nat} {u : Sm} (hk : 0 < k) (hu : l[k - 1]? = some u) : (l.take k).getLast? = some u := by
  have hlt := (List.getElem?_eq_some_iff.1 hu).1
  rw [List.getLast?_eq_getElem?, List.length_take, List.getElem?_take, if_pos (by omega), show min k l.length - 1 = k - 1 by omega, hu]
theorem sampleOk_decS {s : Sm} {b : Bool} (h : s.ok = b) (w : World) : Calls Tryd.prog 34 #[.agg #[.int .i64 s.off, .int .i64 s.delay, .int .i64 s.disp, .int .i64 s.at_]] w fun e w' => e = .returned (.bool b) ∧ Below w.heap.size w w' := h ▸ sampleOk_spec s w

set_option maxRecDepth 100000 in
set_option maxHeartbeats 2000000 in
theorem filterOk_spec (l : List Sm) (n : Nat) (hn : Hid (n = l.length)) (hm : n ≤ maxLen) (x : Option Addr) (cap : Nat) (w : World) (h : Sms w.heap.size w x l) :
    Calls Tryd.prog 14 #[.slice x n cap] w fun e w' => e = .returned (.bool (okSms l)) ∧ Below w.heap.size w w' := by
  unfold maxLen at hm
  go_enter Tryd.func14, Tryd.ntmps14
  go_wp2
  go_loopw [3] (fun i wr => ∃ k : Nat, k ≤ n ∧ i = .int .i64 k ∧ Hid (okFromS none l = okFromS (l.take k).getLast? (l.drop k)) ∧ Below w.heap.size w wr) (fun i _ => n - (intOf i).toNat)
  case atStart => exact ⟨0, Nat.zero_le _, rfl, Lib.hid (by simp), Below.refl _ _⟩
  case round =>
    obtain ⟨k, hk, rfl, HO, hb⟩ := hrel
    by_cases hlt : k < n
    · obtain ⟨v, hv⟩ := getS (l := l) (k := k) (by rw [← hn.out]; exact hlt)
      obtain ⟨b, off, rfl, hbB, c0, c1, c2, c3⟩ := (h.next hb).at_ hv
      have hat := okFromS_at hv
      have k0 := cell_regrown c0
      have k1 := cell_regrown c1
      have k2 := cell_regrown c2
      have k3 := cell_regrown c3
      cases hs : v.ok with
      | false =>
        have HF : Hid (okSms l = false) := Lib.hid (by
          rw [takesV_no hs, Bool.false_and] at hat
          unfold okSms
          rw [HO.out, hat, Bool.false_and])
        have KS := Lib.hid (fun d os => Calls.regrown_of (sampleOk_decS hs (grow (redrawn wr d) os)))
        clear hs hat hv c0 c1 c2 c3
        go_wp2_with fail
        refine wp_region_quiet_below (by kernel_rfl) (by kernel_rfl) ?_
        repeat ((with_reducible refine wpQuiet_step (fun K hK => ?_)); go_simp; first | ((with_reducible refine hK _ ?_); clear hK K) | (rw [if_neg (by intro h; exact nomatch h)]; (with_reducible refine hK _ ?_); clear hK K) | (apply Exists.intro; (with_reducible refine ⟨fun _ => ?_, hK _ ?_⟩); (first | with_reducible exact KS.out _ _); clear hK K))
        with_reducible refine wpQuiet_nil ?_
        intro _ hw'
        obtain ⟨⟨dq, osq⟩, hw''⟩ := hw'
        subst hw''
        have g1 := grow_next hb (below_regrown wr dq osq)
        go_wp2_with fail
        go_returns
        exact ⟨by rw [HF.out]; rfl, g1⟩
      | true =>
        have KS := Lib.hid (fun d os => Calls.regrown_of (sampleOk_decS hs (grow (redrawn wr d) os)))
        rcases Nat.eq_zero_or_pos k with hk0 | hk0
        · subst hk0
          simp only [Nat.zero_mul, Nat.add_zero] at k0 k1 k2 k3
          have HO1 : Hid (okFromS none l = okFromS (l.take 1).getLast? (l.drop 1)) := Lib.hid (by
            rw [List.take_zero, takesV_nil hs, Bool.true_and] at hat
            rw [HO.out]
            exact hat)
          have hd : decide ((0 : Int) < 0) = false := rfl
          clear hs hat hv c0 c1 c2 c3
          go_wp2_with fail
          refine wp_region_quiet_below (by kernel_rfl) (by kernel_rfl) ?_
          repeat ((with_reducible refine wpQuiet_step (fun K hK => ?_)); go_simp; first | ((with_reducible refine hK _ ?_); clear hK K) | (rw [if_neg (by intro h; exact nomatch h)]; (with_reducible refine hK _ ?_); clear hK K) | (apply Exists.intro; (with_reducible refine ⟨fun _ => ?_, hK _ ?_⟩); (first | with_reducible exact KS.out _ _); clear hK K))
          with_reducible refine wpQuiet_nil ?_
          intro _ hw'
          obtain ⟨⟨dq, osq⟩, hw''⟩ := hw'
          subst hw''
          have g1 := grow_next hb (below_regrown wr dq osq)
          generalize hW1 : grow (redrawn wr dq) osq = W1 at *
          clear hW1 k0 k1 k2 k3 KS
          go_wp2_with fail
          go_roundw
          case rel => exact ⟨1, by omega, by go_num, HO1, g1⟩
          case measure => simp [intOf]; omega
        · obtain ⟨u, hu⟩ := getS (l := l) (k := k - 1) (by rw [← hn.out]; omega)
          have hla := last_take hk0 hu
          have hkl : (l.take k).length = k := by rw [List.length_take, ← hn.out]; omega
          have hT : takesV (l.take k) v = decide (u.at_ < v.at_) := by
            unfold takesV
            rw [hs, hla]
            rfl
          obtain ⟨b', off', e', _, _, _, _, y3⟩ := (h.next hb).at_ hu
          simp only [Option.some.injEq, Addr.mk.injEq] at e'
          obtain ⟨rfl, rfl, _⟩ := e'
          have ky := cell_regrown y3
          have hki : ((k - 1 : Nat) : Int) = (k : Int) - 1 := by omega
          have hk1 : IntKind.i64.wrap ((k : Int) - 1) = ((k - 1 : Nat) : Int) := by rw [hki]; exact IntWalk.i64_in _ (by omega)
          have hk2 : decide ((0 : Int) < (k : Int)) = true := decide_eq_true (by omega)
          have hk3 : k - 1 < n := by omega
          by_cases hau : v.at_ ≤ u.at_
          · have HF : Hid (okSms l = false) := Lib.hid (by
              rw [hT, decide_eq_false (by omega), Bool.false_and] at hat
              unfold okSms
              rw [HO.out, hat, Bool.false_and])
            have hd : decide (v.at_ ≤ u.at_) = true := decide_eq_true hau
            clear hs hat hv hu hla hT c0 c1 c2 c3 y3 hki hau
            go_wp2_with fail
            refine wp_region_quiet_below (by kernel_rfl) (by kernel_rfl) ?_
            repeat ((with_reducible refine wpQuiet_step (fun K hK => ?_)); go_simp; first | ((with_reducible refine hK _ ?_); clear hK K) | (rw [if_neg (by intro h; exact nomatch h)]; (with_reducible refine hK _ ?_); clear hK K) | (apply Exists.intro; (with_reducible refine ⟨fun _ => ?_, hK _ ?_⟩); (first | with_reducible exact KS.out _ _); clear hK K))
            with_reducible refine wpQuiet_nil ?_
            intro _ hw'
            obtain ⟨⟨dq, osq⟩, hw''⟩ := hw'
            subst hw''
            have g1 := grow_next hb (below_regrown wr dq osq)
            generalize hW1 : grow (redrawn wr dq) osq = W1 at *
            go_wp2_with fail
            go_returns
            exact ⟨by rw [HF.out]; rfl, g1⟩
          · have HO1 : Hid (okFromS none l = okFromS (l.take (k + 1)).getLast? (l.drop (k + 1))) := Lib.hid (by
              rw [hT, decide_eq_true (by omega), Bool.true_and] at hat
              rw [HO.out]
              exact hat)
            have hd : decide (v.at_ ≤ u.at_) = false := decide_eq_false hau
            clear hs hat hv hu hla hT c0 c1 c2 c3 y3 hki hau
            go_wp2_with fail
            refine wp_region_quiet_below (by kernel_rfl) (by kernel_rfl) ?_
            repeat ((with_reducible refine wpQuiet_step (fun K hK => ?_)); go_simp; first | ((with_reducible refine hK _ ?_); clear hK K) | (rw [if_neg (by intro h; exact nomatch h)]; (with_reducible refine hK _ ?_); clear hK K) | (apply Exists.intro; (with_reducible refine ⟨fun _ => ?_, hK _ ?_⟩); (first | with_reducible exact KS.out _ _); clear hK K))
            with_reducible refine wpQuiet_nil ?_
            intro _ hw'
            obtain ⟨⟨dq, osq⟩, hw''⟩ := hw'
            subst hw''
            have g1 := grow_next hb (below_regrown wr dq osq)
            generalize hW1 : grow (redrawn wr dq) osq = W1 at *
            clear hW1 k0 k1 k2 k3 ky KS
            go_wp2_with fail
            go_roundw
            case rel => exact ⟨k + 1, by omega, by go_num, HO1, g1⟩
            case measure => simp [intOf]; omega
    · have e : k = n := by omega
      have HF : Hid (okSms l = decide ((n : Int) ≤ 8)) := Lib.hid (by
        have h0 := HO.out
        rw [e, hn.out, List.drop_length] at h0
        unfold okSms
        rw [h0, ← hn.out]
        simp only [okFromS, Bool.true_and]
        by_cases h8 : n ≤ 8
        · rw [decide_eq_true h8, decide_eq_true (by omega)]
        · rw [decide_eq_false h8, decide_eq_false (by omega)])
      clear e
      go_wp2_with fail
      go_returns
      exact ⟨by rw [HF.out]; rfl, hb⟩

/-- So far from nought. -/
theorem abs_s (n : Int) (h0 : -4000000000000 ≤ n) (h1 : n ≤ 4000000000000) (w : World) :
    Calls Tryd.prog 41 #[.int .i64 n] w fun e w' => e = .returned (.int .i64 (awayV n 0)) ∧ Below w.heap.size w w' := by
  have h2 : IntKind.i64.wrap (-n) = -n := IntWalk.i64_in _ (by omega)
  have h3 : IntKind.i64.wrap (0 - n) = -n := by rw [Int.zero_sub]; exact h2
  by_cases h : n < -n
  · have hd : decide (n < -n) = true := decide_eq_true h
    have e : awayV n 0 = -n := by unfold awayV; omega
    rw [e]
    go_enter Tryd.func41, Tryd.ntmps41
    go_wp2
    all_goals
      go_returns
      exact ⟨by congr 2 <;> omega, Below.refl _ _⟩
  · have hd : decide (n < -n) = false := decide_eq_false h
    have e : awayV n 0 = n := by unfold awayV; omega
    rw [e]
    go_enter Tryd.func41, Tryd.ntmps41
    go_wp2
    all_goals
      go_returns
      exact ⟨by congr 2 <;> omega, Below.refl _ _⟩

set_option maxRecDepth 100000 in
set_option maxHeartbeats 2000000 in
theorem l4Best_c (l : List Sm) (n : Nat) (hn : Hid (n = l.length)) (hp : 0 < n) (hm : n ≤ maxLen) (x : Option Addr) (cap : Nat) (w : World) (h : Sms w.heap.size w x l) :
    Calls Tryd.prog 36 #[.slice x n cap] w fun e w' => e = .returned (.agg #[.int .i64 ((bestV l)).off, .int .i64 ((bestV l)).delay, .int .i64 ((bestV l)).disp, .int .i64 ((bestV l)).at_]) ∧ Below w.heap.size w w' := by
  unfold maxLen at hm
  obtain ⟨q0, hq0⟩ := getS (l := l) (k := 0) (by rw [← hn.out]; exact hp)
  have HB := Lib.hid (bestV_at hq0)
  obtain ⟨b, off, rfl, hbB, c0, c1, c2, c3⟩ := h.at_ hq0
  simp only [Nat.zero_mul, Nat.add_zero] at c0 c1 c2 c3
  have hpi : (0 : Int) < (n : Int) := by omega
  clear hq0
  go_enter Tryd.func36, Tryd.ntmps36
  go_upto_region 2 with (fail)
  have R2 := blk_alloc (blk_new w (.cells #[.int .i64 0, .int .i64 0, .int .i64 0, .int .i64 0] 26)) (.cells #[.int .i64 q0.off, .int .i64 q0.delay, .int .i64 q0.disp, .int .i64 q0.at_] 26)
  have P2 := blk_new (w.alloc (.cells #[.int .i64 0, .int .i64 0, .int .i64 0, .int .i64 0] 26)) (.cells #[.int .i64 q0.off, .int .i64 q0.delay, .int .i64 q0.disp, .int .i64 q0.at_] 26)
  rw [World.size_alloc] at P2
  have b2 : Below w.heap.size w ((w.alloc (.cells #[.int .i64 0, .int .i64 0, .int .i64 0, .int .i64 0] 26)).alloc (.cells #[.int .i64 q0.off, .int .i64 q0.delay, .int .i64 q0.disp, .int .i64 q0.at_] 26)) := by go_grown
  generalize (w.alloc (.cells #[.int .i64 0, .int .i64 0, .int .i64 0, .int .i64 0] 26)).alloc (.cells #[.int .i64 q0.off, .int .i64 q0.delay, .int .i64 q0.disp, .int .i64 q0.at_] 26) = w2 at *
  have HR2 := Lib.hid R2
  have HP2 := Lib.hid P2
  clear R2 P2 c0 c1 c2 c3
  go_wp2_with fail
  go_loopw [4] (fun i wr => ∃ (k : Nat) (q : Sm), k ≤ n ∧ i = .int .i64 k ∧ Hid (q = bestFrom q0 (l.take k)) ∧ Hid (wr.heap[w.heap.size]? = some (.cells #[.int .i64 0, .int .i64 0, .int .i64 0, .int .i64 0] 26)) ∧ Hid (wr.heap[w.heap.size + 1]? = some (.cells #[.int .i64 q.off, .int .i64 q.delay, .int .i64 q.disp, .int .i64 q.at_] 26)) ∧ Below w.heap.size w wr) (fun i _ => n - (intOf i).toNat)
  case atStart => exact ⟨0, q0, Nat.zero_le _, rfl, Lib.hid rfl, HR2, HP2, b2⟩
  case round =>
    obtain ⟨k, q, hk, rfl, HQ, HR, HP, hb⟩ := hrel
    have hsz := hb.size
    have hp1 : w.heap.size + 1 < wr.heap.size := (Array.getElem?_eq_some_iff.1 HP.out).1
    obtain ⟨p0, p1, p2, p3⟩ := sample_cells HP.out
    obtain ⟨f0, f1, f2, f3⟩ := sample_thaw HP.out
    obtain ⟨r0, r1, r2, r3⟩ := sample_cells (q := ⟨0, 0, 0, 0⟩) HR.out
    obtain ⟨g0, g1, g2, g3⟩ := sample_thaw (q := ⟨0, 0, 0, 0⟩) HR.out
    by_cases hlt : k < n
    · obtain ⟨v, hv⟩ := getS (l := l) (k := k) (by rw [← hn.out]; exact hlt)
      obtain ⟨b', off', e', _, c0, c1, c2, c3⟩ := (h.next hb).at_ hv
      simp only [Option.some.injEq, Addr.mk.injEq] at e'
      obtain ⟨rfl, rfl, _⟩ := e'
      have hnx := bestFrom_next q0 hv
      rw [← HQ.out] at hnx
      clear hv
      cases hd : decide (v.delay ≤ q.delay) with
      | true =>
        rw [step_cases q v true hd] at hnx
        have HNX := Lib.hid hnx.symm
        clear hnx
        go_wp2_with fail
        go_quiet (fail)
        obtain ⟨W, hW⟩ : ∃ W, W = wr.drewN nq := ⟨_, rfl⟩
        have X : W.cell? ⟨b, off + k * 4, none⟩ = some (.int .i64 v.off) ∧ W.cell? ⟨b, off + k * 4 + 1, none⟩ = some (.int .i64 v.delay) ∧ W.cell? ⟨b, off + k * 4 + 2, none⟩ = some (.int .i64 v.disp) ∧ W.cell? ⟨b, off + k * 4 + 3, none⟩ = some (.int .i64 v.at_) := by rw [hW]; exact ⟨c0, c1, c2, c3⟩
        have HP' : W.heap[w.heap.size + 1]? = some (.cells #[.int .i64 q.off, .int .i64 q.delay, .int .i64 q.disp, .int .i64 q.at_] 26) := by rw [hW]; exact HP.out
        have HR' : W.heap[w.heap.size]? = some (.cells #[.int .i64 0, .int .i64 0, .int .i64 0, .int .i64 0] 26) := by rw [hW]; exact HR.out
        have hbW : Below w.heap.size w W := by rw [hW]; exact grow_drew hb _
        rw [← hW]
        clear hW c0 c1 c2 c3 p0 p1 p2 p3 f0 f1 f2 f3 r0 r1 r2 r3 g0 g1 g2 g3 HP HR hb
        obtain ⟨c0, c1, c2, c3⟩ := X
        obtain ⟨p0, p1, p2, p3⟩ := sample_cells HP'
        obtain ⟨f0, f1, f2, f3⟩ := sample_thaw HP'
        have N0 := sample_put HP' v
        have M0 := (put4_other (W := W) (b := w.heap.size + 1) (k := w.heap.size) (by omega) (.int .i64 v.off) (.int .i64 v.delay) (.int .i64 v.disp) (.int .i64 v.at_)).trans HR'
        have B0 := below_put (below_put (below_put (below_put hbW (b := w.heap.size + 1) (by omega) 0 (.int .i64 v.off)) (b := w.heap.size + 1) (by omega) 1 (.int .i64 v.delay)) (b := w.heap.size + 1) (by omega) 2 (.int .i64 v.disp)) (b := w.heap.size + 1) (by omega) 3 (.int .i64 v.at_)
        go_wp2_with fail
        go_roundw
        case rel => exact ⟨k + 1, v, by omega, by go_num, HNX, Lib.hid M0, Lib.hid N0, B0⟩
        case measure => simp [intOf]; omega
      | false =>
        rw [step_cases q v false hd] at hnx
        have HNX := Lib.hid hnx.symm
        clear hnx
        go_wp2_with fail
        go_quiet (fail)
        go_wp2_with fail
        go_roundw
        case rel => exact ⟨k + 1, q, by omega, by go_num, HNX, Lib.hid HR.out, Lib.hid HP.out, grow_drew hb _⟩
        case measure => simp [intOf]; omega
    · have e : k = n := by omega
      have e1 : l.take k = l := by rw [e, hn.out, List.take_length]
      have hq := HQ.out
      rw [e1, ← HB.out] at hq
      have HQ := Lib.hid hq
      clear hq e1 e
      go_wp2_with fail
      obtain ⟨x0, x1, x2, x3⟩ := sample_cells (sample_put (q := ⟨0, 0, 0, 0⟩) HR.out q)
      have G := below_put (below_put (below_put (below_put hb (b := w.heap.size) (Nat.le_refl _) 0 (.int .i64 q.off)) (b := w.heap.size) (Nat.le_refl _) 1 (.int .i64 q.delay)) (b := w.heap.size) (Nat.le_refl _) 2 (.int .i64 q.disp)) (b := w.heap.size) (Nat.le_refl _) 3 (.int .i64 q.at_)
      try simp only [Exit.inBlock, Exit.then]
      refine bodyPost_ret (by simp [results, Tryd.results36, go_sem, x0, x1, x2, x3]; try rfl) rfl ?_
      rw [← HQ.out]
      exact ⟨rfl, G⟩

theorem awayV_sub (a b : Int) : awayV (a - b) 0 = awayV a b := by unfold awayV; omega
set_option maxRecDepth 100000 in
set_option maxHeartbeats 2000000 in
theorem l4Jitter_c (l : List Sm) (hA : AllOkS l) (n : Nat) (hn : Hid (n = l.length)) (hm : n ≤ 8) (x : Option Addr) (cap : Nat) (w : World) (h : Sms w.heap.size w x l) :
    Calls Tryd.prog 38 #[.slice x n cap] w fun e w' => e = .returned (.int .i64 (jitV l)) ∧ Below w.heap.size w w' := by
  obtain ⟨q, hq⟩ : ∃ q, bestV l = q := ⟨_, rfl⟩
  have hqok : l ≠ [] → q.ok = true := fun hne => by rw [← hq]; exact hA _ (bestV_mem hne)
  have HB := Lib.hid (fun hp W h => l4Best_c l n hn hp (by unfold maxLen; omega) x cap W h)
  rw [hq] at HB
  go_enter Tryd.func38, Tryd.ntmps38
  go_wp2_with fail
  go_loopw [3, 4] (fun s i wr => ∃ (k : Nat) (t : Int), k ≤ n ∧ i = .int .i64 k ∧ s = .int .i64 t ∧ Hid (t = sumJ q (l.take k)) ∧ Below w.heap.size w wr) (fun _ i _ => n - (intOf i).toNat)
  case atStart => exact ⟨0, 0, Nat.zero_le _, rfl, rfl, Lib.hid rfl, Below.refl _ _⟩
  case round =>
    obtain ⟨k, t, hk, rfl, rfl, HT, hb⟩ := hrel
    by_cases hlt : k < n
    · obtain ⟨v, hv⟩ := getS (l := l) (k := k) (by rw [← hn.out]; exact hlt)
      have hne : l ≠ [] := by intro e; rw [e] at hv; simp at hv
      have hqo := hqok hne
      have hvok := hA v (List.mem_of_getElem? hv)
      have hnx := sumJ_next q hv
      rw [← HT.out] at hnx
      have h1 := sumJ_in hqo (l.take k) (fun u hu => hA u (List.mem_of_mem_take hu))
      rw [← HT.out, List.length_take, ← hn.out] at h1
      have ho := off_in hvok
      have hqf := off_in hqo
      have h2 := awayV_in ho hqf
      have hC := fun W => abs_s (v.off - q.off) (by omega) (by omega) W
      rw [awayV_sub] at hC
      obtain ⟨b, off, rfl, hbB, c0, c1, c2, c3⟩ := (h.next hb).at_ hv
      obtain ⟨d, hd⟩ : ∃ d, awayV v.off q.off = d := ⟨_, rfl⟩
      rw [hd] at hC hnx h2
      have hw : IntKind.i64.wrap (t + d) = t + d := IntWalk.i64_in _ (by omega)
      have hw2 : IntKind.i64.wrap (v.off - q.off) = v.off - q.off := IntWalk.i64_in _ (by omega)
      have HNX := Lib.hid hnx.symm
      have hfd : ∀ W, (Instr.field 26 (.agg #[.int .i64 q.off, .int .i64 q.delay, .int .i64 q.disp, .int .i64 q.at_]) 0).run Tryd.prog W = .ok (.int .i64 q.off) W := fun W => by kernel_rfl
      have k0 := cell_regrown c0
      have KB := Lib.hid (fun d os => Calls.regrown_of (HB.out (by omega) (grow (redrawn wr d) os) ((h.next hb).next (below_regrown wr d os))))
      have KC := Lib.hid (fun d os => Calls.regrown_of (hC (grow (redrawn wr d) os)))
      clear hv hnx hC hd h1 h2 hvok hqo hne c0 c1 c2 c3 ho hqf
      go_wp2_with fail
      refine wp_region_quiet_below (by kernel_rfl) (by kernel_rfl) ?_
      repeat ((with_reducible refine wpQuiet_step (fun K hK => ?_)); go_simp; first | ((with_reducible refine hK _ ?_); clear hK K) | (rw [if_neg (by intro h; exact nomatch h)]; (with_reducible refine hK _ ?_); clear hK K) | (apply Exists.intro; (with_reducible refine ⟨fun _ => ?_, hK _ ?_⟩); (first | with_reducible exact KB.out _ _ | with_reducible exact KC.out _ _); clear hK K))
      with_reducible refine wpQuiet_nil ?_
      intro _ hw'
      obtain ⟨⟨dq, osq⟩, hw''⟩ := hw'
      subst hw''
      have g1 := grow_next hb (below_regrown wr dq osq)
      generalize hW1 : grow (redrawn wr dq) osq = W1 at *
      clear hW1 k0 KB KC
      go_wp2_with fail
      go_roundw
      case rel => exact ⟨k + 1, t + d, by omega, by go_num, rfl, HNX, g1⟩
      case measure => simp [intOf]; omega
    · have e : k = n := by omega
      have e1 : l.take k = l := by rw [e, hn.out, List.take_length]
      have ht := HT.out
      rw [e1] at ht
      have h1 : 0 ≤ t ∧ t ≤ 16000000000000 := by
        by_cases hne : l = []
        · rw [ht, hne]; simp [sumJ]
        · have := sumJ_in (hqok hne) l hA
          rw [← ht, ← hn.out] at this
          omega
      have hj : jitV l = t / max ((n : Int) - 1) 1 := by
        unfold jitV
        rw [← hn.out, hq, ← ht]
      have hw1 : IntKind.i64.wrap ((n : Int) - 1) = (n : Int) - 1 := IntWalk.i64_in _ (by omega)
      have HJa : 1 ≤ (n : Int) - 1 → jitV l = t / ((n : Int) - 1) := fun h => by rw [hj, show max ((n : Int) - 1) 1 = (n : Int) - 1 by omega]
      have HJb : (n : Int) - 1 ≤ 1 → jitV l = t := fun h => by rw [hj, show max ((n : Int) - 1) 1 = 1 by omega, Int.ediv_one]
      have HW : 1 ≤ (n : Int) - 1 → IntKind.i64.wrap (t / ((n : Int) - 1)) = t / ((n : Int) - 1) := fun h => IntWalk.i64_in _ (by
        have h0 : 0 ≤ t / ((n : Int) - 1) := Int.ediv_nonneg h1.1 (by omega)
        have h2 : t / ((n : Int) - 1) ≤ t := Int.ediv_le_self _ h1.1
        omega)
      have HTD : Int.tdiv t ((n : Int) - 1) = t / ((n : Int) - 1) := tdiv_pos h1.1 _
      have Ja := Lib.hid HJa
      have Jb := Lib.hid HJb
      have JW := Lib.hid HW
      clear hj ht e1 e HJa HJb HW hq
      go_wp2_with fail
      all_goals
        go_returns
        refine ⟨?_, hb⟩
        first
          | exact congrArg (fun z => Ending.returned (.int .i64 z)) (Jb.out (by omega)).symm
          | exact congrArg (fun z => Ending.returned (.int .i64 z)) (Ja.out (by omega)).symm
          | exact congrArg (fun z => Ending.returned (.int .i64 z)) ((JW.out (by omega)).trans (Ja.out (by omega)).symm)
end Go.Proofs.YthgamidodkkpbaaDoor
