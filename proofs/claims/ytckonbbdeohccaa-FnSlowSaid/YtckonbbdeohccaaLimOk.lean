/- Which limiters are right: of the program and of the reference. -/
import Derived.Test.YtckonbbdeohccaaCl
import Derived.Test.YtckonbbdeohccaaNdOkS
namespace Go.Proofs.Ytckonbbdeohccaa
open Go.ChangeShapes Go.WideShapes Go.ChangeAt Go.RowKit Go.Sort
set_option linter.unusedVariables false
set_option linter.unusedSimpArgs false

def clOk (c : Cl) : Bool := inB 1 c.id 1000 && inB 0 c.last 1000000000 && inB 0 c.score 20
/-- The Id ahead of this place; 0 ahead of the first. -/
def prevId (l : List Cl) (j : Nat) : Int := if j = 0 then 0 else match l[j - 1]? with | some c => c.id | none => 0
def okC (l : List Cl) (j : Nat) (c : Cl) : Bool := clOk c && decide (prevId l j < c.id)
def okCTo (l : List Cl) (k : Nat) : Bool := (List.range k).all fun j => match l[j]? with | some c => okC l j c | none => true
def limOk (l : List Cl) : Bool := okCTo l l.length && decide (l.length ≤ 50)
theorem okCTo_next {l : List Cl} {k : Nat} {c : Cl} (h : l[k]? = some c) : okCTo l (k + 1) = (okCTo l k && okC l k c) := by
  unfold okCTo
  rw [List.range_succ, List.all_append]
  simp [h]
theorem okCTo_at {l : List Cl} {k j : Nat} {c : Cl} (h : okCTo l k = true) (hj : j < k) (hz : l[j]? = some c) : okC l j c = true := by
  have := List.all_eq_true.1 h j (List.mem_range.2 hj)
  rw [hz] at this
  exact this
theorem limOk_false {l : List Cl} {k : Nat} {c : Cl} (h : l[k]? = some c) (hf : okC l k c = false) : limOk l = false := by
  unfold limOk
  cases e : okCTo l l.length with
  | false => rfl
  | true =>
    have := okCTo_at e (List.getElem?_eq_some_iff.1 h).1 h
    rw [hf] at this
    cases this
theorem prevId_next {l : List Cl} {k : Nat} {c : Cl} (h : l[k]? = some c) : prevId l (k + 1) = c.id := by
  unfold prevId
  rw [if_neg (Nat.succ_ne_zero k), Nat.add_sub_cancel, h]
theorem clOk_id {c : Cl} (h : clOk c = true) : 1 ≤ c.id ∧ c.id ≤ 1000 := by
  unfold clOk at h
  rw [Bool.and_eq_true, Bool.and_eq_true, inB_iff] at h
  exact h.1.1
theorem client_cells {W : World} {b : Nat} {v : Cl} {T : TypeId} (e : W.heap[b]? = some (.cells #[.int .i64 v.id, .int .i64 v.last, .int .i64 v.score] T)) : W.cell? ⟨b, 0, none⟩ = some (.int .i64 v.id) ∧ W.cell? ⟨b, 1, none⟩ = some (.int .i64 v.last) ∧ W.cell? ⟨b, 2, none⟩ = some (.int .i64 v.score) := by simp [World.cell?, e]
set_option maxHeartbeats 1000000 in
theorem clientOk_c (c : Cl) (w : World) : Calls Try.prog 55 #[.agg #[.int .i64 c.id, .int .i64 c.last, .int .i64 c.score]] w fun e w' => e = .returned (.bool (clOk c)) ∧ Below w.heap.size w w' := by
  have B0 : Below w.heap.size w (w.alloc (.cells #[.int .i64 c.id, .int .i64 c.last, .int .i64 c.score] 52)) := below_new _ _
  obtain ⟨c0, c1, c2⟩ := client_cells (blk_new w (.cells #[.int .i64 c.id, .int .i64 c.last, .int .i64 c.score] 52))
  obtain ⟨a, ha⟩ : ∃ a, inB 1 c.id 1000 = a := ⟨_, rfl⟩
  obtain ⟨b, hb⟩ : ∃ b, inB 0 c.last 1000000000 = b := ⟨_, rfl⟩
  obtain ⟨d, hd⟩ : ∃ d, inB 0 c.score 20 = d := ⟨_, rfl⟩
  have HA := Lib.hid (fun W => (ha ▸ within_c c.id 1 1000 W : Calls Try.prog 46 #[.int .i64 c.id, .int .i64 1, .int .i64 1000] W fun e w' => e = .returned (.bool a) ∧ W = w'))
  have HB := Lib.hid (fun W => (hb ▸ within_c c.last 0 1000000000 W : Calls Try.prog 46 #[.int .i64 c.last, .int .i64 0, .int .i64 1000000000] W fun e w' => e = .returned (.bool b) ∧ W = w'))
  have HD := Lib.hid (fun W => (hd ▸ within_c c.score 0 20 W : Calls Try.prog 46 #[.int .i64 c.score, .int .i64 0, .int .i64 20] W fun e w' => e = .returned (.bool d) ∧ W = w'))
  have HV : Hid (clOk c = (a && b && d)) := Lib.hid (by unfold clOk; rw [ha, hb, hd])
  clear ha hb hd
  go_enter Try.func55, Try.ntmps55
  go_wp2_with fail
  refine (HA.out _).mono ?_
  rintro e w1 ⟨rfl, rfl⟩
  cases a with
  | false =>
    go_wp2_with fail
    go_returns
    exact ⟨by rw [HV.out]; rfl, B0⟩
  | true =>
    go_wp2_with fail
    refine (HB.out _).mono ?_
    rintro e w1 ⟨rfl, rfl⟩
    cases b with
    | false =>
      go_wp2_with fail
      go_returns
      exact ⟨by rw [HV.out]; rfl, B0⟩
    | true =>
      go_wp2_with fail
      refine (HD.out _).mono ?_
      rintro e w1 ⟨rfl, rfl⟩
      go_wp2_with fail
      go_returns
      exact ⟨by rw [HV.out]; rfl, B0⟩
set_option maxRecDepth 100000 in
set_option maxHeartbeats 4000000 in
theorem limOk_impl (l : List Cl) (n : Nat) (hn : Hid (n = l.length)) (hm : n ≤ maxLen) (x : Option Addr) (cap : Nat) (w : World) (h : Cls w.heap.size w x l) :
    Calls Try.prog 30 #[.agg #[.slice x n cap]] w fun e w' => e = .returned (.bool (limOk l)) ∧ Below w.heap.size w w' := by
  unfold maxLen at hm
  have Q0 := blk_new w (.cells #[.slice x n cap] 28)
  have B0 : Below w.heap.size w (w.alloc (.cells #[.slice x n cap] 28)) := below_new _ _
  have h0 := h.next B0
  obtain ⟨c0, _⟩ := one_cell Q0
  go_enter Try.func30, Try.ntmps30
  by_cases h12 : 50 < n
  · have hd : decide ((50 : Int) < (n : Int)) = true := decide_eq_true (by omega)
    have HV : Hid (limOk l = false) := Lib.hid (by
      unfold limOk
      rw [decide_eq_false (by rw [← hn.out]; omega), Bool.and_false])
    go_wp2_with fail
    go_returns
    exact ⟨by rw [HV.out]; rfl, B0⟩
  · have hd : decide ((50 : Int) < (n : Int)) = false := decide_eq_false (by omega)
    have hn12 : n ≤ 50 := by omega
    clear h12
    go_upto_region 4 with (fail)
    generalize w.alloc (.cells #[.slice x n cap] 28) = w0 at *
    go_wp2_with fail
    go_loopw [3, 13] (fun p i wr => ∃ (k : Nat) (z : Int), k ≤ n ∧ i = .int .i64 k ∧ p = .int .i64 z ∧ Hid (z = prevId l k) ∧ Hid (okCTo l k = true) ∧ Below w0.heap.size w0 wr) (fun _ i _ => n - (intOf i).toNat)
    case atStart => exact ⟨0, 0, Nat.zero_le _, rfl, rfl, Lib.hid rfl, Lib.hid rfl, Below.refl _ _⟩
    case round =>
      obtain ⟨k, z, hk, rfl, rfl, HZ, HO, hb⟩ := hrel
      by_cases hlt : k < n
      · obtain ⟨v, hv⟩ := getC (l := l) (k := k) (by rw [← hn.out]; exact hlt)
        obtain ⟨b, off, rfl, _, e0, e1, e2⟩ := (h0.next hb).at_ hv
        have hnx := okCTo_next hv
        rw [HO.out, Bool.true_and] at hnx
        have HNF := Lib.hid (fun hf => limOk_false hv hf)
        have HP := Lib.hid (prevId_next hv)
        have N1 := blk_new wr (.cells #[.int .i64 v.id, .int .i64 v.last, .int .i64 v.score] 52)
        have B1 : Below wr.heap.size wr (wr.alloc (.cells #[.int .i64 v.id, .int .i64 v.last, .int .i64 v.score] 52)) := below_new _ _
        have b1 := grow_next hb B1
        obtain ⟨r, hr⟩ : ∃ r, clOk v = r := ⟨_, rfl⟩
        obtain ⟨s, hs⟩ : ∃ s, decide (v.id ≤ z) = s := ⟨_, rfl⟩
        have HV : Hid (okC l k v = (r && !s)) := Lib.hid (by
          unfold okC
          rw [hr, ← HZ.out, ← hs]
          congr 1
          by_cases hvz : v.id ≤ z
          · rw [decide_eq_true hvz, decide_eq_false (by omega)]; rfl
          · rw [decide_eq_false hvz, decide_eq_true (by omega)]; rfl)
        have HC := Lib.hid (fun W => (hr ▸ clientOk_c v W : Calls Try.prog 55 #[.agg #[.int .i64 v.id, .int .i64 v.last, .int .i64 v.score]] W fun e w' => e = .returned (.bool r) ∧ Below W.heap.size W w'))
        have HNX := Lib.hid hnx
        have HSS := Lib.hid hs
        generalize hW1 : wr.alloc (.cells #[.int .i64 v.id, .int .i64 v.last, .int .i64 v.score] 52) = W1 at *
        obtain ⟨x0, x1, x2⟩ := client_cells N1
        clear hv hnx hr hs
        go_wp2_with fail
        refine (HC.out _).mono ?_
        rintro e w2 ⟨rfl, hb2⟩
        have b2 := grow_next b1 hb2
        obtain ⟨x0, x1, x2⟩ := client_cells (blk_next hb2 N1)
        clear N1 hW1
        cases r with
        | false =>
          have HF := Lib.hid (HNF.out HV.out)
          go_wp2_with fail
          go_returns
          exact ⟨by rw [HF.out]; rfl, grow_next B0 b2⟩
        | true =>
          have hs := HSS.out
          cases s with
          | true =>
            have HF := Lib.hid (HNF.out HV.out)
            go_wp2_with fail
            go_returns
            exact ⟨by rw [HF.out]; rfl, grow_next B0 b2⟩
          | false =>
            have HO1 := Lib.hid (HNX.out.trans HV.out)
            go_wp2_with fail
            go_roundw
            case rel => exact ⟨k + 1, v.id, by omega, by go_num, rfl, Lib.hid HP.out.symm, HO1, b2⟩
            case measure => simp [intOf]; omega
      · have HV : Hid (limOk l = true) := Lib.hid (by
          unfold limOk
          rw [← hn.out, show n = k by omega, HO.out, decide_eq_true (by omega)]; rfl)
        go_wp2_with fail
        go_returns
        exact ⟨by rw [HV.out]; rfl, grow_next B0 hb⟩
set_option maxRecDepth 100000 in
set_option maxHeartbeats 8000000 in
theorem limOk_spec (l : List Cl) (n : Nat) (hn : Hid (n = l.length)) (hm : n ≤ maxLen) (x : Option Addr) (cap : Nat) (w : World) (h : Cls w.heap.size w x l) :
    Calls Try.prog 31 #[.agg #[.slice x n cap]] w fun e w' => e = .returned (.bool (limOk l)) ∧ Below w.heap.size w w' := by
  unfold maxLen at hm
  have Q0 := blk_new w (.cells #[.slice x n cap] 28)
  have B0 : Below w.heap.size w (w.alloc (.cells #[.slice x n cap] 28)) := below_new _ _
  have h0 := h.next B0
  go_enter Try.func31, Try.ntmps31
  go_upto_region 2 with (fail)
  generalize w.alloc (.cells #[.slice x n cap] 28) = w0 at *
  clear h
  go_loopw [3] (fun i wr => ∃ k : Nat, k ≤ n ∧ i = .int .i64 k ∧ Hid (okCTo l k = true) ∧ Below w0.heap.size w0 wr) (fun i _ => n - (intOf i).toNat)
  case atStart => exact ⟨0, Nat.zero_le _, rfl, Lib.hid rfl, Below.refl _ _⟩
  case round =>
    obtain ⟨k, hk, rfl, HO, hb⟩ := hrel
    have g0 := grow_next B0 hb
    have Q1 := blk_next hb Q0
    obtain ⟨q0, _⟩ := one_cell Q1
    by_cases hlt : k < n
    · obtain ⟨v, hv⟩ := getC (l := l) (k := k) (by rw [← hn.out]; exact hlt)
      obtain ⟨b, off, rfl, _, e0, e1, e2⟩ := (h0.next hb).at_ hv
      have hnx := okCTo_next hv
      rw [HO.out, Bool.true_and] at hnx
      have HNF := Lib.hid (fun hf => limOk_false hv hf)
      have N1 := blk_new wr (.cells #[.int .i64 v.id, .int .i64 v.last, .int .i64 v.score] 52)
      have B1 : Below wr.heap.size wr (wr.alloc (.cells #[.int .i64 v.id, .int .i64 v.last, .int .i64 v.score] 52)) := below_new _ _
      have b1 := grow_next hb B1
      have Q2 := blk_next B1 Q1
      have h1 := (h0.next hb).next B1
      have hsz : wr.heap.size < (wr.alloc (.cells #[.int .i64 v.id, .int .i64 v.last, .int .i64 v.score] 52)).heap.size := by simp
      go_wp2_with fail
      generalize hW1 : wr.alloc (.cells #[.int .i64 v.id, .int .i64 v.last, .int .i64 v.score] 52) = W1 at *
      clear hW1 q0 e0 e1 e2 Q1
      obtain ⟨q0, _⟩ := one_cell Q2
      obtain ⟨x0, x1, x2⟩ := client_cells N1
      have jq := cell_regrown q0
      have j0 := cell_regrown x0
      have j1 := cell_regrown x1
      have j2 := cell_regrown x2
      have KA := Lib.hid (fun d os => Calls.regrown_of (l1In_below v.id 1 1000 (grow (redrawn W1 d) os)))
      have KB := Lib.hid (fun d os => Calls.regrown_of (l1In_below v.last 0 1000000000 (grow (redrawn W1 d) os)))
      have KC := Lib.hid (fun d os => Calls.regrown_of (l1In_below v.score 0 20 (grow (redrawn W1 d) os)))
      cases ha : inB 1 v.id 1000 with
      | false =>
        have HF := Lib.hid (HNF.out (by unfold okC clOk; rw [ha]; rfl))
        rw [ha] at KA
        clear hv hnx ha
        refine wp_region_quiet_below (by kernel_rfl) (by kernel_rfl) ?_
        repeat ((with_reducible refine wpQuiet_step (fun K hK => ?_)); go_simp; first | ((with_reducible refine hK _ ?_); clear hK K) | (rw [if_neg (by intro h; exact nomatch h)]; (with_reducible refine hK _ ?_); clear hK K) | (apply Exists.intro; (with_reducible refine ⟨fun _ => ?_, hK _ ?_⟩); (first | with_reducible exact KA.out _ _ | with_reducible exact KB.out _ _ | with_reducible exact KC.out _ _); clear hK K))
        with_reducible refine wpQuiet_nil ?_
        intro _ hw'
        obtain ⟨⟨dq, osq⟩, hw''⟩ := hw'
        subst hw''
        have g1 := grow_next b1 (below_regrown W1 dq osq)
        have g2 := grow_next B0 g1
        generalize hW2 : grow (redrawn W1 dq) osq = W2 at *
        go_wp2_with fail
        go_returns
        exact ⟨by rw [HF.out]; rfl, g2⟩
      | true =>
        rw [ha] at KA
        cases hc : inB 0 v.last 1000000000 with
        | false =>
          have HF := Lib.hid (HNF.out (by unfold okC clOk; rw [hc]; simp))
          rw [hc] at KB
          clear hv hnx ha hc
          refine wp_region_quiet_below (by kernel_rfl) (by kernel_rfl) ?_
          repeat ((with_reducible refine wpQuiet_step (fun K hK => ?_)); go_simp; first | ((with_reducible refine hK _ ?_); clear hK K) | (rw [if_neg (by intro h; exact nomatch h)]; (with_reducible refine hK _ ?_); clear hK K) | (apply Exists.intro; (with_reducible refine ⟨fun _ => ?_, hK _ ?_⟩); (first | with_reducible exact KA.out _ _ | with_reducible exact KB.out _ _ | with_reducible exact KC.out _ _); clear hK K))
          with_reducible refine wpQuiet_nil ?_
          intro _ hw'
          obtain ⟨⟨dq, osq⟩, hw''⟩ := hw'
          subst hw''
          have g1 := grow_next b1 (below_regrown W1 dq osq)
          have g2 := grow_next B0 g1
          generalize hW2 : grow (redrawn W1 dq) osq = W2 at *
          go_wp2_with fail
          go_returns
          exact ⟨by rw [HF.out]; rfl, g2⟩
        | true =>
          rw [hc] at KB
          cases hd : inB 0 v.score 20 with
          | false =>
            have HF := Lib.hid (HNF.out (by unfold okC clOk; rw [hd]; simp))
            rw [hd] at KC
            clear hv hnx ha hc hd
            refine wp_region_quiet_below (by kernel_rfl) (by kernel_rfl) ?_
            repeat ((with_reducible refine wpQuiet_step (fun K hK => ?_)); go_simp; first | ((with_reducible refine hK _ ?_); clear hK K) | (rw [if_neg (by intro h; exact nomatch h)]; (with_reducible refine hK _ ?_); clear hK K) | (apply Exists.intro; (with_reducible refine ⟨fun _ => ?_, hK _ ?_⟩); (first | with_reducible exact KA.out _ _ | with_reducible exact KB.out _ _ | with_reducible exact KC.out _ _); clear hK K))
            with_reducible refine wpQuiet_nil ?_
            intro _ hw'
            obtain ⟨⟨dq, osq⟩, hw''⟩ := hw'
            subst hw''
            have g1 := grow_next b1 (below_regrown W1 dq osq)
            have g2 := grow_next B0 g1
            generalize hW2 : grow (redrawn W1 dq) osq = W2 at *
            go_wp2_with fail
            go_returns
            exact ⟨by rw [HF.out]; rfl, g2⟩
          | true =>
            rw [hd] at KC
            have hcl : clOk v = true := by unfold clOk; rw [ha, hc, hd]; rfl
            rcases Nat.eq_zero_or_pos k with hk0 | hk0
            · have HO1 : Hid (okCTo l (k + 1) = true) := Lib.hid (by
                rw [hnx]
                unfold okC
                have := (clOk_id hcl).1
                rw [hcl, hk0, show prevId l 0 = 0 from rfl, decide_eq_true (by omega)]; rfl)
              have hdk : decide ((0 : Int) < (k : Int)) = false := decide_eq_false (by omega)
              have hdk2 : ¬ 0 < k := by omega
              have DU : True := trivial
              clear hv hnx ha hc hd hcl hk0
              refine wp_region_quiet_below (by kernel_rfl) (by kernel_rfl) ?_
              repeat ((with_reducible refine wpQuiet_step (fun K hK => ?_)); go_simp; first | ((with_reducible refine hK _ ?_); clear hK K) | (rw [if_neg (by intro h; exact nomatch h)]; (with_reducible refine hK _ ?_); clear hK K) | (apply Exists.intro; (with_reducible refine ⟨fun _ => ?_, hK _ ?_⟩); (first | with_reducible exact KA.out _ _ | with_reducible exact KB.out _ _ | with_reducible exact KC.out _ _); clear hK K))
              with_reducible refine wpQuiet_nil ?_
              intro _ hw'
              obtain ⟨⟨dq, osq⟩, hw''⟩ := hw'
              subst hw''
              have g1 := grow_next b1 (below_regrown W1 dq osq)
              generalize hW2 : grow (redrawn W1 dq) osq = W2 at *
              clear hW2 jq j0 j1 j2 KA KB KC DU
              go_wp2_with fail
              go_roundw
              case rel => exact ⟨k + 1, by omega, by go_num, HO1, g1⟩
              case measure => simp [intOf]; omega
            · obtain ⟨u, hu⟩ := getC (l := l) (k := k - 1) (by rw [← hn.out]; omega)
              obtain ⟨b', off', e', _, y0, _, _⟩ := h1.at_ hu
              simp only [Option.some.injEq, Addr.mk.injEq] at e'
              obtain ⟨rfl, rfl, _⟩ := e'
              have DU := cell_regrown y0
              have hki : ((k - 1 : Nat) : Int) = (k : Int) - 1 := by omega
              have hk1 : IntKind.i64.wrap ((k : Int) - 1) = ((k - 1 : Nat) : Int) := by rw [hki]; exact IntWalk.i64_in _ (by omega)
              have hk2 : decide ((0 : Int) < (k : Int)) = true := decide_eq_true (by omega)
              have hk3 : k - 1 < n := by omega
              have hpv : prevId l k = u.id := by
                have := prevId_next hu
                rwa [Nat.sub_add_cancel hk0] at this
              by_cases hau : v.id ≤ u.id
              · have HF := Lib.hid (HNF.out (by unfold okC; rw [hpv, decide_eq_false (by omega), Bool.and_false]))
                have hdd : decide (v.id ≤ u.id) = true := decide_eq_true hau
                clear hv hnx ha hc hd hcl hu hpv hau hki y0
                refine wp_region_quiet_below (by kernel_rfl) (by kernel_rfl) ?_
                repeat ((with_reducible refine wpQuiet_step (fun K hK => ?_)); go_simp; first | ((with_reducible refine hK _ ?_); clear hK K) | (rw [if_neg (by intro h; exact nomatch h)]; (with_reducible refine hK _ ?_); clear hK K) | (apply Exists.intro; (with_reducible refine ⟨fun _ => ?_, hK _ ?_⟩); (first | with_reducible exact KA.out _ _ | with_reducible exact KB.out _ _ | with_reducible exact KC.out _ _); clear hK K))
                with_reducible refine wpQuiet_nil ?_
                intro _ hw'
                obtain ⟨⟨dq, osq⟩, hw''⟩ := hw'
                subst hw''
                have g1 := grow_next b1 (below_regrown W1 dq osq)
                have g2 := grow_next B0 g1
                generalize hW2 : grow (redrawn W1 dq) osq = W2 at *
                go_wp2_with fail
                go_returns
                exact ⟨by rw [HF.out]; rfl, g2⟩
              · have HO1 : Hid (okCTo l (k + 1) = true) := Lib.hid (by
                  rw [hnx]
                  unfold okC
                  rw [hcl, hpv, decide_eq_true (by omega)]; rfl)
                have hdd : decide (v.id ≤ u.id) = false := decide_eq_false hau
                clear hv hnx ha hc hd hcl hu hpv hau hki y0
                refine wp_region_quiet_below (by kernel_rfl) (by kernel_rfl) ?_
                repeat ((with_reducible refine wpQuiet_step (fun K hK => ?_)); go_simp; first | ((with_reducible refine hK _ ?_); clear hK K) | (rw [if_neg (by intro h; exact nomatch h)]; (with_reducible refine hK _ ?_); clear hK K) | (apply Exists.intro; (with_reducible refine ⟨fun _ => ?_, hK _ ?_⟩); (first | with_reducible exact KA.out _ _ | with_reducible exact KB.out _ _ | with_reducible exact KC.out _ _); clear hK K))
                with_reducible refine wpQuiet_nil ?_
                intro _ hw'
                obtain ⟨⟨dq, osq⟩, hw''⟩ := hw'
                subst hw''
                have g1 := grow_next b1 (below_regrown W1 dq osq)
                generalize hW2 : grow (redrawn W1 dq) osq = W2 at *
                clear hW2 jq j0 j1 j2 KA KB KC DU
                go_wp2_with fail
                go_roundw
                case rel => exact ⟨k + 1, by omega, by go_num, HO1, g1⟩
                case measure => simp [intOf]; omega
    · have HV : Hid (limOk l = decide ((n : Int) ≤ 50)) := Lib.hid (by
        unfold limOk
        rw [← hn.out, show n = k by omega, HO.out, Bool.true_and]
        by_cases h8 : k ≤ 50
        · rw [decide_eq_true h8, decide_eq_true (by omega)]
        · rw [decide_eq_false h8, decide_eq_false (by omega)])
      go_wp2_with fail
      go_returns
      exact ⟨by rw [HV.out]; rfl, g0⟩
end Go.Proofs.Ytckonbbdeohccaa
