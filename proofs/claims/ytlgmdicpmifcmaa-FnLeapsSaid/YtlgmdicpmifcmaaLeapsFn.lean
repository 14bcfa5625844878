/- A leap counts from its second on; the next one is the first that does not count yet: at all drawn leaps and times. -/
import Derived.Test.YtlgmdicpmifcmaaSmearMiddleFn
namespace Go.Proofs.Ytlgmdicpmifcmaa
open Go.ChangeShapes Go.WideShapes Go.ChangeAt Go.RowKit Go.Sort
set_option linter.unusedVariables false
set_option linter.unusedSimpArgs false

theorem atV_decS {l : List Lp} {t u : Int} (h : leapAtV l t = u) (n : Nat) (hn : Hid (n = l.length)) (hm : n ≤ maxLen) (x : Option Addr) (cap : Nat) (w : World) (hl : Lps w.heap.size w x l) :
    Calls Try.prog 11 #[.slice x n cap, .int .i64 t] w fun e w' => e = .returned (.int .i64 u) ∧ Below w.heap.size w w' := h ▸ leapAt_spec t l n hn hm x cap w hl
theorem nxV_decS {l : List Lp} {t : Int} {v : Lp} {b : Bool} (h : nextR (nextV l t) = .tuple #[.agg #[.int .i64 v.at_, .int .i64 v.add], .bool b]) (n : Nat) (hn : Hid (n = l.length)) (hm : n ≤ maxLen) (x : Option Addr) (cap : Nat) (w : World) (hl : Lps w.heap.size w x l) :
    Calls Try.prog 17 #[.slice x n cap, .int .i64 t] w fun e w' => e = .returned (.tuple #[.agg #[.int .i64 v.at_, .int .i64 v.add], .bool b]) ∧ Below w.heap.size w w' := h ▸ nextLeap_spec t l n hn hm x cap w hl
theorem nxV_decI {l : List Lp} {t : Int} {v : Lp} {b : Bool} (h : nextR (nextV l t) = .tuple #[.agg #[.int .i64 v.at_, .int .i64 v.add], .bool b]) (n : Nat) (hn : Hid (n = l.length)) (hm : n ≤ maxLen) (x : Option Addr) (cap : Nat) (w : World) (hl : Lps w.heap.size w x l) :
    Calls Try.prog 18 #[.slice x n cap, .int .i64 t] w fun e w' => e = .returned (.tuple #[.agg #[.int .i64 v.at_, .int .i64 v.add], .bool b]) ∧ Below w.heap.size w w' := h ▸ nextLeap_impl t l n hn hm x cap w hl
theorem okV_decI {l : List Lp} {b : Bool} (hb : okLps l = b) (n : Nat) (hn : Hid (n = l.length)) (hm : n ≤ maxLen) (x : Option Addr) (cap : Nat) (w : World) (h : Lps w.heap.size w x l) :
    Calls Try.prog 24 #[.slice x n cap] w fun e w' => e = .returned (.bool b) ∧ Below w.heap.size w w' := hb ▸ leapsOk_impl l n hn hm x cap w h

set_option maxRecDepth 100000 in
set_option maxHeartbeats 4000000 in
theorem leapsFn_walk (w : World) (a : Option Addr) (n cap z : Nat) (hz : z = n ∧ Code w.heap.size w (.slice a n cap) n) :
    Calls Try.prog 6 #[.slice a n cap] w fun e w' => e = .returned (.bool true) ∧ Below w.heap.size w w' := by
  obtain ⟨hzn, hc⟩ := hz
  clear hzn
  by_cases hbig : n ≤ 1048576
  · go_enter Try.func6, Try.ntmps6
    go_wp2_with (go_at_call 20; go_in)
    refine (drawLeapAt_c a n cap _ hc hbig).mono ?_
    rintro e w1 ⟨y, c, l, t, rfl, hl4, hrow, b1⟩
    obtain ⟨hlc, hcm, _⟩ := row_cap hrow
    obtain ⟨m, hm⟩ : ∃ m, m = l.length := ⟨_, rfl⟩
    have HM := Lib.hid hm
    rw [← hm] at hl4 hlc ⊢
    have hmm : m ≤ maxLen := by omega
    clear hm
    obtain ⟨u, hu⟩ : ∃ u, leapAtV l t = u := ⟨_, rfl⟩
    have UI := Lib.hid (fun w h => atV_decM hu m HM hmm y c w h)
    have US := Lib.hid (fun w h => atV_decS hu m HM hmm y c w h)
    have HU := Lib.hid hu
    clear hu
    go_wp2_with fail
    refine (UI.out _ hrow.lps).mono ?_
    rintro e w2 ⟨rfl, b2⟩
    have g2 := grow_next b1 b2
    have r2 := hrow.next b2
    clear hrow b1 b2
    go_wp2_with fail
    refine (drawNextLeap_c a n cap _ (hc.next g2) hbig).mono ?_
    rintro e w3 ⟨y2, c2, l2, t2, rfl, hl24, hrow2, b3⟩
    obtain ⟨hlc2, hcm2, _⟩ := row_cap hrow2
    obtain ⟨m2, hm2⟩ : ∃ m, m = l2.length := ⟨_, rfl⟩
    have HM2 := Lib.hid hm2
    rw [← hm2] at hl24 hlc2 ⊢
    have hmm2 : m2 ≤ maxLen := by omega
    clear hm2
    have g3 := grow_next g2 b3
    have r3 := r2.next b3
    clear b3 g2 r2
    obtain ⟨v2, hv2⟩ : ∃ v, nextL (nextV l2 t2) = v := ⟨_, rfl⟩
    obtain ⟨f2, hf2⟩ : ∃ f, (nextV l2 t2).isSome = f := ⟨_, rfl⟩
    have hR2 : nextR (nextV l2 t2) = .tuple #[.agg #[.int .i64 v2.at_, .int .i64 v2.add], .bool f2] := by rw [nextR_eq, hv2, hf2]
    have NI := Lib.hid (fun w h => nxV_decI hR2 m2 HM2 hmm2 y2 c2 w h)
    have NS := Lib.hid (fun w h => nxV_decS hR2 m2 HM2 hmm2 y2 c2 w h)
    clear hv2 hf2 hR2
    go_wp2_with fail
    refine (NI.out _ hrow2.lps).mono ?_
    rintro e w4 ⟨rfl, b4⟩
    have Z4 := blk_new w4 (.cells #[.int .i64 v2.at_, .int .i64 v2.add] 30)
    have g4 := (grow_next g3 b4).alloc (grow_next g3 b4).size (.cells #[.int .i64 v2.at_, .int .i64 v2.add] 30)
    have r4 := (r3.next b4).next (below_new w4 (.cells #[.int .i64 v2.at_, .int .i64 v2.add] 30))
    have q4 := (hrow2.next b4).next (below_new w4 (.cells #[.int .i64 v2.at_, .int .i64 v2.add] 30))
    clear b4 g3 r3 hrow2
    go_wp2_with fail
    refine (NS.out _ q4.lps).mono ?_
    rintro e w5 ⟨rfl, b5⟩
    have Z5 := blk_new w5 (.cells #[.int .i64 v2.at_, .int .i64 v2.add] 30)
    have X5 := blk_alloc (blk_next b5 Z4) (.cells #[.int .i64 v2.at_, .int .i64 v2.add] 30)
    have g5 := (grow_next g4 b5).alloc (grow_next g4 b5).size (.cells #[.int .i64 v2.at_, .int .i64 v2.add] 30)
    have r5 := (r4.next b5).next (below_new w5 (.cells #[.int .i64 v2.at_, .int .i64 v2.add] 30))
    obtain ⟨p4, hp4⟩ : ∃ p, p = w4.heap.size := ⟨_, rfl⟩
    obtain ⟨p5, hp5⟩ : ∃ p, p = w5.heap.size := ⟨_, rfl⟩
    clear b5 g4 r4 q4 Z4
    go_wp2_with fail
    obtain ⟨W5, hW5⟩ : ∃ W, w5.alloc (.cells #[.int .i64 v2.at_, .int .i64 v2.add] 30) = W := ⟨_, rfl⟩
    rw [hW5] at g5 r5 Z5 X5 ⊢
    rw [← hp5] at Z5 ⊢
    rw [← hp4] at X5 ⊢
    clear hp4 hp5 hW5
    refine (drawLeapsOk_c a n cap _ (hc.next g5) hbig).mono ?_
    rintro e w6 ⟨y3, c3, l3, rfl, hl34, hrow3, b6⟩
    obtain ⟨hlc3, hcm3, _⟩ := row_cap hrow3
    obtain ⟨m3, hm3⟩ : ∃ m, m = l3.length := ⟨_, rfl⟩
    have HM3 := Lib.hid hm3
    rw [← hm3] at hl34 hlc3 ⊢
    have hmm3 : m3 ≤ maxLen := by omega
    clear hm3
    have g6 := grow_next g5 b6
    have r6 := r5.next b6
    have Z6 := blk_next b6 Z5
    have X6 := blk_next b6 X5
    clear b6 g5 r5 Z5 X5
    obtain ⟨f3, hf3⟩ : ∃ f, okLps l3 = f := ⟨_, rfl⟩
    have OI := Lib.hid (fun w h => okV_decI hf3 m3 HM3 hmm3 y3 c3 w h)
    have OS := Lib.hid (fun w h => leapsOk_decS hf3 m3 HM3 hmm3 y3 c3 w h)
    clear hf3
    have n2 : (!(f2 == f2)) = false := by simp
    have n3 : (!(f3 == f3)) = false := by simp
    go_wp2_with fail
    refine (US.out _ r6.lps).mono ?_
    rintro e w7 ⟨rfl, b7⟩
    have g7 := grow_next g6 b7
    have r7 := r6.next b7
    have q7 := hrow3.next b7
    have Z7 := blk_next b7 Z6
    have X7 := blk_next b7 X6
    obtain ⟨z0, z1⟩ := lp_cells Z7
    obtain ⟨x0, x1⟩ := lp_cells X7
    clear b7 g6 r6 hrow3 Z6 X6
    go_wp2_with fail
    refine (OI.out _ q7.lps).mono ?_
    rintro e w8 ⟨rfl, b8⟩
    have g8 := grow_next g7 b8
    have r8 := r7.next b8
    have q8 := q7.next b8
    have Z8 := blk_next b8 Z7
    have X8 := blk_next b8 X7
    clear b8 g7 r7 q7 Z7 X7 z0 z1 x0 x1
    go_wp2_with fail
    refine (OS.out _ q8.lps).mono ?_
    rintro e w9 ⟨rfl, b9⟩
    have g9 := grow_next g8 b9
    have r9 := r8.next b9
    have q9 := q8.next b9
    have Z9 := blk_next b9 Z8
    have X9 := blk_next b9 X8
    clear b9 g8 r8 q8 Z8 X8
    cases hok : okLps l && timeL t with
    | false =>
      have e0 : (u == -1000) = true := by rw [← HU.out, leapAtV_no hok]; rfl
      clear hok
      go_wp2_with fail
      refine (US.out _ r9.lps).mono ?_
      rintro e w10 ⟨rfl, b10⟩
      have g10 := grow_next g9 b10
      have q10 := q9.next b10
      have Z10 := blk_next b10 Z9
      have X10 := blk_next b10 X9
      obtain ⟨z0, z1⟩ := lp_cells Z10
      obtain ⟨x0, x1⟩ := lp_cells X10
      clear b10 g9 r9 q9 Z9 X9
      go_wp2_with fail
      refine (OI.out _ q10.lps).mono ?_
      rintro e w11 ⟨rfl, b11⟩
      have g11 := grow_next g10 b11
      have q11 := q10.next b11
      go_wp2_with fail
      refine (OS.out _ q11.lps).mono ?_
      rintro e w12 ⟨rfl, b12⟩
      have g12 := grow_next g11 b12
      go_wp2_with fail
      go_returns
      exact ⟨by simp, g12⟩
    | true =>
      have hok' := hok
      rw [Bool.and_eq_true] at hok'
      obtain ⟨ho, ht⟩ := hok'
      obtain ⟨t0, t1⟩ := timeL_iff.1 ht
      have hub := sumL_bound (f := cntV t) (l := l) (B := 1) (by omega) (fun v hv => cntV_bound (ok_mem ho v hv))
      have hu2 : sumL (cntV t) l = u := by rw [← HU.out, leapAtV_ok hok]
      rw [hu2, ← HM.out] at hub
      have e0 : (u == -1000) = false := by simp; omega
      have hnx := nextV_ok hok
      cases hr : l.find? (fun v => decide (t < v.at_)) with
      | none =>
        rw [hr] at hnx
        have NX := Lib.hid (fun w h => nxV_decI (v := ⟨0, 0⟩) (b := false) (show nextR (nextV l t) = _ by rw [hnx]; rfl) m HM hmm y c w h)
        have hno := find_no hr
        clear hr hnx hok ho ht hu2 hub
        go_wp2_with fail
        refine (NX.out _ r9.lps).mono ?_
        rintro e w10 ⟨rfl, b10⟩
        have g10 := (grow_next g9 b10).alloc (grow_next g9 b10).size (.cells #[.int .i64 0, .int .i64 0] 30)
        have r10 := (r9.next b10).next (below_new w10 (.cells #[.int .i64 0, .int .i64 0] 30))
        clear b10 g9 r9 q9 Z9 X9
        by_cases h0 : m = 0
        · subst h0
          go_wp2_with fail
          go_returns
          exact ⟨by simp, g10⟩
        · obtain ⟨v, hv⟩ := get_at (l := l) (k := m - 1) (by rw [← HM.out]; omega)
          obtain ⟨g, rfl, _⟩ := r10.at_ hv
          obtain ⟨c0, c1⟩ := r10.atg hv
          have hvt := hno v (List.mem_of_getElem? hv)
          have i0 : ((m : Int) == 0) = false := by simp; omega
          have i1 : IntKind.i64.wrap ((m : Int) - 1) = ((m - 1 : Nat) : Int) := by rw [IntWalk.i64_in _ ⟨by omega, by omega⟩]; omega
          have i2 : ((m : Int) - 1) = ((m - 1 : Nat) : Int) := by omega
          have i3 : ((m - 1 : Nat) : Int) < (m : Int) := by omega
          have i4 : m - 1 < m := by omega
          have i5 : decide (v.at_ ≤ t) = true := decide_eq_true hvt
          clear hv hno h0
          go_wp2_with fail
          go_returns
          exact ⟨by simp [hvt], g10⟩
      | some v =>
        rw [hr] at hnx
        have NX := Lib.hid (fun w h => nxV_decI (v := v) (b := true) (show nextR (nextV l t) = _ by rw [hnx]; rfl) m HM hmm y c w h)
        obtain ⟨k1, k2, k3, k4⟩ := count_next ho hr
        rw [hu2] at k3 k4
        have A1 := Lib.hid (fun w h => atV_decM (show leapAtV l (v.at_ - 1) = u by rw [leapAtV_ok (by rw [ho]; exact timeL_iff.2 ⟨by omega, by omega⟩), k3]) m HM hmm y c w h)
        have A2 := Lib.hid (fun w h => atV_decM (show leapAtV l v.at_ = u + v.add by rw [leapAtV_ok (by rw [ho]; exact timeL_iff.2 ⟨by omega, by omega⟩), k4]) m HM hmm y c w h)
        have hva : -1 ≤ v.add ∧ v.add ≤ 1 := by
          obtain ⟨kk, hk, _⟩ := find_place hr
          exact add_bound (okLps_at ho hk).1
        clear hr hnx hok ho ht hu2 k3 k4
        go_wp2_with fail
        refine (NX.out _ r9.lps).mono ?_
        rintro e w10 ⟨rfl, b10⟩
        have Z10 := blk_new w10 (.cells #[.int .i64 v.at_, .int .i64 v.add] 30)
        have g10 := (grow_next g9 b10).alloc (grow_next g9 b10).size (.cells #[.int .i64 v.at_, .int .i64 v.add] 30)
        have r10 := (r9.next b10).next (below_new w10 (.cells #[.int .i64 v.at_, .int .i64 v.add] 30))
        obtain ⟨p, hp⟩ : ∃ p, p = w10.heap.size := ⟨_, rfl⟩
        clear b10 g9 r9 q9 Z9 X9
        go_wp2_with fail
        obtain ⟨W, hW⟩ : ∃ W, w10.alloc (.cells #[.int .i64 v.at_, .int .i64 v.add] 30) = W := ⟨_, rfl⟩
        rw [hW] at g10 r10 Z10 ⊢
        rw [← hp] at Z10 ⊢
        clear hp hW
        obtain ⟨z0, z1⟩ := lp_cells Z10
        have j0 := cell_regrown z0
        have j1 := cell_regrown z1
        have C1 := Lib.hid (fun d os => Calls.regrown_of (A1.out (grow (redrawn W d) os) (r10.lps.next (below_regrown W d os))))
        have C2 := Lib.hid (fun d os => Calls.regrown_of (A2.out (grow (redrawn W d) os) (r10.lps.next (below_regrown W d os))))
        have d1 : decide (t < v.at_) = true := decide_eq_true k1
        have o1 : IntKind.i64.wrap (v.at_ - 1) = v.at_ - 1 := by rw [IntWalk.i64_in _ ⟨by omega, by omega⟩]
        have o2 : IntKind.i64.wrap (u + v.add) = u + v.add := by rw [IntWalk.i64_in _ ⟨by omega, by omega⟩]
        go_wp2_with fail
        refine wp_region_quiet_below (by kernel_rfl) (by kernel_rfl) ?_
        repeat ((with_reducible refine wpQuiet_step (fun K hK => ?_)); go_simp; first | ((with_reducible refine hK _ ?_); clear hK K) | (rw [if_neg (by intro h; exact nomatch h)]; (with_reducible refine hK _ ?_); clear hK K) | (apply Exists.intro; (with_reducible refine ⟨fun _ => ?_, hK _ ?_⟩); (first | with_reducible exact C1.out _ _ | with_reducible exact C2.out _ _); clear hK K))
        with_reducible refine wpQuiet_nil ?_
        intro _ hw'
        obtain ⟨⟨dq, osq⟩, hw''⟩ := hw'
        subst hw''
        have g11 := grow_next g10 (below_regrown W dq osq)
        go_wp2_with fail
        go_returns
        exact ⟨by simp, g11⟩
  · go_enter Try.func6, Try.ntmps6
    go_wp2_with (go_at_call 20; go_in)
    go_returns
    exact ⟨rfl, Below.refl _ _⟩

set_option maxRecDepth 100000 in
theorem leapsFn_lifted (os : Os) (started : os.Started) (H : Type) (enc : TypeId × Value → H) :
    ReturnsInHanded {} Try.checked os 6 .any (Rows.fnLeapsSpec.pre6 enc Try.prog Try.f6 Rows.fnLeapsRow.domain false) (Rows.fnLeapsSpec.post enc Try.prog Try.f6 false true false false) := by
  refine lifted_of_walk (C := Try.checked) own started (by as_aux_lemma => kernel_rfl) Try.func6
    (ChangeSpec.witness6 (enc := enc) (C := Try.checked) false ⟨#[], #[.slice none 0 0], []⟩ 8 (by as_aux_lemma => kernel_rfl) (by as_aux_lemma => kernel_rfl) (by as_aux_lemma => kernel_rfl) (by as_aux_lemma => kernel_rfl) (by as_aux_lemma => kernel_rfl))
    laidOut rfl (by as_aux_lemma => kernel_rfl) (by as_aux_lemma => kernel_rfl) boolType
    (fun ds h => by
      match ds, h with
      | [_], _ => rfl)
    ?_
  intro W base args ds q hval hA
  rw [Try.params6] at hA hval
  obtain ⟨v0, vs0, d0, ds0, p0, q0, hargs, rfl, rfl, h0, r0⟩ := trodAll_cons hA
  obtain ⟨rfl, rfl, rfl⟩ := trodAll_nil r0
  obtain rfl : args = #[v0] := by cases args; simp_all
  obtain ⟨a0, len0, cap0, z0, rfl, w0⟩ := open_bytes Try.underlying34 Try.underlying5 (by as_aux_lemma => kernel_rfl) (hval 0 34 v0 rfl rfl) h0
  exact leapsFn_walk W a0 len0 cap0 z0 w0

theorem leapsFn_facts : joinedFacts Try.pinned.checked.prog 6 Try.f6 Rows.fnLeapsSpec Rows.fnLeapsRow = true :=
  facts_of (P := Try.prog) (by as_aux_lemma => kernel_rfl) laidOut mapsRow (by as_aux_lemma => kernel_rfl) (by as_aux_lemma => kernel_rfl) rfl noStops rfl noKnobs (by as_aux_lemma => kernel_rfl) (by as_aux_lemma => kernel_rfl) (by as_aux_lemma => kernel_rfl) (by as_aux_lemma => kernel_rfl) (by as_aux_lemma => kernel_rfl) (by as_aux_lemma => kernel_rfl) (by as_aux_lemma => kernel_rfl) (by as_aux_lemma => kernel_rfl) (by as_aux_lemma => kernel_rfl) rfl (by as_aux_lemma => kernel_rfl) (by as_aux_lemma => kernel_rfl) (by as_aux_lemma => kernel_rfl) keysPlain rfl heard enters finals isMake rfl rfl rfl (by as_aux_lemma => kernel_rfl) (by as_aux_lemma => kernel_rfl)

/-- The given statement. -/
theorem leapsFn_holds : Rows.FnLeapsSaid :=
  OpenClaim.holds_of_wide 6 Try.f6 rfl rfl rfl rfl rfl rfl rfl ⟨rfl, rfl, rfl, rfl, rfl⟩ rfl rfl rfl rfl rfl (by as_aux_lemma => kernel_rfl) Try.func6 leapsFn_facts
    (of_decide_eq_true (by as_aux_lemma => kernel_rfl)) (by unfold Func.isWrapper; first | (rw [if_pos (by decide +kernel)]; kernel_rfl) | (rw [if_neg (by decide +kernel)]; exact ⟨rfl, rfl⟩))
    (fun os started H enc _ => leapsFn_lifted os started H enc)
#print axioms leapsFn_holds
end Go.Proofs.Ytlgmdicpmifcmaa
