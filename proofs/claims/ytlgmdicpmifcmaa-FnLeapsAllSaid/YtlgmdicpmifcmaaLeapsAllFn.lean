/- At the end all leaps count, ahead of the first one none: at all drawn leaps. -/
import Derived.Test.YtlgmdicpmifcmaaLpDraws
import Derived.Test.YtlgmdicpmifcmaaLpMath
namespace Go.Proofs.Ytlgmdicpmifcmaa
open Go.ChangeShapes Go.WideShapes Go.ChangeAt Go.RowKit Go.Sort
set_option linter.unusedVariables false
set_option linter.unusedSimpArgs false

theorem atV_dec {l : List Lp} {t u : Int} (h : leapAtV l t = u) (n : Nat) (hn : Hid (n = l.length)) (hm : n ≤ maxLen) (x : Option Addr) (cap : Nat) (w : World) (hl : Lps w.heap.size w x l) :
    Calls Try.prog 13 #[.slice x n cap, .int .i64 t] w fun e w' => e = .returned (.int .i64 u) ∧ Below w.heap.size w w' := h ▸ leapAt_impl t l n hn hm x cap w hl

set_option maxHeartbeats 2000000 in
theorem leapsAllFn_walk (w : World) (a : Option Addr) (n cap z : Nat) (hz : z = n ∧ Code w.heap.size w (.slice a n cap) n) :
    Calls Try.prog 9 #[.slice a n cap] w fun e w' => e = .returned (.bool true) ∧ Below w.heap.size w w' := by
  obtain ⟨hzn, hc⟩ := hz
  clear hzn
  by_cases hbig : n ≤ 1048576
  · go_enter Try.func9, Try.ntmps9
    go_wp2_with (go_at_call 20; go_in)
    refine (drawLeapsOk_c a n cap _ hc hbig).mono ?_
    rintro e w1 ⟨y, c, l, rfl, hl4, hrow, b1⟩
    obtain ⟨hlc, hcm, _⟩ := row_cap hrow
    obtain ⟨m, hm⟩ : ∃ m, m = l.length := ⟨_, rfl⟩
    have HM := Lib.hid hm
    rw [← hm] at hl4 hlc ⊢
    have hmm : m ≤ maxLen := by omega
    clear hm
    cases ho : okLps l with
    | false =>
      have HI := Lib.hid (fun w h => leapsOk_decI ho m HM hmm y c w h)
      have HS := Lib.hid (fun w h => leapsOk_decS ho m HM hmm y c w h)
      clear ho
      go_wp2_with fail
      refine (HI.out _ hrow.lps).mono ?_
      rintro e w2 ⟨rfl, b2⟩
      have g2 := grow_next b1 b2
      have r2 := hrow.next b2
      go_wp2_with fail
      refine (HS.out _ r2.lps).mono ?_
      rintro e w3 ⟨rfl, b3⟩
      have g3 := grow_next g2 b3
      have r3 := r2.next b3
      go_wp2_with fail
      refine (HS.out _ r3.lps).mono ?_
      rintro e w4 ⟨rfl, b4⟩
      have g4 := grow_next g3 b4
      have r4 := r3.next b4
      go_wp2_with fail
      refine (HI.out _ r4.lps).mono ?_
      rintro e w5 ⟨rfl, b5⟩
      have g5 := grow_next g4 b5
      have r5 := r4.next b5
      go_wp2_with fail
      refine (HS.out _ r5.lps).mono ?_
      rintro e w6 ⟨rfl, b6⟩
      have g6 := grow_next g5 b6
      go_wp2_with fail
      go_returns
      exact ⟨rfl, g6⟩
    | true =>
      have HI := Lib.hid (fun w h => leapsOk_decI ho m HM hmm y c w h)
      have HS := Lib.hid (fun w h => leapsOk_decS ho m HM hmm y c w h)
      have HO := Lib.hid ho
      have hB := Lib.hid (fun k => sumL_bound (f := (·.add)) (l := l.take k) (B := 1) (by omega) (fun v hv => add_bound (mem_take_ok ho k v hv)))
      have HA := Lib.hid (fun (k : Nat) (v : Lp) (hv : l[k]? = some v) => (Lp.ok_iff.1 (okLps_at ho hv).1).2)
      clear ho
      go_wp2_with fail
      refine (HI.out _ hrow.lps).mono ?_
      rintro e w2 ⟨rfl, b2⟩
      have g2 := grow_next b1 b2
      have r2 := hrow.next b2
      go_wp2_with fail
      refine (HS.out _ r2.lps).mono ?_
      rintro e w3 ⟨rfl, b3⟩
      have g3 := grow_next g2 b3
      have r3 := r2.next b3
      go_wp2_with fail
      refine (HS.out _ r3.lps).mono ?_
      rintro e w4 ⟨rfl, b4⟩
      have g4 := grow_next g3 b4
      have r4 := r3.next b4
      clear g2 g3 r2 r3 hrow b1 b2 b3 b4
      go_wp2_with fail
      go_loopw [4, 5] (fun s i wr => ∃ j : Nat, j ≤ m ∧ i = .int .i64 j ∧ s = .int .i64 (sumL (·.add) (l.take j)) ∧ wr = w4) (fun _ i _ => m - (intOf i).toNat)
      case atStart => exact ⟨0, Nat.zero_le _, rfl, rfl, rfl⟩
      case round =>
        obtain ⟨j, hj, rfl, rfl, rfl⟩ := hrel
        by_cases hlt : j < m
        · obtain ⟨v, hv⟩ := get_at (l := l) (k := j) (by rw [← HM.out]; omega)
          obtain ⟨g, rfl, _⟩ := r4.at_ hv
          obtain ⟨c0, c1⟩ := r4.atg hv
          have HN := Lib.hid (sumL_next (f := (·.add)) hv)
          have ha := HA.out _ _ hv
          have hq := hB.out j
          rw [List.length_take] at hq
          obtain ⟨u, hu⟩ : ∃ u, sumL (·.add) (l.take j) = u := ⟨_, rfl⟩
          rw [hu] at HN hq ⊢
          clear hv hu
          go_wp2_with fail
          go_roundw
          case rel => exact ⟨j + 1, by omega, by go_num, by rw [HN.out], trivial⟩
          case measure => simp [intOf]; omega
        · have HE := Lib.hid (show l.take j = l by rw [show j = m by omega, HM.out, List.take_length])
          rw [HE.out]
          obtain ⟨u, hu⟩ : ∃ u, sumL (·.add) l = u := ⟨_, rfl⟩
          rw [hu]
          have HU := Lib.hid hu
          have HX := Lib.hid (show nextV l 0 = l.head? by rw [nextV_ok (by rw [HO.out]; rfl), next_first HO.out])
          have HV1 := Lib.hid (show leapAtV l 4000000000 = u by rw [leapAtV_ok (by rw [HO.out]; rfl), count_all HO.out, HU.out])
          have HV0 := Lib.hid (show leapAtV l 0 = 0 by rw [leapAtV_ok (by rw [HO.out]; rfl), count_none HO.out])
          have HNX := Lib.hid (fun w h => HX.out ▸ nextLeap_impl 0 l m HM hmm y c w h)
          clear hu
          have A1 := Lib.hid (fun w h => atV_dec HV1.out m HM hmm y c w h)
          have A0 := Lib.hid (fun w h => atV_dec HV0.out m HM hmm y c w h)
          cases l with
          | nil =>
            obtain rfl : m = 0 := by have := HM.out; simpa using this
            have HNX' := Lib.hid (fun w h => show Calls Try.prog 18 #[.slice y 0 c, .int .i64 0] w fun e w' => e = .returned (.tuple #[.agg #[.int .i64 0, .int .i64 0], .bool false]) ∧ Below w.heap.size w w' from HNX.out w h)
            clear HNX
            go_wp2_with fail
            refine (HNX'.out _ r4.lps).mono ?_
            rintro e w5 ⟨rfl, b5⟩
            have g5 := grow_next g4 b5
            have r5 := r4.next b5
            have Z5 := blk_new w5 (.cells #[.int .i64 0, .int .i64 0] 30)
            have g6 := g5.alloc g5.size (.cells #[.int .i64 0, .int .i64 0] 30)
            have r6 := r5.next (below_new w5 (.cells #[.int .i64 0, .int .i64 0] 30))
            go_wp2_with fail
            obtain ⟨W6, hW6⟩ : ∃ W6, w5.alloc (.cells #[.int .i64 0, .int .i64 0] 30) = W6 := ⟨_, rfl⟩
            rw [hW6] at g6 r6 ⊢
            clear hW6 Z5
            have C1 := Lib.hid (fun d os => Calls.regrown_of (A1.out (grow (redrawn W6 d) os) (r6.lps.next (below_regrown W6 d os))))
            have C0 := Lib.hid (fun d os => Calls.regrown_of (A0.out (grow (redrawn W6 d) os) (r6.lps.next (below_regrown W6 d os))))
            refine wp_region_quiet_below (by kernel_rfl) (by kernel_rfl) ?_
            repeat ((with_reducible refine wpQuiet_step (fun K hK => ?_)); go_simp; first | ((with_reducible refine hK _ ?_); clear hK K) | (rw [if_neg (by intro h; exact nomatch h)]; (with_reducible refine hK _ ?_); clear hK K) | (apply Exists.intro; (with_reducible refine ⟨fun _ => ?_, hK _ ?_⟩); (first | with_reducible exact C1.out _ _ | with_reducible exact C0.out _ _); clear hK K))
            with_reducible refine wpQuiet_nil ?_
            intro _ hw'
            obtain ⟨⟨dq, osq⟩, hw''⟩ := hw'
            subst hw''
            have g7 := grow_next g6 (below_regrown W6 dq osq)
            go_wp2_with fail
            go_returns
            exact ⟨by simp, g7⟩
          | cons v r =>
            have hm0 : 0 < m := by have := HM.out; simp at this; omega
            have hm1 : (0 : Int) < (m : Int) := by omega
            have HNX' := Lib.hid (fun w h => show Calls Try.prog 18 #[.slice y m c, .int .i64 0] w fun e w' => e = .returned (.tuple #[.agg #[.int .i64 v.at_, .int .i64 v.add], .bool true]) ∧ Below w.heap.size w w' from HNX.out w h)
            clear HNX
            obtain ⟨g, rfl, _⟩ := r4.at_ (k := 0) (e := v) rfl
            go_wp2_with fail
            refine (HNX'.out _ r4.lps).mono ?_
            rintro e w5 ⟨rfl, b5⟩
            have g5 := grow_next g4 b5
            have r5 := r4.next b5
            have Z5 := blk_new w5 (.cells #[.int .i64 v.at_, .int .i64 v.add] 30)
            have g6 := g5.alloc g5.size (.cells #[.int .i64 v.at_, .int .i64 v.add] 30)
            have r6 := r5.next (below_new w5 (.cells #[.int .i64 v.at_, .int .i64 v.add] 30))
            go_wp2_with fail
            obtain ⟨W6, hW6⟩ : ∃ W6, w5.alloc (.cells #[.int .i64 v.at_, .int .i64 v.add] 30) = W6 := ⟨_, rfl⟩
            rw [hW6] at g6 r6 Z5 ⊢
            obtain ⟨p, hp⟩ : ∃ p, p = w5.heap.size := ⟨_, rfl⟩
            rw [← hp] at Z5 ⊢
            clear hW6 hp
            obtain ⟨z0, z1⟩ := lp_cells Z5
            obtain ⟨c0, c1⟩ := r6.atg (k := 0) (v := v) rfl
            rw [Nat.zero_mul] at c0 c1
            have k0 := cell_regrown z0
            have k1 := cell_regrown z1
            have k2 := cell_regrown c0
            have k3 := cell_regrown c1
            have C1 := Lib.hid (fun d os => Calls.regrown_of (A1.out (grow (redrawn W6 d) os) (r6.lps.next (below_regrown W6 d os))))
            have C0 := Lib.hid (fun d os => Calls.regrown_of (A0.out (grow (redrawn W6 d) os) (r6.lps.next (below_regrown W6 d os))))
            refine wp_region_quiet_below (by kernel_rfl) (by kernel_rfl) ?_
            repeat ((with_reducible refine wpQuiet_step (fun K hK => ?_)); go_simp; first | ((with_reducible refine hK _ ?_); clear hK K) | (rw [if_neg (by intro h; exact nomatch h)]; (with_reducible refine hK _ ?_); clear hK K) | (apply Exists.intro; (with_reducible refine ⟨fun _ => ?_, hK _ ?_⟩); (first | with_reducible exact C1.out _ _ | with_reducible exact C0.out _ _); clear hK K))
            with_reducible refine wpQuiet_nil ?_
            intro _ hw'
            obtain ⟨⟨dq, osq⟩, hw''⟩ := hw'
            subst hw''
            have g7 := grow_next g6 (below_regrown W6 dq osq)
            go_wp2_with fail
            go_returns
            exact ⟨by simp, g7⟩
  · go_enter Try.func9, Try.ntmps9
    go_wp2_with (go_at_call 20; go_in)
    go_returns
    exact ⟨rfl, Below.refl _ _⟩

set_option maxRecDepth 100000 in
theorem leapsAllFn_lifted (os : Os) (started : os.Started) (H : Type) (enc : TypeId × Value → H) :
    ReturnsInHanded {} Try.checked os 9 .any (Rows.fnLeapsAllSpec.pre6 enc Try.prog Try.f9 Rows.fnLeapsAllRow.domain false) (Rows.fnLeapsAllSpec.post enc Try.prog Try.f9 false true false false) := by
  refine lifted_of_walk (C := Try.checked) own started (by as_aux_lemma => kernel_rfl) Try.func9
    (ChangeSpec.witness6 (enc := enc) (C := Try.checked) false ⟨#[], #[.slice none 0 0], []⟩ 8 (by as_aux_lemma => kernel_rfl) (by as_aux_lemma => kernel_rfl) (by as_aux_lemma => kernel_rfl) (by as_aux_lemma => kernel_rfl) (by as_aux_lemma => kernel_rfl))
    laidOut rfl (by as_aux_lemma => kernel_rfl) (by as_aux_lemma => kernel_rfl) boolType
    (fun ds h => by
      match ds, h with
      | [_], _ => rfl)
    ?_
  intro W base args ds q hval hA
  rw [Try.params9] at hA hval
  obtain ⟨v0, vs0, d0, ds0, p0, q0, hargs, rfl, rfl, h0, r0⟩ := trodAll_cons hA
  obtain ⟨rfl, rfl, rfl⟩ := trodAll_nil r0
  obtain rfl : args = #[v0] := by cases args; simp_all
  obtain ⟨a0, len0, cap0, z0, rfl, w0⟩ := open_bytes Try.underlying34 Try.underlying5 (by as_aux_lemma => kernel_rfl) (hval 0 34 v0 rfl rfl) h0
  exact leapsAllFn_walk W a0 len0 cap0 z0 w0

theorem leapsAllFn_facts : joinedFacts Try.pinned.checked.prog 9 Try.f9 Rows.fnLeapsAllSpec Rows.fnLeapsAllRow = true :=
  facts_of (P := Try.prog) (by as_aux_lemma => kernel_rfl) laidOut mapsRow (by as_aux_lemma => kernel_rfl) (by as_aux_lemma => kernel_rfl) rfl noStops rfl noKnobs (by as_aux_lemma => kernel_rfl) (by as_aux_lemma => kernel_rfl) (by as_aux_lemma => kernel_rfl) (by as_aux_lemma => kernel_rfl) (by as_aux_lemma => kernel_rfl) (by as_aux_lemma => kernel_rfl) (by as_aux_lemma => kernel_rfl) (by as_aux_lemma => kernel_rfl) (by as_aux_lemma => kernel_rfl) rfl (by as_aux_lemma => kernel_rfl) (by as_aux_lemma => kernel_rfl) (by as_aux_lemma => kernel_rfl) keysPlain rfl heard enters finals isMake rfl rfl rfl (by as_aux_lemma => kernel_rfl) (by as_aux_lemma => kernel_rfl)

/-- The given statement. -/
theorem leapsAllFn_holds : Rows.FnLeapsAllSaid :=
  OpenClaim.holds_of_wide 9 Try.f9 rfl rfl rfl rfl rfl rfl rfl ⟨rfl, rfl, rfl, rfl, rfl⟩ rfl rfl rfl rfl rfl (by as_aux_lemma => kernel_rfl) Try.func9 leapsAllFn_facts
    (of_decide_eq_true (by as_aux_lemma => kernel_rfl)) (by unfold Func.isWrapper; first | (rw [if_pos (by decide +kernel)]; kernel_rfl) | (rw [if_neg (by decide +kernel)]; exact ⟨rfl, rfl⟩))
    (fun os started H enc _ => leapsAllFn_lifted os started H enc)
#print axioms leapsAllFn_holds
end Go.Proofs.Ytlgmdicpmifcmaa
