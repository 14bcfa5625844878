/- At a leap just half of it is smeared: at all drawn leaps, each of them. -/
import Derived.Test.YtlgmdicpmifcmaaLpDraws
import Derived.Test.YtlgmdicpmifcmaaLpMath
namespace Go.Proofs.Ytlgmdicpmifcmaa
open Go.ChangeShapes Go.WideShapes Go.ChangeAt Go.RowKit Go.Sort
set_option linter.unusedVariables false
set_option linter.unusedSimpArgs false

theorem atV_decM {l : List Lp} {t u : Int} (h : leapAtV l t = u) (n : Nat) (hn : Hid (n = l.length)) (hm : n ≤ maxLen) (x : Option Addr) (cap : Nat) (w : World) (hl : Lps w.heap.size w x l) :
    Calls Try.prog 13 #[.slice x n cap, .int .i64 t] w fun e w' => e = .returned (.int .i64 u) ∧ Below w.heap.size w w' := h ▸ leapAt_impl t l n hn hm x cap w hl
theorem smV_decM {l : List Lp} {t u : Int} (h : smearedV l t = u) (n : Nat) (hn : Hid (n = l.length)) (hm : n ≤ maxLen) (x : Option Addr) (cap : Nat) (w : World) (hl : Lps w.heap.size w x l) :
    Calls Try.prog 16 #[.slice x n cap, .int .i64 t] w fun e w' => e = .returned (.int .i64 u) ∧ Below w.heap.size w w' := h ▸ smeared_impl t l n hn hm x cap w hl
theorem smV_decS {l : List Lp} {t u : Int} (h : smearedV l t = u) (n : Nat) (hn : Hid (n = l.length)) (hm : n ≤ maxLen) (x : Option Addr) (cap : Nat) (w : World) (hl : Lps w.heap.size w x l) :
    Calls Try.prog 15 #[.slice x n cap, .int .i64 t] w fun e w' => e = .returned (.int .i64 u) ∧ Below w.heap.size w w' := h ▸ smeared_spec t l n hn hm x cap w hl

set_option maxHeartbeats 2000000 in
theorem smearMiddle_walk (w : World) (a : Option Addr) (n cap z : Nat) (hz : z = n ∧ Code w.heap.size w (.slice a n cap) n) :
    Calls Try.prog 8 #[.slice a n cap] w fun e w' => e = .returned (.bool true) ∧ Below w.heap.size w w' := by
  obtain ⟨hzn, hc⟩ := hz
  clear hzn
  by_cases hbig : n ≤ 1048576
  · go_enter Try.func8, Try.ntmps8
    go_wp2_with (go_at_call 20; go_in)
    refine (drawSmeared_c a n cap _ hc hbig).mono ?_
    rintro e w1 ⟨y, c, l, t, rfl, hl4, hrow, b1⟩
    obtain ⟨hlc, hcm, _⟩ := row_cap hrow
    obtain ⟨m, hm⟩ : ∃ m, m = l.length := ⟨_, rfl⟩
    have HM := Lib.hid hm
    rw [← hm] at hl4 hlc ⊢
    have hmm : m ≤ maxLen := by omega
    clear hm
    obtain ⟨s, hs⟩ : ∃ s, smearedV l t = s := ⟨_, rfl⟩
    have SI := Lib.hid (fun w h => smV_decM hs m HM hmm y c w h)
    have SS := Lib.hid (fun w h => smV_decS hs m HM hmm y c w h)
    clear hs
    cases ho : okLps l with
    | false =>
      have HS := Lib.hid (fun w h => leapsOk_decS ho m HM hmm y c w h)
      clear ho
      go_wp2_with fail
      refine (SI.out _ hrow.lps).mono ?_
      rintro e w2 ⟨rfl, b2⟩
      have g2 := grow_next b1 b2
      have r2 := hrow.next b2
      go_wp2_with fail
      refine (SS.out _ r2.lps).mono ?_
      rintro e w3 ⟨rfl, b3⟩
      have g3 := grow_next g2 b3
      have r3 := r2.next b3
      go_wp2_with fail
      refine (HS.out _ r3.lps).mono ?_
      rintro e w4 ⟨rfl, b4⟩
      have g4 := grow_next g3 b4
      have r4 := r3.next b4
      go_wp2_with fail
      refine (SI.out _ r4.lps).mono ?_
      rintro e w5 ⟨rfl, b5⟩
      have g5 := grow_next g4 b5
      have r5 := r4.next b5
      go_wp2_with fail
      refine (SS.out _ r5.lps).mono ?_
      rintro e w6 ⟨rfl, b6⟩
      have g6 := grow_next g5 b6
      go_wp2_with fail
      go_returns
      exact ⟨by simp, g6⟩
    | true =>
      have HS := Lib.hid (fun w h => leapsOk_decS ho m HM hmm y c w h)
      have HO := Lib.hid ho
      have hB := Lib.hid (fun k => sumL_bound (f := (·.add)) (l := l.take k) (B := 1) (by omega) (fun v hv => add_bound (mem_take_ok ho k v hv)))
      have HA := Lib.hid (fun (k : Nat) (v : Lp) (hv : l[k]? = some v) => Lp.ok_iff.1 (okLps_at ho hv).1)
      clear ho
      go_wp2_with fail
      refine (SI.out _ hrow.lps).mono ?_
      rintro e w2 ⟨rfl, b2⟩
      have g2 := grow_next b1 b2
      have r2 := hrow.next b2
      go_wp2_with fail
      refine (SS.out _ r2.lps).mono ?_
      rintro e w3 ⟨rfl, b3⟩
      have g3 := grow_next g2 b3
      have r3 := r2.next b3
      go_wp2_with fail
      refine (HS.out _ r3.lps).mono ?_
      rintro e w4 ⟨rfl, b4⟩
      have g4 := grow_next g3 b4
      have r4 := r3.next b4
      clear g2 g3 r2 r3 hrow b1 b2 b3 b4 SI SS HS
      go_wp2_with fail
      go_loopw [5, 6] (fun s i wr => ∃ j : Nat, j ≤ m ∧ i = .int .i64 j ∧ s = .int .i64 (1000000 * sumL (·.add) (l.take j)) ∧ LpRow w.heap.size wr y c l ∧ Below w.heap.size w wr) (fun _ i _ => m - (intOf i).toNat)
      case atStart => exact ⟨0, Nat.zero_le _, rfl, rfl, r4, g4⟩
      case round =>
        obtain ⟨j, hj, rfl, rfl, hr, hg⟩ := hrel
        by_cases hlt : j < m
        · obtain ⟨v, hv⟩ := get_at (l := l) (k := j) (by rw [← HM.out]; omega)
          obtain ⟨g, rfl, _⟩ := hr.at_ hv
          obtain ⟨c0, c1⟩ := hr.atg hv
          have HN := Lib.hid (sumL_next (f := (·.add)) hv)
          obtain ⟨⟨v0, v1⟩, ha⟩ := HA.out _ _ hv
          have hq := hB.out j
          rw [List.length_take] at hq
          have ht : timeL v.at_ = true := timeL_iff.2 ⟨by omega, by omega⟩
          have hS : smearedV l v.at_ = 1000000 * sumL (·.add) (l.take j) + 500000 * v.add := by rw [smearedV_ok (by rw [HO.out, ht]; rfl), smear_at HO.out hv]
          have hC : 1000000 * leapAtV l v.at_ = 1000000 * sumL (·.add) (l.take j) + 1000000 * v.add := by rw [leapAtV_ok (by rw [HO.out, ht]; rfl), count_at HO.out hv]
          obtain ⟨u, hu⟩ : ∃ u, sumL (·.add) (l.take j) = u := ⟨_, rfl⟩
          rw [hu] at HN hq hS hC ⊢
          obtain ⟨q, hqq⟩ : ∃ q, leapAtV l v.at_ = q := ⟨_, rfl⟩
          rw [hqq] at hC
          obtain rfl : q = u + v.add := by omega
          have A1 := Lib.hid (fun w h => smV_decM hS m HM hmm (some ⟨g, 0, none⟩) c w h)
          have A2 := Lib.hid (fun w h => atV_decM hqq m HM hmm (some ⟨g, 0, none⟩) c w h)
          clear hv hu hS hC ht hqq
          have k0 := cell_regrown c0
          have k1 := cell_regrown c1
          have C1 := Lib.hid (fun d os => Calls.regrown_of (A1.out (grow (redrawn wr d) os) (hr.lps.next (below_regrown wr d os))))
          have C2 := Lib.hid (fun d os => Calls.regrown_of (A2.out (grow (redrawn wr d) os) (hr.lps.next (below_regrown wr d os))))
          rcases ha with ha | ha
          · obtain ⟨vt, va⟩ := v
            dsimp only at *
            subst ha
            have hS' := A1
            have w0 : IntKind.i64.wrap 500000 = 500000 := by decide
            have w1 : IntKind.i64.wrap (1000000 * u + 500000) = 1000000 * u + 500000 := by rw [IntWalk.i64_in _ ⟨by omega, by omega⟩]
            have w2 : IntKind.i64.wrap 1000000 = 1000000 := by decide
            have w3 : IntKind.i64.wrap (1000000 * u + 1000000) = 1000000 * u + 1000000 := by rw [IntWalk.i64_in _ ⟨by omega, by omega⟩]
            have w4 : IntKind.i64.wrap ((u + 1) * 1000000) = (u + 1) * 1000000 := by rw [IntWalk.i64_in _ ⟨by omega, by omega⟩]
            have w5 : ((u + 1) * 1000000 != 1000000 * u + 1000000) = false := by simp; omega
            clear hS'
            go_wp2_with fail
            refine wp_region_quiet_below (by kernel_rfl) (by kernel_rfl) ?_
            repeat ((with_reducible refine wpQuiet_step (fun K hK => ?_)); go_simp; first | ((with_reducible refine hK _ ?_); clear hK K) | (rw [if_neg (by intro h; exact nomatch h)]; (with_reducible refine hK _ ?_); clear hK K) | (apply Exists.intro; (with_reducible refine ⟨fun _ => ?_, hK _ ?_⟩); (first | with_reducible exact C1.out _ _ | with_reducible exact C2.out _ _); clear hK K))
            with_reducible refine wpQuiet_nil ?_
            intro _ hw'
            obtain ⟨⟨dq, osq⟩, hw''⟩ := hw'
            subst hw''
            have g7 := grow_next hg (below_regrown wr dq osq)
            have r7 := hr.next (below_regrown wr dq osq)
            go_wp2_with fail
            go_roundw
            case rel => exact ⟨j + 1, by omega, by go_num, by rw [HN.out]; congr 1; omega, r7, g7⟩
            case measure => simp [intOf]; omega
          · obtain ⟨vt, va⟩ := v
            dsimp only at *
            subst ha
            have hS' := A1
            have w0 : IntKind.i64.wrap (-500000) = (-500000) := by decide
            have w1 : IntKind.i64.wrap (1000000 * u + (-500000)) = 1000000 * u + (-500000) := by rw [IntWalk.i64_in _ ⟨by omega, by omega⟩]
            have w2 : IntKind.i64.wrap (-1000000) = (-1000000) := by decide
            have w3 : IntKind.i64.wrap (1000000 * u + (-1000000)) = 1000000 * u + (-1000000) := by rw [IntWalk.i64_in _ ⟨by omega, by omega⟩]
            have w4 : IntKind.i64.wrap ((u + -1) * 1000000) = (u + -1) * 1000000 := by rw [IntWalk.i64_in _ ⟨by omega, by omega⟩]
            have w5 : ((u + -1) * 1000000 != 1000000 * u + (-1000000)) = false := by simp; omega
            clear hS'
            go_wp2_with fail
            refine wp_region_quiet_below (by kernel_rfl) (by kernel_rfl) ?_
            repeat ((with_reducible refine wpQuiet_step (fun K hK => ?_)); go_simp; first | ((with_reducible refine hK _ ?_); clear hK K) | (rw [if_neg (by intro h; exact nomatch h)]; (with_reducible refine hK _ ?_); clear hK K) | (apply Exists.intro; (with_reducible refine ⟨fun _ => ?_, hK _ ?_⟩); (first | with_reducible exact C1.out _ _ | with_reducible exact C2.out _ _); clear hK K))
            with_reducible refine wpQuiet_nil ?_
            intro _ hw'
            obtain ⟨⟨dq, osq⟩, hw''⟩ := hw'
            subst hw''
            have g7 := grow_next hg (below_regrown wr dq osq)
            have r7 := hr.next (below_regrown wr dq osq)
            go_wp2_with fail
            go_roundw
            case rel => exact ⟨j + 1, by omega, by go_num, by rw [HN.out]; congr 1; omega, r7, g7⟩
            case measure => simp [intOf]; omega
        · go_wp2_with fail
          go_returns
          exact ⟨rfl, hg⟩
  · go_enter Try.func8, Try.ntmps8
    go_wp2_with (go_at_call 20; go_in)
    go_returns
    exact ⟨rfl, Below.refl _ _⟩

set_option maxRecDepth 100000 in
theorem smearMiddle_lifted (os : Os) (started : os.Started) (H : Type) (enc : TypeId × Value → H) :
    ReturnsInHanded {} Try.checked os 8 .any (Rows.fnSmearMiddleSpec.pre6 enc Try.prog Try.f8 Rows.fnSmearMiddleRow.domain false) (Rows.fnSmearMiddleSpec.post enc Try.prog Try.f8 false true false false) := by
  refine lifted_of_walk (C := Try.checked) own started (by as_aux_lemma => kernel_rfl) Try.func8
    (ChangeSpec.witness6 (enc := enc) (C := Try.checked) false ⟨#[], #[.slice none 0 0], []⟩ 8 (by as_aux_lemma => kernel_rfl) (by as_aux_lemma => kernel_rfl) (by as_aux_lemma => kernel_rfl) (by as_aux_lemma => kernel_rfl) (by as_aux_lemma => kernel_rfl))
    laidOut rfl (by as_aux_lemma => kernel_rfl) (by as_aux_lemma => kernel_rfl) boolType
    (fun ds h => by
      match ds, h with
      | [_], _ => rfl)
    ?_
  intro W base args ds q hval hA
  rw [Try.params8] at hA hval
  obtain ⟨v0, vs0, d0, ds0, p0, q0, hargs, rfl, rfl, h0, r0⟩ := trodAll_cons hA
  obtain ⟨rfl, rfl, rfl⟩ := trodAll_nil r0
  obtain rfl : args = #[v0] := by cases args; simp_all
  obtain ⟨a0, len0, cap0, z0, rfl, w0⟩ := open_bytes Try.underlying34 Try.underlying5 (by as_aux_lemma => kernel_rfl) (hval 0 34 v0 rfl rfl) h0
  exact smearMiddle_walk W a0 len0 cap0 z0 w0

theorem smearMiddle_facts : joinedFacts Try.pinned.checked.prog 8 Try.f8 Rows.fnSmearMiddleSpec Rows.fnSmearMiddleRow = true :=
  facts_of (P := Try.prog) (by as_aux_lemma => kernel_rfl) laidOut mapsRow (by as_aux_lemma => kernel_rfl) (by as_aux_lemma => kernel_rfl) rfl noStops rfl noKnobs (by as_aux_lemma => kernel_rfl) (by as_aux_lemma => kernel_rfl) (by as_aux_lemma => kernel_rfl) (by as_aux_lemma => kernel_rfl) (by as_aux_lemma => kernel_rfl) (by as_aux_lemma => kernel_rfl) (by as_aux_lemma => kernel_rfl) (by as_aux_lemma => kernel_rfl) (by as_aux_lemma => kernel_rfl) rfl (by as_aux_lemma => kernel_rfl) (by as_aux_lemma => kernel_rfl) (by as_aux_lemma => kernel_rfl) keysPlain rfl heard enters finals isMake rfl rfl rfl (by as_aux_lemma => kernel_rfl) (by as_aux_lemma => kernel_rfl)

/-- The given statement. -/
theorem smearMiddle_holds : Rows.FnSmearMiddleSaid :=
  OpenClaim.holds_of_wide 8 Try.f8 rfl rfl rfl rfl rfl rfl rfl ⟨rfl, rfl, rfl, rfl, rfl⟩ rfl rfl rfl rfl rfl (by as_aux_lemma => kernel_rfl) Try.func8 smearMiddle_facts
    (of_decide_eq_true (by as_aux_lemma => kernel_rfl)) (by unfold Func.isWrapper; first | (rw [if_pos (by decide +kernel)]; kernel_rfl) | (rw [if_neg (by decide +kernel)]; exact ⟨rfl, rfl⟩))
    (fun os started H enc _ => smearMiddle_lifted os started H enc)
#print axioms smearMiddle_holds
end Go.Proofs.Ytlgmdicpmifcmaa
