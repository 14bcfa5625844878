/- Who has not come for twenty seconds is told nought, whatever its score was: at every drawn limiter. -/
import Derived.Test.YtckonbbdeohccaaCameUp
import Derived.Test.YtckonbbdeohccaaDrawCame
import Derived.Lib.QuietBelow
namespace Go.Proofs.Ytckonbbdeohccaa
open Go.ChangeShapes Go.WideShapes Go.ChangeAt Go.RowKit Go.Sort
set_option linter.unusedVariables false
set_option linter.unusedSimpArgs false
set_option maxRecDepth 100000

set_option maxHeartbeats 4000000 in
theorem rest_walk (w : World) (x : Option Addr) (n cap z : Nat) (hz : z = n ∧ Code w.heap.size w (.slice x n cap) n) :
    Calls Try.prog 10 #[.slice x n cap] w fun e w' => e = .returned (.bool true) ∧ Below w.heap.size w w' := by
  obtain ⟨_, hc⟩ := hz
  by_cases hbig : n ≤ 1048576
  · have hbi : decide ((1048576 : Int) < (n : Int)) = false := decide_eq_false (by omega)
    go_enter Try.func10, Try.ntmps10
    go_wp2_with (go_at_call 26; go_in)
    refine (drawCame_c x n cap _ hc hbig).mono ?_
    rintro e w1 ⟨y, cy, l, id, t, rfl, hl50, hids, t0, t1, hrow, hb1⟩
    obtain ⟨m, hm⟩ : ∃ m, m = l.length := ⟨_, rfl⟩
    rw [← hm] at hl50
    try rw [← hm]
    have HM := Lib.hid hm
    have Z2 := blk_new w1 (.cells #[.slice y m cy] 28)
    have G2 := hb1.alloc hb1.size (.cells #[.slice y m cy] 28)
    have R2 := (hrow.next (below_new w1 (.cells #[.slice y m cy] 28))).cls
    clear hm hc hids hrow hb1
    go_upto_region 4 with (fail)
    obtain ⟨W2, hW2⟩ : ∃ W, W = w1.alloc (.cells #[.slice y m cy] 28) := ⟨_, rfl⟩
    obtain ⟨p, hp⟩ : ∃ p, w1.heap.size = p := ⟨_, rfl⟩
    rw [hp] at Z2
    rw [← hW2] at Z2 G2 R2
    rw [← hW2]
    try rw [hp]
    clear hW2 hp
    have hmm : m ≤ maxLen := by unfold maxLen; omega
    have HL := Lib.hid (fun W h => limOk_impl l m HM.out hmm y cy W h)
    have HS := Lib.hid (fun W h => limOk_spec l m HM.out hmm y cy W h)
    have HC := Lib.hid (fun i now W h => came_impl l m HM.out hmm i now y cy W h)
    have HR := Lib.hid (fun (ho : limOk l = true) k v hv ht => rested (l := l) ho (k := k) (v := v) hv ht)
    obtain ⟨o, ho⟩ : ∃ o, limOk l = o := ⟨_, rfl⟩
    have HO := Lib.hid ho
    rw [ho] at HL HS
    clear ho
    have KI := Lib.hid (fun d os => Calls.regrown_of (HL.out (grow (redrawn W2 d) os) (R2.next (below_regrown W2 d os))))
    have KS := Lib.hid (fun d os => Calls.regrown_of (HS.out (grow (redrawn W2 d) os) (R2.next (below_regrown W2 d os))))
    have kz := cell_regrown (one_cell Z2).1
    cases o with
    | false =>
      go_wp2_with fail
      refine wp_region_quiet_below (by kernel_rfl) (by kernel_rfl) ?_
      repeat ((with_reducible refine wpQuiet_step (fun K hK => ?_)); go_simp; first | ((with_reducible refine hK _ ?_); clear hK K) | (rw [if_neg (by intro h; exact nomatch h)]; (with_reducible refine hK _ ?_); clear hK K) | (apply Exists.intro; (with_reducible refine ⟨fun _ => ?_, hK _ ?_⟩); (first | with_reducible exact KI.out _ _ | with_reducible exact KS.out _ _); clear hK K))
      with_reducible refine wpQuiet_nil ?_
      intro _ hw'
      obtain ⟨⟨dq, osq⟩, hw''⟩ := hw'
      subst hw''
      have g := below_regrown W2 dq osq
      have Z3 := blk_next g Z2
      have G3 := grow_next G2 g
      have R3 := R2.next g
      generalize grow (redrawn W2 dq) osq = W3 at *
      clear KI KS kz Z2 G2 R2 g
      have KI := Lib.hid (fun d os => Calls.regrown_of (HL.out (grow (redrawn W3 d) os) (R3.next (below_regrown W3 d os))))
      have KS := Lib.hid (fun d os => Calls.regrown_of (HS.out (grow (redrawn W3 d) os) (R3.next (below_regrown W3 d os))))
      have kz := cell_regrown (one_cell Z3).1
      go_wp2_with fail
      refine wp_region_quiet_below (by kernel_rfl) (by kernel_rfl) ?_
      repeat ((with_reducible refine wpQuiet_step (fun K hK => ?_)); go_simp; first | ((with_reducible refine hK _ ?_); clear hK K) | (rw [if_neg (by intro h; exact nomatch h)]; (with_reducible refine hK _ ?_); clear hK K) | (apply Exists.intro; (with_reducible refine ⟨fun _ => ?_, hK _ ?_⟩); (first | with_reducible exact KI.out _ _ | with_reducible exact KS.out _ _); clear hK K))
      with_reducible refine wpQuiet_nil ?_
      intro _ hw'
      obtain ⟨⟨dq, osq⟩, hw''⟩ := hw'
      subst hw''
      have g := below_regrown W3 dq osq
      have G4 := grow_next G3 g
      generalize grow (redrawn W3 dq) osq = W4 at *
      clear KI KS kz Z3 G3 R3 g
      go_wp2_with fail
      go_returns
      exact ⟨rfl, G4⟩
    | true =>
      go_wp2_with fail
      refine wp_region_quiet_below (by kernel_rfl) (by kernel_rfl) ?_
      repeat ((with_reducible refine wpQuiet_step (fun K hK => ?_)); go_simp; first | ((with_reducible refine hK _ ?_); clear hK K) | (rw [if_neg (by intro h; exact nomatch h)]; (with_reducible refine hK _ ?_); clear hK K) | (apply Exists.intro; (with_reducible refine ⟨fun _ => ?_, hK _ ?_⟩); (first | with_reducible exact KI.out _ _ | with_reducible exact KS.out _ _); clear hK K))
      with_reducible refine wpQuiet_nil ?_
      intro _ hw'
      obtain ⟨⟨dq, osq⟩, hw''⟩ := hw'
      subst hw''
      have g := below_regrown W2 dq osq
      have Z3 := blk_next g Z2
      have G3 := grow_next G2 g
      have R3 := R2.next g
      generalize grow (redrawn W2 dq) osq = W3 at *
      clear KI KS kz Z2 G2 R2 g HL HS
      go_wp2_with fail
      go_loopw [6] (fun i wr => ∃ k : Nat, k ≤ m ∧ i = .int .i64 k ∧ Below W3.heap.size W3 wr) (fun i _ => m - (RowKit.intOf i).toNat)
      case atStart => exact ⟨0, Nat.zero_le _, rfl, Below.refl _ _⟩
      case round =>
        obtain ⟨k, hk, rfl, hb⟩ := hrel
        have Z := blk_next hb Z3
        have hR := R3.next hb
        have hG := grow_next G3 hb
        obtain ⟨z0, _⟩ := one_cell Z
        by_cases hlt : k < m
        · obtain ⟨v, hv⟩ := getC (l := l) (k := k) (by rw [← HM.out]; exact hlt)
          have HV := Lib.hid hv
          obtain ⟨b, off, rfl, hbB, d0, d1, d2⟩ := hR.at_ hv
          have hck := (limOk_iff.1 HO.out).2.1 v (List.mem_of_getElem? hv)
          unfold clOk at hck
          rw [Bool.and_eq_true, Bool.and_eq_true, inB_iff, inB_iff, inB_iff] at hck
          obtain ⟨⟨⟨i0, i1⟩, n0, n1⟩, s0, s1⟩ := hck
          clear hv
          have hkn : (k : Int) < (m : Int) := by omega
          have hw20 : IntKind.i64.wrap (v.last + 20) = v.last + 20 := IntWalk.i64_in _ (by omega)
          have Zc := blk_alloc Z (.cells #[.int .i64 v.id, .int .i64 v.last, .int .i64 v.score] 52)
          have Vc := blk_new wr (.cells #[.int .i64 v.id, .int .i64 v.last, .int .i64 v.score] 52)
          have Rc := hR.next (below_new wr (.cells #[.int .i64 v.id, .int .i64 v.last, .int .i64 v.score] 52))
          have Bc := hb.alloc hb.size (.cells #[.int .i64 v.id, .int .i64 v.last, .int .i64 v.score] 52)
          go_upto_region 10 with (fail)
          obtain ⟨w5, hw5⟩ : ∃ W, W = wr.alloc (.cells #[.int .i64 v.id, .int .i64 v.last, .int .i64 v.score] 52) := ⟨_, rfl⟩
          obtain ⟨q, hq⟩ : ∃ p, wr.heap.size = p := ⟨_, rfl⟩
          rw [hq] at Vc
          rw [← hw5] at Zc Vc Rc Bc
          rw [← hw5]
          try rw [hq]
          clear hw5 hq d0 d1 d2 z0 hbB hR Z
          obtain ⟨z0, _⟩ := one_cell Zc
          obtain ⟨⟨e0, e1, e2⟩, _⟩ := three_cells Vc
          go_wp2_with fail
          refine (HC.out v.id (v.last + 20) _ Rc).mono ?_
          rintro e w6 ⟨y6, c6, rfl, hr6, hb6⟩
          have Bd := grow_next Bc hb6
          have Vd := blk_next hb6 Vc
          by_cases hgt : v.last + 20 ≤ 1000000000
          · obtain ⟨L, hL, hs, hll⟩ := HR.out HO.out k v HV.out hgt
            have r1 : resC (camV l v.id (v.last + 20)) = L := by rw [hL]; rfl
            have r2 : toldC (camV l v.id (v.last + 20)) = 0 := by rw [hL]; rfl
            have r3 : (camV l v.id (v.last + 20)).isSome = true := by rw [hL]; rfl
            rw [r1] at hr6
            rw [r1, r2, r3]
            obtain ⟨M, hM⟩ : ∃ M, M = L.length := ⟨_, rfl⟩
            have HML := Lib.hid hM
            rw [← hM] at hll ⊢
            have hgt' : ¬ (1000000000 : Int) < v.last + 20 := by omega
            have Ve := blk_alloc Vd (.cells #[.slice y6 M c6] 28)
            have Ze := blk_new w6 (.cells #[.slice y6 M c6] 28)
            have Re := (hr6.next (below_new w6 (.cells #[.slice y6 M c6] 28))).cls
            have Be := Bd.alloc Bd.size (.cells #[.slice y6 M c6] 28)
            have HSC := Lib.hid (fun w h => score_c L M HML.out (by unfold maxLen; omega) v.id y6 c6 w h)
            rw [hs] at HSC
            clear r1 r2 r3 hL hM hgt hs hr6 hb6 Vd Bd Rc Bc Zc Vc z0 e0 e1 e2
            go_upto_region 11 with (fail)
            obtain ⟨w7, hw7⟩ : ∃ W, W = w6.alloc (.cells #[.slice y6 M c6] 28) := ⟨_, rfl⟩
            obtain ⟨r, hr⟩ : ∃ p, w6.heap.size = p := ⟨_, rfl⟩
            rw [hr] at Ze
            rw [← hw7] at Ve Ze Re Be
            rw [← hw7]
            try rw [hr]
            clear hw7 hr
            obtain ⟨z1, _⟩ := one_cell Ze
            obtain ⟨⟨e0, e1, e2⟩, _⟩ := three_cells Ve
            go_wp2_with fail
            refine (HSC.out _ Re).mono ?_
            rintro e w8 ⟨rfl, hb8⟩
            go_wp2_with fail
            go_roundw
            case rel => exact ⟨k + 1, by omega, by go_num, grow_next Be hb8⟩
            case measure => simp [RowKit.intOf]; omega
          · have hgt' : (1000000000 : Int) < v.last + 20 := by omega
            obtain ⟨M, hM⟩ : ∃ M, (resC (camV l v.id (v.last + 20))).length = M := ⟨_, rfl⟩
            obtain ⟨tt, htt⟩ : ∃ tt, toldC (camV l v.id (v.last + 20)) = tt := ⟨_, rfl⟩
            obtain ⟨ii, hii⟩ : ∃ ii, (camV l v.id (v.last + 20)).isSome = ii := ⟨_, rfl⟩
            rw [hM, htt, hii]
            have Ve := blk_alloc Vd (.cells #[.slice y6 M c6] 28)
            have Be := Bd.alloc Bd.size (.cells #[.slice y6 M c6] 28)
            clear hM htt hii hgt hr6 hb6 Vd Bd Rc Bc Zc Vc z0 e0 e1 e2
            go_upto_region 11 with (fail)
            obtain ⟨w7, hw7⟩ : ∃ W, W = w6.alloc (.cells #[.slice y6 M c6] 28) := ⟨_, rfl⟩
            rw [← hw7] at Ve Be
            rw [← hw7]
            clear hw7
            obtain ⟨⟨e0, e1, e2⟩, _⟩ := three_cells Ve
            go_wp2_with fail
            go_roundw
            case rel => exact ⟨k + 1, by omega, by go_num, Be⟩
            case measure => simp [RowKit.intOf]; omega
        · have hkn : ¬ (k : Int) < (m : Int) := by omega
          go_wp2_with fail
          go_returns
          exact ⟨rfl, hG⟩
  · have hbi : decide ((1048576 : Int) < (n : Int)) = true := decide_eq_true (by omega)
    go_enter Try.func10, Try.ntmps10
    go_wp2_with (go_at_call 26; go_in)
    go_returns
    exact ⟨rfl, Below.refl _ _⟩
set_option maxRecDepth 100000 in
theorem rest_lifted (os : Os) (started : os.Started) (H : Type) (enc : TypeId × Value → H) :
    ReturnsInHanded {} Try.checked os 10 .any (Rows.fnRestedSpec.pre6 enc Try.prog Try.f10 Rows.fnRestedRow.domain false) (Rows.fnRestedSpec.post enc Try.prog Try.f10 false true false false) := by
  refine lifted_of_walk (C := Try.checked) own started (by as_aux_lemma => kernel_rfl) Try.func10
    (ChangeSpec.witness6 (enc := enc) (C := Try.checked) false ⟨#[], #[.slice none 0 0], []⟩ 8 (by as_aux_lemma => kernel_rfl) (by as_aux_lemma => kernel_rfl) (by as_aux_lemma => kernel_rfl) (by as_aux_lemma => kernel_rfl) (by as_aux_lemma => kernel_rfl))
    laidOut rfl (by as_aux_lemma => kernel_rfl) (by as_aux_lemma => kernel_rfl) boolType
    (fun ds h => by
      match ds, h with
      | [_], _ => rfl)
    ?_
  intro W base args ds q hval hA
  rw [Try.params10] at hA hval
  obtain ⟨v0, vs0, d0, ds0, p0, q0, hargs, rfl, rfl, h0, r0⟩ := trodAll_cons hA
  obtain ⟨rfl, rfl, rfl⟩ := trodAll_nil r0
  obtain rfl : args = #[v0] := by cases args; simp_all
  obtain ⟨a0, len0, cap0, z0, rfl, w0⟩ := open_bytes Try.underlying45 Try.underlying5 (by as_aux_lemma => kernel_rfl) (hval 0 45 v0 rfl rfl) h0
  exact rest_walk W a0 len0 cap0 z0 w0

set_option maxHeartbeats 4000000 in
theorem rest_facts : joinedFacts Try.pinned.checked.prog 10 Try.f10 Rows.fnRestedSpec Rows.fnRestedRow = true :=
  facts_of (P := Try.prog) (by as_aux_lemma => kernel_rfl) laidOut mapsRow (by as_aux_lemma => kernel_rfl) (by as_aux_lemma => kernel_rfl) rfl noStops rfl noKnobs (by as_aux_lemma => kernel_rfl) (by as_aux_lemma => kernel_rfl) (by as_aux_lemma => kernel_rfl) (by as_aux_lemma => kernel_rfl) (by as_aux_lemma => kernel_rfl) (by as_aux_lemma => kernel_rfl) (by as_aux_lemma => kernel_rfl) (by as_aux_lemma => kernel_rfl) (by as_aux_lemma => kernel_rfl) rfl (by as_aux_lemma => kernel_rfl) (by as_aux_lemma => kernel_rfl) (by as_aux_lemma => kernel_rfl) keysPlain rfl heard enters finals isMake rfl rfl rfl (by as_aux_lemma => kernel_rfl) (by as_aux_lemma => kernel_rfl)

/-- The given statement. -/
theorem rest_holds : Rows.FnRestedSaid :=
  OpenClaim.holds_of_wide 10 Try.f10 rfl rfl rfl rfl rfl rfl rfl ⟨rfl, rfl, rfl, rfl, rfl⟩ rfl rfl rfl rfl rfl (by as_aux_lemma => kernel_rfl) Try.func10 rest_facts
    (of_decide_eq_true (by as_aux_lemma => kernel_rfl)) (by unfold Func.isWrapper; first | (rw [if_pos (by decide +kernel)]; kernel_rfl) | (rw [if_neg (by decide +kernel)]; exact ⟨rfl, rfl⟩))
    (fun os started H enc _ => rest_lifted os started H enc)
#print axioms rest_holds
end Go.Proofs.Ytckonbbdeohccaa
