/- What is slewed is less and less, never beyond nought; two times are one: at all drawn clocks and times. -/
import Derived.Test.YtlabmnfmijbpfaaCkSlewI
import Derived.Test.YtlabmnfmijbpfaaCkDraws
import Derived.Lib.QuietBelow
namespace Go.Proofs.Ytlabmnfmijbpfaa
open Go.ChangeShapes Go.WideShapes Go.ChangeAt Go.RowKit
set_option linter.unusedVariables false
set_option linter.unusedSimpArgs false

/-- Two times are one. -/
theorem slew_two {c : Ck} {g h : Int} (hc : c.ok = true) (g0 : 0 ≤ g) (g1 : g ≤ 100000) (h0 : 0 ≤ h) (h1 : h ≤ g) :
    slewOk c g = true ∧ slewOk c h = true ∧ slewOk (slewV c h) (g - h) = true ∧ slewV (slewV c h) (g - h) = slewV c g ∧ slewnV c h + slewnV (slewV c h) (g - h) = slewnV c g ∧ (slewV c g).ok = true := by
  have k1 : slewOk c g = true := slewOk_iff.2 ⟨hc, g0, g1⟩
  have k2 : slewOk c h = true := slewOk_iff.2 ⟨hc, h0, by omega⟩
  obtain ⟨s, ⟨o0, o1⟩, ⟨f0, f1⟩, p, a⟩ := Ck.ok_iff.1 hc
  have d1 := clampV_of (n := c.off) (m := 500 * g) (by omega)
  have d2 := clampV_of (n := c.off) (m := 500 * h) (by omega)
  obtain ⟨x, hx⟩ : ∃ x, clampV c.off (500 * h) = x := ⟨_, rfl⟩
  obtain ⟨y, hy⟩ : ∃ y, clampV c.off (500 * g) = y := ⟨_, rfl⟩
  have d3 := clampV_of (n := c.off - x) (m := 500 * (g - h)) (by omega)
  obtain ⟨z, hz⟩ : ∃ z, clampV (c.off - x) (500 * (g - h)) = z := ⟨_, rfl⟩
  rw [hx] at d2
  rw [hy] at d1
  rw [hz] at d3
  obtain ⟨e1, e2⟩ := slewV_yes k1
  obtain ⟨e3, e4⟩ := slewV_yes k2
  rw [hy] at e1 e2
  rw [hx] at e3 e4
  have okx : (slewV c h).ok = true := by
    rw [e3, Ck.ok_iff]
    dsimp only
    omega
  have oky : (slewV c g).ok = true := by
    rw [e1, Ck.ok_iff]
    dsimp only
    omega
  have k3 : slewOk (slewV c h) (g - h) = true := slewOk_iff.2 ⟨okx, by omega, by omega⟩
  obtain ⟨e5, e6⟩ := slewV_yes k3
  rw [e3] at e5 e6
  dsimp only at e5 e6
  rw [hz] at e5 e6
  refine ⟨k1, k2, k3, ?_, ?_, oky⟩
  · rw [e3, e5, e1]
    exact Ck.same rfl (by dsimp only; omega) rfl rfl rfl
  · rw [e4, e2]
    rw [e3, e6]
    have : c.fr * h + c.fr * (g - h) = c.fr * g := by rw [← Int.mul_add]; congr 1; omega
    omega
/-- Less and less, never beyond nought. -/
theorem slew_less {c : Ck} {g : Int} (h : slewOk c g = true) : max (slewV c g).off (-(slewV c g).off) ≤ max c.off (-c.off) ∧ ((slewV c g).off = 0 ∨ ((slewV c g).off < 0 ↔ c.off < 0)) ∧ slewnV c g = c.off - (slewV c g).off + c.fr * g := by
  obtain ⟨hc, g0, g1⟩ := slewOk_iff.1 h
  obtain ⟨e1, e2⟩ := slewV_yes h
  have d1 := clampV_of (n := c.off) (m := 500 * g) (by omega)
  rw [e1, e2]
  dsimp only
  omega

theorem abs_c (n : Int) (h0 : -4611686018427387904 ≤ n) (h1 : n ≤ 4611686018427387904) (w : World) :
    Calls Try.prog 19 #[.int .i64 n] w fun e w' => e = .returned (.int .i64 (max n (-n))) ∧ w = w' := by
  go_enter Try.func19, Try.ntmps19
  go_wp2
  all_goals
    go_returns
    exact ⟨ret_num (by omega), rfl⟩
theorem abs_dec {n p : Int} (h0 : -4611686018427387904 ≤ n) (h1 : n ≤ 4611686018427387904) (hp : max n (-n) = p) (w : World) :
    Calls Try.prog 19 #[.int .i64 n] w fun e w' => e = .returned (.int .i64 p) ∧ Below w.heap.size w w' := (abs_c n h0 h1 w).mono fun _ _ ⟨he, hw⟩ => ⟨hp ▸ he, hw ▸ Below.refl _ _⟩

theorem slew_num {c : Ck} {g : Int} (h : slewOk c g = true) : -60000000 ≤ slewnV c g ∧ slewnV c g ≤ 60000000 := by
  obtain ⟨hc, g0, g1⟩ := slewOk_iff.1 h
  obtain ⟨_, o, ⟨r0, r1⟩, _⟩ := Ck.ok_iff.1 hc
  have hb := fr_bounds r0 r1 g0 g1
  have d := clampV_of (n := c.off) (m := 500 * g) (by omega)
  rw [(slewV_yes h).2]
  omega

set_option maxHeartbeats 4000000 in
set_option maxRecDepth 100000 in
theorem slewFn_walk (w : World) (x : Option Addr) (n cap z : Nat) (hz : z = n ∧ Code w.heap.size w (.slice x n cap) n) :
    Calls Try.prog 5 #[.slice x n cap] w fun e w' => e = .returned (.bool true) ∧ Below w.heap.size w w' := by
  obtain ⟨_, hc⟩ := hz
  by_cases hbig : n ≤ 1048576
  · go_enter Try.func5, Try.ntmps5
    go_wp2_with (go_at_call 12; go_in)
    refine (drawSlewed_c x n cap _ hc hbig).mono ?_
    rintro e w1 ⟨c, g, g0, g1, rfl, hb1⟩
    have hS := slewed_spec c g
    have hI := slewed_impl c g
    obtain ⟨v, hv⟩ : ∃ v, slewV c g = v := ⟨_, rfl⟩
    obtain ⟨m, hm⟩ : ∃ m, slewnV c g = m := ⟨_, rfl⟩
    obtain ⟨b, hb⟩ : ∃ b, slewOk c g = b := ⟨_, rfl⟩
    rw [hv, hm, hb] at hS hI
    have HS := Lib.hid hS
    have HI := Lib.hid hI
    have HV := Lib.hid hv
    have HM := Lib.hid hm
    have HB := Lib.hid hb
    clear hS hI hv hm hb
    have P1 := blk_new w1 (.cells #[.int .i64 c.st, .int .i64 c.off, .int .i64 c.fr, .int .i64 c.poll, .int .i64 c.calm] 25)
    have G1 : Below w.heap.size w (w1.alloc (.cells #[.int .i64 c.st, .int .i64 c.off, .int .i64 c.fr, .int .i64 c.poll, .int .i64 c.calm] 25)) := hb1.alloc (by have := hb1.size; omega) _
    go_wp2_with fail
    refine (HI.out _).mono ?_
    rintro e w2 ⟨rfl, hb2⟩
    have Q1 := blk_next hb2 P1
    have X := ck_cells Q1
    have G2 := grow_next G1 hb2
    have l1 := (Array.getElem?_eq_some_iff.1 Q1).1
    have P2 := blk_new w2 (.cells #[.int .i64 v.st, .int .i64 v.off, .int .i64 v.fr, .int .i64 v.poll, .int .i64 v.calm] 25)
    have G3 : Below w.heap.size w (w2.alloc (.cells #[.int .i64 v.st, .int .i64 v.off, .int .i64 v.fr, .int .i64 v.poll, .int .i64 v.calm] 25)) := G2.alloc (by have := G2.size; omega) _
    go_wp2_with fail
    refine (HS.out _).mono ?_
    rintro e w3 ⟨rfl, hb3⟩
    have R1 := blk_next hb3 (blk_alloc Q1 (.cells #[.int .i64 v.st, .int .i64 v.off, .int .i64 v.fr, .int .i64 v.poll, .int .i64 v.calm] 25))
    have Q2 := blk_next hb3 P2
    clear X l1
    have X := ck_cells R1
    have Y := ck_cells Q2
    have G4 := grow_next G3 hb3
    have l1 := (Array.getElem?_eq_some_iff.1 R1).1
    have l2 := (Array.getElem?_eq_some_iff.1 Q2).1
    have S1 := blk_alloc R1 (.cells #[.int .i64 v.st, .int .i64 v.off, .int .i64 v.fr, .int .i64 v.poll, .int .i64 v.calm] 25)
    have S2 := blk_alloc Q2 (.cells #[.int .i64 v.st, .int .i64 v.off, .int .i64 v.fr, .int .i64 v.poll, .int .i64 v.calm] 25)
    have G5 : Below w.heap.size w (w3.alloc (.cells #[.int .i64 v.st, .int .i64 v.off, .int .i64 v.fr, .int .i64 v.poll, .int .i64 v.calm] 25)) := G4.alloc (by have := G4.size; omega) _
    clear P1 G1 Q1 G2 P2 G3 hb1 hb2 hb3 G4 HI HS R1 Q2
    cases b with
    | false =>
      clear HV HM HB
      go_wp2_with fail
      go_returns
      exact ⟨rfl, G5⟩
    | true =>
      have hk := HB.out
      have hcok := (slewOk_iff.1 hk).1
      obtain ⟨k1, k2, k3, k4, k5, k6⟩ := slew_two (h := g / 2) hcok g0 (by omega) (by omega) (by omega)
      obtain ⟨f1, f2, f3⟩ := slew_less hk
      have hI1 := slewed_impl c (g / 2)
      have hI2 := slewed_impl (slewV c (g / 2)) (g - g / 2)
      have n1 := slew_num k2
      have n2 := slew_num k3
      rw [k3, k4] at hI2
      rw [k2] at hI1
      obtain ⟨v2, hv2⟩ : ∃ v2, slewV c (g / 2) = v2 := ⟨_, rfl⟩
      obtain ⟨m2, hm2⟩ : ∃ m2, slewnV c (g / 2) = m2 := ⟨_, rfl⟩
      rw [hv2, hm2] at hI1
      rw [hv2] at hI2 n2 k5
      obtain ⟨m3, hm3⟩ : ∃ m3, slewnV v2 (g - g / 2) = m3 := ⟨_, rfl⟩
      rw [hm3] at hI2 n2 k5
      rw [hm2] at n1 k5
      rw [HV.out] at f1 f2 f3 hI2 k6
      rw [HM.out] at f3 k5
      subst k5
      obtain ⟨_, ⟨o0, o1⟩, ⟨r0, r1⟩, _⟩ := Ck.ok_iff.1 hcok
      obtain ⟨_, ⟨u0, u1⟩, _⟩ := Ck.ok_iff.1 k6
      have hb' := fr_bounds r0 r1 g0 (show g ≤ 100000 by omega)
      obtain ⟨p1, hp1⟩ : ∃ p, max v.off (-v.off) = p := ⟨_, rfl⟩
      obtain ⟨p2, hp2⟩ : ∃ p, max c.off (-c.off) = p := ⟨_, rfl⟩
      have A1 := Lib.hid (fun w => abs_dec (by omega) (by omega) hp1 w)
      have A2 := Lib.hid (fun w => abs_dec (by omega) (by omega) hp2 w)
      rw [hp1, hp2] at f1
      obtain ⟨dd, hdd⟩ : ∃ p, p = c.off - v.off := ⟨_, rfl⟩
      obtain ⟨q, hq⟩ : ∃ q, q = c.fr * g := ⟨_, rfl⟩
      have W1 := Lib.hid (show IntKind.i64.wrap (c.off - v.off) = dd by rw [hdd]; exact IntWalk.i64_in _ (by omega))
      have W2 := Lib.hid (show IntKind.i64.wrap (c.fr * g) = q by rw [hq]; exact IntWalk.i64_in _ (by omega))
      have W3 := Lib.hid (show IntKind.i64.wrap (dd + q) = m2 + m3 by rw [f3, hdd, hq]; exact IntWalk.i64_in _ (by omega))
      have HI1 := Lib.hid hI1
      have HI2 := Lib.hid hI2
      have HO := Lib.hid (fun w => (show Calls Try.prog 17 #[.agg #[.int .i64 v.st, .int .i64 v.off, .int .i64 v.fr, .int .i64 v.poll, .int .i64 v.calm]] w fun e w' => e = .returned (.bool true) ∧ Below w.heap.size w w' from k6 ▸ clockOk_impl v w))
      have FF := Lib.hid (show decide (p1 ≤ p2) = true from by simpa using f1)
      have hsign := f2
      obtain ⟨n10, n11⟩ := n1
      obtain ⟨n20, n21⟩ := n2
      clear hI1 hI2 hv2 hm2 hm3 hdd hq hb' f1 f2 f3 k1 k2 k3 k4 k6 hk hcok hp1 hp2 HV HM HB u0 u1 r0 r1 o0 o1
      have HSG := Lib.hid hsign
      clear hsign
      go_wp2_with fail
      refine (HI1.out _).mono ?_
      rintro e w4 ⟨rfl, hb4⟩
      have T1 := blk_next hb4 S1
      have T2 := blk_next hb4 S2
      have G6 := grow_next G5 hb4
      have P4 := blk_new w4 (.cells #[.int .i64 v2.st, .int .i64 v2.off, .int .i64 v2.fr, .int .i64 v2.poll, .int .i64 v2.calm] 25)
      have U1 := blk_alloc T1 (.cells #[.int .i64 v2.st, .int .i64 v2.off, .int .i64 v2.fr, .int .i64 v2.poll, .int .i64 v2.calm] 25)
      have U2 := blk_alloc T2 (.cells #[.int .i64 v2.st, .int .i64 v2.off, .int .i64 v2.fr, .int .i64 v2.poll, .int .i64 v2.calm] 25)
      have G7 : Below w.heap.size w (w4.alloc (.cells #[.int .i64 v2.st, .int .i64 v2.off, .int .i64 v2.fr, .int .i64 v2.poll, .int .i64 v2.calm] 25)) := G6.alloc (by have := G6.size; omega) _
      clear X Y l1 l2 S1 S2 T1 T2 G5 G6 hb4
      go_wp2_with fail
      refine (HI2.out _).mono ?_
      rintro e w5 ⟨rfl, hb5⟩
      have V1 := blk_next hb5 U1
      have V2 := blk_next hb5 U2
      have G8 := grow_next G7 hb5
      have l1 := (Array.getElem?_eq_some_iff.1 V1).1
      have l2 := (Array.getElem?_eq_some_iff.1 V2).1
      have X := ck_cells V1
      have Y := ck_cells V2
      have S1 := blk_alloc V1 (.cells #[.int .i64 v.st, .int .i64 v.off, .int .i64 v.fr, .int .i64 v.poll, .int .i64 v.calm] 25)
      have S2 := blk_alloc V2 (.cells #[.int .i64 v.st, .int .i64 v.off, .int .i64 v.fr, .int .i64 v.poll, .int .i64 v.calm] 25)
      have G9 : Below w.heap.size w (w5.alloc (.cells #[.int .i64 v.st, .int .i64 v.off, .int .i64 v.fr, .int .i64 v.poll, .int .i64 v.calm] 25)) := G8.alloc (by have := G8.size; omega) _
      clear U1 U2 V1 V2 G7 G8 hb5 P4 HI1 HI2
      go_wp2_with fail
      refine (HO.out _).mono ?_
      rintro e w6 ⟨rfl, hb6⟩
      have T1 := blk_next hb6 S1
      have T2 := blk_next hb6 S2
      have G := grow_next G9 hb6
      have C1 := ck_cells T1
      have C2 := ck_cells T2
      have k0 := cell_regrown C1.2.1
      have k1 := cell_regrown C1.2.2.1
      have k2 := cell_regrown C2.2.1
      have hw1 := W1.out
      have hw2 := W2.out
      have hw3 := W3.out
      have hff := FF.out
      clear X Y S1 S2 G9 hb6 l1 l2 T1 T2 C1 C2
      have B1 := Lib.hid (fun d os => Calls.regrown_of (A1.out (Go.Sort.grow (redrawn w6 d) os)))
      have B2 := Lib.hid (fun d os => Calls.regrown_of (A2.out (Go.Sort.grow (redrawn w6 d) os)))
      rcases (show (v.off = 0) ∨ (v.off < 0 ∧ c.off < 0) ∨ (¬ v.off = 0 ∧ ¬ v.off < 0 ∧ ¬ c.off < 0) by have := HSG.out; omega) with s1 | ⟨s1, s2⟩ | ⟨s0, s1, s2⟩
      · have hs1 : ((v.off : Int) == 0) = true := by simpa using s1
        clear s1
        go_wp2_with fail
        refine wp_region_quiet_below (by kernel_rfl) (by kernel_rfl) ?_
        repeat ((with_reducible refine wpQuiet_step (fun K hK => ?_)); go_simp; first | ((with_reducible refine hK _ ?_); clear hK K) | (rw [if_neg (by intro h; exact nomatch h)]; (with_reducible refine hK _ ?_); clear hK K) | (apply Exists.intro; (with_reducible refine ⟨fun _ => ?_, hK _ ?_⟩); (first | with_reducible exact B1.out _ _ | with_reducible exact B2.out _ _); clear hK K))
        with_reducible refine wpQuiet_nil ?_
        intro _ hw'
        obtain ⟨⟨dq, osq⟩, hw''⟩ := hw'
        subst hw''
        have g1 := grow_next G (below_regrown w6 dq osq)
        go_wp2_with fail
        go_returns
        exact ⟨rfl, g1⟩
      · have hs0 : ((v.off : Int) == 0) = false := by simp; omega
        have hs1 : decide (v.off < 0) = true := by simpa using s1
        have hs2 : decide (c.off < 0) = true := by simpa using s2
        clear s1 s2
        go_wp2_with fail
        refine wp_region_quiet_below (by kernel_rfl) (by kernel_rfl) ?_
        repeat ((with_reducible refine wpQuiet_step (fun K hK => ?_)); go_simp; first | ((with_reducible refine hK _ ?_); clear hK K) | (rw [if_neg (by intro h; exact nomatch h)]; (with_reducible refine hK _ ?_); clear hK K) | (apply Exists.intro; (with_reducible refine ⟨fun _ => ?_, hK _ ?_⟩); (first | with_reducible exact B1.out _ _ | with_reducible exact B2.out _ _); clear hK K))
        with_reducible refine wpQuiet_nil ?_
        intro _ hw'
        obtain ⟨⟨dq, osq⟩, hw''⟩ := hw'
        subst hw''
        have g1 := grow_next G (below_regrown w6 dq osq)
        go_wp2_with fail
        go_returns
        exact ⟨rfl, g1⟩
      · have hs0 : ((v.off : Int) == 0) = false := by simp; omega
        have hs1 : decide (v.off < 0) = false := by simpa using s1
        have hs2 : decide (c.off < 0) = false := by simpa using s2
        clear s0 s1 s2
        go_wp2_with fail
        refine wp_region_quiet_below (by kernel_rfl) (by kernel_rfl) ?_
        repeat ((with_reducible refine wpQuiet_step (fun K hK => ?_)); go_simp; first | ((with_reducible refine hK _ ?_); clear hK K) | (rw [if_neg (by intro h; exact nomatch h)]; (with_reducible refine hK _ ?_); clear hK K) | (apply Exists.intro; (with_reducible refine ⟨fun _ => ?_, hK _ ?_⟩); (first | with_reducible exact B1.out _ _ | with_reducible exact B2.out _ _); clear hK K))
        with_reducible refine wpQuiet_nil ?_
        intro _ hw'
        obtain ⟨⟨dq, osq⟩, hw''⟩ := hw'
        subst hw''
        have g1 := grow_next G (below_regrown w6 dq osq)
        go_wp2_with fail
        go_returns
        exact ⟨rfl, g1⟩
  · go_enter Try.func5, Try.ntmps5
    go_wp2_with (go_at_call 12; go_in)
    go_returns
    exact ⟨rfl, Below.refl _ _⟩

set_option maxRecDepth 100000 in
theorem slewFn_lifted (os : Os) (started : os.Started) (H : Type) (enc : TypeId × Value → H) :
    ReturnsInHanded {} Try.checked os 5 .any (Rows.fnSlewedSpec.pre6 enc Try.prog Try.f5 Rows.fnSlewedRow.domain false) (Rows.fnSlewedSpec.post enc Try.prog Try.f5 false true false false) := by
  refine lifted_of_walk (C := Try.checked) own started (by as_aux_lemma => kernel_rfl) Try.func5
    (ChangeSpec.witness6 (enc := enc) (C := Try.checked) false ⟨#[], #[.slice none 0 0], []⟩ 8 (by as_aux_lemma => kernel_rfl) (by as_aux_lemma => kernel_rfl) (by as_aux_lemma => kernel_rfl) (by as_aux_lemma => kernel_rfl) (by as_aux_lemma => kernel_rfl))
    laidOut rfl (by as_aux_lemma => kernel_rfl) (by as_aux_lemma => kernel_rfl) boolType
    (fun ds h => by
      match ds, h with
      | [_], _ => rfl)
    ?_
  intro W base args ds q hval hA
  rw [Try.params5] at hA hval
  obtain ⟨v0, vs0, d0, ds0, p0, q0, hargs, rfl, rfl, h0, r0⟩ := trodAll_cons hA
  obtain ⟨rfl, rfl, rfl⟩ := trodAll_nil r0
  obtain rfl : args = #[v0] := by cases args; simp_all
  obtain ⟨a0, len0, cap0, z0, rfl, w0⟩ := open_bytes Try.underlying22 Try.underlying5 (by as_aux_lemma => kernel_rfl) (hval 0 22 v0 rfl rfl) h0
  exact slewFn_walk W a0 len0 cap0 z0 w0

theorem slewFn_facts : joinedFacts Try.pinned.checked.prog 5 Try.f5 Rows.fnSlewedSpec Rows.fnSlewedRow = true :=
  facts_of (P := Try.prog) (by as_aux_lemma => kernel_rfl) laidOut mapsRow (by as_aux_lemma => kernel_rfl) (by as_aux_lemma => kernel_rfl) rfl noStops rfl noKnobs (by as_aux_lemma => kernel_rfl) (by as_aux_lemma => kernel_rfl) (by as_aux_lemma => kernel_rfl) (by as_aux_lemma => kernel_rfl) (by as_aux_lemma => kernel_rfl) (by as_aux_lemma => kernel_rfl) (by as_aux_lemma => kernel_rfl) (by as_aux_lemma => kernel_rfl) (by as_aux_lemma => kernel_rfl) rfl (by as_aux_lemma => kernel_rfl) (by as_aux_lemma => kernel_rfl) (by as_aux_lemma => kernel_rfl) keysPlain rfl heard enters finals isMake rfl rfl rfl (by as_aux_lemma => kernel_rfl) (by as_aux_lemma => kernel_rfl)

/-- The given statement. -/
theorem slewFn_holds : Rows.FnSlewedSaid :=
  OpenClaim.holds_of_wide 5 Try.f5 rfl rfl rfl rfl rfl rfl rfl ⟨rfl, rfl, rfl, rfl, rfl⟩ rfl rfl rfl rfl rfl (by as_aux_lemma => kernel_rfl) Try.func5 slewFn_facts
    (of_decide_eq_true (by as_aux_lemma => kernel_rfl)) (by unfold Func.isWrapper; first | (rw [if_pos (by decide +kernel)]; kernel_rfl) | (rw [if_neg (by decide +kernel)]; exact ⟨rfl, rfl⟩))
    (fun os started H enc _ => slewFn_lifted os started H enc)
#print axioms slewFn_holds
end Go.Proofs.Ytlabmnfmijbpfaa
