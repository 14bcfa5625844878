/- A small offset is what is to be slewed; a great one is first passed over, then stepped, as it is; the rate and the poll stay within their bounds: at all drawn clocks, offsets and gaps. -/
import Derived.Test.YtlabmnfmijbpfaaCkAdjI
import Derived.Test.YtlabmnfmijbpfaaCkAdjS
import Derived.Test.YtlabmnfmijbpfaaCkDraws
import Derived.Test.YtlabmnfmijbpfaaSlewFn
import Derived.Lib.QuietBelow
namespace Go.Proofs.Ytlabmnfmijbpfaa
open Go.ChangeShapes Go.WideShapes Go.ChangeAt Go.RowKit
set_option linter.unusedVariables false
set_option linter.unusedSimpArgs false

theorem polled_facts {c : Ck} (hc : c.ok = true) (o : Int) : (polled c o).off = c.off ∧ (polled c o).st = c.st ∧ -1 ≤ (polled c o).poll - c.poll ∧ (polled c o).poll - c.poll ≤ 1 := by
  obtain ⟨_, _, _, p, _⟩ := Ck.ok_iff.1 hc
  unfold polled
  split
  · refine ⟨rfl, rfl, ?_, ?_⟩ <;> (dsimp only; omega)
  · split
    · split <;> (refine ⟨rfl, rfl, ?_, ?_⟩ <;> (dsimp only; omega))
    · exact ⟨rfl, rfl, by omega, by omega⟩
theorem adj_small {c : Ck} {o g : Int} (h : adjOk c o g = true) (hu : unB o 128000 = true) :
    (adjV c o g).off = o ∧ (adjV c o g).st = 1 ∧ -1 ≤ (adjV c o g).poll - c.poll ∧ (adjV c o g).poll - c.poll ≤ 1 ∧ stepV c o g = 0 := by
  obtain ⟨hc, _⟩ := adjOk_iff.1 h
  obtain ⟨_, _, f, p, a⟩ := Ck.ok_iff.1 hc
  have e1 : adjV c o g = followedV c o g := by unfold adjV; rw [h, hu]; rfl
  have e2 : stepV c o g = 0 := by unfold stepV; rw [h, hu]; rfl
  have hb := clampV_bounds (c.fr + Int.tdiv o (16 * g)) (show (0 : Int) ≤ 500 by omega)
  have ho := unB_iff.1 hu
  have hq := polled_facts (c := ⟨1, o, rateV c o g, c.poll, c.calm⟩) (Ck.ok_iff.2 (by dsimp only [rateV]; omega)) o
  rw [e1, e2]
  exact ⟨hq.1, hq.2.1, hq.2.2.1, hq.2.2.2, rfl⟩
theorem adj_great {c : Ck} {o g : Int} (h : adjOk c o g = true) (hu : unB o 128000 = false) :
    (c.st = 1 ∧ adjV c o g = ⟨2, c.off, c.fr, c.poll, c.calm⟩ ∧ stepV c o g = 0) ∨ (¬ c.st = 1 ∧ adjV c o g = ⟨1, 0, c.fr, 4, 0⟩ ∧ stepV c o g = o) := by
  have e1 : adjV c o g = greatV c := by unfold adjV; rw [h, hu]; rfl
  have e2 : stepV c o g = if c.st = 1 then 0 else o := by unfold stepV; rw [h, hu]; rfl
  rw [e1, e2]
  unfold greatV
  by_cases hs : c.st = 1
  · exact .inl ⟨hs, by rw [if_pos hs], by rw [if_pos hs]⟩
  · exact .inr ⟨hs, by rw [if_neg hs], by rw [if_neg hs]⟩

set_option maxHeartbeats 4000000 in
set_option maxRecDepth 100000 in
theorem adjFn_walk (w : World) (x : Option Addr) (n cap z : Nat) (hz : z = n ∧ Code w.heap.size w (.slice x n cap) n) :
    Calls Try.prog 3 #[.slice x n cap] w fun e w' => e = .returned (.bool true) ∧ Below w.heap.size w w' := by
  obtain ⟨_, hc⟩ := hz
  by_cases hbig : n ≤ 1048576
  · go_enter Try.func3, Try.ntmps3
    go_wp2_with (go_at_call 12; go_in)
    refine (drawAdjusted_c x n cap _ hc hbig).mono ?_
    rintro e w1 ⟨c, o, g, rfl, hb1⟩
    have hS := adjusted_spec c o g
    have hI := adjusted_impl c o g
    obtain ⟨v, hv⟩ : ∃ v, adjV c o g = v := ⟨_, rfl⟩
    obtain ⟨m, hm⟩ : ∃ m, stepV c o g = m := ⟨_, rfl⟩
    obtain ⟨b, hb⟩ : ∃ b, adjOk c o g = b := ⟨_, rfl⟩
    rw [hv, hm, hb] at hS hI
    have HS := Lib.hid hS
    have HI := Lib.hid hI
    have HV := Lib.hid hv
    have HM := Lib.hid hm
    have HB := Lib.hid hb
    clear hS hI hv hm hb
    have P1 := blk_new w1 (.cells #[.int .i64 c.st, .int .i64 c.off, .int .i64 c.fr, .int .i64 c.poll, .int .i64 c.calm] 25)
    have G1 : Below w.heap.size w (w1.alloc (.cells #[.int .i64 c.st, .int .i64 c.off, .int .i64 c.fr, .int .i64 c.poll, .int .i64 c.calm] 25)) := hb1.alloc (by have := hb1.size; omega) _
    go_wp2_with fail
    refine (HI.out _).mono ?_
    rintro e w2 ⟨rfl, hb2⟩
    have Q1 := blk_next hb2 P1
    have X := ck_cells Q1
    have G2 := grow_next G1 hb2
    have l1 := (Array.getElem?_eq_some_iff.1 Q1).1
    have P2 := blk_new w2 (.cells #[.int .i64 v.st, .int .i64 v.off, .int .i64 v.fr, .int .i64 v.poll, .int .i64 v.calm] 25)
    have G3 : Below w.heap.size w (w2.alloc (.cells #[.int .i64 v.st, .int .i64 v.off, .int .i64 v.fr, .int .i64 v.poll, .int .i64 v.calm] 25)) := G2.alloc (by have := G2.size; omega) _
    go_wp2_with fail
    refine (HS.out _).mono ?_
    rintro e w3 ⟨rfl, hb3⟩
    have R1 := blk_alloc (blk_next hb3 (blk_alloc Q1 (.cells #[.int .i64 v.st, .int .i64 v.off, .int .i64 v.fr, .int .i64 v.poll, .int .i64 v.calm] 25))) (.cells #[.int .i64 v.st, .int .i64 v.off, .int .i64 v.fr, .int .i64 v.poll, .int .i64 v.calm] 25)
    have R2 := blk_alloc (blk_next hb3 P2) (.cells #[.int .i64 v.st, .int .i64 v.off, .int .i64 v.fr, .int .i64 v.poll, .int .i64 v.calm] 25)
    have R3 := blk_new w3 (.cells #[.int .i64 v.st, .int .i64 v.off, .int .i64 v.fr, .int .i64 v.poll, .int .i64 v.calm] 25)
    have G4' := grow_next G3 hb3
    have G4 : Below w.heap.size w (w3.alloc (.cells #[.int .i64 v.st, .int .i64 v.off, .int .i64 v.fr, .int .i64 v.poll, .int .i64 v.calm] 25)) := G4'.alloc (by have := G4'.size; omega) _
    have hc4 := hc.next G4
    clear X l1 P1 G1 Q1 G2 P2 G3 hb1 hb2 hb3 HI HS G4'
    go_wp2_with fail
    refine (drawClockOk_c x n cap _ hc4 hbig).mono ?_
    rintro e w4 ⟨k, rfl, hb4⟩
    have S1 := blk_alloc (blk_next hb4 R1) (.cells #[.int .i64 k.st, .int .i64 k.off, .int .i64 k.fr, .int .i64 k.poll, .int .i64 k.calm] 25)
    have S2 := blk_alloc (blk_next hb4 R2) (.cells #[.int .i64 k.st, .int .i64 k.off, .int .i64 k.fr, .int .i64 k.poll, .int .i64 k.calm] 25)
    have S3 := blk_alloc (blk_next hb4 R3) (.cells #[.int .i64 k.st, .int .i64 k.off, .int .i64 k.fr, .int .i64 k.poll, .int .i64 k.calm] 25)
    have S4 := blk_new w4 (.cells #[.int .i64 k.st, .int .i64 k.off, .int .i64 k.fr, .int .i64 k.poll, .int .i64 k.calm] 25)
    have G5' := grow_next G4 hb4
    have G5 : Below w.heap.size w (w4.alloc (.cells #[.int .i64 k.st, .int .i64 k.off, .int .i64 k.fr, .int .i64 k.poll, .int .i64 k.calm] 25)) := G5'.alloc (by have := G5'.size; omega) _
    clear R1 R2 R3 G4 hb4 hc4 hc G5'
    go_wp2_with fail
    generalize w4.alloc (.cells #[.int .i64 k.st, .int .i64 k.off, .int .i64 k.fr, .int .i64 k.poll, .int .i64 k.calm] 25) = W at *
    have C2 := ck_cells S2
    have C3 := ck_cells S3
    have C4 := ck_cells S4
    have k0 := cell_regrown C2.1
    have k1 := cell_regrown C2.2.1
    have k2 := cell_regrown C2.2.2.1
    have k3 := cell_regrown C2.2.2.2.1
    have k4 := cell_regrown C2.2.2.2.2
    have j0 := cell_regrown C3.1
    have j1 := cell_regrown C3.2.1
    have j2 := cell_regrown C3.2.2.1
    have j3 := cell_regrown C3.2.2.2.1
    have j4 := cell_regrown C3.2.2.2.2
    have i0 := cell_regrown C4.1
    have i1 := cell_regrown C4.2.1
    have i2 := cell_regrown C4.2.2.1
    have i3 := cell_regrown C4.2.2.2.1
    have i4 := cell_regrown C4.2.2.2.2
    obtain ⟨r, hr⟩ : ∃ r, k.ok = r := ⟨_, rfl⟩
    have B1 := Lib.hid (fun W d os => Calls.regrown_of (hr ▸ clockOk_impl k (Go.Sort.grow (redrawn W d) os) : Calls Try.prog 17 #[.agg #[.int .i64 k.st, .int .i64 k.off, .int .i64 k.fr, .int .i64 k.poll, .int .i64 k.calm]] (Go.Sort.grow (redrawn W d) os) fun e w' => e = .returned (.bool r) ∧ Below (Go.Sort.grow (redrawn W d) os).heap.size (Go.Sort.grow (redrawn W d) os) w'))
    have B2 := Lib.hid (fun W d os => Calls.regrown_of (hr ▸ clockOk_spec k (Go.Sort.grow (redrawn W d) os) : Calls Try.prog 18 #[.agg #[.int .i64 k.st, .int .i64 k.off, .int .i64 k.fr, .int .i64 k.poll, .int .i64 k.calm]] (Go.Sort.grow (redrawn W d) os) fun e w' => e = .returned (.bool r) ∧ Below (Go.Sort.grow (redrawn W d) os).heap.size (Go.Sort.grow (redrawn W d) os) w'))
    clear hr C2 C3 C4
    cases b with
    | false =>
      clear HV HM HB
      refine wp_region_quiet_below (by kernel_rfl) (by kernel_rfl) ?_
      repeat ((with_reducible refine wpQuiet_step (fun K hK => ?_)); go_simp; first | ((with_reducible refine hK _ ?_); clear hK K) | (rw [if_neg (by intro h; exact nomatch h)]; (with_reducible refine hK _ ?_); clear hK K) | (apply Exists.intro; (with_reducible refine ⟨fun _ => ?_, hK _ ?_⟩); (first | with_reducible exact B1.out _ _ _ | with_reducible exact B2.out _ _ _); clear hK K))
      with_reducible refine wpQuiet_nil ?_
      intro _ hw'
      obtain ⟨⟨dq, osq⟩, hw''⟩ := hw'
      subst hw''
      have T2 := blk_next (below_regrown W dq osq) S2
      have T3 := blk_next (below_regrown W dq osq) S3
      have T4 := blk_next (below_regrown W dq osq) S4
      have G6 := grow_next G5 (below_regrown W dq osq)
      clear k0 k1 k2 k3 k4 j0 j1 j2 j3 j4 i0 i1 i2 i3 i4 S1 S2 S3 S4 G5
      generalize Go.Sort.grow (redrawn W dq) osq = W1 at *
      have C2 := ck_cells T2
      have C3 := ck_cells T3
      have C4 := ck_cells T4
      have k0 := cell_regrown C2.1
      have k1 := cell_regrown C2.2.1
      have k2 := cell_regrown C2.2.2.1
      have k3 := cell_regrown C2.2.2.2.1
      have k4 := cell_regrown C2.2.2.2.2
      have j0 := cell_regrown C3.1
      have j1 := cell_regrown C3.2.1
      have j2 := cell_regrown C3.2.2.1
      have j3 := cell_regrown C3.2.2.2.1
      have j4 := cell_regrown C3.2.2.2.2
      have i0 := cell_regrown C4.1
      have i1 := cell_regrown C4.2.1
      have i2 := cell_regrown C4.2.2.1
      have i3 := cell_regrown C4.2.2.2.1
      have i4 := cell_regrown C4.2.2.2.2
      clear C2 C3 C4
      go_wp2_with fail
      refine wp_region_quiet_below (by kernel_rfl) (by kernel_rfl) ?_
      repeat ((with_reducible refine wpQuiet_step (fun K hK => ?_)); go_simp; first | ((with_reducible refine hK _ ?_); clear hK K) | (rw [if_neg (by intro h; exact nomatch h)]; (with_reducible refine hK _ ?_); clear hK K) | (apply Exists.intro; (with_reducible refine ⟨fun _ => ?_, hK _ ?_⟩); (first | with_reducible exact B1.out _ _ _ | with_reducible exact B2.out _ _ _); clear hK K))
      with_reducible refine wpQuiet_nil ?_
      intro _ hw'
      obtain ⟨⟨dq2, osq2⟩, hw''⟩ := hw'
      subst hw''
      have G7 := grow_next G6 (below_regrown W1 dq2 osq2)
      go_wp2_with fail
      go_returns
      exact ⟨rfl, G7⟩
    | true =>
      have hvok : v.ok = true := HV.out ▸ adjV_ok HB.out
      have HO := Lib.hid (fun w => (show Calls Try.prog 17 #[.agg #[.int .i64 v.st, .int .i64 v.off, .int .i64 v.fr, .int .i64 v.poll, .int .i64 v.calm]] w fun e w' => e = .returned (.bool true) ∧ Below w.heap.size w w' from hvok ▸ clockOk_impl v w))
      obtain ⟨hcok, ⟨o0, o1⟩, _⟩ := adjOk_iff.1 HB.out
      obtain ⟨p, hp⟩ : ∃ p, max o (-o) = p := ⟨_, rfl⟩
      have A1 := Lib.hid (fun w => abs_dec (by omega) (by omega) hp w)
      have hP := Lib.hid hp
      obtain ⟨_, _, _, ⟨c0, c1⟩, _⟩ := Ck.ok_iff.1 hcok
      obtain ⟨_, _, _, ⟨v0, v1⟩, _⟩ := Ck.ok_iff.1 hvok
      clear hvok hcok hp
      refine wp_region_quiet_below (by kernel_rfl) (by kernel_rfl) ?_
      repeat ((with_reducible refine wpQuiet_step (fun K hK => ?_)); go_simp; first | ((with_reducible refine hK _ ?_); clear hK K) | (rw [if_neg (by intro h; exact nomatch h)]; (with_reducible refine hK _ ?_); clear hK K) | (apply Exists.intro; (with_reducible refine ⟨fun _ => ?_, hK _ ?_⟩); (first | with_reducible exact B1.out _ _ _ | with_reducible exact B2.out _ _ _); clear hK K))
      with_reducible refine wpQuiet_nil ?_
      intro _ hw'
      obtain ⟨⟨dq, osq⟩, hw''⟩ := hw'
      subst hw''
      have T1 := blk_next (below_regrown W dq osq) S1
      have T2 := blk_next (below_regrown W dq osq) S2
      have G6 := grow_next G5 (below_regrown W dq osq)
      clear k0 k1 k2 k3 k4 j0 j1 j2 j3 j4 i0 i1 i2 i3 i4 S1 S2 S3 S4 G5
      generalize Go.Sort.grow (redrawn W dq) osq = W1 at *
      have C2 := ck_cells T2
      go_wp2_with fail
      refine (HO.out _).mono ?_
      rintro e w5 ⟨rfl, hb5⟩
      have U1 := blk_next hb5 T1
      have U2 := blk_next hb5 T2
      have G7 := grow_next G6 hb5
      clear C2 T1 T2 G6 hb5 HO B1 B2
      cases hu : unB o 128000 with
      | true =>
        obtain ⟨f1, f2, f3, f4, f5⟩ := adj_small HB.out hu
        rw [HV.out] at f1 f2 f3 f4
        rw [HM.out] at f5
        have pl : p < 128000 := by have := hP.out; have := unB_iff.1 hu; omega
        obtain ⟨d, hd⟩ : ∃ d, max (v.poll - c.poll) (-(v.poll - c.poll)) = d := ⟨_, rfl⟩
        have A2 := Lib.hid (fun w => abs_dec (by omega) (by omega) hd w)
        have dl : d ≤ 1 := by omega
        have e1 : ((v.off : Int) == o) = true := by simpa using f1
        have e2 : ((v.st : Int) == 1) = true := by simpa using f2
        subst f5
        clear f1 f2 f3 f4 hd HV HM HB hu hP
        go_wp2_with fail
        refine (A1.out _).mono ?_
        rintro e w6 ⟨rfl, hb6⟩
        have C1 := ck_cells (blk_next hb6 U1)
        have C2 := ck_cells (blk_next hb6 U2)
        have G8 := grow_next G7 hb6
        clear U1 U2 G7 hb6 A1
        go_wp2_with fail
        refine (A2.out _).mono ?_
        rintro e w7 ⟨rfl, hb7⟩
        have G9 := grow_next G8 hb7
        go_wp2_with fail
        go_returns
        exact ⟨rfl, G9⟩
      | false =>
        have pl : ¬ p < 128000 := by
          intro hl
          have : unB o 128000 = true := unB_iff.2 (by have := hP.out; omega)
          rw [this] at hu
          cases hu
        rcases adj_great HB.out hu with ⟨hs, hv, hm⟩ | ⟨hs, hv, hm⟩
        · rw [HV.out] at hv
          rw [HM.out] at hm
          have hs1 : ((c.st : Int) == 1) = true := by simpa using hs
          clear HV HM HB hu hP hs
          subst hv
          subst hm
          go_wp2_with fail
          refine (A1.out _).mono ?_
          rintro e w6 ⟨rfl, hb6⟩
          have C1 := ck_cells (blk_next hb6 U1)
          have C2 := ck_cells (q := ⟨2, c.off, c.fr, c.poll, c.calm⟩) (blk_next hb6 U2)
          have G8 := grow_next G7 hb6
          clear U1 U2 G7 hb6 A1
          dsimp only at C2
          go_wp2_with fail
          go_returns
          exact ⟨rfl, G8⟩
        · rw [HV.out] at hv
          rw [HM.out] at hm
          have hs1 : ((c.st : Int) == 1) = false := by simpa using hs
          clear HV HM HB hu hP hs
          subst hv
          subst hm
          go_wp2_with fail
          refine (A1.out _).mono ?_
          rintro e w6 ⟨rfl, hb6⟩
          have C1 := ck_cells (blk_next hb6 U1)
          have C2 := ck_cells (q := ⟨1, 0, c.fr, 4, 0⟩) (blk_next hb6 U2)
          have G8 := grow_next G7 hb6
          clear U1 U2 G7 hb6 A1
          dsimp only at C2
          go_wp2_with fail
          go_returns
          exact ⟨rfl, G8⟩
  · go_enter Try.func3, Try.ntmps3
    go_wp2_with (go_at_call 12; go_in)
    go_returns
    exact ⟨rfl, Below.refl _ _⟩

set_option maxRecDepth 100000 in
theorem adjFn_lifted (os : Os) (started : os.Started) (H : Type) (enc : TypeId × Value → H) :
    ReturnsInHanded {} Try.checked os 3 .any (Rows.fnAdjustedSpec.pre6 enc Try.prog Try.f3 Rows.fnAdjustedRow.domain false) (Rows.fnAdjustedSpec.post enc Try.prog Try.f3 false true false false) := by
  refine lifted_of_walk (C := Try.checked) own started (by as_aux_lemma => kernel_rfl) Try.func3
    (ChangeSpec.witness6 (enc := enc) (C := Try.checked) false ⟨#[], #[.slice none 0 0], []⟩ 8 (by as_aux_lemma => kernel_rfl) (by as_aux_lemma => kernel_rfl) (by as_aux_lemma => kernel_rfl) (by as_aux_lemma => kernel_rfl) (by as_aux_lemma => kernel_rfl))
    laidOut rfl (by as_aux_lemma => kernel_rfl) (by as_aux_lemma => kernel_rfl) boolType
    (fun ds h => by
      match ds, h with
      | [_], _ => rfl)
    ?_
  intro W base args ds q hval hA
  rw [Try.params3] at hA hval
  obtain ⟨v0, vs0, d0, ds0, p0, q0, hargs, rfl, rfl, h0, r0⟩ := trodAll_cons hA
  obtain ⟨rfl, rfl, rfl⟩ := trodAll_nil r0
  obtain rfl : args = #[v0] := by cases args; simp_all
  obtain ⟨a0, len0, cap0, z0, rfl, w0⟩ := open_bytes Try.underlying22 Try.underlying5 (by as_aux_lemma => kernel_rfl) (hval 0 22 v0 rfl rfl) h0
  exact adjFn_walk W a0 len0 cap0 z0 w0

theorem adjFn_facts : joinedFacts Try.pinned.checked.prog 3 Try.f3 Rows.fnAdjustedSpec Rows.fnAdjustedRow = true :=
  facts_of (P := Try.prog) (by as_aux_lemma => kernel_rfl) laidOut mapsRow (by as_aux_lemma => kernel_rfl) (by as_aux_lemma => kernel_rfl) rfl noStops rfl noKnobs (by as_aux_lemma => kernel_rfl) (by as_aux_lemma => kernel_rfl) (by as_aux_lemma => kernel_rfl) (by as_aux_lemma => kernel_rfl) (by as_aux_lemma => kernel_rfl) (by as_aux_lemma => kernel_rfl) (by as_aux_lemma => kernel_rfl) (by as_aux_lemma => kernel_rfl) (by as_aux_lemma => kernel_rfl) rfl (by as_aux_lemma => kernel_rfl) (by as_aux_lemma => kernel_rfl) (by as_aux_lemma => kernel_rfl) keysPlain rfl heard enters finals isMake rfl rfl rfl (by as_aux_lemma => kernel_rfl) (by as_aux_lemma => kernel_rfl)

/-- The given statement. -/
theorem adjFn_holds : Rows.FnAdjustedSaid :=
  OpenClaim.holds_of_wide 3 Try.f3 rfl rfl rfl rfl rfl rfl rfl ⟨rfl, rfl, rfl, rfl, rfl⟩ rfl rfl rfl rfl rfl (by as_aux_lemma => kernel_rfl) Try.func3 adjFn_facts
    (of_decide_eq_true (by as_aux_lemma => kernel_rfl)) (by unfold Func.isWrapper; first | (rw [if_pos (by decide +kernel)]; kernel_rfl) | (rw [if_neg (by decide +kernel)]; exact ⟨rfl, rfl⟩))
    (fun os started H enc _ => adjFn_lifted os started H enc)
#print axioms adjFn_holds
end Go.Proofs.Ytlabmnfmijbpfaa
