/- Nowhere do more intervals lie than where they agree, and nowhere ahead as many; all along it lie just these: at all drawn intervals, at all places about. -/
import Derived.Test.YtoejeekepagfcaaIvsDraw
import Derived.Test.YtoejeekepagfcaaAgreeLess
namespace Go.Proofs.Ytoejeekepagfcaa
open Go.ChangeShapes Go.WideShapes Go.ChangeAt Go.RowKit
set_option linter.unusedVariables false
set_option linter.unusedSimpArgs false

set_option maxHeartbeats 4000000 in
theorem af_walk (w : World) (x : Option Addr) (n cap z : Nat) (hz : z = n ∧ Code w.heap.size w (.slice x n cap) n) :
    Calls Try.prog 6 #[.slice x n cap] w fun e w' => e = .returned (.bool true) ∧ Below w.heap.size w w' := by
  obtain ⟨_, hc⟩ := hz
  by_cases hbig : n ≤ 1048576
  · go_enter Try.func6, Try.ntmps6
    go_wp2_with (go_at_call 27; go_in)
    refine (drawAgreed_c x n cap _ hc hbig).mono ?_
    rintro e w1 ⟨y, c, l, rfl, hl8, hrow, hb1⟩
    obtain ⟨m, hm⟩ : ∃ m, m = l.length := ⟨_, rfl⟩
    have hm8 : m ≤ 8 := by rw [hm]; exact hl8
    have HM := Lib.hid hm
    rw [← hm]
    clear hm hl8
    go_wp2_with fail
    refine (agreed_impl l m HM (by omega) y c _ hrow.ivs).mono ?_
    rintro e w2 ⟨lo, hi, M, rfl, hA, hb2⟩
    have HA := Lib.hid hA
    obtain ⟨M0, M1⟩ := hA.bounds
    rw [← HM.out] at M1
    clear hA
    have g2 := grow_next hb1 hb2
    have B2 := blk_new w2 (.cells #[.int .i64 lo, .int .i64 hi] 25)
    have r2 := (hrow.next hb2).next (below_new w2 (.cells #[.int .i64 lo, .int .i64 hi] 25))
    have g2' : Below w.heap.size w (w2.alloc (.cells #[.int .i64 lo, .int .i64 hi] 25)) := g2.alloc (by have := g2.size; omega) _
    clear hrow hb1 hb2
    go_wp2_with fail
    refine (agreed_spec l m HM (by omega) y c _ r2.ivs).mono ?_
    rintro e w3 ⟨lo', hi', M', rfl, hA', hb3⟩
    obtain ⟨e1, e2, e3⟩ := HA.out.same hA'
    subst e1 e2 e3
    clear hA'
    have g3 := grow_next g2' hb3
    have B3 := blk_alloc (blk_next hb3 B2) (.cells #[.int .i64 lo, .int .i64 hi] 25)
    have l3 := (Array.getElem?_eq_some_iff.1 (blk_next hb3 B2)).1
    have r3 := (r2.next hb3).next (below_new w3 (.cells #[.int .i64 lo, .int .i64 hi] 25))
    have C3 := blk_new w3 (.cells #[.int .i64 lo, .int .i64 hi] 25)
    have g3' : Below w.heap.size w (w3.alloc (.cells #[.int .i64 lo, .int .i64 hi] 25)) := g3.alloc (by have := g3.size; omega) _
    clear g2 g2' g3 r2 hb3 B2
    go_wp2_with fail
    refine (drawDepth_c x n cap _ (hc.next g3') hbig).mono ?_
    rintro e w4 ⟨y', c', l', q, rfl, hl7, hrow', hb4⟩
    obtain ⟨m', hm'⟩ : ∃ m', m' = l'.length := ⟨_, rfl⟩
    have hm7 : m' ≤ 7 := by rw [hm']; exact hl7
    have HM' := Lib.hid hm'
    rw [← hm']
    clear hm' hl7
    have g4 := grow_next g3' hb4
    have B4 := blk_next hb4 B3
    have C4 := blk_next hb4 C3
    have r4 := r3.next hb4
    obtain ⟨b0, b1⟩ := iv_cells (q := ⟨lo, hi⟩) B4
    obtain ⟨c0, c1⟩ := iv_cells (q := ⟨lo, hi⟩) C4
    dsimp only at b0 b1 c0 c1
    obtain ⟨d, hd⟩ : ∃ d, depthV l' q = d := ⟨_, rfl⟩
    have HDI := Lib.hid (fun w h => hd ▸ depth_impl l' q m' HM' (by omega) y' c' w h)
    have HDS := Lib.hid (fun w h => hd ▸ depth_spec l' q m' HM' (by unfold maxLen; omega) y' c' w h)
    clear hd hb4 g3' r3 B3 C3 l3
    go_wp2_with fail
    refine (HDI.out _ hrow'.ivs).mono ?_
    rintro e w5 ⟨rfl, hb5⟩
    have hrow5 := hrow'.next hb5
    have B5 := blk_next hb5 B4
    have C5 := blk_next hb5 C4
    have r5 := r4.next hb5
    have g5 := grow_next g4 hb5
    clear b0 b1 c0 c1 B4 C4 r4 g4 hrow' hb5
    go_wp2_with fail
    refine (HDS.out _ hrow5.ivs).mono ?_
    rintro e w6 ⟨rfl, hb6⟩
    have hrow6 := hrow5.next hb6
    have B6 := blk_next hb6 B5
    have C6 := blk_next hb6 C5
    have r6 := r5.next hb6
    have g6 := grow_next g5 hb6
    clear B5 C5 r5 g5 hrow5 hb6
    obtain ⟨b0, b1⟩ := iv_cells (q := ⟨lo, hi⟩) B6
    obtain ⟨c0, c1⟩ := iv_cells (q := ⟨lo, hi⟩) C6
    dsimp only at b0 b1 c0 c1
    by_cases h0 : M = 0
    · have e0 : (M == 0) = true := by simp [h0]
      clear h0
      go_wp2_with fail
      refine (HDI.out _ hrow6.ivs).mono ?_
      rintro e w7 ⟨rfl, hb7⟩
      have hrow7 := hrow6.next hb7
      have g7 := grow_next g6 hb7
      go_wp2_with fail
      refine (HDS.out _ hrow7.ivs).mono ?_
      rintro e w8 ⟨rfl, hb8⟩
      go_wp2_with fail
      go_returns
      exact ⟨by simp, grow_next g7 hb8⟩
    · have e0 : (M == 0) = false := by simp [h0]
      obtain ⟨hoI, hAI⟩ : okIvs l = true ∧ AgreedIs l lo hi M := by
        rcases HA.out with ⟨ho, _, h⟩ | ⟨_, _, _, h⟩
        · exact ⟨ho, h⟩
        · exact absurd h h0
      have HK := Lib.hid (okIvs_parts hoI).1
      have HO := Lib.hid hoI
      have HAI := Lib.hid hAI
      clear h0 hoI hAI HA
      go_wp2_with fail
      go_loopw [10] (fun i wr => ∃ p : Int, -45 ≤ p ∧ p ≤ 46 ∧ i = .int .i64 p ∧ Below w6.heap.size w6 wr) (fun i _ => (46 - intOf i).toNat)
      case atStart => exact ⟨-45, by omega, by omega, rfl, Below.refl _ _⟩
      case round =>
        obtain ⟨p, p0, p1, rfl, hb⟩ := hrel
        have rr := r6.next hb
        have Bw := blk_next hb B6
        clear b0 b1 c0 c1
        obtain ⟨b0, b1⟩ := iv_cells (q := ⟨lo, hi⟩) Bw
        dsimp only at b0 b1
        by_cases hp : p ≤ 45
        · have hpd : decide (p ≤ 45) = true := decide_eq_true hp
          obtain ⟨D, hD⟩ : ∃ D, depthOf l p = D := ⟨_, rfl⟩
          have hV : depthV l p = (D : Int) := by unfold depthV; rw [HO.out, hD]; rfl
          have HP := Lib.hid (fun w h => hV ▸ depth_impl l p m HM (by omega) y c w h)
          have hdle := depthOf_le l p
          have ht := HAI.out.top HK.out p
          rw [hD] at ht hdle
          rw [← HM.out] at hdle
          have q1 : decide (M < (D : Int)) = false := decide_eq_false (by omega)
          have hah := Lib.hid (fun h => HAI.out.ahead HK.out (p := p) h)
          have hal := Lib.hid (fun h1 h2 => HAI.out.along HK.out (p := p) h1 h2)
          have HD := Lib.hid hD
          clear hD hV
          go_wp2_with fail
          refine (HP.out _ rr.ivs).mono ?_
          rintro e w7 ⟨rfl, hb7⟩
          have g7 := grow_next hb hb7
          have B7 := blk_next hb7 Bw
          clear b0 b1 Bw
          obtain ⟨b0, b1⟩ := iv_cells (q := ⟨lo, hi⟩) B7
          dsimp only at b0 b1
          by_cases hDM : (D : Int) = M
          · have hlo : lo ≤ p := hah.out (by rw [HD.out]; exact hDM)
            have q2 : ((D : Int) == M) = true := by simp [hDM]
            have q2' : ((D : Int) != M) = false := by simp [hDM]
            have q3 : decide (p < lo) = false := decide_eq_false (by omega)
            have q4 : decide (lo ≤ p) = true := decide_eq_true hlo
            by_cases hhi : p ≤ hi
            · have q5 : decide (p ≤ hi) = true := decide_eq_true hhi
              clear hDM
              go_wp2_with fail
              go_roundw
              case rel => exact ⟨p + 1, by omega, by omega, by go_num, g7⟩
              case measure => simp [intOf]; omega
            · have q5 : decide (p ≤ hi) = false := decide_eq_false hhi
              clear hDM
              go_wp2_with fail
              go_roundw
              case rel => exact ⟨p + 1, by omega, by omega, by go_num, g7⟩
              case measure => simp [intOf]; omega
          · have q2 : ((D : Int) == M) = false := by simp [hDM]
            have q2' : ((D : Int) != M) = true := by simp [hDM]
            by_cases hlo : lo ≤ p
            · have hhi : ¬ p ≤ hi := fun h => hDM (by have := hal.out hlo h; rw [HD.out] at this; exact this)
              have q4 : decide (lo ≤ p) = true := decide_eq_true hlo
              have q5 : decide (p ≤ hi) = false := decide_eq_false hhi
              clear hDM
              go_wp2_with fail
              go_roundw
              case rel => exact ⟨p + 1, by omega, by omega, by go_num, g7⟩
              case measure => simp [intOf]; omega
            · have q4 : decide (lo ≤ p) = false := decide_eq_false hlo
              clear hDM
              go_wp2_with fail
              go_roundw
              case rel => exact ⟨p + 1, by omega, by omega, by go_num, g7⟩
              case measure => simp [intOf]; omega
        · have hpd : decide (p ≤ 45) = false := decide_eq_false hp
          have HI := Lib.hid (fun w => show Calls Try.prog 32 #[.agg #[.int .i64 lo, .int .i64 hi]] w fun e w' => e = .returned (.bool true) ∧ Below w.heap.size w w' from (HAI.out.ok HK.out) ▸ intervalOk_impl ⟨lo, hi⟩ w)
          have gr := grow_next g6 hb
          go_wp2_with fail
          refine (HI.out _).mono ?_
          rintro e w7 ⟨rfl, hb7⟩
          go_wp2_with fail
          go_returns
          exact ⟨rfl, grow_next gr hb7⟩
  · go_enter Try.func6, Try.ntmps6
    go_wp2_with (go_at_call 27; go_in)
    go_returns
    exact ⟨rfl, Below.refl _ _⟩
set_option maxRecDepth 100000 in
theorem af_lifted (os : Os) (started : os.Started) (H : Type) (enc : TypeId × Value → H) :
    ReturnsInHanded {} Try.checked os 6 .any (Rows.fnAgreedSpec.pre6 enc Try.prog Try.f6 Rows.fnAgreedRow.domain false) (Rows.fnAgreedSpec.post enc Try.prog Try.f6 false true false false) := by
  refine lifted_of_walk (C := Try.checked) own started (by as_aux_lemma => kernel_rfl) Try.func6
    (ChangeSpec.witness6 (enc := enc) (C := Try.checked) false ⟨#[], #[.slice none 0 0], []⟩ 8 (by as_aux_lemma => kernel_rfl) (by as_aux_lemma => kernel_rfl) (by as_aux_lemma => kernel_rfl) (by as_aux_lemma => kernel_rfl) (by as_aux_lemma => kernel_rfl))
    laidOut rfl (by as_aux_lemma => kernel_rfl) (by as_aux_lemma => kernel_rfl) boolType
    (fun ds h => by
      match ds, h with
      | [_], _ => rfl)
    ?_
  intro W base args ds q hval hA
  rw [Try.params6] at hA hval
  obtain ⟨v0, vs0, d0, ds0, p0, q0, hargs, rfl, rfl, h0, r0⟩ := trodAll_cons hA
  obtain ⟨rfl, rfl, rfl⟩ := trodAll_nil r0
  obtain rfl : args = #[v0] := by cases args; simp_all
  obtain ⟨a0, len0, cap0, z0, rfl, w0⟩ := open_bytes Try.underlying40 Try.underlying5 (by as_aux_lemma => kernel_rfl) (hval 0 40 v0 rfl rfl) h0
  exact af_walk W a0 len0 cap0 z0 w0

theorem af_facts : joinedFacts Try.pinned.checked.prog 6 Try.f6 Rows.fnAgreedSpec Rows.fnAgreedRow = true :=
  facts_of (P := Try.prog) (by as_aux_lemma => kernel_rfl) laidOut mapsRow (by as_aux_lemma => kernel_rfl) (by as_aux_lemma => kernel_rfl) rfl noStops rfl noKnobs (by as_aux_lemma => kernel_rfl) (by as_aux_lemma => kernel_rfl) (by as_aux_lemma => kernel_rfl) (by as_aux_lemma => kernel_rfl) (by as_aux_lemma => kernel_rfl) (by as_aux_lemma => kernel_rfl) (by as_aux_lemma => kernel_rfl) (by as_aux_lemma => kernel_rfl) (by as_aux_lemma => kernel_rfl) rfl (by as_aux_lemma => kernel_rfl) (by as_aux_lemma => kernel_rfl) (by as_aux_lemma => kernel_rfl) keysPlain rfl heard enters finals isMake rfl rfl rfl (by as_aux_lemma => kernel_rfl) (by as_aux_lemma => kernel_rfl)

/-- The given statement. -/
theorem af_holds : Rows.FnAgreedSaid :=
  OpenClaim.holds_of_wide 6 Try.f6 rfl rfl rfl rfl rfl rfl rfl ⟨rfl, rfl, rfl, rfl, rfl⟩ rfl rfl rfl rfl rfl (by as_aux_lemma => kernel_rfl) Try.func6 af_facts
    (of_decide_eq_true (by as_aux_lemma => kernel_rfl)) (by unfold Func.isWrapper; first | (rw [if_pos (by decide +kernel)]; kernel_rfl) | (rw [if_neg (by decide +kernel)]; exact ⟨rfl, rfl⟩))
    (fun os started H enc _ => af_lifted os started H enc)
#print axioms af_holds
end Go.Proofs.Ytoejeekepagfcaa
