/- For every limiter, client and time the program's Came answers as the reference; its argument stays as it was; its answer owns its memory. -/
import Derived.Test.YtckonbbdeohccaaCameS
import Derived.Test.YtckonbbdeohccaaLimMark
namespace Go.Proofs.Ytckonbbdeohccaa
open Go.ChangeShapes Go.WideShapes Go.ChangeAt Go.RowKit
set_option linter.unusedVariables false
set_option linter.unusedSimpArgs false
set_option maxRecDepth 100000

theorem below_drewY (w : World) : Below w.heap.size w w.drew := ⟨rfl, rfl, rfl, Nat.le_refl _, fun _ _ => rfl⟩
theorem resC_len (l : List Cl) (id now : Int) : (resC (camV l id now)).length ≤ 50 := by
  unfold camV
  split
  · rename_i ho
    have := comeV_ok (id := id) (now := now) ho
    cases h : comeV l id now with
    | none => simp [resC]
    | some p =>
      rw [h] at this
      exact (limOk_iff.1 this).2.2
  · simp [resC]
set_option maxHeartbeats 4000000 in
theorem xcame_walk (W : World) (x : Option Addr) (n cap : Nat) (l : List Cl) (h : Hid (n = l.length) ∧ n ≤ cap ∧ cap ≤ maxLen ∧ Cls W.heap.size W x l) (id : Int) (wid : (Lit.int .i64 id).wf = true) (now : Int) (wnow : (Lit.int .i64 now).wf = true) :
    Calls Try.prog 3 #[.agg #[.slice x n cap], .int .i64 id, .int .i64 now] W fun e w' => e = .returned (.bool true) ∧ Below W.heap.size W w' := by
  obtain ⟨hn, hnc, hcm, hr⟩ := h
  have hnm : n ≤ maxLen := Nat.le_trans hnc hcm
  have HZ := Lib.hid (fun W => szLimiter_c n hnm x cap W)
  have B0 : Below W.heap.size W (W.alloc (.cells #[.slice x n cap] 24)) := below_new _ _
  have Q0 := blk_new W (.cells #[.slice x n cap] 24)
  clear wid wnow
  go_enter Try.func3, Try.ntmps3
  go_upto_region 2 with (fail)
  generalize W.alloc (.cells #[.slice x n cap] 24) = W0 at *
  obtain ⟨q0, _⟩ := one_cell Q0
  go_wp2_with fail
  refine (HZ.out _).mono ?_
  rintro e w0 ⟨rfl, hb0⟩
  have b0 := grow_next B0 hb0
  have Q1 := blk_next hb0 Q0
  clear q0 Q0 hb0 B0
  by_cases hneg : (1048576 : Int) - (n : Int) < 0
  · have hL : leftOf 1048576 n = -1 := if_pos hneg
    rw [hL]
    clear hneg
    go_wp2_with fail
    go_returns
    exact ⟨rfl, b0⟩
  · have hL : leftOf 1048576 n = 1048576 - n := if_neg hneg
    rw [hL]
    have hd : decide ((1048576 : Int) - (n : Int) < 0) = false := decide_eq_false hneg
    have hn1 : n ≤ 1048576 := by omega
    have HT := Lib.hid (fun w h => toLimiter_c l n hn hn1 x cap w h)
    have HS := Lib.hid (fun g w h => came_spec l n hn hnm id now (some ⟨g, 0, none⟩) n (Nat.le_refl _) (fun e => by cases e) w h)
    have HI := Lib.hid (fun g w h => came_impl l n hn hnm id now (some ⟨g, 0, none⟩) n w h)
    have HE := Lib.hid (fun x y cap cap' w h h' => eqLimiter_c l n hn hnm x y cap cap' w h h')
    have hlen := resC_len l id now
    obtain ⟨o, ho⟩ : ∃ o, camV l id now = o := ⟨_, rfl⟩
    rw [ho] at HS HI hlen
    unfold CamOut at HS HI
    obtain ⟨A, hA⟩ : ∃ A, resC o = A := ⟨_, rfl⟩
    obtain ⟨t, ht⟩ : ∃ t, toldC o = t := ⟨_, rfl⟩
    obtain ⟨k, hk⟩ : ∃ k, o.isSome = k := ⟨_, rfl⟩
    rw [hA] at HS HI hlen
    rw [ht, hk] at HS HI
    obtain ⟨m, hm⟩ : ∃ m, m = A.length := ⟨_, rfl⟩
    have HM := Lib.hid hm
    have hmm : m ≤ 50 := by omega
    have HQ := Lib.hid (fun x y cap cap' w h h' => eqLimiter_c A m HM (by unfold maxLen; omega) x y cap cap' w h h')
    rw [← hm] at HS HI
    have htt : (t != t) = false := by simp
    have hkk : (k != k) = false := by cases k <;> rfl
    clear hneg hm ho hA ht hk HZ hlen
    have r0 := hr.next b0
    obtain ⟨q1, _⟩ := one_cell Q1
    go_wp2_with fail
    refine (HT.out _ r0).mono ?_
    rintro e w1 ⟨g1, rfl, t1, _, hb1⟩
    have b1 := grow_next b0 hb1
    have Q2 := blk_next hb1 Q1
    clear q1 Q1 r0
    go_wp2_with fail
    refine (HS.out _ _ t1.cls).mono ?_
    rintro e w2 ⟨y, cy, rfl, hry, hb2⟩
    have b2 := grow_next b1 hb2
    have Q3 := blk_alloc (blk_next hb2 Q2) (.cells #[.slice y m cy] 28)
    have N8 := blk_new w2 (.cells #[.slice y m cy] 28)
    have B8 := b2.alloc b2.size (.cells #[.slice y m cy] 28)
    have hryl : ∀ k, y = some ⟨k, 0, none⟩ → k < w2.heap.size := fun k e => (e ▸ hry).lt.2
    have Y8 : ClRow 0 (w2.alloc (.cells #[.slice y m cy] 28)) y cy A := ownsRow_base_le (hry.next (below_new w2 _)) (Nat.zero_le _)
    have s8 : W.heap.size < w2.heap.size := (Array.getElem?_eq_some_iff.1 (blk_next hb2 Q2)).1
    have hs8 : w2.heap.size < (w2.alloc (.cells #[.slice y m cy] 28)).heap.size := by simp
    obtain ⟨p8, hp8⟩ : ∃ p, w2.heap.size = p := ⟨_, rfl⟩
    obtain ⟨q3, _⟩ := one_cell Q3
    clear t1 Q2 hry b2 hb2 hb1 b1
    go_upto_region 6 with fail
    obtain ⟨w3, hw3⟩ : ∃ w, w = w2.alloc (.cells #[.slice y m cy] 28) := ⟨_, rfl⟩
    rw [hp8] at N8 hryl s8 hs8
    rw [← hw3] at Q3 N8 B8 Y8 hs8 q3
    rw [← hw3]
    try rw [hp8]
    clear hw3 hp8
    go_wp2_with fail
    refine (HT.out _ (hr.next B8)).mono ?_
    rintro e w4 ⟨g, rfl, t4, hg4, hb4⟩
    have b4 := grow_next B8 hb4
    have Q5 := blk_alloc (blk_next hb4 Q3) (.cells #[.slice (some ⟨g, 0, none⟩) n n] 28)
    have N85 := blk_alloc (blk_next hb4 N8) (.cells #[.slice (some ⟨g, 0, none⟩) n n] 28)
    have N11 := blk_new w4 (.cells #[.slice (some ⟨g, 0, none⟩) n n] 28)
    have B11 := b4.alloc b4.size (.cells #[.slice (some ⟨g, 0, none⟩) n n] 28)
    have Y11 := (Y8.next hb4).next (below_new w4 (.cells #[.slice (some ⟨g, 0, none⟩) n n] 28))
    have hgl : g < w4.heap.size := TabAt.lt t4
    have t11 := t4.next (below_new w4 (.cells #[.slice (some ⟨g, 0, none⟩) n n] 28))
    have s11 : p8 < w4.heap.size := (Array.getElem?_eq_some_iff.1 (blk_next hb4 N8)).1
    have hs11 : w4.heap.size < (w4.alloc (.cells #[.slice (some ⟨g, 0, none⟩) n n] 28)).heap.size := by simp
    obtain ⟨p11, hp11⟩ : ∃ p, w4.heap.size = p := ⟨_, rfl⟩
    obtain ⟨q5, _⟩ := one_cell Q5
    obtain ⟨c11, _⟩ := one_cell N11
    clear q3 Q3 N8 Y8 b4 hb4 t4
    go_upto_region 7 with fail
    obtain ⟨w5, hw5⟩ : ∃ w, w = w4.alloc (.cells #[.slice (some ⟨g, 0, none⟩) n n] 28) := ⟨_, rfl⟩
    rw [hp11] at N11 hgl s11 hs11 c11
    rw [← hw5] at Q5 N85 N11 B11 Y11 t11 hs11 q5 c11
    rw [← hw5]
    try rw [hp11]
    clear hw5 hp11
    go_wp2_with fail
    refine (HI.out _ _ t11.cls).mono ?_
    rintro e w6 ⟨z, cz, rfl, hrz, hb6⟩
    have b6 := grow_next B11 hb6
    have hown : ∀ k, z.map (·.block) = some k → z = some ⟨k, 0, none⟩ := fun k e => hrz.own e
    have hzl : ∀ k, z.map (·.block) = some k → w5.heap.size ≤ k := fun k e => by
      have h1 := hrz
      rw [hown k e] at h1
      exact h1.lt.1
    have s12 : p11 < w6.heap.size := (Array.getElem?_eq_some_iff.1 (blk_next hb6 N11)).1
    have L12 : LC W (w6.alloc (.cells #[.slice z m cz] 28)) x n cap l p8 p11 w6.heap.size y cy g z cz A l A :=
      { low := b6.alloc b6.size _
        box3 := blk_alloc (blk_next hb6 Q5) _
        box8 := by rw [← HM.out]; exact blk_alloc (blk_next hb6 N85) _
        box11 := blk_alloc (blk_next hb6 N11) _
        box12 := by rw [← HM.out]; exact blk_new w6 _
        p8w := s8
        p11w := by omega
        p12w := by omega
        rowY := (Y11.next hb6).next (below_new w6 _)
        rowX := ((t11.next hb6).next (below_new w6 _)).row hn.out hnm
        rowZ := ownsRow_base_le (hrz.next (below_new w6 _)) (Nat.zero_le _)
        gw := by omega
        zw := fun k e => by have := hzl k e; omega
        yg := fun k e => by have := hryl k e; omega
        zg := fun k e => by have := hzl k (by rw [e]; rfl); omega
        yz := fun k e e2 => by have := hzl k e2; have := hryl k e; omega }
    obtain ⟨p12, hp12⟩ : ∃ p, w6.heap.size = p := ⟨_, rfl⟩
    clear Q5 N85 N11 B11 Y11 t11 q5 c11 hrz hb6 b6 hown hzl hryl s8 hs8 s11 hs11 hgl hg4 B8
    rw [hp12] at L12
    have c12 := (one_cell L12.box12).1
    have c8 := (one_cell L12.box8).1
    rw [← HM.out] at c12 c8
    have hp12' : p12 < (w6.alloc (.cells #[.slice z m cz] 28)).heap.size := by rw [World.size_alloc, hp12]; omega
    go_upto_region 8 with fail
    obtain ⟨w7, hw7⟩ : ∃ w, w = w6.alloc (.cells #[.slice z m cz] 28) := ⟨_, rfl⟩
    rw [← hw7] at L12 c12 c8
    rw [← hw7]
    try rw [hp12]
    clear hw7 hp12 hp12' s12
    go_wp2_with fail
    refine (HQ.out _ _ _ _ _ L12.rowZ.cls L12.rowY.cls).mono ?_
    rintro e w8 ⟨rfl, hb8⟩
    have L13 := (L12.next hb8).next (below_drewY w8)
    clear L12 hb8 c12 c8
    go_wp2_with fail
    generalize hW6 : w8.drew = W6 at *
    have q6 := (one_cell L13.box3).1
    have x6 := (one_cell L13.box11).1
    have HA := Lib.hid (hr.next L13.low)
    go_region_with (first
      | (go_at_call 13; (with_reducible refine (HT.out _ HA.out).mono ?_); rintro e w9 ⟨g9, rfl, t9, _, hb9⟩; have L14 := L13.next hb9; have q7 := (one_cell L14.box3).1; have x7 := (one_cell L14.box11).1)
      | (go_at_call 15; (with_reducible refine (HE.out _ _ _ _ _ L14.rowX.cls t9.cls).mono ?_); rintro e w10 ⟨rfl, hb10⟩; have L15 := L14.next hb10))
    all_goals
      clear L13 L14 q6 x6 q7 x7 t9 hb9 hb10 HA
      have c11 := (one_cell L15.box11).1
      go_wp2_with fail
      refine (markLimiter_c l n hn hn1 1 (by omega) (by omega) _ _ _ _ L15.rowX).mono ?_
      rintro e w11 ⟨rfl, hrx, hgx⟩
      have L16 := L15.markX hrx hgx
      clear L15 hrx hgx c11
      have e0 : decide ((1 : Int) + 3 * (n : Int) < 0) = false := decide_eq_false (by omega)
      have c12 := (one_cell L16.box12).1
      have c8 := (one_cell L16.box8).1
      rw [← HM.out] at c12 c8
      go_wp2_with fail
      refine (HQ.out _ _ _ _ _ L16.rowZ.cls L16.rowY.cls).mono ?_
      rintro e w12 ⟨rfl, hb12⟩
      have L17 := L16.next hb12
      clear L16 hb12 c12 c8
      have c12 := (one_cell L17.box12).1
      rw [← HM.out] at c12
      go_wp2_with fail
      refine (markLimiter_c A m HM (by omega) 1 (by omega) (by omega) _ _ _ _ L17.rowZ).mono ?_
      rintro e w13 ⟨rfl, hrz, hgz⟩
      have L18 := L17.markZ hrz hgz
      clear L17 hrz hgz c12
      have e1 : decide ((1 : Int) + 3 * (m : Int) < 0) = false := decide_eq_false (by omega)
      have c12 := (one_cell L18.box12).1
      rw [← HM.out] at c12
      go_wp2_with fail
      refine (heldLimiter_c m (by omega) 1 (by omega) (by omega) _ _ _ _ L18.rowZ).mono ?_
      rintro e w14 ⟨rfl, hb14⟩
      have L19 := L18.next hb14
      clear L18 hb14 c12
      have c3 := (one_cell L19.box3).1
      go_wp2_with fail
      refine (HT.out _ (hr.next L19.low)).mono ?_
      rintro e w15 ⟨g15, rfl, t15, _, hb15⟩
      have L20 := L19.next hb15
      clear L19 hb15 c3
      go_wp2_with fail
      refine (HI.out _ _ t15.cls).mono ?_
      rintro e w16 ⟨u, cu, rfl, hru, hb16⟩
      have hp8' : p8 < w16.heap.size := (Array.getElem?_eq_some_iff.1 (L20.next hb16).box8).1
      have L21 := (L20.next hb16).next (below_new w16 (.cells #[.slice u m cu] 28))
      have U18 := blk_new w16 (.cells #[.slice u m cu] 28)
      have RU := hru.next (below_new w16 (.cells #[.slice u m cu] 28))
      clear L20 hb16 t15 hru
      have c18 := (one_cell U18).1
      have c8 := (one_cell L21.box8).1
      rw [← HM.out] at c8
      go_wp2_with fail
      refine (HQ.out _ _ _ _ _ RU.cls L21.rowY.cls).mono ?_
      rintro e w17 ⟨rfl, hb17⟩
      have L22 := L21.next hb17
      clear L21 hb17 c18 c8 RU U18
      have c12 := (one_cell L22.box12).1
      rw [← HM.out] at c12
      go_wp2_with fail
      refine (heldLimiter_c m (by omega) 1 (by omega) (by omega) _ _ _ _ L22.rowZ).mono ?_
      rintro e w18 ⟨rfl, hb18⟩
      have L23 := L22.next hb18
      go_wp2_with fail
      go_returns
      exact ⟨rfl, L23.low⟩
set_option maxRecDepth 100000 in
theorem xcame_lifted (os : Os) (started : os.Started) (H : Type) (enc : TypeId × Value → H) :
    ReturnsInHanded {} Try.checked os 3 .any (Rows.fnExactCameSpec.pre6 enc Try.prog Try.f3 Rows.fnExactCameRow.domain false) (Rows.fnExactCameSpec.post enc Try.prog Try.f3 false true false false) := by
  refine lifted_of_walk (C := Try.checked) own started (by as_aux_lemma => kernel_rfl) Try.func3
    (ChangeSpec.witness6 (enc := enc) (C := Try.checked) false ⟨#[], #[.agg #[.slice none 0 0], .int .i64 0, .int .i64 0], []⟩ 8 (by as_aux_lemma => kernel_rfl) (by as_aux_lemma => kernel_rfl) (by as_aux_lemma => kernel_rfl) (by as_aux_lemma => kernel_rfl) (by as_aux_lemma => kernel_rfl))
    laidOut rfl (by as_aux_lemma => kernel_rfl) (by as_aux_lemma => kernel_rfl) boolType
    (fun ds h => by
      match ds, h with
      | [_, _, _], _ => rfl)
    ?_
  intro W base args ds q hval hA
  rw [Try.params3] at hA hval
  obtain ⟨v0, vs0, d0, ds0, p0, q0, hargs, rfl, rfl, h0, r0⟩ := trodAll_cons hA
  obtain ⟨v1, vs1, d1, ds1, p1, q1, rfl, rfl, rfl, h1, r1⟩ := trodAll_cons r0
  obtain ⟨v2, vs2, d2, ds2, p2, q2, rfl, rfl, rfl, h2, r2⟩ := trodAll_cons r1
  obtain ⟨rfl, rfl, rfl⟩ := trodAll_nil r2
  obtain rfl : args = #[v0, v1, v2] := by cases args; simp_all
  obtain ⟨a0, len0, cap0, z0, rfl, w0⟩ := open_limiter (hval 0 24 v0 rfl rfl) h0
  obtain ⟨a1, rfl, rfl, rfl, w1⟩ := open_int Try.underlying2 (hval 1 2 v1 rfl rfl) h1
  obtain ⟨a2, rfl, rfl, rfl, w2⟩ := open_int Try.underlying2 (hval 2 2 v2 rfl rfl) h2
  exact xcame_walk W a0 len0 cap0 z0 w0 a1 w1 a2 w2

set_option maxHeartbeats 4000000 in
theorem xcame_facts : joinedFacts Try.pinned.checked.prog 3 Try.f3 Rows.fnExactCameSpec Rows.fnExactCameRow = true :=
  facts_of (P := Try.prog) (by as_aux_lemma => kernel_rfl) laidOut mapsRow (by as_aux_lemma => kernel_rfl) (by as_aux_lemma => kernel_rfl) rfl noStops rfl noKnobs (by as_aux_lemma => kernel_rfl) (by as_aux_lemma => kernel_rfl) (by as_aux_lemma => kernel_rfl) (by as_aux_lemma => kernel_rfl) (by as_aux_lemma => kernel_rfl) (by as_aux_lemma => kernel_rfl) (by as_aux_lemma => kernel_rfl) (by as_aux_lemma => kernel_rfl) (by as_aux_lemma => kernel_rfl) rfl (by as_aux_lemma => kernel_rfl) (by as_aux_lemma => kernel_rfl) (by as_aux_lemma => kernel_rfl) keysPlain rfl heard enters finals isMake rfl rfl rfl (by as_aux_lemma => kernel_rfl) (by as_aux_lemma => kernel_rfl)

/-- The given statement. -/
theorem xcame_holds : Rows.FnExactCameSaid :=
  OpenClaim.holds_of_wide 3 Try.f3 rfl rfl rfl rfl rfl rfl rfl ⟨rfl, rfl, rfl, rfl, rfl⟩ rfl rfl rfl rfl rfl (by as_aux_lemma => kernel_rfl) Try.func3 xcame_facts
    (of_decide_eq_true (by as_aux_lemma => kernel_rfl)) (by unfold Func.isWrapper; first | (rw [if_pos (by decide +kernel)]; kernel_rfl) | (rw [if_neg (by decide +kernel)]; exact ⟨rfl, rfl⟩))
    (fun os started H enc _ => xcame_lifted os started H enc)
#print axioms xcame_holds
end Go.Proofs.Ytckonbbdeohccaa
