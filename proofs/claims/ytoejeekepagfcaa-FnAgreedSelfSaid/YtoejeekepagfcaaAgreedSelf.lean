/- Intervals that are all one agree in it, all of them: at all drawn intervals. -/
import Derived.Test.YtoejeekepagfcaaIvsDraw
import Derived.Test.YtoejeekepagfcaaAgreeLess
namespace Go.Proofs.Ytoejeekepagfcaa
open Go.ChangeShapes Go.WideShapes Go.ChangeAt Go.RowKit
set_option linter.unusedVariables false
set_option linter.unusedSimpArgs false

theorem self_is {v : Iv} (h : v.lo ≤ v.hi) : AgreedIs [v, v, v] v.lo v.hi 3 := by
  have hin : inB v.lo v.lo v.hi = true := inB_yes (Int.le_refl _) h
  have hd : depthOf [v, v, v] v.lo = 3 := by simp [depthOf, List.countP_cons, hin]
  refine ⟨by omega, by rw [hd]; rfl, ⟨v, by simp, rfl⟩, fun u hu => ?_, ⟨v, by simp, hin, rfl⟩, fun u hu _ => ?_⟩
  · simp at hu
    subst hu
    rw [hd]
    exact ⟨Int.le_refl _, fun _ => Int.le_refl _⟩
  · simp at hu
    subst hu
    exact Int.le_refl _
theorem self_agr {v : Iv} (h : v.ok = true) {lo hi M : Int} (hA : Agr [v, v, v] lo hi M) : lo = v.lo ∧ hi = v.hi ∧ M = 3 := by
  have ho : okIvs [v, v, v] = true := by simp [okIvs, okAll, h]
  exact hA.same (.inl ⟨ho, by simp, self_is (Iv.ok_iff.1 h).2.1⟩)
theorem ivs3 {w : World} {q : Nat} {v : Iv} (h : w.heap[q]? = some (.cells #[.int .i64 v.lo, .int .i64 v.hi, .int .i64 v.lo, .int .i64 v.hi, .int .i64 v.lo, .int .i64 v.hi] 25)) : Ivs w.heap.size w (some ⟨q, 0, none⟩) [v, v, v] := by
  refine .inr ⟨q, 0, rfl, (Array.getElem?_eq_some_iff.1 h).1, fun i u j z hi hj => ?_⟩
  have hil := (List.getElem?_eq_some_iff.1 hi).1
  have hjl := (List.getElem?_eq_some_iff.1 hj).1
  simp at hil
  have hu : u = v := by
    have := List.mem_of_getElem? hi
    simpa using this
  subst hu
  have hj2 : j < 2 := hjl
  rcases (show i = 0 ∨ i = 1 ∨ i = 2 by omega) with rfl | rfl | rfl <;> rcases (show j = 0 ∨ j = 1 by omega) with rfl | rfl <;> (simp [Iv.row] at hj; subst hj; simp [World.cell?, h])

theorem blk_first (w : World) (o o' : Obj) : ((w.alloc o).alloc o').drew.heap[w.heap.size]? = some o := blk_alloc (blk_new w o) o'
theorem blk_second (w : World) (o o' : Obj) : ((w.alloc o').alloc o).drew.heap[w.heap.size + 1]? = some o := by
  have := blk_new (w.alloc o') o
  rw [World.size_alloc] at this
  exact this
theorem two_kept {wr X : World} {b o o' : Nat} {u v : Value} (d0 : wr.cell? ⟨b, o, none⟩ = some u) (d1 : wr.cell? ⟨b, o', none⟩ = some v) (lb : b < wr.heap.size) (h : Below wr.heap.size wr X) : X.cell? ⟨b, o, none⟩ = some u ∧ X.cell? ⟨b, o', none⟩ = some v :=
  ⟨(h.cell (p := ⟨b, o, none⟩) lb).trans d0, (h.cell (p := ⟨b, o', none⟩) lb).trans d1⟩
theorem below_one (w : World) (o : Obj) : Below w.heap.size w (w.drew.alloc o) := (below_drewR (Below.refl _ _)).alloc (Nat.le_refl _) o
theorem below_twoA (w : World) (o o' : Obj) : Below w.heap.size w ((w.alloc o).alloc o') := (below_new w o).alloc (by simp) o'
theorem below_twoB (w : World) (o o' : Obj) : Below w.heap.size w ((w.drew.alloc o).alloc o') := (below_one w o).alloc (by simp) o'
theorem below_twoC (w : World) (o o' : Obj) : Below w.heap.size w ((w.alloc o).drew.alloc o') := (below_newd w o).alloc (by simp) o'
theorem below_then {wr a : World} (h : Below wr.heap.size wr a) (o : Obj) : Below wr.heap.size wr (a.alloc o) := h.alloc h.size o
theorem below_put2 {wr a : World} {q : Nat} (h : Below wr.heap.size wr a) (hq : wr.heap.size ≤ q) (u v : Value) : Below wr.heap.size wr ((a.setCell ⟨q, 0, none⟩ u).setCell ⟨q, 1, none⟩ v) := below_setCell (below_setCell h hq _ _) hq _ _
theorem below_nil (w : World) : Below w.heap.size w w.drew := below_drewR (Below.refl _ _)
theorem below_two (w : World) (o o' : Obj) : Below w.heap.size w ((w.alloc o).alloc o').drew := below_drewR ((below_new w o).alloc (by simp) o')
theorem below_more {w a b : World} (h : Below w.heap.size w a) (hb : Below a.heap.size a b) : Below w.heap.size w b := grow_next h hb

set_option maxHeartbeats 4000000 in
theorem as_walk (w : World) (x : Option Addr) (n cap z : Nat) (hz : z = n ∧ Code w.heap.size w (.slice x n cap) n) :
    Calls Try.prog 10 #[.slice x n cap] w fun e w' => e = .returned (.bool true) ∧ Below w.heap.size w w' := by
  obtain ⟨_, hc⟩ := hz
  by_cases hbig : n ≤ 1048576
  · go_enter Try.func10, Try.ntmps10
    go_wp2_with (go_at_call 27; go_in)
    refine (drawAgreed_c x n cap _ hc hbig).mono ?_
    rintro e w1 ⟨y, c, l, rfl, hl8, hrow, hb1⟩
    obtain ⟨m, hm⟩ : ∃ m, m = l.length := ⟨_, rfl⟩
    have hm8 : m ≤ 8 := by rw [hm]; exact hl8
    have HM := Lib.hid hm
    rw [← hm]
    clear hm hl8
    go_wp2_with fail
    refine (agreed_impl l m HM (by omega) y c _ hrow.ivs).mono ?_
    rintro e w2 ⟨lo, hi, M, rfl, hA, hb2⟩
    have HA := Lib.hid hA
    obtain ⟨M0, M1⟩ := hA.bounds
    rw [← HM.out] at M1
    clear hA
    have g2 := grow_next hb1 hb2
    have B2 := blk_new w2 (.cells #[.int .i64 lo, .int .i64 hi] 25)
    have r2 := (hrow.next hb2).next (below_new w2 (.cells #[.int .i64 lo, .int .i64 hi] 25))
    have g2' : Below w.heap.size w (w2.alloc (.cells #[.int .i64 lo, .int .i64 hi] 25)) := g2.alloc (by have := g2.size; omega) _
    clear hrow hb1 hb2
    go_wp2_with fail
    refine (agreed_spec l m HM (by omega) y c _ r2.ivs).mono ?_
    rintro e w3 ⟨lo', hi', M', rfl, hA', hb3⟩
    obtain ⟨e1, e2, e3⟩ := HA.out.same hA'
    subst e1 e2 e3
    clear hA'
    have g3 := grow_next g2' hb3
    have B3 := blk_next hb3 B2
    have r3 := (r2.next hb3).next (below_new w3 (.cells #[.int .i64 lo, .int .i64 hi] 25))
    have C3 := blk_new w3 (.cells #[.int .i64 lo, .int .i64 hi] 25)
    have g3' : Below w.heap.size w (w3.alloc (.cells #[.int .i64 lo, .int .i64 hi] 25)) := g3.alloc (by have := g3.size; omega) _
    have l3 := (Array.getElem?_eq_some_iff.1 B3).1
    obtain ⟨b0, b1⟩ := iv_cells (q := ⟨lo, hi⟩) B3
    obtain ⟨c0, c1⟩ := iv_cells (q := ⟨lo, hi⟩) C3
    dsimp only at b0 b1 c0 c1
    clear g2 g2' g3 r2 hb3 B2
    by_cases h0 : M = 0
    · have e0 : (M == 0) = true := by simp [h0]
      clear h0
      go_wp2_with fail
      go_returns
      exact ⟨by simp, g3'⟩
    · have e0 : (M == 0) = false := by simp [h0]
      have HK := Lib.hid (show okAll l = true by
        rcases HA.out with ⟨ho, _⟩ | ⟨_, _, _, h⟩
        · exact (okIvs_parts ho).1
        · exact absurd h h0)
      have hr := r3.ivs
      clear h0
      go_wp2_with fail
      go_loopw [8] (fun i wr => ∃ k : Nat, k ≤ m ∧ i = .int .i64 k ∧ Below (w3.alloc (.cells #[.int .i64 lo, .int .i64 hi] 25)).heap.size (w3.alloc (.cells #[.int .i64 lo, .int .i64 hi] 25)) wr) (fun i _ => m - (intOf i).toNat)
      case atStart => exact ⟨0, Nat.zero_le _, rfl, Below.refl _ _⟩
      case round =>
        obtain ⟨k, hk, rfl, hb⟩ := hrel
        clear b0 b1 c0 c1
        by_cases hlt : k < m
        · obtain ⟨v, hv⟩ := get_at (l := l) (k := k) (by rw [← HM.out]; exact hlt)
          obtain ⟨b, off, rfl, hbB, d0, d1⟩ := (hr.next hb).at_ hv
          have HV := Lib.hid hv
          have HS := Lib.hid (fun (lo hi M : Int) (h : Agr [v, v, v] lo hi M) => self_agr (List.all_eq_true.1 HK.out v (List.mem_of_getElem? HV.out)) h)
          have hr1 := hr.next hb
          clear hv
          go_wp2_with fail
          have lb : b < wr.heap.size := hbB
          have l2 : w2.heap.size < wr.heap.size := by have := hb.size; simp at this; omega
          go_region_held3 (fun w' => w'.cell? ⟨b, off + k * 2, none⟩ = some (.int .i64 v.lo) ∧ w'.cell? ⟨b, off + k * 2 + 1, none⟩ = some (.int .i64 v.hi))
            (first | exact ⟨d0, d1⟩ | assumption | exact two_kept d0 d1 lb (by first | assumption | exact below_then (by assumption) _ | exact below_put2 (by assumption) (by omega) _ _ | exact below_nil _ | exact below_newd _ _ | exact below_new _ _ | exact below_one _ _ | exact below_two _ _ _ | exact below_twoA _ _ _ | exact below_twoB _ _ _ | exact below_twoC _ _ _))
            ((go_at_call 16; (refine (agreed_impl [v, v, v] 3 (Lib.hid rfl) (by omega) (some ⟨_, 0, none⟩) 3 _ (ivs3 (by first | exact blk_newd _ _ | exact blk_first _ _ _ | exact blk_second _ _ _))).mono ?_); rintro e w5 ⟨lo5, hi5, M5, rfl, hA5, hb5⟩; obtain ⟨e1, e2, e3⟩ := HS.out _ _ _ hA5; subst e1 e2 e3; clear hA5; have h5 : Below wr.heap.size wr w5 := below_more (by first | exact below_newd _ _ | exact below_two _ _ _) hb5; (first | (have Z : w5.heap[wr.heap.size + 1]? = some (.cells #[.int .i64 0, .int .i64 0] 25) := blk_next hb5 (blk_second _ _ _); have Zc := iv_cells (q := ⟨0, 0⟩) Z; have Zf := iv_thaw (q := ⟨0, 0⟩) Z; dsimp only at Zc) | (have Z : w5.heap[wr.heap.size]? = some (.cells #[.int .i64 0, .int .i64 0] 25) := blk_next hb5 (blk_first _ _ _); have Zc := iv_cells (q := ⟨0, 0⟩) Z; have Zf := iv_thaw (q := ⟨0, 0⟩) Z; dsimp only at Zc) | skip)))
          · have E := two_kept d0 d1 lb (below_then h5 (.cells #[.int .i64 v.lo, .int .i64 v.hi] 25))
            have g5 := grow_next hb (below_then h5 (.cells #[.int .i64 v.lo, .int .i64 v.hi] 25))
            have Zc := iv_cells (q := v) (blk_new w5 (.cells #[.int .i64 v.lo, .int .i64 v.hi] 25))
            go_wp2_with fail
            go_quiet (fail)
            go_wp2_with fail
            go_roundw
            case rel => exact ⟨k + 1, by omega, by go_num, grow_drew g5 _⟩
            case measure => simp [intOf]; omega
          · have E := two_kept d0 d1 lb (below_put2 (q := wr.heap.size + 1) h5 (by omega) (.int .i64 v.lo) (.int .i64 v.hi))
            have g5 := grow_next hb (below_put2 (q := wr.heap.size + 1) h5 (by omega) (.int .i64 v.lo) (.int .i64 v.hi))
            have Zd := iv_cells (iv_put (q := ⟨0, 0⟩) Z v)
            clear Zc Zf
            go_wp2_with fail
            go_quiet (fail)
            go_wp2_with fail
            go_roundw
            case rel => exact ⟨k + 1, by omega, by go_num, grow_drew g5 _⟩
            case measure => simp [intOf]; omega
          · have E := two_kept d0 d1 lb (below_put2 (q := wr.heap.size) h5 (by omega) (.int .i64 v.lo) (.int .i64 v.hi))
            have g5 := grow_next hb (below_put2 (q := wr.heap.size) h5 (by omega) (.int .i64 v.lo) (.int .i64 v.hi))
            have Zd := iv_cells (iv_put (q := ⟨0, 0⟩) Z v)
            clear Zc Zf
            go_wp2_with fail
            go_quiet (fail)
            go_wp2_with fail
            go_roundw
            case rel => exact ⟨k + 1, by omega, by go_num, grow_drew g5 _⟩
            case measure => simp [intOf]; omega
        · have g4 := grow_next g3' hb
          go_wp2_with fail
          go_returns
          exact ⟨rfl, g4⟩
  · go_enter Try.func10, Try.ntmps10
    go_wp2_with (go_at_call 27; go_in)
    go_returns
    exact ⟨rfl, Below.refl _ _⟩
set_option maxRecDepth 100000 in
theorem as_lifted (os : Os) (started : os.Started) (H : Type) (enc : TypeId × Value → H) :
    ReturnsInHanded {} Try.checked os 10 .any (Rows.fnAgreedSelfSpec.pre6 enc Try.prog Try.f10 Rows.fnAgreedSelfRow.domain false) (Rows.fnAgreedSelfSpec.post enc Try.prog Try.f10 false true false false) := by
  refine lifted_of_walk (C := Try.checked) own started (by as_aux_lemma => kernel_rfl) Try.func10
    (ChangeSpec.witness6 (enc := enc) (C := Try.checked) false ⟨#[], #[.slice none 0 0], []⟩ 8 (by as_aux_lemma => kernel_rfl) (by as_aux_lemma => kernel_rfl) (by as_aux_lemma => kernel_rfl) (by as_aux_lemma => kernel_rfl) (by as_aux_lemma => kernel_rfl))
    laidOut rfl (by as_aux_lemma => kernel_rfl) (by as_aux_lemma => kernel_rfl) boolType
    (fun ds h => by
      match ds, h with
      | [_], _ => rfl)
    ?_
  intro W base args ds q hval hA
  rw [Try.params10] at hA hval
  obtain ⟨v0, vs0, d0, ds0, p0, q0, hargs, rfl, rfl, h0, r0⟩ := trodAll_cons hA
  obtain ⟨rfl, rfl, rfl⟩ := trodAll_nil r0
  obtain rfl : args = #[v0] := by cases args; simp_all
  obtain ⟨a0, len0, cap0, z0, rfl, w0⟩ := open_bytes Try.underlying40 Try.underlying5 (by as_aux_lemma => kernel_rfl) (hval 0 40 v0 rfl rfl) h0
  exact as_walk W a0 len0 cap0 z0 w0

theorem as_facts : joinedFacts Try.pinned.checked.prog 10 Try.f10 Rows.fnAgreedSelfSpec Rows.fnAgreedSelfRow = true :=
  facts_of (P := Try.prog) (by as_aux_lemma => kernel_rfl) laidOut mapsRow (by as_aux_lemma => kernel_rfl) (by as_aux_lemma => kernel_rfl) rfl noStops rfl noKnobs (by as_aux_lemma => kernel_rfl) (by as_aux_lemma => kernel_rfl) (by as_aux_lemma => kernel_rfl) (by as_aux_lemma => kernel_rfl) (by as_aux_lemma => kernel_rfl) (by as_aux_lemma => kernel_rfl) (by as_aux_lemma => kernel_rfl) (by as_aux_lemma => kernel_rfl) (by as_aux_lemma => kernel_rfl) rfl (by as_aux_lemma => kernel_rfl) (by as_aux_lemma => kernel_rfl) (by as_aux_lemma => kernel_rfl) keysPlain rfl heard enters finals isMake rfl rfl rfl (by as_aux_lemma => kernel_rfl) (by as_aux_lemma => kernel_rfl)

/-- The given statement. -/
theorem as_holds : Rows.FnAgreedSelfSaid :=
  OpenClaim.holds_of_wide 10 Try.f10 rfl rfl rfl rfl rfl rfl rfl ⟨rfl, rfl, rfl, rfl, rfl⟩ rfl rfl rfl rfl rfl (by as_aux_lemma => kernel_rfl) Try.func10 as_facts
    (of_decide_eq_true (by as_aux_lemma => kernel_rfl)) (by unfold Func.isWrapper; first | (rw [if_pos (by decide +kernel)]; kernel_rfl) | (rw [if_neg (by decide +kernel)]; exact ⟨rfl, rfl⟩))
    (fun os started H enc _ => as_lifted os started H enc)
#print axioms as_holds
end Go.Proofs.Ytoejeekepagfcaa
