/- In whatever order intervals stand they agree in the same: at all drawn intervals. -/
import Derived.Test.YtoejeekepagfcaaIvsDraw
import Derived.Test.YtoejeekepagfcaaAgreeLess
namespace Go.Proofs.Ytoejeekepagfcaa
open Go.ChangeShapes Go.WideShapes Go.ChangeAt Go.RowKit
set_option linter.unusedVariables false
set_option linter.unusedSimpArgs false

theorem depth_perm {l l' : List Iv} (h : l.Perm l') (p : Int) : depthOf l p = depthOf l' p := h.countP_eq _
theorem agr_perm {l l' : List Iv} (h : l.Perm l') {lo hi M : Int} (hA : Agr l lo hi M) : Agr l' lo hi M := by
  have hok : okIvs l' = okIvs l := by
    unfold okIvs okAll
    rw [h.length_eq]
    congr 1
    exact (h.all_eq).symm
  rcases hA with ⟨a, b, c⟩ | ⟨a, b⟩
  · refine .inl ⟨by rw [hok]; exact a, fun e => b (by subst e; exact h.eq_nil), c.pos, by rw [← depth_perm h]; exact c.depth, ?_, fun v hv => ?_, ?_, fun v hv hin => c.first v (h.mem_iff.2 hv) hin⟩
    · obtain ⟨v, hv, e⟩ := c.from_
      exact ⟨v, h.mem_iff.1 hv, e⟩
    · rw [← depth_perm h]
      exact c.most v (h.mem_iff.2 hv)
    · obtain ⟨v, hv, e⟩ := c.end_
      exact ⟨v, h.mem_iff.1 hv, e⟩
  · refine .inr ⟨?_, b⟩
    rcases a with a | a
    · exact .inl (by rw [hok]; exact a)
    · subst a
      exact .inr h.symm.eq_nil

theorem drop_rev {l : List Iv} {j : Nat} {v : Iv} (h : l[j]? = some v) : (l.drop j).reverse = (l.drop (j + 1)).reverse ++ [v] := by
  obtain ⟨hl, rfl⟩ := List.getElem?_eq_some_iff.1 h
  rw [List.drop_eq_getElem_cons hl, List.reverse_cons]

set_option maxHeartbeats 2000000 in
theorem io_walk (w : World) (x : Option Addr) (n cap z : Nat) (hz : z = n ∧ Code w.heap.size w (.slice x n cap) n) :
    Calls Try.prog 11 #[.slice x n cap] w fun e w' => e = .returned (.bool true) ∧ Below w.heap.size w w' := by
  obtain ⟨_, hc⟩ := hz
  by_cases hbig : n ≤ 1048576
  · obtain ⟨i0, hi, hz0, hz1, hz2⟩ := info_partsT infoIv'
    have HI0 := Lib.hid hi
    have HZ0 := Lib.hid hz0
    have HZ1 := Lib.hid hz1
    have HZ2 := Lib.hid hz2
    clear hi hz0 hz1 hz2
    go_enter Try.func11, Try.ntmps11
    go_wp2_with (go_at_call 27; go_in)
    refine (drawAgreed_c x n cap _ hc hbig).mono ?_
    rintro e w1 ⟨y, c, l, rfl, hl8, hrow, hb1⟩
    obtain ⟨m, hm⟩ : ∃ m, m = l.length := ⟨_, rfl⟩
    have hm8 : m ≤ 8 := by rw [hm]; exact hl8
    have HM := Lib.hid hm
    rw [← hm]
    clear hm hl8
    go_wp2_with fail
    refine (agreed_impl l m HM (by omega) y c _ hrow.ivs).mono ?_
    rintro e w2 ⟨lo, hi, M, rfl, hA, hb2⟩
    have HA := Lib.hid hA
    clear hA
    have g2 := grow_next hb1 hb2
    have B2 := blk_new w2 (.cells #[.int .i64 lo, .int .i64 hi] 25)
    have r2 := (hrow.next hb2).next (below_new w2 (.cells #[.int .i64 lo, .int .i64 hi] 25))
    have g2' : Below w.heap.size w (w2.alloc (.cells #[.int .i64 lo, .int .i64 hi] 25)) := g2.alloc (by have := g2.size; omega) _
    clear hrow hb1 hb2
    go_wp2_with fail
    refine (agreed_spec l m HM (by omega) y c _ r2.ivs).mono ?_
    rintro e w3 ⟨lo', hi', M', rfl, hA', hb3⟩
    obtain ⟨e1, e2, e3⟩ := HA.out.same hA'
    subst e1 e2 e3
    clear hA'
    have g3 := grow_next g2' hb3
    have B3 := blk_next hb3 B2
    have l3 := (Array.getElem?_eq_some_iff.1 B3).1
    obtain ⟨b0, b1⟩ := iv_cells (q := ⟨lo, hi⟩) B3
    have C3 := blk_new w3 (.cells #[.int .i64 lo, .int .i64 hi] 25)
    obtain ⟨c0, c1⟩ := iv_cells (q := ⟨lo, hi⟩) C3
    dsimp only at b0 b1 c0 c1
    have B3' := blk_alloc B3 (.cells #[.int .i64 lo, .int .i64 hi] 25)
    have r3 := (r2.next hb3).next (below_new w3 (.cells #[.int .i64 lo, .int .i64 hi] 25))
    have g3' : Below w.heap.size w (w3.alloc (.cells #[.int .i64 lo, .int .i64 hi] 25)) := g3.alloc (by have := g3.size; omega) _
    clear g2 g2' g3 r2 hb3 B2 B3 C3
    have hrow0 := World.ownsRow_made (base := (w3.alloc (.cells #[.int .i64 lo, .int .i64 hi] 25)).heap.size) (e := 25) (size := 2) (w3.alloc (.cells #[.int .i64 lo, .int .i64 hi] 25)) #[] 0 (Nat.le_refl _) (by simp [maxLen]) rfl
    rw [World.size_alloc] at hrow0
    go_wp2_with fail
    go_loopw [8, 9] (fun o i wr => ∃ j : Nat, j ≤ m ∧ i = .int .i64 ((j : Int) - 1) ∧ wr.ownsRow (w3.heap.size + 1) 25 2 o (m - j) (flatIv ((l.drop j).reverse)) ∧ Below (w3.alloc (.cells #[.int .i64 lo, .int .i64 hi] 25)).heap.size (w3.alloc (.cells #[.int .i64 lo, .int .i64 hi] 25)) wr) (fun _ i _ => (intOf i + 1).toNat)
    case atStart => exact ⟨m, Nat.le_refl _, rfl, by rw [HM.out, List.drop_length, Nat.sub_self]; exact hrow0, below_new _ _⟩
    case round =>
      obtain ⟨j, hj, rfl, hrow, hb⟩ := hrel
      clear b0 b1 c0 c1
      rcases Nat.eq_zero_or_pos j with rfl | hj0
      · have hF : (l.drop 0).reverse = l.reverse := by simp
        rw [hF] at hrow
        obtain ⟨u, cu, rfl⟩ := ownsRow_formT hrow
        have HR := Lib.hid (show m - 0 = l.reverse.length by rw [List.length_reverse, ← HM.out]; rfl)
        have hrow' : IvRow (w3.heap.size + 1) wr u cu l.reverse := by
          unfold IvRow
          rw [← HR.out]
          exact hrow
        have g4 := grow_next g3' hb
        have Bw := blk_next hb B3'
        clear hrow hF
        simp only [Nat.sub_zero] at HR ⊢
        go_wp2_with fail
        refine (agreed_impl l.reverse m HR (by omega) u cu _ hrow'.ivs).mono ?_
        rintro e w5 ⟨lo', hi', M', rfl, hA', hb5⟩
        obtain ⟨e1, e2, e3⟩ := (agr_perm (List.reverse_perm l).symm HA.out).same hA'
        subst e1 e2 e3
        clear hA'
        have g5 := grow_next g4 hb5
        have B5 := blk_next hb5 Bw
        have l5 := (Array.getElem?_eq_some_iff.1 B5).1
        obtain ⟨b0, b1⟩ := iv_cells (q := ⟨lo, hi⟩) B5
        have D5 := blk_new w5 (.cells #[.int .i64 lo, .int .i64 hi] 25)
        obtain ⟨d0, d1⟩ := iv_cells (q := ⟨lo, hi⟩) D5
        dsimp only at b0 b1 d0 d1
        have g5' : Below w.heap.size w (w5.alloc (.cells #[.int .i64 lo, .int .i64 hi] 25)) := g5.alloc (by have := g5.size; omega) _
        go_wp2_with fail
        go_returns
        exact ⟨by simp, g5'⟩
      · obtain ⟨v, hv⟩ := get_at (l := l) (k := j - 1) (by rw [← HM.out]; omega)
        have hdr := drop_rev hv
        rw [show j - 1 + 1 = j by omega] at hdr
        obtain ⟨b, off, rfl, hbB, d0, d1⟩ := (r3.next hb).ivs.at_ hv
        have hF := Lib.hid (show flatIv ((l.drop (j - 1)).reverse) = flatIv ((l.drop j).reverse) ++ [.int .i64 v.lo, .int .i64 v.hi] by rw [hdr, flatIv_append]; rfl)
        have hj1 : ((j : Int) - 1).toNat = j - 1 := by omega
        have hj2 : (0 : Int) ≤ (j : Int) - 1 := by omega
        have hj3 : (j : Int) - 1 < (m : Int) := by omega
        have hmj : m - (j - 1) = m - j + 1 := by omega
        have hsz := hb.size
        clear hv hdr
        go_wp2_with (at_builtin; refine wpList_append_own _ rfl _ _ 28 rfl (w3.heap.size + 1) 25 i0 (.agg #[.int .i64 0, .int .i64 0]) 2 16 Try.underlying28 HI0.out HZ0.out HZ1.out HZ2.out rfl (by decide) _ _ _ rfl (hrow.alloc _) ⟨wr.heap.size, 0, none⟩ 1 1 [.int .i64 v.lo, .int .i64 v.hi] rfl rfl (cell_two_new wr _ _ _) (by simp [Value.oneCell']) (by unfold maxLen; omega) (by omega) (by simp at hsz ⊢; omega) ?_; intro v' w5 hown' hgrow _)
        have hgrow' : (wr.alloc (.cells #[.int .i64 v.lo, .int .i64 v.hi] 25)).grownBy w5 u8.ownBlock := hgrow
        clear hgrow
        go_roundw
        case rel =>
          refine ⟨j - 1, by omega, by rw [show (((j - 1 : Nat) : Int) - 1) = (j : Int) - 1 - 1 from by omega], ?_, ?_⟩
          · rw [hF.out, hmj]
            exact hown'
          · exact (hb.alloc hsz (.cells #[.int .i64 v.lo, .int .i64 v.hi] 25)).grown hgrow' (by simp at hsz ⊢; omega) (fun g hg => by have := (hrow.lt g hg).1; simp; omega)
        case measure => simp [intOf]; omega
  · go_enter Try.func11, Try.ntmps11
    go_wp2_with (go_at_call 27; go_in)
    go_returns
    exact ⟨rfl, Below.refl _ _⟩
set_option maxRecDepth 100000 in
theorem io_lifted (os : Os) (started : os.Started) (H : Type) (enc : TypeId × Value → H) :
    ReturnsInHanded {} Try.checked os 11 .any (Rows.fnIntervalOrderSpec.pre6 enc Try.prog Try.f11 Rows.fnIntervalOrderRow.domain false) (Rows.fnIntervalOrderSpec.post enc Try.prog Try.f11 false true false false) := by
  refine lifted_of_walk (C := Try.checked) own started (by as_aux_lemma => kernel_rfl) Try.func11
    (ChangeSpec.witness6 (enc := enc) (C := Try.checked) false ⟨#[], #[.slice none 0 0], []⟩ 8 (by as_aux_lemma => kernel_rfl) (by as_aux_lemma => kernel_rfl) (by as_aux_lemma => kernel_rfl) (by as_aux_lemma => kernel_rfl) (by as_aux_lemma => kernel_rfl))
    laidOut rfl (by as_aux_lemma => kernel_rfl) (by as_aux_lemma => kernel_rfl) boolType
    (fun ds h => by
      match ds, h with
      | [_], _ => rfl)
    ?_
  intro W base args ds q hval hA
  rw [Try.params11] at hA hval
  obtain ⟨v0, vs0, d0, ds0, p0, q0, hargs, rfl, rfl, h0, r0⟩ := trodAll_cons hA
  obtain ⟨rfl, rfl, rfl⟩ := trodAll_nil r0
  obtain rfl : args = #[v0] := by cases args; simp_all
  obtain ⟨a0, len0, cap0, z0, rfl, w0⟩ := open_bytes Try.underlying40 Try.underlying5 (by as_aux_lemma => kernel_rfl) (hval 0 40 v0 rfl rfl) h0
  exact io_walk W a0 len0 cap0 z0 w0

theorem io_facts : joinedFacts Try.pinned.checked.prog 11 Try.f11 Rows.fnIntervalOrderSpec Rows.fnIntervalOrderRow = true :=
  facts_of (P := Try.prog) (by as_aux_lemma => kernel_rfl) laidOut mapsRow (by as_aux_lemma => kernel_rfl) (by as_aux_lemma => kernel_rfl) rfl noStops rfl noKnobs (by as_aux_lemma => kernel_rfl) (by as_aux_lemma => kernel_rfl) (by as_aux_lemma => kernel_rfl) (by as_aux_lemma => kernel_rfl) (by as_aux_lemma => kernel_rfl) (by as_aux_lemma => kernel_rfl) (by as_aux_lemma => kernel_rfl) (by as_aux_lemma => kernel_rfl) (by as_aux_lemma => kernel_rfl) rfl (by as_aux_lemma => kernel_rfl) (by as_aux_lemma => kernel_rfl) (by as_aux_lemma => kernel_rfl) keysPlain rfl heard enters finals isMake rfl rfl rfl (by as_aux_lemma => kernel_rfl) (by as_aux_lemma => kernel_rfl)

/-- The given statement. -/
theorem io_holds : Rows.FnIntervalOrderSaid :=
  OpenClaim.holds_of_wide 11 Try.f11 rfl rfl rfl rfl rfl rfl rfl ⟨rfl, rfl, rfl, rfl, rfl⟩ rfl rfl rfl rfl rfl (by as_aux_lemma => kernel_rfl) Try.func11 io_facts
    (of_decide_eq_true (by as_aux_lemma => kernel_rfl)) (by unfold Func.isWrapper; first | (rw [if_pos (by decide +kernel)]; kernel_rfl) | (rw [if_neg (by decide +kernel)]; exact ⟨rfl, rfl⟩))
    (fun os started H enc _ => io_lifted os started H enc)
#print axioms io_holds
end Go.Proofs.Ytoejeekepagfcaa
