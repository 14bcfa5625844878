/- With an interval more no fewer agree, and at most one more: at all drawn intervals. -/
import Derived.Test.YtecedbhjfpgkmaaIvsDraw
import Derived.Test.YtecedbhjfpgkmaaAgreedS
namespace Go.Proofs.Ytecedbhjfpgkmaa
open Go.ChangeShapes Go.WideShapes Go.ChangeAt Go.RowKit
set_option linter.unusedVariables false
set_option linter.unusedSimpArgs false

theorem depth_take (l : List Iv) (k : Nat) (p : Int) : depthOf (l.take k) p ≤ depthOf l p := by
  unfold depthOf
  exact List.Sublist.countP_le (List.take_sublist k l)
theorem depth_drop_last {l : List Iv} {k : Nat} {v : Iv} (h : l[k]? = some v) (hk : k + 1 = l.length) (p : Int) : (depthOf l p : Int) ≤ depthOf (l.take k) p + 1 := by
  have := depthOf_next h p
  rw [hk, List.take_length] at this
  rw [this]
  split <;> omega
theorem ok_take {l : List Iv} (h : okAll l = true) (k : Nat) : okAll (l.take k) = true := by
  simp only [okAll, List.all_eq_true] at h ⊢
  exact fun v hv => h v (List.mem_of_mem_take hv)
/-- At the place of the greatest depth of a right list there are as many as anywhere. -/
theorem AgreedIs.top {l : List Iv} {lo hi M : Int} (h : AgreedIs l lo hi M) (hok : okAll l = true) (p : Int) : (depthOf l p : Int) ≤ M := by
  -- the greatest beginning not beyond p
  by_cases h0 : depthOf l p = 0
  · have := h.pos; omega
  · have key : ∀ (r : List Iv), (∀ v ∈ r, v.lo ≤ v.hi) → (∃ v ∈ r, inB v.lo p v.hi = true) → ∃ v ∈ r, inB v.lo p v.hi = true ∧ ∀ u ∈ r, inB u.lo p u.hi = true → u.lo ≤ v.lo := by
      intro r
      induction r with
      | nil => intro _ ⟨v, hv, _⟩; cases hv
      | cons a r ih =>
        intro hr ⟨v, hv, hin⟩
        by_cases hex : ∃ v ∈ r, inB v.lo p v.hi = true
        · obtain ⟨b, hb, hbin, hbm⟩ := ih (fun v hv => hr v (by simp [hv])) hex
          by_cases hab : inB a.lo p a.hi = true ∧ b.lo < a.lo
          · refine ⟨a, by simp, hab.1, fun u hu huin => ?_⟩
            rcases List.mem_cons.1 hu with rfl | hu
            · exact Int.le_refl _
            · have := hbm u hu huin; omega
          · refine ⟨b, by simp [hb], hbin, fun u hu huin => ?_⟩
            rcases List.mem_cons.1 hu with rfl | hu
            · rcases Int.lt_or_le b.lo u.lo with h | h
              · exact absurd ⟨huin, h⟩ hab
              · exact h
            · exact hbm u hu huin
        · have hva : v = a := by
            rcases List.mem_cons.1 hv with rfl | hv
            · rfl
            · exact absurd ⟨v, hv, hin⟩ hex
          subst hva
          refine ⟨v, by simp, hin, fun u hu huin => ?_⟩
          rcases List.mem_cons.1 hu with rfl | hu
          · exact Int.le_refl _
          · exact absurd ⟨u, hu, huin⟩ hex
    have hex : ∃ v ∈ l, inB v.lo p v.hi = true := by
      have := List.countP_pos_iff.1 (Nat.pos_of_ne_zero h0)
      exact this
    obtain ⟨v, hv, hin, hmax⟩ := key l (fun v hv => ok_of hok hv) hex
    have hle : depthOf l p ≤ depthOf l v.lo := by
      unfold depthOf
      refine List.countP_mono_left fun u hu huin => ?_
      have h1 := hmax u hu huin
      obtain ⟨a, b⟩ := inB_iff.1 huin
      obtain ⟨c, d⟩ := inB_iff.1 hin
      exact inB_yes h1 (by omega)
    have := (h.most v hv).1
    omega
theorem Ivs.take {B : Nat} {w : World} {x : Option Addr} {l : List Iv} (h : Ivs B w x l) (k : Nat) : Ivs B w x (l.take k) := by
  rcases h with rfl | ⟨b, off, e, hb, hc⟩
  · exact .inl (by simp)
  · refine .inr ⟨b, off, e, hb, fun i v j z hi hj => hc i v j z ?_ hj⟩
    rw [List.getElem?_take] at hi
    split at hi
    · exact hi
    · cases hi

/-- One interval less. -/
theorem agree_less {l : List Iv} {lo hi M lo' hi' m : Int} {k : Nat} (h : Agr l lo hi M) (hM : M ≠ 0) (hk : k + 1 = l.length) (h' : Agr (l.take k) lo' hi' m) : m ≤ M ∧ M ≤ m + 1 := by
  rcases h with ⟨ho, hne, hA⟩ | ⟨_, _, _, h0⟩
  · obtain ⟨hok, hlen⟩ := okIvs_parts ho
    obtain ⟨v, hv⟩ := get_at (l := l) (k := k) (by omega)
    have hok' := ok_take hok k
    have hd := hA.depth
    have hdl := depth_drop_last hv hk lo
    rcases h' with ⟨ho', hne', hA'⟩ | ⟨hor, _, _, h0'⟩
    · have h1 := hA.top hok lo'
      have h2 := hA'.top hok' lo
      have h3 := depth_take l k lo'
      have := hA'.depth
      omega
    · rcases hor with h | h
      · exfalso
        have : okIvs (l.take k) = true := by
          unfold okIvs
          rw [hok', List.length_take]
          simp
          omega
        rw [this] at h
        cases h
      · rw [h] at hdl
        have : depthOf [] lo = 0 := rfl
        have := hA.pos
        omega
  · exact absurd h0 hM

set_option maxHeartbeats 2000000 in
theorem ma_walk (w : World) (x : Option Addr) (n cap z : Nat) (hz : z = n ∧ Code w.heap.size w (.slice x n cap) n) :
    Calls Try.prog 10 #[.slice x n cap] w fun e w' => e = .returned (.bool true) ∧ Below w.heap.size w w' := by
  obtain ⟨_, hc⟩ := hz
  by_cases hbig : n ≤ 1048576
  · go_enter Try.func10, Try.ntmps10
    go_wp2_with (go_at_call 32; go_in)
    refine (drawAgreed_c x n cap _ hc hbig).mono ?_
    rintro e w1 ⟨y, c, l, rfl, hl8, hrow, hb1⟩
    obtain ⟨m, hm⟩ : ∃ m, m = l.length := ⟨_, rfl⟩
    have hm8 : m ≤ 8 := by rw [hm]; exact hl8
    have hmc : m ≤ c := by rw [hm]; exact hrow.cap_.1
    have hc63 := hrow.cap_.2
    unfold maxLen at hc63
    have HM := Lib.hid hm
    rw [← hm]
    clear hm hl8
    go_wp2_with fail
    refine (agreed_impl l m HM (by omega) y c _ hrow.ivs).mono ?_
    rintro e w2 ⟨lo, hi, M, rfl, hA, hb2⟩
    have HA := Lib.hid hA
    obtain ⟨M0, M1⟩ := hA.bounds
    rw [← HM.out] at M1
    clear hA
    have g2 := grow_next hb1 hb2
    have B2 := blk_new w2 (.cells #[.int .i64 lo, .int .i64 hi] 25)
    have r2 := (hrow.next hb2).next (below_new w2 (.cells #[.int .i64 lo, .int .i64 hi] 25))
    have g2' : Below w.heap.size w (w2.alloc (.cells #[.int .i64 lo, .int .i64 hi] 25)) := g2.alloc (by have := g2.size; omega) _
    clear hrow hb1 hb2
    go_wp2_with fail
    refine (agreed_spec l m HM (by omega) y c _ r2.ivs).mono ?_
    rintro e w3 ⟨lo', hi', M', rfl, hA', hb3⟩
    obtain ⟨e1, e2, e3⟩ := HA.out.same hA'
    subst e1 e2 e3
    clear hA'
    have g3 := grow_next g2' hb3
    have B3 := blk_next hb3 B2
    have r3 := (r2.next hb3).next (below_new w3 (.cells #[.int .i64 lo, .int .i64 hi] 25))
    have C3 := blk_new w3 (.cells #[.int .i64 lo, .int .i64 hi] 25)
    have g3' : Below w.heap.size w (w3.alloc (.cells #[.int .i64 lo, .int .i64 hi] 25)) := g3.alloc (by have := g3.size; omega) _
    have l3 := (Array.getElem?_eq_some_iff.1 B3).1
    obtain ⟨b0, b1⟩ := iv_cells (q := ⟨lo, hi⟩) B3
    obtain ⟨c0, c1⟩ := iv_cells (q := ⟨lo, hi⟩) C3
    dsimp only at b0 b1 c0 c1
    clear g2 g2' g3 r2 hb3 B2
    by_cases h0 : M = 0
    · have e0 : (M == 0) = true := by simp [h0]
      clear h0
      go_wp2_with fail
      go_returns
      exact ⟨by simp, g3'⟩
    · have e0 : (M == 0) = false := by simp [h0]
      have hm1 : 1 ≤ m := by omega
      have HL := Lib.hid (fun (lo' hi' k : Int) (h : Agr (l.take (m - 1)) lo' hi' k) => agree_less HA.out h0 (k := m - 1) (by have := HM.out; omega) h)
      have hmt : ((m : Int) - 1).toNat = m - 1 := by omega
      have hm2 : (0 : Int) ≤ (m : Int) - 1 := by omega
      have hm3 : (m : Int) - 1 ≤ (c : Int) := by omega
      have HN := Lib.hid (show m - 1 = (l.take (m - 1)).length by rw [List.length_take]; have := HM.out; omega)
      obtain ⟨v, hv⟩ := get_at (l := l) (k := 0) (by rw [← HM.out]; omega)
      obtain ⟨gg, off, rfl, _⟩ := r3.ivs.at_ hv
      clear h0 hv
      go_wp2_with fail
      refine (agreed_impl (l.take (m - 1)) (m - 1) HN (by omega) (some ⟨gg, off, none⟩) c _ (r3.ivs.take _)).mono ?_
      rintro e w4 ⟨lo2, hi2, k, rfl, hA2, hb4⟩
      obtain ⟨k0, k1⟩ := hA2.bounds
      obtain ⟨q1, q2⟩ := HL.out _ _ _ hA2
      rw [List.length_take] at k1
      clear hA2
      have g4 := grow_next g3' hb4
      have g4' : Below w.heap.size w (w4.alloc (.cells #[.int .i64 lo2, .int .i64 hi2] 25)) := g4.alloc (by have := g4.size; omega) _
      have d1 : decide (k ≤ M) = true := decide_eq_true q1
      have d2 : decide (M ≤ k + 1) = true := decide_eq_true q2
      go_wp2_with fail
      go_returns
      exact ⟨by simp, g4'⟩
  · go_enter Try.func10, Try.ntmps10
    go_wp2_with (go_at_call 32; go_in)
    go_returns
    exact ⟨rfl, Below.refl _ _⟩
set_option maxRecDepth 100000 in
theorem ma_lifted (os : Os) (started : os.Started) (H : Type) (enc : TypeId × Value → H) :
    ReturnsInHanded {} Try.checked os 10 .any (Rows.fnMoreAgreeSpec.pre6 enc Try.prog Try.f10 Rows.fnMoreAgreeRow.domain false) (Rows.fnMoreAgreeSpec.post enc Try.prog Try.f10 false true false false) := by
  refine lifted_of_walk (C := Try.checked) own started (by as_aux_lemma => kernel_rfl) Try.func10
    (ChangeSpec.witness6 (enc := enc) (C := Try.checked) false ⟨#[], #[.slice none 0 0], []⟩ 8 (by as_aux_lemma => kernel_rfl) (by as_aux_lemma => kernel_rfl) (by as_aux_lemma => kernel_rfl) (by as_aux_lemma => kernel_rfl) (by as_aux_lemma => kernel_rfl))
    laidOut rfl (by as_aux_lemma => kernel_rfl) (by as_aux_lemma => kernel_rfl) boolType
    (fun ds h => by
      match ds, h with
      | [_], _ => rfl)
    ?_
  intro W base args ds q hval hA
  rw [Try.params10] at hA hval
  obtain ⟨v0, vs0, d0, ds0, p0, q0, hargs, rfl, rfl, h0, r0⟩ := trodAll_cons hA
  obtain ⟨rfl, rfl, rfl⟩ := trodAll_nil r0
  obtain rfl : args = #[v0] := by cases args; simp_all
  obtain ⟨a0, len0, cap0, z0, rfl, w0⟩ := open_bytes Try.underlying46 Try.underlying5 (by as_aux_lemma => kernel_rfl) (hval 0 46 v0 rfl rfl) h0
  exact ma_walk W a0 len0 cap0 z0 w0

theorem ma_facts : joinedFacts Try.pinned.checked.prog 10 Try.f10 Rows.fnMoreAgreeSpec Rows.fnMoreAgreeRow = true :=
  facts_of (P := Try.prog) (by as_aux_lemma => kernel_rfl) laidOut mapsRow (by as_aux_lemma => kernel_rfl) (by as_aux_lemma => kernel_rfl) rfl noStops rfl noKnobs (by as_aux_lemma => kernel_rfl) (by as_aux_lemma => kernel_rfl) (by as_aux_lemma => kernel_rfl) (by as_aux_lemma => kernel_rfl) (by as_aux_lemma => kernel_rfl) (by as_aux_lemma => kernel_rfl) (by as_aux_lemma => kernel_rfl) (by as_aux_lemma => kernel_rfl) (by as_aux_lemma => kernel_rfl) rfl (by as_aux_lemma => kernel_rfl) (by as_aux_lemma => kernel_rfl) (by as_aux_lemma => kernel_rfl) keysPlain rfl heard enters finals isMake rfl rfl rfl (by as_aux_lemma => kernel_rfl) (by as_aux_lemma => kernel_rfl)

/-- The given statement. -/
theorem ma_holds : Rows.FnMoreAgreeSaid :=
  OpenClaim.holds_of_wide 10 Try.f10 rfl rfl rfl rfl rfl rfl rfl ⟨rfl, rfl, rfl, rfl, rfl⟩ rfl rfl rfl rfl rfl (by as_aux_lemma => kernel_rfl) Try.func10 ma_facts
    (of_decide_eq_true (by as_aux_lemma => kernel_rfl)) (by unfold Func.isWrapper; first | (rw [if_pos (by decide +kernel)]; kernel_rfl) | (rw [if_neg (by decide +kernel)]; exact ⟨rfl, rfl⟩))
    (fun os started H enc _ => ma_lifted os started H enc)
#print axioms ma_holds
end Go.Proofs.Ytecedbhjfpgkmaa
