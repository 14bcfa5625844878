/- Answers in two pieces are the same answers; of more than eight the last eight count: at all drawn registers and answers, cut where the code's length says. -/
import Derived.Test.YtiaiihagoopkfaaBlDraw
import Derived.Deep.RegionWith
namespace Go.Proofs.Ytiaiihagoopkfaa
open Go.ChangeShapes Go.WideShapes Go.ChangeAt Go.RowKit Go.Deep
set_option linter.unusedVariables false
set_option linter.unusedSimpArgs false

theorem allR_append (n : Int) (a b : List Bool) : allR n (a ++ b) = allR (allR n a) b := by simp [allR]
/-- What answers make of nought. -/
def wordOf : List Bool → Int
  | [] => 0
  | b :: l => (if b then 1 else 0) * 2 ^ l.length + wordOf l
theorem allR_word (l : List Bool) : ∀ n : Int, allR n l % 256 = (n * 2 ^ l.length + wordOf l) % 256 := by
  induction l with
  | nil => intro n; simp [allR, wordOf]
  | cons b l ih =>
    intro n
    have e : allR n (b :: l) = allR (shiftR n b) l := rfl
    rw [e, ih]
    unfold shiftR
    simp only [wordOf, List.length_cons, Int.pow_succ]
    rw [Int.add_mul]
    have h1 : (2 * n % 256) * 2 ^ l.length % 256 = (2 * n * 2 ^ l.length) % 256 := by rw [Int.mul_emod, Int.emod_emod, ← Int.mul_emod]
    have h2 : n * (2 ^ l.length * 2) = 2 * n * 2 ^ l.length := by rw [Int.mul_comm (2 ^ l.length) 2, ← Int.mul_assoc, Int.mul_comm n 2]
    rw [h2]
    omega
theorem allR_eight {l : List Bool} (h : l.length = 8) {n m : Int} (hn : regB n = true) (hm : regB m = true) : allR n l = allR m l := by
  have h1 := allR_word l n
  have h2 := allR_word l m
  obtain ⟨a0, a1⟩ := regB_iff.1 (allR_reg hn l)
  obtain ⟨b0, b1⟩ := regB_iff.1 (allR_reg hm l)
  rw [h] at h1 h2
  have e8 : (2 : Int) ^ 8 = 256 := by decide
  rw [e8] at h1 h2
  omega
theorem allV_two {n : Int} {l : List Bool} (h : regB n = true) (hl : l.length ≤ 1000) (k : Nat) : allV (allV n (l.take k)) (l.drop k) = allV n l := by
  have h1 : (l.take k).length ≤ 1000 := by rw [List.length_take]; omega
  have h2 : (l.drop k).length ≤ 1000 := by rw [List.length_drop]; omega
  rw [allV_ok h h1, allV_ok (allR_reg h _) h2, allV_ok h hl, ← allR_append, List.take_append_drop]
theorem allV_last {n m : Int} {l : List Bool} (h : regB n = true) (hm : regB m = true) (hl : l.length ≤ 1000) (h8 : 8 ≤ l.length) : allV m (l.drop (l.length - 8)) = allV n l := by
  have h2 : (l.drop (l.length - 8)).length = 8 := by rw [List.length_drop]; omega
  rw [allV_ok hm (by omega), allV_ok h hl]
  have e : allR n l = allR (allR n (l.take (l.length - 8))) (l.drop (l.length - 8)) := by rw [← allR_append, List.take_append_drop]
  rw [e]
  exact allR_eight h2 hm (allR_reg h _)

theorem Bls.take {B : Nat} {w : World} {x : Option Addr} {l : List Bool} (h : Bls B w x l) (k : Nat) : Bls B w x (l.take k) := by
  rcases h with h | ⟨b, off, e, hlt, hc⟩
  · exact .inl (by simp [h])
  · exact .inr ⟨b, off, e, hlt, fun i v hi => hc i v (by
      rw [List.getElem?_take] at hi
      split at hi
      · exact hi
      · cases hi)⟩
theorem Bls.drop {B : Nat} {w : World} {b c : Nat} {l : List Bool} (h : Bls B w (some ⟨b, 0, none⟩) l) (hc : l.length ≤ c) (k : Nat) : Bls B w (if c = k then some ⟨b, 0, none⟩ else some ⟨b, k, none⟩) (l.drop k) := by
  by_cases e : c = k
  · exact .inl (List.drop_eq_nil_of_le (by omega))
  · rw [if_neg e]
    rcases h with h | ⟨b', off', e, hlt, hc⟩
    · exact .inl (by simp [h])
    · simp only [Option.some.injEq, Addr.mk.injEq] at e
      obtain ⟨rfl, rfl, _⟩ := e
      refine .inr ⟨b, k, rfl, hlt, fun i v hi => ?_⟩
      rw [List.getElem?_drop] at hi
      have := hc (k + i) v hi
      rwa [Nat.zero_add] at this

set_option maxHeartbeats 2000000 in
theorem shiftedAllFn_walk (w : World) (a : Option Addr) (n cap z : Nat) (hz : z = n ∧ Code w.heap.size w (.slice a n cap) n) :
    Calls Try.prog 9 #[.slice a n cap] w fun e w' => e = .returned (.bool true) ∧ Below w.heap.size w w' := by
  obtain ⟨hzn, hc⟩ := hz
  clear hzn
  by_cases hbig : n ≤ 1048576
  · go_enter Try.func9, Try.ntmps9
    go_wp2_with (go_at_call 25; go_in)
    refine (drawShiftedAll_c a n cap _ hc hbig).mono ?_
    rintro e w1 ⟨v, x, c, l, rfl, hl, hrow, hb1⟩
    obtain ⟨x', c', ex, hlc, hcm, hne, hbl⟩ := hrow.form
    simp only [Value.slice.injEq] at ex
    obtain ⟨rfl, _, rfl⟩ := ex
    unfold maxLen at hcm
    obtain ⟨m, hm⟩ : ∃ m, m = l.length := ⟨_, rfl⟩
    have HM := Lib.hid hm
    rw [← hm] at hl hlc ⊢
    clear hrow
    have HI := Lib.hid (shiftedAll_impl v l m HM (by omega) x c w1 hbl)
    have HS := Lib.hid (shiftedAll_spec v l m HM (by omega) x c w1 hbl)
    cases hr : regB v with
    | false =>
      rw [allV_no hr] at HI HS
      clear hm
      go_wp2_with fail
      refine HI.out.mono ?_
      rintro e w2 ⟨rfl, rfl⟩
      go_wp2_with fail
      refine HS.out.mono ?_
      rintro e w2 ⟨rfl, rfl⟩
      go_wp2_with fail
      refine HS.out.mono ?_
      rintro e w2 ⟨rfl, rfl⟩
      go_wp2_with fail
      go_returns
      exact ⟨rfl, hb1⟩
    | true =>
      obtain ⟨u, hu⟩ : ∃ u, allV v l = u := ⟨_, rfl⟩
      have hu0 : 0 ≤ u := by
        rw [← hu, allV_ok hr (by rw [← hm]; omega)]
        exact (regB_iff.1 (allR_reg hr l)).1
      have HU := Lib.hid hu
      have HR := Lib.hid hr
      rw [hu] at HI HS
      clear hm hu hr
      go_wp2_with fail
      refine HI.out.mono ?_
      rintro e w2 ⟨rfl, rfl⟩
      go_wp2_with fail
      refine HS.out.mono ?_
      rintro e w2 ⟨rfl, rfl⟩
      go_wp2_with fail
      rw [show (n : Int) % ((m : Int) + 1) = ((n % (m + 1) : Nat) : Int) from by simp]
      have hq1 : n % (m + 1) ≤ m := by have := Nat.mod_lt n (show 0 < m + 1 by omega); omega
      obtain ⟨q, hq⟩ : ∃ q, n % (m + 1) = q := ⟨_, rfl⟩
      rw [hq] at hq1 ⊢
      clear hq
      have hblN : ∀ k, Bls (w1.drewN k).heap.size (w1.drewN k) x l := fun k => hbl.next (grow_drew (Below.refl _ _) k)
      have HA := Lib.hid (fun k => (shiftedAll_impl v (l.take q) q (Lib.hid (by rw [List.length_take]; have := HM.out; omega)) (by omega) x c (w1.drewN k) ((hblN k).take q)).mono (fun e w' (h : _ ∧ _) => (⟨h.1, h.2.symm⟩ : e = .returned (.int .i64 (allV v (l.take q))) ∧ w' = w1.drewN k)))
      rcases hne with ⟨rfl, rfl, rfl⟩ | ⟨g, rfl, hgw, hg1⟩
      · obtain rfl : q = 0 := by have := HM.out; simp at this; omega
        obtain rfl : m = 0 := by have := HM.out; simpa using this
        have HB := Lib.hid (fun k => (shiftedAll_impl (allV v []) [] 0 (Lib.hid rfl) (by omega) none 0 (w1.drewN k) (hblN k)).mono (fun e w' (h : _ ∧ _) => (⟨h.1.trans (by rw [show allV (allV v []) [] = allV v [] from allV_two (l := []) HR.out (by simp) 0, HU.out]), h.2.symm⟩ : e = .returned (.int .i64 u) ∧ w' = w1.drewN k)))
        obtain ⟨y, hy⟩ : ∃ y, allV v [] = y := ⟨_, rfl⟩
        simp only [List.take_nil] at HA
        rw [hy] at HA HB
        go_quiet ((go_at_call 23; first | with_reducible exact Calls.quiet_of_same (HA.out _) | with_reducible exact Calls.quiet_of_same (HB.out _)))
        go_wp2_with fail
        go_returns
        exact ⟨rfl, grow_drew hb1 _⟩
      · have HB := Lib.hid (fun k => (shiftedAll_impl (allV v (l.take q)) (l.drop q) (m - q) (Lib.hid (by rw [List.length_drop]; have := HM.out; omega)) (by omega) (if c = q then some ⟨g, 0, none⟩ else some ⟨g, q, none⟩) (c - q) (w1.drewN k) ((hblN k).drop (by have := HM.out; omega) q)).mono (fun e w' (h : _ ∧ _) => (⟨h.1.trans (by rw [allV_two HR.out (by have := HM.out; omega), HU.out]), h.2.symm⟩ : e = .returned (.int .i64 u) ∧ w' = w1.drewN k)))
        obtain ⟨y, hy⟩ : ∃ y, allV v (l.take q) = y := ⟨_, rfl⟩
        rw [hy] at HA HB
        have f0 : (0 : Int) ≤ (q : Int) := Int.natCast_nonneg _
        have f1 : (q : Int) ≤ (m : Int) := by omega
        have f2 : (q : Int) ≤ (c : Int) := by omega
        have f3 : (m : Int) ≤ (c : Int) := by omega
        have f4 : ((q : Int)).toNat = q := by omega
        have f5 : ((m : Int)).toNat = m := by omega
        go_quiet ((go_at_call 23; first | with_reducible exact Calls.quiet_of_same (HA.out _) | with_reducible exact Calls.quiet_of_same (HB.out _)))
        clear HA HB hy
        obtain ⟨X, hX⟩ : ∃ X : Option Addr, (if c = q then some ⟨g, 0, none⟩ else some ⟨g, q, none⟩) = X := ⟨_, rfl⟩
        rw [hX]
        clear hX
        by_cases h8 : m < 8
        · go_wp2_with fail
          all_goals
            go_returns
            exact ⟨rfl, grow_drew hb1 _⟩
        · have f6 : ((m : Int) - 8).toNat = m - 8 := by omega
          have f7 : (0 : Int) ≤ (m : Int) - 8 := by omega
          have f8 : ¬ (m : Int) < 8 := by omega
          have f10 : m - (m - 8) = 8 := by omega
          have f9 : ¬ c = m - 8 := by omega
          have HL := Lib.hid (fun (t : Int) (ht : regB t = true) => (shiftedAll_impl t (l.drop (m - 8)) 8 (Lib.hid (by rw [List.length_drop]; have := HM.out; omega)) (by omega) (some ⟨g, m - 8, none⟩) (c - (m - 8)) (w1.drewN nq) (by have := (hblN nq).drop (c := c) (by have := HM.out; omega) (m - 8); rwa [if_neg f9] at this)).mono (fun e w' (h : _ ∧ _) => (⟨h.1.trans (by rw [HM.out, allV_last HR.out ht (by have := HM.out; omega) (by have := HM.out; omega), HU.out]), h.2⟩ : e = .returned (.int .i64 u) ∧ w1.drewN nq = w')))
          have H0 := Lib.hid (HL.out 0 rfl)
          have H1 := Lib.hid (HL.out 255 rfl)
          clear HL
          go_wp2_with fail
          all_goals
            with_reducible refine H0.out.mono ?_
            rintro e w2 ⟨rfl, rfl⟩
            go_wp2_with fail
          all_goals
            with_reducible refine H1.out.mono ?_
            rintro e w2 ⟨rfl, rfl⟩
            go_wp2_with fail
          all_goals
            go_returns
            exact ⟨by simp, grow_drew hb1 _⟩
  · go_enter Try.func9, Try.ntmps9
    go_wp2_with (go_at_call 25; go_in)
    go_returns
    exact ⟨rfl, Below.refl _ _⟩

set_option maxRecDepth 100000 in
theorem shiftedAllFn_lifted (os : Os) (started : os.Started) (H : Type) (enc : TypeId × Value → H) :
    ReturnsInHanded {} Try.checked os 9 .any (Rows.fnShiftedAllSpec.pre6 enc Try.prog Try.f9 Rows.fnShiftedAllRow.domain false) (Rows.fnShiftedAllSpec.post enc Try.prog Try.f9 false true false false) := by
  refine lifted_of_walk (C := Try.checked) own started (by as_aux_lemma => kernel_rfl) Try.func9
    (ChangeSpec.witness6 (enc := enc) (C := Try.checked) false ⟨#[], #[.slice none 0 0], []⟩ 8 (by as_aux_lemma => kernel_rfl) (by as_aux_lemma => kernel_rfl) (by as_aux_lemma => kernel_rfl) (by as_aux_lemma => kernel_rfl) (by as_aux_lemma => kernel_rfl))
    laidOut rfl (by as_aux_lemma => kernel_rfl) (by as_aux_lemma => kernel_rfl) boolType
    (fun ds h => by
      match ds, h with
      | [_], _ => rfl)
    ?_
  intro W base args ds q hval hA
  rw [Try.params9] at hA hval
  obtain ⟨v0, vs0, d0, ds0, p0, q0, hargs, rfl, rfl, h0, r0⟩ := trodAll_cons hA
  obtain ⟨rfl, rfl, rfl⟩ := trodAll_nil r0
  obtain rfl : args = #[v0] := by cases args; simp_all
  obtain ⟨a0, len0, cap0, z0, rfl, w0⟩ := open_bytes Try.underlying33 Try.underlying5 (by as_aux_lemma => kernel_rfl) (hval 0 33 v0 rfl rfl) h0
  exact shiftedAllFn_walk W a0 len0 cap0 z0 w0

theorem shiftedAllFn_facts : joinedFacts Try.pinned.checked.prog 9 Try.f9 Rows.fnShiftedAllSpec Rows.fnShiftedAllRow = true :=
  facts_of (P := Try.prog) (by as_aux_lemma => kernel_rfl) laidOut mapsRow (by as_aux_lemma => kernel_rfl) (by as_aux_lemma => kernel_rfl) rfl noStops rfl noKnobs (by as_aux_lemma => kernel_rfl) (by as_aux_lemma => kernel_rfl) (by as_aux_lemma => kernel_rfl) (by as_aux_lemma => kernel_rfl) (by as_aux_lemma => kernel_rfl) (by as_aux_lemma => kernel_rfl) (by as_aux_lemma => kernel_rfl) (by as_aux_lemma => kernel_rfl) (by as_aux_lemma => kernel_rfl) rfl (by as_aux_lemma => kernel_rfl) (by as_aux_lemma => kernel_rfl) (by as_aux_lemma => kernel_rfl) keysPlain rfl heard enters finals isMake rfl rfl rfl (by as_aux_lemma => kernel_rfl) (by as_aux_lemma => kernel_rfl)

/-- The given statement. -/
theorem shiftedAllFn_holds : Rows.FnShiftedAllSaid :=
  OpenClaim.holds_of_wide 9 Try.f9 rfl rfl rfl rfl rfl rfl rfl ⟨rfl, rfl, rfl, rfl, rfl⟩ rfl rfl rfl rfl rfl (by as_aux_lemma => kernel_rfl) Try.func9 shiftedAllFn_facts
    (of_decide_eq_true (by as_aux_lemma => kernel_rfl)) (by unfold Func.isWrapper; first | (rw [if_pos (by decide +kernel)]; kernel_rfl) | (rw [if_neg (by decide +kernel)]; exact ⟨rfl, rfl⟩))
    (fun os started H enc _ => shiftedAllFn_lifted os started H enc)
#print axioms shiftedAllFn_holds
end Go.Proofs.Ytiaiihagoopkfaa
