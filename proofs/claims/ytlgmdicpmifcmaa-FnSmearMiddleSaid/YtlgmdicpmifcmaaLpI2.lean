/- What is smeared, which leap is next: the program's way. -/
import Derived.Test.YtlgmdicpmifcmaaLpI
import Derived.WalkLawsBesides
namespace Go.Proofs.Ytlgmdicpmifcmaa
open Go.ChangeShapes Go.WideShapes Go.ChangeAt Go.RowKit
set_option linter.unusedVariables false
set_option linter.unusedSimpArgs false
attribute [local go_sem] run_store_funcL

theorem smearedOne_c (t : Int) (t0 : 0 ≤ t) (t1 : t ≤ 4000000000) (v : Lp) (hv : v.ok = true) (w : World) :
    Calls Try.prog 32 #[.agg #[.int .i64 v.at_, .int .i64 v.add], .int .i64 t] w fun e w' => e = .returned (.int .i64 (smearV t v)) ∧ Below w.heap.size w w' := by
  obtain ⟨⟨a0, a1⟩, ha⟩ := Lp.ok_iff.1 hv
  clear hv
  obtain ⟨c, hc⟩ : ∃ c, comeV t v = c := ⟨_, rfl⟩
  have HS := Lib.hid (show smearV t v = v.add * (c * 1000000 / 86400) by rw [← hc]; rfl)
  have hcv : (t - v.at_ + 43200 ≤ 0 ∧ c = 0) ∨ (86400 ≤ t - v.at_ + 43200 ∧ c = 86400) ∨ (0 < t - v.at_ + 43200 ∧ t - v.at_ + 43200 < 86400 ∧ c = t - v.at_ + 43200) := by
    rw [← hc]; unfold comeV; omega
  clear hc
  rcases ha with ha | ha <;> rcases hcv with ⟨p0, rfl⟩ | ⟨p0, rfl⟩ | ⟨p0, p1, rfl⟩
  all_goals
    obtain ⟨vt, va⟩ := v
    dsimp only at *
    subst ha
    go_enter Try.func32, Try.ntmps32
    go_wp2
    all_goals first
      | (exfalso; omega)
      | (go_returns
         refine ⟨?_, by go_grown⟩
         rw [HS.out]
         exact congrArg (fun z => Ending.returned (Value.int IntKind.i64 z)) (by omega))

set_option maxHeartbeats 2000000 in
theorem smeared_impl (t : Int) (l : List Lp) (n : Nat) (hn : Hid (n = l.length)) (hm : n ≤ maxLen) (x : Option Addr) (cap : Nat) (w : World) (h : Lps w.heap.size w x l) :
    Calls Try.prog 16 #[.slice x n cap, .int .i64 t] w fun e w' => e = .returned (.int .i64 (smearedV l t)) ∧ Below w.heap.size w w' := by
  cases hok : okLps l && timeL t with
  | false =>
    rw [smearedV_no hok]
    have HF := Lib.hid (leapsFor_no t l hok n hn hm x cap w h)
    go_enter Try.func16, Try.ntmps16
    go_wp2_with (go_at_call 30; refine HF.out.mono ?_; rintro e w1 ⟨rfl, b1⟩)
    go_returns
    exact ⟨rfl, b1.alloc b1.size _⟩
  | true =>
    rw [smearedV_ok hok]
    rw [Bool.and_eq_true] at hok
    obtain ⟨ho, ht⟩ := hok
    obtain ⟨t0, t1⟩ := timeL_iff.1 ht
    have HF := Lib.hid (leapsFor_ok t l ho ht n hn hm x cap w h)
    have h30 : n ≤ 30 := by rw [hn.out]; exact okLps_len ho
    have hB := Lib.hid (fun k => sumL_bound (f := smearV t) (l := l.take k) (B := 1000000) (by omega) (fun v hv => smearV_bound (mem_take_ok ho k v hv)))
    have HA := Lib.hid (fun (k : Nat) (v : Lp) (hv : l[k]? = some v) => (okLps_at ho hv).1)
    clear ho ht
    go_enter Try.func16, Try.ntmps16
    go_wp2_with (go_at_call 30; refine HF.out.mono ?_; rintro e w1 ⟨y, c, rfl, hE, b1⟩)
    have hE2 := hE.next (below_new w1 (.cells #[.func (.func 40) #[] #[], .slice y n c] 45))
    have b2 : Below w.heap.size w (w1.alloc (.cells #[.func (.func 40) #[] #[], .slice y n c] 45)) := b1.alloc b1.size _
    go_loopw [7, 21] (fun s i wr => ∃ j : Nat, j ≤ n ∧ i = .int .i64 j ∧ s = .int .i64 (sumL (smearV t) (l.take j)) ∧ LpRow w.heap.size wr y c l ∧ Below w.heap.size w wr) (fun _ i _ => n - (intOf i).toNat)
    case atStart => exact ⟨0, Nat.zero_le _, rfl, rfl, hE2, b2⟩
    case round =>
      obtain ⟨j, hj, rfl, rfl, hE3, hb⟩ := hrel
      by_cases hlt : j < n
      · obtain ⟨v, hv⟩ := get_at (l := l) (k := j) (by rw [← hn.out]; omega)
        obtain ⟨g, rfl, _⟩ := hE3.at_ hv
        obtain ⟨c0, c1⟩ := hE3.atg hv
        have HN := Lib.hid (sumL_next (f := smearV t) hv)
        have HC := Lib.hid (smearedOne_c t t0 t1 v (HA.out _ _ hv))
        have hsb := smearV_bound (t := t) (HA.out _ _ hv)
        have hq := hB.out j
        rw [List.length_take] at hq
        obtain ⟨u, hu⟩ : ∃ u, sumL (smearV t) (l.take j) = u := ⟨_, rfl⟩
        rw [hu] at HN hq ⊢
        obtain ⟨s, hs⟩ : ∃ s, smearV t v = s := ⟨_, rfl⟩
        rw [hs] at HN HC hsb
        clear hv hu hs
        have V1 := blk_new wr (.cells #[.int .i64 v.at_, .int .i64 v.add] 30)
        obtain ⟨v0, v1⟩ := lp_cells V1
        have hE' := hE3.next (below_new wr (.cells #[.int .i64 v.at_, .int .i64 v.add] 30))
        have hb' : Below w.heap.size w (wr.alloc (.cells #[.int .i64 v.at_, .int .i64 v.add] 30)) := hb.alloc hb.size _
        go_wp2_with fail
        refine (HC.out _).mono ?_
        rintro e w4 ⟨rfl, hb4⟩
        have hE4 := hE'.next hb4
        have g4 := grow_next hb' hb4
        go_wp2_with fail
        go_roundw
        case rel => exact ⟨j + 1, by omega, by go_num, by rw [HN.out], hE4, g4⟩
        case measure => simp [intOf]; omega
      · have HE := Lib.hid (show l.take j = l by rw [show j = n by omega, hn.out, List.take_length])
        go_wp2_with fail
        go_returns
        exact ⟨by rw [HE.out]; rfl, hb⟩

theorem next_place {l : List Lp} (h : okLps l = true) {t : Int} {k : Nat} (hP : PlaceOf (atL t) l k) : l.find? (fun v => decide (t < v.at_)) = l[k]? := by
  obtain ⟨h1, h2⟩ := place_all h hP
  have e : ∀ j, j ≤ k → l.find? (fun v => decide (t < v.at_)) = (l.drop j).find? (fun v => decide (t < v.at_)) := by
    intro j
    induction j with
    | zero => intro _; rfl
    | succ j ih =>
      intro hj
      rw [ih (by omega)]
      rcases Nat.lt_or_ge j l.length with hl | hl
      · have hv := List.getElem?_eq_getElem hl
        exact find_next hv (by have := h1 j _ (by omega) hv; simp; omega)
      · rw [List.drop_eq_nil_of_le hl, List.drop_eq_nil_of_le (by omega)]
  rw [e k (Nat.le_refl _)]
  rcases Nat.lt_or_ge k l.length with hl | hl
  · have hv := List.getElem?_eq_getElem hl
    rw [hv]
    exact find_hit hv (by have := h2 k _ (Nat.le_refl _) hv; simpa using this)
  · rw [List.drop_eq_nil_of_le hl, List.getElem?_eq_none hl]
    rfl

set_option maxHeartbeats 2000000 in
theorem nextLeap_impl (t : Int) (l : List Lp) (n : Nat) (hn : Hid (n = l.length)) (hm : n ≤ maxLen) (x : Option Addr) (cap : Nat) (w : World) (h : Lps w.heap.size w x l) :
    Calls Try.prog 18 #[.slice x n cap, .int .i64 t] w fun e w' => e = .returned (nextR (nextV l t)) ∧ Below w.heap.size w w' := by
  have Z0 := blk_new w (.cells #[.int .i64 0, .int .i64 0] 30)
  have b0 := below_new w (.cells #[.int .i64 0, .int .i64 0] 30)
  have h0 := h.next b0
  cases hok : okLps l && timeL t with
  | false =>
    rw [nextV_no hok]
    have HF := Lib.hid (leapsFor_no t l hok n hn hm x cap _ h0)
    go_enter Try.func18, Try.ntmps18
    go_wp2_with (go_at_call 30; refine HF.out.mono ?_; rintro e w1 ⟨rfl, b1⟩; have Z1 := blk_alloc (blk_next b1 Z0) (.cells #[.func (.func 40) #[] #[], .slice none 0 0] 45); have g1 := grow_next b0 b1; obtain ⟨⟨z0, z1⟩, f0, f1⟩ := two_cellsL Z1)
    obtain ⟨⟨q0, q1⟩, _⟩ := two_cellsL (two_putL Z1 (.int .i64 0) (.int .i64 0))
    have G := below_setCell (below_setCell (g1.alloc g1.size (.cells #[.func (.func 40) #[] #[], .slice none 0 0] 45)) (Nat.le_refl w.heap.size) 0 (.int .i64 0)) (Nat.le_refl w.heap.size) 1 (.int .i64 0)
    refine bodyPost_ret (by simp [results, Try.results18, go_sem, q0, q1]; try rfl) rfl ?_
    exact ⟨rfl, G⟩
  | true =>
    rw [nextV_ok hok]
    rw [Bool.and_eq_true] at hok
    obtain ⟨ho, ht⟩ := hok
    have HF := Lib.hid (leapsFor_ok t l ho ht n hn hm x cap _ h0)
    have h30 : n ≤ 30 := by rw [hn.out]; exact okLps_len ho
    have HP := Lib.hid (fun (k : Nat) (hP : PlaceOf (atL t) l k) => next_place ho hP)
    clear ho ht
    obtain ⟨r, hr⟩ : ∃ r, l.find? (fun v => decide (t < v.at_)) = r := ⟨_, rfl⟩
    rw [hr]
    have HR := Lib.hid hr
    clear hr
    go_enter Try.func18, Try.ntmps18
    go_wp2_with (go_at_call 30; refine HF.out.mono ?_; rintro e w1 ⟨y, c, rfl, hE, b1⟩; have Z1 := blk_alloc (blk_next b1 Z0) (.cells #[.func (.func 40) #[] #[], .slice y n c] 45); have L1 : ListAt (w1.alloc (.cells #[.func (.func 40) #[] #[], .slice y n c] 45)) w1.heap.size y n c := blk_new w1 _; have hE1 := hE.next (below_new w1 (.cells #[.func (.func 40) #[] #[], .slice y n c] 45)); have g1 := grow_next b0 b1; have g1' := g1.alloc g1.size (.cells #[.func (.func 40) #[] #[], .slice y n c] 45))
    refine (placeOf_lp _ w1.heap.size (atL t) l n hn (by omega) y c _ L1 hE1).mono ?_
    rintro e w2 ⟨k, rfl, hPk, b2⟩
    have g2 := grow_next g1' b2
    have Z2 := blk_next b2 Z1
    have L2 := L1.next b2
    have hE2 := hE1.next b2
    obtain ⟨m0, m1⟩ := L2.cells
    obtain ⟨⟨z0, z1⟩, f0, f1⟩ := two_cellsL Z2
    have hkn : k ≤ n := by rw [hn.out]; exact hPk.1
    have HRk := Lib.hid (HR.out.symm.trans (HP.out k hPk))
    by_cases hlt : k < n
    · obtain ⟨v, hv⟩ := get_at (l := l) (k := k) (by rw [← hn.out]; omega)
      obtain ⟨g, rfl, _⟩ := hE2.at_ hv
      obtain ⟨c0, c1⟩ := hE2.atg hv
      obtain rfl : r = some v := by rw [HRk.out, hv]
      have hne : ((k : Int) == (n : Int)) = false := by simp; omega
      have hki : (k : Int) < (n : Int) := by omega
      clear hv
      go_wp2_with fail
      obtain ⟨⟨q0, q1⟩, _⟩ := two_cellsL (two_putL Z2 (.int .i64 v.at_) (.int .i64 v.add))
      have G := below_setCell (below_setCell g2 (Nat.le_refl w.heap.size) 0 (.int .i64 v.at_)) (Nat.le_refl w.heap.size) 1 (.int .i64 v.add)
      refine bodyPost_ret (by simp [results, Try.results18, go_sem, q0, q1]; try rfl) rfl ?_
      exact ⟨rfl, G⟩
    · obtain rfl : k = n := by omega
      obtain rfl : r = none := by rw [HRk.out, List.getElem?_eq_none (by rw [← hn.out]; omega)]
      go_wp2_with fail
      obtain ⟨⟨q0, q1⟩, _⟩ := two_cellsL (two_putL Z2 (.int .i64 0) (.int .i64 0))
      have G := below_setCell (below_setCell g2 (Nat.le_refl w.heap.size) 0 (.int .i64 0)) (Nat.le_refl w.heap.size) 1 (.int .i64 0)
      refine bodyPost_ret (by simp [results, Try.results18, go_sem, q0, q1]; try rfl) rfl ?_
      exact ⟨rfl, G⟩
end Go.Proofs.Ytlgmdicpmifcmaa
