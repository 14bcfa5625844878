/- What leaps tell at a time: the program's way. -/
import Derived.Test.YtlgmdicpmifcmaaLpFor
namespace Go.Proofs.Ytlgmdicpmifcmaa
open Go.ChangeShapes Go.WideShapes Go.ChangeAt Go.RowKit
set_option linter.unusedVariables false
set_option linter.unusedSimpArgs false
attribute [local go_sem] run_store_funcL

def atL (t : Int) : Lp := ⟨t, 0⟩
theorem place_all {l : List Lp} (h : okLps l = true) {t : Int} {k : Nat} (hP : PlaceOf (atL t) l k) : (∀ j v, j < k → l[j]? = some v → v.at_ ≤ t) ∧ ∀ j v, k ≤ j → l[j]? = some v → t < v.at_ := by
  obtain ⟨h0, h1, h2⟩ := hP
  refine ⟨fun j v hj hv => ?_, fun j v hj hv => ?_⟩
  · rcases h2 with rfl | ⟨y, hy, ha⟩
    · omega
    · have hyt : y.at_ ≤ t := Int.not_lt.1 (of_decide_eq_false (show decide (t < y.at_) = false from ha))
      rcases Nat.lt_or_ge j (k - 1) with hlt | hge
      · have := (okLps_at h hv).2 (k - 1) y hlt hy
        omega
      · obtain rfl : j = k - 1 := by omega
        rw [hv] at hy
        obtain rfl := Option.some.inj hy
        exact hyt
  · exact of_decide_eq_true (show decide (t < v.at_) = true from h1 j v hj hv)
theorem sum_same {f g : Lp → Int} {l : List Lp} (h : ∀ v ∈ l, f v = g v) : sumL f l = sumL g l := by
  unfold sumL
  rw [List.map_congr_left h]
theorem sum_zero {f : Lp → Int} {l : List Lp} (h : ∀ v ∈ l, f v = 0) : sumL f l = 0 := by
  induction l with
  | nil => rfl
  | cons a l ih =>
    have e : sumL f (a :: l) = f a + sumL f l := by simp [sumL]
    rw [e, h a (by simp), ih (fun v hv => h v (by simp [hv]))]
    rfl
theorem sum_append (f : Lp → Int) (a b : List Lp) : sumL f (a ++ b) = sumL f a + sumL f b := by simp [sumL]
theorem sum_place {l : List Lp} (h : okLps l = true) {t : Int} {k : Nat} (hP : PlaceOf (atL t) l k) : sumL (·.add) (l.take k) = sumL (cntV t) l := by
  obtain ⟨h1, h2⟩ := place_all h hP
  have e : sumL (cntV t) l = sumL (cntV t) (l.take k) + sumL (cntV t) (l.drop k) := by rw [← sum_append, List.take_append_drop]
  have e0 : sumL (cntV t) (l.drop k) = 0 := sum_zero (fun v hv => by
    obtain ⟨i, hi, rfl⟩ := List.mem_iff_getElem.1 hv
    rw [List.length_drop] at hi
    rw [List.getElem_drop]
    have := h2 (k + i) _ (by omega) (List.getElem?_eq_getElem (by omega))
    unfold cntV
    rw [if_neg (by omega)])
  rw [e, e0, Int.add_zero]
  refine sum_same (fun v hv => ?_)
  obtain ⟨i, hi, rfl⟩ := List.mem_iff_getElem.1 hv
  rw [List.length_take] at hi
  rw [List.getElem_take]
  have := h1 i _ (by omega) (List.getElem?_eq_getElem (by omega))
  unfold cntV
  rw [if_pos this]
theorem add_bound {v : Lp} (h : v.ok = true) : -1 ≤ v.add ∧ v.add ≤ 1 := by
  have := (Lp.ok_iff.1 h).2
  omega

theorem row_cap {base : Nat} {W : World} {y : Option Addr} {c : Nat} {l : List Lp} (h : LpRow base W y c l) : l.length ≤ c ∧ c ≤ maxLen ∧ ((y = none ∧ c = 0 ∧ l = []) ∨ ∃ g, y = some ⟨g, 0, none⟩ ∧ base ≤ g ∧ g < W.heap.size) := by
  rcases h.2 with ⟨e, e0⟩ | ⟨g, c', cur, e, hb, hg, h1, h2, _⟩
  · simp only [Value.slice.injEq] at e
    exact ⟨by omega, by unfold maxLen; omega, .inl ⟨e.1, e.2.2, List.eq_nil_of_length_eq_zero e0⟩⟩
  · simp only [Value.slice.injEq] at e
    obtain ⟨rfl, _, rfl⟩ := e
    exact ⟨h1, h2, .inr ⟨g, rfl, hb, (Array.getElem?_eq_some_iff.1 hg).1⟩⟩
theorem LpRow.atg {base : Nat} {W : World} {g c k : Nat} {l : List Lp} {v : Lp} (h : LpRow base W (some ⟨g, 0, none⟩) c l) (hv : l[k]? = some v) : W.cell? ⟨g, k * 2, none⟩ = some (.int .i64 v.at_) ∧ W.cell? ⟨g, k * 2 + 1, none⟩ = some (.int .i64 v.add) := h.two hv

set_option maxHeartbeats 2000000 in
theorem leapAt_impl (t : Int) (l : List Lp) (n : Nat) (hn : Hid (n = l.length)) (hm : n ≤ maxLen) (x : Option Addr) (cap : Nat) (w : World) (h : Lps w.heap.size w x l) :
    Calls Try.prog 13 #[.slice x n cap, .int .i64 t] w fun e w' => e = .returned (.int .i64 (leapAtV l t)) ∧ Below w.heap.size w w' := by
  cases hok : okLps l && timeL t with
  | false =>
    rw [leapAtV_no hok]
    have HF := Lib.hid (leapsFor_no t l hok n hn hm x cap w h)
    go_enter Try.func13, Try.ntmps13
    go_wp2_with (go_at_call 30; refine HF.out.mono ?_; rintro e w1 ⟨rfl, b1⟩)
    go_returns
    exact ⟨rfl, b1.alloc b1.size _⟩
  | true =>
    rw [leapAtV_ok hok]
    rw [Bool.and_eq_true] at hok
    obtain ⟨ho, ht⟩ := hok
    have HF := Lib.hid (leapsFor_ok t l ho ht n hn hm x cap w h)
    have h30 : n ≤ 30 := by rw [hn.out]; exact okLps_len ho
    have hB := Lib.hid (fun k => sumL_bound (f := (·.add)) (l := l.take k) (B := 1) (by omega) (fun v hv => add_bound (mem_take_ok ho k v hv)))
    have HA := Lib.hid (fun (k : Nat) (v : Lp) (hv : l[k]? = some v) => (Lp.ok_iff.1 (okLps_at ho hv).1).2)
    have HP := Lib.hid (fun (k : Nat) (hP : PlaceOf (atL t) l k) => sum_place ho hP)
    clear ho ht
    go_enter Try.func13, Try.ntmps13
    go_wp2_with (go_at_call 30; refine HF.out.mono ?_; rintro e w1 ⟨y, c, rfl, hE, b1⟩)
    obtain ⟨hnc, hc63, hy⟩ := row_cap hE
    rw [← hn.out] at hnc
    unfold maxLen at hc63
    obtain ⟨W2, hW2⟩ : ∃ W2, w1.alloc (.cells #[.func (.func 40) #[] #[], .slice y n c] 45) = W2 := ⟨_, rfl⟩
    have L2 : ListAt W2 w1.heap.size y n c := by rw [← hW2]; exact blk_new w1 _
    have E2 : LpRow w.heap.size W2 y c l := by rw [← hW2]; exact hE.next (below_new w1 _)
    have b2 : Below w.heap.size w W2 := by rw [← hW2]; exact b1.alloc b1.size _
    obtain ⟨p, hp⟩ : ∃ p, p = w1.heap.size := ⟨_, rfl⟩
    rw [← hp] at L2 ⊢
    rw [hW2]
    clear hW2 hp hE b1
    obtain ⟨m0, m1⟩ := L2.cells
    rcases hy with ⟨rfl, rfl, rfl⟩ | ⟨g, rfl, hg0, hg1⟩
    · obtain rfl : n = 0 := by have := hn.out; simpa using this
      go_region_held3 (fun w' => w'.cell? ⟨p, 1, none⟩ = some (.slice none 0 0)) (first | exact m1 | assumption)
        ((go_at_call 31; refine (placeOf_lp w.heap.size p (atL t) [] 0 hn (by omega) none 0 _ ?_ ?_).mono ?_; (exact L2); (exact E2); rintro r w3 ⟨k, rfl, hPk, hb3⟩; have hk0 : k = 0 := (by have := hPk.1; simpa using this); subst hk0; have L3 := L2.next (below_drewL hb3); obtain ⟨m03, m13⟩ := L3.cells; have b3 : Below w.heap.size w w3 := grow_next b2 (below_drewL hb3)))
      all_goals
        have HS := Lib.hid (HP.out _ hPk)
        go_wp2_with fail
        go_loopw [7, 25] (fun s i wr => s = .int .i64 0 ∧ i = .int .i64 0 ∧ Below w.heap.size w wr) (fun _ _ _ => 0)
        case atStart => exact ⟨rfl, rfl, by first | exact b3 | exact below_drewR b3⟩
        case round =>
          obtain ⟨rfl, rfl, hb⟩ := hrel
          go_wp2_with fail
          go_returns
          exact ⟨rfl, hb⟩
    · go_region_held3 (fun w' => w'.cell? ⟨p, 1, none⟩ = some (.slice (some ⟨g, 0, none⟩) n c)) (first | exact m1 | assumption)
        ((go_at_call 31; refine (placeOf_lp w.heap.size p (atL t) l n hn (by omega) (some ⟨g, 0, none⟩) c _ ?_ ?_).mono ?_; (exact L2); (exact E2); rintro r w3 ⟨k, rfl, hPk, hb3⟩; have hk0 : k ≤ n := (by rw [hn.out]; exact hPk.1); have hk1 : (k : Int) ≤ (n : Int) := (by omega); have hk2 : (k : Int) ≤ (c : Int) := (by omega); have L3 := L2.next (below_drewL hb3); have E3 := E2.next (below_drewL hb3); obtain ⟨m03, m13⟩ := L3.cells; have b3 : Below w.heap.size w w3 := grow_next b2 (below_drewL hb3)))
      all_goals
        have HS := Lib.hid (HP.out _ hPk)
        go_wp2_with fail
        go_loopw [7, 25] (fun s i wr => ∃ j : Nat, j ≤ k ∧ i = .int .i64 j ∧ s = .int .i64 (sumL (·.add) (l.take j)) ∧ LpRow w.heap.size wr (some ⟨g, 0, none⟩) c l ∧ Below w.heap.size w wr) (fun _ i _ => k - (intOf i).toNat)
        case atStart => exact ⟨0, Nat.zero_le _, rfl, rfl, E3, by first | exact b3 | exact below_drewR b3⟩
        case round =>
          obtain ⟨j, hj, rfl, rfl, hE, hb⟩ := hrel
          by_cases hlt : j < k
          · obtain ⟨v, hv⟩ := get_at (l := l) (k := j) (by rw [← hn.out]; omega)
            obtain ⟨c0, c1⟩ := hE.atg hv
            have HN := Lib.hid (sumL_next (f := (·.add)) hv)
            have ha := HA.out _ _ hv
            have hq := hB.out j
            rw [List.length_take] at hq
            obtain ⟨u, hu⟩ : ∃ u, sumL (·.add) (l.take j) = u := ⟨_, rfl⟩
            rw [hu] at HN hq ⊢
            clear hv hu
            have hE' := hE.next (below_new wr (.cells #[.int .i64 v.at_, .int .i64 v.add] 30))
            have hb' : Below w.heap.size w (wr.alloc (.cells #[.int .i64 v.at_, .int .i64 v.add] 30)) := hb.alloc hb.size _
            go_wp2_with fail
            go_roundw
            case rel => exact ⟨j + 1, by omega, by go_num, by rw [HN.out], hE', hb'⟩
            case measure => simp [intOf]; omega
          · obtain rfl : j = k := by omega
            go_wp2_with fail
            go_returns
            exact ⟨by rw [HS.out]; rfl, hb⟩
end Go.Proofs.Ytlgmdicpmifcmaa
