/- What leaps tell at a time: the reference's way. -/
import Derived.Test.YtlgmdicpmifcmaaLpOkI
import Derived.WalkLawsBesides
namespace Go.Proofs.Ytlgmdicpmifcmaa
open Go.ChangeShapes Go.WideShapes Go.ChangeAt Go.RowKit
set_option linter.unusedVariables false
set_option linter.unusedSimpArgs false

def timeL (t : Int) : Bool := inB 0 t 4000000000
theorem timeL_iff {t : Int} : timeL t = true ↔ 0 ≤ t ∧ t ≤ 4000000000 := inB_iff

theorem okFromL_rises : ∀ {l : List Lp} {p : Int}, okFromL p l = true → ∀ (i : Nat) (v : Lp), l[i]? = some v → v.ok = true ∧ p + 172800 ≤ v.at_ ∧ ∀ (j : Nat) (u : Lp), i < j → l[j]? = some u → v.at_ + 172800 ≤ u.at_
  | [], _, _, i, v, h => by simp at h
  | a :: l, p, h, i, v, hv => by
    simp only [okFromL, Bool.and_eq_true, decide_eq_true_eq] at h
    obtain ⟨⟨h1, h2⟩, h3⟩ := h
    have ih := okFromL_rises h3
    cases i with
    | zero =>
      simp at hv
      subst hv
      refine ⟨h1, h2, fun j u hj hu => ?_⟩
      obtain ⟨j, rfl⟩ : ∃ m, j = m + 1 := ⟨j - 1, by omega⟩
      rw [List.getElem?_cons_succ] at hu
      exact (ih j u hu).2.1
    | succ i =>
      rw [List.getElem?_cons_succ] at hv
      obtain ⟨q1, q2, q3⟩ := ih i v hv
      refine ⟨q1, ?_, fun j u hj hu => ?_⟩
      · have := (Lp.ok_iff.1 h1).1
        omega
      · obtain ⟨j, rfl⟩ : ∃ m, j = m + 1 := ⟨j - 1, by omega⟩
        rw [List.getElem?_cons_succ] at hu
        exact q3 j u (by omega) hu
theorem okLps_at {l : List Lp} (h : okLps l = true) {i : Nat} {v : Lp} (hv : l[i]? = some v) : v.ok = true ∧ ∀ (j : Nat) (u : Lp), i < j → l[j]? = some u → v.at_ + 172800 ≤ u.at_ := by
  simp only [okLps, Bool.and_eq_true] at h
  obtain ⟨a, _, c⟩ := okFromL_rises h.1 i v hv
  exact ⟨a, c⟩
theorem okLps_len {l : List Lp} (h : okLps l = true) : l.length ≤ 30 := by
  simp only [okLps, Bool.and_eq_true, decide_eq_true_eq] at h
  exact h.2

/-- What one counts. -/
def cntV (t : Int) (v : Lp) : Int := if v.at_ ≤ t then v.add else 0
/-- How much of one is smeared. -/
def comeV (t : Int) (v : Lp) : Int := min (max (t - v.at_ + 43200) 0) 86400
def smearV (t : Int) (v : Lp) : Int := v.add * (comeV t v * 1000000 / 86400)
def sumL (f : Lp → Int) (l : List Lp) : Int := (l.map f).sum
theorem sumL_nil (f : Lp → Int) : sumL f [] = 0 := rfl
theorem sumL_next {f : Lp → Int} {l : List Lp} {k : Nat} {v : Lp} (h : l[k]? = some v) : sumL f (l.take (k + 1)) = sumL f (l.take k) + f v := by
  rw [take_next h]; simp [sumL]
theorem sumL_bound {f : Lp → Int} {l : List Lp} {B : Int} (h0 : 0 ≤ B) (h : ∀ v ∈ l, -B ≤ f v ∧ f v ≤ B) : -(B * l.length) ≤ sumL f l ∧ sumL f l ≤ B * l.length := by
  induction l with
  | nil => simp [sumL]
  | cons a l ih =>
    have h1 := h a (by simp)
    have h2 := ih (fun v hv => h v (by simp [hv]))
    have e : sumL f (a :: l) = f a + sumL f l := by simp [sumL]
    rw [e, List.length_cons]
    have : B * ((l.length + 1 : Nat) : Int) = B * l.length + B := by rw [Int.natCast_add, Int.mul_add]; simp
    omega
theorem cntV_bound {t : Int} {v : Lp} (h : v.ok = true) : -1 ≤ cntV t v ∧ cntV t v ≤ 1 := by
  have := (Lp.ok_iff.1 h).2
  unfold cntV
  split <;> omega
theorem comeV_bound (t : Int) (v : Lp) : 0 ≤ comeV t v ∧ comeV t v ≤ 86400 := by unfold comeV; omega
theorem smearV_bound {t : Int} {v : Lp} (h : v.ok = true) : -1000000 ≤ smearV t v ∧ smearV t v ≤ 1000000 := by
  have h1 := (Lp.ok_iff.1 h).2
  have h2 := comeV_bound t v
  unfold smearV
  rcases h1 with h1 | h1 <;> rw [h1] <;> omega
theorem ok_mem {l : List Lp} (h : okLps l = true) : ∀ v ∈ l, v.ok = true := fun v hv => by
  obtain ⟨i, hi, rfl⟩ := List.mem_iff_getElem.1 hv
  exact (okLps_at h (List.getElem?_eq_getElem hi)).1
theorem mem_take_ok {l : List Lp} (h : okLps l = true) (k : Nat) : ∀ v ∈ l.take k, v.ok = true := fun v hv => ok_mem h v (List.mem_of_mem_take hv)

def leapAtV (l : List Lp) (t : Int) : Int := if okLps l && timeL t then sumL (cntV t) l else -1000
def smearedV (l : List Lp) (t : Int) : Int := if okLps l && timeL t then sumL (smearV t) l else -1000000000
def nextV (l : List Lp) (t : Int) : Option Lp := if okLps l && timeL t then l.find? (fun v => decide (t < v.at_)) else none
theorem leapAtV_no {l : List Lp} {t : Int} (h : (okLps l && timeL t) = false) : leapAtV l t = -1000 := by simp only [leapAtV, h]; rfl
theorem leapAtV_ok {l : List Lp} {t : Int} (h : (okLps l && timeL t) = true) : leapAtV l t = sumL (cntV t) l := by simp only [leapAtV, h]; rfl
theorem smearedV_no {l : List Lp} {t : Int} (h : (okLps l && timeL t) = false) : smearedV l t = -1000000000 := by simp only [smearedV, h]; rfl
theorem smearedV_ok {l : List Lp} {t : Int} (h : (okLps l && timeL t) = true) : smearedV l t = sumL (smearV t) l := by simp only [smearedV, h]; rfl
theorem nextV_no {l : List Lp} {t : Int} (h : (okLps l && timeL t) = false) : nextV l t = none := by simp only [nextV, h]; rfl
theorem nextV_ok {l : List Lp} {t : Int} (h : (okLps l && timeL t) = true) : nextV l t = l.find? (fun v => decide (t < v.at_)) := by simp only [nextV, h]; rfl

theorem l14Time_c (t : Int) (w : World) : Calls Try.prog 28 #[.int .i64 t] w fun e w' => e = .returned (.bool (timeL t)) ∧ w = w' := by
  go_enter Try.func28, Try.ntmps28
  go_wp2_with (go_at_call 39; refine (l1In_c _ _ _ _).mono ?_; rintro e w1 ⟨rfl, rfl⟩)
  go_returns
  exact ⟨rfl, rfl⟩
theorem leapsOk_decS {l : List Lp} {b : Bool} (hb : okLps l = b) (n : Nat) (hn : Hid (n = l.length)) (hm : n ≤ maxLen) (x : Option Addr) (cap : Nat) (w : World) (h : Lps w.heap.size w x l) :
    Calls Try.prog 25 #[.slice x n cap] w fun e w' => e = .returned (.bool b) ∧ Below w.heap.size w w' := hb ▸ leapsOk_spec l n hn hm x cap w h
theorem time_decS {t : Int} {b : Bool} (h : timeL t = b) (w : World) : Calls Try.prog 28 #[.int .i64 t] w fun e w' => e = .returned (.bool b) ∧ w = w' := h ▸ l14Time_c t w

set_option maxHeartbeats 2000000 in
theorem leapAt_spec (t : Int) (l : List Lp) (n : Nat) (hn : Hid (n = l.length)) (hm : n ≤ maxLen) (x : Option Addr) (cap : Nat) (w : World) (h : Lps w.heap.size w x l) :
    Calls Try.prog 11 #[.slice x n cap, .int .i64 t] w fun e w' => e = .returned (.int .i64 (leapAtV l t)) ∧ Below w.heap.size w w' := by
  cases ho : okLps l with
  | false =>
    rw [leapAtV_no (by rw [ho]; rfl)]
    have HO := Lib.hid (leapsOk_decS ho n hn hm x cap w h)
    go_enter Try.func11, Try.ntmps11
    go_wp2_with (go_at_call 25; refine HO.out.mono ?_; rintro e w1 ⟨rfl, b1⟩)
    go_returns
    exact ⟨rfl, b1⟩
  | true =>
    have HO := Lib.hid (leapsOk_decS ho n hn hm x cap w h)
    cases ht : timeL t with
    | false =>
      rw [leapAtV_no (by rw [ht]; simp)]
      have HT := Lib.hid (fun w => time_decS ht w)
      clear ht ho
      go_enter Try.func11, Try.ntmps11
      go_wp2_with (first | (go_at_call 25; refine HO.out.mono ?_; rintro e w1 ⟨rfl, b1⟩) | (go_at_call 28; refine (HT.out _).mono ?_; rintro e w2 ⟨rfl, rfl⟩))
      go_returns
      exact ⟨rfl, b1⟩
    | true =>
      rw [leapAtV_ok (by rw [ht, ho]; rfl)]
      have HT := Lib.hid (fun w => time_decS ht w)
      have h30 : n ≤ 30 := by rw [hn.out]; exact okLps_len ho
      have hB := Lib.hid (fun k => sumL_bound (f := cntV t) (l := l.take k) (B := 1) (by omega) (fun v hv => cntV_bound (mem_take_ok ho k v hv)))
      have HA := Lib.hid (fun (k : Nat) (v : Lp) (hv : l[k]? = some v) => (Lp.ok_iff.1 (okLps_at ho hv).1).2)
      clear ht ho
      go_enter Try.func11, Try.ntmps11
      go_wp2_with (first | (go_at_call 25; refine HO.out.mono ?_; rintro e w1 ⟨rfl, b1⟩) | (go_at_call 28; refine (HT.out _).mono ?_; rintro e w2 ⟨rfl, rfl⟩))
      go_loopw [5, 6] (fun s i wr => ∃ k : Nat, k ≤ n ∧ i = .int .i64 k ∧ s = .int .i64 (sumL (cntV t) (l.take k)) ∧ Below w.heap.size w wr) (fun _ i _ => n - (intOf i).toNat)
      case atStart => exact ⟨0, Nat.zero_le _, rfl, rfl, b1⟩
      case round =>
        obtain ⟨k, hk, rfl, rfl, hb⟩ := hrel
        by_cases hlt : k < n
        · obtain ⟨v, hv⟩ := get_at (l := l) (k := k) (by rw [← hn.out]; exact hlt)
          obtain ⟨b, off, rfl, hbB, c0, c1⟩ := (h.next hb).at_ hv
          have HS := Lib.hid (sumL_next (f := cntV t) hv)
          have ha := HA.out _ _ hv
          have hq := hB.out k
          rw [List.length_take] at hq
          obtain ⟨u, hu⟩ : ∃ u, sumL (cntV t) (l.take k) = u := ⟨_, rfl⟩
          rw [hu] at HS hq ⊢
          clear hv hu
          by_cases hle : v.at_ ≤ t
          · have HS' := Lib.hid (show sumL (cntV t) (l.take (k + 1)) = u + v.add by rw [HS.out]; unfold cntV; rw [if_pos hle])
            go_wp2_with fail
            go_roundw
            case rel => exact ⟨k + 1, by omega, by go_num, by rw [HS'.out], hb⟩
            case measure => simp [intOf]; omega
          · have HS' := Lib.hid (show sumL (cntV t) (l.take (k + 1)) = u by rw [HS.out]; unfold cntV; rw [if_neg hle]; omega)
            go_wp2_with fail
            go_roundw
            case rel => exact ⟨k + 1, by omega, by go_num, by rw [HS'.out], hb⟩
            case measure => simp [intOf]; omega
        · have HE := Lib.hid (show l.take k = l by rw [show k = n by omega, hn.out, List.take_length])
          go_wp2_with fail
          go_returns
          exact ⟨by rw [HE.out]; rfl, hb⟩

set_option maxHeartbeats 2000000 in
theorem smeared_spec (t : Int) (l : List Lp) (n : Nat) (hn : Hid (n = l.length)) (hm : n ≤ maxLen) (x : Option Addr) (cap : Nat) (w : World) (h : Lps w.heap.size w x l) :
    Calls Try.prog 15 #[.slice x n cap, .int .i64 t] w fun e w' => e = .returned (.int .i64 (smearedV l t)) ∧ Below w.heap.size w w' := by
  cases ho : okLps l with
  | false =>
    rw [smearedV_no (by rw [ho]; rfl)]
    have HO := Lib.hid (leapsOk_decS ho n hn hm x cap w h)
    go_enter Try.func15, Try.ntmps15
    go_wp2_with (go_at_call 25; refine HO.out.mono ?_; rintro e w1 ⟨rfl, b1⟩)
    go_returns
    exact ⟨rfl, b1⟩
  | true =>
    have HO := Lib.hid (leapsOk_decS ho n hn hm x cap w h)
    cases ht : timeL t with
    | false =>
      rw [smearedV_no (by rw [ht]; simp)]
      have HT := Lib.hid (fun w => time_decS ht w)
      clear ht ho
      go_enter Try.func15, Try.ntmps15
      go_wp2_with (first | (go_at_call 25; refine HO.out.mono ?_; rintro e w1 ⟨rfl, b1⟩) | (go_at_call 28; refine (HT.out _).mono ?_; rintro e w2 ⟨rfl, rfl⟩))
      go_returns
      exact ⟨rfl, b1⟩
    | true =>
      rw [smearedV_ok (by rw [ht, ho]; rfl)]
      obtain ⟨t0, t1⟩ := timeL_iff.1 ht
      have HT := Lib.hid (fun w => time_decS ht w)
      have h30 : n ≤ 30 := by rw [hn.out]; exact okLps_len ho
      have hB := Lib.hid (fun k => sumL_bound (f := smearV t) (l := l.take k) (B := 1000000) (by omega) (fun v hv => smearV_bound (mem_take_ok ho k v hv)))
      have HA := Lib.hid (fun (k : Nat) (v : Lp) (hv : l[k]? = some v) => Lp.ok_iff.1 (okLps_at ho hv).1)
      clear ht ho
      go_enter Try.func15, Try.ntmps15
      go_wp2_with (first | (go_at_call 25; refine HO.out.mono ?_; rintro e w1 ⟨rfl, b1⟩) | (go_at_call 28; refine (HT.out _).mono ?_; rintro e w2 ⟨rfl, rfl⟩))
      go_loopw [5, 6] (fun s i wr => ∃ k : Nat, k ≤ n ∧ i = .int .i64 k ∧ s = .int .i64 (sumL (smearV t) (l.take k)) ∧ Below w.heap.size w wr) (fun _ i _ => n - (intOf i).toNat)
      case atStart => exact ⟨0, Nat.zero_le _, rfl, rfl, b1⟩
      case round =>
        obtain ⟨k, hk, rfl, rfl, hb⟩ := hrel
        by_cases hlt : k < n
        · obtain ⟨v, hv⟩ := get_at (l := l) (k := k) (by rw [← hn.out]; exact hlt)
          obtain ⟨b, off, rfl, hbB, c0, c1⟩ := (h.next hb).at_ hv
          have HS := Lib.hid (sumL_next (f := smearV t) hv)
          obtain ⟨⟨a0, a1⟩, ha⟩ := HA.out _ _ hv
          have hq := hB.out k
          rw [List.length_take] at hq
          obtain ⟨u, hu⟩ : ∃ u, sumL (smearV t) (l.take k) = u := ⟨_, rfl⟩
          rw [hu] at HS hq ⊢
          clear hv hu
          have h1 := comeV_bound t v
          obtain ⟨c, hc⟩ : ∃ c, comeV t v = c := ⟨_, rfl⟩
          have HS' := Lib.hid (show sumL (smearV t) (l.take (k + 1)) = u + v.add * (c * 1000000 / 86400) by rw [HS.out, ← hc]; rfl)
          have hcv : (t - v.at_ + 43200 ≤ 0 ∧ c = 0) ∨ (86400 ≤ t - v.at_ + 43200 ∧ c = 86400) ∨ (0 < t - v.at_ + 43200 ∧ t - v.at_ + 43200 < 86400 ∧ c = t - v.at_ + 43200) := by
            rw [← hc]; unfold comeV; omega
          clear hc h1 HS
          rcases ha with ha | ha <;> rcases hcv with ⟨p0, rfl⟩ | ⟨p0, rfl⟩ | ⟨p0, p1, rfl⟩
          all_goals
            obtain ⟨vt, va⟩ := v
            dsimp only at *
            subst ha
            go_wp2_with fail
            all_goals first
              | (exfalso; omega)
              | (go_roundw
                 case rel => exact ⟨k + 1, by omega, by go_num, by rw [HS'.out]; first | rfl | (congr 1; omega), hb⟩
                 case measure => simp [intOf]; omega)
        · have HE := Lib.hid (show l.take k = l by rw [show k = n by omega, hn.out, List.take_length])
          go_wp2_with fail
          go_returns
          exact ⟨by rw [HE.out]; rfl, hb⟩
end Go.Proofs.Ytlgmdicpmifcmaa
