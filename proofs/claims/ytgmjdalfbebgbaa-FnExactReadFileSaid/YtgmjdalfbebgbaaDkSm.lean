/- The reference's small functions on files: names, forms, the place of a file. -/
import Derived.Test.YtgmjdalfbebgbaaFlEq
import Derived.Test.YtgmjdalfbebgbaaIn
import Derived.Test.YtgmjdalfbebgbaaChg
namespace Go.Proofs.Ytgmjdalfbebgbaa
open Go.ChangeShapes Go.WideShapes Go.ChangeAt Go.RowKit
set_option linter.unusedVariables false
set_option linter.unusedSimpArgs false
set_option maxRecDepth 100000

set_option maxHeartbeats 1000000 in
theorem l10Name_c (s : ByteArray) (w : World) : Calls Try.prog 79 #[.string s] w fun e w' => e = .returned (.bool (nmOk s)) ∧ w = w' := by
  obtain ⟨n, hn⟩ : ∃ n, s.size = n := ⟨_, rfl⟩
  unfold nmOk
  rw [hn]
  go_enter Try.func79, Try.ntmps79
  by_cases h1 : 1 ≤ n
  · have d1 : decide ((n : Int) < 1) = false := decide_eq_false (by omega)
    have g1 : ¬ (n : Int) < 1 := by omega
    have f1 : (1 : Int) ≤ (n : Int) := by omega
    by_cases h2 : n ≤ 100
    · have d2 : decide ((n : Int) ≤ 100) = true := decide_eq_true (by omega)
      have g2 : (n : Int) ≤ 100 := by omega
      go_wp2_with fail
      go_returns
      exact ⟨by simp [h1, h2], rfl⟩
    · have d2 : decide ((n : Int) ≤ 100) = false := decide_eq_false (by omega)
      have g2 : ¬ (n : Int) ≤ 100 := by omega
      go_wp2_with fail
      go_returns
      exact ⟨by simp [h1, h2], rfl⟩
  · have d1 : decide ((n : Int) < 1) = true := decide_eq_true (by omega)
    have g1 : (n : Int) < 1 := by omega
    have f1 : ¬ (1 : Int) ≤ (n : Int) := by omega
    go_wp2_with fail
    go_returns
    exact ⟨by simp [h1], rfl⟩
def idxF (l : List Fl) (k : List UInt8) : Int := match l.findIdx? (fun f => f.key == k) with | some i => (i : Int) | none => -1
theorem idxF_hit {l : List Fl} {k : List UInt8} {j : Nat} {f : Fl} (hj : l[j]? = some f) (h : ∀ i < j, ∀ g, l[i]? = some g → g.key ≠ k) (hf : f.key = k) : idxF l k = (j : Int) ∧ flAt l k = some f := by
  have hjl := (List.getElem?_eq_some_iff.1 hj).1
  have hfj := (List.getElem?_eq_some_iff.1 hj).2
  constructor
  · unfold idxF
    rw [List.findIdx?_eq_some_iff_getElem.2 ⟨hjl, by rw [hfj, hf]; simp, fun i hi => by
      have := h i hi l[i] (List.getElem?_eq_getElem (by omega))
      simpa using this⟩]
  · unfold flAt
    rw [List.find?_eq_some_iff_getElem]
    exact ⟨by rw [hf]; simp, j, hjl, hfj, fun i hi => by
      have := h i hi l[i] (List.getElem?_eq_getElem (by omega))
      simpa using this⟩
theorem idxF_miss {l : List Fl} {k : List UInt8} (h : ∀ g ∈ l, g.key ≠ k) : idxF l k = -1 ∧ flAt l k = none := by
  constructor
  · unfold idxF
    rw [List.findIdx?_eq_none_iff.2 (fun g hg => by simpa using h g hg)]
  · unfold flAt
    exact List.find?_eq_none.2 (fun g hg => by simpa using h g hg)
theorem idxF_cases (l : List Fl) (k : List UInt8) : (idxF l k = -1 ∧ flAt l k = none) ∨ ∃ (j : Nat) (f : Fl), idxF l k = (j : Int) ∧ l[j]? = some f ∧ flAt l k = some f ∧ f.key = k := by
  cases h : l.findIdx? (fun f => f.key == k) with
  | none =>
    left
    refine idxF_miss fun g hg => ?_
    have := List.findIdx?_eq_none_iff.1 h g hg
    simpa using this
  | some j =>
    right
    obtain ⟨hjl, hk, hlt⟩ := List.findIdx?_eq_some_iff_getElem.1 h
    have hf : l[j].key = k := by simpa using hk
    obtain ⟨h1, h2⟩ := idxF_hit (List.getElem?_eq_getElem hjl) (fun i hi g hg => by
      obtain ⟨hil, e⟩ := List.getElem?_eq_some_iff.1 hg
      have := hlt i hi
      rw [e] at this
      simpa using this) hf
    exact ⟨j, l[j], h1, List.getElem?_eq_getElem hjl, h2, hf⟩
set_option maxHeartbeats 2000000 in
theorem l10At_c (l : List Fl) (s : ByteArray) (n : Nat) (hn : Hid (n = l.length)) (hb : n ≤ 1099511627776) (x : Option Addr) (cap : Nat) (w : World) (h : GAt flC w.heap.size w x l) :
    Calls Try.prog 66 #[.slice x n cap, .string s] w fun e w' => e = .returned (.int .i64 (idxF l s.toList)) ∧ w = w' := by
  go_enter Try.func66, Try.ntmps66
  go_wp2_with fail
  go_loop [5] (fun i => ∃ k : Nat, k ≤ n ∧ i = .int .i64 k ∧ Hid (∀ i < k, ∀ g, l[i]? = some g → g.key ≠ s.toList)) (fun i => n - (RowKit.intOf i).toNat)
  case atStart => exact ⟨0, Nat.zero_le _, rfl, Lib.hid (fun i hi => by omega)⟩
  case round =>
    obtain ⟨k, hk, rfl, HE⟩ := hrel
    by_cases hlt : k < n
    · obtain ⟨f, hf⟩ := getG (l := l) (k := k) (by rw [← hn.out]; exact hlt)
      obtain ⟨g, off, rfl, _, d0, d1⟩ := h.fl hf
      have hkn : (k : Int) < (n : Int) := by omega
      have hw1 : IntKind.i64.wrap ((k : Int) + 1) = (k : Int) + 1 := IntWalk.i64_in _ (by omega)
      have HF := Lib.hid hf
      clear hf
      cases hq : (f.name.toList == s.toList) with
      | true =>
        have HR : Hid (idxF l s.toList = (k : Int)) := Lib.hid (idxF_hit HF.out HE.out (by unfold Fl.key; simpa using hq)).1
        go_wp2_with fail
        go_returns
        exact ⟨by rw [HR.out]; rfl, rfl⟩
      | false =>
        have HE2 : Hid (∀ i < k + 1, ∀ g, l[i]? = some g → g.key ≠ s.toList) := Lib.hid (fun i hi g hg => by
          by_cases e : i = k
          · rw [e, HF.out] at hg
            rw [← Option.some.inj hg]
            unfold Fl.key
            simpa using hq
          · exact HE.out i (by omega) g hg)
        go_wp2_with fail
        go_round
        case rel => exact ⟨k + 1, by omega, by go_num, HE2⟩
        case measure => simp [RowKit.intOf]; omega
    · have hkn : ¬ (k : Int) < (n : Int) := by omega
      have HR : Hid (idxF l s.toList = -1) := Lib.hid (idxF_miss (fun g hg => by
        obtain ⟨j, hj⟩ := List.mem_iff_getElem?.1 hg
        exact HE.out j (by have := (List.getElem?_eq_some_iff.1 hj).1; have := hn.out; omega) g hj)).1
      go_wp2_with fail
      go_returns
      exact ⟨by rw [HR.out]; rfl, rfl⟩
set_option maxHeartbeats 2000000 in
theorem l10Form_c (o : Dp) (w : World) : Calls Try.prog 43 #[.agg #[.int .i64 o.kind, .string o.name, .string o.to, .string o.data]] w fun e w' => e = .returned (.bool (formV o)) ∧ Below w.heap.size w w' := by
  have B1 : Below w.heap.size w (w.alloc (.cells #[.int .i64 o.kind, .string o.name, .string o.to, .string o.data] 40)) := below_new _ _
  obtain ⟨c0, c1, c2, c3⟩ := four_new w (.int .i64 o.kind) (.string o.name) (.string o.to) (.string o.data) 40
  obtain ⟨kind, name, to, data⟩ := o
  simp only at B1 c0 c1 c2 c3 ⊢
  unfold formV
  simp only
  have HN := Lib.hid (fun W => l10Name_c name W)
  have HT := Lib.hid (fun W => l10Name_c to W)
  have HI := Lib.hid (fun W => l1In_c kind 1 3 W)
  obtain ⟨nm, hnm⟩ : ∃ b, nmOk name = b := ⟨_, rfl⟩
  obtain ⟨tm, htm⟩ : ∃ b, nmOk to = b := ⟨_, rfl⟩
  obtain ⟨te, hte⟩ : ∃ b, to.toList.isEmpty = b := ⟨_, rfl⟩
  obtain ⟨de, hde⟩ : ∃ b, data.toList.isEmpty = b := ⟨_, rfl⟩
  rw [hnm] at HN ⊢
  rw [htm] at HT ⊢
  rw [hte, hde]
  clear hnm htm
  by_cases k0 : 1 ≤ kind ∧ kind ≤ 3
  · have hin : inB 1 kind 3 = true := inB_iff.2 k0
    rw [hin] at HI
    rcases (show kind = 1 ∨ kind = 2 ∨ kind = 3 by omega) with rfl | rfl | rfl
    · go_enter Try.func43, Try.ntmps43
      clear k0 hin
      cases nm with
      | false =>
        go_wp2_with (first | (go_at_call 63; refine (HI.out _).mono ?_; rintro e w1 ⟨rfl, rfl⟩) | (go_at_call 79; (first | (with_reducible refine (HN.out _).mono ?_) | (with_reducible refine (HT.out _).mono ?_)); rintro e w1 ⟨rfl, rfl⟩))
        go_returns
        exact ⟨rfl, B1⟩
      | true =>
        cases te with
        | false =>
          go_wp2_with (first | (go_at_call 63; refine (HI.out _).mono ?_; rintro e w1 ⟨rfl, rfl⟩) | (go_at_call 79; (first | (with_reducible refine (HN.out _).mono ?_) | (with_reducible refine (HT.out _).mono ?_)); rintro e w1 ⟨rfl, rfl⟩))
          go_returns
          exact ⟨rfl, B1⟩
        | true =>
          go_wp2_with (first | (go_at_call 63; refine (HI.out _).mono ?_; rintro e w1 ⟨rfl, rfl⟩) | (go_at_call 79; (first | (with_reducible refine (HN.out _).mono ?_) | (with_reducible refine (HT.out _).mono ?_)); rintro e w1 ⟨rfl, rfl⟩))
          go_returns
          exact ⟨rfl, B1⟩
    · go_enter Try.func43, Try.ntmps43
      clear k0 hin
      cases nm with
      | false =>
        go_wp2_with (first | (go_at_call 63; refine (HI.out _).mono ?_; rintro e w1 ⟨rfl, rfl⟩) | (go_at_call 79; (first | (with_reducible refine (HN.out _).mono ?_) | (with_reducible refine (HT.out _).mono ?_)); rintro e w1 ⟨rfl, rfl⟩))
        go_returns
        exact ⟨rfl, B1⟩
      | true =>
        cases tm with
        | false =>
          go_wp2_with (first | (go_at_call 63; refine (HI.out _).mono ?_; rintro e w1 ⟨rfl, rfl⟩) | (go_at_call 79; (first | (with_reducible refine (HN.out _).mono ?_) | (with_reducible refine (HT.out _).mono ?_)); rintro e w1 ⟨rfl, rfl⟩))
          go_returns
          exact ⟨rfl, B1⟩
        | true =>
          cases de with
          | false =>
            go_wp2_with (first | (go_at_call 63; refine (HI.out _).mono ?_; rintro e w1 ⟨rfl, rfl⟩) | (go_at_call 79; (first | (with_reducible refine (HN.out _).mono ?_) | (with_reducible refine (HT.out _).mono ?_)); rintro e w1 ⟨rfl, rfl⟩))
            go_returns
            exact ⟨rfl, B1⟩
          | true =>
            go_wp2_with (first | (go_at_call 63; refine (HI.out _).mono ?_; rintro e w1 ⟨rfl, rfl⟩) | (go_at_call 79; (first | (with_reducible refine (HN.out _).mono ?_) | (with_reducible refine (HT.out _).mono ?_)); rintro e w1 ⟨rfl, rfl⟩))
            go_returns
            exact ⟨rfl, B1⟩
    · go_enter Try.func43, Try.ntmps43
      clear k0 hin
      cases nm with
      | false =>
        go_wp2_with (first | (go_at_call 63; refine (HI.out _).mono ?_; rintro e w1 ⟨rfl, rfl⟩) | (go_at_call 79; (first | (with_reducible refine (HN.out _).mono ?_) | (with_reducible refine (HT.out _).mono ?_)); rintro e w1 ⟨rfl, rfl⟩))
        go_returns
        exact ⟨rfl, B1⟩
      | true =>
        cases te with
        | false =>
          go_wp2_with (first | (go_at_call 63; refine (HI.out _).mono ?_; rintro e w1 ⟨rfl, rfl⟩) | (go_at_call 79; (first | (with_reducible refine (HN.out _).mono ?_) | (with_reducible refine (HT.out _).mono ?_)); rintro e w1 ⟨rfl, rfl⟩))
          go_returns
          exact ⟨rfl, B1⟩
        | true =>
          cases de with
          | false =>
            go_wp2_with (first | (go_at_call 63; refine (HI.out _).mono ?_; rintro e w1 ⟨rfl, rfl⟩) | (go_at_call 79; (first | (with_reducible refine (HN.out _).mono ?_) | (with_reducible refine (HT.out _).mono ?_)); rintro e w1 ⟨rfl, rfl⟩))
            go_returns
            exact ⟨rfl, B1⟩
          | true =>
            go_wp2_with (first | (go_at_call 63; refine (HI.out _).mono ?_; rintro e w1 ⟨rfl, rfl⟩) | (go_at_call 79; (first | (with_reducible refine (HN.out _).mono ?_) | (with_reducible refine (HT.out _).mono ?_)); rintro e w1 ⟨rfl, rfl⟩))
            go_returns
            exact ⟨rfl, B1⟩
  · have hin : inB 1 kind 3 = false := by
      cases h : inB 1 kind 3 with
      | false => rfl
      | true => exact absurd (inB_iff.1 h) k0
    rw [hin] at HI
    go_enter Try.func43, Try.ntmps43
    go_wp2_with (go_at_call 63; refine (HI.out _).mono ?_; rintro e w1 ⟨rfl, rfl⟩)
    go_returns
    exact ⟨by simp [show ¬ kind = 1 by omega, show ¬ kind = 2 by omega, show ¬ kind = 3 by omega], B1⟩
end Go.Proofs.Ytgmjdalfbebgbaa
