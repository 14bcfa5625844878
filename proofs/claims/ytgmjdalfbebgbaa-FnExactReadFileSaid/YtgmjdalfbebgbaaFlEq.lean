/- Rows of files held against each other: by the library, by the reference. -/
import Derived.Test.YtgmjdalfbebgbaaFl
import Derived.Deep.QuietTactic
import Derived.BigQuiet
import Derived.Deep.RegionWith
namespace Go.Proofs.Ytgmjdalfbebgbaa
open Go.ChangeShapes Go.WideShapes Go.ChangeAt Go.RowKit
set_option linter.unusedVariables false
set_option linter.unusedSimpArgs false
set_option maxRecDepth 100000

theorem eq_fl (u v : Fl) (w : World) : (Op.equalIn 10000 84 (.agg #[.string u.name, .string u.data]) (.agg #[.string v.name, .string v.data])).run Try.prog w = .ok (sameFl u v) w := by
  unfold sameFl
  cases h0 : (u.name.toList == v.name.toList)
  · go_simp
  cases h1 : (u.data.toList == v.data.toList)
  · go_simp
  · go_simp
theorem sameF_false {a b : List Fl} (h : a ≠ b) : sameF a b = false := by
  cases hs : sameF a b with
  | false => rfl
  | true => exact absurd (sameF_iff.1 hs) h
set_option maxHeartbeats 2000000 in
theorem l10Same_c (l m : List Fl) (n n' : Nat) (hn : Hid (n = l.length)) (hn' : Hid (n' = m.length)) (hb : n ≤ 1099511627776) (hb' : n' ≤ 1099511627776) (x y : Option Addr) (cap cap' : Nat) (w : World) (h : GAt flC w.heap.size w x l) (h' : GAt flC w.heap.size w y m) :
    Calls Try.prog 44 #[.slice x n cap, .slice y n' cap'] w fun e w' => e = .returned (.bool (sameF l m)) ∧ Below w.heap.size w w' := by
  by_cases hne : n = n'
  · subst hne
    go_enter Try.func44, Try.ntmps44
    go_wp2_with fail
    go_loopw [5] (fun i wr => ∃ k : Nat, k ≤ n ∧ i = .int .i64 k ∧ Hid (∀ i < k, l[i]? = m[i]?) ∧ Below w.heap.size w wr) (fun i _ => n - (RowKit.intOf i).toNat)
    case atStart => exact ⟨0, Nat.zero_le _, rfl, Lib.hid (fun i hi => by omega), Below.refl _ _⟩
    case round =>
      obtain ⟨k, hk, rfl, HE, hbw⟩ := hrel
      by_cases hlt : k < n
      · obtain ⟨u, hu⟩ := getG (l := l) (k := k) (by rw [← hn.out]; exact hlt)
        obtain ⟨v, hv⟩ := getG (l := m) (k := k) (by rw [← hn'.out]; exact hlt)
        obtain ⟨g, off, rfl, _, d0, d1⟩ := (h.next hbw).fl hu
        obtain ⟨g', off', rfl, _, e0, e1⟩ := (h'.next hbw).fl hv
        have hkn : (k : Int) < (n : Int) := by omega
        have hw1 : IntKind.i64.wrap ((k : Int) + 1) = (k : Int) + 1 := IntWalk.i64_in _ (by omega)
        have hq := fun W => eq_fl u v W
        have HU := Lib.hid hu
        have HV := Lib.hid hv
        clear hu hv
        obtain ⟨q, hs⟩ : ∃ q, sameFl u v = q := ⟨_, rfl⟩
        have HS := Lib.hid hs
        rw [hs] at hq
        clear hs
        cases q with
        | false =>
          have HR : Hid (sameF l m = false) := Lib.hid (sameF_false (fun e => by
            have h1 := HU.out
            rw [e, HV.out] at h1
            have h2 := HS.out
            rw [Option.some.inj h1] at h2
            rw [sameFl_iff.2 rfl] at h2
            cases h2))
          go_wp2_with fail
          go_quiet (fail)
          go_wp2_with fail
          go_returns
          exact ⟨by rw [HR.out]; rfl, grow_drew hbw _⟩
        | true =>
          have HE2 : Hid (∀ i < k + 1, l[i]? = m[i]?) := Lib.hid (fun i hi => by
            by_cases e : i = k
            · rw [e, HU.out, HV.out, sameFl_iff.1 HS.out]
            · exact HE.out i (by omega))
          go_wp2_with fail
          go_quiet (fail)
          go_wp2_with fail
          go_roundw
          case rel => exact ⟨k + 1, by omega, by go_num, HE2, grow_drew hbw _⟩
          case measure => simp [RowKit.intOf]; omega
      · have HR : Hid (sameF l m = true) := Lib.hid (sameF_iff.2 (List.ext_getElem? fun i => by
          rcases Nat.lt_or_ge i k with hi | hi
          · exact HE.out i hi
          · rw [List.getElem?_eq_none (by have := hn.out; omega), List.getElem?_eq_none (by have := hn'.out; omega)]))
        have hkn : ¬ (k : Int) < (n : Int) := by omega
        go_wp2_with fail
        go_returns
        exact ⟨by rw [HR.out]; rfl, hbw⟩
  · have HR : Hid (sameF l m = false) := Lib.hid (sameF_false (fun e => hne (by rw [hn.out, hn'.out, e])))
    have hd : ((n : Int) != (n' : Int)) = true := by rw [bne_iff_ne]; omega
    clear hne
    go_enter Try.func44, Try.ntmps44
    go_wp2_with fail
    go_returns
    exact ⟨by rw [HR.out]; rfl, Below.refl _ _⟩
set_option maxHeartbeats 2000000 in
theorem equalF_c (l m : List Fl) (n n' : Nat) (hn : Hid (n = l.length)) (hn' : Hid (n' = m.length)) (hb : n ≤ 1099511627776) (hb' : n' ≤ 1099511627776) (x y : Option Addr) (cap cap' : Nat) (w : World) (h : GAt flC w.heap.size w x l) (h' : GAt flC w.heap.size w y m) :
    Calls Try.prog 52 #[.slice x n cap, .slice y n' cap'] w fun e w' => e = .returned (.bool (sameF l m)) ∧ Below w.heap.size w w' := by
  by_cases hne : n = n'
  · subst hne
    go_enter Try.func52, Try.ntmps52
    go_wp2_with fail
    go_loopw [13] (fun i wr => ∃ k : Nat, k ≤ n ∧ i = .int .i64 k ∧ Hid (∀ i < k, l[i]? = m[i]?) ∧ Below w.heap.size w wr) (fun i _ => n - (RowKit.intOf i).toNat)
    case atStart => exact ⟨0, Nat.zero_le _, rfl, Lib.hid (fun i hi => by omega), Below.refl _ _⟩
    case round =>
      obtain ⟨k, hk, rfl, HE, hbw⟩ := hrel
      by_cases hlt : k < n
      · obtain ⟨u, hu⟩ := getG (l := l) (k := k) (by rw [← hn.out]; exact hlt)
        obtain ⟨v, hv⟩ := getG (l := m) (k := k) (by rw [← hn'.out]; exact hlt)
        obtain ⟨g, off, rfl, _, d0, d1⟩ := (h.next hbw).fl hu
        obtain ⟨g', off', rfl, _, e0, e1⟩ := (h'.next hbw).fl hv
        have hkn : (k : Int) < (n : Int) := by omega
        have hw1 : IntKind.i64.wrap ((k : Int) + 1) = (k : Int) + 1 := IntWalk.i64_in _ (by omega)
        have hq := fun W => eq_fl u v W
        have HU := Lib.hid hu
        have HV := Lib.hid hv
        clear hu hv
        obtain ⟨q, hs⟩ : ∃ q, sameFl u v = q := ⟨_, rfl⟩
        have HS := Lib.hid hs
        rw [hs] at hq
        clear hs
        cases q with
        | false =>
          have HR : Hid (sameF l m = false) := Lib.hid (sameF_false (fun e => by
            have h1 := HU.out
            rw [e, HV.out] at h1
            have h2 := HS.out
            rw [Option.some.inj h1] at h2
            rw [sameFl_iff.2 rfl] at h2
            cases h2))
          go_wp2_with fail
          go_quiet (fail)
          go_wp2_with fail
          go_returns
          exact ⟨by rw [HR.out]; rfl, grow_drew hbw _⟩
        | true =>
          have HE2 : Hid (∀ i < k + 1, l[i]? = m[i]?) := Lib.hid (fun i hi => by
            by_cases e : i = k
            · rw [e, HU.out, HV.out, sameFl_iff.1 HS.out]
            · exact HE.out i (by omega))
          go_wp2_with fail
          go_quiet (fail)
          go_wp2_with fail
          go_roundw
          case rel => exact ⟨k + 1, by omega, by go_num, HE2, grow_drew hbw _⟩
          case measure => simp [RowKit.intOf]; omega
      · have HR : Hid (sameF l m = true) := Lib.hid (sameF_iff.2 (List.ext_getElem? fun i => by
          rcases Nat.lt_or_ge i k with hi | hi
          · exact HE.out i hi
          · rw [List.getElem?_eq_none (by have := hn.out; omega), List.getElem?_eq_none (by have := hn'.out; omega)]))
        have hkn : ¬ (k : Int) < (n : Int) := by omega
        go_wp2_with fail
        go_returns
        exact ⟨by rw [HR.out]; rfl, hbw⟩
  · have HR : Hid (sameF l m = false) := Lib.hid (sameF_false (fun e => hne (by rw [hn.out, hn'.out, e])))
    have hd : ((n : Int) != (n' : Int)) = true := by rw [bne_iff_ne]; omega
    clear hne
    go_enter Try.func52, Try.ntmps52
    go_wp2_with fail
    go_returns
    exact ⟨by rw [HR.out]; rfl, Below.refl _ _⟩
end Go.Proofs.Ytgmjdalfbebgbaa
