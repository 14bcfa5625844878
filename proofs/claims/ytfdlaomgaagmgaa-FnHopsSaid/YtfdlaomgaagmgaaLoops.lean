/- Does somebody go round for ever: of the program and of the reference. -/
import Derived.Test.YtfdlaomgaagmgaaLoopsMath
import Derived.Test.YtfdlaomgaagmgaaNdOkI
import Derived.Test.YtfdlaomgaagmgaaNdOkS
namespace Go.Proofs.Ytfdlaomgaagmgaa
open Go.ChangeShapes Go.WideShapes Go.ChangeAt Go.RowKit Go.Sort
set_option linter.unusedVariables false
set_option linter.unusedSimpArgs false

/-- Whom the node at this place follows, in memory. -/
theorem Nds.ref_ {w : World} {x : Option Addr} {l : List Nd} (h : Nds w.heap.size w x l) {a : Int} (h0 : 0 ≤ a) (h1 : a < l.length) : ∃ (j : Nat) (b off : Nat), a = (j : Int) ∧ j < l.length ∧ x = some ⟨b, off, none⟩ ∧ w.cell? ⟨b, off + j * 4 + 2, none⟩ = some (.int .i64 (refAt l a)) := by
  obtain ⟨v, hv⟩ := getN (l := l) (k := a.toNat) (by omega)
  obtain ⟨b, off, px, pc, rfl, _, c0, c1, c2, c3, _⟩ := h.at_ hv
  exact ⟨a.toNat, b, off, by omega, by omega, rfl, by rw [refAt_of hv]; exact c2⟩
set_option maxRecDepth 100000 in
set_option maxHeartbeats 2000000 in
theorem ends_c (l : List Nd) (hok : nodesOk l = true) (n : Nat) (hn : Hid (n = l.length)) (i : Nat) (hi : i < n) (x : Option Addr) (cap : Nat) (w : World) (h : Nds w.heap.size w x l) :
    Calls Try.prog 34 #[.slice x n cap, .int .i64 i] w fun e w' => e = .returned (.bool (decide (posOf l i l.length < 0))) ∧ Below w.heap.size w w' := by
  have hl12 := nodesOk_len hok
  have hn12 : n ≤ 12 := by rw [hn.out]; exact hl12
  have HP := Lib.hid (fun k => posOf_in hok (i := (i : Int)) (by omega) (by rw [← hn.out]; omega) k)
  go_enter Try.func34, Try.ntmps34
  go_wp2
  go_loopw [1, 7] (fun a q wr => ∃ (k : Nat) (p : Int), k ≤ n ∧ q = .int .i64 k ∧ a = .int .i64 p ∧ Hid (p = posOf l i k) ∧ 0 ≤ p ∧ p < n ∧ Below w.heap.size w wr) (fun _ q _ => n - (intOf q).toNat)
  case atStart => exact ⟨0, i, Nat.zero_le _, rfl, rfl, Lib.hid rfl, by omega, by omega, Below.refl _ _⟩
  case round =>
    obtain ⟨k, p, hk, rfl, rfl, HQ, p0, p1, hb⟩ := hrel
    by_cases hlt : k < n
    · obtain ⟨j, b, off, e, hj, rfl, c0⟩ := (h.next hb).ref_ p0 (by rw [← hn.out]; exact p1)
      have hj' : j < n := by rw [hn.out]; exact hj
      have hnx : posOf l i (k + 1) = refAt l p := by rw [posOf_next (by rw [← HQ.out]; omega), ← HQ.out]
      have hin := HP.out (k + 1)
      rw [hnx, ← hn.out] at hin
      obtain ⟨r, hr⟩ : ∃ r, refAt l p = r := ⟨_, rfl⟩
      rw [hr] at c0 hnx hin
      have HNX := Lib.hid hnx
      subst e
      clear hnx hr hj HQ
      cases hm : (r == -1) with
      | true =>
        have hrm : r = -1 := by simpa using hm
        have HV : Hid (decide (posOf l i l.length < 0) = true) := Lib.hid (decide_eq_true (posOf_gone (k := k + 1) (by rw [HNX.out, hrm]; omega) l.length (by rw [← hn.out]; omega)))
        clear hrm hin
        go_wp2_with fail
        go_returns
        exact ⟨by rw [HV.out]; rfl, hb⟩
      | false =>
        have hr0 : 0 ≤ r := by
          have : r ≠ -1 := by simpa using hm
          omega
        go_wp2_with fail
        go_roundw
        case rel => exact ⟨k + 1, r, by omega, by go_num, rfl, Lib.hid HNX.out.symm, hr0, hin.2, hb⟩
        case measure => simp [intOf]; omega
    · have HV : Hid (decide (posOf l i l.length < 0) = false) := Lib.hid (decide_eq_false (by
        rw [← hn.out, show n = k by omega, ← HQ.out]; omega))
      clear HQ
      go_wp2_with fail
      go_returns
      exact ⟨by rw [HV.out]; rfl, hb⟩
set_option maxRecDepth 100000 in
set_option maxHeartbeats 2000000 in
theorem loops_impl (l : List Nd) (n : Nat) (hn : Hid (n = l.length)) (hm : n ≤ maxLen) (x : Option Addr) (cap : Nat) (w : World) (h : Nds w.heap.size w x l) :
    Calls Try.prog 16 #[.slice x n cap] w fun e w' => e = .returned (.bool (loopsV l)) ∧ Below w.heap.size w w' := by
  have hO := nodesOk_impl l n hn hm x cap w h
  go_enter Try.func16, Try.ntmps16
  cases hok : nodesOk l with
  | false =>
    rw [hok] at hO
    have HO := Lib.hid hO
    have HV := Lib.hid (loopsV_no hok)
    clear hO hok
    go_wp2_with fail
    refine HO.out.mono ?_
    rintro e w1 ⟨rfl, hb1⟩
    go_wp2_with fail
    go_returns
    exact ⟨by rw [HV.out]; rfl, hb1⟩
  | true =>
    rw [hok] at hO
    have HO := Lib.hid hO
    have hl12 := nodesOk_len hok
    have hn12 : n ≤ 12 := by rw [hn.out]; exact hl12
    have HK := Lib.hid hok
    clear hO hok hl12
    go_wp2_with fail
    refine HO.out.mono ?_
    rintro e w1 ⟨rfl, hb1⟩
    have h1 := h.next hb1
    go_wp2_with fail
    go_loopw [9] (fun q wr => ∃ k : Nat, k ≤ n ∧ q = .int .i64 k ∧ Hid (∀ i : Nat, i < k → posOf l i l.length < 0) ∧ Below w1.heap.size w1 wr) (fun q _ => n - (intOf q).toNat)
    case atStart => exact ⟨0, Nat.zero_le _, rfl, Lib.hid (fun i hi => absurd hi (Nat.not_lt_zero _)), Below.refl _ _⟩
    case round =>
      obtain ⟨k, hk, rfl, HA, hb⟩ := hrel
      by_cases hlt : k < n
      · have hE := ends_c l HK.out n hn k hlt x cap wr (h1.next hb)
        cases hd : decide (posOf l (k : Int) l.length < 0) with
        | false =>
          rw [hd] at hE
          have HE := Lib.hid hE
          have HV := Lib.hid (loopsV_hit HK.out (i := k) (by rw [← hn.out]; exact hlt) (by have := of_decide_eq_false hd; omega))
          clear hE hd
          go_wp2_with fail
          refine HE.out.mono ?_
          rintro e w2 ⟨rfl, hb2⟩
          go_wp2_with fail
          go_returns
          exact ⟨by rw [HV.out]; rfl, grow_next hb1 (grow_next hb hb2)⟩
        | true =>
          rw [hd] at hE
          have HE := Lib.hid hE
          have HA1 : Hid (∀ i : Nat, i < k + 1 → posOf l i l.length < 0) := Lib.hid (fun i hi => by
            rcases Nat.lt_or_ge i k with h | h
            · exact HA.out i h
            · obtain rfl : i = k := by omega
              exact of_decide_eq_true hd)
          clear hE hd
          go_wp2_with fail
          refine HE.out.mono ?_
          rintro e w2 ⟨rfl, hb2⟩
          have b2 := grow_next hb hb2
          go_wp2_with fail
          go_roundw
          case rel => exact ⟨k + 1, by omega, by go_num, HA1, b2⟩
          case measure => simp [intOf]; omega
      · have HV := Lib.hid (loopsV_none (l := l) (fun i hi => HA.out i (by rw [← hn.out] at hi; omega)))
        clear HA
        go_wp2_with fail
        go_returns
        exact ⟨by rw [HV.out]; rfl, grow_next hb1 hb⟩
set_option maxRecDepth 100000 in
set_option maxHeartbeats 4000000 in
theorem loops_spec (l : List Nd) (n : Nat) (hn : Hid (n = l.length)) (hm : n ≤ maxLen) (x : Option Addr) (cap : Nat) (w : World) (h : Nds w.heap.size w x l) :
    Calls Try.prog 17 #[.slice x n cap] w fun e w' => e = .returned (.bool (loopsV l)) ∧ Below w.heap.size w w' := by
  have hO := nodesOk_spec l n hn hm x cap w h
  go_enter Try.func17, Try.ntmps17
  cases hok : nodesOk l with
  | false =>
    rw [hok] at hO
    have HO := Lib.hid hO
    have HV := Lib.hid (loopsV_no hok)
    clear hO hok
    go_wp2_with fail
    refine HO.out.mono ?_
    rintro e w1 ⟨rfl, hb1⟩
    go_wp2_with fail
    go_returns
    exact ⟨by rw [HV.out]; rfl, hb1⟩
  | true =>
    rw [hok] at hO
    have HO := Lib.hid hO
    have hl12 := nodesOk_len hok
    have hn12 : n ≤ 12 := by rw [hn.out]; exact hl12
    have HK := Lib.hid hok
    clear hO hok hl12
    go_wp2_with fail
    refine HO.out.mono ?_
    rintro e w1 ⟨rfl, hb1⟩
    have h1 := h.next hb1
    clear HO
    go_wp2_with fail
    go_loopw [3] (fun q wr => ∃ k : Nat, k ≤ n ∧ q = .int .i64 k ∧ Hid (∀ i : Nat, i < k → posOf l i l.length < 0) ∧ Below w1.heap.size w1 wr) (fun q _ => n - (intOf q).toNat)
    case atStart => exact ⟨0, Nat.zero_le _, rfl, Lib.hid (fun i hi => absurd hi (Nat.not_lt_zero _)), Below.refl _ _⟩
    case round =>
      obtain ⟨i, hi, rfl, HA, hb⟩ := hrel
      by_cases hlt : i < n
      · have HP := Lib.hid (fun k => posOf_in HK.out (i := (i : Int)) (by omega) (by rw [← hn.out]; omega) k)
        have h2 := h1.next hb
        go_wp2_with fail
        go_loopw [4, 5] (fun a q wr' => ∃ (k : Nat) (p : Int), k ≤ n + 1 ∧ q = .int .i64 k ∧ a = .int .i64 p ∧ Hid (p = posOf l i k) ∧ -1 ≤ p ∧ p < n ∧ wr = wr') (fun _ q _ => n + 1 - (intOf q).toNat)
        case atStart => exact ⟨0, i, Nat.zero_le _, rfl, rfl, Lib.hid rfl, by omega, by omega, rfl⟩
        case round =>
          obtain ⟨k, p, hk, rfl, rfl, HQ, p0, p1, rfl⟩ := hrel
          by_cases hkn : k ≤ n
          · have hd1 : decide ((k : Int) ≤ (n : Int)) = true := decide_eq_true (by omega)
            by_cases hpn : 0 ≤ p
            · have hd2 : decide (0 ≤ p) = true := decide_eq_true hpn
              obtain ⟨j, b, off, e, hj, rfl, c0⟩ := h2.ref_ hpn (by rw [← hn.out]; exact p1)
              have hj' : j < n := by rw [hn.out]; exact hj
              have hnx : posOf l i (k + 1) = refAt l p := by rw [posOf_next (by rw [← HQ.out]; omega), ← HQ.out]
              have hin := HP.out (k + 1)
              rw [hnx, ← hn.out] at hin
              obtain ⟨r, hr⟩ : ∃ r, refAt l p = r := ⟨_, rfl⟩
              rw [hr] at c0 hnx hin
              have HNX := Lib.hid hnx
              subst e
              clear hnx hr hj HQ
              go_wp2_with fail
              go_roundw
              case rel => exact ⟨k + 1, r, by omega, by go_num, rfl, Lib.hid HNX.out.symm, hin.1, hin.2, trivial⟩
              case measure => simp [intOf]; omega
            · have hd2 : decide (0 ≤ p) = false := decide_eq_false hpn
              have HA1 : Hid (∀ j : Nat, j < i + 1 → posOf l j l.length < 0) := Lib.hid (fun j hj => by
                rcases Nat.lt_or_ge j i with h | h
                · exact HA.out j h
                · obtain rfl : j = i := by omega
                  exact posOf_gone (k := k) (by rw [← HQ.out]; omega) _ (by rw [← hn.out]; exact hkn))
              go_wp2_with fail
              go_roundw
              case rel => exact ⟨i + 1, by omega, by go_num, HA1, hb⟩
              case measure => simp [intOf]; omega
          · have hd1 : decide ((k : Int) ≤ (n : Int)) = false := decide_eq_false (by omega)
            have HE : Hid (p = posOf l i (l.length + 1)) := Lib.hid (by rw [← hn.out, show n + 1 = k by omega]; exact HQ.out)
            by_cases hpn : 0 ≤ p
            · have hd2 : decide (0 ≤ p) = true := decide_eq_true hpn
              have HV := Lib.hid (loopsV_hit HK.out (i := i) (by rw [← hn.out]; exact hlt) (by
                rcases Int.lt_or_le (posOf l i l.length) 0 with hx | hx
                · have := posOf_gone hx (l.length + 1) (by omega)
                  rw [← HE.out] at this
                  omega
                · exact hx))
              go_wp2_with fail
              go_returns
              exact ⟨by rw [HV.out]; rfl, grow_next hb1 hb⟩
            · have hd2 : decide (0 ≤ p) = false := decide_eq_false hpn
              have HA1 : Hid (∀ j : Nat, j < i + 1 → posOf l j l.length < 0) := Lib.hid (fun j hj => by
                rcases Nat.lt_or_ge j i with h | h
                · exact HA.out j h
                · obtain rfl : j = i := by omega
                  rcases Int.lt_or_le (posOf l j l.length) 0 with hx | hx
                  · exact hx
                  · have := posOf_on HK.out (i := (j : Int)) (by omega) (by rw [← hn.out]; omega) hx
                    rw [← HE.out] at this
                    omega)
              go_wp2_with fail
              go_roundw
              case rel => exact ⟨i + 1, by omega, by go_num, HA1, hb⟩
              case measure => simp [intOf]; omega
      · have HV := Lib.hid (loopsV_none (l := l) (fun j hj => HA.out j (by rw [← hn.out] at hj; omega)))
        clear HA
        go_wp2_with fail
        go_returns
        exact ⟨by rw [HV.out]; rfl, grow_next hb1 hb⟩
end Go.Proofs.Ytfdlaomgaagmgaa
