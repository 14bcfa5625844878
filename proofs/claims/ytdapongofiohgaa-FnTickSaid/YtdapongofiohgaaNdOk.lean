/- Which lists of nodes are right: of the program and of the reference. -/
import Derived.Test.YtdapongofiohgaaNdRead
import Derived.Test.YtdapongofiohgaaIn
import Derived.Lib.QuietBelow
namespace Go.Proofs.Ytdapongofiohgaa
open Go.ChangeShapes Go.WideShapes Go.ChangeAt Go.RowKit Go.Sort
set_option linter.unusedVariables false
set_option linter.unusedSimpArgs false

/-- The one ahead of this place; -1 ahead of the first. -/
def prevOf (l : List Int) (j : Nat) : Int := if j = 0 then -1 else l.getD (j - 1) 0
def riseAt (N : Int) (l : List Int) (j : Nat) (z : Int) : Bool := inB 0 z (N - 1) && decide (prevOf l j < z)
def riseTo (N : Int) (l : List Int) (k : Nat) : Bool := (List.range k).all fun j => match l[j]? with | some z => riseAt N l j z | none => true
theorem riseTo_next {N : Int} {l : List Int} {k : Nat} {z : Int} (h : l[k]? = some z) : riseTo N l (k + 1) = (riseTo N l k && riseAt N l k z) := by
  unfold riseTo
  rw [List.range_succ, List.all_append]
  simp [h]
theorem riseTo_at {N : Int} {l : List Int} {k j : Nat} {z : Int} (h : riseTo N l k = true) (hj : j < k) (hz : l[j]? = some z) : riseAt N l j z = true := by
  have := List.all_eq_true.1 h j (List.mem_range.2 hj)
  rw [hz] at this
  exact this
theorem riseTo_false {N : Int} {l : List Int} {k : Nat} {z : Int} (h : l[k]? = some z) (hf : riseAt N l k z = false) : riseTo N l l.length = false := by
  cases e : riseTo N l l.length with
  | false => rfl
  | true =>
    have := riseTo_at e (List.getElem?_eq_some_iff.1 h).1 h
    rw [hf] at this
    cases this
theorem prevOf_zero (l : List Int) : prevOf l 0 = -1 := rfl
theorem prevOf_next {l : List Int} {k : Nat} {z : Int} (h : l[k]? = some z) : prevOf l (k + 1) = z := by
  unfold prevOf
  rw [if_neg (Nat.succ_ne_zero k), Nat.add_sub_cancel, List.getD_eq_getElem?_getD, h]
  rfl
theorem prevOf_ge {N : Int} {l : List Int} {k : Nat} (h : riseTo N l k = true) (hk : k ≤ l.length) : -1 ≤ prevOf l k := by
  cases k with
  | zero => exact Int.le_refl _
  | succ k =>
    obtain ⟨z, hz⟩ := getI (l := l) (k := k) (by omega)
    rw [prevOf_next hz]
    have := riseTo_at h (Nat.lt_succ_self k) hz
    unfold riseAt at this
    rw [Bool.and_eq_true, inB_iff] at this
    omega
/-- The program's test at a place is the same. -/
theorem riseAt_within {N : Int} {l : List Int} {k : Nat} (z : Int) (h : riseTo N l k = true) (hk : k ≤ l.length) : inB (prevOf l k + 1) z (N - 1) = riseAt N l k z := by
  have hp := prevOf_ge h hk
  unfold riseAt inB
  by_cases h1 : prevOf l k < z
  · by_cases h2 : z ≤ N - 1
    · rw [decide_eq_true (show prevOf l k + 1 ≤ z by omega), decide_eq_true (show 0 ≤ z by omega), decide_eq_true h1, decide_eq_true h2]; rfl
    · rw [decide_eq_false h2]; simp
  · rw [decide_eq_false (show ¬ prevOf l k + 1 ≤ z by omega), decide_eq_false h1]; simp
theorem has_next {l : List Int} {k : Nat} {z : Int} (a : Int) (h : l[k]? = some z) : (l.take (k + 1)).contains a = ((l.take k).contains a || (z == a)) := by
  rw [List.take_add_one, h, List.contains_eq_any_beq, List.contains_eq_any_beq, List.any_append]
  simp [Bool.beq_comm, eq_comm]
theorem has_full {l : List Int} {k : Nat} (a : Int) (h : k = l.length) : (l.take k).contains a = l.contains a := by rw [h, List.take_length]
theorem has_hit {l : List Int} {k : Nat} {z : Int} (h : l[k]? = some z) : l.contains z = true := by
  rw [List.contains_iff_mem]
  exact List.mem_of_getElem? h
/-- Is what a node says of itself right, but for its peers' order? -/
def standsB (v : Nd) : Bool := if v.src then (v.ref == -1 && v.str == 1) else if v.ref == -1 then v.str == 16 else (v.peers.contains v.ref && inB 2 v.str 15)
def ndOk (N : Int) (at_ : Int) (v : Nd) : Bool := riseTo N v.peers v.peers.length && !v.peers.contains at_ && standsB v
theorem has_neg {N : Int} {l : List Int} (h : riseTo N l l.length = true) : l.contains (-1) = false := by
  cases e : l.contains (-1) with
  | false => rfl
  | true =>
    rw [List.contains_iff_mem] at e
    obtain ⟨j, hj⟩ := List.getElem?_of_mem e
    have := riseTo_at h (List.getElem?_eq_some_iff.1 hj).1 hj
    unfold riseAt at this
    rw [Bool.and_eq_true, inB_iff] at this
    omega
def okTo (l : List Nd) (k : Nat) : Bool := (List.range k).all fun i => match l[i]? with | some v => ndOk l.length i v | none => true
def nodesOk (l : List Nd) : Bool := okTo l l.length && decide (l.length ≤ 12)
theorem okTo_next {l : List Nd} {k : Nat} {v : Nd} (h : l[k]? = some v) : okTo l (k + 1) = (okTo l k && ndOk l.length k v) := by
  unfold okTo
  rw [List.range_succ, List.all_append]
  simp [h]
theorem okTo_at {l : List Nd} {k j : Nat} {v : Nd} (h : okTo l k = true) (hj : j < k) (hz : l[j]? = some v) : ndOk l.length j v = true := by
  have := List.all_eq_true.1 h j (List.mem_range.2 hj)
  rw [hz] at this
  exact this
theorem okTo_false {l : List Nd} {k : Nat} {v : Nd} (h : l[k]? = some v) (hf : ndOk l.length k v = false) : nodesOk l = false := by
  unfold nodesOk
  cases e : okTo l l.length with
  | false => rfl
  | true =>
    have := okTo_at e (List.getElem?_eq_some_iff.1 h).1 h
    rw [hf] at this
    cases this

/-! ### The program's -/
set_option maxHeartbeats 1000000 in
theorem placesRise_c (N : Nat) (hN : N ≤ 100) (l : List Int) (n : Nat) (hn : Hid (n = l.length)) (hm : n ≤ maxLen) (x : Option Addr) (cap : Nat) (w : World) (h : IntsAt w.heap.size w x l) :
    Calls Try.prog 57 #[.slice x n cap, .int .i64 N] w fun e w' => e = .returned (.bool (riseTo N l l.length)) ∧ Below w.heap.size w w' := by
  unfold maxLen at hm
  have hw0 : IntKind.i64.wrap ((N : Int) - 1) = (N : Int) - 1 := IntWalk.i64_in _ (by omega)
  go_enter Try.func57, Try.ntmps57
  go_wp2
  go_loopw [5, 10] (fun p i wr => ∃ k : Nat, k ≤ n ∧ i = .int .i64 k ∧ p = .int .i64 (prevOf l k) ∧ Hid (riseTo N l k = true) ∧ -1 ≤ prevOf l k ∧ prevOf l k ≤ 100 ∧ Below w.heap.size w wr) (fun _ i _ => n - (intOf i).toNat)
  case atStart => exact ⟨0, Nat.zero_le _, rfl, rfl, Lib.hid rfl, by rw [prevOf_zero]; omega, by rw [prevOf_zero]; omega, Below.refl _ _⟩
  case round =>
    obtain ⟨k, hk, rfl, rfl, HR, p0, p1, hb⟩ := hrel
    by_cases hlt : k < n
    · obtain ⟨z, hz⟩ := getI (l := l) (k := k) (by rw [← hn.out]; exact hlt)
      obtain ⟨b, off, rfl, _, c0⟩ := (h.next hb).at_ hz
      have hnx := riseTo_next (N := N) hz
      rw [HR.out, Bool.true_and] at hnx
      have HW := riseAt_within z HR.out (Nat.le_of_lt (by rw [← hn.out]; exact hlt))
      have HP := Lib.hid (prevOf_next hz)
      obtain ⟨p, hp⟩ : ∃ p, prevOf l k = p := ⟨_, rfl⟩
      rw [hp] at p0 p1 HW ⊢
      have hw1 : IntKind.i64.wrap (p + 1) = p + 1 := IntWalk.i64_in _ (by omega)
      cases hr : riseAt N l k z with
      | false =>
        have HF := Lib.hid (riseTo_false hz hr)
        rw [hr] at HW
        have HC := Lib.hid (fun W => (HW ▸ within_c z (p + 1) ((N : Int) - 1) W : Calls Try.prog 41 #[.int .i64 z, .int .i64 (p + 1), .int .i64 ((N : Int) - 1)] W fun e w' => e = .returned (.bool false) ∧ W = w'))
        clear hz hnx HW hp hr HR
        go_wp2_with fail
        refine (HC.out _).mono ?_
        rintro e w1 ⟨rfl, rfl⟩
        go_wp2_with fail
        go_returns
        exact ⟨by rw [HF.out]; rfl, hb⟩
      | true =>
        rw [hr] at HW hnx
        have HR1 := Lib.hid hnx
        have hzz : -1 ≤ z ∧ z ≤ 100 := by
          unfold riseAt at hr
          rw [Bool.and_eq_true, inB_iff] at hr
          omega
        have HZZ := Lib.hid hzz
        have HC := Lib.hid (fun W => (HW ▸ within_c z (p + 1) ((N : Int) - 1) W : Calls Try.prog 41 #[.int .i64 z, .int .i64 (p + 1), .int .i64 ((N : Int) - 1)] W fun e w' => e = .returned (.bool true) ∧ W = w'))
        clear hz hnx HW hp hr HR hzz
        go_wp2_with fail
        refine (HC.out _).mono ?_
        rintro e w1 ⟨rfl, rfl⟩
        go_wp2_with fail
        go_roundw
        case rel => exact ⟨k + 1, by omega, by go_num, by rw [HP.out], HR1, by rw [HP.out]; exact HZZ.out.1, by rw [HP.out]; exact HZZ.out.2, hb⟩
        case measure => simp [intOf]; omega
    · have HE := Lib.hid (show k = l.length by rw [← hn.out]; omega)
      go_wp2_with fail
      go_returns
      refine ⟨?_, hb⟩
      have := HR.out
      rw [HE.out] at this
      rw [this]
      rfl
set_option maxHeartbeats 1000000 in
theorem contains_c (l : List Int) (a : Int) (n : Nat) (hn : Hid (n = l.length)) (hm : n ≤ maxLen) (x : Option Addr) (cap : Nat) (w : World) (h : IntsAt w.heap.size w x l) :
    Calls Try.prog 58 #[.slice x n cap, .int .i64 a] w fun e w' => e = .returned (.bool (l.contains a)) ∧ Below w.heap.size w w' := by
  unfold maxLen at hm
  go_enter Try.func58, Try.ntmps58
  go_wp2_with (go_at_call 79; go_in)
  go_loopw [8] (fun i wr => ∃ k : Nat, k ≤ n ∧ i = .int .i64 k ∧ Hid ((l.take k).contains a = false) ∧ Below w.heap.size w wr) (fun i _ => n - (intOf i).toNat)
  case atStart => exact ⟨0, Nat.zero_le _, rfl, Lib.hid rfl, Below.refl _ _⟩
  case round =>
    obtain ⟨k, hk, rfl, HA, hb⟩ := hrel
    by_cases hlt : k < n
    · obtain ⟨z, hz⟩ := getI (l := l) (k := k) (by rw [← hn.out]; exact hlt)
      obtain ⟨b, off, rfl, _, c0⟩ := (h.next hb).at_ hz
      have hnx := has_next a hz
      rw [HA.out, Bool.false_or] at hnx
      cases ha : (a == z) with
      | true =>
        have e : a = z := by simpa using ha
        have HH := Lib.hid (has_hit hz)
        subst e
        have hd : decide ((0 : Int) ≤ (k : Int)) = true := decide_eq_true (by omega)
        clear hz hnx HA
        go_wp2_with fail
        go_returns
        exact ⟨by rw [HH.out]; rfl, hb⟩
      | false =>
        have ha' : (z == a) = false := by simp only [beq_eq_false_iff_ne, ne_eq] at ha ⊢; exact fun e => ha e.symm
        rw [ha'] at hnx
        have HA1 := Lib.hid hnx
        clear hz hnx HA
        go_wp2_with fail
        go_roundw
        case rel => exact ⟨k + 1, by omega, by go_num, HA1, hb⟩
        case measure => simp [intOf]; omega
    · have HE := Lib.hid (has_full a (show k = l.length by rw [← hn.out]; omega))
      go_wp2_with fail
      go_returns
      exact ⟨by rw [← HE.out, HA.out]; rfl, hb⟩
end Go.Proofs.Ytdapongofiohgaa
