/- A number in decimal: the reference's way. -/
import Derived.Test.YtbkkgkmllplbaaaDoorPut
import Derived.Test.YtbkkgkmllplbaaaDoorKeep
import Derived.Lib.ItoaNum
import Derived.Lib.ItoaLen
import Derived.Lib.ItoaMem
import Derived.Lib.Hide
import Derived.IntWalk
namespace Go.Proofs.YtbkkgkmllplbaaaDoor
open Go.ChangeShapes Go.WideShapes Go.ChangeAt Go.RowKit
set_option linter.unusedVariables false
set_option linter.unusedSimpArgs false

/-- A number in decimal. -/
def decB (n : Int) : ByteArray := ⟨(Lib.itoa n).toArray⟩
/-- What is left to be told of the number, and the digits told. -/
def DecAt (M m : Nat) (t : List UInt8) : Prop := (t = [] ∧ m = M) ∨ (t ≠ [] ∧ ((m = 0 ∧ Lib.decDigits M = t) ∨ (m ≠ 0 ∧ Lib.decDigits M = Lib.decDigits m ++ t)))
theorem DecAt.next {M m : Nat} {t : List UInt8} (h : DecAt M m t) (hm : t = [] ∨ m ≠ 0) : DecAt M (m / 10) (UInt8.ofNat (48 + m % 10) :: t) := by
  right
  refine ⟨by simp, ?_⟩
  have e : Lib.decDigits M = Lib.decDigits m ++ t := by
    rcases h with ⟨rfl, rfl⟩ | ⟨h1, ⟨h2, _⟩ | ⟨_, h3⟩⟩
    · simp
    · exact absurd h2 (hm.resolve_left h1)
    · exact h3
  by_cases hlt : m < 10
  · left
    refine ⟨by omega, ?_⟩
    rw [e, Lib.decDigits, dif_pos hlt, show m % 10 = m by omega]
    rfl
  · right
    refine ⟨by omega, ?_⟩
    rw [e, Lib.decDigits, dif_neg hlt]
    simp
theorem DecAt.done {M : Nat} {t : List UInt8} (h : DecAt M 0 t) (ht : t ≠ []) : Lib.decDigits M = t := by
  rcases h with ⟨h1, _⟩ | ⟨_, ⟨_, h3⟩ | ⟨h3, _⟩⟩
  · exact absurd h1 ht
  · exact h3
  · exact absurd rfl h3
theorem DecAt.len {M m : Nat} {t : List UInt8} (h : DecAt M m t) : t.length ≤ (Lib.decDigits M).length := by
  rcases h with ⟨rfl, _⟩ | ⟨_, ⟨_, h3⟩ | ⟨_, h3⟩⟩
  · simp
  · rw [h3]; exact Nat.le_refl _
  · rw [h3]; simp
theorem dec_len {M : Nat} (h : M ≤ 9223372036854775807) : (Lib.decDigits M).length ≤ 21 := by
  have := Lib.itoa_length_le (M : Int) (by omega) (by omega)
  rwa [Lib.itoa_nonneg] at this
theorem cell1 (w : World) (T : TypeId) (a : Int) (i : Nat) (hi : i < 1) : (w.alloc (.cells #[.int .u8 a] T)).cell? ⟨w.heap.size, 0 + i, none⟩ = some (.int .u8 ([a].getD i 0)) := by
  match i, hi with
  | 0, _ => simp
theorem str_cons (k : Nat) (hk : k < 10) (t : List UInt8) : strOfNums [48 + (k : Int)] ++ ⟨t.toArray⟩ = (⟨(UInt8.ofNat (48 + k) :: t).toArray⟩ : ByteArray) := by
  apply ByteArray.ext
  apply Array.toList_inj.1
  have e : (48 + (k : Int)).toNat = 48 + k := by omega
  simp [strOfNums, e]
theorem mk_empty (t : List UInt8) : (⟨t.toArray⟩ : ByteArray).toList.isEmpty = t.isEmpty := by
  rw [ByteArray.toList_eq]
theorem minus_cons (t : List UInt8) : (⟨#[45]⟩ ++ ⟨t.toArray⟩ : ByteArray) = ⟨(45 :: t).toArray⟩ := by
  apply ByteArray.ext
  apply Array.toList_inj.1
  simp
set_option maxRecDepth 20000 in
set_option maxHeartbeats 2000000 in
theorem l1Dec_pos (n : Int) (h0 : 0 ≤ n) (h1 : n ≤ 9223372036854775807) (w : World) : Calls Tryd.prog 36 #[.int .i64 n] w fun e w' => e = .returned (.string (decB n)) ∧ Below w.heap.size w w' := by
  have hd : decide (n < 0) = false := decide_eq_false (by omega)
  obtain ⟨M, hM⟩ : ∃ M : Nat, n = (M : Int) := ⟨n.natAbs, by omega⟩
  have HD := Lib.hid (show decB n = ⟨(Lib.decDigits M).toArray⟩ by unfold decB Lib.itoa; rw [hM]; rw [if_neg (by omega)]; simp)
  have hMb : M ≤ 9223372036854775807 := by omega
  have HM := Lib.hid hM
  have HLEN := Lib.hid (dec_len hMb)
  rw [HD.out]
  clear h0 h1 HD hM
  go_enter Tryd.func36, Tryd.ntmps36
  go_wp2_with fail
  go_loopw [0, 4, 5] (fun x s d wr => ∃ (m : Nat) (q : Int) (t : List UInt8) (z : ByteArray), m ≤ M ∧ x = .int .i64 q ∧ Hid (q = (m : Int)) ∧ s = .string z ∧ Hid (z = ⟨t.toArray⟩) ∧ Hid (DecAt M m t) ∧ Below w.heap.size w wr) (fun x s _ _ => (intOf x).natAbs + (match s with | .string b => 1 - min 1 b.size | _ => 0))
  case atStart => exact ⟨M, n, [], ⟨#[]⟩, Nat.le_refl _, rfl, HM, rfl, Lib.hid rfl, Lib.hid (.inl ⟨rfl, rfl⟩), Below.refl _ _⟩
  case round =>
    obtain ⟨m, q, t, z, hmM, rfl, HQ, rfl, HZ, HA, hb⟩ := hrel
    have k1 : z.toList.isEmpty = t.isEmpty := by rw [HZ.out]; exact mk_empty t
    have hzt : z.size = t.length := by rw [HZ.out]; simp [ByteArray.size]
    have hl : t.length ≤ 21 := Nat.le_trans HA.out.len HLEN.out
    by_cases hx : t ≠ [] ∧ m = 0
    · obtain ⟨ht, rfl⟩ := hx
      have ht0 : t.isEmpty = false := by cases t with
        | nil => exact absurd rfl ht
        | cons _ _ => rfl
      rw [ht0] at k1
      have hfin := HA.out.done ht
      have HF := Lib.hid hfin
      have hq0 : (q != 0) = false := by rw [HQ.out]; rfl
      clear hfin
      go_wp2_with fail
      go_returns
      exact ⟨by rw [HF.out, HZ.out]; rfl, hb⟩
    · have hor : t = [] ∨ (t ≠ [] ∧ m ≠ 0) := by
        by_cases h : t = []
        · exact .inl h
        · exact .inr ⟨h, fun e => hx ⟨h, e⟩⟩
      have HN := Lib.hid (HA.out.next (hor.imp id (·.2)))
      obtain ⟨k, hk⟩ : ∃ k, m % 10 = k := ⟨_, rfl⟩
      obtain ⟨m', hm'⟩ : ∃ k, m / 10 = k := ⟨_, rfl⟩
      have hk9 : k < 10 := by omega
      have hmm : m = 10 * m' + k := by omega
      obtain ⟨d, hd⟩ : ∃ d : Int, d = (k : Int) := ⟨_, rfl⟩
      have hs := str_cons k hk9 t
      rw [← hd, ← HZ.out] at hs
      have HS := Lib.hid hs
      have hq := HQ.out
      obtain ⟨q', hq'⟩ : ∃ q' : Int, q' = (m' : Int) := ⟨_, rfl⟩
      rw [hk, hm'] at HN
      have hsz := hb.size
      have hcv := run_convert_bytes_arg (P := Tryd.prog) (wr.alloc (.cells #[.int .u8 (48 + d)] 5)) 38 5 Tryd.underlying38 Tryd.underlying5 wr.heap.size 0 1 1 [48 + d] rfl (cell1 wr _ _) 9 Tryd.underlying9
      have w1 : IntKind.i64.wrap (48 + d) = 48 + d := IntWalk.i64_in _ (by omega)
      have w2 : IntKind.u8.wrap (48 + d) = 48 + d := by rw [IntKind.wrap_u8]; omega
      have hz1 : (strOfNums [48 + d]).size = 1 := rfl
      rcases hor with ht | ⟨ht, hm0⟩
      · rw [show t.isEmpty = true by rw [ht]; rfl] at k1
        have htl : t.length = 0 := by rw [ht]; rfl
        clear ht hx
        have r2 : q.tdiv 10 = q' := by
          rw [hq, Int.tdiv_eq_ediv_of_nonneg (by omega)]; omega
        have r4 : IntKind.i64.wrap q' = q' := IntWalk.i64_in _ (by omega)
        have r1 : q.tmod 10 = d := by rw [hq, Int.tmod_eq_emod_of_nonneg (by omega)]; omega
        have r3 : decide (d < 0) = false := decide_eq_false (by omega)
        have HQ' := Lib.hid hq'
        have hnat : q'.natAbs = m' ∧ q.natAbs = m := by omega
        have HNA := Lib.hid hnat
        have hme := hmm
        have HMM := Lib.hid hmm
        clear hme hnat
        clear hq hq' hd hk hm' hmm hs
        go_wp2_with fail
        go_roundw
        case rel =>
          exact ⟨m', q', UInt8.ofNat (48 + k) :: t, _, by have := HMM.out; omega, rfl, HQ', rfl, HS, HN, hb.alloc hsz _⟩
        case measure =>
          have h1 := HNA.out; have h2 := HMM.out; simp [intOf]; omega
      · have ht0 : t.isEmpty = false := by cases t with
          | nil => exact absurd rfl ht
          | cons _ _ => rfl
        rw [ht0] at k1
        have hm1 : (q != 0) = true := by rw [bne_iff_ne]; omega
        have htl : 0 < t.length := List.length_pos_iff.2 ht
        have r2 : q.tdiv 10 = q' := by
          rw [hq, Int.tdiv_eq_ediv_of_nonneg (by omega)]; omega
        have r4 : IntKind.i64.wrap q' = q' := IntWalk.i64_in _ (by omega)
        have r1 : q.tmod 10 = d := by rw [hq, Int.tmod_eq_emod_of_nonneg (by omega)]; omega
        have r3 : decide (d < 0) = false := decide_eq_false (by omega)
        have HQ' := Lib.hid hq'
        have hnat : q'.natAbs = m' ∧ q.natAbs = m := by omega
        have HNA := Lib.hid hnat
        have hme := hmm
        have HMM := Lib.hid hmm
        clear hme hnat
        clear hq hq' hd hk hm' hmm hs
        go_wp2_with fail
        go_roundw
        case rel =>
          exact ⟨m', q', UInt8.ofNat (48 + k) :: t, _, by have := HMM.out; omega, rfl, HQ', rfl, HS, HN, hb.alloc hsz _⟩
        case measure =>
          have h1 := HNA.out; have h2 := HMM.out; simp [intOf]; omega
set_option maxRecDepth 20000 in
set_option maxHeartbeats 2000000 in
theorem l1Dec_neg (n : Int) (h0 : n < 0) (h1 : -9223372036854775807 ≤ n) (w : World) : Calls Tryd.prog 36 #[.int .i64 n] w fun e w' => e = .returned (.string (decB n)) ∧ Below w.heap.size w w' := by
  have hd : decide (n < 0) = true := decide_eq_true (by omega)
  obtain ⟨M, hM⟩ : ∃ M : Nat, n = -(M : Int) := ⟨n.natAbs, by omega⟩
  have HD := Lib.hid (show decB n = ⟨(45 :: Lib.decDigits M).toArray⟩ by unfold decB Lib.itoa; rw [hM]; rw [if_pos (by omega)]; simp)
  have hMb : M ≤ 9223372036854775807 := by omega
  have HM := Lib.hid hM
  have HLEN := Lib.hid (dec_len hMb)
  rw [HD.out]
  clear h0 h1 HD hM
  go_enter Tryd.func36, Tryd.ntmps36
  go_wp2_with fail
  go_loopw [0, 4, 5] (fun x s d wr => ∃ (m : Nat) (q : Int) (t : List UInt8) (z : ByteArray), m ≤ M ∧ x = .int .i64 q ∧ Hid (q = -(m : Int)) ∧ s = .string z ∧ Hid (z = ⟨t.toArray⟩) ∧ Hid (DecAt M m t) ∧ Below w.heap.size w wr) (fun x s _ _ => (intOf x).natAbs + (match s with | .string b => 1 - min 1 b.size | _ => 0))
  case atStart => exact ⟨M, n, [], ⟨#[]⟩, Nat.le_refl _, rfl, HM, rfl, Lib.hid rfl, Lib.hid (.inl ⟨rfl, rfl⟩), Below.refl _ _⟩
  case round =>
    obtain ⟨m, q, t, z, hmM, rfl, HQ, rfl, HZ, HA, hb⟩ := hrel
    have k1 : z.toList.isEmpty = t.isEmpty := by rw [HZ.out]; exact mk_empty t
    have hzt : z.size = t.length := by rw [HZ.out]; simp [ByteArray.size]
    have hl : t.length ≤ 21 := Nat.le_trans HA.out.len HLEN.out
    by_cases hx : t ≠ [] ∧ m = 0
    · obtain ⟨ht, rfl⟩ := hx
      have ht0 : t.isEmpty = false := by cases t with
        | nil => exact absurd rfl ht
        | cons _ _ => rfl
      rw [ht0] at k1
      have hfin := HA.out.done ht
      have HF := Lib.hid hfin
      have hq0 : (q != 0) = false := by rw [HQ.out]; rfl
      clear hfin
      go_wp2_with fail
      go_returns
      exact ⟨by rw [HF.out, HZ.out]; exact congrArg (fun s => Ending.returned (Value.string s)) (minus_cons t), hb⟩
    · have hor : t = [] ∨ (t ≠ [] ∧ m ≠ 0) := by
        by_cases h : t = []
        · exact .inl h
        · exact .inr ⟨h, fun e => hx ⟨h, e⟩⟩
      have HN := Lib.hid (HA.out.next (hor.imp id (·.2)))
      obtain ⟨k, hk⟩ : ∃ k, m % 10 = k := ⟨_, rfl⟩
      obtain ⟨m', hm'⟩ : ∃ k, m / 10 = k := ⟨_, rfl⟩
      have hk9 : k < 10 := by omega
      have hmm : m = 10 * m' + k := by omega
      obtain ⟨d, hd⟩ : ∃ d : Int, d = (k : Int) := ⟨_, rfl⟩
      have hs := str_cons k hk9 t
      rw [← hd, ← HZ.out] at hs
      have HS := Lib.hid hs
      have hq := HQ.out
      obtain ⟨q', hq'⟩ : ∃ q' : Int, q' = -(m' : Int) := ⟨_, rfl⟩
      rw [hk, hm'] at HN
      have hsz := hb.size
      have hcv := run_convert_bytes_arg (P := Tryd.prog) (wr.alloc (.cells #[.int .u8 (48 + d)] 5)) 38 5 Tryd.underlying38 Tryd.underlying5 wr.heap.size 0 1 1 [48 + d] rfl (cell1 wr _ _) 9 Tryd.underlying9
      have w1 : IntKind.i64.wrap (48 + d) = 48 + d := IntWalk.i64_in _ (by omega)
      have w2 : IntKind.u8.wrap (48 + d) = 48 + d := by rw [IntKind.wrap_u8]; omega
      have hz1 : (strOfNums [48 + d]).size = 1 := rfl
      rcases hor with ht | ⟨ht, hm0⟩
      · rw [show t.isEmpty = true by rw [ht]; rfl] at k1
        have htl : t.length = 0 := by rw [ht]; rfl
        clear ht hx
        have r2 : q.tdiv 10 = q' := by
          rw [hq, Int.neg_tdiv, Int.tdiv_eq_ediv_of_nonneg (by omega)]; omega
        have r4 : IntKind.i64.wrap q' = q' := IntWalk.i64_in _ (by omega)
        have HQ' := Lib.hid hq'
        have hnat : q'.natAbs = m' ∧ q.natAbs = m := by omega
        have HNA := Lib.hid hnat
        have HMM := Lib.hid hmm
        clear hnat
        obtain ⟨e, he⟩ : ∃ e : Int, e = -(k : Int) := ⟨_, rfl⟩
        have r1 : q.tmod 10 = e := by rw [hq, Int.neg_tmod, Int.tmod_eq_emod_of_nonneg (by omega)]; omega
        by_cases hk0 : k = 0
        · have r5 : e = d := by omega
          rw [r5] at r1
          have r3 : decide (d < 0) = false := decide_eq_false (by omega)
          clear r5 he hk0
          clear hq hq' hd hk hm' hmm hs
          go_wp2_with fail
          go_roundw
          case rel =>
            exact ⟨m', q', UInt8.ofNat (48 + k) :: t, _, by have := HMM.out; omega, rfl, HQ', rfl, HS, HN, hb.alloc hsz _⟩
          case measure =>
            have h1 := HNA.out; have h2 := HMM.out; simp [intOf]; omega
        · have r3 : decide (e < 0) = true := decide_eq_true (by omega)
          have r5 : IntKind.i64.wrap (-e) = d := by rw [IntWalk.i64_in _ (by omega)]; omega
          clear he hk0
          clear hq hq' hd hk hm' hmm hs
          go_wp2_with fail
          go_roundw
          case rel =>
            exact ⟨m', q', UInt8.ofNat (48 + k) :: t, _, by have := HMM.out; omega, rfl, HQ', rfl, HS, HN, hb.alloc hsz _⟩
          case measure =>
            have h1 := HNA.out; have h2 := HMM.out; simp [intOf]; omega
      · have ht0 : t.isEmpty = false := by cases t with
          | nil => exact absurd rfl ht
          | cons _ _ => rfl
        rw [ht0] at k1
        have hm1 : (q != 0) = true := by rw [bne_iff_ne]; omega
        have htl : 0 < t.length := List.length_pos_iff.2 ht
        have r2 : q.tdiv 10 = q' := by
          rw [hq, Int.neg_tdiv, Int.tdiv_eq_ediv_of_nonneg (by omega)]; omega
        have r4 : IntKind.i64.wrap q' = q' := IntWalk.i64_in _ (by omega)
        have HQ' := Lib.hid hq'
        have hnat : q'.natAbs = m' ∧ q.natAbs = m := by omega
        have HNA := Lib.hid hnat
        have HMM := Lib.hid hmm
        clear hnat
        obtain ⟨e, he⟩ : ∃ e : Int, e = -(k : Int) := ⟨_, rfl⟩
        have r1 : q.tmod 10 = e := by rw [hq, Int.neg_tmod, Int.tmod_eq_emod_of_nonneg (by omega)]; omega
        by_cases hk0 : k = 0
        · have r5 : e = d := by omega
          rw [r5] at r1
          have r3 : decide (d < 0) = false := decide_eq_false (by omega)
          clear r5 he hk0
          clear hq hq' hd hk hm' hmm hs
          go_wp2_with fail
          go_roundw
          case rel =>
            exact ⟨m', q', UInt8.ofNat (48 + k) :: t, _, by have := HMM.out; omega, rfl, HQ', rfl, HS, HN, hb.alloc hsz _⟩
          case measure =>
            have h1 := HNA.out; have h2 := HMM.out; simp [intOf]; omega
        · have r3 : decide (e < 0) = true := decide_eq_true (by omega)
          have r5 : IntKind.i64.wrap (-e) = d := by rw [IntWalk.i64_in _ (by omega)]; omega
          clear he hk0
          clear hq hq' hd hk hm' hmm hs
          go_wp2_with fail
          go_roundw
          case rel =>
            exact ⟨m', q', UInt8.ofNat (48 + k) :: t, _, by have := HMM.out; omega, rfl, HQ', rfl, HS, HN, hb.alloc hsz _⟩
          case measure =>
            have h1 := HNA.out; have h2 := HMM.out; simp [intOf]; omega
theorem l1Dec_c (n : Int) (h0 : -9223372036854775807 ≤ n) (h1 : n ≤ 9223372036854775807) (w : World) : Calls Tryd.prog 36 #[.int .i64 n] w fun e w' => e = .returned (.string (decB n)) ∧ Below w.heap.size w w' := by
  by_cases h : 0 ≤ n
  · exact l1Dec_pos n h h1 w
  · exact l1Dec_neg n (by omega) h0 w
theorem decB_le (n : Int) (h0 : -9223372036854775807 ≤ n) (h1 : n ≤ 9223372036854775807) : (decB n).size ≤ 21 := by
  have := Lib.itoa_length_le n (by omega) h1
  simpa [decB, ByteArray.size] using this
end Go.Proofs.YtbkkgkmllplbaaaDoor
