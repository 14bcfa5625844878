/- Bytes as a number, the highest first: the program's way and the reference's. -/
import Derived.Test.YteecemjbkpkpaaaDoorBytesOf
import Derived.Test.YteecemjbkpkpaaaDoorStamp
import Derived.Deep.QuietTactic
import Derived.BigQuiet
import Derived.WalkSmall
import Derived.Lib.Strings
import Derived.Test.YteecemjbkpkpaaaDoorPacketBytesD
namespace Go.Proofs.YteecemjbkpkpaaaDoor
open Go.ChangeShapes Go.WideShapes Go.ChangeAt Go.RowKit
set_option linter.unusedVariables false

theorem ret_int {k : IntKind} {a b : Int} (h : a = b) : Ending.returned (.int k a) = .returned (.int k b) := by rw [h]

/-- The number that bytes tell, the highest first. -/
def getN (l : List UInt8) : Int := l.foldl (fun n c => n * 256 + (c.toNat : Int)) 0
/-- The same of a string. -/
def getB (s : ByteArray) : Int := getN s.data.toList
theorem getN_snoc (l : List UInt8) (c : UInt8) : getN (l ++ [c]) = getN l * 256 + (c.toNat : Int) := by simp [getN]
theorem getN_bound : ∀ (k : Nat) (l : List UInt8), l.length ≤ k → k ≤ 7 → 0 ≤ getN l ∧ getN l < (256 : Int) ^ k := by
  intro k
  induction k with
  | zero =>
    intro l h _
    obtain rfl : l = [] := List.eq_nil_of_length_eq_zero (by omega)
    simp [getN]
  | succ k ih =>
    intro l h hk
    rcases List.eq_nil_or_concat l with rfl | ⟨l', c, rfl⟩
    · simp [getN]; exact Int.pow_pos (by omega)
    · rw [List.concat_eq_append, getN_snoc]
      have hb := ih l' (by simp at h; omega) (by omega)
      have hc : (c.toNat : Int) < 256 := by have := c.toNat_lt; omega
      rw [Int.pow_succ]
      omega
theorem getB_bound (s : ByteArray) (h : s.size ≤ 4) : 0 ≤ getB s ∧ getB s < 4294967296 := getN_bound 4 _ (by simpa using h) (by omega)
theorem getN_take (s : ByteArray) (k : Nat) (hs : s.size ≤ 7) (hk : k < s.size) : 0 ≤ getN (s.data.toList.take k) ∧ getN (s.data.toList.take k) < 281474976710656 := by
  have := getN_bound 6 (s.data.toList.take k) (by have := List.length_take_le k s.data.toList; omega) (by omega)
  exact this
theorem take_snoc (s : ByteArray) (k : Nat) (h : k < s.size) : s.data.toList.take (k + 1) = s.data.toList.take k ++ [s[k]] := by
  rw [List.take_succ_eq_append_getElem (by simpa using h)]; rfl
theorem take_all (s : ByteArray) (k : Nat) (h : s.size ≤ k) : s.data.toList.take k = s.data.toList := List.take_of_length_le (by simpa using h)

set_option maxHeartbeats 400000 in
theorem get_spec (s : ByteArray) (hs : s.size ≤ 7) (w : World) :
    Calls Tryd.prog 34 #[.string s] w fun e w' => e = .returned (.int .i64 (getB s)) ∧ w = w' := by
  go_enter Tryd.func34, Tryd.ntmps34
  go_wp2
  go_loop [3, 4] (fun n i => ∃ k : Nat, k ≤ s.size ∧ i = .int .i64 k ∧ n = .int .i64 (getN (s.data.toList.take k))) (fun _ i => s.size - (intOf i).toNat)
  case atStart => exact ⟨0, Nat.zero_le _, rfl, rfl⟩
  case round =>
    obtain ⟨k, hk, rfl, rfl⟩ := hrel
    by_cases hlt : k < s.size
    · have hb := getN_take s k hs hlt
      have hsn := getN_snoc (s.data.toList.take k) s[k]
      rw [← take_snoc s k hlt] at hsn
      have HS := Lib.hid hsn
      clear hsn
      have hc : (s[k].toNat : Int) < 256 := by have := s[k].toNat_lt; omega
      go_wp2
      go_round
      case rel => exact ⟨k + 1, by omega, by go_num, by rw [HS.out]; first | rfl | (congr 1; omega)⟩
      case measure => simp [intOf]; omega
    · go_wp2
      go_returns
      exact ⟨ret_int (by rw [take_all s k (by omega)]; rfl), rfl⟩

set_option maxHeartbeats 400000 in
theorem get_impl (s : ByteArray) (hs : s.size ≤ 7) (w : World) :
    Calls Tryd.prog 60 #[.string s] w fun e w' => e = .returned (.int .i64 (getB s)) ∧ w = w' := by
  go_enter Tryd.func60, Tryd.ntmps60
  go_wp2
  go_loop [3, 7] (fun n i => ∃ k : Nat, k ≤ s.size ∧ i = .int .i64 k ∧ n = .int .i64 (getN (s.data.toList.take k))) (fun _ i => s.size - (intOf i).toNat)
  case atStart => exact ⟨0, Nat.zero_le _, rfl, rfl⟩
  case round =>
    obtain ⟨k, hk, rfl, rfl⟩ := hrel
    by_cases hlt : k < s.size
    · have hb := getN_take s k hs hlt
      have hsn := getN_snoc (s.data.toList.take k) s[k]
      rw [← take_snoc s k hlt] at hsn
      have HS := Lib.hid hsn
      clear hsn
      have hc : (s[k].toNat : Int) < 256 := by have := s[k].toNat_lt; omega
      go_wp2
      go_round
      case rel => exact ⟨k + 1, by omega, by go_num, by rw [HS.out]⟩
      case measure => simp [intOf]; omega
    · go_wp2
      go_returns
      exact ⟨ret_int (by rw [take_all s k (by omega)]; rfl), rfl⟩
end Go.Proofs.YteecemjbkpkpaaaDoor

namespace Go.Proofs.YteecemjbkpkpaaaDoor
open Go.ChangeShapes Go.WideShapes Go.ChangeAt Go.RowKit
set_option linter.unusedVariables false

/-- The time that eight bytes would tell. -/
def stampAt (hi lo : Int) : Int := hi * 1000000 + (lo * 1000000 + 4294967295) / 4294967296
def stampOk (s : ByteArray) : Bool := decide (s.size = 8) && ((stampB (stampAt (getB (s.extract 0 4)) (getB (s.extract 4 8)))).toList == s.toList)
def stampT (s : ByteArray) : Int := if stampOk s then stampAt (getB (s.extract 0 4)) (getB (s.extract 4 8)) else 0

theorem below_drew {B : Nat} {a w : World} (h : Below B a w) (n : Nat) : Below B a (w.drewN n) := h.trans ⟨rfl, rfl, rfl, Nat.le_refl _, fun _ _ => rfl⟩

theorem divUp_parts (a : Int) (h0 : 0 ≤ a) (h1 : a < 4611686018427387904) (w : World) :
    Calls Tryd.prog 73 #[.int .i64 a, .int .i64 4294967296] w fun e w' => e = .returned (.int .i64 ((a + 4294967295) / 4294967296)) ∧ w = w' := by
  go_enter Tryd.func73, Tryd.ntmps73
  go_wp2
  go_returns
  exact ⟨ret_int (by rw [show a + 4294967296 - 1 = a + 4294967295 from by omega]), rfl⟩

theorem readStamp_spec (s : ByteArray) (w : World) :
    Calls Tryd.prog 35 #[.string s] w fun e w' => e = .returned (.tuple #[.int .i64 (stampT s), .bool (stampOk s)]) ∧ Below w.heap.size w w' := by
  by_cases h0 : s.size = 8
  · obtain ⟨b10, b11⟩ := getB_bound (s.extract 0 4) (by simp; omega)
    obtain ⟨b20, b21⟩ := getB_bound (s.extract 4 8) (by simp; omega)
    have T1 : (getB (s.extract 4 8) * 1000000 + 4294967295).tdiv 4294967296 = (getB (s.extract 4 8) * 1000000 + 4294967295) / 4294967296 := Int.tdiv_eq_ediv_of_nonneg (by omega)
    have W1 : wrap64 (getB (s.extract 0 4) * 1000000) = getB (s.extract 0 4) * 1000000 := IntWalk.wrap64_in _ (by omega)
    have W2 : wrap64 (getB (s.extract 4 8) * 1000000) = getB (s.extract 4 8) * 1000000 := IntWalk.wrap64_in _ (by omega)
    have W3 : wrap64 (getB (s.extract 4 8) * 1000000 + 4294967295) = getB (s.extract 4 8) * 1000000 + 4294967295 := IntWalk.wrap64_in _ (by omega)
    have W4 : wrap64 ((getB (s.extract 4 8) * 1000000 + 4294967295) / 4294967296) = (getB (s.extract 4 8) * 1000000 + 4294967295) / 4294967296 := IntWalk.wrap64_in _ (by omega)
    have W5 : wrap64 (getB (s.extract 0 4) * 1000000 + (getB (s.extract 4 8) * 1000000 + 4294967295) / 4294967296) = getB (s.extract 0 4) * 1000000 + (getB (s.extract 4 8) * 1000000 + 4294967295) / 4294967296 := IntWalk.wrap64_in _ (by omega)
    by_cases h1 : ((stampB (getB (s.extract 0 4) * 1000000 + (getB (s.extract 4 8) * 1000000 + 4294967295) / 4294967296)).toList == s.toList) = true
    · have e1 : stampOk s = true := by unfold stampOk stampAt; rw [h1]; simp [h0]
      have e2 : stampT s = getB (s.extract 0 4) * 1000000 + (getB (s.extract 4 8) * 1000000 + 4294967295) / 4294967296 := by unfold stampT; rw [e1]; rfl
      rw [e1, e2]
      clear e1 e2
      go_enter Tryd.func35, Tryd.ntmps35
      go_wp2_with fail
      go_quiet ((go_at_call 34; exact Calls.quiet_of_same ((get_spec _ (by simp; omega) _).mono fun e w' h => ⟨h.1, h.2.symm⟩)))
      go_wp2_with (go_at_call 51; refine (stampBytes_spec _ _).mono ?_; rintro e w1 ⟨rfl, hb1⟩)
      go_returns
      exact ⟨rfl, (below_drew (Below.refl _ _) _).trans hb1⟩
    · have h1 : ((stampB (getB (s.extract 0 4) * 1000000 + (getB (s.extract 4 8) * 1000000 + 4294967295) / 4294967296)).toList == s.toList) = false := by simpa using h1
      have e1 : stampOk s = false := by unfold stampOk stampAt; rw [h1]; simp
      have e2 : stampT s = 0 := by unfold stampT; rw [e1]; rfl
      rw [e1, e2]
      clear e1 e2
      go_enter Tryd.func35, Tryd.ntmps35
      go_wp2_with fail
      go_quiet ((go_at_call 34; exact Calls.quiet_of_same ((get_spec _ (by simp; omega) _).mono fun e w' h => ⟨h.1, h.2.symm⟩)))
      go_wp2_with (go_at_call 51; refine (stampBytes_spec _ _).mono ?_; rintro e w1 ⟨rfl, hb1⟩)
      go_returns
      exact ⟨rfl, (below_drew (Below.refl _ _) _).trans hb1⟩
  · have e1 : stampOk s = false := by unfold stampOk; simp [h0]
    have e2 : stampT s = 0 := by unfold stampT; rw [e1]; rfl
    rw [e1, e2]
    clear e1 e2
    have q1 : ((s.size : Int) == 8) = false := by simp; omega
    have q2 : ((s.size : Int) != 8) = true := by simp; omega
    go_enter Tryd.func35, Tryd.ntmps35
    go_wp2_with fail
    go_returns
    exact ⟨rfl, Below.refl _ _⟩

theorem readStamp_impl (s : ByteArray) (w : World) :
    Calls Tryd.prog 69 #[.string s] w fun e w' => e = .returned (.tuple #[.int .i64 (stampT s), .bool (stampOk s)]) ∧ Below w.heap.size w w' := by
  by_cases h0 : s.size = 8
  · obtain ⟨b10, b11⟩ := getB_bound (s.extract 0 4) (by simp; omega)
    obtain ⟨b20, b21⟩ := getB_bound (s.extract 4 8) (by simp; omega)
    have T1 : (getB (s.extract 4 8) * 1000000 + 4294967295).tdiv 4294967296 = (getB (s.extract 4 8) * 1000000 + 4294967295) / 4294967296 := Int.tdiv_eq_ediv_of_nonneg (by omega)
    have W1 : wrap64 (getB (s.extract 0 4) * 1000000) = getB (s.extract 0 4) * 1000000 := IntWalk.wrap64_in _ (by omega)
    have W2 : wrap64 (getB (s.extract 4 8) * 1000000) = getB (s.extract 4 8) * 1000000 := IntWalk.wrap64_in _ (by omega)
    have W3 : wrap64 (getB (s.extract 4 8) * 1000000 + 4294967295) = getB (s.extract 4 8) * 1000000 + 4294967295 := IntWalk.wrap64_in _ (by omega)
    have W4 : wrap64 ((getB (s.extract 4 8) * 1000000 + 4294967295) / 4294967296) = (getB (s.extract 4 8) * 1000000 + 4294967295) / 4294967296 := IntWalk.wrap64_in _ (by omega)
    have W5 : wrap64 (getB (s.extract 0 4) * 1000000 + (getB (s.extract 4 8) * 1000000 + 4294967295) / 4294967296) = getB (s.extract 0 4) * 1000000 + (getB (s.extract 4 8) * 1000000 + 4294967295) / 4294967296 := IntWalk.wrap64_in _ (by omega)
    by_cases h1 : ((stampB (getB (s.extract 0 4) * 1000000 + (getB (s.extract 4 8) * 1000000 + 4294967295) / 4294967296)).toList == s.toList) = true
    · have e1 : stampOk s = true := by unfold stampOk stampAt; rw [h1]; simp [h0]
      have e2 : stampT s = getB (s.extract 0 4) * 1000000 + (getB (s.extract 4 8) * 1000000 + 4294967295) / 4294967296 := by unfold stampT; rw [e1]; rfl
      rw [e1, e2]
      clear e1 e2
      go_enter Tryd.func69, Tryd.ntmps69
      go_wp2_with (first | (go_at_call 60; refine (get_impl _ (by simp; omega) _).mono ?_; rintro e w1 ⟨rfl, rfl⟩) | (go_at_call 73; refine (divUp_parts _ (by omega) (by omega) _).mono ?_; rintro e w1 ⟨rfl, rfl⟩) | (go_at_call 30; refine (stampBytes_impl _ _).mono ?_; rintro e w1 ⟨rfl, hb1⟩))
      go_returns
      exact ⟨rfl, hb1⟩
    · have h1 : ((stampB (getB (s.extract 0 4) * 1000000 + (getB (s.extract 4 8) * 1000000 + 4294967295) / 4294967296)).toList == s.toList) = false := by simpa using h1
      have e1 : stampOk s = false := by unfold stampOk stampAt; rw [h1]; simp
      have e2 : stampT s = 0 := by unfold stampT; rw [e1]; rfl
      rw [e1, e2]
      clear e1 e2
      go_enter Tryd.func69, Tryd.ntmps69
      go_wp2_with (first | (go_at_call 60; refine (get_impl _ (by simp; omega) _).mono ?_; rintro e w1 ⟨rfl, rfl⟩) | (go_at_call 73; refine (divUp_parts _ (by omega) (by omega) _).mono ?_; rintro e w1 ⟨rfl, rfl⟩) | (go_at_call 30; refine (stampBytes_impl _ _).mono ?_; rintro e w1 ⟨rfl, hb1⟩))
      go_returns
      exact ⟨rfl, hb1⟩
  · have e1 : stampOk s = false := by unfold stampOk; simp [h0]
    have e2 : stampT s = 0 := by unfold stampT; rw [e1]; rfl
    rw [e1, e2]
    clear e1 e2
    have q1 : ((s.size : Int) == 8) = false := by simp; omega
    have q2 : ((s.size : Int) != 8) = true := by simp; omega
    go_enter Tryd.func69, Tryd.ntmps69
    go_wp2_with fail
    go_returns
    exact ⟨rfl, Below.refl _ _⟩

end Go.Proofs.YteecemjbkpkpaaaDoor

namespace Go.Proofs.YteecemjbkpkpaaaDoor
open Go.ChangeShapes Go.WideShapes Go.ChangeAt Go.RowKit
set_option linter.unusedVariables false

theorem toList_inj {a b : ByteArray} (h : a.toList = b.toList) : a = b := by
  rw [ByteArray.toList_eq, ByteArray.toList_eq] at h
  exact ByteArray.ext (Array.toList_inj.1 h)
theorem list4P {α : Type} (l : List α) (h : l.length = 4) : ∃ a b c d, l = [a, b, c, d] :=
  match l, h with
  | [a, b, c, d], _ => ⟨a, b, c, d, rfl⟩
theorem byte_back (n : Int) (c : UInt8) (h : n = (c.toNat : Int)) : UInt8.ofNat n.toNat = c := by
  rw [h, Int.toNat_natCast]; simp

theorem put4_get (s : ByteArray) (h : s.size = 4) : put4 (getB s) = s := by
  obtain ⟨a, b, c, d, e⟩ := list4P s.data.toList (by simpa using h)
  apply ByteArray.ext
  apply Array.toList_inj.1
  have hg : getB s = (((a.toNat : Int) * 256 + b.toNat) * 256 + c.toNat) * 256 + d.toNat := by
    unfold getB getN; rw [e]; simp
  have ha := a.toNat_lt
  have hb := b.toNat_lt
  have hc := c.toNat_lt
  have hd := d.toNat_lt
  rw [e]
  show [UInt8.ofNat (getB s / 16777216 % 256).toNat, UInt8.ofNat (getB s / 65536 % 256).toNat, UInt8.ofNat (getB s / 256 % 256).toNat, UInt8.ofNat (getB s % 256).toNat] = _
  rw [byte_back _ a (by rw [hg]; omega), byte_back _ b (by rw [hg]; omega), byte_back _ c (by rw [hg]; omega), byte_back _ d (by rw [hg]; omega)]

theorem getB_put4 (n : Int) (h : 0 ≤ n ∧ n < 4294967296) : getB (put4 n) = n := by
  have hg : getB (put4 n) = ((((UInt8.ofNat (n / 16777216 % 256).toNat).toNat : Int) * 256 + (UInt8.ofNat (n / 65536 % 256).toNat).toNat) * 256 + (UInt8.ofNat (n / 256 % 256).toNat).toNat) * 256 + (UInt8.ofNat (n % 256).toNat).toNat := by
    unfold getB getN
    show List.foldl _ 0 [UInt8.ofNat (n / 16777216 % 256).toNat, UInt8.ofNat (n / 65536 % 256).toNat, UInt8.ofNat (n / 256 % 256).toNat, UInt8.ofNat (n % 256).toNat] = _
    simp
  rw [hg, UInt8.toNat_ofNat', UInt8.toNat_ofNat', UInt8.toNat_ofNat', UInt8.toNat_ofNat']
  have e1 : n / 16777216 = n / 256 / 256 / 256 := by omega
  have e2 : n / 65536 = n / 256 / 256 := by omega
  rw [e1, e2]
  omega

end Go.Proofs.YteecemjbkpkpaaaDoor

namespace Go.Proofs.YteecemjbkpkpaaaDoor
open Go.ChangeShapes Go.WideShapes Go.ChangeAt Go.RowKit
set_option linter.unusedVariables false
set_option linter.unusedSimpArgs false

theorem appP_data (x y : ByteArray) : (x ++ y).data.toList = x.data.toList ++ y.data.toList := by simp
theorem joinP (s : ByteArray) (a b c : Nat) (h1 : a ≤ b) (h2 : b ≤ c) : s.extract a b ++ s.extract b c = s.extract a c := by
  apply ByteArray.ext
  apply Array.toList_inj.1
  rw [appP_data, Lib.extract_data, Lib.extract_data, Lib.extract_data]
  have h := List.take_append_drop (b - a) ((s.data.toList.drop a).take (c - a))
  rw [List.take_take, List.drop_take, List.drop_drop, Nat.min_eq_left (by omega)] at h
  rw [show c - a - (b - a) = c - b by omega, show a + (b - a) = b by omega] at h
  exact h
theorem allP (x : ByteArray) (n : Nat) (h : x.size ≤ n) : x.extract 0 n = x := by
  apply ByteArray.ext
  apply Array.toList_inj.1
  have e1 : x.data.toList.length = x.size := by simp
  rw [Lib.extract_data, List.drop_zero, List.take_of_length_le (by omega)]
/-- The number that a byte tells. -/
def by1 (s : ByteArray) (p : Nat) : Int := getB (s.extract p (p + 1))
def by4 (s : ByteArray) (p : Nat) : Int := getB (s.extract p (p + 4))
theorem by1_bound (s : ByteArray) (p : Nat) : 0 ≤ by1 s p ∧ by1 s p < 256 := getN_bound 1 _ (by rw [Lib.extract_data]; simp; omega) (by omega)
theorem by4_bound (s : ByteArray) (p : Nat) : 0 ≤ by4 s p ∧ by4 s p < 4294967296 := getB_bound _ (by rw [ByteArray.size_extract]; omega)
def rpPk (s : ByteArray) : Pk := ⟨by1 s 0 / 64, by1 s 0 / 8 % 8, by1 s 0 % 8, by1 s 1, by1 s 2, by4 s 4, by4 s 8, stampT (s.extract 16 24), stampT (s.extract 24 32), stampT (s.extract 32 40), stampT (s.extract 40 48)⟩
/-- The stamps of 48 bytes are right. -/
def rpSt (s : ByteArray) : Bool := stampOk (s.extract 16 24) && stampOk (s.extract 24 32) && stampOk (s.extract 32 40) && stampOk (s.extract 40 48)
def rpOk (s : ByteArray) : Bool := decide (s.size = 48) && (by1 s 3 == 236) && (by4 s 12 == 0) && rpSt s && (rpPk s).ok
theorem put1_get (s : ByteArray) (h : s.size = 1) : put1 (getB s) = s := by
  have hl : s.data.toList.length = 1 := by simpa using h
  match hs : s.data.toList, hl with
  | [a], _ =>
    apply ByteArray.ext
    apply Array.toList_inj.1
    have hg : getB s = (a.toNat : Int) := by unfold getB getN; rw [hs]; simp
    have ha := a.toNat_lt
    rw [hs]
    show [UInt8.ofNat (getB s % 256).toNat] = _
    rw [byte_back _ a (by rw [hg]; omega)]
theorem stampP_back (s : ByteArray) (h : stampOk s = true) : stampB (stampT s) = s := by
  have e : stampT s = stampAt (getB (s.extract 0 4)) (getB (s.extract 4 8)) := by unfold stampT; rw [h]; rfl
  rw [e]
  unfold stampOk at h
  rw [Bool.and_eq_true] at h
  exact toList_inj (beq_iff_eq.1 h.2)
/-- The bytes of the packet that is read, where it is right. -/
theorem rp_bytes (s : ByteArray) (hz : s.size = 48) (hst : rpSt s = true) (hok : (rpPk s).ok = true) :
    (rpPk s).bytes = s.extract 0 3 ++ put1 236 ++ s.extract 4 12 ++ put4 0 ++ s.extract 16 48 := by
  unfold rpSt at hst
  simp only [Bool.and_eq_true] at hst
  obtain ⟨⟨⟨s1, s2⟩, s3⟩, s4⟩ := hst
  have e1 : (rpPk s).bytes = (rpPk s).headB ++ (rpPk s).stepsB ++ (rpPk s).lengthsB ++ (rpPk s).timesB := by unfold Pk.bytes; rw [hok]; rfl
  rw [e1]
  unfold Pk.headB Pk.stepsB Pk.lengthsB Pk.timesB
  have b0 := by1_bound s 0
  have h0 : put1 ((rpPk s).leap * 64 + (rpPk s).version * 8 + (rpPk s).mode) = s.extract 0 1 := by
    have hp : (rpPk s).leap * 64 + (rpPk s).version * 8 + (rpPk s).mode = by1 s 0 / 64 * 64 + by1 s 0 / 8 % 8 * 8 + by1 s 0 % 8 := by dsimp only [rpPk]
    rw [hp]
    rw [show by1 s 0 / 64 * 64 + by1 s 0 / 8 % 8 * 8 + by1 s 0 % 8 = by1 s 0 by omega]
    exact put1_get _ (by rw [ByteArray.size_extract]; omega)
  have h1 : put1 (rpPk s).stratum = s.extract 1 2 := by
    have hp : (rpPk s).stratum = getB (s.extract 1 2) := by dsimp only [rpPk, by1, by4]
    rw [hp]
    exact put1_get _ (by rw [ByteArray.size_extract]; omega)
  have h2 : put1 (rpPk s).poll = s.extract 2 3 := by
    have hp : (rpPk s).poll = getB (s.extract 2 3) := by dsimp only [rpPk, by1, by4]
    rw [hp]
    exact put1_get _ (by rw [ByteArray.size_extract]; omega)
  have h3 : put4 (rpPk s).delay = s.extract 4 8 := by
    have hp : (rpPk s).delay = getB (s.extract 4 8) := by dsimp only [rpPk, by1, by4]
    rw [hp]
    exact put4_get _ (by rw [ByteArray.size_extract]; omega)
  have h4 : put4 (rpPk s).disp = s.extract 8 12 := by
    have hp : (rpPk s).disp = getB (s.extract 8 12) := by dsimp only [rpPk, by1, by4]
    rw [hp]
    exact put4_get _ (by rw [ByteArray.size_extract]; omega)
  have t1 : stampB (rpPk s).ref = s.extract 16 24 := by
    have hp : (rpPk s).ref = stampT (s.extract 16 24) := by dsimp only [rpPk]
    rw [hp]
    exact stampP_back (s.extract 16 24) s1
  have t2 : stampB (rpPk s).orig = s.extract 24 32 := by
    have hp : (rpPk s).orig = stampT (s.extract 24 32) := by dsimp only [rpPk]
    rw [hp]
    exact stampP_back (s.extract 24 32) s2
  have t3 : stampB (rpPk s).recv = s.extract 32 40 := by
    have hp : (rpPk s).recv = stampT (s.extract 32 40) := by dsimp only [rpPk]
    rw [hp]
    exact stampP_back (s.extract 32 40) s3
  have t4 : stampB (rpPk s).xmit = s.extract 40 48 := by
    have hp : (rpPk s).xmit = stampT (s.extract 40 48) := by dsimp only [rpPk]
    rw [hp]
    exact stampP_back (s.extract 40 48) s4
  rw [h0, h1, h2, h3, h4, t1, t2, t3, t4]
  rw [joinP s 16 24 32 (by omega) (by omega), joinP s 16 32 40 (by omega) (by omega), joinP s 16 40 48 (by omega) (by omega), joinP s 4 8 12 (by omega) (by omega)]
  rw [← joinP s 0 1 3 (by omega) (by omega), ← joinP s 1 2 3 (by omega) (by omega)]
  simp only [ByteArray.append_assoc]
theorem cutP (s : ByteArray) (hz : s.size = 48) : s = s.extract 0 3 ++ s.extract 3 4 ++ s.extract 4 12 ++ s.extract 12 16 ++ s.extract 16 48 := by
  rw [joinP s 0 3 4 (by omega) (by omega), joinP s 0 4 12 (by omega) (by omega), joinP s 0 12 16 (by omega) (by omega), joinP s 0 16 48 (by omega) (by omega)]
  exact (allP s 48 (by omega)).symm
theorem append_inj4 {a b b' c d d' e : ByteArray} (h1 : b.size = b'.size) (h2 : d.size = d'.size) (h : a ++ b ++ c ++ d ++ e = a ++ b' ++ c ++ d' ++ e) : b = b' ∧ d = d' := by
  have hh := congrArg (fun x => x.data.toList) h
  simp only [appP_data, List.append_assoc] at hh
  have g1 := List.append_cancel_left hh
  have l1 : b.data.toList.length = b'.data.toList.length := by simpa using h1
  have l2 : d.data.toList.length = d'.data.toList.length := by simpa using h2
  obtain ⟨q1, q2⟩ := List.append_inj g1 l1
  have g2 := List.append_cancel_left q2
  obtain ⟨q3, _⟩ := List.append_inj g2 l2
  exact ⟨ByteArray.ext (Array.toList_inj.1 q1), ByteArray.ext (Array.toList_inj.1 q3)⟩
/-- Where the stamps are right: the packet's bytes are these just where the fixed ones are as they should be. -/
theorem rp_same (s : ByteArray) (hz : s.size = 48) (hst : rpSt s = true) : ((rpPk s).bytes.toList == s.toList) = rpOk s := by
  have hd : rpOk s = ((by1 s 3 == 236) && (by4 s 12 == 0) && (rpPk s).ok) := by
    unfold rpOk
    rw [hst, show decide (s.size = 48) = true from decide_eq_true hz, Bool.true_and, Bool.and_true]
  rw [hd, Bool.eq_iff_iff]
  have z3 : (s.extract 3 4).size = 1 := by rw [ByteArray.size_extract]; omega
  have z12 : (s.extract 12 16).size = 4 := by rw [ByteArray.size_extract]; omega
  have b3 := by1_bound s 3
  have b12 := by4_bound s 12
  constructor
  · intro h
    have he := toList_inj (beq_iff_eq.1 h)
    cases hok : (rpPk s).ok with
    | false =>
      have : (rpPk s).bytes = ⟨#[]⟩ := by unfold Pk.bytes; rw [hok]; rfl
      rw [this] at he
      rw [← he] at hz
      cases hz
    | true =>
      rw [rp_bytes s hz hst hok] at he
      have hc := cutP s hz
      rw [← he] at hc
      rw [he] at hc
      have hj := append_inj4 (a := s.extract 0 3) (b := put1 236) (b' := s.extract 3 4) (c := s.extract 4 12) (d := put4 0) (d' := s.extract 12 16) (e := s.extract 16 48) (by rw [z3]; rfl) (by rw [z12]; rfl) (he.trans (cutP s hz))
      have e3 : by1 s 3 = 236 := by
        unfold by1
        rw [show 3 + 1 = 4 from rfl, ← hj.1]
        decide
      have e12 : by4 s 12 = 0 := by
        unfold by4
        rw [show 12 + 4 = 16 from rfl, ← hj.2]
        exact getB_put4 0 (by omega)
      simp [e3, e12]
  · intro h
    simp only [Bool.and_eq_true, beq_iff_eq] at h
    obtain ⟨⟨h3, h12⟩, hok⟩ := h
    have p3 : put1 236 = s.extract 3 4 := by rw [← h3]; exact put1_get _ z3
    have p12 : put4 0 = s.extract 12 16 := by rw [← h12]; exact put4_get _ z12
    rw [rp_bytes s hz hst hok, p3, p12, ← cutP s hz]
    simp
end Go.Proofs.YteecemjbkpkpaaaDoor

namespace Go.Proofs.YteecemjbkpkpaaaDoor
open Go.ChangeShapes Go.WideShapes Go.ChangeAt Go.RowKit
set_option linter.unusedVariables false
set_option linter.unusedSimpArgs false

theorem midP (a b c : ByteArray) (i j : Nat) (hi : a.size = i) (hj : i + b.size = j) : ((a ++ b) ++ c).extract i j = b := by
  subst hi
  subst hj
  apply ByteArray.ext
  apply Array.toList_inj.1
  rw [Lib.extract_data, appP_data, appP_data]
  have e1 : a.data.toList.length = a.size := by simp
  have e2 : b.data.toList.length = b.size := by simp
  rw [List.append_assoc, show a.size + b.size - a.size = b.data.toList.length by omega, ← e1, List.drop_left, List.take_left]
theorem headP (b c : ByteArray) (j : Nat) (hj : b.size = j) : (b ++ c).extract 0 j = b := by
  have h := midP ⟨#[]⟩ b c 0 j rfl (by omega)
  have e : (⟨#[]⟩ ++ b : ByteArray) = b := by
    apply ByteArray.ext
    apply Array.toList_inj.1
    rw [appP_data]; rfl
  rwa [e] at h
theorem tailP (a b : ByteArray) (i j : Nat) (hi : a.size = i) (hj : i + b.size = j) : (a ++ b).extract i j = b := by
  have h := midP a b ⟨#[]⟩ i j hi hj
  have e : (a ++ b ++ ⟨#[]⟩ : ByteArray) = a ++ b := by
    apply ByteArray.ext
    apply Array.toList_inj.1
    rw [appP_data]
    exact List.append_nil _
  rwa [e] at h
/-- A time comes back from its stamp. -/
theorem stampP_read (t : Int) (h : 0 ≤ t ∧ t ≤ 4000000000000000) : stampOk (stampB t) = true ∧ stampT (stampB t) = t ∧ (stampB t).size = 8 := by
  have es := stampB_size h
  have e1 : getB ((stampB t).extract 0 4) = t / 1000000 := by rw [show stampB t = put4 (t / 1000000) ++ put4 (t % 1000000 * 4294967296 / 1000000) from if_pos h, headP _ _ 4 (put4_size _)]; exact getB_put4 _ (by omega)
  have e2 : getB ((stampB t).extract 4 8) = t % 1000000 * 4294967296 / 1000000 := by rw [show stampB t = put4 (t / 1000000) ++ put4 (t % 1000000 * 4294967296 / 1000000) from if_pos h, tailP _ _ 4 8 (put4_size _) (by rw [put4_size])]; exact getB_put4 _ (by omega)
  have ea : stampAt (getB ((stampB t).extract 0 4)) (getB ((stampB t).extract 4 8)) = t := by
    rw [e1, e2]; unfold stampAt; omega
  have ok : stampOk (stampB t) = true := by unfold stampOk; rw [ea, es]; simp
  exact ⟨ok, by unfold stampT; rw [ok, ea]; rfl, es⟩
theorem getB_put1 (n : Int) (h : 0 ≤ n ∧ n < 256) : getB (put1 n) = n := by
  have hg : getB (put1 n) = ((UInt8.ofNat (n % 256).toNat).toNat : Int) := by
    unfold getB getN
    show List.foldl _ 0 [UInt8.ofNat (n % 256).toNat] = _
    simp
  rw [hg, UInt8.toNat_ofNat']
  omega
theorem pieces_size (p0 p1 p2 p3 d1 d2 d3 s1 s2 s3 s4 : ByteArray) (hp0 : p0.size = 1) (hp1 : p1.size = 1) (hp2 : p2.size = 1) (hp3 : p3.size = 1) (hd1 : d1.size = 4) (hd2 : d2.size = 4) (hd3 : d3.size = 4) (hs1 : s1.size = 8) (hs2 : s2.size = 8) (hs3 : s3.size = 8) (hs4 : s4.size = 8) : (p0 ++ (p1 ++ p2 ++ p3) ++ (d1 ++ d2 ++ d3) ++ (s1 ++ s2 ++ s3 ++ s4)).size = 48 := by
  simp only [ByteArray.size_append]
  omega
theorem piece0 (p0 p1 p2 p3 d1 d2 d3 s1 s2 s3 s4 : ByteArray) (hp0 : p0.size = 1) (hp1 : p1.size = 1) (hp2 : p2.size = 1) (hp3 : p3.size = 1) (hd1 : d1.size = 4) (hd2 : d2.size = 4) (hd3 : d3.size = 4) (hs1 : s1.size = 8) (hs2 : s2.size = 8) (hs3 : s3.size = 8) (hs4 : s4.size = 8) : (p0 ++ (p1 ++ p2 ++ p3) ++ (d1 ++ d2 ++ d3) ++ (s1 ++ s2 ++ s3 ++ s4)).extract 0 1 = p0 := by
  have e : p0 ++ (p1 ++ p2 ++ p3) ++ (d1 ++ d2 ++ d3) ++ (s1 ++ s2 ++ s3 ++ s4) = p0 ++ (((((((((p1 ++ p2) ++ p3) ++ d1) ++ d2) ++ d3) ++ s1) ++ s2) ++ s3) ++ s4) := by simp only [ByteArray.append_assoc]
  rw [e]
  exact headP _ _ _ hp0
theorem piece1 (p0 p1 p2 p3 d1 d2 d3 s1 s2 s3 s4 : ByteArray) (hp0 : p0.size = 1) (hp1 : p1.size = 1) (hp2 : p2.size = 1) (hp3 : p3.size = 1) (hd1 : d1.size = 4) (hd2 : d2.size = 4) (hd3 : d3.size = 4) (hs1 : s1.size = 8) (hs2 : s2.size = 8) (hs3 : s3.size = 8) (hs4 : s4.size = 8) : (p0 ++ (p1 ++ p2 ++ p3) ++ (d1 ++ d2 ++ d3) ++ (s1 ++ s2 ++ s3 ++ s4)).extract 1 2 = p1 := by
  have e : p0 ++ (p1 ++ p2 ++ p3) ++ (d1 ++ d2 ++ d3) ++ (s1 ++ s2 ++ s3 ++ s4) = (p0 ++ p1) ++ ((((((((p2 ++ p3) ++ d1) ++ d2) ++ d3) ++ s1) ++ s2) ++ s3) ++ s4) := by simp only [ByteArray.append_assoc]
  rw [e]
  exact midP _ _ _ _ _ (by (try simp only [ByteArray.size_append]); omega) (by omega)
theorem piece2 (p0 p1 p2 p3 d1 d2 d3 s1 s2 s3 s4 : ByteArray) (hp0 : p0.size = 1) (hp1 : p1.size = 1) (hp2 : p2.size = 1) (hp3 : p3.size = 1) (hd1 : d1.size = 4) (hd2 : d2.size = 4) (hd3 : d3.size = 4) (hs1 : s1.size = 8) (hs2 : s2.size = 8) (hs3 : s3.size = 8) (hs4 : s4.size = 8) : (p0 ++ (p1 ++ p2 ++ p3) ++ (d1 ++ d2 ++ d3) ++ (s1 ++ s2 ++ s3 ++ s4)).extract 2 3 = p2 := by
  have e : p0 ++ (p1 ++ p2 ++ p3) ++ (d1 ++ d2 ++ d3) ++ (s1 ++ s2 ++ s3 ++ s4) = ((p0 ++ p1) ++ p2) ++ (((((((p3 ++ d1) ++ d2) ++ d3) ++ s1) ++ s2) ++ s3) ++ s4) := by simp only [ByteArray.append_assoc]
  rw [e]
  exact midP _ _ _ _ _ (by (try simp only [ByteArray.size_append]); omega) (by omega)
theorem piece3 (p0 p1 p2 p3 d1 d2 d3 s1 s2 s3 s4 : ByteArray) (hp0 : p0.size = 1) (hp1 : p1.size = 1) (hp2 : p2.size = 1) (hp3 : p3.size = 1) (hd1 : d1.size = 4) (hd2 : d2.size = 4) (hd3 : d3.size = 4) (hs1 : s1.size = 8) (hs2 : s2.size = 8) (hs3 : s3.size = 8) (hs4 : s4.size = 8) : (p0 ++ (p1 ++ p2 ++ p3) ++ (d1 ++ d2 ++ d3) ++ (s1 ++ s2 ++ s3 ++ s4)).extract 3 4 = p3 := by
  have e : p0 ++ (p1 ++ p2 ++ p3) ++ (d1 ++ d2 ++ d3) ++ (s1 ++ s2 ++ s3 ++ s4) = (((p0 ++ p1) ++ p2) ++ p3) ++ ((((((d1 ++ d2) ++ d3) ++ s1) ++ s2) ++ s3) ++ s4) := by simp only [ByteArray.append_assoc]
  rw [e]
  exact midP _ _ _ _ _ (by (try simp only [ByteArray.size_append]); omega) (by omega)
theorem piece4 (p0 p1 p2 p3 d1 d2 d3 s1 s2 s3 s4 : ByteArray) (hp0 : p0.size = 1) (hp1 : p1.size = 1) (hp2 : p2.size = 1) (hp3 : p3.size = 1) (hd1 : d1.size = 4) (hd2 : d2.size = 4) (hd3 : d3.size = 4) (hs1 : s1.size = 8) (hs2 : s2.size = 8) (hs3 : s3.size = 8) (hs4 : s4.size = 8) : (p0 ++ (p1 ++ p2 ++ p3) ++ (d1 ++ d2 ++ d3) ++ (s1 ++ s2 ++ s3 ++ s4)).extract 4 8 = d1 := by
  have e : p0 ++ (p1 ++ p2 ++ p3) ++ (d1 ++ d2 ++ d3) ++ (s1 ++ s2 ++ s3 ++ s4) = ((((p0 ++ p1) ++ p2) ++ p3) ++ d1) ++ (((((d2 ++ d3) ++ s1) ++ s2) ++ s3) ++ s4) := by simp only [ByteArray.append_assoc]
  rw [e]
  exact midP _ _ _ _ _ (by (try simp only [ByteArray.size_append]); omega) (by omega)
theorem piece5 (p0 p1 p2 p3 d1 d2 d3 s1 s2 s3 s4 : ByteArray) (hp0 : p0.size = 1) (hp1 : p1.size = 1) (hp2 : p2.size = 1) (hp3 : p3.size = 1) (hd1 : d1.size = 4) (hd2 : d2.size = 4) (hd3 : d3.size = 4) (hs1 : s1.size = 8) (hs2 : s2.size = 8) (hs3 : s3.size = 8) (hs4 : s4.size = 8) : (p0 ++ (p1 ++ p2 ++ p3) ++ (d1 ++ d2 ++ d3) ++ (s1 ++ s2 ++ s3 ++ s4)).extract 8 12 = d2 := by
  have e : p0 ++ (p1 ++ p2 ++ p3) ++ (d1 ++ d2 ++ d3) ++ (s1 ++ s2 ++ s3 ++ s4) = (((((p0 ++ p1) ++ p2) ++ p3) ++ d1) ++ d2) ++ ((((d3 ++ s1) ++ s2) ++ s3) ++ s4) := by simp only [ByteArray.append_assoc]
  rw [e]
  exact midP _ _ _ _ _ (by (try simp only [ByteArray.size_append]); omega) (by omega)
theorem piece6 (p0 p1 p2 p3 d1 d2 d3 s1 s2 s3 s4 : ByteArray) (hp0 : p0.size = 1) (hp1 : p1.size = 1) (hp2 : p2.size = 1) (hp3 : p3.size = 1) (hd1 : d1.size = 4) (hd2 : d2.size = 4) (hd3 : d3.size = 4) (hs1 : s1.size = 8) (hs2 : s2.size = 8) (hs3 : s3.size = 8) (hs4 : s4.size = 8) : (p0 ++ (p1 ++ p2 ++ p3) ++ (d1 ++ d2 ++ d3) ++ (s1 ++ s2 ++ s3 ++ s4)).extract 12 16 = d3 := by
  have e : p0 ++ (p1 ++ p2 ++ p3) ++ (d1 ++ d2 ++ d3) ++ (s1 ++ s2 ++ s3 ++ s4) = ((((((p0 ++ p1) ++ p2) ++ p3) ++ d1) ++ d2) ++ d3) ++ (((s1 ++ s2) ++ s3) ++ s4) := by simp only [ByteArray.append_assoc]
  rw [e]
  exact midP _ _ _ _ _ (by (try simp only [ByteArray.size_append]); omega) (by omega)
theorem piece7 (p0 p1 p2 p3 d1 d2 d3 s1 s2 s3 s4 : ByteArray) (hp0 : p0.size = 1) (hp1 : p1.size = 1) (hp2 : p2.size = 1) (hp3 : p3.size = 1) (hd1 : d1.size = 4) (hd2 : d2.size = 4) (hd3 : d3.size = 4) (hs1 : s1.size = 8) (hs2 : s2.size = 8) (hs3 : s3.size = 8) (hs4 : s4.size = 8) : (p0 ++ (p1 ++ p2 ++ p3) ++ (d1 ++ d2 ++ d3) ++ (s1 ++ s2 ++ s3 ++ s4)).extract 16 24 = s1 := by
  have e : p0 ++ (p1 ++ p2 ++ p3) ++ (d1 ++ d2 ++ d3) ++ (s1 ++ s2 ++ s3 ++ s4) = (((((((p0 ++ p1) ++ p2) ++ p3) ++ d1) ++ d2) ++ d3) ++ s1) ++ ((s2 ++ s3) ++ s4) := by simp only [ByteArray.append_assoc]
  rw [e]
  exact midP _ _ _ _ _ (by (try simp only [ByteArray.size_append]); omega) (by omega)
theorem piece8 (p0 p1 p2 p3 d1 d2 d3 s1 s2 s3 s4 : ByteArray) (hp0 : p0.size = 1) (hp1 : p1.size = 1) (hp2 : p2.size = 1) (hp3 : p3.size = 1) (hd1 : d1.size = 4) (hd2 : d2.size = 4) (hd3 : d3.size = 4) (hs1 : s1.size = 8) (hs2 : s2.size = 8) (hs3 : s3.size = 8) (hs4 : s4.size = 8) : (p0 ++ (p1 ++ p2 ++ p3) ++ (d1 ++ d2 ++ d3) ++ (s1 ++ s2 ++ s3 ++ s4)).extract 24 32 = s2 := by
  have e : p0 ++ (p1 ++ p2 ++ p3) ++ (d1 ++ d2 ++ d3) ++ (s1 ++ s2 ++ s3 ++ s4) = ((((((((p0 ++ p1) ++ p2) ++ p3) ++ d1) ++ d2) ++ d3) ++ s1) ++ s2) ++ (s3 ++ s4) := by simp only [ByteArray.append_assoc]
  rw [e]
  exact midP _ _ _ _ _ (by (try simp only [ByteArray.size_append]); omega) (by omega)
theorem piece9 (p0 p1 p2 p3 d1 d2 d3 s1 s2 s3 s4 : ByteArray) (hp0 : p0.size = 1) (hp1 : p1.size = 1) (hp2 : p2.size = 1) (hp3 : p3.size = 1) (hd1 : d1.size = 4) (hd2 : d2.size = 4) (hd3 : d3.size = 4) (hs1 : s1.size = 8) (hs2 : s2.size = 8) (hs3 : s3.size = 8) (hs4 : s4.size = 8) : (p0 ++ (p1 ++ p2 ++ p3) ++ (d1 ++ d2 ++ d3) ++ (s1 ++ s2 ++ s3 ++ s4)).extract 32 40 = s3 := by
  have e : p0 ++ (p1 ++ p2 ++ p3) ++ (d1 ++ d2 ++ d3) ++ (s1 ++ s2 ++ s3 ++ s4) = (((((((((p0 ++ p1) ++ p2) ++ p3) ++ d1) ++ d2) ++ d3) ++ s1) ++ s2) ++ s3) ++ s4 := by simp only [ByteArray.append_assoc]
  rw [e]
  exact midP _ _ _ _ _ (by (try simp only [ByteArray.size_append]); omega) (by omega)
theorem piece10 (p0 p1 p2 p3 d1 d2 d3 s1 s2 s3 s4 : ByteArray) (hp0 : p0.size = 1) (hp1 : p1.size = 1) (hp2 : p2.size = 1) (hp3 : p3.size = 1) (hd1 : d1.size = 4) (hd2 : d2.size = 4) (hd3 : d3.size = 4) (hs1 : s1.size = 8) (hs2 : s2.size = 8) (hs3 : s3.size = 8) (hs4 : s4.size = 8) : (p0 ++ (p1 ++ p2 ++ p3) ++ (d1 ++ d2 ++ d3) ++ (s1 ++ s2 ++ s3 ++ s4)).extract 40 48 = s4 := by
  have e : p0 ++ (p1 ++ p2 ++ p3) ++ (d1 ++ d2 ++ d3) ++ (s1 ++ s2 ++ s3 ++ s4) = (((((((((p0 ++ p1) ++ p2) ++ p3) ++ d1) ++ d2) ++ d3) ++ s1) ++ s2) ++ s3) ++ s4 := by simp only [ByteArray.append_assoc]
  rw [e]
  exact tailP _ _ _ _ (by (try simp only [ByteArray.size_append]); omega) (by omega)
/-- A right packet comes back from its bytes. -/
theorem rp_back (p : Pk) (h : p.ok = true) : p.bytes.size = 48 ∧ rpOk p.bytes = true ∧ rpPk p.bytes = p := by
  obtain ⟨⟨a0, a1⟩, ⟨b0, b1⟩, ⟨c0, c1⟩, ⟨d0, d1⟩, ⟨f0, f1⟩, ⟨g0, g1⟩, ⟨i0, i1⟩, j, k, l, m⟩ := Pk.ok_bounds h
  obtain ⟨oj, tj, zj⟩ := stampP_read p.ref j
  obtain ⟨ok, tk, zk⟩ := stampP_read p.orig k
  obtain ⟨ol, tl, zl⟩ := stampP_read p.recv l
  obtain ⟨om, tm, zm⟩ := stampP_read p.xmit m
  have e1 : p.bytes = put1 (p.leap * 64 + p.version * 8 + p.mode) ++ (put1 p.stratum ++ put1 p.poll ++ put1 236) ++ (put4 p.delay ++ put4 p.disp ++ put4 0) ++ (stampB p.ref ++ stampB p.orig ++ stampB p.recv ++ stampB p.xmit) := by
    have e1 : p.bytes = p.headB ++ p.stepsB ++ p.lengthsB ++ p.timesB := by unfold Pk.bytes; rw [h]; rfl
    rw [e1]
    unfold Pk.headB Pk.stepsB Pk.lengthsB Pk.timesB
    rfl
  obtain ⟨s, hs⟩ : ∃ s, p.bytes = s := ⟨_, rfl⟩
  rw [hs] at e1 ⊢
  have z : s.size = 48 := by rw [e1]; exact pieces_size (put1 (p.leap * 64 + p.version * 8 + p.mode)) (put1 p.stratum) (put1 p.poll) (put1 236) (put4 p.delay) (put4 p.disp) (put4 0) (stampB p.ref) (stampB p.orig) (stampB p.recv) (stampB p.xmit) (put1_size _) (put1_size _) (put1_size _) (put1_size _) (put4_size _) (put4_size _) (put4_size _) zj zk zl zm
  have x0 : s.extract 0 1 = put1 (p.leap * 64 + p.version * 8 + p.mode) := by rw [e1]; exact piece0 (put1 (p.leap * 64 + p.version * 8 + p.mode)) (put1 p.stratum) (put1 p.poll) (put1 236) (put4 p.delay) (put4 p.disp) (put4 0) (stampB p.ref) (stampB p.orig) (stampB p.recv) (stampB p.xmit) (put1_size _) (put1_size _) (put1_size _) (put1_size _) (put4_size _) (put4_size _) (put4_size _) zj zk zl zm
  have x1 : s.extract 1 2 = put1 p.stratum := by rw [e1]; exact piece1 (put1 (p.leap * 64 + p.version * 8 + p.mode)) (put1 p.stratum) (put1 p.poll) (put1 236) (put4 p.delay) (put4 p.disp) (put4 0) (stampB p.ref) (stampB p.orig) (stampB p.recv) (stampB p.xmit) (put1_size _) (put1_size _) (put1_size _) (put1_size _) (put4_size _) (put4_size _) (put4_size _) zj zk zl zm
  have x2 : s.extract 2 3 = put1 p.poll := by rw [e1]; exact piece2 (put1 (p.leap * 64 + p.version * 8 + p.mode)) (put1 p.stratum) (put1 p.poll) (put1 236) (put4 p.delay) (put4 p.disp) (put4 0) (stampB p.ref) (stampB p.orig) (stampB p.recv) (stampB p.xmit) (put1_size _) (put1_size _) (put1_size _) (put1_size _) (put4_size _) (put4_size _) (put4_size _) zj zk zl zm
  have x3 : s.extract 3 4 = put1 236 := by rw [e1]; exact piece3 (put1 (p.leap * 64 + p.version * 8 + p.mode)) (put1 p.stratum) (put1 p.poll) (put1 236) (put4 p.delay) (put4 p.disp) (put4 0) (stampB p.ref) (stampB p.orig) (stampB p.recv) (stampB p.xmit) (put1_size _) (put1_size _) (put1_size _) (put1_size _) (put4_size _) (put4_size _) (put4_size _) zj zk zl zm
  have x4 : s.extract 4 8 = put4 p.delay := by rw [e1]; exact piece4 (put1 (p.leap * 64 + p.version * 8 + p.mode)) (put1 p.stratum) (put1 p.poll) (put1 236) (put4 p.delay) (put4 p.disp) (put4 0) (stampB p.ref) (stampB p.orig) (stampB p.recv) (stampB p.xmit) (put1_size _) (put1_size _) (put1_size _) (put1_size _) (put4_size _) (put4_size _) (put4_size _) zj zk zl zm
  have x5 : s.extract 8 12 = put4 p.disp := by rw [e1]; exact piece5 (put1 (p.leap * 64 + p.version * 8 + p.mode)) (put1 p.stratum) (put1 p.poll) (put1 236) (put4 p.delay) (put4 p.disp) (put4 0) (stampB p.ref) (stampB p.orig) (stampB p.recv) (stampB p.xmit) (put1_size _) (put1_size _) (put1_size _) (put1_size _) (put4_size _) (put4_size _) (put4_size _) zj zk zl zm
  have x6 : s.extract 12 16 = put4 0 := by rw [e1]; exact piece6 (put1 (p.leap * 64 + p.version * 8 + p.mode)) (put1 p.stratum) (put1 p.poll) (put1 236) (put4 p.delay) (put4 p.disp) (put4 0) (stampB p.ref) (stampB p.orig) (stampB p.recv) (stampB p.xmit) (put1_size _) (put1_size _) (put1_size _) (put1_size _) (put4_size _) (put4_size _) (put4_size _) zj zk zl zm
  have x7 : s.extract 16 24 = stampB p.ref := by rw [e1]; exact piece7 (put1 (p.leap * 64 + p.version * 8 + p.mode)) (put1 p.stratum) (put1 p.poll) (put1 236) (put4 p.delay) (put4 p.disp) (put4 0) (stampB p.ref) (stampB p.orig) (stampB p.recv) (stampB p.xmit) (put1_size _) (put1_size _) (put1_size _) (put1_size _) (put4_size _) (put4_size _) (put4_size _) zj zk zl zm
  have x8 : s.extract 24 32 = stampB p.orig := by rw [e1]; exact piece8 (put1 (p.leap * 64 + p.version * 8 + p.mode)) (put1 p.stratum) (put1 p.poll) (put1 236) (put4 p.delay) (put4 p.disp) (put4 0) (stampB p.ref) (stampB p.orig) (stampB p.recv) (stampB p.xmit) (put1_size _) (put1_size _) (put1_size _) (put1_size _) (put4_size _) (put4_size _) (put4_size _) zj zk zl zm
  have x9 : s.extract 32 40 = stampB p.recv := by rw [e1]; exact piece9 (put1 (p.leap * 64 + p.version * 8 + p.mode)) (put1 p.stratum) (put1 p.poll) (put1 236) (put4 p.delay) (put4 p.disp) (put4 0) (stampB p.ref) (stampB p.orig) (stampB p.recv) (stampB p.xmit) (put1_size _) (put1_size _) (put1_size _) (put1_size _) (put4_size _) (put4_size _) (put4_size _) zj zk zl zm
  have x10 : s.extract 40 48 = stampB p.xmit := by rw [e1]; exact piece10 (put1 (p.leap * 64 + p.version * 8 + p.mode)) (put1 p.stratum) (put1 p.poll) (put1 236) (put4 p.delay) (put4 p.disp) (put4 0) (stampB p.ref) (stampB p.orig) (stampB p.recv) (stampB p.xmit) (put1_size _) (put1_size _) (put1_size _) (put1_size _) (put4_size _) (put4_size _) (put4_size _) zj zk zl zm
  have y0 : by1 s 0 = p.leap * 64 + p.version * 8 + p.mode := by unfold by1; rw [show 0 + 1 = 1 from rfl, x0]; exact getB_put1 _ (by omega)
  have y1 : by1 s 1 = p.stratum := by unfold by1; rw [show 1 + 1 = 2 from rfl, x1]; exact getB_put1 _ (by omega)
  have y2 : by1 s 2 = p.poll := by unfold by1; rw [show 2 + 1 = 3 from rfl, x2]; exact getB_put1 _ (by omega)
  have y3 : by1 s 3 = 236 := by unfold by1; rw [show 3 + 1 = 4 from rfl, x3]; exact getB_put1 _ (by omega)
  have y4 : by4 s 4 = p.delay := by unfold by4; rw [show 4 + 4 = 8 from rfl, x4]; exact getB_put4 _ (by omega)
  have y5 : by4 s 8 = p.disp := by unfold by4; rw [show 8 + 4 = 12 from rfl, x5]; exact getB_put4 _ (by omega)
  have y6 : by4 s 12 = 0 := by unfold by4; rw [show 12 + 4 = 16 from rfl, x6]; exact getB_put4 _ (by omega)
  have ep : rpPk s = p := by
    unfold rpPk
    rw [y0, y1, y2, y4, y5, x7, x8, x9, x10, tj, tk, tl, tm]
    rw [show (p.leap * 64 + p.version * 8 + p.mode) / 64 = p.leap by omega, show (p.leap * 64 + p.version * 8 + p.mode) / 8 % 8 = p.version by omega, show (p.leap * 64 + p.version * 8 + p.mode) % 8 = p.mode by omega]
  refine ⟨z, ?_, ep⟩
  unfold rpOk rpSt
  rw [ep, h, y3, y6, x7, x8, x9, x10, oj, ok, ol, om, decide_eq_true z]
  rfl
theorem rp_none (p : Pk) (h : p.ok = false) : p.bytes = ⟨#[]⟩ ∧ rpOk p.bytes = false := by
  have e : p.bytes = ⟨#[]⟩ := by unfold Pk.bytes; rw [h]; rfl
  refine ⟨e, ?_⟩
  rw [e]
  unfold rpOk
  rfl
end Go.Proofs.YteecemjbkpkpaaaDoor
