/- The packet that 48 bytes tell: numbers and bytes alone. -/
import Derived.Test.YtphmlpdohkfpiaaDoorPacketBytesD
import Derived.Test.YtphmlpdohkfpiaaDoorReadStamp
import Derived.Test.YtphmlpdohkfpiaaDoorPut4
namespace Go.Proofs.YtphmlpdohkfpiaaDoor
open Go.ChangeShapes Go.WideShapes Go.ChangeAt Go.RowKit
set_option linter.unusedVariables false
set_option linter.unusedSimpArgs false

theorem appP_data (x y : ByteArray) : (x ++ y).data.toList = x.data.toList ++ y.data.toList := by simp
theorem joinP (s : ByteArray) (a b c : Nat) (h1 : a ≤ b) (h2 : b ≤ c) : s.extract a b ++ s.extract b c = s.extract a c := by
  apply ByteArray.ext
  apply Array.toList_inj.1
  rw [appP_data, Lib.extract_data, Lib.extract_data, Lib.extract_data]
  have h := List.take_append_drop (b - a) ((s.data.toList.drop a).take (c - a))
  rw [List.take_take, List.drop_take, List.drop_drop, Nat.min_eq_left (by omega)] at h
  rw [show c - a - (b - a) = c - b by omega, show a + (b - a) = b by omega] at h
  exact h
theorem allP (x : ByteArray) (n : Nat) (h : x.size ≤ n) : x.extract 0 n = x := by
  apply ByteArray.ext
  apply Array.toList_inj.1
  have e1 : x.data.toList.length = x.size := by simp
  rw [Lib.extract_data, List.drop_zero, List.take_of_length_le (by omega)]
/-- The number that a byte tells. -/
def by1 (s : ByteArray) (p : Nat) : Int := getB (s.extract p (p + 1))
def by4 (s : ByteArray) (p : Nat) : Int := getB (s.extract p (p + 4))
theorem by1_bound (s : ByteArray) (p : Nat) : 0 ≤ by1 s p ∧ by1 s p < 256 := getN_bound 1 _ (by rw [Lib.extract_data]; simp; omega) (by omega)
theorem by4_bound (s : ByteArray) (p : Nat) : 0 ≤ by4 s p ∧ by4 s p < 4294967296 := getB_bound _ (by rw [ByteArray.size_extract]; omega)
def rpPk (s : ByteArray) : Pk := ⟨by1 s 0 / 64, by1 s 0 / 8 % 8, by1 s 0 % 8, by1 s 1, by1 s 2, by4 s 4, by4 s 8, stampT (s.extract 16 24), stampT (s.extract 24 32), stampT (s.extract 32 40), stampT (s.extract 40 48)⟩
/-- The stamps of 48 bytes are right. -/
def rpSt (s : ByteArray) : Bool := stampOk (s.extract 16 24) && stampOk (s.extract 24 32) && stampOk (s.extract 32 40) && stampOk (s.extract 40 48)
def rpOk (s : ByteArray) : Bool := decide (s.size = 48) && (by1 s 3 == 236) && (by4 s 12 == 0) && rpSt s && (rpPk s).ok
theorem put1_get (s : ByteArray) (h : s.size = 1) : put1 (getB s) = s := by
  have hl : s.data.toList.length = 1 := by simpa using h
  match hs : s.data.toList, hl with
  | [a], _ =>
    apply ByteArray.ext
    apply Array.toList_inj.1
    have hg : getB s = (a.toNat : Int) := by unfold getB getN; rw [hs]; simp
    have ha := a.toNat_lt
    rw [hs]
    show [UInt8.ofNat (getB s % 256).toNat] = _
    rw [byte_back _ a (by rw [hg]; omega)]
theorem stampP_back (s : ByteArray) (h : stampOk s = true) : stampB (stampT s) = s := by
  have e : stampT s = stampAt (getB (s.extract 0 4)) (getB (s.extract 4 8)) := by unfold stampT; rw [h]; rfl
  rw [e]
  unfold stampOk at h
  rw [Bool.and_eq_true] at h
  exact toList_inj (beq_iff_eq.1 h.2)
/-- The bytes of the packet that is read, where it is right. -/
theorem rp_bytes (s : ByteArray) (hz : s.size = 48) (hst : rpSt s = true) (hok : (rpPk s).ok = true) :
    (rpPk s).bytes = s.extract 0 3 ++ put1 236 ++ s.extract 4 12 ++ put4 0 ++ s.extract 16 48 := by
  unfold rpSt at hst
  simp only [Bool.and_eq_true] at hst
  obtain ⟨⟨⟨s1, s2⟩, s3⟩, s4⟩ := hst
  have e1 : (rpPk s).bytes = (rpPk s).headB ++ (rpPk s).stepsB ++ (rpPk s).lengthsB ++ (rpPk s).timesB := by unfold Pk.bytes; rw [hok]; rfl
  rw [e1]
  unfold Pk.headB Pk.stepsB Pk.lengthsB Pk.timesB
  have b0 := by1_bound s 0
  have h0 : put1 ((rpPk s).leap * 64 + (rpPk s).version * 8 + (rpPk s).mode) = s.extract 0 1 := by
    have hp : (rpPk s).leap * 64 + (rpPk s).version * 8 + (rpPk s).mode = by1 s 0 / 64 * 64 + by1 s 0 / 8 % 8 * 8 + by1 s 0 % 8 := by dsimp only [rpPk]
    rw [hp]
    rw [show by1 s 0 / 64 * 64 + by1 s 0 / 8 % 8 * 8 + by1 s 0 % 8 = by1 s 0 by omega]
    exact put1_get _ (by rw [ByteArray.size_extract]; omega)
  have h1 : put1 (rpPk s).stratum = s.extract 1 2 := by
    have hp : (rpPk s).stratum = getB (s.extract 1 2) := by dsimp only [rpPk, by1, by4]
    rw [hp]
    exact put1_get _ (by rw [ByteArray.size_extract]; omega)
  have h2 : put1 (rpPk s).poll = s.extract 2 3 := by
    have hp : (rpPk s).poll = getB (s.extract 2 3) := by dsimp only [rpPk, by1, by4]
    rw [hp]
    exact put1_get _ (by rw [ByteArray.size_extract]; omega)
  have h3 : put4 (rpPk s).delay = s.extract 4 8 := by
    have hp : (rpPk s).delay = getB (s.extract 4 8) := by dsimp only [rpPk, by1, by4]
    rw [hp]
    exact put4_get _ (by rw [ByteArray.size_extract]; omega)
  have h4 : put4 (rpPk s).disp = s.extract 8 12 := by
    have hp : (rpPk s).disp = getB (s.extract 8 12) := by dsimp only [rpPk, by1, by4]
    rw [hp]
    exact put4_get _ (by rw [ByteArray.size_extract]; omega)
  have t1 : stampB (rpPk s).ref = s.extract 16 24 := by
    have hp : (rpPk s).ref = stampT (s.extract 16 24) := by dsimp only [rpPk]
    rw [hp]
    exact stampP_back (s.extract 16 24) s1
  have t2 : stampB (rpPk s).orig = s.extract 24 32 := by
    have hp : (rpPk s).orig = stampT (s.extract 24 32) := by dsimp only [rpPk]
    rw [hp]
    exact stampP_back (s.extract 24 32) s2
  have t3 : stampB (rpPk s).recv = s.extract 32 40 := by
    have hp : (rpPk s).recv = stampT (s.extract 32 40) := by dsimp only [rpPk]
    rw [hp]
    exact stampP_back (s.extract 32 40) s3
  have t4 : stampB (rpPk s).xmit = s.extract 40 48 := by
    have hp : (rpPk s).xmit = stampT (s.extract 40 48) := by dsimp only [rpPk]
    rw [hp]
    exact stampP_back (s.extract 40 48) s4
  rw [h0, h1, h2, h3, h4, t1, t2, t3, t4]
  rw [joinP s 16 24 32 (by omega) (by omega), joinP s 16 32 40 (by omega) (by omega), joinP s 16 40 48 (by omega) (by omega), joinP s 4 8 12 (by omega) (by omega)]
  rw [← joinP s 0 1 3 (by omega) (by omega), ← joinP s 1 2 3 (by omega) (by omega)]
  simp only [ByteArray.append_assoc]
theorem cutP (s : ByteArray) (hz : s.size = 48) : s = s.extract 0 3 ++ s.extract 3 4 ++ s.extract 4 12 ++ s.extract 12 16 ++ s.extract 16 48 := by
  rw [joinP s 0 3 4 (by omega) (by omega), joinP s 0 4 12 (by omega) (by omega), joinP s 0 12 16 (by omega) (by omega), joinP s 0 16 48 (by omega) (by omega)]
  exact (allP s 48 (by omega)).symm
theorem append_inj4 {a b b' c d d' e : ByteArray} (h1 : b.size = b'.size) (h2 : d.size = d'.size) (h : a ++ b ++ c ++ d ++ e = a ++ b' ++ c ++ d' ++ e) : b = b' ∧ d = d' := by
  have hh := congrArg (fun x => x.data.toList) h
  simp only [appP_data, List.append_assoc] at hh
  have g1 := List.append_cancel_left hh
  have l1 : b.data.toList.length = b'.data.toList.length := by simpa using h1
  have l2 : d.data.toList.length = d'.data.toList.length := by simpa using h2
  obtain ⟨q1, q2⟩ := List.append_inj g1 l1
  have g2 := List.append_cancel_left q2
  obtain ⟨q3, _⟩ := List.append_inj g2 l2
  exact ⟨ByteArray.ext (Array.toList_inj.1 q1), ByteArray.ext (Array.toList_inj.1 q3)⟩
/-- Where the stamps are right: the packet's bytes are these just where the fixed ones are as they should be. -/
theorem rp_same (s : ByteArray) (hz : s.size = 48) (hst : rpSt s = true) : ((rpPk s).bytes.toList == s.toList) = rpOk s := by
  have hd : rpOk s = ((by1 s 3 == 236) && (by4 s 12 == 0) && (rpPk s).ok) := by
    unfold rpOk
    rw [hst, show decide (s.size = 48) = true from decide_eq_true hz, Bool.true_and, Bool.and_true]
  rw [hd, Bool.eq_iff_iff]
  have z3 : (s.extract 3 4).size = 1 := by rw [ByteArray.size_extract]; omega
  have z12 : (s.extract 12 16).size = 4 := by rw [ByteArray.size_extract]; omega
  have b3 := by1_bound s 3
  have b12 := by4_bound s 12
  constructor
  · intro h
    have he := toList_inj (beq_iff_eq.1 h)
    cases hok : (rpPk s).ok with
    | false =>
      have : (rpPk s).bytes = ⟨#[]⟩ := by unfold Pk.bytes; rw [hok]; rfl
      rw [this] at he
      rw [← he] at hz
      cases hz
    | true =>
      rw [rp_bytes s hz hst hok] at he
      have hc := cutP s hz
      rw [← he] at hc
      rw [he] at hc
      have hj := append_inj4 (a := s.extract 0 3) (b := put1 236) (b' := s.extract 3 4) (c := s.extract 4 12) (d := put4 0) (d' := s.extract 12 16) (e := s.extract 16 48) (by rw [z3]; rfl) (by rw [z12]; rfl) (he.trans (cutP s hz))
      have e3 : by1 s 3 = 236 := by
        unfold by1
        rw [show 3 + 1 = 4 from rfl, ← hj.1]
        decide
      have e12 : by4 s 12 = 0 := by
        unfold by4
        rw [show 12 + 4 = 16 from rfl, ← hj.2]
        exact getB_put4 0 (by omega)
      simp [e3, e12]
  · intro h
    simp only [Bool.and_eq_true, beq_iff_eq] at h
    obtain ⟨⟨h3, h12⟩, hok⟩ := h
    have p3 : put1 236 = s.extract 3 4 := by rw [← h3]; exact put1_get _ z3
    have p12 : put4 0 = s.extract 12 16 := by rw [← h12]; exact put4_get _ z12
    rw [rp_bytes s hz hst hok, p3, p12, ← cutP s hz]
    simp
end Go.Proofs.YtphmlpdohkfpiaaDoor
