/- Four bytes are the bytes of the number that they tell; what is read, written again, has just its bytes. -/
import Derived.Test.YtkmjemdcmonllaaGet
import Derived.Test.YtkmjemdcmonllaaOrder
import Derived.Test.YtkmjemdcmonllaaReadShort
namespace Go.Proofs.Ytkmjemdcmonllaa
open Go.ChangeShapes Go.WideShapes Go.ChangeAt Go.RowKit
set_option linter.unusedVariables false

theorem list4 {α : Type} (l : List α) (h : l.length = 4) : ∃ a b c d, l = [a, b, c, d] :=
  match l, h with
  | [a, b, c, d], _ => ⟨a, b, c, d, rfl⟩
theorem byte_back (n : Int) (c : UInt8) (h : n = (c.toNat : Int)) : UInt8.ofNat n.toNat = c := by
  rw [h, Int.toNat_natCast]; simp

theorem put4_get (s : ByteArray) (h : s.size = 4) : put4 (getB s) = s := by
  obtain ⟨a, b, c, d, e⟩ := list4 s.data.toList (by simpa using h)
  apply ByteArray.ext
  apply Array.toList_inj.1
  have hg : getB s = (((a.toNat : Int) * 256 + b.toNat) * 256 + c.toNat) * 256 + d.toNat := by
    unfold getB getN; rw [e]; simp
  have ha := a.toNat_lt
  have hb := b.toNat_lt
  have hc := c.toNat_lt
  have hd := d.toNat_lt
  rw [e]
  show [UInt8.ofNat (getB s / 16777216 % 256).toNat, UInt8.ofNat (getB s / 65536 % 256).toNat, UInt8.ofNat (getB s / 256 % 256).toNat, UInt8.ofNat (getB s % 256).toNat] = _
  rw [byte_back _ a (by rw [hg]; omega), byte_back _ b (by rw [hg]; omega), byte_back _ c (by rw [hg]; omega), byte_back _ d (by rw [hg]; omega)]

/-- What is read, written again, has just its bytes. -/
theorem short_back (s : ByteArray) (h : shortOk s = true) : shortB (shortV s) = s := by
  have h' := h
  unfold shortOk at h'
  have h2 := of_decide_eq_true h'
  obtain ⟨b0, b1⟩ := getB_bound s (by omega)
  have e : shortV s = getB s * 1000000 / 65536 := by unfold shortV; rw [h]; rfl
  rw [e]
  unfold shortB
  rw [if_pos (by omega), show (getB s * 1000000 / 65536 * 65536 + 999999) / 1000000 = getB s from by omega]
  exact put4_get s h2.1

theorem getB_put4 (n : Int) (h : 0 ≤ n ∧ n < 4294967296) : getB (put4 n) = n := by
  have hg : getB (put4 n) = ((((UInt8.ofNat (n / 16777216 % 256).toNat).toNat : Int) * 256 + (UInt8.ofNat (n / 65536 % 256).toNat).toNat) * 256 + (UInt8.ofNat (n / 256 % 256).toNat).toNat) * 256 + (UInt8.ofNat (n % 256).toNat).toNat := by
    unfold getB getN
    show List.foldl _ 0 [UInt8.ofNat (n / 16777216 % 256).toNat, UInt8.ofNat (n / 65536 % 256).toNat, UInt8.ofNat (n / 256 % 256).toNat, UInt8.ofNat (n % 256).toNat] = _
    simp
  rw [hg, UInt8.toNat_ofNat', UInt8.toNat_ofNat', UInt8.toNat_ofNat', UInt8.toNat_ofNat']
  have e1 : n / 16777216 = n / 256 / 256 / 256 := by omega
  have e2 : n / 65536 = n / 256 / 256 := by omega
  rw [e1, e2]
  omega

/-- A length comes back no less than it was, and less than sixteen more. -/
theorem short_read (d : Int) (h : 0 ≤ d ∧ d ≤ 65535000000) : shortOk (shortB d) = true ∧ d ≤ shortV (shortB d) ∧ shortV (shortB d) < d + 16 ∧ (shortB d).size = 4 := by
  have e : shortB d = put4 ((d * 65536 + 999999) / 1000000) := if_pos h
  have eg : getB (shortB d) = (d * 65536 + 999999) / 1000000 := by rw [e]; exact getB_put4 _ (by omega)
  have es : (shortB d).size = 4 := by rw [e]; rfl
  have ok : shortOk (shortB d) = true := by
    unfold shortOk
    rw [eg, es]
    simp
    omega
  have ev : shortV (shortB d) = (d * 65536 + 999999) / 1000000 * 1000000 / 65536 := by unfold shortV; rw [ok, eg]; rfl
  exact ⟨ok, by rw [ev]; omega, by rw [ev]; omega, es⟩
end Go.Proofs.Ytkmjemdcmonllaa
