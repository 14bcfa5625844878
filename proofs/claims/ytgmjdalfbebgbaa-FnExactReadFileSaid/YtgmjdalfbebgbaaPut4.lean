/- Four bytes and the number that they tell. -/
import Derived.Test.YtgmjdalfbebgbaaGet
import Derived.Lib.Strings
namespace Go.Proofs.Ytgmjdalfbebgbaa
open Go.ChangeShapes Go.WideShapes Go.ChangeAt Go.RowKit
set_option linter.unusedVariables false

theorem toList_inj {a b : ByteArray} (h : a.toList = b.toList) : a = b := by
  rw [ByteArray.toList_eq, ByteArray.toList_eq] at h
  exact ByteArray.ext (Array.toList_inj.1 h)
theorem list4P {α : Type} (l : List α) (h : l.length = 4) : ∃ a b c d, l = [a, b, c, d] :=
  match l, h with
  | [a, b, c, d], _ => ⟨a, b, c, d, rfl⟩
theorem byte_back (n : Int) (c : UInt8) (h : n = (c.toNat : Int)) : UInt8.ofNat n.toNat = c := by
  rw [h, Int.toNat_natCast]; simp

theorem put4_get (s : ByteArray) (h : s.size = 4) : put4 (getB s) = s := by
  obtain ⟨a, b, c, d, e⟩ := list4P s.data.toList (by simpa using h)
  apply ByteArray.ext
  apply Array.toList_inj.1
  have hg : getB s = (((a.toNat : Int) * 256 + b.toNat) * 256 + c.toNat) * 256 + d.toNat := by
    unfold getB getN; rw [e]; simp
  have ha := a.toNat_lt
  have hb := b.toNat_lt
  have hc := c.toNat_lt
  have hd := d.toNat_lt
  rw [e]
  show [UInt8.ofNat (getB s / 16777216 % 256).toNat, UInt8.ofNat (getB s / 65536 % 256).toNat, UInt8.ofNat (getB s / 256 % 256).toNat, UInt8.ofNat (getB s % 256).toNat] = _
  rw [byte_back _ a (by rw [hg]; omega), byte_back _ b (by rw [hg]; omega), byte_back _ c (by rw [hg]; omega), byte_back _ d (by rw [hg]; omega)]

theorem getB_put4 (n : Int) (h : 0 ≤ n ∧ n < 4294967296) : getB (put4 n) = n := by
  have hg : getB (put4 n) = ((((UInt8.ofNat (n / 16777216 % 256).toNat).toNat : Int) * 256 + (UInt8.ofNat (n / 65536 % 256).toNat).toNat) * 256 + (UInt8.ofNat (n / 256 % 256).toNat).toNat) * 256 + (UInt8.ofNat (n % 256).toNat).toNat := by
    unfold getB getN
    show List.foldl _ 0 [UInt8.ofNat (n / 16777216 % 256).toNat, UInt8.ofNat (n / 65536 % 256).toNat, UInt8.ofNat (n / 256 % 256).toNat, UInt8.ofNat (n % 256).toNat] = _
    simp
  rw [hg, UInt8.toNat_ofNat', UInt8.toNat_ofNat', UInt8.toNat_ofNat', UInt8.toNat_ofNat']
  have e1 : n / 16777216 = n / 256 / 256 / 256 := by omega
  have e2 : n / 65536 = n / 256 / 256 := by omega
  rw [e1, e2]
  omega

end Go.Proofs.Ytgmjdalfbebgbaa
