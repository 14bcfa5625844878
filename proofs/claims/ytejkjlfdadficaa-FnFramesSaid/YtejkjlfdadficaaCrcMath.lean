/- The CRC-32 of a text, bit by bit: numbers alone. -/
import Derived.Laws.BitsAllLaws
import Derived.IntWalk
namespace Go.Proofs.Ytejkjlfdadficaa
set_option linter.unusedVariables false

theorem xor_bound (a b : Int) (h1 : 0 ≤ a) (h2 : a < 4294967296) (h3 : 0 ≤ b) (h4 : b < 4294967296) : 0 ≤ bits .xor .u32 a b ∧ bits .xor .u32 a b < 4294967296 := by
  rw [u32_xor a b h1 h2 h3 h4]
  have : a.toNat ^^^ b.toNat < 2 ^ 32 := Nat.xor_lt_two_pow (by omega) (by omega)
  omega
/-- One bit of a CRC-32. -/
def crcBit (c : Int) : Int := if c % 2 = 1 then bits .xor .u32 (c / 2) 3988292384 else c / 2
theorem crcBit_bound (c : Int) (h1 : 0 ≤ c) (h2 : c < 4294967296) : 0 ≤ crcBit c ∧ crcBit c < 4294967296 := by
  unfold crcBit
  split
  · exact xor_bound _ _ (by omega) (by omega) (by omega) (by omega)
  · omega
theorem xor_zero (a : Int) (h1 : 0 ≤ a) (h2 : a < 4294967296) : bits .xor .u32 a 0 = a := by
  rw [u32_xor a 0 h1 h2 (by omega) (by omega)]
  simp
  omega
theorem and_one (c : Int) (h1 : 0 ≤ c) (h2 : c < 4294967296) : bits .and .u32 c 1 = c % 2 := by
  rw [u32_and c 1 h1 h2 (by omega) (by omega)]
  rw [show (1 : Int).toNat = 1 from rfl, Nat.and_one_is_mod]
  omega
theorem crcBit_prog (c : Int) (h1 : 0 ≤ c) (h2 : c < 4294967296) : bits .xor .u32 (c / 2) (c % 2 * 3988292384) = crcBit c := by
  unfold crcBit
  split
  · rename_i h; rw [h]; rfl
  · rename_i h
    have : c % 2 = 0 := by omega
    rw [this, Int.zero_mul, xor_zero _ (by omega) (by omega)]
def crcBits : Nat → Int → Int
  | 0, c => c
  | k + 1, c => crcBit (crcBits k c)
theorem crcBits_bound (k : Nat) (c : Int) (h1 : 0 ≤ c) (h2 : c < 4294967296) : 0 ≤ crcBits k c ∧ crcBits k c < 4294967296 := by
  induction k with
  | zero => exact ⟨h1, h2⟩
  | succ k ih => exact crcBit_bound _ ih.1 ih.2
def crcByte (c : Int) (b : UInt8) : Int := crcBits 8 (bits .xor .u32 c (b.toNat : Int))
theorem crcByte_bound (c : Int) (b : UInt8) (h1 : 0 ≤ c) (h2 : c < 4294967296) : 0 ≤ crcByte c b ∧ crcByte c b < 4294967296 := by
  have hb := b.toNat_lt
  have := xor_bound c (b.toNat : Int) h1 h2 (by omega) (by omega)
  exact crcBits_bound 8 _ this.1 this.2
def crcL (l : List UInt8) : Int := l.foldl crcByte 4294967295
theorem crcL_snoc (l : List UInt8) (b : UInt8) : crcL (l ++ [b]) = crcByte (crcL l) b := by simp [crcL]
theorem foldl_bound (l : List UInt8) : ∀ c : Int, 0 ≤ c → c < 4294967296 → 0 ≤ l.foldl crcByte c ∧ l.foldl crcByte c < 4294967296 := by
  induction l with
  | nil => intro c h1 h2; exact ⟨h1, h2⟩
  | cons b t ih => intro c h1 h2; have := crcByte_bound c b h1 h2; exact ih _ this.1 this.2
theorem crcL_bound (l : List UInt8) : 0 ≤ crcL l ∧ crcL l < 4294967296 := foldl_bound l _ (by omega) (by omega)
/-- The CRC-32 of a text. -/
def crcV (l : List UInt8) : Int := bits .xor .u32 4294967295 (crcL l)
theorem crcV_bound (l : List UInt8) : 0 ≤ crcV l ∧ crcV l < 4294967296 := xor_bound _ _ (by omega) (by omega) (crcL_bound l).1 (crcL_bound l).2
theorem mask_bytes (x : Nat) : x &&& 16711935 = x % 256 + x / 65536 % 256 * 65536 := by
  have e : x % 256 + x / 65536 % 256 * 65536 = (x / 65536 % 256) <<< 16 ||| (x % 256) := by
    rw [← Nat.shiftLeft_add_eq_or_of_lt (by omega : x % 256 < 2 ^ 16), Nat.shiftLeft_eq]
    omega
  rw [e]
  apply Nat.eq_of_testBit_eq
  intro i
  have e2 : (16711935 : Nat) = (255 <<< 16) ||| 255 := by decide
  rw [e2, Nat.testBit_and, Nat.testBit_or, Nat.testBit_or, Nat.testBit_shiftLeft, Nat.testBit_shiftLeft, show (255 : Nat) = 2 ^ 8 - 1 from rfl, Nat.testBit_two_pow_sub_one, Nat.testBit_two_pow_sub_one, show (256 : Nat) = 2 ^ 8 from rfl, Nat.testBit_mod_two_pow, Nat.testBit_mod_two_pow, show x / 65536 = x >>> 16 by rw [Nat.shiftRight_eq_div_pow], Nat.testBit_shiftRight]
  by_cases h : 16 ≤ i
  · simp only [ge_iff_le, h, decide_true, Bool.true_and, show 16 + (i - 16) = i by omega, show ¬ i < 8 by omega, decide_false, Bool.false_and, Bool.or_false]
    cases x.testBit i <;> simp
  · simp only [ge_iff_le, h, decide_false, Bool.false_and, Bool.false_or]
    cases x.testBit i <;> simp
theorem or_rot (a b c d : Nat) : (a ||| b) ||| (c ||| d) = (c ||| a) ||| (d ||| b) := by
  apply Nat.eq_of_testBit_eq
  intro i
  simp only [Nat.testBit_or]
  cases a.testBit i <;> cases b.testBit i <;> cases c.testBit i <;> cases d.testBit i <;> rfl
theorem rev_half (b0 b1 b2 b3 : Nat) (h0 : b0 < 256) (h1 : b1 < 256) (h2 : b2 < 256) (h3 : b3 < 256) :
    (b1 + b3 * 65536) ||| ((b0 + b2 * 65536) * 256) = b2 * 16777216 + b3 * 65536 + b0 * 256 + b1 := by
  rw [show b1 + b3 * 65536 = (b3 * 65536) ||| b1 by rw [nat_join16 _ _ (by omega) (by omega)]; omega,
    show (b0 + b2 * 65536) * 256 = (b2 * 16777216) ||| (b0 * 256) by rw [nat_join24 _ _ (by omega) (by omega)]; omega, or_rot,
    nat_join24 (b2 * 16777216) (b3 * 65536) (by omega) (by omega), nat_join8 (b0 * 256) b1 (by omega) (by omega), nat_join16 (b2 * 16777216 + b3 * 65536) (b0 * 256 + b1) (by omega) (by omega)]
  omega
theorem rev_rest (p q r s y : Nat) (h0 : p < 256) (h1 : q < 256) (h2 : r < 256) (h3 : s < 256) (hy : q * 16777216 + p * 65536 + s * 256 + r = y) :
    (y / 65536 ||| (y * 65536 % 4294967296)) = p + q * 256 + r * 65536 + s * 16777216 := by
  have e1 : y / 65536 = q * 256 + p := by omega
  have e2 : y * 65536 % 4294967296 = (s * 256 + r) * 65536 := by omega
  have h5 := nat_join16' ((s * 256 + r) * 65536) (q * 256 + p) (Nat.mul_mod_left _ _) (by omega)
  rw [e1, e2, h5]
  clear h5 hy e1 e2
  omega
theorem rev_math (c : Nat) (hc : c < 4294967296) (y : Nat) (hy : (c / 256 &&& 16711935) ||| ((c &&& 16711935) * 256) = y) :
    (y / 65536 ||| (y * 65536 % 4294967296)) = c / 16777216 % 256 + c / 65536 % 256 * 256 + c / 256 % 256 * 65536 + c % 256 * 16777216 := by
  rw [mask_bytes, mask_bytes, show c / 256 / 65536 = c / 16777216 by omega, rev_half _ _ _ _ (by omega) (by omega) (by omega) (by omega)] at hy
  exact rev_rest _ _ _ _ y (by omega) (by omega) (by omega) (by omega) hy
end Go.Proofs.Ytejkjlfdadficaa
