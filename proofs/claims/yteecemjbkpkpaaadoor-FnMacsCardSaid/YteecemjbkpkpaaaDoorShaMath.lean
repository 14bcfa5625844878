/- SHA-256: words of 32 bits and what is made of them: numbers alone. -/
import Derived.Laws.BitsAllLaws
import Derived.IntWalk
import Derived.Test.YteecemjbkpkpaaaDoorMgb
namespace Go.Proofs.YteecemjbkpkpaaaDoor
open Go.ChangeShapes Go.WideShapes Go.ChangeAt Go.RowKit
set_option linter.unusedVariables false

/-- A word of 32 bits. -/
def U32 (x : Int) : Prop := 0 ≤ x ∧ x < 4294967296
theorem u32_mod (x : Int) : U32 (x % 4294967296) := by unfold U32; omega
theorem or32 {a b : Int} (ha : U32 a) (hb : U32 b) : U32 (bits .or .u32 a b) := by
  unfold U32 at *
  rw [u32_or a b ha.1 ha.2 hb.1 hb.2]
  have : a.toNat ||| b.toNat < 2 ^ 32 := Nat.or_lt_two_pow (by omega) (by omega)
  omega
theorem xor32 {a b : Int} (ha : U32 a) (hb : U32 b) : U32 (bits .xor .u32 a b) := by
  unfold U32 at *
  rw [u32_xor a b ha.1 ha.2 hb.1 hb.2]
  have : a.toNat ^^^ b.toNat < 2 ^ 32 := Nat.xor_lt_two_pow (by omega) (by omega)
  omega
theorem and32 {a b : Int} (ha : U32 a) (hb : U32 b) : U32 (bits .and .u32 a b) := by
  unfold U32 at *
  rw [u32_and a b ha.1 ha.2 hb.1 hb.2]
  have : a.toNat &&& b.toNat < 2 ^ 32 := Nat.and_lt_two_pow _ (by omega)
  omega
theorem div32 {x : Int} (h : U32 x) (q : Int) (hq : 0 < q) : U32 (x / q) := by
  unfold U32 at *
  refine ⟨Int.ediv_nonneg h.1 (by omega), Int.lt_of_le_of_lt (Int.ediv_le_self _ h.1) h.2⟩
/-- Bits moved round: p and q are powers of two, together of 32. -/
def rotV (p q x : Int) : Int := bits .or .u32 (x * p % 4294967296) (x / q)
theorem rot32 {p q x : Int} (h : U32 x) (hq : 0 < q) : U32 (rotV p q x) := or32 (u32_mod _) (div32 h q hq)
def sg0 (x : Int) : Int := bits .xor .u32 (bits .xor .u32 (rotV 33554432 128 x) (rotV 16384 262144 x)) (x / 8)
def sg1 (x : Int) : Int := bits .xor .u32 (bits .xor .u32 (rotV 32768 131072 x) (rotV 8192 524288 x)) (x / 1024)
def bg1 (x : Int) : Int := bits .xor .u32 (bits .xor .u32 (rotV 67108864 64 x) (rotV 2097152 2048 x)) (rotV 128 33554432 x)
def bg0 (x : Int) : Int := bits .xor .u32 (bits .xor .u32 (rotV 1073741824 4 x) (rotV 524288 8192 x)) (rotV 1024 4194304 x)
def chV (e f g : Int) : Int := bits .xor .u32 (bits .and .u32 e f) (bits .and .u32 (bits .xor .u32 4294967295 e) g)
def majV (a b c : Int) : Int := bits .xor .u32 (bits .xor .u32 (bits .and .u32 a b) (bits .and .u32 a c)) (bits .and .u32 b c)
theorem sg0_32 {x : Int} (h : U32 x) : U32 (sg0 x) := xor32 (xor32 (rot32 h (by omega)) (rot32 h (by omega))) (div32 h _ (by omega))
theorem sg1_32 {x : Int} (h : U32 x) : U32 (sg1 x) := xor32 (xor32 (rot32 h (by omega)) (rot32 h (by omega))) (div32 h _ (by omega))
theorem bg1_32 {x : Int} (h : U32 x) : U32 (bg1 x) := xor32 (xor32 (rot32 h (by omega)) (rot32 h (by omega))) (rot32 h (by omega))
theorem bg0_32 {x : Int} (h : U32 x) : U32 (bg0 x) := xor32 (xor32 (rot32 h (by omega)) (rot32 h (by omega))) (rot32 h (by omega))
theorem not32 {x : Int} (h : U32 x) : U32 (bits .xor .u32 4294967295 x) := xor32 (by unfold U32; omega) h
theorem ch32 {e f g : Int} (he : U32 e) (hf : U32 f) (hg : U32 g) : U32 (chV e f g) := xor32 (and32 he hf) (and32 (not32 he) hg)
theorem maj32 {a b c : Int} (ha : U32 a) (hb : U32 b) (hc : U32 c) : U32 (majV a b c) := xor32 (xor32 (and32 ha hb) (and32 ha hc)) (and32 hb hc)

/-- The eight words of a digest. -/
structure W8 where
  a : Int
  b : Int
  c : Int
  d : Int
  e : Int
  f : Int
  g : Int
  h : Int
structure W8.ok (v : W8) : Prop where
  a : U32 v.a
  b : U32 v.b
  c : U32 v.c
  d : U32 v.d
  e : U32 v.e
  f : U32 v.f
  g : U32 v.g
  h : U32 v.h
def W8.list (d : W8) : List Int := [d.a, d.b, d.c, d.d, d.e, d.f, d.g, d.h]
def lowV (d : W8) (k : Int) : Int := (d.h + bg1 d.e + chV d.e d.f d.g + k) % 4294967296
def highV (d : W8) : Int := (bg0 d.a + majV d.a d.b d.c) % 4294967296
def nextV (d : W8) (k : Int) : W8 := ⟨(lowV d k + highV d) % 4294967296, d.a, d.b, d.c, (d.d + lowV d k) % 4294967296, d.e, d.f, d.g⟩
theorem nextV_ok {d : W8} (h : d.ok) (k : Int) : (nextV d k).ok := ⟨u32_mod _, h.a, h.b, h.c, u32_mod _, h.e, h.f, h.g⟩
/-- The reference adds the round's word behind its constant. -/
theorem low_spec (d : W8) (k w : Int) : (d.h + bg1 d.e + chV d.e d.f d.g + k + w) % 4294967296 = lowV d ((w + k) % 4294967296) := by
  unfold lowV
  generalize d.h + bg1 d.e + chV d.e d.f d.g = x
  omega
def addV (x d : W8) : W8 := ⟨(x.a + d.a) % 4294967296, (x.b + d.b) % 4294967296, (x.c + d.c) % 4294967296, (x.d + d.d) % 4294967296, (x.e + d.e) % 4294967296, (x.f + d.f) % 4294967296, (x.g + d.g) % 4294967296, (x.h + d.h) % 4294967296⟩
theorem addV_ok (x d : W8) : (addV x d).ok := ⟨u32_mod _, u32_mod _, u32_mod _, u32_mod _, u32_mod _, u32_mod _, u32_mod _, u32_mod _⟩

/-- The word behind those that are there already. -/
def newW (l : List Int) : Int := (((l.getD (l.length - 16) 0 + sg0 (l.getD (l.length - 15) 0)) % 4294967296 + l.getD (l.length - 7) 0) % 4294967296 + sg1 (l.getD (l.length - 2) 0)) % 4294967296
def wsV (m : List Int) : Nat → List Int
  | 0 => []
  | i + 1 => wsV m i ++ [if i < 16 then m.getD i 0 else newW (wsV m i)]
theorem wsV_length (m : List Int) (i : Nat) : (wsV m i).length = i := by
  induction i with
  | zero => rfl
  | succ i ih => simp [wsV, ih]
theorem wsV_first {m : List Int} {i : Nat} (h : i < 16) : wsV m (i + 1) = wsV m i ++ [m.getD i 0] := by
  show wsV m i ++ [if i < 16 then m.getD i 0 else newW (wsV m i)] = _
  rw [if_pos h]
theorem wsV_later {m : List Int} {i : Nat} (h : ¬ i < 16) : wsV m (i + 1) = wsV m i ++ [newW (wsV m i)] := by
  show wsV m i ++ [if i < 16 then m.getD i 0 else newW (wsV m i)] = _
  rw [if_neg h]
theorem getD_mem {l : List Int} {i : Nat} (h : i < l.length) : l.getD i 0 ∈ l := by
  rw [List.getD_eq_getElem?_getD, List.getElem?_eq_getElem h]
  exact List.getElem_mem h
theorem all32_getD {l : List Int} (h : ∀ x ∈ l, U32 x) (i : Nat) : U32 (l.getD i 0) := by
  by_cases hi : i < l.length
  · exact h _ (getD_mem hi)
  · rw [List.getD_eq_getElem?_getD, List.getElem?_eq_none (by omega)]
    exact ⟨by simp, by simp⟩
theorem wsV_32 {m : List Int} (hm : ∀ x ∈ m, U32 x) (i : Nat) : ∀ x ∈ wsV m i, U32 x := by
  induction i with
  | zero => intro x h; simp [wsV] at h
  | succ i ih =>
    intro x h
    by_cases h16 : i < 16
    · rw [wsV_first h16] at h
      rcases List.mem_append.1 h with h | h
      · exact ih x h
      · rw [List.mem_singleton.1 h]
        exact all32_getD hm i
    · rw [wsV_later h16] at h
      rcases List.mem_append.1 h with h | h
      · exact ih x h
      · rw [List.mem_singleton.1 h]
        exact u32_mod _

/-- The constants of the 64 rounds. -/
def kL : List Int := [0x428a2f98, 0x71374491, 0xb5c0fbcf, 0xe9b5dba5, 0x3956c25b, 0x59f111f1, 0x923f82a4, 0xab1c5ed5,
  0xd807aa98, 0x12835b01, 0x243185be, 0x550c7dc3, 0x72be5d74, 0x80deb1fe, 0x9bdc06a7, 0xc19bf174,
  0xe49b69c1, 0xefbe4786, 0x0fc19dc6, 0x240ca1cc, 0x2de92c6f, 0x4a7484aa, 0x5cb0a9dc, 0x76f988da,
  0x983e5152, 0xa831c66d, 0xb00327c8, 0xbf597fc7, 0xc6e00bf3, 0xd5a79147, 0x06ca6351, 0x14292967,
  0x27b70a85, 0x2e1b2138, 0x4d2c6dfc, 0x53380d13, 0x650a7354, 0x766a0abb, 0x81c2c92e, 0x92722c85,
  0xa2bfe8a1, 0xa81a664b, 0xc24b8b70, 0xc76c51a3, 0xd192e819, 0xd6990624, 0xf40e3585, 0x106aa070,
  0x19a4c116, 0x1e376c08, 0x2748774c, 0x34b0bcb5, 0x391c0cb3, 0x4ed8aa4a, 0x5b9cca4f, 0x682e6ff3,
  0x748f82ee, 0x78a5636f, 0x84c87814, 0x8cc70208, 0x90befffa, 0xa4506ceb, 0xbef9a3f7, 0xc67178f2]
theorem kL_32 : ∀ x ∈ kL, U32 x := by
  have h : kL.all (fun x => decide (0 ≤ x) && decide (x < 4294967296)) = true := by decide +kernel
  intro x hx
  have := List.all_eq_true.1 h x hx
  simpa [U32] using this
theorem kL_length : kL.length = 64 := rfl
def firstV : W8 := ⟨0x6a09e667, 0xbb67ae85, 0x3c6ef372, 0xa54ff53a, 0x510e527f, 0x9b05688c, 0x1f83d9ab, 0x5be0cd19⟩
theorem firstV_ok : firstV.ok := by
  constructor <;> (unfold U32 firstV; decide)
/-- So many rounds. -/
def rndV (d : W8) (w : List Int) : Nat → W8
  | 0 => d
  | i + 1 => nextV (rndV d w i) ((w.getD i 0 + kL.getD i 0) % 4294967296)
theorem rndV_ok {d : W8} (h : d.ok) (w : List Int) (i : Nat) : (rndV d w i).ok := by
  induction i with
  | zero => exact h
  | succ i ih => exact nextV_ok ih _
/-- The words of a block. -/
def blockM (s : ByteArray) : List Int := (List.range 16).map fun i => getB (s.extract (4 * i) (4 * i + 4))
theorem blockM_length (s : ByteArray) : (blockM s).length = 16 := by simp [blockM]
theorem extract4_size (s : ByteArray) (i : Nat) : (s.extract (4 * i) (4 * i + 4)).size ≤ 4 := by simp [ByteArray.size_extract]; omega
theorem blockM_getD (s : ByteArray) {i : Nat} (h : i < 16) : (blockM s).getD i 0 = getB (s.extract (4 * i) (4 * i + 4)) := by
  unfold blockM
  rw [List.getD_eq_getElem?_getD, List.getElem?_map, List.getElem?_range h]
  rfl
theorem blockM_32 (s : ByteArray) : ∀ x ∈ blockM s, U32 x := by
  intro x hx
  unfold blockM at hx
  obtain ⟨i, _, rfl⟩ := List.mem_map.1 hx
  exact getB_bound _ (extract4_size s i)
/-- A digest's words behind a block. -/
def stepV (d : W8) (s : ByteArray) : W8 := addV (rndV d (wsV (blockM s) 64) 64) d
theorem stepV_ok (d : W8) (s : ByteArray) : (stepV d s).ok := addV_ok _ _
def runV (s : ByteArray) : Nat → W8
  | 0 => firstV
  | k + 1 => stepV (runV s k) (s.extract (64 * k) (64 * k + 64))
theorem runV_ok (s : ByteArray) (k : Nat) : (runV s k).ok := by
  cases k with
  | zero => exact firstV_ok
  | succ k => exact stepV_ok _ _
/-- The bytes of eight words. -/
def bytes8 (d : W8) : ByteArray := put4 d.a ++ put4 d.b ++ put4 d.c ++ put4 d.d ++ put4 d.e ++ put4 d.f ++ put4 d.g ++ put4 d.h
theorem put4_sz (n : Int) : (put4 n).size = 4 := rfl
theorem bytes8_size (d : W8) : (bytes8 d).size = 32 := by
  unfold bytes8
  simp only [ByteArray.size_append, put4_sz]
/-- So many noughts. -/
def zerosB (n : Nat) : ByteArray := ⟨(List.replicate n (0 : UInt8)).toArray⟩
theorem zerosB_size (n : Nat) : (zerosB n).size = n := by simp [zerosB, ByteArray.size]
theorem zerosB_succ (n : Nat) : zerosB (n + 1) = zerosB n ++ ⟨#[0]⟩ := by
  apply ByteArray.ext
  apply Array.toList_inj.1
  show List.replicate (n + 1) (0 : UInt8) = _
  rw [List.replicate_succ', ByteArray.data_append]
  simp [zerosB]
/-- A text filled up to whole blocks. -/
def padB (s : ByteArray) : ByteArray := s ++ ⟨#[128]⟩ ++ zerosB (63 - (s.size + 8) % 64) ++ (zerosB 4 ++ put4 (8 * (s.size : Int)))
theorem padB_size (s : ByteArray) : (padB s).size = s.size + 1 + (63 - (s.size + 8) % 64) + 8 := by
  unfold padB
  simp only [ByteArray.size_append, put4_sz, zerosB_size]
  rfl
theorem padB_mod (s : ByteArray) : (padB s).size % 64 = 0 := by
  rw [padB_size]
  omega
/-- A text's SHA-256. -/
def shaB (s : ByteArray) : ByteArray := bytes8 (runV (padB s) ((padB s).size / 64))
theorem shaB_size (s : ByteArray) : (shaB s).size = 32 := bytes8_size _
end Go.Proofs.YteecemjbkpkpaaaDoor
