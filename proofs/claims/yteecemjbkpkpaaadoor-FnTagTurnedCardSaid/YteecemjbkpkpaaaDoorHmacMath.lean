/- Tags with a key: numbers and texts alone. -/
import Derived.Test.YteecemjbkpkpaaaDoorShaMath
namespace Go.Proofs.YteecemjbkpkpaaaDoor
open Go.ChangeShapes Go.WideShapes Go.ChangeAt Go.RowKit
set_option linter.unusedVariables false

/-- A key of one block at most. -/
def keyV (k : ByteArray) : ByteArray := if 64 < k.size then shaB k else k
theorem keyV_size (k : ByteArray) : (keyV k).size ≤ 64 := by
  unfold keyV
  split
  · rw [shaB_size]; omega
  · omega
/-- The numbers of a text. -/
def numsOf (s : ByteArray) : List Int := s.data.toList.map (fun x => (x.toNat : Int))
theorem numsOf_length (s : ByteArray) : (numsOf s).length = s.size := by
  unfold numsOf
  rw [List.length_map, Array.length_toList]
  rfl
theorem numsOf_append (s t : ByteArray) : numsOf (s ++ t) = numsOf s ++ numsOf t := by simp [numsOf, ByteArray.data_append]
theorem numsOf_zeros (n : Nat) : numsOf (zerosB n) = List.replicate n 0 := by simp [numsOf, zerosB]
theorem strOf_numsOf (s : ByteArray) : strOfNums (numsOf s) = s := by
  apply ByteArray.ext
  apply Array.toList_inj.1
  show List.map (fun n : Int => UInt8.ofNat n.toNat) (List.map (fun x : UInt8 => (x.toNat : Int)) s.data.toList) = s.data.toList
  rw [List.map_map]
  exact (List.map_congr_left (fun x _ => by simp)).trans (List.map_id _)
/-- A key's numbers, noughts behind it up to a block. -/
def padK (k : ByteArray) : List Int := numsOf k ++ List.replicate (64 - k.size) 0
theorem padK_length {k : ByteArray} (h : k.size ≤ 64) : (padK k).length = 64 := by
  unfold padK
  rw [List.length_append, numsOf_length, List.length_replicate]
  omega
theorem padK_zeros (k : ByteArray) : numsOf (k ++ zerosB (64 - k.size)) = padK k := by
  rw [numsOf_append, numsOf_zeros]; rfl
theorem padK_more (k : ByteArray) (h : k.size < 64) : padK (k ++ ⟨#[0]⟩) = padK k := by
  unfold padK
  have e : (k ++ (⟨#[0]⟩ : ByteArray)).size = k.size + 1 := by rw [ByteArray.size_append]; rfl
  rw [numsOf_append, e, show 64 - k.size = (64 - (k.size + 1)) + 1 by omega, List.replicate_succ, List.append_assoc]
  rfl
/-- Each number turned by another one. -/
def maskN (l : List Int) (m : Int) : List Int := l.map fun x => bits .xor .u8 x m
def maskB (k : ByteArray) (m : Int) : ByteArray := strOfNums (maskN (padK k) m)
theorem strOfNums_size (l : List Int) : (strOfNums l).size = l.length := by simp [strOfNums, ByteArray.size]
theorem maskB_size {k : ByteArray} (h : k.size ≤ 64) (m : Int) : (maskB k m).size = 64 := by
  unfold maskB
  rw [strOfNums_size, maskN, List.length_map, padK_length h]
/-- A text's tag with a key. -/
def hmacB (k t : ByteArray) : ByteArray := shaB (maskB (keyV k) 92 ++ shaB (maskB (keyV k) 54 ++ t))
theorem hmacB_size (k t : ByteArray) : (hmacB k t).size = 32 := shaB_size _
theorem hmacB_long {k : ByteArray} (t : ByteArray) (h : 64 < k.size) : hmacB (shaB k) t = hmacB k t := by
  have e1 : keyV k = shaB k := if_pos h
  have e2 : keyV (shaB k) = shaB k := if_neg (by rw [shaB_size]; omega)
  unfold hmacB
  rw [e1, e2]
theorem hmacB_zero {k : ByteArray} (t : ByteArray) (h : k.size < 64) : hmacB (k ++ ⟨#[0]⟩) t = hmacB k t := by
  have e : (k ++ (⟨#[0]⟩ : ByteArray)).size = k.size + 1 := by rw [ByteArray.size_append]; rfl
  have e1 : keyV k = k := if_neg (by omega)
  have e2 : keyV (k ++ ⟨#[0]⟩) = k ++ ⟨#[0]⟩ := if_neg (by rw [e]; omega)
  unfold hmacB maskB
  rw [e1, e2, padK_more k h]
end Go.Proofs.YteecemjbkpkpaaaDoor
