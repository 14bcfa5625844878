/- A key's block, each byte of it turned; a text's tag with a key: the program's way. -/
import Derived.Test.YteecemjbkpkpaaaDoorShaDig
import Derived.Test.YteecemjbkpkpaaaDoorHmacMath
import Derived.Lib.BufferWrite
import Derived.Test.YteecemjbkpkpaaaDoorCopyK
namespace Go.Proofs.YteecemjbkpkpaaaDoor
open Go.ChangeShapes Go.WideShapes Go.ChangeAt Go.RowKit
set_option linter.unusedVariables false
set_option linter.unusedSimpArgs false
set_option maxRecDepth 100000

def w8 (l : List Int) : List Value := l.map (Value.int .u8)
theorem z64b : (#[.int .u8 0, .int .u8 0, .int .u8 0, .int .u8 0, .int .u8 0, .int .u8 0, .int .u8 0, .int .u8 0, .int .u8 0, .int .u8 0, .int .u8 0, .int .u8 0, .int .u8 0, .int .u8 0, .int .u8 0, .int .u8 0, .int .u8 0, .int .u8 0, .int .u8 0, .int .u8 0, .int .u8 0, .int .u8 0, .int .u8 0, .int .u8 0, .int .u8 0, .int .u8 0, .int .u8 0, .int .u8 0, .int .u8 0, .int .u8 0, .int .u8 0, .int .u8 0, .int .u8 0, .int .u8 0, .int .u8 0, .int .u8 0, .int .u8 0, .int .u8 0, .int .u8 0, .int .u8 0, .int .u8 0, .int .u8 0, .int .u8 0, .int .u8 0, .int .u8 0, .int .u8 0, .int .u8 0, .int .u8 0, .int .u8 0, .int .u8 0, .int .u8 0, .int .u8 0, .int .u8 0, .int .u8 0, .int .u8 0, .int .u8 0, .int .u8 0, .int .u8 0, .int .u8 0, .int .u8 0, .int .u8 0, .int .u8 0, .int .u8 0, .int .u8 0] : Array Value) = (w8 (List.replicate 64 0)).toArray := rfl
/-- A text's digest, where it is not too long. -/
def shaV (s : ByteArray) : ByteArray := if 1000 < s.size then ⟨#[]⟩ else shaB s
/-- A block of bytes. -/
def BB (W : World) (b : Nat) (T : TypeId) (l : List Int) : Prop := W.heap[b]? = some (.cells (w8 l).toArray T (0, 0))
theorem BB.cell {W : World} {b : Nat} {T : TypeId} {l : List Int} (h : BB W b T l) {i : Nat} {x : Int} (hx : l[i]? = some x) : W.cell? ⟨b, i, none⟩ = some (.int .u8 x) := by
  simp [World.cell?, show W.heap[b]? = _ from h, w8, hx]
theorem BB.thaw {W : World} {b : Nat} {T : TypeId} {l : List Int} (h : BB W b T l) (i : Nat) : W.frozen? ⟨b, i, none⟩ = false := by
  simp [World.frozen?, show W.heap[b]? = _ from h]
theorem BB.set {W : World} {b : Nat} {T : TypeId} {l : List Int} (h : BB W b T l) (i : Nat) (x : Int) : BB (W.setCell ⟨b, i, none⟩ (.int .u8 x)) b T (l.set i x) := by
  unfold BB at h ⊢
  simp [World.setCell, Array.getElem?_modify, h, w8, List.map_set]
/-- Some first ones turned already. -/
def mixN (l : List Int) (m : Int) (k : Nat) : List Int := (maskN l m).take k ++ l.drop k
theorem mixN_at {l : List Int} {m : Int} {k : Nat} {x : Int} (h : l[k]? = some x) : (mixN l m k)[k]? = some x := by
  have hk := (List.getElem?_eq_some_iff.1 h).1
  have hl : ((maskN l m).take k).length = k := by rw [List.length_take, maskN, List.length_map]; omega
  unfold mixN
  rw [List.getElem?_append_right (by omega), List.getElem?_drop, hl, Nat.sub_self, Nat.add_zero]
  exact h
theorem mixN_set {l : List Int} {m : Int} {k : Nat} {x : Int} (h : l[k]? = some x) : (mixN l m k).set k (bits .xor .u8 x m) = mixN l m (k + 1) := by
  obtain ⟨hk, h2⟩ := List.getElem?_eq_some_iff.1 h
  have hl : ((maskN l m).take k).length = k := by rw [List.length_take, maskN, List.length_map]; omega
  have hm : (maskN l m).length = l.length := by simp [maskN]
  have e : (maskN l m).take (k + 1) = (maskN l m).take k ++ [bits .xor .u8 x m] := by
    rw [List.take_succ_eq_append_getElem (by omega)]
    simp [maskN, h2]
  have e2 : l.drop k = l[k] :: l.drop (k + 1) := List.drop_eq_getElem_cons hk
  unfold mixN
  rw [List.set_append_right _ _ (by omega), hl, Nat.sub_self, e2, List.set_cons_zero, e, List.append_assoc]
  rfl
theorem mixN_end {l : List Int} {m : Int} {k : Nat} (h : l.length = k) : mixN l m k = maskN l m := by
  unfold mixN
  rw [List.take_of_length_le (by rw [maskN, List.length_map]; omega), List.drop_eq_nil_of_le (by omega), List.append_nil]
theorem copied (k : ByteArray) (hk : k.size ≤ 64) : ((w8 (List.replicate 64 0)).toArray.toList.take 0 ++ Lib.byteCells k.data.toList ++ (w8 (List.replicate 64 0)).toArray.toList.drop (0 + k.size)) = w8 (padK k) := by
  have e1 : (w8 (List.replicate 64 0)).toArray.toList.drop (0 + k.size) = w8 (List.replicate (64 - k.size) 0) := by
    unfold w8
    rw [Nat.zero_add, List.map_replicate, List.map_replicate]
    exact List.drop_replicate
  rw [e1, List.take_zero, List.nil_append]
  unfold padK w8 numsOf
  rw [List.map_append, List.map_map]
  rfl
set_option maxHeartbeats 2000000 in
theorem mask_c (k : ByteArray) (hk : k.size ≤ 64) (m : Int) (h0 : 0 ≤ m) (h1 : m < 256) (w : World) :
    Calls Tryd.prog 32 #[.string k, .int .u8 m] w fun e w' => e = .returned (.string (maskB k m)) ∧ Below w.heap.size w w' := by
  have hc := Lib.run_copy_row_string (P := Tryd.prog) (w.alloc (.cells (w8 (List.replicate 64 0)).toArray 71)) 22 9 3 5 w.heap.size 0 64 64 k (w8 (List.replicate 64 0)).toArray 71 Tryd.underlying22 (by kernel_rfl) (blk_new w _) hk (by simp [w8]; omega)
  rw [copied k hk] at hc
  have HC := Lib.hid hc
  clear hc
  go_enter Tryd.func32, Tryd.ntmps32
  go_upto_region 3 with (refine wpList_copy_eqn rfl (.tmp 7) (.tmp 8) 22 9 rfl rfl rfl HC.out ?_)
  have N0 : BB ((w.alloc (.cells (w8 (List.replicate 64 0)).toArray 71)).setRow w.heap.size (w8 (padK k)).toArray) w.heap.size 71 (padK k) := setRow_heap' rfl (blk_new w (.cells (w8 (List.replicate 64 0)).toArray 71))
  have B0 : Below w.heap.size w ((w.alloc (.cells (w8 (List.replicate 64 0)).toArray 71)).setRow w.heap.size (w8 (padK k)).toArray) := below_setRow' (below_new w (.cells (w8 (List.replicate 64 0)).toArray 71)) (Nat.le_refl _) rfl
  generalize (w.alloc (.cells (w8 (List.replicate 64 0)).toArray 71)).setRow w.heap.size (w8 (padK k)).toArray = W0 at N0 B0 ⊢
  have hl := padK_length hk
  have HM := Lib.hid (show maskB k m = strOfNums (maskN (padK k) m) from rfl)
  generalize padK k = l at N0 hl HM
  clear HC
  go_wp2_with fail
  go_loopw [6, 10] (fun a i wr => ∃ j : Nat, j ≤ 64 ∧ i = .int .i64 j ∧ BB wr w.heap.size 71 (mixN l m j) ∧ Below w.heap.size w wr) (fun _ i _ => 64 - (intOf i).toNat)
  case atStart => exact ⟨0, by omega, rfl, by simpa [mixN] using N0, B0⟩
  case round =>
    clear N0 B0
    obtain ⟨j, hj, rfl, N, B⟩ := hrel
    by_cases hlt : j < 64
    · have hlt' : (j : Int) < 64 := by omega
      obtain ⟨x, hx⟩ : ∃ x, l[j]? = some x := ⟨_, List.getElem?_eq_getElem (by omega)⟩
      have cx := N.cell (mixN_at (m := m) hx)
      have f0 := BB.thaw N j
      have HX := Lib.hid hx
      clear hx
      go_wp2_with fail
      go_roundw
      case rel => exact ⟨j + 1, by omega, by go_num, by rw [← mixN_set HX.out]; exact N.set j _, B.setCell (p := ⟨w.heap.size, j, none⟩) (Nat.le_refl _) _⟩
      case measure => simp [intOf]; omega
    · have hj64 : j = 64 := by omega
      have hlt' : ¬ (j : Int) < 64 := by omega
      subst hj64
      rw [mixN_end hl] at N
      have hml : (maskN l m).length = 64 := by rw [maskN, List.length_map, hl]
      have hcv := run_convert_bytes_arg (P := Tryd.prog) wr 22 5 Tryd.underlying22 Tryd.underlying5 w.heap.size 0 64 64 (maskN l m) hml (fun i hi => by
        rw [Nat.zero_add]
        refine N.cell ?_
        rw [List.getD_eq_getElem?_getD, List.getElem?_eq_getElem (by omega)]
        rfl) 9 Tryd.underlying9
      rw [← HM.out] at hcv
      clear hml hlt
      go_wp2_with fail
      go_returns
      exact ⟨rfl, B⟩
/-- A text's tag, where neither is too long. -/
def hmacV (k t : ByteArray) : ByteArray := if 1000 < k.size ∨ 1000 < t.size then ⟨#[]⟩ else hmacB k t
set_option maxHeartbeats 2000000 in
theorem hmac_impl (k t : ByteArray) (w : World) (hT : ShaW w) :
    Calls Tryd.prog 17 #[.string k, .string t] w fun e w' => e = .returned (.string (hmacV k t)) ∧ Below w.heap.size w w' := by
  by_cases h : 1000 < k.size ∨ 1000 < t.size
  · rw [show hmacV k t = ⟨#[]⟩ from if_pos h]
    by_cases h1 : 1000 < k.size
    · have d1 : decide ((1000 : Int) < (k.size : Int)) = true := decide_eq_true (by omega)
      clear h h1
      go_enter Tryd.func17, Tryd.ntmps17
      go_wp2_with fail
      go_returns
      exact ⟨rfl, Below.refl _ _⟩
    · have d1 : decide ((1000 : Int) < (k.size : Int)) = false := decide_eq_false (by omega)
      have d2 : decide ((1000 : Int) < (t.size : Int)) = true := decide_eq_true (by omega)
      clear h h1
      go_enter Tryd.func17, Tryd.ntmps17
      go_wp2_with fail
      go_returns
      exact ⟨rfl, Below.refl _ _⟩
  · have d1 : decide ((1000 : Int) < (k.size : Int)) = false := decide_eq_false (by omega)
    have d2 : decide ((1000 : Int) < (t.size : Int)) = false := decide_eq_false (by omega)
    have ht : t.size ≤ 1000 := by omega
    have hk1 : k.size ≤ 1000 := by omega
    rw [show hmacV k t = hmacB k t from if_neg h]
    have HR := Lib.hid (show hmacB k t = shaB (maskB (keyV k) 92 ++ shaB (maskB (keyV k) 54 ++ t)) from rfl)
    have hks := keyV_size k
    have HM1 := Lib.hid (fun w => mask_c (keyV k) hks 54 (by omega) (by omega) w)
    have HM2 := Lib.hid (fun w => mask_c (keyV k) hks 92 (by omega) (by omega) w)
    have m1 := maskB_size hks 54
    have m2 := maskB_size hks 92
    obtain ⟨M1, hM1⟩ : ∃ M, maskB (keyV k) 54 = M := ⟨_, rfl⟩
    obtain ⟨M2, hM2⟩ : ∃ M, maskB (keyV k) 92 = M := ⟨_, rfl⟩
    rw [hM1] at HM1 HR m1
    rw [hM2] at HM2 HR m2
    clear hM1 hM2 hks
    have s1 : (M1 ++ t).size = 64 + t.size := by rw [ByteArray.size_append, m1]
    have HD1 := Lib.hid (fun w hT => digest_c (M1 ++ t) (by omega) w hT)
    have hi := shaB_size (M1 ++ t)
    obtain ⟨I1, hI1⟩ : ∃ I, shaB (M1 ++ t) = I := ⟨_, rfl⟩
    rw [hI1] at HD1 HR hi
    have s2 : (M2 ++ I1).size = 96 := by rw [ByteArray.size_append, m2, hi]
    have HD2 := Lib.hid (fun w hT => digest_c (M2 ++ I1) (by omega) w hT)
    obtain ⟨R, hR⟩ : ∃ R, shaB (M2 ++ I1) = R := ⟨_, rfl⟩
    rw [hR] at HD2 HR
    rw [HR.out]
    clear hI1 hR h
    by_cases h64 : 64 < k.size
    · have d3 : decide ((64 : Int) < (k.size : Int)) = true := decide_eq_true (by omega)
      have h64i : (64 : Int) < (k.size : Int) := by omega
      have HK := Lib.hid (fun w hT => digest_c k (by omega) w hT)
      have hkv : keyV k = shaB k := if_pos h64
      rw [hkv] at HM1 HM2
      obtain ⟨q, hq⟩ : ∃ q, shaB k = q := ⟨_, rfl⟩
      rw [hq] at HK HM1 HM2
      clear hq hkv h64
      go_enter Tryd.func17, Tryd.ntmps17
      go_wp2_with fail
      refine (HK.out _ hT).mono ?_
      rintro e w0 ⟨rfl, hb0⟩
      go_wp2_with fail
      refine (HM1.out _).mono ?_
      rintro e w1 ⟨rfl, hb1⟩
      have B1 := grow_next hb0 hb1
      go_wp2_with fail
      refine (HD1.out _ (hT.next B1)).mono ?_
      rintro e w2 ⟨rfl, hb2⟩
      have B2 := grow_next B1 hb2
      go_wp2_with fail
      refine (HM2.out _).mono ?_
      rintro e w3 ⟨rfl, hb3⟩
      have B3 := grow_next B2 hb3
      go_wp2_with fail
      refine (HD2.out _ (hT.next B3)).mono ?_
      rintro e w4 ⟨rfl, hb4⟩
      go_wp2_with fail
      go_returns
      exact ⟨rfl, grow_next B3 hb4⟩
    · have d3 : decide ((64 : Int) < (k.size : Int)) = false := decide_eq_false (by omega)
      have h64i : ¬ (64 : Int) < (k.size : Int) := by omega
      have hkv : keyV k = k := if_neg h64
      rw [hkv] at HM1 HM2
      clear hkv h64
      go_enter Tryd.func17, Tryd.ntmps17
      go_wp2_with fail
      refine (HM1.out _).mono ?_
      rintro e w1 ⟨rfl, B1⟩
      go_wp2_with fail
      refine (HD1.out _ (hT.next B1)).mono ?_
      rintro e w2 ⟨rfl, hb2⟩
      have B2 := grow_next B1 hb2
      go_wp2_with fail
      refine (HM2.out _).mono ?_
      rintro e w3 ⟨rfl, hb3⟩
      have B3 := grow_next B2 hb3
      go_wp2_with fail
      refine (HD2.out _ (hT.next B3)).mono ?_
      rintro e w4 ⟨rfl, hb4⟩
      go_wp2_with fail
      go_returns
      exact ⟨rfl, grow_next B3 hb4⟩
end Go.Proofs.YteecemjbkpkpaaaDoor
