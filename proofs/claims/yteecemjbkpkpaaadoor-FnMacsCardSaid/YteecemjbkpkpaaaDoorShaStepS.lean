/- SHA-256: a state behind a block: the reference's way. -/
import Derived.Test.YteecemjbkpkpaaaDoorShaRow
import Derived.Test.YteecemjbkpkpaaaDoorShaK
import Derived.Test.YteecemjbkpkpaaaDoorShaBehind
import Derived.Test.YteecemjbkpkpaaaDoorShaSpread
import Derived.Deep.Cut
import Derived.Lib.QuietBelow
import Derived.Test.YteecemjbkpkpaaaDoorShaFill
namespace Go.Proofs.YteecemjbkpkpaaaDoor
open Go.ChangeShapes Go.WideShapes Go.ChangeAt Go.RowKit Go.Sort
set_option linter.unusedVariables false
set_option linter.unusedSimpArgs false
set_option maxRecDepth 100000

theorem row32 {base : Nat} {w : World} {o : Value} {l : List Int} {n : Nat} (hn : l.length = n) (hp : 0 < n) (h : w.ownsRow base 65 1 o n (l.map (Value.int .u32))) : ∃ g cap, o = .slice (some ⟨g, 0, none⟩) n cap ∧ base ≤ g ∧ g < w.heap.size ∧ ∀ (j : Nat) x, l[j]? = some x → w.cell? ⟨g, j, none⟩ = some (.int .u32 x) := by
  rcases id h.2 with ⟨_, h0⟩ | ⟨g, cap, cur, rfl, hb, hg, _⟩
  · omega
  · refine ⟨g, cap, rfl, hb, (Array.getElem?_eq_some_iff.1 hg).1, fun j x hx => ?_⟩
    have hj := (List.getElem?_eq_some_iff.1 hx).1
    rw [World.ownsRow.cellAt h j (by omega), List.getElem?_map, hx]
    rfl
theorem b8_list (d : W8) : (bytes8 d).data.toList = (put4 d.a).data.toList ++ ((put4 d.b).data.toList ++ ((put4 d.c).data.toList ++ ((put4 d.d).data.toList ++ ((put4 d.e).data.toList ++ ((put4 d.f).data.toList ++ ((put4 d.g).data.toList ++ (put4 d.h).data.toList)))))) := by
  simp [bytes8, ByteArray.data_append, List.append_assoc]
theorem b8_part (d : W8) (i : Nat) (x : Int) (h : ((bytes8 d).data.toList.drop (4 * i)).take 4 = (put4 x).data.toList) : (bytes8 d).extract (4 * i) (4 * i + 4) = put4 x := by
  apply ByteArray.ext
  apply Array.toList_inj.1
  rw [← h, ByteArray.data_extract, Array.toList_extract]
  simp [List.extract]
theorem words_bytes8 (d : W8) (h : d.ok) : wordsB (bytes8 d) 8 = d.list := by
  have e : wordsB (bytes8 d) 8 = [getB ((bytes8 d).extract (4 * 0) (4 * 0 + 4)), getB ((bytes8 d).extract (4 * 1) (4 * 1 + 4)), getB ((bytes8 d).extract (4 * 2) (4 * 2 + 4)), getB ((bytes8 d).extract (4 * 3) (4 * 3 + 4)), getB ((bytes8 d).extract (4 * 4) (4 * 4 + 4)), getB ((bytes8 d).extract (4 * 5) (4 * 5 + 4)), getB ((bytes8 d).extract (4 * 6) (4 * 6 + 4)), getB ((bytes8 d).extract (4 * 7) (4 * 7 + 4))] := rfl
  rw [e, b8_part d 0 d.a (by rw [b8_list]; rfl), b8_part d 1 d.b (by rw [b8_list]; rfl), b8_part d 2 d.c (by rw [b8_list]; rfl), b8_part d 3 d.d (by rw [b8_list]; rfl), b8_part d 4 d.e (by rw [b8_list]; rfl), b8_part d 5 d.f (by rw [b8_list]; rfl), b8_part d 6 d.g (by rw [b8_list]; rfl), b8_part d 7 d.h (by rw [b8_list]; rfl)]
  rw [getB_put4 _ h.a, getB_put4 _ h.b, getB_put4 _ h.c, getB_put4 _ h.d, getB_put4 _ h.e, getB_put4 _ h.f, getB_put4 _ h.g, getB_put4 _ h.h]
  rfl
def zeroV : W8 := ⟨0, 0, 0, 0, 0, 0, 0, 0⟩
/-- The bytes of the first few words, as numbers. -/
def numsK (d : W8) (k : Nat) : List Int := (d.list.take k).flatMap nums4
theorem numsK_succ {d : W8} {k : Nat} {x : Int} (h : d.list[k]? = some x) : numsK d (k + 1) = numsK d k ++ nums4 x := by
  obtain ⟨h1, h2⟩ := List.getElem?_eq_some_iff.1 h
  unfold numsK
  rw [List.take_succ_eq_append_getElem h1, List.flatMap_append, h2]
  simp
theorem numsK_end (d : W8) : strOfNums (numsK d 8) = bytes8 d := by
  have e : numsK d 8 = nums4 d.a ++ nums4 d.b ++ nums4 d.c ++ nums4 d.d ++ nums4 d.e ++ nums4 d.f ++ nums4 d.g ++ nums4 d.h := by
    simp [numsK, W8.list]
  rw [e]
  simp only [strOf_append]
  rfl
theorem cell_fourS (w : World) (a b c d : Value) (t : TypeId) : ∀ j u, [a, b, c, d][j]? = some u → (w.alloc (.cells #[a, b, c, d] t)).cell? ((⟨w.heap.size, 0, none⟩ : Addr).add j) = some u := by
  intro j z hz
  match j, hz with
  | 0, hz => simp at hz; subst hz; simp [Addr.add]
  | 1, hz => simp at hz; subst hz; simp [Addr.add]
  | 2, hz => simp at hz; subst hz; simp [Addr.add]
  | 3, hz => simp at hz; subst hz; simp [Addr.add]
theorem size64' : (Tryd.prog.info? 69).map (·.size) = some (w32 zeros64).toArray.size := size64 rfl
theorem info8S : (Tryd.prog.info? 66).map (·.size) = some (w32 zeros8).toArray.size := by kernel_rfl
set_option maxHeartbeats 4000000 in
theorem step_s (d : W8) (hd : d.ok) (s : ByteArray) (hs : s.size = 64) (w : World) :
    Calls Tryd.prog 66 #[.string (bytes8 d), .string s] w fun e w' => e = .returned (.string (bytes8 (stepV d s))) ∧ Below w.heap.size w w' := by
  obtain ⟨i0, hi0, hz0, hz1, hz2⟩ := info_partsT infoByteN
  have HI0 := Lib.hid hi0
  have HZ0 := Lib.hid hz0
  have HZ1 := Lib.hid hz1
  have HZ2 := Lib.hid hz2
  clear hi0 hz0 hz1 hz2
  have HB1 := Lib.hid (fun w => be_c (bytes8 d) 8 (by omega) (bytes8_size d) w)
  rw [words_bytes8 d hd] at HB1
  have HB2 := Lib.hid (fun w => show Calls Tryd.prog 70 #[.string s] w fun e w' => ∃ o, e = .returned o ∧ w'.ownsRow w.heap.size 65 1 o 16 ((blockM s).map (Value.int .u32)) ∧ Below w.heap.size w w' from be_c s 16 (by omega) hs w)
  have HR := Lib.hid (show stepV d s = addV (rndV d (wsV (blockM s) 64) 64) d from rfl)
  obtain ⟨m, hm⟩ : ∃ m, blockM s = m := ⟨_, rfl⟩
  have hml := blockM_length s
  have H32 := Lib.hid (blockM_32 s)
  rw [hm] at HB2 HR hml H32
  obtain ⟨z, hz⟩ : ∃ z, bytes8 d = z := ⟨_, rfl⟩
  rw [hz] at HB1 ⊢
  clear hm hs hz
  go_enter Tryd.func66, Tryd.ntmps66
  go_wp2_with fail
  refine (HB1.out _).mono ?_
  rintro e w1 ⟨o1, rfl, hr1, hb1⟩
  go_wp2_with fail
  refine (HB2.out _).mono ?_
  rintro e w2 ⟨o2, rfl, hr2, hb2⟩
  obtain ⟨g1, c1, rfl, hg1, hl1, hc1⟩ := row32 (list8 d) (by omega) hr1
  obtain ⟨g2, c2, rfl, hg2, hl2, hc2⟩ := row32 hml (by omega) hr2
  have hh1 : ∀ (j : Nat) x, d.list[j]? = some x → w2.cell? ⟨g1, j, none⟩ = some (.int .u32 x) := fun j x hx => (hb2.cell (p := ⟨g1, j, none⟩) hl1).trans (hc1 j x hx)
  have hl1' : g1 < w2.heap.size := by have := hb2.size; omega
  have B2 := grow_next hb1 hb2
  have HC1 := Lib.hid hh1
  have HC2 := Lib.hid hc2
  clear hr1 hr2 hb1 hb2 hc1 hc2 hh1 hl1 HB1 HB2
  go_upto_region 4 with (refine wpList_store_row rfl 69 (.tmp 7) (.tmp 30) rfl w2.heap.size 69 (w32 zeros64).toArray (w32 zeros64).toArray rfl rfl (WB.new w2 69 zeros64) size64' rfl (w32_one _) ?_; intro W0 hW0)
  have Q0 : Sched W0 w2.heap.size m 0 := by
    have := WB.row (WB.new w2 69 zeros64) hW0.out
    simpa [Sched, wsV, zeros64] using this
  have G0 : Below w2.heap.size w2 W0 := below_setRow' (below_new w2 (.cells (w32 zeros64).toArray 69)) (Nat.le_refl _) hW0.out
  clear hW0
  go_wp2_with fail
  rw [z64]
  generalize (w32 zeros64).toArray = ZZ
  go_loopw [8, 9, 10, 11, 12] (fun i a b c e wr => ∃ k : Nat, k ≤ 64 ∧ i = .int .i64 k ∧ Sched wr w2.heap.size m k ∧ Below w2.heap.size w2 wr) (fun i _ _ _ _ _ => 64 - (intOf i).toNat)
  case atStart => exact ⟨0, by omega, rfl, Q0, G0⟩
  case round =>
    obtain ⟨k, hk, rfl, Q, B⟩ := hrel
    clear Q0 G0
    by_cases hlt : k < 64
    · have c0 := Q.zero hlt
      have f0 : wr.frozen? ⟨w2.heap.size, k, none⟩ = false := WB.thaw Q k
      have hlt' : (k : Int) < 64 := by omega
      by_cases h16 : k < 16
      · have h16' : (k : Int) < 16 := by omega
        have hN := wsV_first (m := m) h16
        obtain ⟨x, hx⟩ : ∃ x, m[k]? = some x := ⟨_, List.getElem?_eq_getElem (by omega)⟩
        have cx := (B.cell (p := ⟨g2, k, none⟩) hl2).trans (HC2.out k x hx)
        rw [List.getD_eq_getElem?_getD, hx] at hN
        have HN := Lib.hid (show wsV m (k + 1) = wsV m k ++ [x] from hN)
        clear hN hx
        go_wp2_with fail
        go_roundw
        case rel => exact ⟨k + 1, by omega, by go_num, Q.step hlt HN.out, B.setCell (p := ⟨w2.heap.size, k, none⟩) (Nat.le_refl _) _⟩
        case measure => simp [intOf]; omega
      · have h16' : ¬ (k : Int) < 16 := by omega
        have x2 := Q.pre (j := k - 2) (by omega)
        have x15 := Q.pre (j := k - 15) (by omega)
        have x7 := Q.pre (j := k - 7) (by omega)
        have x16 := Q.pre (j := k - 16) (by omega)
        have hN := wsV_later (m := m) h16
        have hL := wsV_length m k
        have h32 := all32_getD (wsV_32 H32.out k)
        have u2 := h32 (k - 2)
        have u15 := h32 (k - 15)
        unfold newW at hN
        rw [hL] at hN
        generalize (wsV m k).getD (k - 2) 0 = y2 at x2 hN u2
        generalize (wsV m k).getD (k - 15) 0 = y15 at x15 hN u15
        generalize (wsV m k).getD (k - 7) 0 = y7 at x7 hN
        generalize (wsV m k).getD (k - 16) 0 = y16 at x16 hN
        have HN := Lib.hid hN
        have T17 := Lib.hid (fun w => rot17_s y2 u2 w)
        have T19 := Lib.hid (fun w => rot19_s y2 u2 w)
        have T7 := Lib.hid (fun w => rot7_s y15 u15 w)
        have T18 := Lib.hid (fun w => rot18_s y15 u15 w)
        clear hN hL h32 u2 u15
        have i2 : (k : Int) - 2 = ((k - 2 : Nat) : Int) := by omega
        have i15 : (k : Int) - 15 = ((k - 15 : Nat) : Int) := by omega
        have i7 : IntKind.i64.wrap ((k : Int) - 7) = ((k - 7 : Nat) : Int) := by rw [IntWalk.i64_in _ (by omega)]; omega
        have i16 : IntKind.i64.wrap ((k : Int) - 16) = ((k - 16 : Nat) : Int) := by rw [IntWalk.i64_in _ (by omega)]; omega
        have l2 : ((k - 2 : Nat) : Int) < 64 := by omega
        have l15 : ((k - 15 : Nat) : Int) < 64 := by omega
        have l7 : ((k - 7 : Nat) : Int) < 64 := by omega
        have l16 : ((k - 16 : Nat) : Int) < 64 := by omega
        have l0 : 16 ≤ k := by omega
        go_wp2_with fail
        refine (T7.out _).mono ?_
        rintro e w3 ⟨rfl, rfl⟩
        go_wp2_with fail
        refine (T18.out _).mono ?_
        rintro e w3 ⟨rfl, rfl⟩
        go_wp2_with fail
        refine (T17.out _).mono ?_
        rintro e w3 ⟨rfl, rfl⟩
        go_wp2_with fail
        refine (T19.out _).mono ?_
        rintro e w3 ⟨rfl, rfl⟩
        go_wp2_with fail
        obtain ⟨z5, hz5⟩ : ∃ z, bits .xor .u32 (bits .xor .u32 (rotV 32768 131072 y2) (rotV 8192 524288 y2)) (y2 / 1024) = z := ⟨_, rfl⟩
        obtain ⟨z6, hz6⟩ : ∃ z, bits .xor .u32 (bits .xor .u32 (rotV 33554432 128 y15) (rotV 16384 262144 y15)) (y15 / 8) = z := ⟨_, rfl⟩
        rw [hz5, hz6]
        have HN2 := Lib.hid (show wsV m (k + 1) = wsV m k ++ [IntKind.u32.wrap (IntKind.u32.wrap (IntKind.u32.wrap (y16 + z6) + y7) + z5)] by
          rw [HN.out, ← hz5, ← hz6]
          simp only [IntKind.wrap_u32', sg0, sg1])
        clear hz5 hz6 x2 x15 T17 T19 T7 T18 i2 i15 l2 l15 HN
        refine wp_region_any (by kernel_rfl) ?_
        try (change wpAny _ _ _ _ _ _ _ (World.drew _))
        (refine wpAny_take (i := 0) (v := ?_) rfl (by kernel_rfl) (by kernel_rfl) (by kernel_rfl) (fun _ _ _ h => h) (Or.inl ⟨by rfl, ?_⟩) ?_; rotate_left 1; focus (intro w; go_simp; try with_reducible rfl))
        (refine wpAny_take (i := 1) (v := ?_) rfl (by kernel_rfl) (by kernel_rfl) (by kernel_rfl) (fun _ _ _ h => h) (Or.inl ⟨by rfl, ?_⟩) ?_; rotate_left 1; focus (intro w; go_simp; try with_reducible rfl))
        (refine wpAny_take (i := 2) (v := ?_) rfl (by kernel_rfl) (by kernel_rfl) (by kernel_rfl) (fun _ _ _ h => h) (Or.inl ⟨by rfl, ?_⟩) ?_; rotate_left 1; focus (intro w; go_simp; try with_reducible rfl))
        (refine wpAny_take (i := 3) (v := ?_) rfl (by kernel_rfl) (by kernel_rfl) (by kernel_rfl) (fun _ _ _ h => h) (Or.inl ⟨by rfl, ?_⟩) ?_; rotate_left 1; focus (intro w; go_simp; try with_reducible rfl))
        (refine wpAny_take (i := 5) (v := ?_) rfl (by kernel_rfl) (by kernel_rfl) (by kernel_rfl) (fun _ _ _ h => h) (Or.inl ⟨by rfl, ?_⟩) ?_; rotate_left 1; focus (intro w; go_simp; try with_reducible rfl))
        (refine wpAny_take (i := 7) (v := ?_) rfl (by kernel_rfl) (by kernel_rfl) (by kernel_rfl) (fun _ _ _ h => h) (Or.inl ⟨by rfl, ?_⟩) ?_; rotate_left 1; focus (intro w; go_simp; try with_reducible rfl))
        (refine wpAny_take (i := 8) (v := ?_) rfl (by kernel_rfl) (by kernel_rfl) (by kernel_rfl) (fun _ _ _ h => h) (Or.inl ⟨by rfl, ?_⟩) ?_; rotate_left 1; focus (intro w; go_simp; try with_reducible rfl))
        (refine wpAny_take (i := 9) (v := ?_) rfl (by kernel_rfl) (by kernel_rfl) (by kernel_rfl) (fun _ _ _ h => h) (Or.inl ⟨by rfl, ?_⟩) ?_; rotate_left 1; focus (intro w; go_simp; try with_reducible rfl))
        (refine wpAny_take (i := 12) (v := ?_) rfl (by kernel_rfl) (by kernel_rfl) (by kernel_rfl) (fun _ _ _ h => h) (Or.inl ⟨by rfl, ?_⟩) ?_; rotate_left 1; focus (intro w; go_simp; try with_reducible rfl))
        refine wpAny_ready (rs := [4, 10]) (by kernel_rfl) (by simp) ?_
        refine AllReady.cons rfl (fun K hK => ?_) (AllReady.cons rfl (fun K hK => ?_) AllReady.nil)
        · go_simp
          refine hK _ _ ?_
          clear hK K
          (refine wpAny_take (i := 6) (v := ?_) rfl (by kernel_rfl) (by kernel_rfl) (by kernel_rfl) (fun _ _ _ h => h) (Or.inl ⟨by rfl, ?_⟩) ?_; rotate_left 1; focus (intro w; go_simp; try with_reducible rfl))
          (refine wpAny_ready (rs := [10]) (by kernel_rfl) (by simp) ?_; refine AllReady.cons rfl (fun K hK => ?_) AllReady.nil; go_simp; refine hK _ _ ?_; clear hK K)
          (refine wpAny_take (i := 11) (v := ?_) rfl (by kernel_rfl) (by kernel_rfl) (by kernel_rfl) (fun _ _ _ h => h) (Or.inl ⟨by rfl, ?_⟩) ?_; rotate_left 1; focus (intro w; go_simp; try with_reducible rfl))
          (refine wpAny_take (i := 13) (v := ?_) rfl (by kernel_rfl) (by kernel_rfl) (by kernel_rfl) (fun _ _ _ h => h) (Or.inl ⟨by rfl, ?_⟩) ?_; rotate_left 1; focus (intro w; go_simp; try with_reducible rfl))
          (refine wpAny_take (i := 14) (v := ?_) rfl (by kernel_rfl) (by kernel_rfl) (by kernel_rfl) (fun _ _ _ h => h) (Or.inl ⟨by rfl, ?_⟩) ?_; rotate_left 1; focus (intro w; go_simp; try with_reducible rfl))
          (refine wpAny_ready (rs := [15]) (by kernel_rfl) (by simp) ?_; refine AllReady.cons rfl (fun K hK => ?_) AllReady.nil; go_simp; refine hK _ _ ?_; clear hK K)
          refine wpAny_done (by kernel_rfl) ?_ _
          go_wp2_with fail
          go_roundw
          case rel => exact ⟨k + 1, by omega, by go_num, Sched.step (W := wr.drew) Q hlt HN2.out, (below_drewR B).setCell (p := ⟨w2.heap.size, k, none⟩) (Nat.le_refl _) _⟩
          case measure => simp [intOf]; omega
        · go_simp
          refine hK _ _ ?_
          clear hK K
          (refine wpAny_ready (rs := [4]) (by kernel_rfl) (by simp) ?_; refine AllReady.cons rfl (fun K hK => ?_) AllReady.nil; go_simp; refine hK _ _ ?_; clear hK K)
          (refine wpAny_take (i := 6) (v := ?_) rfl (by kernel_rfl) (by kernel_rfl) (by kernel_rfl) (fun _ _ _ h => h) (Or.inl ⟨by rfl, ?_⟩) ?_; rotate_left 1; focus (intro w; go_simp; try with_reducible rfl))
          (refine wpAny_take (i := 11) (v := ?_) rfl (by kernel_rfl) (by kernel_rfl) (by kernel_rfl) (fun _ _ _ h => h) (Or.inl ⟨by rfl, ?_⟩) ?_; rotate_left 1; focus (intro w; go_simp; try with_reducible rfl))
          (refine wpAny_take (i := 13) (v := ?_) rfl (by kernel_rfl) (by kernel_rfl) (by kernel_rfl) (fun _ _ _ h => h) (Or.inl ⟨by rfl, ?_⟩) ?_; rotate_left 1; focus (intro w; go_simp; try with_reducible rfl))
          (refine wpAny_take (i := 14) (v := ?_) rfl (by kernel_rfl) (by kernel_rfl) (by kernel_rfl) (fun _ _ _ h => h) (Or.inl ⟨by rfl, ?_⟩) ?_; rotate_left 1; focus (intro w; go_simp; try with_reducible rfl))
          (refine wpAny_ready (rs := [15]) (by kernel_rfl) (by simp) ?_; refine AllReady.cons rfl (fun K hK => ?_) AllReady.nil; go_simp; refine hK _ _ ?_; clear hK K)
          refine wpAny_done (by kernel_rfl) ?_ _
          go_wp2_with fail
          go_roundw
          case rel => exact ⟨k + 1, by omega, by go_num, Sched.step (W := wr.drew) Q hlt HN2.out, (below_drewR B).setCell (p := ⟨w2.heap.size, k, none⟩) (Nat.le_refl _) _⟩
          case measure => simp [intOf]; omega
    · have hk64 : k = 64 := by omega
      have hlt' : ¬ (k : Int) < 64 := by omega
      have Q9 : WB wr w2.heap.size 69 (wsV m 64) := by
        have := Q
        unfold Sched at this
        rw [hk64] at this
        simpa using this
      have hwl := wsV_length m 64
      have hb2 : w2.heap.size < wr.heap.size := WB.lt Q9
      obtain ⟨ws, hws⟩ : ∃ ws, wsV m 64 = ws := ⟨_, rfl⟩
      rw [hws] at Q9 hwl
      have HR2 := Lib.hid (show stepV d s = addV (rndV d ws 64) d by rw [HR.out, hws])
      have B3 : Below w.heap.size w wr := grow_next B2 B
      have hh1 : ∀ (j : Nat) x, d.list[j]? = some x → wr.cell? ⟨g1, j, none⟩ = some (.int .u32 x) := fun j x hx => (B.cell (p := ⟨g1, j, none⟩) hl1').trans (HC1.out j x hx)
      have hg1r : g1 < wr.heap.size := by omega
      clear hws Q HR H32 HC1 HC2 hl2 hml B hlt
      have HC1 := Lib.hid hh1
      clear hh1
      obtain ⟨U0, hU⟩ : ∃ U, U = wr := ⟨_, rfl⟩
      subst hU
      go_upto_region 15 with (refine wpList_store_row rfl 66 (.tmp 13) (.tmp 82) rfl U0.heap.size 66 (w32 zeros8).toArray (w32 zeros8).toArray rfl rfl (WB.new U0 66 zeros8) info8S rfl (w32_one _) ?_; intro W3 hW3)
      have N0 := WB.row (WB.new U0 66 zeros8) hW3.out
      have G3 : Below U0.heap.size U0 W3 := below_setRow' (below_new U0 (.cells (w32 zeros8).toArray 66)) (Nat.le_refl _) hW3.out
      clear hW3
      have hbc : w2.heap.size ≠ U0.heap.size := by omega
      go_wp2_with fail
      go_loopw [14] (fun i wq => ∃ k : Nat, k ≤ 8 ∧ i = .int .i64 k ∧ WB wq U0.heap.size 66 (mixL zeroV d k) ∧ Below U0.heap.size U0 wq) (fun i _ => 8 - (intOf i).toNat)
      case atStart => exact ⟨0, by omega, rfl, N0, G3⟩
      case round =>
        clear N0 G3
        obtain ⟨k, hk, rfl, N, G⟩ := hrel
        by_cases hlt : k < 8
        · have hlt' : (k : Int) < 8 := by omega
          obtain ⟨x, hx⟩ := get8 d hlt
          have cx := (G.cell (p := ⟨g1, k, none⟩) hg1r).trans (HC1.out k x hx)
          have f0 := WB.thaw N k
          obtain ⟨y, hy⟩ := get8 zeroV hlt
          have cz := N.cell (mixL_at hy)
          have HX := Lib.hid hx
          clear hx hy
          go_wp2_with fail
          go_roundw
          case rel => exact ⟨k + 1, by omega, by go_num, by rw [← mixL_set HX.out]; exact N.set k x, G.setCell (p := ⟨U0.heap.size, k, none⟩) (Nat.le_refl _) _⟩
          case measure => simp [intOf]; omega
        · have hk8 : k = 8 := by omega
          have hlt' : ¬ (k : Int) < 8 := by omega
          subst hk8
          rw [mixL_end] at N
          go_wp2_with fail
          go_loopw [15, 16, 17, 18, 19, 20, 21, 22] (fun i a b c e f g h wp => ∃ k : Nat, k ≤ 64 ∧ i = .int .i64 k ∧ WB wp U0.heap.size 66 (rndV d ws k).list ∧ Below U0.heap.size U0 wp) (fun i _ _ _ _ _ _ _ _ => 64 - (intOf i).toNat)
          case atStart => exact ⟨0, by omega, rfl, N, G⟩
          case round =>
            clear N G
            obtain ⟨k, hk, rfl, N, G⟩ := hrel
            by_cases hl64 : k < 64
            · have hl64' : (k : Int) < 64 := by omega
              obtain ⟨x, hx⟩ : ∃ x, ws[k]? = some x := ⟨_, List.getElem?_eq_getElem (by omega)⟩
              have cw := (G.cell (p := ⟨w2.heap.size, k, none⟩) hb2).trans (Q9.cell hx)
              have hN : rndV d ws (k + 1) = nextV (rndV d ws k) ((x + kL.getD k 0) % 4294967296) := by
                show nextV (rndV d ws k) ((ws.getD k 0 + kL.getD k 0) % 4294967296) = _
                rw [List.getD_eq_getElem?_getD, hx]
                rfl
              have hok := rndV_ok hd ws k
              generalize rndV d ws k = e at N hN hok
              obtain ⟨y, hy⟩ : ∃ y, kL.getD k 0 = y := ⟨_, rfl⟩
              have HK := Lib.hid (fun w => k_s k hl64 w)
              rw [hy] at hN HK
              have HN := Lib.hid hN
              have T6 := Lib.hid (fun w => rot6_s e.e hok.e w)
              have T11 := Lib.hid (fun w => rot11_s e.e hok.e w)
              have T25 := Lib.hid (fun w => rot25_s e.e hok.e w)
              have T2 := Lib.hid (fun w => rot2_s e.a hok.a w)
              have T13 := Lib.hid (fun w => rot13_s e.a hok.a w)
              have T22 := Lib.hid (fun w => rot22_s e.a hok.a w)
              clear hx hN hok hy
              obtain ⟨x0, x1, x2, x3, x4, x5, x6, x7⟩ := WD.cells N
              go_wp2_with fail
              refine (T6.out _).mono ?_
              rintro r w3 ⟨rfl, rfl⟩
              go_wp2_with fail
              refine (T11.out _).mono ?_
              rintro r w3 ⟨rfl, rfl⟩
              go_wp2_with fail
              refine (T25.out _).mono ?_
              rintro r w3 ⟨rfl, rfl⟩
              go_wp2_with fail
              rw [show bits .xor .u32 (bits .xor .u32 (rotV 67108864 64 e.e) (rotV 2097152 2048 e.e)) (rotV 128 33554432 e.e) = bg1 e.e from rfl]
              have k5 := cell_regrown x5
              have k6 := cell_regrown x6
              have k7 := cell_regrown x7
              have kw := cell_regrown cw
              have CK := Lib.hid (fun d os => Calls.regrown_of (HK.out (grow (redrawn wr d) os)))
              refine wp_region_quiet_below (by kernel_rfl) (by kernel_rfl) ?_
              repeat ((with_reducible refine wpQuiet_step (fun K hK => ?_)); go_simp; first | ((with_reducible refine hK _ ?_); clear hK K) | (rw [if_neg (by intro h; exact nomatch h)]; (with_reducible refine hK _ ?_); clear hK K) | (apply Exists.intro; (with_reducible refine ⟨fun _ => ?_, hK _ ?_⟩); (first | with_reducible exact CK.out _ _); clear hK K))
              with_reducible refine wpQuiet_nil ?_
              intro _ hw'
              obtain ⟨⟨dq, osq⟩, hw''⟩ := hw'
              subst hw''
              have hbq := below_regrown wr dq osq
              have N2 := N.next hbq
              have G2 := grow_next G hbq
              clear k5 k6 k7 kw CK hbq cw x0 x1 x2 x3 x4 x5 x6 x7 N G HK T6 T11 T25
              generalize grow (redrawn wr dq) osq = wr at N2 G2 ⊢
              obtain ⟨x0, x1, x2, x3, x4, x5, x6, x7⟩ := WD.cells N2
              have e1 : IntKind.u32.wrap (IntKind.u32.wrap (IntKind.u32.wrap (IntKind.u32.wrap (e.h + bg1 e.e) + bits .xor .u32 (bits .and .u32 e.e e.f) (bits .and .u32 (bits .xor .u32 (if IntKind.u32.signed = true then -1 else IntKind.u32.max) e.e) e.g)) + y) + x) = lowV e ((x + y) % 4294967296) := by
                show IntKind.u32.wrap (IntKind.u32.wrap (IntKind.u32.wrap (IntKind.u32.wrap (e.h + bg1 e.e) + chV e.e e.f e.g) + y) + x) = _
                rw [← low_spec]
                simp only [IntKind.wrap_u32', Int.emod_add_emod]
              rw [e1]
              clear e1
              obtain ⟨lo, hlo⟩ : ∃ q, lowV e ((x + y) % 4294967296) = q := ⟨_, rfl⟩
              obtain ⟨hi, hhi⟩ : ∃ q, highV e = q := ⟨_, rfl⟩
              rw [hlo]
              have HL := Lib.hid (show (nextV e ((x + y) % 4294967296)).list = [(lo + hi) % 4294967296, e.a, e.b, e.c, (e.d + lo) % 4294967296, e.e, e.f, e.g] by rw [← hlo, ← hhi]; rfl)
              have HH := Lib.hid hhi
              clear hlo hhi
              go_wp2_with fail
              refine (T2.out _).mono ?_
              rintro r w3 ⟨rfl, rfl⟩
              go_wp2_with fail
              refine (T13.out _).mono ?_
              rintro r w3 ⟨rfl, rfl⟩
              go_wp2_with fail
              refine (T22.out _).mono ?_
              rintro r w3 ⟨rfl, rfl⟩
              clear T2 T13 T22
              go_upto_region 28 with fail
              rw [show (bits .xor .u32 (bits .xor .u32 (rotV 1073741824 4 e.a) (rotV 524288 8192 e.a)) (rotV 1024 4194304 e.a) + bits .xor .u32 (bits .xor .u32 (bits .and .u32 e.a e.b) (bits .and .u32 e.a e.c)) (bits .and .u32 e.b e.c)) % 4294967296 = hi from HH.out]
              have f0 := WB.thaw N2 0
              have f1 := WB.thaw N2 1
              have f2 := WB.thaw N2 2
              have f3 := WB.thaw N2 3
              have f4 := WB.thaw N2 4
              have f5 := WB.thaw N2 5
              have f6 := WB.thaw N2 6
              have f7 := WB.thaw N2 7
              go_wp2_with fail
              go_rounds 8
              go_wp2_with fail
              have N3 := WB.set (WB.set (WB.set (WB.set (WB.set (WB.set (WB.set (WB.set (WB.set N2 7 e.g) 6 e.f) 5 e.e) 4 e.d) 3 e.c) 2 e.b) 1 e.a) 4 ((e.d + lo) % 4294967296)) 0 ((lo + hi) % 4294967296)
              have HE := Lib.hid (show (rndV d ws (k + 1)).list = ((((((((e.list.set 7 e.g).set 6 e.f).set 5 e.e).set 4 e.d).set 3 e.c).set 2 e.b).set 1 e.a).set 4 ((e.d + lo) % 4294967296)).set 0 ((lo + hi) % 4294967296) by rw [HN.out, HL.out]; rfl)
              have G3 : Below U0.heap.size U0 (((((((((wr.setCell ⟨U0.heap.size, 7, none⟩ (.int .u32 e.g)).setCell ⟨U0.heap.size, 6, none⟩ (.int .u32 e.f)).setCell ⟨U0.heap.size, 5, none⟩ (.int .u32 e.e)).setCell ⟨U0.heap.size, 4, none⟩ (.int .u32 e.d)).setCell ⟨U0.heap.size, 3, none⟩ (.int .u32 e.c)).setCell ⟨U0.heap.size, 2, none⟩ (.int .u32 e.b)).setCell ⟨U0.heap.size, 1, none⟩ (.int .u32 e.a)).setCell ⟨U0.heap.size, 4, none⟩ (.int .u32 ((e.d + lo) % 4294967296))).setCell ⟨U0.heap.size, 0, none⟩ (.int .u32 ((lo + hi) % 4294967296))) := by
                have h0 := Below.setCell G2 (p := ⟨U0.heap.size, 7, none⟩) (Nat.le_refl _) (.int .u32 e.g)
                have h1 := Below.setCell h0 (p := ⟨U0.heap.size, 6, none⟩) (Nat.le_refl _) (.int .u32 e.f)
                have h2 := Below.setCell h1 (p := ⟨U0.heap.size, 5, none⟩) (Nat.le_refl _) (.int .u32 e.e)
                have h3 := Below.setCell h2 (p := ⟨U0.heap.size, 4, none⟩) (Nat.le_refl _) (.int .u32 e.d)
                have h4 := Below.setCell h3 (p := ⟨U0.heap.size, 3, none⟩) (Nat.le_refl _) (.int .u32 e.c)
                have h5 := Below.setCell h4 (p := ⟨U0.heap.size, 2, none⟩) (Nat.le_refl _) (.int .u32 e.b)
                have h6 := Below.setCell h5 (p := ⟨U0.heap.size, 1, none⟩) (Nat.le_refl _) (.int .u32 e.a)
                have h7 := Below.setCell h6 (p := ⟨U0.heap.size, 4, none⟩) (Nat.le_refl _) (.int .u32 ((e.d + lo) % 4294967296))
                have h8 := Below.setCell h7 (p := ⟨U0.heap.size, 0, none⟩) (Nat.le_refl _) (.int .u32 ((lo + hi) % 4294967296))
                exact h8
              go_roundw
              case rel => exact ⟨k + 1, by omega, by go_num, by rw [HE.out]; exact N3, G3⟩
              case measure => simp [intOf]; omega
            · have hk64 : k = 64 := by omega
              have hl64' : ¬ (k : Int) < 64 := by omega
              subst hk64
              obtain ⟨e, he⟩ : ∃ e, rndV d ws 64 = e := ⟨_, rfl⟩
              have HS := Lib.hid (show stepV d s = addV e d by rw [HR2.out, he])
              rw [he] at N
              clear he HR2 hl64 Q9 hwl hb2 hbc
              have B5 := grow_next B3 G
              have hx1 : ∀ (j : Nat) x, d.list[j]? = some x → wr.cell? ⟨g1, j, none⟩ = some (.int .u32 x) := fun j x hx => (G.cell (p := ⟨g1, j, none⟩) hg1r).trans (HC1.out j x hx)
              have hgr : g1 < wr.heap.size := by have := G.size; omega
              have hcr : U0.heap.size < wr.heap.size := WB.lt N
              have HX1 := Lib.hid hx1
              clear HC1 G B3 hx1
              obtain ⟨U1, hU⟩ : ∃ U, U = wr := ⟨_, rfl⟩
              subst hU
              go_wp2_with fail
              have hrow0 := World.ownsRow_made (base := U1.heap.size) (e := 5) (size := 1) U1 #[] 0 (Nat.le_refl _) (by simp [maxLen]) rfl
              go_loopw [23, 24, 25] (fun o i n wq => ∃ k : Nat, k ≤ 8 ∧ i = .int .i64 k ∧ wq.ownsRow U1.heap.size 5 1 o (4 * k) ((numsK (addV e d) k).map (Value.int .u8)) ∧ Below U1.heap.size U1 wq) (fun _ i _ _ => 8 - (intOf i).toNat)
              case atStart => exact ⟨0, by omega, rfl, hrow0, below_new _ _⟩
              case round =>
                clear hrow0
                obtain ⟨k, hk, rfl, hrow, G⟩ := hrel
                by_cases hl8 : k < 8
                · have hl8' : (k : Int) < 8 := by omega
                  obtain ⟨x, hx⟩ := get8 d hl8
                  obtain ⟨y, hy⟩ := get8 e hl8
                  have cx := (G.cell (p := ⟨g1, k, none⟩) hgr).trans (HX1.out k x hx)
                  have cy := (G.cell (p := ⟨U0.heap.size, k, none⟩) hcr).trans (N.cell hy)
                  have hA := addV_at hy hx
                  have hn : (y + x) % 4294967296 = IntKind.u32.wrap (x + y) := by rw [IntKind.wrap_u32', Int.add_comm]
                  rw [hn] at hA
                  have hu := u32_mod (y + x)
                  rw [hn] at hu
                  obtain ⟨v, hv⟩ : ∃ v, IntKind.u32.wrap (x + y) = v := ⟨_, rfl⟩
                  rw [hv] at hA hu
                  obtain ⟨v0, v1⟩ := hu
                  have HA := Lib.hid hA
                  clear hA hn hx hy
                  go_wp2_with fail
                  go_quiet (fail)
                  clear hv cx cy
                  have G2 : Below U1.heap.size U1 (wr.drewN nq) := grow_drew G nq
                  have r2 : (wr.drewN nq).ownsRow U1.heap.size 5 1 u23 (4 * k) ((numsK (addV e d) k).map (Value.int .u8)) := hrow
                  clear G hrow
                  generalize wr.drewN nq = wr at G2 r2 ⊢
                  have HN5 := Lib.hid (show (numsK (addV e d) (k + 1)).map (Value.int .u8) = (numsK (addV e d) k).map (Value.int .u8) ++ [.int .u8 (v / 16777216), .int .u8 (v / 65536 % 256), .int .u8 (v / 256 % 256), .int .u8 (v % 256)] by
                    rw [numsK_succ HA.out, List.map_append]
                    unfold nums4
                    rw [show v / 16777216 % 256 = v / 16777216 by omega]
                    rfl)
                  have hs2 := G2.size
                  have N4 := Lib.hid (cell_fourS wr (.int .u8 (v / 16777216)) (.int .u8 (v / 65536 % 256)) (.int .u8 (v / 256 % 256)) (.int .u8 (v % 256)) 5)
                  go_wp2_with (at_builtin; refine wpList_append_own _ rfl _ _ 22 rfl U1.heap.size 5 i0 (.int .u8 0) 1 1 Tryd.underlying22 HI0.out HZ0.out HZ1.out HZ2.out rfl (by decide) _ _ _ rfl (r2.alloc _) ⟨wr.heap.size, 0, none⟩ 4 4 [.int .u8 (v / 16777216), .int .u8 (v / 65536 % 256), .int .u8 (v / 256 % 256), .int .u8 (v % 256)] rfl rfl N4.out (by simp [Value.oneCell']) (by unfold maxLen; omega) (by omega) (by simp; omega) ?_; intro v' w4 hown' hgrow _)
                  go_roundw
                  case rel => exact ⟨k + 1, by omega, by go_num, by rw [HN5.out, show 4 * (k + 1) = 4 * k + 4 by omega]; exact hown', (G2.alloc hs2 _).grown hgrow (G2.alloc hs2 _).size (fun j hj => (r2.lt j hj).1)⟩
                  case measure => simp [intOf]; omega
                · have hk8' : k = 8 := by omega
                  have hl8' : ¬ (k : Int) < 8 := by omega
                  subst hk8'
                  have hlen : (numsK (addV e d) 8).length = 32 := by simp [numsK, W8.list, addV, nums4]
                  have hcv := convert_owned (P := Tryd.prog) (src := 22) (dst := 9) Tryd.underlying22 Tryd.underlying5 Tryd.underlying9 (ys := numsK (addV e d) 8) (by rw [hlen]; exact hrow)
                  rw [numsK_end, ← HS.out] at hcv
                  go_wp2_with fail
                  go_returns
                  exact ⟨rfl, grow_next B5 G⟩
end Go.Proofs.YteecemjbkpkpaaaDoor
