/- SHA-256 of a text: the program's way. -/
import Derived.Test.YteecemjbkpkpaaaDoorShaBehind
import Derived.Test.YteecemjbkpkpaaaDoorShaSpread
import Derived.Test.YteecemjbkpkpaaaDoorShaFill
namespace Go.Proofs.YteecemjbkpkpaaaDoor
open Go.ChangeShapes Go.WideShapes Go.ChangeAt Go.RowKit
set_option linter.unusedVariables false
set_option linter.unusedSimpArgs false
set_option maxRecDepth 100000

theorem chunk (P : ByteArray) (k : Nat) (h : 64 * k + 64 ≤ P.size) : (P.extract (64 * k) P.size).extract 0 64 = P.extract (64 * k) (64 * k + 64) := by
  rw [ByteArray.extract_extract]
  congr 1
  omega
theorem rest (P : ByteArray) (k : Nat) (h : 64 * k + 64 ≤ P.size) : (P.extract (64 * k) P.size).extract 64 (P.extract (64 * k) P.size).size = P.extract (64 * (k + 1)) P.size := by
  rw [ByteArray.extract_extract, ByteArray.size_extract]
  congr 1
  omega
theorem W8.all32 {c : W8} (h : c.ok) : ∀ x ∈ c.list, U32 x := by
  intro x hx
  simp only [W8.list, List.mem_cons, List.not_mem_nil, or_false] at hx
  rcases hx with rfl | rfl | rfl | rfl | rfl | rfl | rfl | rfl
  · exact h.a
  · exact h.b
  · exact h.c
  · exact h.d
  · exact h.e
  · exact h.f
  · exact h.g
  · exact h.h
/-- The first few words' bytes. -/
def pre8 (d : W8) (k : Nat) : ByteArray := (d.list.take k).foldl (fun s x => s ++ put4 x) ⟨#[]⟩
theorem pre8_succ {d : W8} {k : Nat} {x : Int} (h : d.list[k]? = some x) : pre8 d (k + 1) = pre8 d k ++ put4 x := by
  obtain ⟨h1, h2⟩ := List.getElem?_eq_some_iff.1 h
  unfold pre8
  rw [List.take_succ_eq_append_getElem h1, List.foldl_append, h2]
  rfl
theorem pre8_size (d : W8) {k : Nat} (h : k ≤ 8) : (pre8 d k).size = 4 * k := by
  induction k with
  | zero => rfl
  | succ k ih =>
    obtain ⟨x, hx⟩ := get8 d (show k < 8 by omega)
    rw [pre8_succ hx, ByteArray.size_append, ih (by omega), put4_sz]
    omega
theorem pre8_end (d : W8) : pre8 d 8 = bytes8 d := by
  show (⟨#[]⟩ : ByteArray) ++ put4 d.a ++ put4 d.b ++ put4 d.c ++ put4 d.d ++ put4 d.e ++ put4 d.f ++ put4 d.g ++ put4 d.h = _
  rw [show (⟨#[]⟩ : ByteArray) ++ put4 d.a = put4 d.a from ByteArray.empty_append]
  rfl
theorem index_agg8 (d : W8) {k : Nat} {x : Int} (h : d.list[k]? = some x) (W : World) : (Instr.index 67 (.agg #[.int .u32 d.a, .int .u32 d.b, .int .u32 d.c, .int .u32 d.d, .int .u32 d.e, .int .u32 d.f, .int .u32 d.g, .int .u32 d.h]) (.int .i64 (k : Int))).run Tryd.prog W = .ok (.int .u32 x) W := by
  have hk : k < 8 := (List.getElem?_eq_some_iff.1 h).1
  have hv : (#[Value.int .u32 d.a, .int .u32 d.b, .int .u32 d.c, .int .u32 d.d, .int .u32 d.e, .int .u32 d.f, .int .u32 d.g, .int .u32 d.h] : Array Value)[k]? = some (.int .u32 x) := by
    have h0 : (w32 d.list).toArray[k]? = some (.int .u32 x) := by rw [List.getElem?_toArray]; exact w32_at h
    exact h0
  simp [Instr.index, asIntOf, run_underlying Tryd.underlying67]
  rw [if_pos hk]
  exact run_part_plain (P := Tryd.prog) W (by kernel_rfl) hv
set_option maxHeartbeats 2000000 in
theorem digest_c (s : ByteArray) (hs : s.size ≤ 3000) (w : World) (hT : ShaW w) :
    Calls Tryd.prog 31 #[.string s] w fun e w' => e = .returned (.string (shaB s)) ∧ Below w.heap.size w w' := by
  have HF := Lib.hid (filled_c s hs)
  have HS := Lib.hid spread_c
  have HU := Lib.hid Tryd.underlying67
  obtain ⟨P, hP⟩ : ∃ P, padB s = P := ⟨_, rfl⟩
  have hmod := padB_mod s
  have hsz := padB_size s
  have HR := Lib.hid (show shaB s = bytes8 (runV P (P.size / 64)) by unfold shaB; rw [hP])
  rw [hP] at hmod hsz HF
  have hPs : P.size ≤ 4000 := by omega
  obtain ⟨n, hn⟩ : ∃ n, P.size = 64 * n := ⟨P.size / 64, by omega⟩
  have HN := Lib.hid hn
  clear hP hmod hsz hn
  obtain ⟨T0, fr0, D0⟩ := hT.first
  go_enter Tryd.func31, Tryd.ntmps31
  go_upto_region 2 with (first
    | refine wpList_load_row_fr rfl 67 (.global 0) rfl 0 T0 (w32 firstV.list).toArray fr0 _ rfl D0 HU.out rfl (size8 firstV) ?_
    | (refine wpList_store_row rfl 67 (.tmp 3) (.tmp 8) rfl w.heap.size 67 (w32 zeros8).toArray (w32 firstV.list).toArray rfl rfl (WB.new w 67 zeros8) (size8 firstV) rfl (w32_one _) ?_; intro W1 hW1))
  have N1 := WB.row (WB.new w 67 zeros8) hW1.out
  have B1 : Below w.heap.size w W1 := below_setRow' (below_new w (.cells (w32 zeros8).toArray 67)) (Nat.le_refl _) hW1.out
  clear hW1 D0
  go_wp2_with fail
  refine (HF.out _).mono ?_
  rintro e W2 ⟨rfl, hb2⟩
  have N2 := N1.next hb2
  have B2 := grow_next B1 hb2
  clear N1 B1 hb2 HF
  go_wp2_with fail
  go_loopw [4] (fun x wr => ∃ k : Nat, k ≤ n ∧ x = .string (P.extract (64 * k) P.size) ∧ WB wr w.heap.size 67 (runV P k).list ∧ Below w.heap.size w wr) (fun x _ => match x with | .string z => z.size | _ => 0)
  case atStart => exact ⟨0, by omega, by simp, N2, B2⟩
  case round =>
    obtain ⟨k, hk, rfl, N, B⟩ := hrel
    clear N2 B2
    have hes : (P.extract (64 * k) P.size).size = P.size - 64 * k := by rw [ByteArray.size_extract]; omega
    by_cases hlt : k < n
    · have h64 : 64 * k + 64 ≤ P.size := by have := HN.out; omega
      have hc1 := chunk P k h64
      have hc2 := rest P k h64
      have hcs : (P.extract (64 * k) (64 * k + 64)).size = 64 := by rw [ByteArray.size_extract]; omega
      have hN : runV P (k + 1) = stepV (runV P k) (P.extract (64 * k) (64 * k + 64)) := rfl
      have hok := runV_ok P k
      generalize runV P k = c at N hN hok
      obtain ⟨z, hz⟩ : ∃ z, P.extract (64 * k) P.size = z := ⟨_, rfl⟩
      rw [hz] at hes hc1 hc2 ⊢
      have HZ := Lib.hid hz
      have hzs : 64 ≤ z.size := by omega
      have hne : (z.toList == []) = false := by
        cases hq : z.toList with
        | nil =>
          rw [ByteArray.toList_eq] at hq
          have h1 : z.data.toList.length = 0 := by rw [hq]; rfl
          rw [Array.length_toList] at h1
          have h2 : z.size = 0 := h1
          omega
        | cons a l => rfl
      obtain ⟨x, hx⟩ : ∃ x, P.extract (64 * k) (64 * k + 64) = x := ⟨_, rfl⟩
      rw [hx] at hc1 hcs hN
      have HX := Lib.hid hc1
      have HY := Lib.hid hc2
      have HSP := Lib.hid (HS.out x hcs)
      obtain ⟨c1, hc⟩ : ∃ c1, addV (rndV c (wsV (blockM x) 64) 64) c = c1 := ⟨_, rfl⟩
      have HC := Lib.hid (show runV P (k + 1) = c1 by rw [hN, ← hc]; rfl)
      have hwl := wsV_length (blockM x) 64
      obtain ⟨ws, hws⟩ : ∃ ws, wsV (blockM x) 64 = ws := ⟨_, rfl⟩
      rw [hws] at HSP hc hwl
      have HB := Lib.hid (fun w hT => show Calls Tryd.prog 46 #[.agg #[.int .u32 c.a, .int .u32 c.b, .int .u32 c.c, .int .u32 c.d, .int .u32 c.e, .int .u32 c.f, .int .u32 c.g, .int .u32 c.h], .agg (w32 ws).toArray] w fun r w' => r = .returned (.agg #[.int .u32 c1.a, .int .u32 c1.b, .int .u32 c1.c, .int .u32 c1.d, .int .u32 c1.e, .int .u32 c1.f, .int .u32 c1.g, .int .u32 c1.h]) ∧ Below w.heap.size w w' by rw [← hc]; exact behind_c c hok ws hwl w hT)
      have hx1 := HX.out
      have hzi : (64 : Int) ≤ (z.size : Int) := by omega
      have HES := Lib.hid hes
      clear hN hok hc hws hwl hx hz hc1 hc2 hcs hzs hes
      obtain ⟨x0, x1, x2, x3, x4, x5, x6, x7⟩ := WD.cells N
      go_wp2_with fail
      refine wp_region_any (by kernel_rfl) ?_
      try (change wpAny _ _ _ _ _ _ _ (World.drew _))
      (refine wpAny_take (i := 1) (v := ?_) rfl (by kernel_rfl) (by kernel_rfl) (by kernel_rfl) (fun _ _ _ h => h) (Or.inl ⟨by rfl, ?_⟩) ?_; rotate_left 1; focus (intro w; go_simp; try with_reducible rfl))
      (refine wpAny_take (i := 2) (v := ?_) rfl (by kernel_rfl) (by kernel_rfl) (by kernel_rfl) (fun _ _ _ h => h) (Or.inl ⟨by rfl, ?_⟩) ?_; rotate_left 1; focus (intro w; go_simp; try with_reducible rfl))
      refine wpAny_ready (rs := [0, 3]) (by kernel_rfl) (by simp) ?_
      refine AllReady.cons rfl (fun K hK => ?_) (AllReady.cons rfl (fun K hK => ?_) AllReady.nil)
      · go_simp
        refine hK _ _ ?_
        clear hK K
        refine wpAny_ready (rs := [3]) (by kernel_rfl) (by simp) ?_
        refine AllReady.cons rfl (fun K hK => ?_) AllReady.nil
        go_simp
        refine (HSP.out _).mono ?_
        rintro r w1 ⟨rfl, hb1⟩
        refine hK _ _ ?_
        clear hK K
        refine wpAny_ready (rs := [4]) (by kernel_rfl) (by simp) ?_
        refine AllReady.cons rfl (fun K hK => ?_) AllReady.nil
        go_simp
        refine (HB.out _ (hT.next (grow_next B (below_drewL hb1)))).mono ?_
        rintro r w2 ⟨rfl, hb2⟩
        refine hK _ _ ?_
        clear hK K
        have g2 : Below wr.heap.size wr w2 := grow_next (below_drewL hb1) hb2
        have N2 := N.next g2
        have B2 := grow_next B g2
        clear hb1 hb2 x0 x1 x2 x3 x4 x5 x6 x7
        obtain ⟨x0, x1, x2, x3, x4, x5, x6, x7⟩ := WD.cells N2
        have f0 := WB.thaw N2 0
        have f1 := WB.thaw N2 1
        have f2 := WB.thaw N2 2
        have f3 := WB.thaw N2 3
        have f4 := WB.thaw N2 4
        have f5 := WB.thaw N2 5
        have f6 := WB.thaw N2 6
        have f7 := WB.thaw N2 7
        (refine wpAny_ready (rs := [5]) (by kernel_rfl) (by simp) ?_; refine AllReady.cons rfl (fun K hK => ?_) AllReady.nil; go_simp; refine hK _ _ ?_; clear hK K)
        refine wpAny_done (by kernel_rfl) ?_ _
        have N3 := WB.put8 N2 c1
        have B3 := below_put8 B2 (b := w.heap.size) (Nat.le_refl _) c1
        clear N2 B2 f0 f1 f2 f3 f4 f5 f6 f7 x0 x1 x2 x3 x4 x5 x6 x7 hx1
        have hy1 := HY.out
        have hz2 : (64 : Int) ≤ (z.size : Int) := hzi
        go_wp2_with fail
        go_roundw
        case rel => exact ⟨k + 1, by omega, rfl, by rw [HC.out]; exact N3, B3⟩
        case measure =>
          show (P.extract (64 * (k + 1)) P.size).size < z.size
          rw [ByteArray.size_extract, HES.out]
          omega
      · go_simp
        refine (HSP.out _).mono ?_
        rintro r w1 ⟨rfl, hb1⟩
        refine hK _ _ ?_
        clear hK K
        have N1 := N.next (below_drewL hb1)
        clear x0 x1 x2 x3 x4 x5 x6 x7
        obtain ⟨x0, x1, x2, x3, x4, x5, x6, x7⟩ := WD.cells N1
        (refine wpAny_ready (rs := [0]) (by kernel_rfl) (by simp) ?_; refine AllReady.cons rfl (fun K hK => ?_) AllReady.nil; go_simp; refine hK _ _ ?_; clear hK K)
        refine wpAny_ready (rs := [4]) (by kernel_rfl) (by simp) ?_
        refine AllReady.cons rfl (fun K hK => ?_) AllReady.nil
        go_simp
        refine (HB.out _ (hT.next (grow_next B (below_drewL hb1)))).mono ?_
        rintro r w2 ⟨rfl, hb2⟩
        refine hK _ _ ?_
        clear hK K
        have g2 : Below wr.heap.size wr w2 := grow_next (below_drewL hb1) hb2
        have N2 := N.next g2
        have B2 := grow_next B g2
        clear hb1 hb2 x0 x1 x2 x3 x4 x5 x6 x7
        obtain ⟨x0, x1, x2, x3, x4, x5, x6, x7⟩ := WD.cells N2
        have f0 := WB.thaw N2 0
        have f1 := WB.thaw N2 1
        have f2 := WB.thaw N2 2
        have f3 := WB.thaw N2 3
        have f4 := WB.thaw N2 4
        have f5 := WB.thaw N2 5
        have f6 := WB.thaw N2 6
        have f7 := WB.thaw N2 7
        (refine wpAny_ready (rs := [5]) (by kernel_rfl) (by simp) ?_; refine AllReady.cons rfl (fun K hK => ?_) AllReady.nil; go_simp; refine hK _ _ ?_; clear hK K)
        refine wpAny_done (by kernel_rfl) ?_ _
        have N3 := WB.put8 N2 c1
        have B3 := below_put8 B2 (b := w.heap.size) (Nat.le_refl _) c1
        clear N2 B2 f0 f1 f2 f3 f4 f5 f6 f7 x0 x1 x2 x3 x4 x5 x6 x7 hx1
        have hy1 := HY.out
        have hz2 : (64 : Int) ≤ (z.size : Int) := hzi
        go_wp2_with fail
        go_roundw
        case rel => exact ⟨k + 1, by omega, rfl, by rw [HC.out]; exact N3, B3⟩
        case measure =>
          show (P.extract (64 * (k + 1)) P.size).size < z.size
          rw [ByteArray.size_extract, HES.out]
          omega
    · have hkn : k = n := by omega
      obtain ⟨z, hz⟩ : ∃ z, P.extract (64 * k) P.size = z := ⟨_, rfl⟩
      rw [hz] at hes ⊢
      have hne : (z.toList == []) = true := by
        have h1 : z.size = 0 := by have := HN.out; omega
        have h2 : z.data.toList = [] := List.eq_nil_of_length_eq_zero (by rw [Array.length_toList]; exact h1)
        rw [ByteArray.toList_eq, h2]
        rfl
      have HE := Lib.hid (show shaB s = bytes8 (runV P k) by rw [HR.out, hkn, HN.out, Nat.mul_div_cancel_left _ (by omega)])
      have hok := runV_ok P k
      generalize runV P k = c at N HE hok
      clear hz hes hkn hlt HS HR
      have h32 := W8.all32 hok
      obtain ⟨x0, x1, x2, x3, x4, x5, x6, x7⟩ := WD.cells N
      go_wp2_with fail
      clear x0 x1 x2 x3 x4 x5 x6 x7
      go_loopw [5, 7, 21] (fun x y i wq => ∃ j : Nat, j ≤ 8 ∧ i = .int .i64 j ∧ x = .string (pre8 c j) ∧ Below w.heap.size w wq) (fun _ _ i _ => 8 - (intOf i).toNat)
      case atStart => exact ⟨0, by omega, rfl, rfl, B⟩
      case round =>
        obtain ⟨j, hj, rfl, rfl, Bq⟩ := hrel
        by_cases hl8 : j < 8
        · have hj8 : (j : Int) < 8 := by omega
          obtain ⟨x, hx⟩ := get8 c hl8
          have hi := index_agg8 c hx
          obtain ⟨u0, u1⟩ := h32 x (List.mem_of_getElem? hx)
          have hps := pre8_size c (k := j) hj
          have hN := pre8_succ hx
          obtain ⟨q, hq⟩ : ∃ q, pre8 c j = q := ⟨_, rfl⟩
          rw [hq] at hps hN ⊢
          have HP := Lib.hid (bytesOf4 x u0 (by omega))
          have h4 := put4_sz x
          obtain ⟨T, hT4⟩ : ∃ T, put4 x = T := ⟨_, rfl⟩
          rw [hT4] at h4 hN HP
          have HN2 := Lib.hid hN
          clear hN hT4 hq hx
          go_wp2_with fail
          refine (HP.out _).mono ?_
          rintro r w1 ⟨rfl, hb1⟩
          go_wp2_with fail
          go_roundw
          case rel => exact ⟨j + 1, by omega, by go_num, by rw [HN2.out], grow_next Bq hb1⟩
          case measure => simp [intOf]; omega
        · have hj8 : j = 8 := by omega
          subst hj8
          have HP := Lib.hid (show pre8 c 8 = shaB s by rw [pre8_end, HE.out])
          go_wp2_with fail
          go_returns
          exact ⟨by rw [HP.out]; rfl, Bq⟩
end Go.Proofs.YteecemjbkpkpaaaDoor
