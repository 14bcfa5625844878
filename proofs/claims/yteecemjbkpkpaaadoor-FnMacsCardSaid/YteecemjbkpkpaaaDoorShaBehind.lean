/- SHA-256: a digest's words behind a block's: the program's way. -/
import Derived.Test.YteecemjbkpkpaaaDoorShaRound
import Derived.ChangeKeysEq
import Derived.Deep.Cut
namespace Go.Proofs.YteecemjbkpkpaaaDoor
open Go.ChangeShapes Go.WideShapes Go.ChangeAt Go.RowKit
set_option linter.unusedVariables false
set_option linter.unusedSimpArgs false
set_option maxRecDepth 100000

/-- The program's tables lie. -/
structure ShaW (w : World) : Prop where
  first : ∃ T fr, w.heap[0]? = some (.cells (w32 firstV.list).toArray T fr)
  tab : ∃ T fr, w.heap[1]? = some (.cells (w32 kL).toArray T fr)
theorem ShaW.next {w w' : World} (h : ShaW w) (hb : Below w.heap.size w w') : ShaW w' := by
  obtain ⟨T, fr, h1⟩ := h.first
  obtain ⟨T', fr', h2⟩ := h.tab
  exact ⟨⟨T, fr, blk_next hb h1⟩, ⟨T', fr', blk_next hb h2⟩⟩
theorem ShaW.at_ {w : World} (h : ShaW w) {i : Nat} {y : Int} (hy : kL[i]? = some y) : w.cell? ⟨1, i, none⟩ = some (.int .u32 y) := by
  obtain ⟨T', fr', h2⟩ := h.tab
  simp [World.cell?, h2, w32, hy]
theorem wpList_load_row_fr {P : Program} {ops : Array Oper} {rest : List Oper} {op : Oper} {a : Act} {w : World} {Q : Exit → Act → World → Prop} (hgd : op.guard = none) (ty : TypeId) (x : Operand) (ho : op.op = .load ty x)
    (b : Nat) (T : TypeId) (cells : Array Value) (fr : Nat × Nat) (d : TypeDesc) (hx : a.eval x = .pointer (some ⟨b, 0, none⟩))
    (hg : w.heap[b]? = some (.cells cells T fr)) (hu : P.underlying ty = some d) (hd : (match d with | .struct _ | .array _ _ => true | _ => false) = true) (hi : (P.info? ty).map (·.size) = some cells.size)
    (h : wpList P ops Q rest (a.put op.dst (.agg cells)) w) : wpList P ops Q (op :: rest) a w :=
  wpList_plain hgd fun K hK => by
    unfold Oper.wp execOp
    simp only [ho, hx, Instr.loadAt, Instr.sureAddr, Sem.run_bind, Sem.run_pure, Result.andThen_ok, run_loadVar_row w b T ty cells fr d hg hu hd hi]
    exact hK _ _ h
theorem WB.put8 {W : World} {b : Nat} {T : TypeId} {c : W8} (h : WB W b T c.list) (d : W8) : WB ((((((((W.setCell ⟨b, 0, none⟩ (.int .u32 d.a)).setCell ⟨b, 1, none⟩ (.int .u32 d.b)).setCell ⟨b, 2, none⟩ (.int .u32 d.c)).setCell ⟨b, 3, none⟩ (.int .u32 d.d)).setCell ⟨b, 4, none⟩ (.int .u32 d.e)).setCell ⟨b, 5, none⟩ (.int .u32 d.f)).setCell ⟨b, 6, none⟩ (.int .u32 d.g)).setCell ⟨b, 7, none⟩ (.int .u32 d.h)) b T d.list :=
  (((((((h.set 0 d.a).set 1 d.b).set 2 d.c).set 3 d.d).set 4 d.e).set 5 d.f).set 6 d.g).set 7 d.h
theorem WB.put8_other {W : World} {b c : Nat} {T : TypeId} {l : List Int} (h : WB W c T l) (hne : c ≠ b) (d : W8) : WB ((((((((W.setCell ⟨b, 0, none⟩ (.int .u32 d.a)).setCell ⟨b, 1, none⟩ (.int .u32 d.b)).setCell ⟨b, 2, none⟩ (.int .u32 d.c)).setCell ⟨b, 3, none⟩ (.int .u32 d.d)).setCell ⟨b, 4, none⟩ (.int .u32 d.e)).setCell ⟨b, 5, none⟩ (.int .u32 d.f)).setCell ⟨b, 6, none⟩ (.int .u32 d.g)).setCell ⟨b, 7, none⟩ (.int .u32 d.h)) c T l := by
  have h1 := WB.other h hne 0 (.int .u32 d.a)
  have h2 := WB.other h1 hne 1 (.int .u32 d.b)
  have h3 := WB.other h2 hne 2 (.int .u32 d.c)
  have h4 := WB.other h3 hne 3 (.int .u32 d.d)
  have h5 := WB.other h4 hne 4 (.int .u32 d.e)
  have h6 := WB.other h5 hne 5 (.int .u32 d.f)
  have h7 := WB.other h6 hne 6 (.int .u32 d.g)
  have h8 := WB.other h7 hne 7 (.int .u32 d.h)
  exact h8
theorem below_put8 {W w : World} {b B : Nat} (h : Below B w W) (hb : B ≤ b) (d : W8) : Below B w ((((((((W.setCell ⟨b, 0, none⟩ (.int .u32 d.a)).setCell ⟨b, 1, none⟩ (.int .u32 d.b)).setCell ⟨b, 2, none⟩ (.int .u32 d.c)).setCell ⟨b, 3, none⟩ (.int .u32 d.d)).setCell ⟨b, 4, none⟩ (.int .u32 d.e)).setCell ⟨b, 5, none⟩ (.int .u32 d.f)).setCell ⟨b, 6, none⟩ (.int .u32 d.g)).setCell ⟨b, 7, none⟩ (.int .u32 d.h)) := by
  have h1 := Below.setCell h (p := ⟨b, 0, none⟩) hb (.int .u32 d.a)
  have h2 := Below.setCell h1 (p := ⟨b, 1, none⟩) hb (.int .u32 d.b)
  have h3 := Below.setCell h2 (p := ⟨b, 2, none⟩) hb (.int .u32 d.c)
  have h4 := Below.setCell h3 (p := ⟨b, 3, none⟩) hb (.int .u32 d.d)
  have h5 := Below.setCell h4 (p := ⟨b, 4, none⟩) hb (.int .u32 d.e)
  have h6 := Below.setCell h5 (p := ⟨b, 5, none⟩) hb (.int .u32 d.f)
  have h7 := Below.setCell h6 (p := ⟨b, 6, none⟩) hb (.int .u32 d.g)
  have h8 := Below.setCell h7 (p := ⟨b, 7, none⟩) hb (.int .u32 d.h)
  exact h8
theorem index_agg64 {l : List Int} (hl : l.length = 64) {k : Nat} {x : Int} (h : l[k]? = some x) (W : World) : (Instr.index 69 (.agg (w32 l).toArray) (.int .i64 (k : Int))).run Tryd.prog W = .ok (.int .u32 x) W := by
  have hk : k < 64 := by rw [← hl]; exact (List.getElem?_eq_some_iff.1 h).1
  have hv : (w32 l).toArray[k]? = some (.int .u32 x) := by simp [w32, h]
  simp [Instr.index, asIntOf, run_underlying Tryd.underlying69]
  rw [if_pos hk]
  exact run_part_plain (P := Tryd.prog) W (by kernel_rfl) hv
theorem addV_list (x d : W8) : (addV x d).list = List.zipWith (fun a b => (a + b) % 4294967296) x.list d.list := rfl
theorem list8 (d : W8) : d.list.length = 8 := rfl
theorem get8 (d : W8) {k : Nat} (h : k < 8) : ∃ v, d.list[k]? = some v := ⟨_, List.getElem?_eq_getElem (by rw [list8]; exact h)⟩
theorem addV_at {x d : W8} {k : Nat} {a b : Int} (ha : x.list[k]? = some a) (hb : d.list[k]? = some b) : (addV x d).list[k]? = some ((a + b) % 4294967296) := by
  rw [addV_list, List.getElem?_zipWith, ha, hb]
/-- Some first ones turned already. -/
def mixL (x y : W8) (k : Nat) : List Int := y.list.take k ++ x.list.drop k
theorem mixL_at {x y : W8} {k : Nat} {a : Int} (h : x.list[k]? = some a) : (mixL x y k)[k]? = some a := by
  have hk : k < 8 := (List.getElem?_eq_some_iff.1 h).1
  unfold mixL
  rw [List.getElem?_append_right (by rw [List.length_take, list8]; omega), List.getElem?_drop]
  have e : k + (k - (y.list.take k).length) = k := by rw [List.length_take, list8]; omega
  rw [e, h]
theorem mixL_set {x y : W8} {k : Nat} {b : Int} (h : y.list[k]? = some b) : (mixL x y k).set k b = mixL x y (k + 1) := by
  have hk : k < 8 := (List.getElem?_eq_some_iff.1 h).1
  unfold mixL
  have hl : (y.list.take k).length = k := by rw [List.length_take, list8]; omega
  have e : y.list.take (k + 1) = y.list.take k ++ [b] := by
    obtain ⟨h1, h2⟩ := List.getElem?_eq_some_iff.1 h
    rw [List.take_succ_eq_append_getElem h1, h2]
  have e2 : x.list.drop k = x.list[k]'(by rw [list8]; exact hk) :: x.list.drop (k + 1) := List.drop_eq_getElem_cons (by rw [list8]; exact hk)
  rw [List.set_append_right _ _ (by omega), hl, Nat.sub_self, e2, List.set_cons_zero, e, List.append_assoc]
  rfl
theorem mixL_end (x y : W8) : mixL x y 8 = y.list := by
  unfold mixL
  rw [List.take_of_length_le (by rw [list8]; omega), List.drop_eq_nil_of_le (by rw [list8]; omega), List.append_nil]
set_option maxHeartbeats 2000000 in
theorem behind_c (d : W8) (hd : d.ok) (ws : List Int) (hl : ws.length = 64) (w : World) (hT : ShaW w) :
    Calls Tryd.prog 46 #[.agg (w32 d.list).toArray, .agg (w32 ws).toArray] w fun r w' => r = .returned (.agg (w32 (addV (rndV d ws 64) d).list).toArray) ∧ Below w.heap.size w w' := by
  have HU := Lib.hid Tryd.underlying67
  have HU4 := Lib.hid Tryd.underlying69
  have HI4 := Lib.hid (size64 hl)
  have HRC := Lib.hid (fun (e : W8) (he : e.ok) (k : Int) (w : World) => show Calls Tryd.prog 59 #[.agg (w32 e.list).toArray, .int .u32 k] w fun r w' => r = .returned (.agg (w32 (nextV e k).list).toArray) ∧ Below w.heap.size w w' from round_c e he k w)
  have HX := Lib.hid (fun k x (h : ws[k]? = some x) W => index_agg64 hl h W)
  go_enter Tryd.func46, Tryd.ntmps46
  go_upto_region 1 with fail
  rw [z8]
  have D0 : WB (((w.alloc (.cells (w32 d.list).toArray 67)).alloc (.cells (w32 ws).toArray 69)).alloc (.cells (w32 zeros8).toArray 67)) w.heap.size 67 d.list := ((WB.new w _ _).alloc _).alloc _
  have S0 : WB (((w.alloc (.cells (w32 d.list).toArray 67)).alloc (.cells (w32 ws).toArray 69)).alloc (.cells (w32 zeros8).toArray 67)) (w.heap.size + 1) 69 ws := by
    have := (WB.new (w.alloc (.cells (w32 d.list).toArray 67)) 69 ws).alloc (.cells (w32 zeros8).toArray 67)
    simpa using this
  have R0 : WB (((w.alloc (.cells (w32 d.list).toArray 67)).alloc (.cells (w32 ws).toArray 69)).alloc (.cells (w32 zeros8).toArray 67)) (w.heap.size + 1 + 1) 67 zeros8 := by
    have := WB.new ((w.alloc (.cells (w32 d.list).toArray 67)).alloc (.cells (w32 ws).toArray 69)) 67 zeros8
    simpa using this
  have B0 : Below w.heap.size w (((w.alloc (.cells (w32 d.list).toArray 67)).alloc (.cells (w32 ws).toArray 69)).alloc (.cells (w32 zeros8).toArray 67)) := grow_next (below_two w _ _) (below_new _ _)
  have hz0 : (((w.alloc (.cells (w32 d.list).toArray 67)).alloc (.cells (w32 ws).toArray 69)).alloc (.cells (w32 zeros8).toArray 67)).heap.size = w.heap.size + 1 + 1 + 1 := by simp
  generalize ((w.alloc (.cells (w32 d.list).toArray 67)).alloc (.cells (w32 ws).toArray 69)).alloc (.cells (w32 zeros8).toArray 67) = W0 at D0 S0 R0 B0 hz0 ⊢
  have HZ := Lib.hid hz0
  clear hz0
  go_upto_region 2 with (first
    | refine wpList_load_row rfl 67 (.tmp 2) rfl w.heap.size 67 (w32 d.list).toArray _ rfl D0 HU.out rfl (size8 d) ?_
    | (refine wpList_store_row rfl 67 (.tmp 5) (.tmp 9) rfl W0.heap.size 67 (w32 zeros8).toArray (w32 d.list).toArray rfl rfl (WB.new W0 67 zeros8) (size8 d) rfl (w32_one _) ?_; intro W1 hW1))
  have D1 := WB.row_other (WB.alloc D0 (.cells (w32 zeros8).toArray 67)) (by have := HZ.out; omega) hW1.out
  have S1 := WB.row_other (WB.alloc S0 (.cells (w32 zeros8).toArray 67)) (by have := HZ.out; omega) hW1.out
  have R1 := WB.row_other (WB.alloc R0 (.cells (w32 zeros8).toArray 67)) (by have := HZ.out; omega) hW1.out
  have N1 := WB.row (WB.new W0 67 zeros8) hW1.out
  have B1 : Below w.heap.size w W1 := below_setRow' (grow_next B0 (below_new W0 (.cells (w32 zeros8).toArray 67))) (by have := HZ.out; omega) hW1.out
  have hb5 : w.heap.size + 1 + 1 < W0.heap.size := by have := HZ.out; omega
  generalize W0.heap.size = b5 at N1 hb5 ⊢
  clear D0 S0 R0 B0 hW1 HZ
  go_wp2_with (refine wpList_load_row rfl 69 (.tmp 3) rfl (w.heap.size + 1) 69 (w32 ws).toArray _ rfl S1 HU4.out rfl HI4.out ?_)
  go_loopw [6, 7, 11] (fun a c i wr => ∃ k : Nat, k ≤ 64 ∧ i = .int .i64 k ∧ WB wr b5 67 (rndV d ws k).list ∧ WB wr w.heap.size 67 d.list ∧ WB wr (w.heap.size + 1 + 1) 67 zeros8 ∧ Below w.heap.size w wr) (fun _ _ i _ => 64 - (intOf i).toNat)
  case atStart => exact ⟨0, by omega, rfl, N1, D1, R1, B1⟩
  case round =>
    obtain ⟨k, hk, rfl, N, D, R, B⟩ := hrel
    clear N1 D1 R1 B1 S1
    by_cases hlt : k < 64
    · have hlt' : (k : Int) < 64 := by omega
      obtain ⟨x, hx⟩ : ∃ x, ws[k]? = some x := ⟨_, List.getElem?_eq_getElem (by rw [hl]; exact hlt)⟩
      obtain ⟨y, hy⟩ : ∃ y, kL[k]? = some y := ⟨_, List.getElem?_eq_getElem (by rw [kL_length]; exact hlt)⟩
      have hix := HX.out k x hx
      have hT' := hT.next B
      have ct := hT'.at_ hy
      have hN : rndV d ws (k + 1) = nextV (rndV d ws k) ((x + y) % 4294967296) := by
        show nextV (rndV d ws k) ((ws.getD k 0 + kL.getD k 0) % 4294967296) = _
        rw [List.getD_eq_getElem?_getD, List.getD_eq_getElem?_getD, hx, hy]
        rfl
      have hok := rndV_ok hd ws k
      generalize rndV d ws k = c at N hN hok
      have HN := Lib.hid hN
      obtain ⟨c1, hc1⟩ : ∃ c1, nextV c ((x + y) % 4294967296) = c1 := ⟨_, rfl⟩
      have HC := Lib.hid (show rndV d ws (k + 1) = c1 by rw [HN.out, hc1])
      have HR2 := Lib.hid (fun w => show Calls Tryd.prog 59 #[.agg #[.int .u32 c.a, .int .u32 c.b, .int .u32 c.c, .int .u32 c.d, .int .u32 c.e, .int .u32 c.f, .int .u32 c.g, .int .u32 c.h], .int .u32 (IntKind.u32.wrap (x + y))] w fun r w' => r = .returned (.agg #[.int .u32 c1.a, .int .u32 c1.b, .int .u32 c1.c, .int .u32 c1.d, .int .u32 c1.e, .int .u32 c1.f, .int .u32 c1.g, .int .u32 c1.h]) ∧ Below w.heap.size w w' by rw [IntKind.wrap_u32', ← hc1]; exact HRC.out c hok ((x + y) % 4294967296) w)
      clear hc1 HN
      clear hN hok hx hy
      obtain ⟨x0, x1, x2, x3, x4, x5, x6, x7⟩ := WD.cells N
      go_wp2_with fail
      refine wp_region_any (by kernel_rfl) ?_
      try (change wpAny _ _ _ _ _ _ _ (World.drew _))
      (refine wpAny_take (i := 1) (v := ?_) rfl (by kernel_rfl) (by kernel_rfl) (by kernel_rfl) (fun _ _ _ h => h) (Or.inl ⟨by rfl, ?_⟩) ?_; rotate_left 1; focus (intro w; go_simp; try with_reducible rfl))
      (refine wpAny_take (i := 2) (v := ?_) rfl (by kernel_rfl) (by kernel_rfl) (by kernel_rfl) (fun _ _ _ h => h) (Or.inl ⟨by rfl, ?_⟩) ?_; rotate_left 1; focus (intro w; go_simp; try with_reducible rfl))
      (refine wpAny_take (i := 3) (v := ?_) rfl (by kernel_rfl) (by kernel_rfl) (by kernel_rfl) (fun _ _ _ h => h) (Or.inl ⟨by rfl, ?_⟩) ?_; rotate_left 1; focus (intro w; go_simp; try with_reducible rfl))
      refine wpAny_ready (rs := [0, 4]) (by kernel_rfl) (by simp) ?_
      refine AllReady.cons rfl (fun K hK => ?_) (AllReady.cons rfl (fun K hK => ?_) AllReady.nil)
      · go_simp
        refine hK _ _ ?_
        clear hK K
        (refine wpAny_ready (rs := [4]) (by kernel_rfl) (by simp) ?_; refine AllReady.cons rfl (fun K hK => ?_) AllReady.nil; go_simp; refine hK _ _ ?_; clear hK K)
        (refine wpAny_take (i := 5) (v := ?_) rfl (by kernel_rfl) (by kernel_rfl) (by kernel_rfl) (fun _ _ _ h => h) (Or.inl ⟨by rfl, ?_⟩) ?_; rotate_left 1; focus (intro w; go_simp; try with_reducible rfl))
        refine wpAny_ready (rs := [6]) (by kernel_rfl) (by simp) ?_
        refine AllReady.cons rfl (fun K hK => ?_) AllReady.nil
        go_simp
        refine (HR2.out _).mono ?_
        rintro r w1 ⟨rfl, hb1⟩
        refine hK _ _ ?_
        clear hK K
        have g1 : Below wr.heap.size wr w1 := below_drewL hb1
        have N2 := N.next g1
        have D2 := D.next g1
        have R2 := R.next g1
        have B2 := grow_next B g1
        clear hb1 x0 x1 x2 x3 x4 x5 x6 x7
        obtain ⟨x0, x1, x2, x3, x4, x5, x6, x7⟩ := WD.cells N2
        have f0 := WB.thaw N2 0
        have f1 := WB.thaw N2 1
        have f2 := WB.thaw N2 2
        have f3 := WB.thaw N2 3
        have f4 := WB.thaw N2 4
        have f5 := WB.thaw N2 5
        have f6 := WB.thaw N2 6
        have f7 := WB.thaw N2 7
        (refine wpAny_ready (rs := [7]) (by kernel_rfl) (by simp) ?_; refine AllReady.cons rfl (fun K hK => ?_) AllReady.nil; go_simp; refine hK _ _ ?_; clear hK K)
        refine wpAny_done (by kernel_rfl) ?_ _
        have N3 := WB.put8 N2 c1
        have D3 := D2.put8_other (by omega) c1 (b := b5)
        have R3 := R2.put8_other (by omega) c1 (b := b5)
        have B3 := below_put8 B2 (b := b5) (by omega) c1
        clear N2 D2 R2 B2 f0 f1 f2 f3 f4 f5 f6 f7 x0 x1 x2 x3 x4 x5 x6 x7
        go_wp2_with fail
        go_roundw
        case rel => exact ⟨k + 1, by omega, by go_num, by rw [HC.out]; exact N3, D3, R3, B3⟩
        case measure => simp [intOf]; omega
      · go_simp
        refine hK _ _ ?_
        clear hK K
        (refine wpAny_take (i := 5) (v := ?_) rfl (by kernel_rfl) (by kernel_rfl) (by kernel_rfl) (fun _ _ _ h => h) (Or.inl ⟨by rfl, ?_⟩) ?_; rotate_left 1; focus (intro w; go_simp; try with_reducible rfl))
        (refine wpAny_ready (rs := [0]) (by kernel_rfl) (by simp) ?_; refine AllReady.cons rfl (fun K hK => ?_) AllReady.nil; go_simp; refine hK _ _ ?_; clear hK K)
        refine wpAny_ready (rs := [6]) (by kernel_rfl) (by simp) ?_
        refine AllReady.cons rfl (fun K hK => ?_) AllReady.nil
        go_simp
        refine (HR2.out _).mono ?_
        rintro r w1 ⟨rfl, hb1⟩
        refine hK _ _ ?_
        clear hK K
        have g1 : Below wr.heap.size wr w1 := below_drewL hb1
        have N2 := N.next g1
        have D2 := D.next g1
        have R2 := R.next g1
        have B2 := grow_next B g1
        clear hb1 x0 x1 x2 x3 x4 x5 x6 x7
        obtain ⟨x0, x1, x2, x3, x4, x5, x6, x7⟩ := WD.cells N2
        have f0 := WB.thaw N2 0
        have f1 := WB.thaw N2 1
        have f2 := WB.thaw N2 2
        have f3 := WB.thaw N2 3
        have f4 := WB.thaw N2 4
        have f5 := WB.thaw N2 5
        have f6 := WB.thaw N2 6
        have f7 := WB.thaw N2 7
        (refine wpAny_ready (rs := [7]) (by kernel_rfl) (by simp) ?_; refine AllReady.cons rfl (fun K hK => ?_) AllReady.nil; go_simp; refine hK _ _ ?_; clear hK K)
        refine wpAny_done (by kernel_rfl) ?_ _
        have N3 := WB.put8 N2 c1
        have D3 := D2.put8_other (by omega) c1 (b := b5)
        have R3 := R2.put8_other (by omega) c1 (b := b5)
        have B3 := below_put8 B2 (b := b5) (by omega) c1
        clear N2 D2 R2 B2 f0 f1 f2 f3 f4 f5 f6 f7 x0 x1 x2 x3 x4 x5 x6 x7
        go_wp2_with fail
        go_roundw
        case rel => exact ⟨k + 1, by omega, by go_num, by rw [HC.out]; exact N3, D3, R3, B3⟩
        case measure => simp [intOf]; omega
    · have hk64 : k = 64 := by omega
      have hlt' : ¬ (k : Int) < 64 := by omega
      subst hk64
      obtain ⟨c, hc⟩ : ∃ c, rndV d ws 64 = c := ⟨_, rfl⟩
      have HC := Lib.hid hc
      rw [hc] at N
      clear hc HRC HX hlt
      go_wp2_with fail
      go_loopw [8, 23] (fun a i wq => ∃ k : Nat, k ≤ 8 ∧ i = .int .i64 k ∧ WB wq b5 67 (mixL c (addV c d) k) ∧ WB wq w.heap.size 67 d.list ∧ WB wq (w.heap.size + 1 + 1) 67 zeros8 ∧ Below w.heap.size w wq) (fun _ i _ => 8 - (intOf i).toNat)
      case atStart => exact ⟨0, by omega, rfl, by simpa [mixL] using N, D, R, B⟩
      case round =>
        clear N D R B
        obtain ⟨k, hk, rfl, N, D, R, B⟩ := hrel
        by_cases hlt : k < 8
        · have hlt' : (k : Int) < 8 := by omega
          obtain ⟨x, hx⟩ := get8 c hlt
          obtain ⟨y, hy⟩ := get8 d hlt
          have cx := N.cell (mixL_at hx)
          have cy := D.cell hy
          have f0 := WB.thaw N k
          have HA := Lib.hid (addV_at hx hy)
          clear hx hy
          go_wp2_with fail
          refine wp_region_any (by kernel_rfl) ?_
          try (change wpAny _ _ _ _ _ _ _ (World.drew _))
          (refine wpAny_take (i := 0) (v := ?_) rfl (by kernel_rfl) (by kernel_rfl) (by kernel_rfl) (fun _ _ _ h => h) (Or.inl ⟨by rfl, ?_⟩) ?_; rotate_left 1; focus (intro w; go_simp; try with_reducible rfl))
          (refine wpAny_take (i := 1) (v := ?_) rfl (by kernel_rfl) (by kernel_rfl) (by kernel_rfl) (fun _ _ _ h => h) (Or.inl ⟨by rfl, ?_⟩) ?_; rotate_left 1; focus (intro w; go_simp; try with_reducible rfl))
          (refine wpAny_take (i := 3) (v := ?_) rfl (by kernel_rfl) (by kernel_rfl) (by kernel_rfl) (fun _ _ _ h => h) (Or.inl ⟨by rfl, ?_⟩) ?_; rotate_left 1; focus (intro w; go_simp; try with_reducible rfl))
          (refine wpAny_take (i := 4) (v := ?_) rfl (by kernel_rfl) (by kernel_rfl) (by kernel_rfl) (fun _ _ _ h => h) (Or.inl ⟨by rfl, ?_⟩) ?_; rotate_left 1; focus (intro w; go_simp; try with_reducible rfl))
          refine wpAny_ready (rs := [2, 5]) (by kernel_rfl) (by simp) ?_
          refine AllReady.cons rfl (fun K hK => ?_) (AllReady.cons rfl (fun K hK => ?_) AllReady.nil)
          · go_simp
            refine hK _ _ ?_
            clear hK K
            (refine wpAny_ready (rs := [5]) (by kernel_rfl) (by simp) ?_; refine AllReady.cons rfl (fun K hK => ?_) AllReady.nil; go_simp; refine hK _ _ ?_; clear hK K)
            (refine wpAny_take (i := 6) (v := ?_) rfl (by kernel_rfl) (by kernel_rfl) (by kernel_rfl) (fun _ _ _ h => h) (Or.inl ⟨by rfl, ?_⟩) ?_; rotate_left 1; focus (intro w; go_simp; try with_reducible rfl))
            (refine wpAny_take (i := 7) (v := ?_) rfl (by kernel_rfl) (by kernel_rfl) (by kernel_rfl) (fun _ _ _ h => h) (Or.inl ⟨by rfl, ?_⟩) ?_; rotate_left 1; focus (intro w; go_simp; try with_reducible rfl))
            (refine wpAny_ready (rs := [8]) (by kernel_rfl) (by simp) ?_; refine AllReady.cons rfl (fun K hK => ?_) AllReady.nil; go_simp; refine hK _ _ ?_; clear hK K)
            refine wpAny_done (by kernel_rfl) ?_ _
            go_wp2_with fail
            go_roundw
            case rel => exact ⟨k + 1, by omega, by go_num, by rw [← mixL_set HA.out]; exact WB.set N k _, D.other (by omega) _ _, R.other (by omega) _ _, (below_drewR B).setCell (p := ⟨b5, k, none⟩) (by show w.heap.size ≤ b5; omega) _⟩
            case measure => simp [intOf]; omega
          · go_simp
            refine hK _ _ ?_
            clear hK K
            (refine wpAny_ready (rs := [2]) (by kernel_rfl) (by simp) ?_; refine AllReady.cons rfl (fun K hK => ?_) AllReady.nil; go_simp; refine hK _ _ ?_; clear hK K)
            (refine wpAny_take (i := 6) (v := ?_) rfl (by kernel_rfl) (by kernel_rfl) (by kernel_rfl) (fun _ _ _ h => h) (Or.inl ⟨by rfl, ?_⟩) ?_; rotate_left 1; focus (intro w; go_simp; try with_reducible rfl))
            (refine wpAny_take (i := 7) (v := ?_) rfl (by kernel_rfl) (by kernel_rfl) (by kernel_rfl) (fun _ _ _ h => h) (Or.inl ⟨by rfl, ?_⟩) ?_; rotate_left 1; focus (intro w; go_simp; try with_reducible rfl))
            (refine wpAny_ready (rs := [8]) (by kernel_rfl) (by simp) ?_; refine AllReady.cons rfl (fun K hK => ?_) AllReady.nil; go_simp; refine hK _ _ ?_; clear hK K)
            refine wpAny_done (by kernel_rfl) ?_ _
            go_wp2_with fail
            go_roundw
            case rel => exact ⟨k + 1, by omega, by go_num, by rw [← mixL_set HA.out]; exact WB.set N k _, D.other (by omega) _ _, R.other (by omega) _ _, (below_drewR B).setCell (p := ⟨b5, k, none⟩) (by show w.heap.size ≤ b5; omega) _⟩
            case measure => simp [intOf]; omega
        · have hk8 : k = 8 := by omega
          have hlt' : ¬ (k : Int) < 8 := by omega
          subst hk8
          rw [mixL_end] at N
          obtain ⟨e, he⟩ : ∃ e, addV c d = e := ⟨_, rfl⟩
          have HE := Lib.hid (show addV (rndV d ws 64) d = e by rw [HC.out, he])
          rw [he] at N
          clear he
          go_wp2_with (first
            | refine wpList_load_row rfl 67 (.tmp 5) rfl b5 67 (w32 e.list).toArray _ rfl N HU.out rfl (size8 e) ?_
            | (refine wpList_store_row rfl 67 (.tmp 4) (.tmp 35) rfl (w.heap.size + 1 + 1) 67 (w32 zeros8).toArray (w32 e.list).toArray rfl rfl R (size8 e) rfl (w32_one _) ?_; intro w3 hw3))
          have R4 := WB.row R hw3.out
          have B4 := below_setRow' B (by omega) hw3.out
          refine bodyPost_ret (results_row1 rfl _ _ (w.heap.size + 1 + 1) 67 (w32 e.list).toArray _ rfl R4 HU.out rfl (size8 e)) rfl ?_
          exact ⟨by rw [HE.out], B4⟩
end Go.Proofs.YteecemjbkpkpaaaDoor
