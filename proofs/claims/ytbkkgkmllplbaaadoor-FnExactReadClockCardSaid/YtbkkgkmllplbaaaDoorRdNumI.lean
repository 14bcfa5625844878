/- A number in decimal read: the program's way. -/
import Derived.Test.YtbkkgkmllplbaaaDoorRdDecI
namespace Go.Proofs.YtbkkgkmllplbaaaDoor
open Go.ChangeShapes Go.WideShapes Go.ChangeAt Go.RowKit Go.Sort
set_option linter.unusedVariables false
set_option linter.unusedSimpArgs false

theorem join_one (v : Int) : (⟨(Lib.join ([v].map (fun x => (decB x).data.toList)) [32]).toArray⟩ : ByteArray) = decB v := by
  apply ByteArray.ext
  apply Array.toList_inj.1
  simp [Lib.join, List.intercalate]
theorem cells_oneD (w : World) (T : TypeId) (a : Int) : (w.alloc (.cells #[.int .i64 a] T)).heap[w.heap.size]? = some (.cells ([a].map (Value.int .i64)).toArray T) := blk_new w _
theorem readV_ok {s : ByteArray} {v : Int} (h : Lib.parseIntB 64 s.data.toList = .ok v) : readV s = if (-maxDec ≤ v ∧ v ≤ maxDec) ∧ decB v = s then some v else none := by
  unfold readV; rw [h]
theorem readV_err {s : ByteArray} (h : ∀ v, Lib.parseIntB 64 s.data.toList ≠ .ok v) : readV s = none := by
  unfold readV
  split
  · rename_i v hv
    exact absurd hv (h v)
  · rfl
set_option maxRecDepth 100000 in
set_option maxHeartbeats 1000000 in
theorem readDecimal_c (s : ByteArray) (hs : s.size ≤ 1048576) (w : World) (h : DecW w) :
    Calls Tryd.prog 58 #[.string s] w fun e w' => e = numEnd (readV s) ∧ Below w.heap.size w w' := by
  have HP := Lib.hid (parse_c s hs w h)
  have HR := Lib.hid (fun v => readV_ok (s := s) (v := v))
  have HE := Lib.hid (readV_err (s := s))
  go_enter Tryd.func58, Tryd.ntmps58
  go_wp2_with fail
  refine HP.out.mono ?_
  rintro e w1 ⟨hb1, ⟨v, hv, rfl⟩ | ⟨hno, v, t, p, rfl⟩⟩
  · have HV := Lib.hid (HR.out v hv)
    have HX := Lib.hid (Lib.parseIntB_bounds hv)
    have HW := Lib.hid (fun w => within_c v (-9999999999999999) 9999999999999999 w)
    have HH := Lib.hid (h.next hb1)
    clear hv HR HE HP
    cases hin : inB (-9999999999999999) v 9999999999999999 with
    | false =>
      have HN := Lib.hid (show readV s = none by
        rw [HV.out, if_neg]
        rintro ⟨h1, _⟩
        have := inB_iff.2 (show -9999999999999999 ≤ v ∧ v ≤ 9999999999999999 from h1)
        rw [hin] at this
        cases this)
      rw [hin] at HW
      clear hin HV
      go_wp2_with fail
      refine (HW.out _).mono ?_
      rintro e w2 ⟨rfl, rfl⟩
      go_wp2_with fail
      go_returns
      exact ⟨by rw [HN.out]; rfl, hb1⟩
    | true =>
      have hin' := inB_iff.1 hin
      rw [hin] at HW
      have HD := Lib.hid (decimalText_c [v] 1 (Lib.hid rfl) (by omega) (by intro x hx; rw [List.mem_singleton] at hx; subst hx; omega) w1.heap.size 2 (w1.alloc (.cells #[.int .i64 v] 2)) (HH.out.pow.next (below_new _ _)) (cells_oneD _ _ _))
      rw [join_one] at HD
      have G1 := hb1.alloc hb1.size (.cells #[.int .i64 v] 2)
      obtain ⟨d, hd⟩ : ∃ d, decB v = d := ⟨_, rfl⟩
      rw [hd] at HD
      have hV := HV.out
      rw [hd] at hV
      clear hin HV HH
      cases hq : (d.toList == s.toList) with
      | true =>
        have e : d = s := by
          have h1 := beq_iff_eq.1 hq
          rw [ByteArray.toList_eq, ByteArray.toList_eq] at h1
          exact ByteArray.ext (Array.toList_inj.1 h1)
        have HN := Lib.hid (show readV s = some v by
          rw [hV, if_pos ⟨hin', e⟩])
        clear e hV hin' hd
        go_wp2_with fail
        refine (HW.out _).mono ?_
        rintro e w2 ⟨rfl, rfl⟩
        go_wp2_with fail
        refine HD.out.mono ?_
        rintro e w3 ⟨rfl, hb3⟩
        go_wp2_with fail
        go_returns
        exact ⟨by rw [HN.out]; rfl, grow_next G1 hb3⟩
      | false =>
        have HN := Lib.hid (show readV s = none by
          rw [hV, if_neg]
          rintro ⟨_, e⟩
          rw [e] at hq
          simp at hq)
        clear hV hin' hd
        go_wp2_with fail
        refine (HW.out _).mono ?_
        rintro e w2 ⟨rfl, rfl⟩
        go_wp2_with fail
        refine HD.out.mono ?_
        rintro e w3 ⟨rfl, hb3⟩
        go_wp2_with fail
        go_returns
        exact ⟨by rw [HN.out]; rfl, grow_next G1 hb3⟩
  · have HN := Lib.hid (HE.out hno)
    clear hno HR HE HP
    go_wp2_with fail
    go_returns
    exact ⟨by rw [HN.out]; rfl, hb1⟩
theorem row_lower {w : World} {b b' : Nat} {T : TypeId} {o : Value} {n : Nat} {l : List Value} (h : w.ownsRow b T 1 o n l) (hb : b' ≤ b) : w.ownsRow b' T 1 o n l :=
  ⟨h.1, h.2.imp id (fun ⟨g, c, cur, e, h1, r⟩ => ⟨g, c, cur, e, Nat.le_trans hb h1, r⟩)⟩
/-- The numbers of these words, or false. -/
def EachPost (w : World) (ws : List ByteArray) : Ending → World → Prop := fun e w' => Below w.heap.size w w' ∧
  ((∃ o xs, e = .returned (.tuple #[o, .bool true]) ∧ xs.length = ws.length ∧ Told readV ws xs ∧ w'.ownsRow w.heap.size 2 1 o ws.length (xs.map (Value.int .i64))) ∨
   (e = .returned (.tuple #[.slice none 0 0, .bool false]) ∧ ∀ xs : List Int, ¬ Told readV ws xs))
set_option maxRecDepth 100000 in
set_option maxHeartbeats 2000000 in
theorem readEach_c (ws : List ByteArray) (hws : ∀ z ∈ ws, z.size ≤ 1048576) (hlen : ws.length ≤ 1048577) (g i cap : Nat) (w : World) (hg : g < w.heap.size) (h : DecW w)
    (hcells : ∀ k z, ws[k]? = some z → w.cell? ⟨g, i + k, none⟩ = some (.string z)) : Calls Tryd.prog 45 #[.slice (some ⟨g, i, none⟩) ws.length cap] w (EachPost w ws) := by
  obtain ⟨i0, hi, hz0, hz1, hz2⟩ := info_partsT infoInt''
  have HI0 := Lib.hid hi
  have HZ0 := Lib.hid hz0
  have HZ1 := Lib.hid hz1
  have HZ2 := Lib.hid hz2
  clear hi hz0 hz1 hz2
  have HSZ := Lib.hid hws
  have HNC := Lib.hid (fun z hz w h => readDecimal_c z hz w h)
  have HH := Lib.hid h
  have HCL := Lib.hid hcells
  unfold EachPost
  clear h hcells hws
  obtain ⟨N, hN⟩ : ∃ N, ws.length = N := ⟨_, rfl⟩
  have HN := Lib.hid hN
  rw [hN] at hlen ⊢
  clear hN
  have hrow0 := World.ownsRow_nil w w.heap.size 2 1
  go_enter Tryd.func45, Tryd.ntmps45
  go_wp2_with fail
  go_loopw [4, 6, 7, 8, 11] (fun o wd x b j wr => ∃ (k : Nat) (xs : List Int), k ≤ N ∧ j = .int .i64 k ∧ Hid (xs.length = k) ∧ Hid (Told readV (ws.take k) xs) ∧ wr.ownsRow w.heap.size 2 1 o k (xs.map (Value.int .i64)) ∧ Below w.heap.size w wr) (fun _ _ _ _ j _ => N - (intOf j).toNat)
  case atStart => exact ⟨0, [], Nat.zero_le _, rfl, Lib.hid rfl, Lib.hid rfl, hrow0, Below.refl _ _⟩
  case round =>
    clear hrow0
    obtain ⟨k, xs, hk, rfl, HL, HT, hrow, hb⟩ := hrel
    have hsz := hb.size
    by_cases hlt : k < N
    · obtain ⟨z, hz⟩ := getS (l := ws) (k := k) (by rw [HN.out]; exact hlt)
      have hzs : z.size ≤ 1048576 := HSZ.out z (List.mem_of_getElem? hz)
      have hcell : wr.cell? ⟨g, i + k, none⟩ = some (.string z) := (hb.cell (p := ⟨g, i + k, none⟩) (by show g < w.heap.size; omega)).trans (HCL.out k z hz)
      have HC1 := Lib.hid (HNC.out z hzs wr (HH.out.next hb))
      cases hv : readV z with
      | none =>
        have HE := Lib.hid (told_stop hz hv)
        rw [hv] at HC1
        simp only [numEnd] at HC1
        clear hz hv
        go_wp2_with fail
        refine HC1.out.mono ?_
        rintro e w2 ⟨rfl, hb2⟩
        go_wp2_with fail
        go_returns
        exact ⟨grow_next hb hb2, .inr ⟨rfl, fun xs => HE.out xs⟩⟩
      | some v =>
        have HT1 := Lib.hid (HT.out.snoc hz hv)
        rw [hv] at HC1
        simp only [numEnd] at HC1
        clear hz hv
        go_wp2_with fail
        refine HC1.out.mono ?_
        rintro e w2 ⟨rfl, hb2⟩
        have g2 := grow_next hb hb2
        have hs2 := g2.size
        have hr2 := hrow.kept (row := none) ⟨hb2.os, hb2.tape, hb2.output, hb2.size, fun k hk _ => hb2.block k hk⟩ (Classical.em _)
        clear hcell HC1 hrow hb hb2 hsz
        go_wp2_with (at_builtin; refine wpList_append_own _ rfl _ _ 45 rfl w.heap.size 2 i0 (.int .i64 0) 1 8 Tryd.underlying45 HI0.out HZ0.out HZ1.out HZ2.out rfl (by decide) _ _ _ rfl (hr2.alloc _) ⟨w2.heap.size, 0, none⟩ 1 1 [.int .i64 v] rfl rfl (by simpa using cell_one_newD w2 (.int .i64 v) 2) (by simp [Value.oneCell']) (by unfold maxLen; omega) (by omega) (by simp; omega) ?_; intro v' w4 hown' hgrow _)
        go_roundw
        case rel => exact ⟨k + 1, xs ++ [v], by omega, by go_num, Lib.hid (by rw [List.length_append, HL.out]; rfl), HT1, by simpa using hown', (g2.alloc hs2 (.cells #[.int .i64 v] 2)).grown hgrow (g2.alloc hs2 _).size (fun j hj => (hr2.lt j hj).1)⟩
        case measure => simp [intOf]; omega
    · have hkN : k = N := by omega
      have HA := Lib.hid (show Told readV ws xs by
        have := HT.out
        rwa [List.take_of_length_le (by rw [HN.out]; omega)] at this)
      have HX := Lib.hid (show xs.length = N by rw [HL.out, hkN])
      have HR := Lib.hid (show wr.ownsRow w.heap.size 2 1 u4 N (xs.map (Value.int .i64)) by
        rw [← hkN]
        exact hrow)
      clear hkN
      go_wp2_with fail
      go_returns
      exact ⟨hb, .inl ⟨_, xs, rfl, HX.out, HA.out, HR.out⟩⟩
/-- So many numbers, or false. -/
def DecsPost (w : World) (s : ByteArray) (n : Nat) : Ending → World → Prop := fun e w' => Below w.heap.size w w' ∧
  ((∃ o xs, e = .returned (.tuple #[o, .bool true]) ∧ xs.length = n ∧ Told readV (wordsOf s) xs ∧ w'.ownsRow w.heap.size 2 1 o n (xs.map (Value.int .i64))) ∨
   (e = .returned (.tuple #[.slice none 0 0, .bool false]) ∧ ∀ xs : List Int, xs.length = n → ¬ Told readV (wordsOf s) xs))
set_option maxRecDepth 100000 in
set_option maxHeartbeats 2000000 in
theorem readDecimals_c (s : ByteArray) (hs : s.size ≤ 1048576) (n : Nat) (hn : n ≤ 10) (w : World) (h : DecW w) : Calls Tryd.prog 27 #[.string s, .int .i64 n] w (DecsPost w s n) := by
  have HC := Lib.hid (split_c s hs w h)
  have hlen := wordsOf_le s
  have hpos := wordsOf_pos s
  have HSZ := Lib.hid (wordsOf_size s.size s (Nat.le_refl _))
  have hcells := Lib.pieces_cell_at w (wordsOf s) 9
  have b0 := below_new w (.cells ((wordsOf s).map Value.string).toArray 9)
  have hsz1 : (w.alloc (.cells ((wordsOf s).map Value.string).toArray 9)).heap.size = w.heap.size + 1 := by simp
  have HE := Lib.hid (readEach_c (wordsOf s) (fun z hz => Nat.le_trans (HSZ.out z hz) hs) (by omega) w.heap.size 0 (wordsOf s).length (w.alloc (.cells ((wordsOf s).map Value.string).toArray 9)) (by omega) (h.next b0) (fun k z hz => by rw [Nat.zero_add]; exact hcells k z hz))
  unfold DecsPost
  unfold EachPost at HE
  obtain ⟨ws, hws⟩ : ∃ ws, wordsOf s = ws := ⟨_, rfl⟩
  rw [hws] at HC hlen hpos HE b0 hsz1 ⊢
  clear hws h HSZ hcells
  obtain ⟨N, hN⟩ : ∃ N, ws.length = N := ⟨_, rfl⟩
  have HN := Lib.hid hN
  rw [hN] at hlen hpos HC HE
  clear hN
  by_cases hnn : N = n
  · subst hnn
    go_enter Tryd.func27, Tryd.ntmps27
    go_wp2_with fail
    refine HC.out.mono ?_
    rintro e w1 ⟨rfl, rfl⟩
    generalize w.alloc (.cells (ws.map Value.string).toArray 9) = w1 at *
    go_wp2_with fail
    refine HE.out.mono ?_
    rintro e w2 ⟨hb2, ⟨o, xs, rfl, hl, ht, hrow⟩ | ⟨rfl, hno⟩⟩
    · have HL := Lib.hid hl
      have HT := Lib.hid ht
      have HR := Lib.hid (row_lower hrow (show w.heap.size ≤ w1.heap.size by omega))
      clear hl ht hrow
      go_wp2_with fail
      go_returns
      exact ⟨grow_next b0 hb2, .inl ⟨_, xs, rfl, HL.out, HT.out, HR.out⟩⟩
    · have HX := Lib.hid hno
      clear hno
      go_wp2_with fail
      go_returns
      exact ⟨grow_next b0 hb2, .inr ⟨rfl, fun xs _ => HX.out xs⟩⟩
  · have HX := Lib.hid (show ∀ ys : List Int, ys.length = n → ¬ Told readV ws ys from fun ys hy ht => by
      have h1 := ht.length
      have h2 := HN.out
      omega)
    have hq : ((N : Int) != (n : Int)) = true := by rw [bne_iff_ne]; omega
    clear hnn
    go_enter Tryd.func27, Tryd.ntmps27
    go_wp2_with fail
    refine HC.out.mono ?_
    rintro e w1 ⟨rfl, rfl⟩
    generalize w.alloc (.cells (ws.map Value.string).toArray 9) = w1 at *
    go_wp2_with fail
    go_returns
    exact ⟨b0, .inr ⟨rfl, HX.out⟩⟩
end Go.Proofs.YtbkkgkmllplbaaaDoor
