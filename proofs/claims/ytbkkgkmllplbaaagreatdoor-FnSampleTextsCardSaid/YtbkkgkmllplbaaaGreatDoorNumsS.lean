/- So many numbers with blanks between: the reference's way. -/
import Derived.Test.YtbkkgkmllplbaaaGreatDoorSplitS
import Derived.Test.YtbkkgkmllplbaaaGreatDoorStrs
import Derived.Maps.AppendAt
namespace Go.Proofs.YtbkkgkmllplbaaaGreatDoor
open Go.ChangeShapes Go.WideShapes Go.ChangeAt Go.RowKit Go.Sort
set_option linter.unusedVariables false
set_option linter.unusedSimpArgs false

theorem wordsOf_pos (s : ByteArray) : 0 < (wordsOf s).length := by rw [wordsOf_length]; omega
theorem wordsOf_size : ∀ (n : Nat) (s : ByteArray), s.size ≤ n → ∀ x ∈ wordsOf s, x.size ≤ s.size := by
  intro n
  induction n with
  | zero =>
    intro s hs x hx
    cases h : wordsOf s with
    | nil => have := wordsOf_pos s; rw [h] at this; simp at this
    | cons w r =>
      rw [h] at hx
      rcases of_wordsOf h with ⟨rfl, rfl⟩ | ⟨s', e, h'⟩
      · rw [List.mem_singleton] at hx; rw [hx]; exact Nat.le_refl _
      · have := congrArg ByteArray.size e
        rw [ByteArray.size_append, ByteArray.size_append, show (⟨#[32]⟩ : ByteArray).size = 1 from rfl] at this
        omega
  | succ n ih =>
    intro s hs x hx
    cases h : wordsOf s with
    | nil => have := wordsOf_pos s; rw [h] at this; simp at this
    | cons w r =>
      rw [h] at hx
      rcases of_wordsOf h with ⟨rfl, rfl⟩ | ⟨s', e, h'⟩
      · rw [List.mem_singleton] at hx; rw [hx]; exact Nat.le_refl _
      · have hz := congrArg ByteArray.size e
        rw [ByteArray.size_append, ByteArray.size_append, show (⟨#[32]⟩ : ByteArray).size = 1 from rfl] at hz
        rcases List.mem_cons.1 hx with rfl | hx
        · omega
        · rw [← h'] at hx
          have := ih s' (by omega) x hx
          omega
theorem told_stop {f : ByteArray → Option Int} {ws : List ByteArray} {k : Nat} {w : ByteArray} (hw : ws[k]? = some w) (hf : f w = none) (xs : List Int) : ¬ Told f ws xs := by
  intro h
  unfold Told at h
  have h1 := congrArg (fun l => l[k]?) h
  simp only [List.getElem?_map, hw, Option.map_some, hf] at h1
  cases hx : xs[k]? with
  | none => rw [hx] at h1; cases h1
  | some x => rw [hx] at h1; cases h1
theorem infoInt'' : (Tryz.prog.info? 2).map (fun i => (i.zero, i.size, i.bytes)) = some (some (.int .i64 0), 1, 8) := by kernel_rfl
/-- So many numbers, or nothing. -/
def NumsPost (w : World) (s : ByteArray) (n : Nat) : Ending → World → Prop := fun e w' => Below w.heap.size w w' ∧
  ((∃ o xs, e = .returned o ∧ xs.length = n ∧ Told numV (wordsOf s) xs ∧ w'.ownsRow w.heap.size 2 1 o n (xs.map (Value.int .i64))) ∨
   (e = .returned (.slice none 0 0) ∧ ∀ xs : List Int, xs.length = n → ¬ Told numV (wordsOf s) xs))
set_option maxRecDepth 100000 in
set_option maxHeartbeats 2000000 in
theorem l7Nums_c (s : ByteArray) (hs : s.size ≤ 1048576) (n : Nat) (hn : n ≤ 10) (w : World) : Calls Tryz.prog 14 #[.string s, .int .i64 n] w (NumsPost w s n) := by
  obtain ⟨i0, hi, hz0, hz1, hz2⟩ := info_partsT infoInt''
  have HI0 := Lib.hid hi
  have HZ0 := Lib.hid hz0
  have HZ1 := Lib.hid hz1
  have HZ2 := Lib.hid hz2
  clear hi hz0 hz1 hz2
  have HC := Lib.hid (fun w => l1Split_c s hs w)
  have hlen := wordsOf_le s
  have hpos := wordsOf_pos s
  have HSZ := Lib.hid (wordsOf_size s.size s (Nat.le_refl _))
  have HNC := Lib.hid (fun z h w => l1Num_c z h w)
  obtain ⟨ws, hws⟩ : ∃ ws, wordsOf s = ws := ⟨_, rfl⟩
  unfold SplitPost at HC
  simp only [hws] at HC
  unfold NumsPost
  rw [hws]
  rw [hws] at hlen hpos HSZ
  clear hws
  go_enter Tryz.func14, Tryz.ntmps14
  go_wp2_with fail
  have hrow0 := World.ownsRow_made (base := w.heap.size) (e := 2) (size := 1) w #[] 0 (Nat.le_refl _) (by simp [maxLen]) rfl
  have g0 := below_new w (.cells #[] 2)
  have hs0 : (w.alloc (.cells #[] 2)).heap.size = w.heap.size + 1 := by simp
  refine (HC.out _).mono ?_
  rintro e w1 ⟨o6, rfl, hrow6, hb1⟩
  have g1 := grow_next g0 hb1
  have hrow1 := hrow0.kept (row := none) ⟨hb1.os, hb1.tape, hb1.output, hb1.size, fun k hk _ => hb1.block k hk⟩ (Classical.em _)
  obtain ⟨x6, cap6, rfl, HS⟩ := str_row hrow6
  obtain ⟨v0, hv0⟩ := getS hpos
  obtain ⟨gW, rfl, hgW, hgW', _, _⟩ := HS.at_ hv0
  rw [hs0] at hgW
  have hne0 : (Value.slice (some ⟨w.heap.size, 0, none⟩) 0 0).ownBlock ≠ some gW := by
    simp [Value.ownBlock]
    omega
  obtain ⟨N, hN⟩ : ∃ N, ws.length = N := ⟨_, rfl⟩
  have HN := Lib.hid hN
  rw [hN] at hlen hpos ⊢
  clear hv0 hrow6 hN hrow0 hb1 hs0
  go_wp2_with fail
  go_loopw [5, 7, 8, 9] (fun o i x b wr => ∃ (k : Nat) (xs : List Int), k ≤ N ∧ i = .int .i64 k ∧ Hid (xs.length = k) ∧ Hid (Told numV (ws.take k) xs) ∧ wr.ownsRow w.heap.size 2 1 o k (xs.map (Value.int .i64)) ∧ StrRow (w.alloc (.cells #[] 2)).heap.size wr (some ⟨gW, 0, none⟩) cap6 ws ∧ o.ownBlock ≠ some gW ∧ gW < wr.heap.size ∧ Below w.heap.size w wr) (fun _ i _ _ _ => N - (intOf i).toNat)
  case atStart => exact ⟨0, [], Nat.zero_le _, rfl, Lib.hid rfl, Lib.hid rfl, hrow1, HS, hne0, hgW', g1⟩
  case round =>
    clear hrow1 HS hne0 hgW' g1
    obtain ⟨k, xs, hk, rfl, HL, HT, hrow, hsr, hne, hlt', hb⟩ := hrel
    have hsz := hb.size
    by_cases hlt : k < N
    · obtain ⟨z, hz⟩ := getS (l := ws) (k := k) (by rw [HN.out]; exact hlt)
      have hzs : z.size ≤ 1048576 := Nat.le_trans (HSZ.out z (List.mem_of_getElem? hz)) hs
      have hcell : wr.cell? ⟨gW, k, none⟩ = some (.string z) := by
        obtain ⟨g, e, _, _, c0, _⟩ := hsr.at_ hz
        injection e with e
        injection e with e
        subst e
        exact c0
      have HC1 := Lib.hid (HNC.out z hzs wr)
      have HZZ := Lib.hid hz
      cases hv : numV z with
      | none =>
        have HE := Lib.hid (told_stop hz hv)
        rw [hv] at HC1
        simp only [numEnd] at HC1
        clear hz hv
        go_wp2_with fail
        refine HC1.out.mono ?_
        rintro e w2 ⟨rfl, hb2⟩
        go_wp2_with fail
        go_returns
        exact ⟨grow_next hb hb2, .inr ⟨rfl, fun xs _ => HE.out xs⟩⟩
      | some v =>
        have HT1 := Lib.hid (HT.out.snoc hz hv)
        rw [hv] at HC1
        simp only [numEnd] at HC1
        clear hz hv
        go_wp2_with fail
        refine HC1.out.mono ?_
        rintro e w2 ⟨rfl, hb2⟩
        have g2 := grow_next hb hb2
        have hs2 := g2.size
        have hs3 := hb2.size
        have hr2 := hrow.kept (row := none) ⟨hb2.os, hb2.tape, hb2.output, hb2.size, fun k hk _ => hb2.block k hk⟩ (Classical.em _)
        have S2 := (hsr.next hb2).next (below_new w2 (.cells #[.int .i64 v] 2))
        clear hcell HC1 hrow hsr
        go_wp2_with (at_builtin; refine wpList_append_own_at _ rfl _ _ 34 rfl w.heap.size 2 i0 (.int .i64 0) 1 8 Tryz.underlying34 HI0.out HZ0.out HZ1.out HZ2.out rfl (by decide) _ _ _ rfl (hr2.alloc _) ⟨w2.heap.size, 0, none⟩ 1 1 [.int .i64 v] rfl rfl (by simpa using cell_one_newD w2 (.int .i64 v) 2) (by simp [Value.oneCell']) (by unfold maxLen; omega) (by omega) (by simp; omega) ?_; intro v' w4 hown' hgrow _ hloc)
        have S4 := S2.keep hgrow (fun g e => by
          injection e with e
          injection e with e
          subst e
          exact fun h => hne h.symm)
        have hne' : v'.ownBlock ≠ some gW := by
          rcases hloc with h | h
          · rw [h]; exact hne
          · rw [h]
            simp
            omega
        have hg4 : gW < w4.heap.size := by
          have := hgrow.size
          simp at this
          omega
        have G4 := (g2.alloc hs2 (.cells #[.int .i64 v] 2)).grown hgrow (g2.alloc hs2 _).size (fun j hj => (hr2.lt j hj).1)
        clear hloc hne S2 hr2 hgrow
        go_roundw
        case rel => exact ⟨k + 1, xs ++ [v], by omega, by go_num, Lib.hid (by rw [List.length_append, HL.out]; rfl), HT1, by simpa using hown', S4, hne', hg4, G4⟩
        case measure => simp [intOf]; omega
    · have hkN : k = N := by omega
      have HA := Lib.hid (show Told numV ws xs by
        have := HT.out
        rwa [List.take_of_length_le (by rw [HN.out]; omega)] at this)
      by_cases hnn : N = n
      · have HX := Lib.hid (show xs.length = n by rw [HL.out, hkN, hnn])
        have hq : ((N : Int) != (n : Int)) = false := by rw [hnn]; simp
        have HR := Lib.hid (show wr.ownsRow w.heap.size 2 1 u5 n (xs.map (Value.int .i64)) by rw [← hnn, ← hkN]; exact hrow)
        have HKN := Lib.hid hkN
        have hq' : ((k : Int) != (n : Int)) = false := by rw [hkN, hnn]; simp
        clear hkN hnn
        rcases HR.out.2 with ⟨e0, e1⟩ | ⟨g5, c5, cur5, e5, _⟩
        · subst e0
          go_wp2_with fail
          go_returns
          exact ⟨hb, .inl ⟨_, xs, rfl, HX.out, HA.out, HR.out⟩⟩
        · subst e5
          go_wp2_with fail
          go_returns
          exact ⟨hb, .inl ⟨_, xs, rfl, HX.out, HA.out, HR.out⟩⟩
      · have HX := Lib.hid (show ∀ ys : List Int, ys.length = n → ¬ Told numV ws ys from fun ys hy ht => by
          have h1 := ht.length
          have h2 := HN.out
          omega)
        have hq' : ((k : Int) != (n : Int)) = true := by rw [bne_iff_ne]; omega
        clear hkN hnn
        rcases id hrow.2 with ⟨e0, e1⟩ | ⟨g5, c5, cur5, e5, _⟩
        · subst e0
          obtain rfl : k = 0 := by simpa using e1
          exact absurd hpos hlt
        · subst e5
          go_wp2_with fail
          go_returns
          exact ⟨hb, .inr ⟨rfl, HX.out⟩⟩
end Go.Proofs.YtbkkgkmllplbaaaGreatDoor
