/- The reference's files behind an op. -/
import Derived.Test.YtgmjdalfbebgbaaDkFiles
import Derived.Test.YtgmjdalfbebgbaaDkOkI
namespace Go.Proofs.Ytgmjdalfbebgbaa
open Go.ChangeShapes Go.WideShapes Go.ChangeAt Go.RowKit Go.Sort
set_option linter.unusedVariables false
set_option linter.unusedSimpArgs false
set_option maxRecDepth 100000

def OwnFT (W : World) (l : List Fl) (b : Bool) : Ending → World → Prop := fun e w' => ∃ (x : Option Addr) (cap : Nat), e = .returned (.tuple #[.slice x l.length cap, .bool b]) ∧ GRow flC 84 W.heap.size w' x cap l ∧ Below W.heap.size W w'
theorem cutF_len (l : List Fl) (k : List UInt8) : (cutF l k).length ≤ l.length := List.length_filter_le _ _
theorem four_cellsD {W : World} {b : Nat} {x0 x1 x2 x3 : Value} {t : TypeId} (h : W.heap[b]? = some (.cells #[x0, x1, x2, x3] t)) : W.cell? ⟨b, 0, none⟩ = some x0 ∧ W.cell? ⟨b, 1, none⟩ = some x1 ∧ W.cell? ⟨b, 2, none⟩ = some x2 ∧ W.cell? ⟨b, 3, none⟩ = some x3 := ⟨blk_cell h rfl, blk_cell h rfl, blk_cell h rfl, blk_cell h rfl⟩
set_option maxHeartbeats 4000000 in
theorem l10Do_c (l : List Fl) (hr : RiseF l) (o : Dp) (n : Nat) (hn : Hid (n = l.length)) (hb : n ≤ 1000000) (x : Option Addr) (cap : Nat) (hx : x = none → cap = 0) (w : World) (h : GAt flC w.heap.size w x l) (hod : o.data.size ≤ 1099511627776) (hfs : ∀ f ∈ l, f.data.size ≤ 1099511627776) :
    Calls Try.prog 42 #[.slice x n cap, .agg #[.int .i64 o.kind, .string o.name, .string o.to, .string o.data]] w (OwnFT w (doneV l o) (toldV l o)) := by
  have HFS := Lib.hid hfs
  have HR := Lib.hid hr
  have HX := Lib.hid hx
  clear hfs hr hx
  have B1 : Below w.heap.size w (w.alloc (.cells #[.int .i64 o.kind, .string o.name, .string o.to, .string o.data] 40)) := below_new _ _
  have Z1 := blk_new w (.cells #[.int .i64 o.kind, .string o.name, .string o.to, .string o.data] 40)
  have h1 := h.next B1
  go_enter Try.func42, Try.ntmps42
  go_upto_region 1 with fail
  generalize w.alloc (.cells #[.int .i64 o.kind, .string o.name, .string o.to, .string o.data] 40) = W1 at *
  have HZ1 := Lib.hid Z1
  obtain ⟨c0, c1, c2, c3⟩ := four_cellsD Z1
  clear h Z1
  have HAT := Lib.hid (l10At_c l o.name n hn (by omega) x cap W1 h1)
  go_upto_region 2 with (refine HAT.out.mono ?_; rintro e w1 ⟨rfl, rfl⟩)
  clear HAT
  rcases idxF_cases l o.name.toList with ⟨hi, hfa⟩ | ⟨j, f, hi, hf, hfa, hk⟩
  · rw [hi]
    clear hi
    by_cases k1 : o.kind = 1
    · have HD : Hid (putEnd l ⟨o.name, o.data⟩ l.length = doneV l o ∧ toldV l o = true) := Lib.hid ⟨by rw [putEnd_is HR.out]; unfold doneV Dp.key; rw [hfa]; simp [k1], by unfold toldV; simp [k1]⟩
      have q1 : (o.kind == 1) = true := by rw [k1]; rfl
      have HP := Lib.hid (l10Put_c l o.name o.data n hn (by omega) x cap W1 h1)
      clear k1
      go_wp2_with fail
      refine HP.out.mono ?_
      rintro e w2 ⟨y, cy, rfl, hR, B2⟩
      clear HP
      go_wp2_with fail
      go_returns
      exact ⟨y, cy, by rw [← HD.out.1, HD.out.2]; rfl, by rw [← HD.out.1]; exact hR.mono B1.size, B1.trans (B2.mono B1.size)⟩
    · have q1 : (o.kind == 1) = false := by rw [beq_eq_false_iff_ne]; exact k1
      have HD : Hid (doneV l o = l ∧ toldV l o = false) := Lib.hid ⟨by unfold doneV Dp.key; rw [hfa]; simp [k1], by unfold toldV Dp.key; rw [hfa]; simp [k1]⟩
      obtain ⟨i0, hi, hz0, hz1, hz2⟩ := info_partsT infoFl
      have HI0 := Lib.hid hi
      have HZ0 := Lib.hid hz0
      have HZ1 := Lib.hid hz1
      have HZ2 := Lib.hid hz2
      clear hi hz0 hz1 hz2
      have R0 := World.ownsRow_made (base := W1.heap.size) (e := 84) (size := 2) W1 #[] 0 (Nat.le_refl _) (by simp [maxLen]) rfl
      have SRC := Lib.hid ((h1.next (below_new W1 (.cells #[] 84))).src hn.out HX.out)
      have B2 : Below W1.heap.size W1 (W1.alloc (.cells #[] 84)) := below_new _ _
      have E1 := Lib.hid k1
      clear k1
      go_wp2_with (at_builtin; refine wpList_append_any rfl _ _ 28 rfl W1.heap.size 84 i0 (.agg #[.string ⟨#[]⟩, .string ⟨#[]⟩]) 2 32 Try.underlying28 HI0.out HZ0.out HZ1.out HZ2.out rfl (by decide) _ _ _ rfl R0 (.slice x n cap) n (flatG flC l) rfl SRC.out flatG_oneC (by unfold maxLen; omega) (by omega) (by simp) ?_; intro v' w3 hown hgrow; have hown2 : w3.ownsRow W1.heap.size 84 flC.size v' n (flatG flC l) := (by have hh := hown; simp only [Nat.zero_add, List.nil_append] at hh; exact hh); obtain ⟨a3, c3, rfl, row3⟩ := grow_form (C := flC) (l := l) hown2 hn.out)
      have B3 := B2.grown hgrow B2.size (fun j hj => (R0.lt j hj).1)
      go_returns
      exact ⟨a3, c3, by rw [HD.out.1, HD.out.2, ← hn.out]; rfl, by rw [HD.out.1]; exact row3.mono B1.size, B1.trans (B3.mono B1.size)⟩
  · rw [hi]
    have hjl : j < n := by rw [hn.out]; exact (List.getElem?_eq_some_iff.1 hf).1
    have hfd := HFS.out f (List.mem_of_getElem? hf)
    clear hi
    have g1 : ¬ (j : Int) < 0 := by omega
    have g2 : (0 : Int) ≤ (j : Int) := by omega
    obtain ⟨b, off, rfl, _, d0, d1⟩ := h1.fl hf
    clear hf
    by_cases k1 : o.kind = 1
    · have HD : Hid (putEnd l ⟨o.name, f.data ++ o.data⟩ l.length = doneV l o ∧ toldV l o = true) := Lib.hid ⟨by rw [putEnd_is HR.out]; unfold doneV Dp.key; rw [hfa]; simp [k1], by unfold toldV; simp [k1]⟩
      have q1 : (o.kind == 1) = true := by rw [k1]; rfl
      have HP := Lib.hid (l10Put_c l o.name (f.data ++ o.data) n hn (by omega) (some ⟨b, off, none⟩) cap W1 h1)
      clear k1
      go_wp2_with fail
      refine HP.out.mono ?_
      rintro e w2 ⟨y, cy, rfl, hR, B2⟩
      clear HP
      go_wp2_with fail
      go_returns
      exact ⟨y, cy, by rw [← HD.out.1, HD.out.2]; rfl, by rw [← HD.out.1]; exact hR.mono B1.size, B1.trans (B2.mono B1.size)⟩
    · have q1 : (o.kind == 1) = false := by rw [beq_eq_false_iff_ne]; exact k1
      have HC := Lib.hid (l10Cut_c l o.name n hn (by omega) (some ⟨b, off, none⟩) cap W1 h1)
      have HT : Hid (toldV l o = true) := Lib.hid (by unfold toldV Dp.key; rw [hfa]; simp)
      by_cases k2 : o.kind = 2
      · have HD : Hid (putEnd (cutF l o.name.toList) ⟨o.to, f.data⟩ (cutF l o.name.toList).length = doneV l o) := Lib.hid (by rw [putEnd_is (cutF_rise _ HR.out)]; unfold doneV Dp.key; rw [hfa]; simp [k2])
        have q2 : (o.kind == 2) = true := by rw [k2]; rfl
        clear k1 k2
        go_upto_region 10 with (go_at_call 81; (with_reducible refine HC.out.mono ?_); rintro e w2 ⟨y, cy, rfl, hR, B2⟩)
        have B3 := B1.trans (B2.mono B1.size)
        have hw2 : w.heap.size ≤ w2.heap.size := B3.size
        obtain ⟨c0', c1', c2', c3'⟩ := four_cellsD (blk_next B2 HZ1.out)
        have d1' := (B2.cell (p := ⟨b, off + j * 2 + 1, none⟩) (by assumption)).trans d1
        have HP := Lib.hid (fun W h => l10Put_c (cutF l o.name.toList) o.to f.data (cutF l o.name.toList).length (Lib.hid rfl) (by have := cutF_len l o.name.toList; have := hn.out; omega) y cy W h)
        have hAT := hR.at
        clear c0 c1 c2 c3 d0 d1 HC
        go_upto_region 11 with fail
        have Bd := below_drewS w2
        have hAd : GAt flC w2.drew.heap.size w2.drew y (cutF l o.name.toList) := hAT.next Bd
        have HPd := Lib.hid (HP.out w2.drew hAd)
        obtain ⟨e0, e1, e2, e3⟩ := four_cellsD (blk_next Bd (blk_next B2 HZ1.out))
        have f1 := (Bd.cell (p := ⟨b, off + j * 2 + 1, none⟩) (Nat.lt_of_lt_of_le (by assumption) B2.size)).trans d1'
        clear hAT hAd HP c0' c1' c2' c3' d1'
        go_region_with (first
          | (go_at_call 80; (with_reducible refine HPd.out.mono ?_); rintro e w5 ⟨z, cz, rfl, hRz, B5⟩))
        all_goals
          go_wp2_with fail
          go_returns
          exact ⟨z, cz, by rw [← HD.out, HT.out]; rfl, by rw [← HD.out]; exact hRz.mono hw2, B3.trans ((Bd.mono hw2).trans (B5.mono hw2))⟩
      · have q2 : (o.kind == 2) = false := by rw [beq_eq_false_iff_ne]; exact k2
        have HD : Hid (doneV l o = cutF l o.name.toList) := Lib.hid (by unfold doneV Dp.key; rw [hfa]; simp [k1, k2])
        have E1 := Lib.hid k1
        have E2 := Lib.hid k2
        clear k1 k2
        go_upto_region 10 with (go_at_call 81; (with_reducible refine HC.out.mono ?_); rintro e w2 ⟨y, cy, rfl, hR, B2⟩)
        have B3 := B1.trans (B2.mono B1.size)
        obtain ⟨c0', c1', c2', c3'⟩ := four_cellsD (blk_next B2 HZ1.out)
        go_wp2_with fail
        go_returns
        exact ⟨y, cy, by rw [HD.out, HT.out]; rfl, by rw [HD.out]; exact hR.mono B1.size, B3⟩
end Go.Proofs.Ytgmjdalfbebgbaa
