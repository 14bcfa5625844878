/- The reference's putting in: the walk. -/
import Derived.Test.YtgmjdalfbebgbaaDkPut
namespace Go.Proofs.Ytgmjdalfbebgbaa
open Go.ChangeShapes Go.WideShapes Go.ChangeAt Go.RowKit
set_option linter.unusedVariables false
set_option linter.unusedSimpArgs false
set_option maxRecDepth 100000

theorem putTo_next {l : List Fl} {c f : Fl} {k : Nat} (h : l[k]? = some f) : putTo l c (k + 1) =
    ((if (f.key == c.key) = true then (if ((putTo l c k).2 || decide (f.key < c.key)) = true then putTo l c k else ((putTo l c k).1 ++ [c], true)).1 else (if ((putTo l c k).2 || decide (f.key < c.key)) = true then putTo l c k else ((putTo l c k).1 ++ [c], true)).1 ++ [f]),
      (if ((putTo l c k).2 || decide (f.key < c.key)) = true then putTo l c k else ((putTo l c k).1 ++ [c], true)).2) := by
  rw [putTo, h]
set_option maxHeartbeats 4000000 in
theorem l10Put_c (l : List Fl) (s d : ByteArray) (n : Nat) (hn : Hid (n = l.length)) (hb : n ≤ 1073741) (x : Option Addr) (cap : Nat) (w : World) (h : GAt flC w.heap.size w x l) :
    Calls Try.prog 80 #[.slice x n cap, .string s, .string d] w (OwnF w (putEnd l ⟨s, d⟩ l.length)) := by
  obtain ⟨i0, hi, hz0, hz1, hz2⟩ := info_partsT infoFl
  have HI0 := Lib.hid hi
  have HZ0 := Lib.hid hz0
  have HZ1 := Lib.hid hz1
  have HZ2 := Lib.hid hz2
  clear hi hz0 hz1 hz2
  have R0 := World.ownsRow_made (base := w.heap.size) (e := 84) (size := 2) w #[] 0 (Nat.le_refl _) (by simp [maxLen]) rfl
  have B0 : Below w.heap.size w (w.alloc (.cells #[] 84)) := below_new _ _
  obtain ⟨c, hcc⟩ : ∃ c : Fl, c = ⟨s, d⟩ := ⟨_, rfl⟩
  rw [← hcc]
  have hck : c.key = s.toList := by rw [hcc]; rfl
  have hcs : flC.cells c = [.string s, .string d] := by rw [hcc]; rfl
  have HCK := Lib.hid hck
  have HCS := Lib.hid hcs
  clear hck hcs hcc
  go_enter Try.func80, Try.ntmps80
  go_wp2_with fail
  go_loopw [7, 8, 9] (fun o dn i wr => ∃ (k : Nat) (m : List Fl) (b : Bool), k ≤ n ∧ i = .int .i64 k ∧ dn = .bool b ∧ Hid (putTo l c k = (m, b)) ∧ m.length ≤ 2 * k ∧ wr.ownsRow w.heap.size 84 2 o m.length (flatG flC m) ∧ Below w.heap.size w wr) (fun _ _ i _ => n - (RowKit.intOf i).toNat)
  case atStart => exact ⟨0, [], false, Nat.zero_le _, rfl, rfl, Lib.hid rfl, Nat.zero_le _, R0, B0⟩
  case round =>
    obtain ⟨k, m, b, hk, rfl, rfl, HM, hml, hrow, hbw⟩ := hrel
    clear R0 B0
    by_cases hlt : k < n
    · obtain ⟨f, hf⟩ := getG (l := l) (k := k) (by rw [← hn.out]; exact hlt)
      obtain ⟨g, off, rfl, _, d0, d1⟩ := (h.next hbw).fl hf
      have hkn : (k : Int) < (n : Int) := by omega
      have hw1 : IntKind.i64.wrap ((k : Int) + 1) = (k : Int) + 1 := IntWalk.i64_in _ (by omega)
      have HN := Lib.hid (putTo_next (c := c) hf)
      rw [HM.out, HCK.out] at HN
      have HK : Hid (f.key = f.name.toList) := Lib.hid rfl
      rw [HK.out] at HN
      have HF := Lib.hid hf
      have HL : Hid ((putTo l c (k + 1)).1.length ≤ 2 * (k + 1)) := Lib.hid (putTo_len l c (k + 1))
      clear hf
      cases b with
      | true =>
        cases hq : (f.name.toList == s.toList) with
        | true =>
          have HT : Hid (putTo l c (k + 1) = (m, true)) := Lib.hid (by rw [HN.out, hq]; rfl)
          clear HN
          go_wp2_with fail
          go_roundw
          case rel => exact ⟨k + 1, m, true, by omega, by go_num, rfl, HT, by omega, hrow, hbw⟩
          case measure => simp [RowKit.intOf]; omega
        | false =>
          have HT : Hid (putTo l c (k + 1) = (m ++ [f], true)) := Lib.hid (by rw [HN.out, hq]; rfl)
          clear HN
          have O1 := Lib.hid (hrow.alloc (.cells #[.string f.name, .string f.data] 84))
          have NS := Lib.hid (cells_newG flC wr f 84)
          have B1 := hbw.alloc hbw.size (.cells #[.string f.name, .string f.data] 84)
          have HLo := Lib.hid (fun j hj => (hrow.lt j hj).1)
          have hs3 := hbw.size
          clear hrow
          go_wp2_with (at_builtin; go_loud (refine wpList_append_own _ rfl _ _ 28 rfl w.heap.size 84 i0 (.agg #[.string ⟨#[]⟩, .string ⟨#[]⟩]) 2 32 Try.underlying28 HI0.out HZ0.out HZ1.out HZ2.out rfl (by decide) _ _ _ rfl (O1.out) ⟨wr.heap.size, 0, none⟩ 1 1 ([.string f.name, .string f.data]) rfl rfl (NS.out) (by intro u hu; simp at hu; rcases hu with rfl | rfl <;> rfl) (by unfold maxLen; omega) (by omega) (by simp; omega) ?_); intro v4 w4 hown4 hgrow4 _)
          have B4 := B1.grown hgrow4 B1.size (fun j hj => HLo.out j hj)
          go_roundw
          case rel => exact ⟨k + 1, m ++ [f], true, by omega, by go_num, rfl, HT, by have := HL.out; rw [HT.out] at this; exact this, by rw [flatG_append, List.length_append]; exact hown4, B4⟩
          case measure => simp [RowKit.intOf]; omega
      | false =>
        cases hl : Op.bytesLess f.name.toList s.toList with
        | true =>
          have hlt2 : f.name.toList < s.toList := by rw [less_is] at hl; exact of_decide_eq_true hl
          have hq : (f.name.toList == s.toList) = false := by rw [beq_eq_false_iff_ne]; exact kb_ne hlt2
          have HT : Hid (putTo l c (k + 1) = (m ++ [f], false)) := Lib.hid (by rw [HN.out, hq, decide_eq_true hlt2]; rfl)
          clear HN hlt2
          have O1 := Lib.hid (hrow.alloc (.cells #[.string f.name, .string f.data] 84))
          have NS := Lib.hid (cells_newG flC wr f 84)
          have B1 := hbw.alloc hbw.size (.cells #[.string f.name, .string f.data] 84)
          have HLo := Lib.hid (fun j hj => (hrow.lt j hj).1)
          have hs3 := hbw.size
          clear hrow
          go_wp2_with (at_builtin; go_loud (refine wpList_append_own _ rfl _ _ 28 rfl w.heap.size 84 i0 (.agg #[.string ⟨#[]⟩, .string ⟨#[]⟩]) 2 32 Try.underlying28 HI0.out HZ0.out HZ1.out HZ2.out rfl (by decide) _ _ _ rfl (O1.out) ⟨wr.heap.size, 0, none⟩ 1 1 ([.string f.name, .string f.data]) rfl rfl (NS.out) (by intro u hu; simp at hu; rcases hu with rfl | rfl <;> rfl) (by unfold maxLen; omega) (by omega) (by simp; omega) ?_); intro v4 w4 hown4 hgrow4 _)
          have B4 := B1.grown hgrow4 B1.size (fun j hj => HLo.out j hj)
          go_roundw
          case rel => exact ⟨k + 1, m ++ [f], false, by omega, by go_num, rfl, HT, by have := HL.out; rw [HT.out] at this; exact this, by rw [flatG_append, List.length_append]; exact hown4, B4⟩
          case measure => simp [RowKit.intOf]; omega
        | false =>
          have hlt2 : ¬ f.name.toList < s.toList := by rw [less_is] at hl; exact of_decide_eq_false hl
          have O1 := Lib.hid (hrow.alloc (.cells #[.string s, .string d] 84))
          have NS : Hid (∀ j u, (flC.cells c)[j]? = some u → (wr.alloc (.cells #[.string s, .string d] 84)).cell? ((⟨wr.heap.size, 0, none⟩ : Addr).add j) = some u) := Lib.hid (by
            have := cells_newG flC wr c 84
            rw [HCS.out] at this
            rw [HCS.out]
            exact this)
          rw [HCS.out] at NS
          have B1 := hbw.alloc hbw.size (.cells #[.string s, .string d] 84)
          have HLo := Lib.hid (fun j hj => (hrow.lt j hj).1)
          have hs3 := hbw.size
          clear hrow
          have HBW := Lib.hid hbw
          go_upto_region 9 with (at_builtin; go_loud (refine wpList_append_own _ rfl _ _ 28 rfl w.heap.size 84 i0 (.agg #[.string ⟨#[]⟩, .string ⟨#[]⟩]) 2 32 Try.underlying28 HI0.out HZ0.out HZ1.out HZ2.out rfl (by decide) _ _ _ rfl (O1.out) ⟨wr.heap.size, 0, none⟩ 1 1 ([.string s, .string d]) rfl rfl (NS.out) (by intro u hu; simp at hu; rcases hu with rfl | rfl <;> rfl) (by unfold maxLen; omega) (by omega) (by simp; omega) ?_); intro v4 w4 hown4 hgrow4 _)
          have B4 := B1.grown hgrow4 B1.size (fun j hj => HLo.out j hj)
          obtain ⟨g', off', e', _, d0', d1'⟩ := (h.next B4).fl HF.out
          simp only [Option.some.injEq, Addr.mk.injEq] at e'
          obtain ⟨rfl, rfl, _⟩ := e'
          have hrow5 : w4.ownsRow w.heap.size 84 flC.size v4 (m.length + 1) (flatG flC (m ++ [c])) := by rw [flatG_append, flatG_one1, HCS.out]; exact hown4
          clear hown4 d0 d1 hgrow4 O1 NS HLo B1 hs3
          have hs3 := B4.size
          cases hq : (f.name.toList == s.toList) with
          | true =>
            have HT : Hid (putTo l c (k + 1) = (m ++ [c], true)) := Lib.hid (by rw [HN.out, hq, decide_eq_false hlt2]; rfl)
            clear HN hlt2
            go_wp2_with fail
            go_roundw
            case rel => exact ⟨k + 1, m ++ [c], true, by omega, by go_num, rfl, HT, by have := HL.out; rw [HT.out] at this; exact this, by rw [List.length_append]; exact hrow5, B4⟩
            case measure => simp [RowKit.intOf]; omega
          | false =>
            have HT : Hid (putTo l c (k + 1) = (m ++ [c] ++ [f], true)) := Lib.hid (by rw [HN.out, hq, decide_eq_false hlt2]; rfl)
            clear HN hlt2
            have O5 := Lib.hid (hrow5.alloc (.cells #[.string f.name, .string f.data] 84))
            have NS5 := Lib.hid (cells_newG flC w4 f 84)
            have B5 := B4.alloc B4.size (.cells #[.string f.name, .string f.data] 84)
            have HLo := Lib.hid (fun j hj => (hrow5.lt j hj).1)
            clear hrow5
            go_wp2_with (at_builtin; go_loud (refine wpList_append_own _ rfl _ _ 28 rfl w.heap.size 84 i0 (.agg #[.string ⟨#[]⟩, .string ⟨#[]⟩]) 2 32 Try.underlying28 HI0.out HZ0.out HZ1.out HZ2.out rfl (by decide) _ _ _ rfl (O5.out) ⟨w4.heap.size, 0, none⟩ 1 1 ([.string f.name, .string f.data]) rfl rfl (NS5.out) (by intro u hu; simp at hu; rcases hu with rfl | rfl <;> rfl) (by unfold maxLen; omega) (by omega) (by simp; omega) ?_); intro v6 w6 hown6 hgrow6 _)
            have B6 := B5.grown hgrow6 B5.size (fun j hj => HLo.out j hj)
            go_roundw
            case rel => exact ⟨k + 1, m ++ [c] ++ [f], true, by omega, by go_num, rfl, HT, by have := HL.out; rw [HT.out] at this; exact this, by rw [flatG_append, List.length_append, List.length_append]; exact hown6, B6⟩
            case measure => simp [RowKit.intOf]; omega
    · have e : k = n := by omega
      have hkn : ¬ (k : Int) < (n : Int) := by omega
      rw [e, hn.out] at HM
      cases b with
      | true =>
        have HE : Hid (putEnd l c l.length = m) := Lib.hid (by unfold putEnd; rw [HM.out]; rfl)
        obtain ⟨y, cy, rfl, hR⟩ := grow_form (C := flC) hrow rfl
        clear e hrow
        go_wp2_with fail
        go_returns
        exact ⟨y, cy, by rw [HE.out]; rfl, by rw [HE.out]; exact hR, hbw⟩
      | false =>
        have HE : Hid (putEnd l c l.length = m ++ [c]) := Lib.hid (by unfold putEnd; rw [HM.out]; rfl)
        have O1 := Lib.hid (hrow.alloc (.cells #[.string s, .string d] 84))
        have NS : Hid (∀ j u, (flC.cells c)[j]? = some u → (wr.alloc (.cells #[.string s, .string d] 84)).cell? ((⟨wr.heap.size, 0, none⟩ : Addr).add j) = some u) := Lib.hid (by
          have := cells_newG flC wr c 84
          rw [HCS.out] at this
          rw [HCS.out]
          exact this)
        rw [HCS.out] at NS
        have B1 := hbw.alloc hbw.size (.cells #[.string s, .string d] 84)
        have HLo := Lib.hid (fun j hj => (hrow.lt j hj).1)
        have hs3 := hbw.size
        clear hrow e
        go_wp2_with (at_builtin; go_loud (refine wpList_append_own _ rfl _ _ 28 rfl w.heap.size 84 i0 (.agg #[.string ⟨#[]⟩, .string ⟨#[]⟩]) 2 32 Try.underlying28 HI0.out HZ0.out HZ1.out HZ2.out rfl (by decide) _ _ _ rfl (O1.out) ⟨wr.heap.size, 0, none⟩ 1 1 ([.string s, .string d]) rfl rfl (NS.out) (by intro u hu; simp at hu; rcases hu with rfl | rfl <;> rfl) (by unfold maxLen; omega) (by omega) (by simp; omega) ?_); intro v4 w4 hown4 hgrow4 _)
        have B4 := B1.grown hgrow4 B1.size (fun j hj => HLo.out j hj)
        have hown5 : w4.ownsRow w.heap.size 84 flC.size v4 (m.length + 1) (flatG flC (m ++ [c])) := by rw [flatG_append, flatG_one1, HCS.out]; exact hown4
        obtain ⟨y, cy, rfl, hR⟩ := grow_form (C := flC) hown5 (by rw [List.length_append]; rfl)
        go_wp2_with fail
        go_returns
        exact ⟨y, cy, by rw [HE.out, List.length_append]; rfl, by rw [HE.out]; exact hR, B4⟩
end Go.Proofs.Ytgmjdalfbebgbaa
