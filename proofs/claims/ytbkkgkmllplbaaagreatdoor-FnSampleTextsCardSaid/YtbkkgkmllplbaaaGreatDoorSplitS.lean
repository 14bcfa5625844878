/- What stands between blanks: the reference's way. -/
import Derived.Test.YtbkkgkmllplbaaaGreatDoorNumS2
import Derived.Test.YtbkkgkmllplbaaaGreatDoorDecI
namespace Go.Proofs.YtbkkgkmllplbaaaGreatDoor
open Go.ChangeShapes Go.WideShapes Go.ChangeAt Go.RowKit Go.Sort
set_option linter.unusedVariables false
set_option linter.unusedSimpArgs false

/-- A row of texts of one's own. -/
def SplitPost (w : World) (s : ByteArray) : Ending → World → Prop := fun e w' => ∃ o, e = .returned o ∧ w'.ownsRow w.heap.size 9 1 o (wordsOf s).length ((wordsOf s).map Value.string) ∧ Below w.heap.size w w'
set_option maxRecDepth 100000 in
set_option maxHeartbeats 2000000 in
theorem l1Split_c (s0 : ByteArray) (hs : s0.size ≤ 1048576) (w : World) : Calls Tryz.prog 25 #[.string s0] w (SplitPost w s0) := by
  obtain ⟨i0, hi, hz0, hz1, hz2⟩ := info_partsT infoStrD
  have HI0 := Lib.hid hi
  have HZ0 := Lib.hid hz0
  have HZ1 := Lib.hid hz1
  have HZ2 := Lib.hid hz2
  clear hi hz0 hz1 hz2
  have HM := Lib.hid (wordsOf_le s0)
  go_enter Tryz.func25, Tryz.ntmps25
  go_wp2_with fail
  have hrow0 := World.ownsRow_made (base := w.heap.size) (e := 9) (size := 1) w #[] 0 (Nat.le_refl _) (by simp [maxLen]) rfl
  go_loopw [0, 3, 4, 5] (fun s o m d wr => ∃ (z : ByteArray) (k : Nat) (L : List ByteArray) (b : Bool), s = .string z ∧ m = .bool b ∧ z.size ≤ 1048576 ∧ Hid (L.length = k) ∧ Hid (if b then L ++ wordsOf z = wordsOf s0 else L = wordsOf s0) ∧ wr.ownsRow w.heap.size 9 1 o k (L.map Value.string) ∧ Below w.heap.size w wr) (fun s _ m _ _ => match m, s with | .bool true, .string z => z.size + 1 | _, _ => 0)
  case atStart => exact ⟨s0, 0, [], true, rfl, rfl, hs, Lib.hid rfl, Lib.hid rfl, hrow0, below_new _ _⟩
  case round =>
    clear hrow0
    obtain ⟨z, k, L, b, rfl, rfl, hz, HL, HW, hrow, hb⟩ := hrel
    cases b with
    | false =>
      have HE := Lib.hid (show L = wordsOf s0 from HW.out)
      go_wp2_with fail
      go_returns
      exact ⟨_, rfl, by rw [← HE.out, HL.out]; exact hrow, hb⟩
    | true =>
      have HV := Lib.hid (show L ++ wordsOf z = wordsOf s0 from HW.out)
      have hk : k ≤ 1048577 := by
        have h1 := congrArg List.length HV.out
        rw [List.length_append, HL.out] at h1
        have := HM.out
        omega
      have HC := Lib.hid (show Calls Tryz.prog 40 #[.string z, .int .u8 32] wr (CutPost z 32 wr) from l1Cut_c z hz 32 wr)
      have hsz := hb.size
      clear HW
      go_wp2_with fail
      refine HC.out.mono ?_
      rintro e w1 ⟨hb1, ⟨q, hq, hc, hn, rfl⟩ | ⟨hn, rfl⟩⟩
      · have g1 := grow_next hb hb1
        have hs1 := g1.size
        have hr1 := hrow.kept (row := none) ⟨hb1.os, hb1.tape, hb1.output, hb1.size, fun k hk _ => hb1.block k hk⟩ (Classical.em _)
        have hw := wordsOf_hit hq hc hn
        have hrs : (z.extract (q + 1) z.size).size + 1 ≤ z.size := by rw [ByteArray.size_extract]; omega
        generalize z.extract 0 q = d at hw ⊢
        generalize z.extract (q + 1) z.size = r at hw hrs ⊢
        have HN := Lib.hid (show (L ++ [d]) ++ wordsOf r = wordsOf s0 by rw [← HV.out, hw, List.append_assoc]; rfl)
        clear hw hn hc hb1 hrow HC HV
        go_wp2_with (at_builtin; refine wpList_append_own _ rfl _ _ 47 rfl w.heap.size 9 i0 (.string ByteArray.empty) 1 16 Tryz.underlying47 HI0.out HZ0.out HZ1.out HZ2.out rfl (by decide) _ _ _ rfl (hr1.alloc _) ⟨w1.heap.size, 0, none⟩ 1 1 [.string d] rfl rfl (by simpa using cell_one_newD w1 (.string d) 9) (by simp [Value.oneCell']) (by unfold maxLen; omega) (by omega) (by simp; omega) ?_; intro v' w4 hown' hgrow _)
        go_roundw
        case rel => exact ⟨r, k + 1, L ++ [d], true, rfl, rfl, by omega, Lib.hid (by rw [List.length_append, HL.out]; rfl), HN, by simpa using hown', (g1.alloc hs1 _).grown hgrow (g1.alloc hs1 _).size (fun j hj => (hr1.lt j hj).1)⟩
        case measure => simp; omega
      · have g1 := grow_next hb hb1
        have hs1 := g1.size
        have hr1 := hrow.kept (row := none) ⟨hb1.os, hb1.tape, hb1.output, hb1.size, fun k hk _ => hb1.block k hk⟩ (Classical.em _)
        have HN := Lib.hid (show L ++ [z] = wordsOf s0 by rw [← HV.out, wordsOf_miss hn])
        clear hn hb1 hrow HC HV
        go_wp2_with (at_builtin; refine wpList_append_own _ rfl _ _ 47 rfl w.heap.size 9 i0 (.string ByteArray.empty) 1 16 Tryz.underlying47 HI0.out HZ0.out HZ1.out HZ2.out rfl (by decide) _ _ _ rfl (hr1.alloc _) ⟨w1.heap.size, 0, none⟩ 1 1 [.string z] rfl rfl (by simpa using cell_one_newD w1 (.string z) 9) (by simp [Value.oneCell']) (by unfold maxLen; omega) (by omega) (by simp; omega) ?_; intro v' w4 hown' hgrow _)
        go_roundw
        case rel => exact ⟨⟨#[]⟩, k + 1, L ++ [z], false, rfl, rfl, Nat.zero_le _, Lib.hid (by rw [List.length_append, HL.out]; rfl), HN, by simpa using hown', (g1.alloc hs1 _).grown hgrow (g1.alloc hs1 _).size (fun j hj => (hr1.lt j hj).1)⟩
        case measure => simp
end Go.Proofs.YtbkkgkmllplbaaaGreatDoor
