/- What is on the program's shelf as files, in rising order of their names. -/
import Derived.Test.YtgmjdalfbebgbaaShKeys
import Derived.Test.YtgmjdalfbebgbaaStrs
namespace Go.Proofs.Ytgmjdalfbebgbaa
open Go.ChangeShapes Go.WideShapes Go.ChangeAt Go.RowKit Go.Maps
set_option linter.unusedVariables false
set_option linter.unusedSimpArgs false
set_option maxRecDepth 100000

theorem shAt_at {L : List Sh} (h : RiseS L) {k : Nat} {e : Sh} (hv : L[k]? = some e) : shAt L e.key = some e := by
  cases hc : shAt L e.key with
  | none => exact absurd rfl (shAt_none hc e (List.mem_of_getElem? hv))
  | some d =>
    obtain ⟨h1, h2⟩ := shAt_some hc
    obtain ⟨j, hj⟩ := List.mem_iff_getElem?.1 h1
    obtain ⟨hjl, hj2⟩ := List.getElem?_eq_some_iff.1 hj
    obtain ⟨hkl, hk2⟩ := List.getElem?_eq_some_iff.1 hv
    rcases Nat.lt_trichotomy j k with hjk | hjk | hjk
    · have := List.pairwise_iff_getElem.1 h j k hjl hkl hjk
      rw [hj2, hk2, h2] at this
      exact absurd this (kb_irrefl _)
    · subst hjk
      rw [hv] at hj
      rw [Option.some.inj hj]
    · have := List.pairwise_iff_getElem.1 h k j hkl hjl hjk
      rw [hj2, hk2, h2] at this
      exact absurd this (kb_irrefl _)
/-- Files of the call's own. -/
def OwnFiles (base : Nat) (W : World) (l : List Fl) : Ending → World → Prop := fun e w' => ∃ (x : Option Addr) (cap : Nat), e = .returned (.slice x l.length cap) ∧ GRow flC 84 base w' x cap l ∧ Below W.heap.size W w'
set_option maxHeartbeats 4000000 in
theorem files_c (base : Nat) (L : List Sh) (n : Nat) (hn : Hid (n = L.length)) (hL : n ≤ 2097152) (hnm : ∀ e ∈ L, e.name.size ≤ 1099511627776) (b : Nat) (w : World) (h : ShMap base w b L) :
    Calls Try.prog 53 #[.map (some b)] w (OwnFiles w.heap.size w (L.map Sh.fl)) := by
  obtain ⟨i0, hi, hz0, hz1, hz2⟩ := info_partsT infoFl
  have HI0 := Lib.hid hi
  have HZ0 := Lib.hid hz0
  have HZ1 := Lib.hid hz1
  have HZ2 := Lib.hid hz2
  clear hi hz0 hz1 hz2
  have HNM := Lib.hid hnm
  have HK := Lib.hid (keysS_c (some b) w)
  have HS := Lib.hid (sortedS_c base b L w h (by rw [← hn.out]; exact hL))
  have HM := Lib.hid h
  clear hnm h
  go_enter Try.func53, Try.ntmps53
  go_wp2_with fail
  refine HK.out.mono ?_
  rintro e w1 ⟨rfl, rfl⟩
  go_wp2_with fail
  refine HS.out.mono ?_
  rintro e W2 ⟨v, rfl, hrow, hb2⟩
  have hl : (L.map Sh.name).length = n := by rw [List.length_map, hn.out]
  have hrow' : W2.ownsRow w.heap.size 9 1 v (L.map Sh.name).length ((L.map Sh.name).map Value.string) := by rw [List.length_map]; exact hrow
  obtain ⟨x, cap, rfl, hI⟩ := str_row hrow'
  rw [hl]
  have M2 := HM.out.next hb2
  have hs2 := hb2.size
  clear HK HS HM hrow hrow' hl
  go_wp2_with fail
  go_loopw [3, 10] (fun o i wr => ∃ (k : Nat), k ≤ n ∧ i = .int .i64 k ∧ wr.ownsRow W2.heap.size 84 2 o k (flatG flC ((L.take k).map Sh.fl)) ∧ Below W2.heap.size W2 wr) (fun _ i _ => n - (RowKit.intOf i).toNat)
  case atStart => exact ⟨0, Nat.zero_le _, rfl, World.ownsRow_nil _ _ _ _, Below.refl _ _⟩
  case round =>
    obtain ⟨k, hk, rfl, hrow, hbw⟩ := hrel
    by_cases hlt : k < n
    · obtain ⟨e, he⟩ := getG (l := L) (k := k) (by rw [← hn.out]; exact hlt)
      obtain ⟨g, rfl, hg1, hg2, d0, _⟩ := (hI.next hbw).at_ (k := k) (z := e.name) (by rw [List.getElem?_map, he]; rfl)
      have M3 := M2.next hbw
      have hns := HNM.out e (List.mem_of_getElem? he)
      have hl := M3.look e.name (by unfold maxLen; omega) false
      have hsl := M3.rows e (List.mem_of_getElem? he)
      have hat : atV L e.name.toList = e.val := by
        unfold atV
        rw [show shAt L e.name.toList = some e from shAt_at M3.rise he]
      rw [hat] at hl
      have hcv := run_of_bytes wr _ _ hsl
      unfold Sh.val hdV at hl hcv
      obtain ⟨X, hX⟩ : ∃ X : Option Addr, (e.hd.map fun g => (⟨g, 0, none⟩ : Addr)) = X := ⟨_, rfl⟩
      rw [hX] at hl hcv
      have hl' : (Instr.lookup 75 (.map (some b)) (.string e.name) false).run Try.prog wr = .ok (.slice X e.data.size e.cap) wr := hl
      have hkn : (k : Int) < (n : Int) := by omega
      have hw1 : IntKind.i64.wrap ((k : Int) + 1) = (k : Int) + 1 := IntWalk.i64_in _ (by omega)
      have HV : Hid (flatG flC ((L.take k).map Sh.fl) ++ [.string e.name, .string e.data] = flatG flC ((L.take (k + 1)).map Sh.fl)) := Lib.hid (by
        rw [take_nextG he, List.map_append, flatG_append]
        simp [flatG, flC, Sh.fl])
      have O1 := Lib.hid (hrow.alloc (.cells #[.string e.name, .string e.data] 84))
      have NS := Lib.hid (cells_newG flC wr ⟨e.name, e.data⟩ 84)
      have B1 := hbw.alloc hbw.size (.cells #[.string e.name, .string e.data] 84)
      have HLo := Lib.hid (fun j hj => (hrow.lt j hj).1)
      have hs3 := hbw.size
      clear hl hsl hat hX he hrow hns
      go_wp2_with (at_builtin; go_loud (refine wpList_append_own _ rfl _ _ 28 rfl W2.heap.size 84 i0 (.agg #[.string ⟨#[]⟩, .string ⟨#[]⟩]) 2 32 Try.underlying28 HI0.out HZ0.out HZ1.out HZ2.out rfl (by decide) _ _ _ rfl O1.out ⟨wr.heap.size, 0, none⟩ 1 1 [.string e.name, .string e.data] rfl rfl NS.out (by intro u hu; simp at hu; rcases hu with rfl | rfl <;> rfl) (by unfold maxLen; omega) (by omega) (by simp; omega) ?_); intro v4 w4 hown4 hgrow4 _)
      rw [HV.out] at hown4
      have B4 := B1.grown hgrow4 B1.size (fun j hj => HLo.out j hj)
      go_roundw
      case rel => exact ⟨k + 1, by omega, by go_num, hown4, B4⟩
      case measure => simp [RowKit.intOf]; omega
    · have e : k = n := by omega
      have hr1 := hrow
      rw [e, hn.out, List.take_length] at hr1
      have hlf : L.length = (L.map Sh.fl).length := by rw [List.length_map]
      obtain ⟨y, cy, rfl, hR⟩ := grow_form (C := flC) hr1 hlf
      have HE : Hid ((L.map Sh.fl).length = L.length) := Lib.hid hlf.symm
      clear e hr1 hrow hlf
      go_wp2_with fail
      go_returns
      exact ⟨y, cy, by rw [HE.out]; rfl, hR.mono (by omega), grow_next hb2 hbw⟩
end Go.Proofs.Ytgmjdalfbebgbaa
