/- The program's shelf made of files. -/
import Derived.Test.YtgmjdalfbebgbaaShMap
import Derived.Test.YtgmjdalfbebgbaaFl
import Derived.Deep.RegionWith
import Derived.Deep.Cut
import Derived.Deep.CutRange
namespace Go.Proofs.Ytgmjdalfbebgbaa
open Go.ChangeShapes Go.WideShapes Go.ChangeAt Go.RowKit Go.Maps
set_option linter.unusedVariables false
set_option linter.unusedSimpArgs false
set_option maxRecDepth 100000

theorem grownN {w w' : World} (h : Below w.heap.size w w') : w.grownBy w' none := ⟨h.os, h.tape, h.output, h.size, fun k hk _ => h.block k hk⟩
theorem belowN {w w' : World} (h : w.grownBy w' none) : Below w.heap.size w w' := ⟨h.os, h.tape, h.output, h.size, fun k hk => h.block k hk (by simp)⟩
theorem ShMap.old {base b : Nat} {w : World} {L : List Sh} (h : ShMap base w b L) {e : Sh} (he : e ∈ L) {g : Nat} (hg : e.hd = some g) : g < w.heap.size := (h.rows e he).lt g (by rw [val_own]; exact hg)
theorem take_rise {l : List Fl} (h : RiseF l) {k : Nat} {f : Fl} (hf : l[k]? = some f) : RiseF (l.take k ++ [f]) := by
  rw [← take_nextG hf]
  exact List.Pairwise.sublist (List.take_sublist _ _) h
set_option maxHeartbeats 4000000 in
theorem shelfOf_c (l : List Fl) (hr : RiseF l) (hnm : ∀ f ∈ l, f.name.size ≤ 1099511627776) (n : Nat) (hn : Hid (n = l.length)) (hs : SmallF l) (x : Option Addr) (cap : Nat) (w : World) (h : GAt flC w.heap.size w x l) :
    Calls Try.prog 48 #[.slice x n cap] w fun e w' => ∃ b L, e = .returned (.map (some b)) ∧ L.map Sh.fl = l ∧ ShMap w.heap.size w' b L ∧ Below w.heap.size w w' := by
  have hn2 : n ≤ 2097152 := by rw [hn.out]; exact hs.1
  have HS := Lib.hid hs
  have HR := Lib.hid hr
  have HNM := Lib.hid hnm
  have hmm := @run_makeMap Try.prog
  have M0 := ShMap.made w
  have B0 : Below w.heap.size w (w.alloc (.map #[] 0)) := below_new _ _
  clear hs hr hnm
  go_enter Try.func48, Try.ntmps48
  go_upto_region 2 with fail
  obtain ⟨b, hb⟩ : ∃ b, w.heap.size = b := ⟨_, rfl⟩
  rw [hb] at M0 ⊢
  obtain ⟨W1, hW1⟩ : ∃ W, W = w.alloc (.map #[] 0) := ⟨_, rfl⟩
  rw [← hW1] at M0 B0
  rw [← hW1]
  have HG := Lib.hid h
  have HB := Lib.hid hb
  clear hmm hW1 hb h
  go_wp2_with fail
  go_loopw [9] (fun i wr => ∃ (k : Nat) (L : List Sh), k ≤ n ∧ i = .int .i64 k ∧ Hid (L.map Sh.fl = l.take k) ∧ ShMap b wr b L ∧ Below w.heap.size w wr) (fun i _ => n - (RowKit.intOf i).toNat)
  case atStart => exact ⟨0, [], Nat.zero_le _, rfl, Lib.hid rfl, M0, B0⟩
  case round =>
    obtain ⟨k, L, hk, rfl, HL, hm, hbw⟩ := hrel
    clear M0 B0
    by_cases hlt : k < n
    · obtain ⟨f, hf⟩ := getG (l := l) (k := k) (by rw [← hn.out]; exact hlt)
      obtain ⟨g, off, rfl, hbB, d0, d1⟩ := (HG.out.below hbw).fl hf
      have hkn : (k : Int) < (n : Int) := by omega
      have hw1 : IntKind.i64.wrap ((k : Int) + 1) = (k : Int) + 1 := IntWalk.i64_in _ (by omega)
      have hfm := List.mem_of_getElem? hf
      have hds := HS.out.2 f hfm
      have hns := HNM.out f hfm
      have hkey := key_sh (s := f.name) (by unfold maxLen; omega)
      obtain ⟨e0, e1⟩ := two_new wr (.string f.name) (.string f.data) 84
      obtain ⟨v, w2, hrun, hsl, hg2, hob⟩ := run_to_bytes (wr.alloc (.cells #[.string f.name, .string f.data] 84)) f.data (by omega)
      have hlen : L.length = k := by
        have := congrArg List.length HL.out
        simp only [List.length_map, List.length_take] at this
        have := hn.out
        omega
      have HP : Hid ((putF (l.take k) f) = l.take (k + 1)) := Lib.hid (by rw [putF_last (take_rise HR.out hf), take_nextG hf])
      rcases hsl with ⟨rfl, _⟩ | ⟨q, qc, rfl, hbytes⟩
      · cases hob
      · have hq : q = wr.heap.size + 1 := by
          have : q = (wr.alloc (.cells #[.string f.name, .string f.data] 84)).heap.size := by simpa [Value.ownBlock] using hob
          rw [this, World.size_alloc]
        have G2 : wr.grownBy w2 none := (World.grownBy_alloc wr (.cells #[.string f.name, .string f.data] 84) none).trans hg2
        have M2 := hm.next (belowN G2)
        have M2o := M2.own
        have hroom : L.length < maxLen := by unfold maxLen; omega
        have HQ := Lib.hid hq
        have hsz := hbw.size
        clear hf hob hq
        go_wp2_with (at_mapUpdate; go_loud (refine wpList_mapUpdate_own _ rfl _ _ _ 75 rfl 9 57 shLaw Try.underlying75 shR b L.length (shD L) rfl M2o hroom _ _ _ rfl rfl hkey (hdD (some q) f.data.size qc) [] (shR_mk (some q) f.data.size qc) ?_); intro w3 hown3 hgrow3)
        have M3 := hm.put (c := ⟨f.name, some q, qc, f.data⟩) (row := none) G2 (by simp) (fun _ _ _ _ _ => by simp) (.inr ⟨q, qc, rfl, hbytes⟩)
          (fun g e => by cases e; have := HQ.out; have := HB.out; omega) (fun e he _ g hg h2 => by cases h2; have := hm.old he hg; have := HQ.out; omega) hown3 hgrow3
        have B3 := (grow_next hbw (belowN G2)).grown hgrow3 (Nat.le_trans (by have := HB.out; omega) G2.size) (fun j hj => by cases hj; rw [HB.out]; exact Nat.le_refl _)
        go_roundw
        case rel => exact ⟨k + 1, _, by omega, by go_num, Lib.hid (by rw [putS_fl, HL.out]; exact HP.out), M3, B3⟩
        case measure => simp [RowKit.intOf]; omega
    · have e : k = n := by omega
      have HE := Lib.hid e
      clear e
      go_wp2_with fail
      go_returns
      exact ⟨b, L, rfl, by rw [HL.out, HE.out, hn.out, List.take_length], by rw [HB.out]; exact hm, hbw⟩
end Go.Proofs.Ytgmjdalfbebgbaa
