/- Peers in their ranks: the whole of the reference's Ranked. -/
import Derived.Test.YtfcmcelhndppnaaDoorRankRef
import Derived.Test.YtfcmcelhndppnaaDoorRankI
namespace Go.Proofs.YtfcmcelhndppnaaDoor
open Go.ChangeShapes Go.WideShapes Go.ChangeAt Go.RowKit
set_option linter.unusedVariables false
set_option linter.unusedSimpArgs false

theorem ranked_spec (l : List Pr) (n : Nat) (hn : Hid (n = l.length)) (hm : n ≤ maxLen) (x : Option Addr) (cap : Nat) (w : World) (h : Prs w.heap.size w x l) :
    Calls Tryd.prog 9 #[.slice x n cap] w (RowPost w (rankedV l) (rankedV l).length) := by
  cases ho : okPrs l with
  | false =>
    have HO := Lib.hid (show Calls Tryd.prog 22 #[.slice x n cap] w fun e w' => e = .returned (.bool false) ∧ Below w.heap.size w w' from ho ▸ peersOk_spec l n hn hm x cap w h)
    have e : rankedV l = [] := by unfold rankedV; rw [ho]; rfl
    rw [e]
    clear ho e
    go_enter Tryd.func9, Tryd.ntmps9
    go_wp2_with fail
    refine (HO.out).mono ?_
    rintro e w1 ⟨rfl, hb1⟩
    go_wp2_with fail
    go_returns
    exact ⟨_, rfl, World.ownsRow_made (base := w.heap.size) (e := 40) (size := 6) w1 #[] 0 hb1.size (by simp [maxLen]) rfl, hb1.alloc hb1.size _⟩
  | true =>
    have HO := Lib.hid (show Calls Tryd.prog 22 #[.slice x n cap] w fun e w' => e = .returned (.bool true) ∧ Below w.heap.size w w' from ho ▸ peersOk_spec l n hn hm x cap w h)
    obtain ⟨hA, hl⟩ := okPrs_all ho
    have hI := okPrs_ids ho
    have e : rankedV l = rkV l := by unfold rankedV; rw [ho]; rfl
    have hlen : (rkV l).length = n := by rw [rkV_length, hn.out]
    rw [e, hlen]
    have hn20 : n ≤ 20 := by have := hn.out; omega
    have HN : Hid ((rkV l).length = n) := Lib.hid hlen
    clear ho e hl hlen
    go_enter Tryd.func9, Tryd.ntmps9
    go_wp2_with fail
    refine (HO.out).mono ?_
    rintro e w1 ⟨rfl, hb1⟩
    go_wp2_with fail
    refine (l6Rank_c l hA hI n hn (by omega) x cap _ (h.next hb1)).mono ?_
    rintro e w2 ⟨g, c, rfl, hrow, hb2⟩
    have hrow' := hrow
    unfold PrRow at hrow'
    rw [HN.out] at hrow'
    have HR := Lib.hid hrow'
    clear hrow hrow'
    go_wp2_with fail
    go_returns
    exact ⟨_, rfl, ownsRow_lower HR.out hb1.size, grow_next hb1 hb2⟩
end Go.Proofs.YtfcmcelhndppnaaDoor
