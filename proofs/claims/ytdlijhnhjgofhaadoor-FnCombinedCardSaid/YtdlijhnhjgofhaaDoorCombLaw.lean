/- For every list of peers the program's Combined answers as the reference; its argument stays as it was. -/
import Derived.Test.YtdlijhnhjgofhaaDoorPeersS
import Derived.Test.YtdlijhnhjgofhaaDoorCombS
import Derived.Test.YtdlijhnhjgofhaaDoorCombI
import Derived.Test.YtdlijhnhjgofhaaDoorTie
import Derived.Test.YtdlijhnhjgofhaaDoorCards
namespace Go.Proofs.YtdlijhnhjgofhaaDoor
open Go.ChangeShapes Go.WideShapes Go.ChangeAt Go.RowKit
set_option linter.unusedVariables false
set_option linter.unusedSimpArgs false

theorem prsS_dec {l : List Pr} {b : Bool} (hb : okPrs l = b) (n : Nat) (hn : Hid (n = l.length)) (hm : n ≤ maxLen) (x : Option Addr) (cap : Nat) (w : World) (h : Prs w.heap.size w x l) :
    Calls Tryd.prog 30 #[.slice x n cap] w fun e w' => e = .returned (.bool b) ∧ Below w.heap.size w w' := hb ▸ peersOk_spec l n hn hm x cap w h
theorem prsI_dec {l : List Pr} {b : Bool} (hb : okPrs l = b) (n : Nat) (hn : Hid (n = l.length)) (hm : n ≤ maxLen) (x : Option Addr) (cap : Nat) (w : World) (h : Prs w.heap.size w x l) {ao an au : Addr} (L : Ld w ao an au) :
    Calls Tryd.prog 29 #[.slice x n cap] w fun e w' => e = .returned (.bool b) ∧ Below w.heap.size w w' := hb ▸ peersOk_impl l n hn hm x cap w h L

/-- Combined's answers. -/
def combOk (l : List Pr) : Bool := okPrs l && !(l.length == 0)
def combA (l : List Pr) : Int := if combOk l then combV l else 0

theorem comb_spec (l : List Pr) (n : Nat) (hn : Hid (n = l.length)) (hm : n ≤ maxLen) (x : Option Addr) (cap : Nat) (w : World) (h : Prs w.heap.size w x l) :
    Calls Tryd.prog 14 #[.slice x n cap] w fun e w' => e = .returned (.tuple #[.int .i64 (combA l), .bool (combOk l)]) ∧ Below w.heap.size w w' := by
  cases ho : okPrs l with
  | false =>
    have HO := Lib.hid (prsS_dec ho n hn hm x cap w h)
    have e : combOk l = false := by unfold combOk; rw [ho]; rfl
    have e1 : combA l = 0 := by unfold combA; rw [e]; rfl
    rw [e, e1]
    clear ho e e1
    go_enter Tryd.func14, Tryd.ntmps14
    go_wp2_with fail
    refine (HO.out).mono ?_
    rintro e w1 ⟨rfl, hb1⟩
    go_wp2_with fail
    go_returns
    exact ⟨rfl, hb1⟩
  | true =>
    have HO := Lib.hid (prsS_dec ho n hn hm x cap w h)
    obtain ⟨hA, hl⟩ := okPrs_all ho
    by_cases hz : n = 0
    · have e : combOk l = false := by unfold combOk; rw [← hn.out, hz]; simp
      have e1 : combA l = 0 := by unfold combA; rw [e]; rfl
      rw [e, e1]
      subst hz
      clear ho e e1 hn
      go_enter Tryd.func14, Tryd.ntmps14
      go_wp2_with fail
      refine (HO.out).mono ?_
      rintro e w1 ⟨rfl, hb1⟩
      go_wp2_with fail
      go_returns
      exact ⟨rfl, hb1⟩
    · have e : combOk l = true := by unfold combOk; rw [ho, ← hn.out]; simp [hz]
      have e1 : combA l = combV l := by unfold combA; rw [e]; rfl
      rw [e, e1]
      have hn20 : n ≤ 20 := by have := hn.out; omega
      clear ho e e1 hl
      go_enter Tryd.func14, Tryd.ntmps14
      go_wp2_with fail
      refine (HO.out).mono ?_
      rintro e w1 ⟨rfl, hb1⟩
      go_wp2_with fail
      refine (combined_spec l hA n hn (by omega) hn20 x cap _ (h.next hb1)).mono ?_
      rintro e w2 ⟨rfl, hb2⟩
      go_wp2_with fail
      go_returns
      exact ⟨rfl, grow_next hb1 hb2⟩

theorem comb_impl (l : List Pr) (n : Nat) (hn : Hid (n = l.length)) (hm : n ≤ maxLen) (x : Option Addr) (cap : Nat) (w : World) (h : Prs w.heap.size w x l) {ao an au : Addr} (L : Ld w ao an au) :
    Calls Tryd.prog 13 #[.slice x n cap] w fun e w' => e = .returned (.tuple #[.int .i64 (combA l), .bool (combOk l)]) ∧ Below w.heap.size w w' := by
  cases ho : okPrs l with
  | false =>
    have HO := Lib.hid (prsI_dec ho n hn hm x cap w h L)
    have e : combOk l = false := by unfold combOk; rw [ho]; rfl
    have e1 : combA l = 0 := by unfold combA; rw [e]; rfl
    rw [e, e1]
    clear ho e e1
    go_enter Tryd.func13, Tryd.ntmps13
    go_wp2_with fail
    refine (HO.out).mono ?_
    rintro e w1 ⟨rfl, hb1⟩
    go_wp2_with fail
    go_returns
    exact ⟨rfl, hb1⟩
  | true =>
    have HO := Lib.hid (prsI_dec ho n hn hm x cap w h L)
    obtain ⟨hA, hl⟩ := okPrs_all ho
    by_cases hz : n = 0
    · have e : combOk l = false := by unfold combOk; rw [← hn.out, hz]; simp
      have e1 : combA l = 0 := by unfold combA; rw [e]; rfl
      rw [e, e1]
      subst hz
      clear ho e e1 hn
      go_enter Tryd.func13, Tryd.ntmps13
      go_wp2_with fail
      refine (HO.out).mono ?_
      rintro e w1 ⟨rfl, hb1⟩
      go_wp2_with fail
      go_returns
      exact ⟨rfl, hb1⟩
    · have e : combOk l = true := by unfold combOk; rw [ho, ← hn.out]; simp [hz]
      have e1 : combA l = combV l := by unfold combA; rw [e]; rfl
      rw [e, e1]
      have hn20 : n ≤ 20 := by have := hn.out; omega
      obtain ⟨u, hu⟩ := getQ (l := l) (k := 0) (by rw [← hn.out]; omega)
      obtain ⟨b, off, rfl, _⟩ := h.at_ hu
      clear ho e e1 hl hu
      go_enter Tryd.func13, Tryd.ntmps13
      go_wp2_with fail
      refine (HO.out).mono ?_
      rintro e w1 ⟨rfl, hb1⟩
      go_wp2_with fail
      refine (pointersTo_c n (by omega) b off cap _).mono ?_
      rintro e w2 ⟨v, rfl, hown, hb2⟩
      have g2 := grow_next hb1 hb2
      obtain ⟨y, c, rfl, hy⟩ := own_ptrs hown (h.next g2) hn.out
      clear hown
      go_wp2_with fail
      refine (combined_impl l hA n hn (by omega) hn20 y c _ hy (L.next g2)).mono ?_
      rintro e w3 ⟨rfl, hb3⟩
      go_wp2_with fail
      go_returns
      exact ⟨rfl, grow_next g2 hb3⟩

end Go.Proofs.YtdlijhnhjgofhaaDoor
