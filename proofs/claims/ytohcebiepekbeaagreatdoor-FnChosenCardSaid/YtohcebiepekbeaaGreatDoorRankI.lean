/- Peers in their ranks: the program's way. -/
import Derived.Test.YtohcebiepekbeaaGreatDoorPutP
import Derived.Test.YtohcebiepekbeaaGreatDoorPrRow
import Derived.Test.YtohcebiepekbeaaGreatDoorCombI
namespace Go.Proofs.YtohcebiepekbeaaGreatDoor
open Go.ChangeShapes Go.WideShapes Go.ChangeAt Go.RowKit
set_option linter.unusedVariables false
set_option linter.unusedSimpArgs false
theorem run_store_funcP (P : Program) (w : World) (a : Addr) (m : Mode) (f : Fn) (xs ys : Array Value) : (store a (.func f xs ys) m).run P w = stored P w a (.func f xs ys) m := run_store P w a _ m rfl
attribute [local go_sem] run_store_funcP

/-- Pointers in a row of the call's own that lead to peers that lay already. -/
structure PtOwn (base : Nat) (W : World) (z : Option Addr) (c : Nat) (E : List Pt) : Prop where
  row : PtRow base W z c E
  held : Held base W E
theorem PtOwn.next {base : Nat} {W W' : World} {z : Option Addr} {c : Nat} {E : List Pt} (h : PtOwn base W z c E) (hB : base ≤ W.heap.size) (hb : Below W.heap.size W W') : PtOwn base W' z c E :=
  ⟨h.row.next hb, h.held.below (hb.mono hB)⟩

/-- A row of pointers, in their ranks; nothing that lay has turned. -/
def RankedPost (w : World) (l : List Pr) (n : Nat) : Ending → World → Prop := fun r w' =>
  ∃ (y : Option Addr) (c : Nat) (E : List Pt), r = .returned (.slice y n c) ∧ Hid (n = E.length) ∧ PtOwn w.heap.size w' y c E ∧ Hid (valsP E = rkV l) ∧ Below w.heap.size w w'

/-- The list's state behind so many. -/
def RanksAt (w wr : World) (l : List Pr) (k : Nat) : Prop :=
  ∃ (y : Option Addr) (c : Nat) (E : List Pt), ListP wr w.heap.size y E.length c ∧ PtOwn w.heap.size wr y c E ∧ RankS (valsP E) ∧ (valsP E).Perm (l.take k) ∧ Below w.heap.size w wr

set_option maxHeartbeats 1000000 in
theorem rankedI_c (l : List Pr) (hA : AllSm l) (hI : IdsApart l) (n : Nat) (hn : Hid (n = l.length)) (hm : n ≤ 100) (x : Option Addr) (cap : Nat) (w : World) (h : PtrPrs w.heap.size w x l) {ao an au : Addr} (L : Ld w ao an au) :
    Calls Tryz.prog 77 #[.slice x n cap] w (RankedPost w l n) := by
  go_enter Tryz.func77, Tryz.ntmps77
  go_wp2
  go_loopw [9] (fun i wr => ∃ k : Nat, k ≤ n ∧ i = .int .i64 k ∧ RanksAt w wr l k) (fun i _ => n - (intOf i).toNat)
  case atStart =>
    refine ⟨0, Nat.zero_le _, rfl, none, 0, [], ?_, ⟨World.ownsRow_nil _ _ _ _, fun z hz => by simp at hz⟩, List.Pairwise.nil, List.Perm.refl _, by go_grown⟩
    exact blk_new _ _
  case round =>
    obtain ⟨k, hk, rfl, y, c, E, hL, hE, hS, hP, hB⟩ := hrel
    have HP := Lib.hid hP
    have hEl : E.length = k := by
      have := hP.length_eq
      rw [valsP_len, List.length_take] at this
      have := hn.out
      omega
    clear hP
    by_cases hlt : k < n
    · obtain ⟨v, hv⟩ := getP (l := l) (k := k) (by rw [← hn.out]; exact hlt)
      obtain ⟨g, o, a, rfl, hgB, ca, hpa⟩ := (h.next hB).at_ hv
      obtain ⟨g', o', a', ea, hgB', ca', hpa'⟩ := h.at_ hv
      simp only [Option.some.injEq, Addr.mk.injEq] at ea
      obtain ⟨rfl, rfl, _⟩ := ea
      have ea : a' = a := by
        have e1 := (hB.cell (p := ⟨g, o + k, none⟩) hgB').trans ca'
        have := e1.symm.trans ca
        simpa using this
      subst ea
      clear ca'
      have HV := Lib.hid (takeP hv)
      have hid : ∀ z ∈ E, v.id ≠ z.v.id := fun z hz => by
        have hm1 : z.v ∈ l.take k := (HP.out.mem_iff).1 (List.mem_map.2 ⟨z, hz, rfl⟩)
        have hI' : IdsApart (l.take (k + 1)) := List.Pairwise.sublist (List.take_sublist _ _) hI
        rw [HV.out] at hI'
        exact ((List.pairwise_append.1 hI').2.2 z.v hm1 v (by simp)).symm
      have hok := hA.at_ hv
      obtain ⟨m, hm'⟩ : ∃ m, m = E.length := ⟨_, rfl⟩
      have hm2 : m = k := hm'.trans hEl
      have HM := Lib.hid hm'
      rw [← hm'] at hL
      have hH : Held w.heap.size wr ((⟨a', v⟩ : Pt) :: E) := fun z hz => by
        rcases List.mem_cons.1 hz with rfl | hz
        · exact ⟨hpa'.below hB, hok⟩
        · exact hE.held z hz
      have HH := Lib.hid hH
      have HL := Lib.hid (L.next hB)
      have HD := Lib.hid hid
      clear hEl hm' hv hpa hpa' hH hid hok
      go_wp2_with fail
      refine (putP_c w.heap.size w.heap.size ⟨a', v⟩ E m HM (by omega) y c _ (Nat.le_refl _) hL hE.row hS HD.out HH.out HL.out).mono ?_
      rintro r w1 ⟨y1, c1, E1, rfl, hL1, hE1, hS1, hP1, hB1⟩
      have hB2 := hB.trans hB1
      go_wp2_with fail
      go_roundw
      case rel =>
        refine ⟨k + 1, by omega, by go_num, y1, c1, E1, hL1, ⟨hE1, fun z hz => ?_⟩, hS1, ?_, hB2⟩
        · have := HH.out z (hP1.mem_iff.1 hz)
          exact ⟨this.1.below hB1, this.2⟩
        · rw [HV.out]
          refine (hP1.map Pt.v).trans ?_
          show (v :: valsP E).Perm _
          refine (HP.out.cons v).trans ?_
          exact (List.perm_append_comm (l₁ := [v]))
      case measure => simp [intOf]; omega
    · have e : k = n := by omega
      have hP' : (valsP E).Perm l := by
        have := HP.out
        rw [e, hn.out, List.take_length] at this
        exact this
      have HR := Lib.hid (rank_is hI hS hP')
      have HN := Lib.hid (show n = E.length by omega)
      obtain ⟨l0, l1⟩ := hL.cells
      rw [← HN.out] at l1
      clear e hP' hEl
      go_wp2_with fail
      go_returns
      exact ⟨y, c, E, rfl, HN, hE, HR, hB⟩

/-- Peers, in a row of the call's own; nothing that lay has turned. -/
def RowPost (w : World) (l : List Pr) (n : Nat) : Ending → World → Prop := fun e w' => ∃ v, e = .returned v ∧ w'.ownsRow w.heap.size 49 6 v n (flatPr l) ∧ Below w.heap.size w w'

theorem ownsRow_lower {w : World} {base base' : Nat} {e : TypeId} {size : Nat} {v : Value} {n : Nat} {xs : List Value} (h : w.ownsRow base e size v n xs) (hb : base' ≤ base) : w.ownsRow base' e size v n xs := by
  refine ⟨h.1, ?_⟩
  rcases h.2 with h | ⟨g, c, cur, h, h1, r⟩
  · exact .inl h
  · exact .inr ⟨g, c, cur, h, by omega, r⟩

/-- Pointers to each of them, wherever they lie. -/
def PtrsPost (w : World) (l : List Pr) (n : Nat) : Ending → World → Prop := fun e w' => ∃ y c, e = .returned (.slice y n c) ∧ PtrPrs w'.heap.size w' y l ∧ Below w.heap.size w w'
/-- What Ranked answers. -/
def rankedV (l : List Pr) : List Pr := if okPrs l then rkV l else []
theorem rankedV_len (l : List Pr) : (rankedV l).length ≤ l.length := by
  unfold rankedV
  split
  · rw [rkV_length]; exact Nat.le_refl _
  · exact Nat.zero_le _
end Go.Proofs.YtohcebiepekbeaaGreatDoor
