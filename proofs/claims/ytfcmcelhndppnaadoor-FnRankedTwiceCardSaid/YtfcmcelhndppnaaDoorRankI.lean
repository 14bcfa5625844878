/- Peers in their ranks: the program's way. -/
import Derived.Test.YtfcmcelhndppnaaDoorPutP
import Derived.Test.YtfcmcelhndppnaaDoorPrRow
import Derived.Test.YtfcmcelhndppnaaDoorCombI
namespace Go.Proofs.YtfcmcelhndppnaaDoor
open Go.ChangeShapes Go.WideShapes Go.ChangeAt Go.RowKit
set_option linter.unusedVariables false
set_option linter.unusedSimpArgs false
theorem run_store_funcP (P : Program) (w : World) (a : Addr) (m : Mode) (f : Fn) (xs ys : Array Value) : (store a (.func f xs ys) m).run P w = stored P w a (.func f xs ys) m := run_store P w a _ m rfl
attribute [local go_sem] run_store_funcP

/-- Pointers in a row of the call's own that lead to peers that lay already. -/
structure PtOwn (base : Nat) (W : World) (z : Option Addr) (c : Nat) (E : List Pt) : Prop where
  row : PtRow base W z c E
  held : Held base W E
theorem PtOwn.next {base : Nat} {W W' : World} {z : Option Addr} {c : Nat} {E : List Pt} (h : PtOwn base W z c E) (hB : base ≤ W.heap.size) (hb : Below W.heap.size W W') : PtOwn base W' z c E :=
  ⟨h.row.next hb, h.held.below (hb.mono hB)⟩

/-- A row of pointers, in their ranks; nothing that lay has turned. -/
def RankedPost (w : World) (l : List Pr) (n : Nat) : Ending → World → Prop := fun r w' =>
  ∃ (y : Option Addr) (c : Nat) (E : List Pt), r = .returned (.slice y n c) ∧ Hid (n = E.length) ∧ PtOwn w.heap.size w' y c E ∧ Hid (valsP E = rkV l) ∧ Below w.heap.size w w'

/-- The list's state behind so many. -/
def RanksAt (w wr : World) (l : List Pr) (k : Nat) : Prop :=
  ∃ (y : Option Addr) (c : Nat) (E : List Pt), ListP wr w.heap.size y E.length c ∧ PtOwn w.heap.size wr y c E ∧ RankS (valsP E) ∧ (valsP E).Perm (l.take k) ∧ Below w.heap.size w wr

set_option maxHeartbeats 1000000 in
theorem rankedI_c (l : List Pr) (hA : AllSm l) (hI : IdsApart l) (n : Nat) (hn : Hid (n = l.length)) (hm : n ≤ 100) (x : Option Addr) (cap : Nat) (w : World) (h : PtrPrs w.heap.size w x l) {ao an au : Addr} (L : Ld w ao an au) :
    Calls Tryd.prog 29 #[.slice x n cap] w (RankedPost w l n) := by
  go_enter Tryd.func29, Tryd.ntmps29
  go_wp2
  go_loopw [9] (fun i wr => ∃ k : Nat, k ≤ n ∧ i = .int .i64 k ∧ RanksAt w wr l k) (fun i _ => n - (intOf i).toNat)
  case atStart =>
    refine ⟨0, Nat.zero_le _, rfl, none, 0, [], ?_, ⟨World.ownsRow_nil _ _ _ _, fun z hz => by simp at hz⟩, List.Pairwise.nil, List.Perm.refl _, by go_grown⟩
    exact blk_new _ _
  case round =>
    obtain ⟨k, hk, rfl, y, c, E, hL, hE, hS, hP, hB⟩ := hrel
    have HP := Lib.hid hP
    have hEl : E.length = k := by
      have := hP.length_eq
      rw [valsP_len, List.length_take] at this
      have := hn.out
      omega
    clear hP
    by_cases hlt : k < n
    · obtain ⟨v, hv⟩ := getP (l := l) (k := k) (by rw [← hn.out]; exact hlt)
      obtain ⟨g, o, a, rfl, hgB, ca, hpa⟩ := (h.next hB).at_ hv
      obtain ⟨g', o', a', ea, hgB', ca', hpa'⟩ := h.at_ hv
      simp only [Option.some.injEq, Addr.mk.injEq] at ea
      obtain ⟨rfl, rfl, _⟩ := ea
      have ea : a' = a := by
        have e1 := (hB.cell (p := ⟨g, o + k, none⟩) hgB').trans ca'
        have := e1.symm.trans ca
        simpa using this
      subst ea
      clear ca'
      have HV := Lib.hid (takeP hv)
      have hid : ∀ z ∈ E, v.id ≠ z.v.id := fun z hz => by
        have hm1 : z.v ∈ l.take k := (HP.out.mem_iff).1 (List.mem_map.2 ⟨z, hz, rfl⟩)
        have hI' : IdsApart (l.take (k + 1)) := List.Pairwise.sublist (List.take_sublist _ _) hI
        rw [HV.out] at hI'
        exact ((List.pairwise_append.1 hI').2.2 z.v hm1 v (by simp)).symm
      have hok := hA.at_ hv
      obtain ⟨m, hm'⟩ : ∃ m, m = E.length := ⟨_, rfl⟩
      have hm2 : m = k := hm'.trans hEl
      have HM := Lib.hid hm'
      rw [← hm'] at hL
      have hH : Held w.heap.size wr ((⟨a', v⟩ : Pt) :: E) := fun z hz => by
        rcases List.mem_cons.1 hz with rfl | hz
        · exact ⟨hpa'.below hB, hok⟩
        · exact hE.held z hz
      have HH := Lib.hid hH
      have HL := Lib.hid (L.next hB)
      have HD := Lib.hid hid
      clear hEl hm' hv hpa hpa' hH hid hok
      go_wp2_with fail
      refine (putP_c w.heap.size w.heap.size ⟨a', v⟩ E m HM (by omega) y c _ (Nat.le_refl _) hL hE.row hS HD.out HH.out HL.out).mono ?_
      rintro r w1 ⟨y1, c1, E1, rfl, hL1, hE1, hS1, hP1, hB1⟩
      have hB2 := hB.trans hB1
      go_wp2_with fail
      go_roundw
      case rel =>
        refine ⟨k + 1, by omega, by go_num, y1, c1, E1, hL1, ⟨hE1, fun z hz => ?_⟩, hS1, ?_, hB2⟩
        · have := HH.out z (hP1.mem_iff.1 hz)
          exact ⟨this.1.below hB1, this.2⟩
        · rw [HV.out]
          refine (hP1.map Pt.v).trans ?_
          show (v :: valsP E).Perm _
          refine (HP.out.cons v).trans ?_
          exact (List.perm_append_comm (l₁ := [v]))
      case measure => simp [intOf]; omega
    · have e : k = n := by omega
      have hP' : (valsP E).Perm l := by
        have := HP.out
        rw [e, hn.out, List.take_length] at this
        exact this
      have HR := Lib.hid (rank_is hI hS hP')
      have HN := Lib.hid (show n = E.length by omega)
      obtain ⟨l0, l1⟩ := hL.cells
      rw [← HN.out] at l1
      clear e hP' hEl
      go_wp2_with fail
      go_returns
      exact ⟨y, c, E, rfl, HN, hE, HR, hB⟩

/-- Peers, in a row of the call's own; nothing that lay has turned. -/
def RowPost (w : World) (l : List Pr) (n : Nat) : Ending → World → Prop := fun e w' => ∃ v, e = .returned v ∧ w'.ownsRow w.heap.size 40 6 v n (flatPr l) ∧ Below w.heap.size w w'

set_option maxHeartbeats 1000000 in
theorem peersAt_c (l : List Pr) (n : Nat) (hn : Hid (n = l.length)) (hm : n ≤ 1048576) (y : Option Addr) (cap : Nat) (w : World) (h : PtrPrs w.heap.size w y l) :
    Calls Tryd.prog 28 #[.slice y n cap] w (RowPost w l n) := by
  obtain ⟨i0, hi, hz0, hz1, hz2⟩ := info_partsT infoPr'
  have HI0 := Lib.hid hi
  have HZ0 := Lib.hid hz0
  have HZ1 := Lib.hid hz1
  have HZ2 := Lib.hid hz2
  clear hi hz0 hz1 hz2
  go_enter Tryd.func28, Tryd.ntmps28
  go_wp2
  go_loopw [3, 8] (fun o i wr => ∃ k : Nat, k ≤ n ∧ i = .int .i64 k ∧ wr.ownsRow w.heap.size 40 6 o k (flatPr (l.take k)) ∧ Below w.heap.size w wr) (fun _ i _ => n - (intOf i).toNat)
  case atStart => exact ⟨0, Nat.zero_le _, rfl, World.ownsRow_nil _ _ _ _, Below.refl _ _⟩
  case round =>
    obtain ⟨k, hk, rfl, hrow, hb⟩ := hrel
    by_cases hlt : k < n
    · obtain ⟨v, hv⟩ := getP (l := l) (k := k) (by rw [← hn.out]; exact hlt)
      obtain ⟨g, o, a, rfl, hgB, ca, b, off, rfl, hbB, c0, c1, c2, c3, c4, c5⟩ := (h.next hb).at_ hv
      have HV := Lib.hid (show flatPr (l.take (k + 1)) = flatPr (l.take k) ++ v.cells by rw [takeP hv, flatPr_append]; simp [flatPr])
      clear hv
      go_wp2_with (at_builtin; refine wpList_append_own _ rfl _ _ 24 rfl w.heap.size 40 i0 (.agg #[.int .i64 0, .int .i64 0, .int .i64 0, .int .i64 0, .int .i64 0, .int .i64 0]) 6 48 Tryd.underlying24 HI0.out HZ0.out HZ1.out HZ2.out rfl (by decide) _ _ _ rfl (hrow.alloc _) ⟨wr.heap.size, 0, none⟩ 1 1 v.cells rfl rfl (cell_six_new wr v _) (by simp [Pr.cells, Value.oneCell']) (by unfold maxLen; omega) (by omega) (by have := hb.size; simp at this ⊢; omega) ?_; intro v' w4 hown' hgrow _)
      have hgrow' : (wr.alloc (.cells #[.int .i64 v.id, .int .i64 v.str, .int .i64 v.s.off, .int .i64 v.s.delay, .int .i64 v.s.disp, .int .i64 v.s.at_] 40)).grownBy w4 u3.ownBlock := hgrow
      clear hgrow
      go_roundw
      case rel =>
        exact ⟨k + 1, by omega, by go_num, by rw [HV.out]; simpa using hown',
          grownBy_belowP (hb.alloc (by have := hb.size; omega) (.cells #[.int .i64 v.id, .int .i64 v.str, .int .i64 v.s.off, .int .i64 v.s.delay, .int .i64 v.s.disp, .int .i64 v.s.at_] 40)) (by have := hb.size; simp at this ⊢; omega) hgrow' (fun g hg => (hrow.lt g hg).1)⟩
      case measure => simp [intOf]; omega
    · have e : k = n := by omega
      have hr' : wr.ownsRow w.heap.size 40 6 u3 n (flatPr l) := by
        have : l.take k = l := by rw [e, hn.out, List.take_length]
        rw [this, e] at hrow
        exact hrow
      clear e hrow
      go_wp2_with fail
      go_returns
      exact ⟨_, rfl, hr', hb⟩

theorem ownsRow_lower {w : World} {base base' : Nat} {e : TypeId} {size : Nat} {v : Value} {n : Nat} {xs : List Value} (h : w.ownsRow base e size v n xs) (hb : base' ≤ base) : w.ownsRow base' e size v n xs := by
  refine ⟨h.1, ?_⟩
  rcases h.2 with h | ⟨g, c, cur, h, h1, r⟩
  · exact .inl h
  · exact .inr ⟨g, c, cur, h, by omega, r⟩

/-- Pointers to each of them, wherever they lie. -/
def PtrsPost (w : World) (l : List Pr) (n : Nat) : Ending → World → Prop := fun e w' => ∃ y c, e = .returned (.slice y n c) ∧ PtrPrs w'.heap.size w' y l ∧ Below w.heap.size w w'
theorem pointers_c (l : List Pr) (n : Nat) (hn : Hid (n = l.length)) (hm : n ≤ 1048576) (x : Option Addr) (cap : Nat) (w : World) (h : Prs w.heap.size w x l) :
    Calls Tryd.prog 30 #[.slice x n cap] w (PtrsPost w l n) := by
  rcases Nat.eq_zero_or_pos n with hz | hz
  · have hl : l = [] := List.eq_nil_of_length_eq_zero (by rw [← hn.out]; exact hz)
    subst hl
    subst hz
    go_enter Tryd.func30, Tryd.ntmps30
    go_wp2
    go_loopw [3, 7] (fun o i wr => i = .int .i64 0 ∧ o = .slice none 0 0 ∧ w = wr) (fun _ i _ => 0)
    case atStart => exact ⟨rfl, rfl, rfl⟩
    case round =>
      obtain ⟨rfl, rfl, rfl⟩ := hrel
      go_wp2_with fail
      go_returns
      exact ⟨_, _, rfl, .inl rfl, Below.refl _ _⟩
  · obtain ⟨u, hu⟩ := getP (l := l) (k := 0) (by rw [← hn.out]; omega)
    obtain ⟨b, off, rfl, _⟩ := h.at_ hu
    refine (pointersTo_c n hm b off cap w).mono ?_
    rintro e w2 ⟨v, rfl, hown, hb2⟩
    obtain ⟨y, c, rfl, hy⟩ := own_ptrs hown (h.next hb2) hn.out
    exact ⟨y, c, rfl, hy, hb2⟩

/-- What Ranked answers. -/
def rankedV (l : List Pr) : List Pr := if okPrs l then rkV l else []
theorem rankedV_len (l : List Pr) : (rankedV l).length ≤ l.length := by
  unfold rankedV
  split
  · rw [rkV_length]; exact Nat.le_refl _
  · exact Nat.zero_le _
theorem ranked_impl (l : List Pr) (n : Nat) (hn : Hid (n = l.length)) (hm : n ≤ maxLen) (x : Option Addr) (cap : Nat) (w : World) (h : Prs w.heap.size w x l) {ao an au : Addr} (L : Ld w ao an au) :
    Calls Tryd.prog 11 #[.slice x n cap] w (RowPost w (rankedV l) (rankedV l).length) := by
  cases ho : okPrs l with
  | false =>
    have HO := Lib.hid (show Calls Tryd.prog 21 #[.slice x n cap] w fun e w' => e = .returned (.bool false) ∧ Below w.heap.size w w' from ho ▸ peersOk_impl l n hn hm x cap w h L)
    have e : rankedV l = [] := by unfold rankedV; rw [ho]; rfl
    rw [e]
    clear ho e
    go_enter Tryd.func11, Tryd.ntmps11
    go_wp2_with fail
    refine (HO.out).mono ?_
    rintro e w1 ⟨rfl, hb1⟩
    go_wp2_with fail
    go_returns
    exact ⟨_, rfl, World.ownsRow_nil _ _ _ _, hb1⟩
  | true =>
    have HO := Lib.hid (show Calls Tryd.prog 21 #[.slice x n cap] w fun e w' => e = .returned (.bool true) ∧ Below w.heap.size w w' from ho ▸ peersOk_impl l n hn hm x cap w h L)
    obtain ⟨hA, hl⟩ := okPrs_all ho
    have hI := okPrs_ids ho
    have e : rankedV l = rkV l := by unfold rankedV; rw [ho]; rfl
    have hlen : (rkV l).length = n := by rw [rkV_length, hn.out]
    rw [e, hlen]
    have hn20 : n ≤ 20 := by have := hn.out; omega
    have HN : Hid (n = (rkV l).length) := Lib.hid hlen.symm
    clear ho e hl hlen
    go_enter Tryd.func11, Tryd.ntmps11
    go_wp2_with fail
    refine (HO.out).mono ?_
    rintro e w1 ⟨rfl, hb1⟩
    go_wp2_with fail
    refine (pointers_c l n hn (by omega) x cap _ (h.next hb1)).mono ?_
    rintro e w2 ⟨y, c, rfl, hy, hb2⟩
    have g2 := grow_next hb1 hb2
    go_wp2_with fail
    refine (rankedI_c l hA hI n hn (by omega) y c _ hy (L.next g2)).mono ?_
    rintro e w3 ⟨y3, c3, E, rfl, hE, hO3, hV, hb3⟩
    have g3 := grow_next g2 hb3
    have h3 := hO3.row.ptrs hO3.held hb3.size
    rw [hV.out] at h3
    go_wp2_with fail
    refine (peersAt_c (rkV l) n HN (by omega) y3 c3 _ h3).mono ?_
    rintro e w4 ⟨v, rfl, hown, hb4⟩
    have g4 := grow_next g3 hb4
    go_wp2_with fail
    go_returns
    exact ⟨v, rfl, ownsRow_lower hown g3.size, g4⟩
end Go.Proofs.YtfcmcelhndppnaaDoor
