/- Pointers to peers, put in their ranks one by one. -/
import Derived.Test.YtfcmcelhndppnaaDoorInsertP
import Derived.Test.YtfcmcelhndppnaaDoorRankMath
import Derived.Deep.RegionHeld3
import Derived.Deep.RegionWith
import Derived.Test.YtfcmcelhndppnaaDoorPeersS
namespace Go.Proofs.YtfcmcelhndppnaaDoor
open Go.ChangeShapes Go.WideShapes Go.ChangeAt Go.RowKit
set_option linter.unusedVariables false
set_option linter.unusedSimpArgs false

/-- A pointer to a peer, and what lies there. -/
structure Pt where
  a : Addr
  v : Pr
def ptC (E : List Pt) : List Value := E.map fun z => .pointer (some z.a)
def valsP (E : List Pt) : List Pr := E.map Pt.v
theorem ptC_at {E : List Pt} {k : Nat} {z : Pt} (h : E[k]? = some z) : (ptC E)[k]? = some (.pointer (some z.a)) := by simp [ptC, h]
theorem ptC_len (E : List Pt) : (ptC E).length = E.length := by simp [ptC]
theorem ptC_one {E : List Pt} : ∀ v ∈ ptC E, v.oneCell' = true := by
  intro v hv
  obtain ⟨e, _, rfl⟩ := List.mem_map.1 hv
  rfl
theorem ptC_take (E : List Pt) (k : Nat) : (ptC E).take k = ptC (E.take k) := by simp [ptC]
theorem ptC_drop (E : List Pt) (k : Nat) : (ptC E).drop k = ptC (E.drop k) := by simp [ptC]
theorem ptC_append (a b : List Pt) : ptC (a ++ b) = ptC a ++ ptC b := by simp [ptC]
theorem valsP_at {E : List Pt} {k : Nat} {z : Pt} (h : E[k]? = some z) : (valsP E)[k]? = some z.v := by simp [valsP, h]
theorem valsP_len (E : List Pt) : (valsP E).length = E.length := by simp [valsP]
theorem valsP_get {E : List Pt} {k : Nat} {v : Pr} (h : (valsP E)[k]? = some v) : ∃ z, E[k]? = some z ∧ z.v = v := by
  rw [valsP, List.getElem?_map, Option.map_eq_some_iff] at h
  exact h

/-- Pointers that lead to peers that are right, below base. -/
def Held (B : Nat) (W : World) (E : List Pt) : Prop := ∀ z ∈ E, PrAt B W z.a z.v ∧ z.v.s.ok = true
theorem Held.below {B : Nat} {W W' : World} {E : List Pt} (h : Held B W E) (hb : Below B W W') : Held B W' E := fun z hz => ⟨(h z hz).1.below hb, (h z hz).2⟩
theorem Held.at_ {B : Nat} {W : World} {E : List Pt} (h : Held B W E) {k : Nat} {z : Pt} (hk : E[k]? = some z) : PrAt B W z.a z.v ∧ z.v.s.ok = true := h z (List.mem_of_getElem? hk)

/-- The list that is sorted: its test, and its row of pointers. -/
def ListP (W : World) (p : Nat) (x : Option Addr) (n cap : Nat) : Prop := W.heap[p]? = some (.cells #[.func (.func 43) #[] #[], .slice x n cap] 65)
theorem ListP.cells {W : World} {p : Nat} {x : Option Addr} {n cap : Nat} (h : ListP W p x n cap) : W.cell? ⟨p, 0, none⟩ = some (.func (.func 43) #[] #[]) ∧ W.cell? ⟨p, 1, none⟩ = some (.slice x n cap) := by
  simp [World.cell?, show W.heap[p]? = _ from h]
theorem ListP.thaw {W : World} {p : Nat} {x : Option Addr} {n cap : Nat} (h : ListP W p x n cap) : W.frozen? ⟨p, 1, none⟩ = false := by
  simp [World.frozen?, show W.heap[p]? = _ from h]
theorem ListP.put {W : World} {p : Nat} {x : Option Addr} {n cap : Nat} (h : ListP W p x n cap) (y : Option Addr) (m c : Nat) : ListP (W.setCell ⟨p, 1, none⟩ (.slice y m c)) p y m c := by
  unfold ListP at h ⊢
  simp [World.setCell, Array.getElem?_modify, h]
theorem ListP.next {W W' : World} {p : Nat} {x : Option Addr} {n cap : Nat} (h : ListP W p x n cap) (hb : Below W.heap.size W W') : ListP W' p x n cap := blk_next hb h

/-- A row of pointers of the call's own. -/
def PtRow (base : Nat) (W : World) (x : Option Addr) (cap : Nat) (E : List Pt) : Prop := W.ownsRow base 62 1 (.slice x E.length cap) E.length (ptC E)
theorem PtRow.at_ {base : Nat} {W : World} {x : Option Addr} {cap k : Nat} {E : List Pt} {e : Pt} (h : PtRow base W x cap E) (hk : E[k]? = some e) :
    ∃ g, x = some ⟨g, 0, none⟩ ∧ base ≤ g ∧ W.cell? ⟨g, k, none⟩ = some (.pointer (some e.a)) := by
  have hkl := (List.getElem?_eq_some_iff.1 hk).1
  have c0 := ptC_at hk
  have h0 := h
  rcases h.2 with ⟨e, e0⟩ | ⟨g, c, cur, e, hb, hg, _, _, _, htk⟩
  · omega
  · simp only [Value.slice.injEq] at e
    obtain ⟨rfl, _, rfl⟩ := e
    refine ⟨g, rfl, hb, ?_⟩
    rw [World.ownsRow.cellAt h0 _ (by omega), c0]
theorem PtRow.one {base : Nat} {W : World} {g cap k : Nat} {E : List Pt} {e : Pt} (h : PtRow base W (some ⟨g, 0, none⟩) cap E) (hk : E[k]? = some e) : W.cell? ⟨g, k, none⟩ = some (.pointer (some e.a)) := by
  obtain ⟨g', hg, _, c0⟩ := h.at_ hk
  simp only [Option.some.injEq, Addr.mk.injEq, and_true] at hg
  subst hg
  exact c0
theorem PtRow.next {base : Nat} {W W' : World} {x : Option Addr} {cap : Nat} {E : List Pt} (h : PtRow base W x cap E) (hb : Below W.heap.size W W') : PtRow base W' x cap E := by
  refine ⟨h.1, ?_⟩
  rcases h.2 with e | ⟨g, c, cur, e, hb', hg, r⟩
  · exact .inl e
  · exact .inr ⟨g, c, cur, e, hb', blk_next hb hg, r⟩
theorem PtRow.lt {base : Nat} {W : World} {x : Option Addr} {cap : Nat} {E : List Pt} (h : PtRow base W x cap E) : ∀ g, (Value.slice x E.length cap).ownBlock = some g → base ≤ g ∧ g < W.heap.size := World.ownsRow.lt h
theorem PtRow.tag {base : Nat} {W : World} {x : Option Addr} {cap : Nat} {E : List Pt} (h : PtRow base W x cap E) {g : Nat} (hg : (Value.slice x E.length cap).ownBlock = some g) : ∃ cur, W.heap[g]? = some (.cells cur 62 (0, 0)) := by
  rcases h.2 with ⟨e, e0⟩ | ⟨g', c, cur, e, hb, hh, _⟩
  · rw [e] at hg; simp [Value.ownBlock] at hg
  · rw [e] at hg
    simp [Value.ownBlock] at hg
    subst hg
    exact ⟨cur, hh⟩
theorem PtRow.ptrs {base : Nat} {W : World} {x : Option Addr} {cap : Nat} {E : List Pt} {B : Nat} (h : PtRow base W x cap E) (hH : Held B W E) (hB : B ≤ W.heap.size) : PtrPrs W.heap.size W x (valsP E) := by
  have h0 := h
  rcases h.2 with ⟨e, e0⟩ | ⟨g, c, cur, e, hb, hg, _⟩
  · left
    rw [List.eq_nil_of_length_eq_zero e0]
    rfl
  · simp only [Value.slice.injEq] at e
    obtain ⟨rfl, _, rfl⟩ := e
    refine .inr ⟨g, 0, rfl, (Array.getElem?_eq_some_iff.1 hg).1, fun i v hi => ?_⟩
    obtain ⟨z, hz, rfl⟩ := valsP_get hi
    refine ⟨z.a, ?_, ((hH.at_ hz).1).mono hB⟩
    rw [Nat.zero_add]
    exact h0.one hz

/-- Put behind the k-th: a row of the call's own, the list's box as it was, nothing below base turned. -/
def InsPt (base p k : Nat) (w : World) (x : Option Addr) (n cap : Nat) (e : Pt) (E : List Pt) : Ending → World → Prop := fun r w' =>
  ∃ (y : Option Addr) (c : Nat), r = .returned (.slice y (n + 1) c) ∧ w'.ownsRow base 62 1 (.slice y (n + 1) c) (n + 1) (ptC (E.take k ++ e :: E.drop k)) ∧ ListP w' p x n cap ∧ Below base w w'

theorem insert_pt (base p : Nat) (x : Option Addr) (cap n k q : Nat) (kz : Int) (hkz : Hid (kz = k)) (e : Pt) (E : List Pt) (w : World) (hn : Hid (n = E.length)) (hbp : base ≤ p) (hL : ListP w p x n cap) (hE : PtRow base w x cap E) (hsm : n ≤ 100000) (hk : k ≤ n)
    (hq : w.heap[q]? = some (.cells #[.pointer (some e.a)] 62)) (hlt : ∀ g, (Value.slice x E.length cap).ownBlock = some g → g < q) :
    Calls Tryd.prog 58 #[.slice x n cap, .int .i64 kz, .slice (some ⟨q, 0, none⟩) 1 1] w (InsPt base p k w x n cap e E) := by
  have hn' := hn.out
  subst hn'
  have hkz' := hkz.out
  subst hkz'
  have hpw : p < w.heap.size := (Array.getElem?_eq_some_iff.1 hL).1
  refine (insert_cP base x cap E.length k q (ptC E) [.pointer (some e.a)] w hE (by omega) (by omega) hk hq (fun h => by have := hlt q h; omega) rfl ptC_one (by intro v hv; exact ptC_one (E := [e]) v (by simpa [ptC] using hv))).mono ?_
  rintro r w' ⟨v', rfl, hown, hg⟩
  obtain ⟨y, c, rfl⟩ := ownsRow_formT hown
  refine ⟨y, c, rfl, ?_, ?_, ⟨hg.os, hg.tape, hg.output, hg.size, fun j hj => hg.block j (by omega) (fun h => by have := (hE.lt j h.symm).1; omega)⟩⟩
  · have e1 : ptC (E.take k ++ e :: E.drop k) = (ptC E).take k ++ ([.pointer (some e.a)] ++ (ptC E).drop k) := by
      rw [ptC_append, ptC_take, ptC_drop]; rfl
    rw [e1]
    exact hown
  · refine (hg.block p hpw (fun h => ?_)).trans hL
    obtain ⟨cur, hc⟩ := hE.tag h.symm
    have := hc.symm.trans hL
    simp at this

/-- What putting leaves: the list with one pointer more, in its order; nothing below base has turned. -/
def PutPostP (base p : Nat) (W : World) (e : Pt) (E : List Pt) : Ending → World → Prop := fun r w' =>
  ∃ (y : Option Addr) (c : Nat) (E' : List Pt), r = .returned (.tuple #[]) ∧ ListP w' p y E'.length c ∧ PtRow base w' y c E' ∧ RankS (valsP E') ∧ E'.Perm (e :: E) ∧ Below base W w'

theorem put_doneP (base p k : Nat) (e : Pt) (E : List Pt) (n : Nat) (hn : Hid (n = E.length)) (hbp : base ≤ p) (hk : k ≤ n) (W wn : World) (x y : Option Addr) (cap c : Nat)
    (hown : wn.ownsRow base 62 1 (.slice y (n + 1) c) (n + 1) (ptC (E.take k ++ e :: E.drop k))) (hL : ListP wn p x n cap) (hB : Below base W wn) (hS : RankS (valsP E)) (hid : ∀ z ∈ E, e.v.id ≠ z.v.id)
    (h1 : ∀ j z, k ≤ j → E[j]? = some z → aheadV e.v z.v = true) (h0 : k = 0 ∨ ∃ z, E[k - 1]? = some z ∧ aheadV e.v z.v = false) :
    PutPostP base p W e E (.returned (.tuple #[])) (wn.setCell ⟨p, 1, none⟩ (.slice y (n + 1) c)) := by
  have hn' := hn.out
  subst hn'
  have hlen : (E.take k ++ e :: E.drop k).length = E.length + 1 := by simp; omega
  refine ⟨y, c, E.take k ++ e :: E.drop k, rfl, by rw [hlen]; exact hL.put y _ c, ?_, ?_, perm_putP E e k, hB.setCell hbp _⟩
  · unfold PtRow
    rw [hlen]
    refine ⟨hown.1, ?_⟩
    rcases hown.2 with h | ⟨g, c', cur, h, hb, hg, r⟩
    · exact .inl h
    · refine .inr ⟨g, c', cur, h, hb, ?_, r⟩
      have hne : p ≠ g := fun e => by
        subst e
        have := hg.symm.trans hL
        simp at this
      simp [World.setCell, Array.getElem?_modify, hne, hg]
  · have e1 : valsP (E.take k ++ e :: E.drop k) = (valsP E).take k ++ e.v :: (valsP E).drop k := by simp [valsP]
    rw [e1]
    refine rank_put hS e.v (fun v hv => ?_) k (by rw [valsP_len]; exact hk) (fun j v hj hv => ?_) ?_
    · obtain ⟨z, hz, rfl⟩ := List.mem_map.1 hv
      exact hid z hz
    · obtain ⟨z, hz, rfl⟩ := valsP_get hv
      exact h1 j z hj hz
    · rcases h0 with h0 | ⟨z, hz, ha⟩
      · exact .inl h0
      · exact .inr ⟨z.v, valsP_at hz, ha⟩

/-- Where one belongs: all from there on are behind it, the one ahead is not. -/
def PlaceOfP (e : Pt) (E : List Pt) (k : Nat) : Prop := k ≤ E.length ∧ (∀ j y, k ≤ j → E[j]? = some y → aheadV e.v y.v = true) ∧ (k = 0 ∨ ∃ y, E[k - 1]? = some y ∧ aheadV e.v y.v = false)
def PlacePostP (e : Pt) (E : List Pt) (W : World) : Ending → World → Prop := fun r w' => ∃ k : Nat, r = .returned (.int .i64 k) ∧ PlaceOfP e E k ∧ Below W.heap.size W w'
set_option maxRecDepth 100000 in
set_option maxHeartbeats 4000000 in
theorem placeOf_pt (base p : Nat) (e : Pt) (E : List Pt) (n : Nat) (hn : Hid (n = E.length)) (hsm : n ≤ 100000) (x : Option Addr) (cap : Nat) (W : World) (hb : base ≤ p) (hL : ListP W p x n cap) (hE : PtRow base W x cap E) (hH : Held base W (e :: E)) {ao an au : Addr} (L : Ld W ao an au) :
    Calls Tryd.prog 59 #[.pointer (some ⟨p, 0, none⟩), .pointer (some e.a)] W (PlacePostP e E W) := by
  have hpw : p < W.heap.size := (Array.getElem?_eq_some_iff.1 hL).1
  obtain ⟨l0, l1⟩ := hL.cells
  have hC : ∀ y, y ∈ E → ∀ w, Below W.heap.size W w → Calls Tryd.prog 43 #[.pointer (some e.a), .pointer (some y.a)] w fun r w' => r = .returned (.bool (aheadV e.v y.v)) ∧ Below w.heap.size w w' := fun y hy w hw => by
    have he := hH e (by simp)
    have hy' := hH y (by simp [hy])
    exact rankAhead_c e.v y.v he.2 hy'.2 e.a y.a w (((he.1).mono (by omega)).next hw) (((hy'.1).mono (by omega)).next hw) (L.next hw)
  have HC := Lib.hid hC
  clear hC
  go_enter Tryd.func59, Tryd.ntmps59
  go_wp2
  go_loopw [5] (fun i wr => ∃ k : Nat, k ≤ n ∧ i = .int .i64 k ∧ (∀ j y, k ≤ j → E[j]? = some y → aheadV e.v y.v = true) ∧ Below W.heap.size W wr) (fun i _ => (intOf i).toNat)
  case atStart =>
    refine ⟨n, Nat.le_refl _, rfl, fun j y hj hy => ?_, Below.refl _ _⟩
    have := (List.getElem?_eq_some_iff.1 hy).1
    have := hn.out
    omega
  case round =>
    obtain ⟨k, hk, rfl, ha, hb'⟩ := hrel
    have HA := Lib.hid ha
    clear ha
    have L2 := hL.next hb'
    have E2 := hE.next hb'
    obtain ⟨m0, m1⟩ := L2.cells
    rcases Nat.eq_zero_or_pos k with rfl | hk0
    · go_wp2_with fail
      go_quiet (fail)
      go_wp2_with fail
      go_returns
      exact ⟨0, rfl, ⟨Nat.zero_le _, HA.out, .inl rfl⟩, grow_drew hb' _⟩
    · obtain ⟨y, hy⟩ := getP (l := E) (k := k - 1) (by rw [← hn.out]; omega)
      obtain ⟨g, rfl, hbg, c0⟩ := E2.at_ hy
      have hk1 : (0 : Int) < (k : Int) := by omega
      have hki : IntKind.i64.wrap ((k : Int) - 1) = ((k - 1 : Nat) : Int) := by rw [IntWalk.i64_in _ (by omega)]; omega
      have hk2 : k - 1 < n := by omega
      have hk3 : ((k - 1 : Nat) : Int) < (n : Int) := by omega
      have HY := Lib.hid hy
      have hO := HC.out y (List.mem_of_getElem? hy)
      clear hy
      cases ho : aheadV e.v y.v with
      | true =>
        have HO' := Lib.hid ho
        rw [ho] at hO
        have HO := Lib.hid hO
        clear ho hO
        go_wp2_with fail
        go_region_held3 (fun w' => (w'.cell? ⟨p, 0, none⟩ = some (.func (.func 43) #[] #[]) ∧ w'.cell? ⟨p, 1, none⟩ = some (.slice (some ⟨g, 0, none⟩) n cap)) ∧ w'.cell? ⟨g, k - 1, none⟩ = some (.pointer (some y.a)))
          (first | with_reducible exact ⟨A3, C3⟩ | with_reducible exact ⟨⟨m0, m1⟩, c0⟩ | with_reducible assumption | exact ⟨⟨m0, m1⟩, c0⟩)
          ((go_at_call 43; (with_reducible refine (HO.out _ (by with_reducible first | exact hb' | exact below_drewR hb' | exact grow_drew hb' _)).mono ?_); rintro r wt ⟨rfl, hbn⟩; have L3 := L2.next (below_drewL hbn); have E3 := E2.next (below_drewL hbn); have G3 := grow_next hb' (below_drewL hbn); have A3 := L3.cells; have C3 := E3.one HY.out))
        go_wp2_with fail
        go_roundw
        case rel =>
          refine ⟨k - 1, by omega, by rw [show ((k - 1 : Nat) : Int) = (k : Int) - 1 from by omega], fun j z hj hz => ?_, by assumption⟩
          rcases Nat.lt_or_ge j k with hlt | hge
          · obtain rfl : j = k - 1 := by omega
            rw [HY.out] at hz
            simp only [Option.some.injEq] at hz
            rw [← hz]
            exact HO'.out
          · exact HA.out j z hge hz
        case measure => simp [intOf]; omega
      | false =>
        have HO' := Lib.hid ho
        rw [ho] at hO
        have HO := Lib.hid hO
        clear ho hO
        go_wp2_with fail
        go_region_held3 (fun w' => (w'.cell? ⟨p, 0, none⟩ = some (.func (.func 43) #[] #[]) ∧ w'.cell? ⟨p, 1, none⟩ = some (.slice (some ⟨g, 0, none⟩) n cap)) ∧ w'.cell? ⟨g, k - 1, none⟩ = some (.pointer (some y.a)))
          (first | with_reducible exact ⟨A3, C3⟩ | with_reducible exact ⟨⟨m0, m1⟩, c0⟩ | with_reducible assumption | exact ⟨⟨m0, m1⟩, c0⟩)
          ((go_at_call 43; (with_reducible refine (HO.out _ (by with_reducible first | exact hb' | exact below_drewR hb' | exact grow_drew hb' _)).mono ?_); rintro r wt ⟨rfl, hbn⟩; have L3 := L2.next (below_drewL hbn); have E3 := E2.next (below_drewL hbn); have G3 := grow_next hb' (below_drewL hbn); have A3 := L3.cells; have C3 := E3.one HY.out))
        go_wp2_with fail
        go_returns
        exact ⟨k, rfl, ⟨by rw [← hn.out]; exact hk, HA.out, .inr ⟨y, HY.out, HO'.out⟩⟩, G3⟩
theorem put_finP (base p k : Nat) (e : Pt) (E : List Pt) (n : Nat) (hn : Hid (n = E.length)) (hbp : base ≤ p) (W wp X wn : World) (hpw : p < W.heap.size) (x y : Option Addr) (cap c : Nat) (hP : PlaceOfP e E k)
    (hown : wn.ownsRow base 62 1 (.slice y (n + 1) c) (n + 1) (ptC (E.take k ++ e :: E.drop k))) (hL : ListP wn p x n cap) (G : Below W.heap.size W wp) (GX : Below wp.heap.size wp X) (hbn : Below base X wn) (hS : RankS (valsP E)) (hid : ∀ z ∈ E, e.v.id ≠ z.v.id) :
    PutPostP base p W e E (.returned (.tuple #[])) (wn.setCell ⟨p, 1, none⟩ (.slice y (n + 1) c)) :=
  put_doneP base p k e E n hn hbp (by rw [hn.out]; exact hP.1) W wn x y cap c hown hL (((grow_next G GX).mono (by omega)).trans hbn) hS hid hP.2.1 hP.2.2

set_option maxRecDepth 100000 in
set_option maxHeartbeats 4000000 in
theorem putP_c (base p : Nat) (e : Pt) (E : List Pt) (n : Nat) (hn : Hid (n = E.length)) (hsm : n ≤ 100000) (x : Option Addr) (cap : Nat) (W : World) (hb : base ≤ p) (hL : ListP W p x n cap) (hE : PtRow base W x cap E) (hS : RankS (valsP E)) (hid : ∀ z ∈ E, e.v.id ≠ z.v.id) (hH : Held base W (e :: E)) {ao an au : Addr} (L : Ld W ao an au) :
    Calls Tryd.prog 44 #[.pointer (some ⟨p, 0, none⟩), .pointer (some e.a)] W (PutPostP base p W e E) := by
  have hpw : p < W.heap.size := (Array.getElem?_eq_some_iff.1 hL).1
  obtain ⟨m0, m1⟩ := hL.cells
  have f1 := hL.thaw
  have hlt0 := hE.lt
  have L1d : ListP (W.alloc (.cells #[.pointer (some e.a)] 62)).drew p x n cap := hL.next (below_newd W _)
  have E1d : PtRow base (W.alloc (.cells #[.pointer (some e.a)] 62)).drew x cap E := hE.next (below_newd W _)
  have H1d : Held base (W.alloc (.cells #[.pointer (some e.a)] 62)).drew (e :: E) := hH.below ((below_newd W _).mono (by omega))
  have H1r : Held base W.drew (e :: E) := hH
  have D1d : Ld (W.alloc (.cells #[.pointer (some e.a)] 62)).drew ao an au := L.next (below_newd W _)
  have D1r : Ld W.drew ao an au := L.next (below_drewR (Below.refl _ _))
  have HH := Lib.hid hH
  have HI := Lib.hid hid
  have HS := Lib.hid hS
  clear hH hid hS
  go_enter Tryd.func44, Tryd.ntmps44
  go_wp2_with fail
  go_region_with
    (first
      | (go_at_call 59; (with_reducible refine (placeOf_pt base p e E n hn hsm x cap _ hb ?_ ?_ ?_ (ao := ao) (an := an) (au := au) ?_).mono ?_); (first | exact hL | exact L1d); (first | exact hE | exact E1d); (first | exact H1r | exact H1d); (first | exact D1r | exact D1d); rintro r wp ⟨k, rfl, hP, hbp⟩; have G : Below W.heap.size W wp := (by first | exact below_drewL hbp | exact grow_next (below_newd W _) hbp); have L3 := hL.next G; have E3 := hE.next G; obtain ⟨m03, m13⟩ := L3.cells; have hp3 : p < wp.heap.size := Nat.lt_of_lt_of_le hpw G.size; try (have J3 := blk_next hbp (blk_newd W (.cells #[.pointer (some e.a)] 62))))
      | (go_at_call 58; refine (insert_pt base p x cap n k _ _ (Lib.hid rfl) e E _ hn hb ?_ ?_ hsm (by rw [hn.out]; exact hP.1) ?_ ?_).mono ?_; (first | exact L3 | exact L3.next (below_new _ _)); (first | exact E3 | exact E3.next (below_new _ _)); (first | exact blk_new _ _ | exact J3); (intro g hg; have := hlt0 g hg; have := G.size; omega); rintro r wn ⟨yy, cc, rfl, hown', hLn, hbn⟩; obtain ⟨m0n, m1n⟩ := hLn.cells; have n2 := hLn.thaw))
  all_goals
    go_returns
    first
      | exact put_finP base p k e E n hn hb W wp _ wn hpw x yy cap cc hP hown' hLn G (Below.refl _ _) hbn HS.out HI.out
      | exact put_finP base p k e E n hn hb W wp _ wn hpw x yy cap cc hP hown' hLn G (below_new wp _) hbn HS.out HI.out
      | exact put_finP base p k e E n hn hb W wp _ wn hpw x yy cap cc hP hown' hLn G (below_newd wp _) hbn HS.out HI.out
end Go.Proofs.YtfcmcelhndppnaaDoor
