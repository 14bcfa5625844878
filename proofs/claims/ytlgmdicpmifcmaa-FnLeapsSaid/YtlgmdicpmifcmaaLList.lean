/- The list of leaps that the program sorts: its box, its row, a place in it, one put into it. -/
import Derived.Test.YtlgmdicpmifcmaaLInsert
import Derived.Test.YtlgmdicpmifcmaaLp
import Derived.Test.YtlgmdicpmifcmaaTab
import Derived.Deep.RegionHeld3
import Derived.Deep.RegionWith
namespace Go.Proofs.Ytlgmdicpmifcmaa
open Go.ChangeShapes Go.WideShapes Go.ChangeAt Go.RowKit
set_option linter.unusedVariables false
set_option linter.unusedSimpArgs false

def Lp.ahead (a b : Lp) : Bool := decide (a.at_ < b.at_)

theorem leapAhead_c (a b : Lp) (w : World) :
    Calls Try.prog 40 #[.agg #[.int .i64 a.at_, .int .i64 a.add], .agg #[.int .i64 b.at_, .int .i64 b.add]] w fun e w' => e = .returned (.bool (a.ahead b)) ∧ Below w.heap.size w w' := by
  go_enter Try.func40, Try.ntmps40
  go_wp2
  go_returns
  exact ⟨rfl, by go_grown⟩

theorem run_store_func (P : Program) (w : World) (a : Addr) (m : Mode) (f : Fn) (xs ys : Array Value) : (store a (.func f xs ys) m).run P w = stored P w a (.func f xs ys) m := run_store P w a _ m rfl
attribute [local go_sem] run_store_func

/-- The list that is sorted: its test, and its row of edges. -/
def ListAt (W : World) (p : Nat) (x : Option Addr) (n cap : Nat) : Prop := W.heap[p]? = some (.cells #[.func (.func 40) #[] #[], .slice x n cap] 45)
theorem ListAt.cells {W : World} {p : Nat} {x : Option Addr} {n cap : Nat} (h : ListAt W p x n cap) : W.cell? ⟨p, 0, none⟩ = some (.func (.func 40) #[] #[]) ∧ W.cell? ⟨p, 1, none⟩ = some (.slice x n cap) := by
  simp [World.cell?, show W.heap[p]? = _ from h]
theorem ListAt.thaw {W : World} {p : Nat} {x : Option Addr} {n cap : Nat} (h : ListAt W p x n cap) : W.frozen? ⟨p, 1, none⟩ = false := by
  simp [World.frozen?, show W.heap[p]? = _ from h]
theorem ListAt.put {W : World} {p : Nat} {x : Option Addr} {n cap : Nat} (h : ListAt W p x n cap) (y : Option Addr) (m c : Nat) : ListAt (W.setCell ⟨p, 1, none⟩ (.slice y m c)) p y m c := by
  unfold ListAt at h ⊢
  simp [World.setCell, Array.getElem?_modify, h]
theorem ListAt.next {W W' : World} {p : Nat} {x : Option Addr} {n cap : Nat} (h : ListAt W p x n cap) (hb : Below W.heap.size W W') : ListAt W' p x n cap := blk_next hb h

/-- The cells of edges. -/
def Lp.cells (e : Lp) : List Value := [.int .i64 e.at_, .int .i64 e.add]
def flatLp (l : List Lp) : List Value := l.flatMap Lp.cells
theorem flatLp_cons (e : Lp) (l : List Lp) : flatLp (e :: l) = .int .i64 e.at_ :: .int .i64 e.add :: flatLp l := rfl
theorem flatLp_append (a b : List Lp) : flatLp (a ++ b) = flatLp a ++ flatLp b := by simp [flatLp]
theorem flatLp_length (l : List Lp) : (flatLp l).length = l.length * 2 := by
  induction l with
  | nil => rfl
  | cons e l ih => rw [flatLp_cons, List.length_cons, List.length_cons, ih, List.length_cons]; omega
theorem flatLp_take (l : List Lp) (k : Nat) : (flatLp l).take (k * 2) = flatLp (l.take k) := by
  induction l generalizing k with
  | nil => simp [flatLp]
  | cons e l ih =>
    cases k with
    | zero => simp [flatLp]
    | succ k => rw [show (k + 1) * 2 = k * 2 + 2 by omega, flatLp_cons, List.take_succ_cons, List.take_succ_cons, ih, List.take_succ_cons, flatLp_cons]
theorem flatLp_drop (l : List Lp) (k : Nat) : (flatLp l).drop (k * 2) = flatLp (l.drop k) := by
  induction l generalizing k with
  | nil => simp [flatLp]
  | cons e l ih =>
    cases k with
    | zero => simp
    | succ k => rw [show (k + 1) * 2 = k * 2 + 2 by omega, flatLp_cons, List.drop_succ_cons, List.drop_succ_cons, ih, List.drop_succ_cons]
theorem flatLp_at {l : List Lp} {k : Nat} {e : Lp} (h : l[k]? = some e) : (flatLp l)[k * 2]? = some (.int .i64 e.at_) ∧ (flatLp l)[k * 2 + 1]? = some (.int .i64 e.add) := by
  induction l generalizing k with
  | nil => simp at h
  | cons a l ih =>
    cases k with
    | zero => simp at h; subst h; exact ⟨rfl, rfl⟩
    | succ k =>
      rw [List.getElem?_cons_succ] at h
      have := ih h
      rw [show (k + 1) * 2 = k * 2 + 2 by omega, flatLp_cons]
      exact this
theorem flatLp_one {l : List Lp} : ∀ v ∈ flatLp l, v.oneCell' = true := by
  intro v hv
  obtain ⟨e, _, he⟩ := List.mem_flatMap.1 hv
  simp only [Lp.cells, List.mem_cons, List.not_mem_nil, or_false] at he
  rcases he with rfl | rfl <;> rfl

/-- A row of edges of the call's own. -/
def LpRow (base : Nat) (W : World) (x : Option Addr) (cap : Nat) (E : List Lp) : Prop := W.ownsRow base 30 2 (.slice x E.length cap) E.length (flatLp E)
theorem LpRow.at_ {base : Nat} {W : World} {x : Option Addr} {cap k : Nat} {E : List Lp} {e : Lp} (h : LpRow base W x cap E) (hk : E[k]? = some e) :
    ∃ g, x = some ⟨g, 0, none⟩ ∧ base ≤ g ∧ (∃ cur, W.heap[g]? = some (.cells cur 30 (0, 0))) ∧ W.cell? ⟨g, k * 2, none⟩ = some (.int .i64 e.at_) ∧ W.cell? ⟨g, k * 2 + 1, none⟩ = some (.int .i64 e.add) := by
  have hkl := (List.getElem?_eq_some_iff.1 hk).1
  obtain ⟨c0, c1⟩ := flatLp_at hk
  have h0 := h
  rcases h.2 with ⟨e, e0⟩ | ⟨g, c, cur, e, hb, hg, _, _, _, htk⟩
  · omega
  · simp only [Value.slice.injEq] at e
    obtain ⟨rfl, _, rfl⟩ := e
    refine ⟨g, rfl, hb, ⟨_, hg⟩, ?_, ?_⟩
    · rw [World.ownsRow.cellAt h0 _ (by omega), c0]
    · rw [World.ownsRow.cellAt h0 _ (by omega), c1]
theorem LpRow.next {base : Nat} {W W' : World} {x : Option Addr} {cap : Nat} {E : List Lp} (h : LpRow base W x cap E) (hb : Below W.heap.size W W') : LpRow base W' x cap E := by
  refine ⟨h.1, ?_⟩
  rcases h.2 with e | ⟨g, c, cur, e, hb', hg, r⟩
  · exact .inl e
  · exact .inr ⟨g, c, cur, e, hb', blk_next hb hg, r⟩

theorem LpRow.two {base : Nat} {W : World} {g cap k : Nat} {E : List Lp} {e : Lp} (h : LpRow base W (some ⟨g, 0, none⟩) cap E) (hk : E[k]? = some e) :
    W.cell? ⟨g, k * 2, none⟩ = some (.int .i64 e.at_) ∧ W.cell? ⟨g, k * 2 + 1, none⟩ = some (.int .i64 e.add) := by
  obtain ⟨g', hg, _, _, c0, c1⟩ := h.at_ hk
  simp only [Option.some.injEq, Addr.mk.injEq, and_true] at hg
  subst hg
  exact ⟨c0, c1⟩
theorem LpRow.lt {base : Nat} {W : World} {x : Option Addr} {cap : Nat} {E : List Lp} (h : LpRow base W x cap E) : ∀ g, (Value.slice x E.length cap).ownBlock = some g → base ≤ g ∧ g < W.heap.size := World.ownsRow.lt h
theorem LpRow.tag {base : Nat} {W : World} {x : Option Addr} {cap : Nat} {E : List Lp} (h : LpRow base W x cap E) {g : Nat} (hg : (Value.slice x E.length cap).ownBlock = some g) : ∃ cur, W.heap[g]? = some (.cells cur 30 (0, 0)) := by
  rcases h.2 with ⟨e, e0⟩ | ⟨g', c, cur, e, hb, hh, _⟩
  · rw [e] at hg; simp [Value.ownBlock] at hg
  · rw [e] at hg
    simp [Value.ownBlock] at hg
    subst hg
    exact ⟨cur, hh⟩

/-- Put behind the k-th: a row of the call's own, the list's box as it was, nothing below base turned. -/
def InsLp (base p k : Nat) (w : World) (x : Option Addr) (n cap : Nat) (e : Lp) (E : List Lp) : Ending → World → Prop := fun r w' =>
  ∃ (y : Option Addr) (c : Nat), r = .returned (.slice y (n + 1) c) ∧ w'.ownsRow base 30 2 (.slice y (n + 1) c) (n + 1) (flatLp (E.take k ++ e :: E.drop k)) ∧ ListAt w' p x n cap ∧ Below base w w' ∧ ∀ j, j < w.heap.size → some j ≠ (Value.slice x E.length cap).ownBlock → w'.heap[j]? = w.heap[j]?

theorem insert_lp (base p : Nat) (x : Option Addr) (cap n k q : Nat) (kz : Int) (hkz : Hid (kz = k)) (e : Lp) (E : List Lp) (w : World) (hn : Hid (n = E.length)) (hbp : base ≤ p) (hL : ListAt w p x n cap) (hE : LpRow base w x cap E) (hsm : n ≤ 100000) (hk : k ≤ n)
    (hq : w.heap[q]? = some (.cells #[.int .i64 e.at_, .int .i64 e.add] 30)) (hlt : ∀ g, (Value.slice x E.length cap).ownBlock = some g → g < q) :
    Calls Try.prog 45 #[.slice x n cap, .int .i64 kz, .slice (some ⟨q, 0, none⟩) 1 1] w (InsLp base p k w x n cap e E) := by
  have hn' := hn.out
  subst hn'
  have hkz' := hkz.out
  subst hkz'
  have hpw : p < w.heap.size := (Array.getElem?_eq_some_iff.1 hL).1
  refine (insert_c base x cap E.length k q (flatLp E) e.cells w hE (by omega) (by omega) hk hq (fun h => by have := hlt q h; omega) rfl flatLp_one (by intro v hv; exact flatLp_one (l := [e]) v (by simpa [flatLp] using hv))).mono ?_
  rintro r w' ⟨v', rfl, hown, hg⟩
  obtain ⟨y, c, rfl⟩ := ownsRow_formT hown
  refine ⟨y, c, rfl, ?_, ?_, ⟨hg.os, hg.tape, hg.output, hg.size, fun j hj => hg.block j (by omega) (fun h => by have := (hE.lt j h.symm).1; omega)⟩, hg.block⟩
  · have e1 : flatLp (E.take k ++ e :: E.drop k) = (flatLp E).take (k * 2) ++ (e.cells ++ (flatLp E).drop (k * 2)) := by
      rw [flatLp_append, flatLp_take, flatLp_drop]; rfl
    rw [e1]
    exact hown
  · refine (hg.block p hpw (fun h => ?_)).trans hL
    obtain ⟨cur, hc⟩ := hE.tag h.symm
    have := hc.symm.trans hL
    simp at this

theorem put_keep (W wt : World) (o o' : Obj) (G : Below (W.alloc o).heap.size (W.alloc o) wt) (j : Nat) (hj : j < W.heap.size) : (wt.alloc o').drew.heap[j]? = W.heap[j]? := by
  have h0 := (below_new W o).block j hj
  have h1 := G.block j (by simp; omega)
  have h2 := (below_newd wt o').block j (by have := G.size; simp at this; omega)
  rw [h2, h1, h0]

/-- Where one belongs: all from there on are behind it, the one ahead is not. -/
def PlaceOf (e : Lp) (E : List Lp) (k : Nat) : Prop := k ≤ E.length ∧ (∀ j y, k ≤ j → E[j]? = some y → e.ahead y = true) ∧ (k = 0 ∨ ∃ y, E[k - 1]? = some y ∧ e.ahead y = false)
def PlacePost (e : Lp) (E : List Lp) (W : World) : Ending → World → Prop := fun r w' => ∃ k : Nat, r = .returned (.int .i64 k) ∧ PlaceOf e E k ∧ Below W.heap.size W w'

set_option maxHeartbeats 4000000 in
theorem placeOf_lp (base p : Nat) (e : Lp) (E : List Lp) (n : Nat) (hn : Hid (n = E.length)) (hsm : n ≤ 100000) (x : Option Addr) (cap : Nat) (W : World) (hL : ListAt W p x n cap) (hE : LpRow base W x cap E) :
    Calls Try.prog 31 #[.pointer (some ⟨p, 0, none⟩), .agg #[.int .i64 e.at_, .int .i64 e.add]] W (PlacePost e E W) := by
  have hpw : p < W.heap.size := (Array.getElem?_eq_some_iff.1 hL).1
  obtain ⟨l0, l1⟩ := hL.cells
  have I1 := blk_new W (.cells #[.int .i64 e.at_, .int .i64 e.add] 30)
  have L1 : ListAt (W.alloc (.cells #[.int .i64 e.at_, .int .i64 e.add] 30)) p x n cap := hL.next (by go_grown)
  have E1 : LpRow base (W.alloc (.cells #[.int .i64 e.at_, .int .i64 e.add] 30)) x cap E := hE.next (by go_grown)
  go_enter Try.func31, Try.ntmps31
  go_wp2
  go_loopw [5] (fun i wr => ∃ k : Nat, k ≤ n ∧ i = .int .i64 k ∧ (∀ j y, k ≤ j → E[j]? = some y → e.ahead y = true) ∧ Below (W.alloc (.cells #[.int .i64 e.at_, .int .i64 e.add] 30)).heap.size (W.alloc (.cells #[.int .i64 e.at_, .int .i64 e.add] 30)) wr) (fun i _ => (intOf i).toNat)
  case atStart =>
    refine ⟨n, Nat.le_refl _, rfl, fun j y hj hy => ?_, Below.refl _ _⟩
    have := (List.getElem?_eq_some_iff.1 hy).1
    have := hn.out
    omega
  case round =>
    obtain ⟨k, hk, rfl, ha, hb'⟩ := hrel
    have HA := Lib.hid ha
    clear ha
    have I2 := blk_next hb' I1
    have L2 := L1.next hb'
    have E2 := E1.next hb'
    obtain ⟨m0, m1⟩ := L2.cells
    have i0 : wr.cell? ⟨W.heap.size, 0, none⟩ = some (.int .i64 e.at_) := by simp [World.cell?, I2]
    have i1 : wr.cell? ⟨W.heap.size, 1, none⟩ = some (.int .i64 e.add) := by simp [World.cell?, I2]
    have hB : Below W.heap.size W wr := (below_new W _).trans (hb'.mono (by simp))
    rcases Nat.eq_zero_or_pos k with rfl | hk0
    · go_wp2_with fail
      go_quiet (fail)
      go_wp2_with fail
      go_returns
      exact ⟨0, rfl, ⟨Nat.zero_le _, HA.out, .inl rfl⟩, grow_drew hB _⟩
    · obtain ⟨y, hy⟩ := get_at (l := E) (k := k - 1) (by rw [← hn.out]; omega)
      obtain ⟨g, rfl, hbg, _, c0, c1⟩ := E2.at_ hy
      have hk1 : (0 : Int) < (k : Int) := by omega
      have hki : IntKind.i64.wrap ((k : Int) - 1) = ((k - 1 : Nat) : Int) := by rw [IntWalk.i64_in _ (by omega)]; omega
      have hk2 : k - 1 < n := by omega
      have hk3 : ((k - 1 : Nat) : Int) < (n : Int) := by omega
      have HY := Lib.hid hy
      clear hy
      cases ho : e.ahead y with
      | true =>
        have HO := Lib.hid (fun w => show Calls Try.prog 40 #[.agg #[.int .i64 e.at_, .int .i64 e.add], .agg #[.int .i64 y.at_, .int .i64 y.add]] w fun r w' => r = .returned (.bool true) ∧ Below w.heap.size w w' from ho ▸ leapAhead_c e y w)
        have HO' := Lib.hid ho
        clear ho
        go_wp2_with fail
        go_region_held3 (fun w' => (w'.cell? ⟨p, 0, none⟩ = some (.func (.func 40) #[] #[]) ∧ w'.cell? ⟨p, 1, none⟩ = some (.slice (some ⟨g, 0, none⟩) n cap)) ∧ (w'.cell? ⟨W.heap.size, 0, none⟩ = some (.int .i64 e.at_) ∧ w'.cell? ⟨W.heap.size, 1, none⟩ = some (.int .i64 e.add)) ∧ (w'.cell? ⟨g, (k - 1) * 2, none⟩ = some (.int .i64 y.at_) ∧ w'.cell? ⟨g, (k - 1) * 2 + 1, none⟩ = some (.int .i64 y.add)))
          (first | exact ⟨⟨m0, m1⟩, ⟨i0, i1⟩, c0, c1⟩ | assumption | exact ⟨by assumption, by assumption, by assumption⟩)
          ((go_at_call 40; with_reducible refine (HO.out _).mono ?_; rintro r wn ⟨rfl, hbn⟩; have I3 := blk_next (below_drewL hbn) I2; have L3 := L2.next (below_drewL hbn); have E3 := E2.next (below_drewL hbn); have G3 := grow_next hb' (below_drewL hbn); have A3 := L3.cells; have B3 := lp_cells I3; have C3 := E3.two HY.out))
        go_wp2_with fail
        go_roundw
        case rel =>
          refine ⟨k - 1, by omega, by rw [show ((k - 1 : Nat) : Int) = (k : Int) - 1 from by omega], fun j z hj hz => ?_, by assumption⟩
          rcases Nat.lt_or_ge j k with hlt | hge
          · obtain rfl : j = k - 1 := by omega
            rw [HY.out] at hz
            simp only [Option.some.injEq] at hz
            rw [← hz]
            exact HO'.out
          · exact HA.out j z hge hz
        case measure => simp [intOf]; omega
      | false =>
        have HO := Lib.hid (fun w => show Calls Try.prog 40 #[.agg #[.int .i64 e.at_, .int .i64 e.add], .agg #[.int .i64 y.at_, .int .i64 y.add]] w fun r w' => r = .returned (.bool false) ∧ Below w.heap.size w w' from ho ▸ leapAhead_c e y w)
        have HO' := Lib.hid ho
        clear ho
        go_wp2_with fail
        go_region_held3 (fun w' => (w'.cell? ⟨p, 0, none⟩ = some (.func (.func 40) #[] #[]) ∧ w'.cell? ⟨p, 1, none⟩ = some (.slice (some ⟨g, 0, none⟩) n cap)) ∧ (w'.cell? ⟨W.heap.size, 0, none⟩ = some (.int .i64 e.at_) ∧ w'.cell? ⟨W.heap.size, 1, none⟩ = some (.int .i64 e.add)) ∧ (w'.cell? ⟨g, (k - 1) * 2, none⟩ = some (.int .i64 y.at_) ∧ w'.cell? ⟨g, (k - 1) * 2 + 1, none⟩ = some (.int .i64 y.add)))
          (first | exact ⟨⟨m0, m1⟩, ⟨i0, i1⟩, c0, c1⟩ | assumption | exact ⟨by assumption, by assumption, by assumption⟩)
          ((go_at_call 40; with_reducible refine (HO.out _).mono ?_; rintro r wt ⟨rfl, hbn⟩; have I3 := blk_next (below_drewL hbn) I2; have L3 := L2.next (below_drewL hbn); have E3 := E2.next (below_drewL hbn); have G3 := grow_next hb' (below_drewL hbn); have A3 := L3.cells; have B3 := lp_cells I3; have C3 := E3.two HY.out))
        have hT : Below W.heap.size W wt := (below_new W _).trans (G3.mono (by simp))
        go_wp2_with fail
        go_returns
        exact ⟨k, rfl, ⟨by rw [← hn.out]; exact hk, HA.out, .inr ⟨y, HY.out, HO'.out⟩⟩, hT⟩
end Go.Proofs.Ytlgmdicpmifcmaa
