/- The edges of intervals, put in their order one by one. -/
import Derived.Test.YtohcebiepekbeaaGreatDoorInsert
import Derived.Test.YtohcebiepekbeaaGreatDoorIvsI
import Derived.Deep.RegionHeld3
import Derived.Deep.RegionWith
namespace Go.Proofs.YtohcebiepekbeaaGreatDoor
open Go.ChangeShapes Go.WideShapes Go.ChangeAt Go.RowKit
set_option linter.unusedVariables false
set_option linter.unusedSimpArgs false

structure Ed where
  at_ : Int
  more : Int
deriving DecidableEq

def Ed.ahead (a b : Ed) : Bool := decide (a.at_ < b.at_) || (decide (a.at_ = b.at_) && decide (b.more < a.more))
theorem Ed.ahead_lt {a b : Ed} (h : a.at_ < b.at_) : a.ahead b = true := by simp [Ed.ahead, h]
theorem Ed.ahead_gt {a b : Ed} (h : ¬ a.at_ < b.at_) (h' : ¬ a.at_ = b.at_) : a.ahead b = false := by simp [Ed.ahead, h, h']
theorem Ed.ahead_eq {a b : Ed} (h : a.at_ = b.at_) : a.ahead b = decide (b.more < a.more) := by simp [Ed.ahead, h]

theorem edgeAhead_c (a b : Ed) (w : World) :
    Calls Tryz.prog 105 #[.agg #[.int .i64 a.at_, .int .i64 a.more], .agg #[.int .i64 b.at_, .int .i64 b.more]] w fun e w' => e = .returned (.bool (a.ahead b)) ∧ Below w.heap.size w w' := by
  by_cases h : a.at_ < b.at_
  · rw [Ed.ahead_lt h]
    go_enter Tryz.func105, Tryz.ntmps105
    go_wp2
    go_returns
    exact ⟨rfl, by go_grown⟩
  · by_cases h' : a.at_ = b.at_
    · rw [Ed.ahead_eq h']
      obtain ⟨a0, a1⟩ := a
      obtain ⟨b0, b1⟩ := b
      dsimp only at h h' ⊢
      subst h'
      go_enter Tryz.func105, Tryz.ntmps105
      go_wp2
      go_returns
      exact ⟨by simp, by go_grown⟩
    · rw [Ed.ahead_gt h h']
      have h1 : ¬ (b.at_ = a.at_) := fun e => h' e.symm
      go_enter Tryz.func105, Tryz.ntmps105
      go_wp2
      go_returns
      exact ⟨by simp [h'], by go_grown⟩

theorem run_store_func (P : Program) (w : World) (a : Addr) (m : Mode) (f : Fn) (xs ys : Array Value) : (store a (.func f xs ys) m).run P w = stored P w a (.func f xs ys) m := run_store P w a _ m rfl
attribute [local go_sem] run_store_func

/-- The list that is sorted: its test, and its row of edges. -/
def ListAt (W : World) (p : Nat) (x : Option Addr) (n cap : Nat) : Prop := W.heap[p]? = some (.cells #[.func (.func 105) #[] #[], .slice x n cap] 152)
theorem ListAt.cells {W : World} {p : Nat} {x : Option Addr} {n cap : Nat} (h : ListAt W p x n cap) : W.cell? ⟨p, 0, none⟩ = some (.func (.func 105) #[] #[]) ∧ W.cell? ⟨p, 1, none⟩ = some (.slice x n cap) := by
  simp [World.cell?, show W.heap[p]? = _ from h]
theorem ListAt.thaw {W : World} {p : Nat} {x : Option Addr} {n cap : Nat} (h : ListAt W p x n cap) : W.frozen? ⟨p, 1, none⟩ = false := by
  simp [World.frozen?, show W.heap[p]? = _ from h]
theorem ListAt.put {W : World} {p : Nat} {x : Option Addr} {n cap : Nat} (h : ListAt W p x n cap) (y : Option Addr) (m c : Nat) : ListAt (W.setCell ⟨p, 1, none⟩ (.slice y m c)) p y m c := by
  unfold ListAt at h ⊢
  simp [World.setCell, Array.getElem?_modify, h]
theorem ListAt.next {W W' : World} {p : Nat} {x : Option Addr} {n cap : Nat} (h : ListAt W p x n cap) (hb : Below W.heap.size W W') : ListAt W' p x n cap := blk_next hb h

/-- The cells of edges. -/
def Ed.cells (e : Ed) : List Value := [.int .i64 e.at_, .int .i64 e.more]
def flatEd (l : List Ed) : List Value := l.flatMap Ed.cells
theorem flatEd_cons (e : Ed) (l : List Ed) : flatEd (e :: l) = .int .i64 e.at_ :: .int .i64 e.more :: flatEd l := rfl
theorem flatEd_append (a b : List Ed) : flatEd (a ++ b) = flatEd a ++ flatEd b := by simp [flatEd]
theorem flatEd_length (l : List Ed) : (flatEd l).length = l.length * 2 := by
  induction l with
  | nil => rfl
  | cons e l ih => rw [flatEd_cons, List.length_cons, List.length_cons, ih, List.length_cons]; omega
theorem flatEd_take (l : List Ed) (k : Nat) : (flatEd l).take (k * 2) = flatEd (l.take k) := by
  induction l generalizing k with
  | nil => simp [flatEd]
  | cons e l ih =>
    cases k with
    | zero => simp [flatEd]
    | succ k => rw [show (k + 1) * 2 = k * 2 + 2 by omega, flatEd_cons, List.take_succ_cons, List.take_succ_cons, ih, List.take_succ_cons, flatEd_cons]
theorem flatEd_drop (l : List Ed) (k : Nat) : (flatEd l).drop (k * 2) = flatEd (l.drop k) := by
  induction l generalizing k with
  | nil => simp [flatEd]
  | cons e l ih =>
    cases k with
    | zero => simp
    | succ k => rw [show (k + 1) * 2 = k * 2 + 2 by omega, flatEd_cons, List.drop_succ_cons, List.drop_succ_cons, ih, List.drop_succ_cons]
theorem flatEd_at {l : List Ed} {k : Nat} {e : Ed} (h : l[k]? = some e) : (flatEd l)[k * 2]? = some (.int .i64 e.at_) ∧ (flatEd l)[k * 2 + 1]? = some (.int .i64 e.more) := by
  induction l generalizing k with
  | nil => simp at h
  | cons a l ih =>
    cases k with
    | zero => simp at h; subst h; exact ⟨rfl, rfl⟩
    | succ k =>
      rw [List.getElem?_cons_succ] at h
      have := ih h
      rw [show (k + 1) * 2 = k * 2 + 2 by omega, flatEd_cons]
      exact this
theorem flatEd_one {l : List Ed} : ∀ v ∈ flatEd l, v.oneCell' = true := by
  intro v hv
  obtain ⟨e, _, he⟩ := List.mem_flatMap.1 hv
  simp only [Ed.cells, List.mem_cons, List.not_mem_nil, or_false] at he
  rcases he with rfl | rfl <;> rfl

/-- A row of edges of the call's own. -/
def EdRow (base : Nat) (W : World) (x : Option Addr) (cap : Nat) (E : List Ed) : Prop := W.ownsRow base 149 2 (.slice x E.length cap) E.length (flatEd E)
theorem EdRow.at_ {base : Nat} {W : World} {x : Option Addr} {cap k : Nat} {E : List Ed} {e : Ed} (h : EdRow base W x cap E) (hk : E[k]? = some e) :
    ∃ g, x = some ⟨g, 0, none⟩ ∧ base ≤ g ∧ (∃ cur, W.heap[g]? = some (.cells cur 149 (0, 0))) ∧ W.cell? ⟨g, k * 2, none⟩ = some (.int .i64 e.at_) ∧ W.cell? ⟨g, k * 2 + 1, none⟩ = some (.int .i64 e.more) := by
  have hkl := (List.getElem?_eq_some_iff.1 hk).1
  obtain ⟨c0, c1⟩ := flatEd_at hk
  have h0 := h
  rcases h.2 with ⟨e, e0⟩ | ⟨g, c, cur, e, hb, hg, _, _, _, htk⟩
  · omega
  · simp only [Value.slice.injEq] at e
    obtain ⟨rfl, _, rfl⟩ := e
    refine ⟨g, rfl, hb, ⟨_, hg⟩, ?_, ?_⟩
    · rw [World.ownsRow.cellAt h0 _ (by omega), c0]
    · rw [World.ownsRow.cellAt h0 _ (by omega), c1]
theorem EdRow.next {base : Nat} {W W' : World} {x : Option Addr} {cap : Nat} {E : List Ed} (h : EdRow base W x cap E) (hb : Below W.heap.size W W') : EdRow base W' x cap E := by
  refine ⟨h.1, ?_⟩
  rcases h.2 with e | ⟨g, c, cur, e, hb', hg, r⟩
  · exact .inl e
  · exact .inr ⟨g, c, cur, e, hb', blk_next hb hg, r⟩

theorem EdRow.two {base : Nat} {W : World} {g cap k : Nat} {E : List Ed} {e : Ed} (h : EdRow base W (some ⟨g, 0, none⟩) cap E) (hk : E[k]? = some e) :
    W.cell? ⟨g, k * 2, none⟩ = some (.int .i64 e.at_) ∧ W.cell? ⟨g, k * 2 + 1, none⟩ = some (.int .i64 e.more) := by
  obtain ⟨g', hg, _, _, c0, c1⟩ := h.at_ hk
  simp only [Option.some.injEq, Addr.mk.injEq, and_true] at hg
  subst hg
  exact ⟨c0, c1⟩
theorem ed_cells {W : World} {b : Nat} {T : TypeId} {e : Ed} (h : W.heap[b]? = some (.cells #[.int .i64 e.at_, .int .i64 e.more] T)) : W.cell? ⟨b, 0, none⟩ = some (.int .i64 e.at_) ∧ W.cell? ⟨b, 1, none⟩ = some (.int .i64 e.more) := by
  simp [World.cell?, h]

/-- None is ahead of one that stands ahead of it. -/
def SortedEd (E : List Ed) : Prop := E.Pairwise fun a b => b.ahead a = false

theorem Ed.ahead_iff {a b : Ed} : a.ahead b = true ↔ a.at_ < b.at_ ∨ (a.at_ = b.at_ ∧ b.more < a.more) := by simp [Ed.ahead]
theorem Ed.ahead_not {a b : Ed} : a.ahead b = false ↔ ¬ (a.at_ < b.at_ ∨ (a.at_ = b.at_ ∧ b.more < a.more)) := by
  rw [← Ed.ahead_iff]
  cases a.ahead b <;> simp
theorem sorted_put {E : List Ed} (h : SortedEd E) (e : Ed) (k : Nat) (hk : k ≤ E.length) (h1 : ∀ j x, k ≤ j → E[j]? = some x → e.ahead x = true) (h0 : k = 0 ∨ ∃ x, E[k - 1]? = some x ∧ e.ahead x = false) :
    SortedEd (E.take k ++ e :: E.drop k) := by
  have hE : E = E.take k ++ E.drop k := (List.take_append_drop k E).symm
  unfold SortedEd at h ⊢
  rw [List.pairwise_iff_getElem] at h
  rw [List.pairwise_append, List.pairwise_cons]
  refine ⟨?_, ⟨?_, ?_⟩, ?_⟩
  · exact List.Pairwise.sublist (List.take_sublist k E) (List.pairwise_iff_getElem.2 h)
  · intro b hb
    obtain ⟨j, hj, rfl⟩ := List.mem_iff_getElem.1 hb
    have hl : k + j < E.length := by rw [List.length_drop] at hj; omega
    have := h1 (k + j) _ (by omega) (List.getElem?_eq_getElem hl)
    rw [List.getElem_drop]
    rw [Ed.ahead_iff] at this
    rw [Ed.ahead_not]
    omega
  · exact List.Pairwise.sublist (List.drop_sublist k E) (List.pairwise_iff_getElem.2 h)
  · intro a ha b hb
    obtain ⟨i, hi, rfl⟩ := List.mem_iff_getElem.1 ha
    have hil : i < E.length := by rw [List.length_take] at hi; omega
    have hik : i < k := by rw [List.length_take] at hi; omega
    rw [List.getElem_take]
    rcases List.mem_cons.1 hb with rfl | hb
    · rcases h0 with rfl | ⟨x, hx, hxa⟩
      · omega
      · obtain ⟨hl, rfl⟩ := List.getElem?_eq_some_iff.1 hx
        rcases Nat.lt_or_ge i (k - 1) with hlt | hge
        · have := h i (k - 1) hil hl hlt
          rw [Ed.ahead_not] at this hxa ⊢
          omega
        · obtain rfl : i = k - 1 := by omega
          exact hxa
    · obtain ⟨j, hj, rfl⟩ := List.mem_iff_getElem.1 hb
      rw [List.length_drop] at hj
      rw [List.getElem_drop]
      exact h i (k + j) hil (by omega) (by omega)
theorem perm_put (E : List Ed) (e : Ed) (k : Nat) : (E.take k ++ e :: E.drop k).Perm (e :: E) := by
  refine List.perm_middle.trans ?_
  rw [List.take_append_drop]

theorem EdRow.lt {base : Nat} {W : World} {x : Option Addr} {cap : Nat} {E : List Ed} (h : EdRow base W x cap E) : ∀ g, (Value.slice x E.length cap).ownBlock = some g → base ≤ g ∧ g < W.heap.size := World.ownsRow.lt h
theorem EdRow.tag {base : Nat} {W : World} {x : Option Addr} {cap : Nat} {E : List Ed} (h : EdRow base W x cap E) {g : Nat} (hg : (Value.slice x E.length cap).ownBlock = some g) : ∃ cur, W.heap[g]? = some (.cells cur 149 (0, 0)) := by
  rcases h.2 with ⟨e, e0⟩ | ⟨g', c, cur, e, hb, hh, _⟩
  · rw [e] at hg; simp [Value.ownBlock] at hg
  · rw [e] at hg
    simp [Value.ownBlock] at hg
    subst hg
    exact ⟨cur, hh⟩

/-- Put behind the k-th: a row of the call's own, the list's box as it was, nothing below base turned. -/
def InsEd (base p k : Nat) (w : World) (x : Option Addr) (n cap : Nat) (e : Ed) (E : List Ed) : Ending → World → Prop := fun r w' =>
  ∃ (y : Option Addr) (c : Nat), r = .returned (.slice y (n + 1) c) ∧ w'.ownsRow base 149 2 (.slice y (n + 1) c) (n + 1) (flatEd (E.take k ++ e :: E.drop k)) ∧ ListAt w' p x n cap ∧ Below base w w' ∧ ∀ j, j < w.heap.size → some j ≠ (Value.slice x E.length cap).ownBlock → w'.heap[j]? = w.heap[j]?

theorem insert_ed (base p : Nat) (x : Option Addr) (cap n k q : Nat) (kz : Int) (hkz : Hid (kz = k)) (e : Ed) (E : List Ed) (w : World) (hn : Hid (n = E.length)) (hbp : base ≤ p) (hL : ListAt w p x n cap) (hE : EdRow base w x cap E) (hsm : n ≤ 100000) (hk : k ≤ n)
    (hq : w.heap[q]? = some (.cells #[.int .i64 e.at_, .int .i64 e.more] 149)) (hlt : ∀ g, (Value.slice x E.length cap).ownBlock = some g → g < q) :
    Calls Tryz.prog 126 #[.slice x n cap, .int .i64 kz, .slice (some ⟨q, 0, none⟩) 1 1] w (InsEd base p k w x n cap e E) := by
  have hn' := hn.out
  subst hn'
  have hkz' := hkz.out
  subst hkz'
  have hpw : p < w.heap.size := (Array.getElem?_eq_some_iff.1 hL).1
  refine (insert_c base x cap E.length k q (flatEd E) e.cells w hE (by omega) (by omega) hk hq (fun h => by have := hlt q h; omega) rfl flatEd_one (by intro v hv; exact flatEd_one (l := [e]) v (by simpa [flatEd] using hv))).mono ?_
  rintro r w' ⟨v', rfl, hown, hg⟩
  obtain ⟨y, c, rfl⟩ := ownsRow_form hown
  refine ⟨y, c, rfl, ?_, ?_, ⟨hg.os, hg.tape, hg.output, hg.size, fun j hj => hg.block j (by omega) (fun h => by have := (hE.lt j h.symm).1; omega)⟩, hg.block⟩
  · have e1 : flatEd (E.take k ++ e :: E.drop k) = (flatEd E).take (k * 2) ++ (e.cells ++ (flatEd E).drop (k * 2)) := by
      rw [flatEd_append, flatEd_take, flatEd_drop]; rfl
    rw [e1]
    exact hown
  · refine (hg.block p hpw (fun h => ?_)).trans hL
    obtain ⟨cur, hc⟩ := hE.tag h.symm
    have := hc.symm.trans hL
    simp at this

/-- What putting leaves: the list with one edge more, in its order; nothing below base has turned. -/
def PutPost (base p : Nat) (W : World) (x : Option Addr) (cap : Nat) (e : Ed) (E : List Ed) : Ending → World → Prop := fun r w' =>
  ∃ (y : Option Addr) (c : Nat) (E' : List Ed), r = .returned (.tuple #[]) ∧ ListAt w' p y E'.length c ∧ EdRow base w' y c E' ∧ SortedEd E' ∧ E'.Perm (e :: E) ∧ Below base W w' ∧ ∀ j, j < W.heap.size → j ≠ p → some j ≠ (Value.slice x E.length cap).ownBlock → w'.heap[j]? = W.heap[j]?

theorem put_keep (W wt : World) (o o' : Obj) (G : Below (W.alloc o).heap.size (W.alloc o) wt) (j : Nat) (hj : j < W.heap.size) : (wt.alloc o').drew.heap[j]? = W.heap[j]? := by
  have h0 := (below_new W o).block j hj
  have h1 := G.block j (by simp; omega)
  have h2 := (below_newd wt o').block j (by have := G.size; simp at this; omega)
  rw [h2, h1, h0]
theorem put_done (base p k : Nat) (e : Ed) (E : List Ed) (n : Nat) (hn : Hid (n = E.length)) (hbp : base ≤ p) (hk : k ≤ n) (W wn : World) (x y : Option Addr) (cap c : Nat)
    (hown : wn.ownsRow base 149 2 (.slice y (n + 1) c) (n + 1) (flatEd (E.take k ++ e :: E.drop k))) (hL : ListAt wn p x n cap) (hB : Below base W wn) (hS : SortedEd E)
    (h1 : ∀ j z, k ≤ j → E[j]? = some z → e.ahead z = true) (h0 : k = 0 ∨ ∃ z, E[k - 1]? = some z ∧ e.ahead z = false)
    (hK : ∀ j, j < W.heap.size → some j ≠ (Value.slice x E.length cap).ownBlock → wn.heap[j]? = W.heap[j]?) :
    PutPost base p W x cap e E (.returned (.tuple #[])) (wn.setCell ⟨p, 1, none⟩ (.slice y (n + 1) c)) := by
  have hn' := hn.out
  subst hn'
  have hlen : (E.take k ++ e :: E.drop k).length = E.length + 1 := by simp; omega
  refine ⟨y, c, E.take k ++ e :: E.drop k, rfl, by rw [hlen]; exact hL.put y _ c, ?_, sorted_put hS e k hk h1 h0, perm_put E e k, hB.setCell hbp _, fun j hj hp ho => (by
    rw [← hK j hj ho]
    simp [World.setCell, Array.getElem?_modify, Ne.symm hp])⟩
  unfold EdRow
  rw [hlen]
  refine ⟨hown.1, ?_⟩
  rcases hown.2 with h | ⟨g, c', cur, h, hb, hg, r⟩
  · exact .inl h
  · refine .inr ⟨g, c', cur, h, hb, ?_, r⟩
    have hne : p ≠ g := fun e => by
      subst e
      have := hg.symm.trans hL
      simp at this
    simp [World.setCell, Array.getElem?_modify, hne, hg]

/-- Where one belongs: all from there on are behind it, the one ahead is not. -/
def PlaceOfEd (e : Ed) (E : List Ed) (k : Nat) : Prop := k ≤ E.length ∧ (∀ j y, k ≤ j → E[j]? = some y → e.ahead y = true) ∧ (k = 0 ∨ ∃ y, E[k - 1]? = some y ∧ e.ahead y = false)
def PlacePostEd (e : Ed) (E : List Ed) (W : World) : Ending → World → Prop := fun r w' => ∃ k : Nat, r = .returned (.int .i64 k) ∧ PlaceOfEd e E k ∧ Below W.heap.size W w'

set_option maxHeartbeats 4000000 in
theorem placeOf_ed (base p : Nat) (e : Ed) (E : List Ed) (n : Nat) (hn : Hid (n = E.length)) (hsm : n ≤ 100000) (x : Option Addr) (cap : Nat) (W : World) (hL : ListAt W p x n cap) (hE : EdRow base W x cap E) :
    Calls Tryz.prog 127 #[.pointer (some ⟨p, 0, none⟩), .agg #[.int .i64 e.at_, .int .i64 e.more]] W (PlacePostEd e E W) := by
  have hpw : p < W.heap.size := (Array.getElem?_eq_some_iff.1 hL).1
  obtain ⟨l0, l1⟩ := hL.cells
  have I1 := blk_new W (.cells #[.int .i64 e.at_, .int .i64 e.more] 149)
  have L1 : ListAt (W.alloc (.cells #[.int .i64 e.at_, .int .i64 e.more] 149)) p x n cap := hL.next (by go_grown)
  have E1 : EdRow base (W.alloc (.cells #[.int .i64 e.at_, .int .i64 e.more] 149)) x cap E := hE.next (by go_grown)
  go_enter Tryz.func127, Tryz.ntmps127
  go_wp2
  go_loopw [5] (fun i wr => ∃ k : Nat, k ≤ n ∧ i = .int .i64 k ∧ (∀ j y, k ≤ j → E[j]? = some y → e.ahead y = true) ∧ Below (W.alloc (.cells #[.int .i64 e.at_, .int .i64 e.more] 149)).heap.size (W.alloc (.cells #[.int .i64 e.at_, .int .i64 e.more] 149)) wr) (fun i _ => (intOf i).toNat)
  case atStart =>
    refine ⟨n, Nat.le_refl _, rfl, fun j y hj hy => ?_, Below.refl _ _⟩
    have := (List.getElem?_eq_some_iff.1 hy).1
    have := hn.out
    omega
  case round =>
    obtain ⟨k, hk, rfl, ha, hb'⟩ := hrel
    have HA := Lib.hid ha
    clear ha
    have I2 := blk_next hb' I1
    have L2 := L1.next hb'
    have E2 := E1.next hb'
    obtain ⟨m0, m1⟩ := L2.cells
    have i0 : wr.cell? ⟨W.heap.size, 0, none⟩ = some (.int .i64 e.at_) := by simp [World.cell?, I2]
    have i1 : wr.cell? ⟨W.heap.size, 1, none⟩ = some (.int .i64 e.more) := by simp [World.cell?, I2]
    have hB : Below W.heap.size W wr := (below_new W _).trans (hb'.mono (by simp))
    rcases Nat.eq_zero_or_pos k with rfl | hk0
    · go_wp2_with fail
      go_quiet (fail)
      go_wp2_with fail
      go_returns
      exact ⟨0, rfl, ⟨Nat.zero_le _, HA.out, .inl rfl⟩, grow_drew hB _⟩
    · obtain ⟨y, hy⟩ := get_at (l := E) (k := k - 1) (by rw [← hn.out]; omega)
      obtain ⟨g, rfl, hbg, _, c0, c1⟩ := E2.at_ hy
      have hk1 : (0 : Int) < (k : Int) := by omega
      have hki : IntKind.i64.wrap ((k : Int) - 1) = ((k - 1 : Nat) : Int) := by rw [IntWalk.i64_in _ (by omega)]; omega
      have hk2 : k - 1 < n := by omega
      have hk3 : ((k - 1 : Nat) : Int) < (n : Int) := by omega
      have HY := Lib.hid hy
      clear hy
      cases ho : e.ahead y with
      | true =>
        have HO := Lib.hid (fun w => show Calls Tryz.prog 105 #[.agg #[.int .i64 e.at_, .int .i64 e.more], .agg #[.int .i64 y.at_, .int .i64 y.more]] w fun r w' => r = .returned (.bool true) ∧ Below w.heap.size w w' from ho ▸ edgeAhead_c e y w)
        have HO' := Lib.hid ho
        clear ho
        go_wp2_with fail
        go_region_held3 (fun w' => (w'.cell? ⟨p, 0, none⟩ = some (.func (.func 105) #[] #[]) ∧ w'.cell? ⟨p, 1, none⟩ = some (.slice (some ⟨g, 0, none⟩) n cap)) ∧ (w'.cell? ⟨W.heap.size, 0, none⟩ = some (.int .i64 e.at_) ∧ w'.cell? ⟨W.heap.size, 1, none⟩ = some (.int .i64 e.more)) ∧ (w'.cell? ⟨g, (k - 1) * 2, none⟩ = some (.int .i64 y.at_) ∧ w'.cell? ⟨g, (k - 1) * 2 + 1, none⟩ = some (.int .i64 y.more)))
          (first | exact ⟨⟨m0, m1⟩, ⟨i0, i1⟩, c0, c1⟩ | assumption | exact ⟨by assumption, by assumption, by assumption⟩)
          ((go_at_call 105; with_reducible refine (HO.out _).mono ?_; rintro r wn ⟨rfl, hbn⟩; have I3 := blk_next (below_drewL hbn) I2; have L3 := L2.next (below_drewL hbn); have E3 := E2.next (below_drewL hbn); have G3 := grow_next hb' (below_drewL hbn); have A3 := L3.cells; have B3 := ed_cells I3; have C3 := E3.two HY.out))
        go_wp2_with fail
        go_roundw
        case rel =>
          refine ⟨k - 1, by omega, by rw [show ((k - 1 : Nat) : Int) = (k : Int) - 1 from by omega], fun j z hj hz => ?_, by assumption⟩
          rcases Nat.lt_or_ge j k with hlt | hge
          · obtain rfl : j = k - 1 := by omega
            rw [HY.out] at hz
            simp only [Option.some.injEq] at hz
            rw [← hz]
            exact HO'.out
          · exact HA.out j z hge hz
        case measure => simp [intOf]; omega
      | false =>
        have HO := Lib.hid (fun w => show Calls Tryz.prog 105 #[.agg #[.int .i64 e.at_, .int .i64 e.more], .agg #[.int .i64 y.at_, .int .i64 y.more]] w fun r w' => r = .returned (.bool false) ∧ Below w.heap.size w w' from ho ▸ edgeAhead_c e y w)
        have HO' := Lib.hid ho
        clear ho
        go_wp2_with fail
        go_region_held3 (fun w' => (w'.cell? ⟨p, 0, none⟩ = some (.func (.func 105) #[] #[]) ∧ w'.cell? ⟨p, 1, none⟩ = some (.slice (some ⟨g, 0, none⟩) n cap)) ∧ (w'.cell? ⟨W.heap.size, 0, none⟩ = some (.int .i64 e.at_) ∧ w'.cell? ⟨W.heap.size, 1, none⟩ = some (.int .i64 e.more)) ∧ (w'.cell? ⟨g, (k - 1) * 2, none⟩ = some (.int .i64 y.at_) ∧ w'.cell? ⟨g, (k - 1) * 2 + 1, none⟩ = some (.int .i64 y.more)))
          (first | exact ⟨⟨m0, m1⟩, ⟨i0, i1⟩, c0, c1⟩ | assumption | exact ⟨by assumption, by assumption, by assumption⟩)
          ((go_at_call 105; with_reducible refine (HO.out _).mono ?_; rintro r wt ⟨rfl, hbn⟩; have I3 := blk_next (below_drewL hbn) I2; have L3 := L2.next (below_drewL hbn); have E3 := E2.next (below_drewL hbn); have G3 := grow_next hb' (below_drewL hbn); have A3 := L3.cells; have B3 := ed_cells I3; have C3 := E3.two HY.out))
        have hT : Below W.heap.size W wt := (below_new W _).trans (G3.mono (by simp))
        go_wp2_with fail
        go_returns
        exact ⟨k, rfl, ⟨by rw [← hn.out]; exact hk, HA.out, .inr ⟨y, HY.out, HO'.out⟩⟩, hT⟩
theorem put_fin (base p k : Nat) (e : Ed) (E : List Ed) (n : Nat) (hn : Hid (n = E.length)) (hbp : base ≤ p) (W W1 wp X wn : World) (hpw : p < W.heap.size) (x y : Option Addr) (cap c : Nat) (hS : SortedEd E) (hP : PlaceOfEd e E k)
    (hown : wn.ownsRow base 149 2 (.slice y (n + 1) c) (n + 1) (flatEd (E.take k ++ e :: E.drop k))) (hL : ListAt wn p x n cap) (B1 : Below W.heap.size W W1) (G : Below W1.heap.size W1 wp) (GX : Below wp.heap.size wp X) (hbn : Below base X wn)
    (hkn : ∀ j, j < X.heap.size → some j ≠ (Value.slice x E.length cap).ownBlock → wn.heap[j]? = X.heap[j]?) :
    PutPost base p W x cap e E (.returned (.tuple #[])) (wn.setCell ⟨p, 1, none⟩ (.slice y (n + 1) c)) := by
  have GG := grow_next (grow_next B1 G) GX
  refine put_done base p k e E n hn hbp (by rw [hn.out]; exact hP.1) W wn x y cap c hown hL ((GG.mono (by omega)).trans hbn) hS hP.2.1 hP.2.2 (fun j hj ho => ?_)
  rw [hkn j (by have := GG.size; omega) ho]
  exact GG.block j hj
set_option maxHeartbeats 4000000 in
theorem put_c (base p : Nat) (e : Ed) (E : List Ed) (n : Nat) (hn : Hid (n = E.length)) (hsm : n ≤ 100000) (x : Option Addr) (cap : Nat) (W : World) (hb : base ≤ p) (hL : ListAt W p x n cap) (hE : EdRow base W x cap E) (hS : SortedEd E) :
    Calls Tryz.prog 106 #[.pointer (some ⟨p, 0, none⟩), .agg #[.int .i64 e.at_, .int .i64 e.more]] W (PutPost base p W x cap e E) := by
  have hpw : p < W.heap.size := (Array.getElem?_eq_some_iff.1 hL).1
  have I1 := blk_new W (.cells #[.int .i64 e.at_, .int .i64 e.more] 149)
  have B1 := below_new W (.cells #[.int .i64 e.at_, .int .i64 e.more] 149)
  have L1 : ListAt (W.alloc (.cells #[.int .i64 e.at_, .int .i64 e.more] 149)) p x n cap := hL.next B1
  have E1 : EdRow base (W.alloc (.cells #[.int .i64 e.at_, .int .i64 e.more] 149)) x cap E := hE.next B1
  have hlt0 := hE.lt
  have hs1 : (W.alloc (.cells #[.int .i64 e.at_, .int .i64 e.more] 149)).heap.size = W.heap.size + 1 := by simp
  go_enter Tryz.func106, Tryz.ntmps106
  go_wp2_with fail
  obtain ⟨W1, hW1⟩ : ∃ W1, W.alloc (.cells #[.int .i64 e.at_, .int .i64 e.more] 149) = W1 := ⟨_, rfl⟩
  rw [hW1] at I1 B1 L1 E1 hs1 ⊢
  obtain ⟨q0, hq0⟩ : ∃ q0, q0 = W.heap.size := ⟨_, rfl⟩
  rw [← hq0] at I1 hs1 ⊢
  have hK1 : ∀ j, j < W.heap.size → W1.heap[j]? = W.heap[j]? := fun j hj => B1.block j hj
  have hpq : p < q0 := by omega
  have HQ := Lib.hid hq0
  clear hW1 hq0
  obtain ⟨m0, m1⟩ := L1.cells
  have f1 := L1.thaw
  obtain ⟨i0, i1⟩ := ed_cells I1
  have hp1 : p < W1.heap.size := by omega
  have hq1 : q0 < W1.heap.size := by omega
  have HS1 := Lib.hid hs1
  clear hs1
  have L1d : ListAt (W1.alloc (.cells #[.int .i64 e.at_, .int .i64 e.more] 149)).drew p x n cap := L1.next (below_newd W1 _)
  have E1d : EdRow base (W1.alloc (.cells #[.int .i64 e.at_, .int .i64 e.more] 149)).drew x cap E := E1.next (below_newd W1 _)
  go_region_with
    (first
      | (go_at_call 127; refine (placeOf_ed base p e E n hn hsm x cap _ ?_ ?_).mono ?_; (first | exact L1 | exact L1d); (first | exact E1 | exact E1d); rintro r wp ⟨k, rfl, hP, hbp⟩; have G : Below W1.heap.size W1 wp := (by first | exact below_drewL hbp | exact grow_next (below_newd W1 _) hbp); have L3 := L1.next G; have E3 := E1.next G; have I3 := blk_next G I1; obtain ⟨m03, m13⟩ := L3.cells; have B3 := ed_cells I3; have B4 := ed_cells (blk_alloc I3 (.cells #[.int .i64 e.at_, .int .i64 e.more] 149)); have hp3 : p < wp.heap.size := Nat.lt_of_lt_of_le hp1 G.size; try (have J3 := blk_next hbp (blk_newd W1 (.cells #[.int .i64 e.at_, .int .i64 e.more] 149))))
      | (go_at_call 126; refine (insert_ed base p x cap n k _ _ (Lib.hid rfl) e E _ hn hb ?_ ?_ hsm (by rw [hn.out]; exact hP.1) ?_ ?_).mono ?_; (first | exact L3 | exact L3.next (below_new _ _)); (first | exact E3 | exact E3.next (below_new _ _)); (first | exact blk_new _ _ | exact J3); (intro g hg; have := hlt0 g hg; have := HQ.out; have := HS1.out; have := G.size; omega); rintro r wn ⟨yy, cc, rfl, hown', hLn, hbn, hkn⟩; obtain ⟨m0n, m1n⟩ := hLn.cells; have n2 := hLn.thaw; have B5 := ed_cells ((hkn q0 (by first | (have := G.size; omega) | (simp; have := G.size; omega)) (fun h => by have := (hlt0 q0 h.symm).2; have := HQ.out; omega)).trans (by first | exact I3 | exact blk_alloc I3 _))))
  all_goals
    go_returns
    first
      | exact put_fin base p k e E n hn hb W W1 wp _ wn hpw x yy cap cc hS hP hown' hLn B1 G (Below.refl _ _) hbn hkn
      | exact put_fin base p k e E n hn hb W W1 wp _ wn hpw x yy cap cc hS hP hown' hLn B1 G (below_new wp _) hbn hkn
      | exact put_fin base p k e E n hn hb W W1 wp _ wn hpw x yy cap cc hS hP hown' hLn B1 G (below_newd wp _) hbn hkn
end Go.Proofs.YtohcebiepekbeaaGreatDoor
