/- The reference's drawing of filters: some list of eight at most; nothing that lay has turned. -/
import Derived.Test.YthgamidodkkpbaaDoorSampleDraw
import Derived.Test.YthgamidodkkpbaaDoorFilAddS
namespace Go.Proofs.YthgamidodkkpbaaDoor
open Go.ChangeShapes Go.WideShapes Go.ChangeAt Go.RowKit
set_option linter.unusedVariables false
set_option linter.unusedSimpArgs false

theorem Sms.keepG {w w' : World} {g off : Nat} {l : List Sm} {row : Option Nat} (h : Sms w.heap.size w (some ⟨g, off, none⟩) l) (hg : w.grownBy w' row) (hr : row ≠ some g) : Sms w'.heap.size w' (some ⟨g, off, none⟩) l := by
  rcases h with h | ⟨b, o, e, hlt, hc⟩
  · exact .inl h
  · simp only [Option.some.injEq, Addr.mk.injEq] at e
    obtain ⟨rfl, rfl, _⟩ := e
    exact .inr ⟨g, off, rfl, Nat.lt_of_lt_of_le hlt hg.size, fun i v j z hi hj => hg.cell (hc i v j z hi hj) (fun e => hr e.symm)⟩
/-- The time of the second one turned. -/
theorem Sms.setAt {w : World} {g off : Nat} {l : List Sm} {v : Sm} (h : Sms w.heap.size w (some ⟨g, off, none⟩) l) {k : Nat} (hv : l[k]? = some v) (t : Int) :
    Sms (w.setCell ⟨g, off + k * 4 + 3, none⟩ (.int .i64 t)).heap.size (w.setCell ⟨g, off + k * 4 + 3, none⟩ (.int .i64 t)) (some ⟨g, off, none⟩) (l.set k ⟨v.off, v.delay, v.disp, t⟩) := by
  have hs : (w.setCell ⟨g, off + k * 4 + 3, none⟩ (.int .i64 t)).heap.size = w.heap.size := by simp [World.setCell]
  rcases h with h | ⟨b, o, e, hlt, hc⟩
  · rw [h] at hv; simp at hv
  · simp only [Option.some.injEq, Addr.mk.injEq] at e
    obtain ⟨rfl, rfl, _⟩ := e
    rw [hs]
    refine .inr ⟨g, off, rfl, hlt, fun i u j z hi hj => ?_⟩
    have hj4 := row_len hj
    by_cases hik : i = k
    · subst hik
      have hil := (List.getElem?_eq_some_iff.1 hv).1
      rw [List.getElem?_set_self hil] at hi
      simp only [Option.some.injEq] at hi
      subst hi
      by_cases hj3 : j = 3
      · subst hj3
        simp [Sm.row] at hj
        subst hj
        exact World.cell?_setCell_same _ _ _ (hc i v 3 v.at_ hv rfl)
      · rw [World.cell?_setCell_other _ _ _ _ (by intro e; simp only [Addr.mk.injEq] at e; omega)]
        have : v.row[j]? = some z := by
          match j, hj, hj3 with
          | 0, hj, _ => exact hj
          | 1, hj, _ => exact hj
          | 2, hj, _ => exact hj
          | 3, _, h => exact absurd rfl h
          | j + 4, hj, _ => simp [Sm.row] at hj
        exact hc i v j z hv this
    · rw [List.getElem?_set_ne (Ne.symm hik)] at hi
      rw [World.cell?_setCell_other _ _ _ _ (by intro e; simp only [Addr.mk.injEq] at e; omega)]
      exact hc i u j z hi hj
theorem thaw_of {W : World} {b : Nat} {C : Array Value} {T : TypeId} (h : W.heap[b]? = some (.cells C T (0, 0))) (i : Nat) : W.frozen? ⟨b, i, none⟩ = false := by simp [World.frozen?, h]
theorem Sms.inb_ {B : Nat} {w : World} {g off : Nat} {l : List Sm} (h : Sms B w (some ⟨g, off, none⟩) l) (hl : 0 < l.length) : g < B := by
  rcases h with h | ⟨b, o, e, hlt, _⟩
  · rw [h] at hl; simp at hl
  · simp only [Option.some.injEq, Addr.mk.injEq] at e
    obtain ⟨rfl, _, _⟩ := e
    exact hlt
/-- What lies while a filter is drawn. -/
structure FD (w wr : World) (a g off c m : Nat) (l : List Sm) : Prop where
  len : m = l.length
  le : m ≤ 8
  cap : m ≤ c ∧ c ≤ maxLen
  sms : Sms wr.heap.size wr (some ⟨g, off, none⟩) l
  new_ : w.heap.size ≤ g
  thaw : ∀ i, wr.frozen? ⟨g, i, none⟩ = false
  inb : g < wr.heap.size
  rd : Rd wr a
  grown : w.grownBy wr (some a)
theorem FD.step {w wr w' : World} {a g off c m : Nat} {l : List Sm} (h : FD w wr a g off c m l) (ha : a < w.heap.size) (hr : Rd w' a) (hg : wr.grownBy w' (some a)) : FD w w' a g off c m l := by
  have hne : (some a : Option Nat) ≠ some g := fun e => by simp only [Option.some.injEq] at e; have := h.new_; omega
  exact ⟨h.len, h.le, h.cap, h.sms.keepG hg hne, h.new_, fun i => by rw [World.frozen?_of_block (a := ⟨g, i, none⟩) (hg.block g h.inb (fun e => hne e.symm))]; exact h.thaw i, Nat.lt_of_lt_of_le h.inb hg.size, hr, grown_trans h.grown hg⟩
def RdFil (a : Nat) (w : World) : Ending → World → Prop := fun e w' =>
  ∃ (g off c m : Nat) (l : List Sm), e = .returned (.slice (some ⟨g, off, none⟩) m c) ∧ FD w w' a g off c m l
theorem below_grown {w w' : World} {a : Nat} (h : Below w.heap.size w w') : w.grownBy w' (some a) := ⟨h.os, h.tape, h.output, h.size, fun i hi _ => h.block i hi⟩

set_option maxRecDepth 100000 in
set_option maxHeartbeats 4000000 in
theorem filter_c (a : Nat) (most : Nat) (hm : most ≤ 100) (w : World) (h : Rd w a) : Calls Tryd.prog 25 #[.pointer (some ⟨a, 0, none⟩), .int .i64 most] w (RdFil a w) := by
  have ha : a < w.heap.size := by
    obtain ⟨_, _, _, hb, _⟩ := h
    exact (Array.getElem?_eq_some_iff.1 hb).1
  have D0 : FD w (w.alloc (.cells #[] 26)) a w.heap.size 0 0 0 [] :=
    ⟨rfl, by omega, ⟨Nat.le_refl _, by simp [maxLen]⟩, RowsAt.none_, Nat.le_refl _, fun i => thaw_of (blk_new w (.cells #[] 26)) i, by simp, h.kept (World.grownBy_alloc w _ none) (by simp), World.grownBy_alloc w _ _⟩
  go_enter Tryd.func25, Tryd.ntmps25
  go_wp2_with fail
  refine (below_c a 1048576 1048575 (by omega) (by omega) (by omega) _ D0.rd).mono ?_
  rintro e w1 ⟨t, t0, t1, rfl, hr1, hg1⟩
  have D1 := D0.step ha hr1 hg1
  go_wp2_with fail
  refine (below_c a ((most : Int) + 1) most (by omega) (by omega) (by omega) _ D1.rd).mono ?_
  rintro e w2 ⟨v, v0, v1, rfl, hr2, hg2⟩
  have D2 := D1.step ha hr2 hg2
  obtain ⟨j, rfl⟩ := Int.eq_ofNat_of_zero_le v0
  clear D0 D1 hr1 hg1 hr2 hg2
  go_wp2_with fail
  go_loopw [5, 6, 7] (fun o at' i wr => ∃ (k g off c m : Nat) (l : List Sm) (t : Int), k ≤ j ∧ i = .int .i64 k ∧ o = .slice (some ⟨g, off, none⟩) m c ∧ at' = .int .i64 t ∧ FD w wr a g off c m l) (fun _ _ i _ => (intOf i).toNat)
  case atStart => exact ⟨j, w.heap.size, 0, 0, 0, [], t, Nat.le_refl _, rfl, rfl, rfl, D2⟩
  case round =>
    obtain ⟨k, g, off, c, m, l, t, hk, rfl, rfl, rfl, D⟩ := hrel
    by_cases hk0 : 0 < k
    · have hk1 : (0 : Int) < (k : Int) := by omega
      have hk2 : IntKind.i64.wrap ((k : Int) - 1) = ((k - 1 : Nat) : Int) := by rw [show ((k - 1 : Nat) : Int) = (k : Int) - 1 from by omega]; exact IntWalk.i64_in _ (by omega)
      go_wp2_with fail
      refine (sample_c t a _ D.rd).mono ?_
      rintro e w3 ⟨s, hst, rfl, hr3, hg3⟩
      have D3 := D.step ha hr3 hg3
      have hAd := filterAdd_spec l s m (Lib.hid D3.len) (by have := D3.le; unfold maxLen; omega) g off c w3 D3.sms
      unfold AddPostS at hAd
      clear D hst hr3 hg3
      cases hok : addOk l s with
      | false =>
        rw [hok, addR_no hok] at hAd
        have HAD := Lib.hid hAd
        clear hAd hok
        go_wp2_with fail
        refine HAD.out.mono ?_
        rintro e w4 ⟨y, c4, rfl, _, _, _, _, hb4⟩
        have D4 := D3.step ha (D3.rd.kept (row := none) ⟨hb4.os, hb4.tape, hb4.output, hb4.size, fun i hi _ => hb4.block i hi⟩ (by simp)) (below_grown hb4)
        go_wp2_with fail
        refine (below_c a 1048576 1048575 (by omega) (by omega) (by omega) _ D4.rd).mono ?_
        rintro e w5 ⟨u, u0, u1, rfl, hr5, hg5⟩
        have D5 := D4.step ha hr5 hg5
        go_wp2_with fail
        go_roundw
        case rel => exact ⟨k - 1, g, off, c, m, l, _, by omega, rfl, rfl, rfl, D5⟩
        case measure => simp [intOf]; omega
      | true =>
        obtain ⟨A, hA⟩ : ∃ A, addR l s = A := ⟨_, rfl⟩
        have hl8 : A.length ≤ 8 ∧ 0 < A.length := by
          rw [← hA, addR_yes hok]
          exact addV_len (by rw [← D3.len]; exact D3.le)
        rw [hok, hA] at hAd
        obtain ⟨q, hq⟩ : ∃ q, q = A.length := ⟨_, rfl⟩
        rw [← hq] at hAd hl8
        have HAD := Lib.hid hAd
        clear hAd hok hA
        go_wp2_with fail
        refine HAD.out.mono ?_
        rintro e w4 ⟨y, c4, rfl, hqc, hcm, hS4, hfr, hb4⟩
        obtain ⟨g4, o4, rfl, hg4, hth⟩ := hfr (by trivial)
        have hr4 := D3.rd.kept (row := none) ⟨hb4.os, hb4.tape, hb4.output, hb4.size, fun i hi _ => hb4.block i hi⟩ (by simp)
        have D4 : FD w w4 a g4 o4 c4 q A := ⟨hq, hl8.1, ⟨hqc, hcm⟩, hS4, Nat.le_trans D3.grown.size hg4, hth, hS4.inb_ (by rw [← hq]; exact hl8.2), hr4, grown_trans D3.grown (below_grown hb4)⟩
        clear hfr hth hS4 hq
        go_wp2_with fail
        refine (below_c a 1048576 1048575 (by omega) (by omega) (by omega) _ D4.rd).mono ?_
        rintro e w5 ⟨u, u0, u1, rfl, hr5, hg5⟩
        have D5 := D4.step ha hr5 hg5
        go_wp2_with fail
        go_roundw
        case rel => exact ⟨k - 1, g4, o4, c4, q, A, _, by omega, rfl, rfl, rfl, D5⟩
        case measure => simp [intOf]; omega
    · have hk1 : ¬ (0 : Int) < (k : Int) := by omega
      go_wp2_with fail
      refine (once_c a 30 (by omega) (by omega) _ D.rd).mono ?_
      rintro e w3 ⟨b, rfl, hr3, hg3⟩
      have D3 := D.step ha hr3 hg3
      clear D hr3 hg3
      by_cases hm1 : 1 < m
      · have hd : decide (1 < (m : Int)) = true := decide_eq_true (by omega)
        obtain ⟨v0, hv0⟩ := getS (l := l) (k := 0) (by rw [← D3.len]; omega)
        obtain ⟨v1, hv1⟩ := getS (l := l) (k := 1) (by rw [← D3.len]; omega)
        obtain ⟨b', o', e', _, _, _, _, c3⟩ := D3.sms.at_ hv0
        simp only [Option.some.injEq, Addr.mk.injEq] at e'
        obtain ⟨rfl, rfl, _⟩ := e'
        obtain ⟨b', o', e', _, _, _, _, d3⟩ := D3.sms.at_ hv1
        simp only [Option.some.injEq, Addr.mk.injEq] at e'
        obtain ⟨rfl, rfl, _⟩ := e'
        simp only [Nat.zero_mul, Nat.add_zero, Nat.one_mul] at c3 d3
        have hz := D3.thaw (off + 4 + 3)
        cases b with
        | false =>
          go_wp2_with fail
          go_returns
          exact ⟨g, off, c, m, l, rfl, D3⟩
        | true =>
          have hS := D3.sms.setAt hv1 v0.at_
          simp only [Nat.one_mul] at hS
          have hag : a < g := Nat.lt_of_lt_of_le ha D3.new_
          have D4 : FD w (w3.setCell ⟨g, off + 4 + 3, none⟩ (.int .i64 v0.at_)) a g off c m (l.set 1 ⟨v1.off, v1.delay, v1.disp, v0.at_⟩) :=
            ⟨by rw [List.length_set]; exact D3.len, D3.le, D3.cap, hS, D3.new_, fun i => by rw [World.frozen?_setCell]; exact D3.thaw i, by simpa [World.setCell] using D3.inb, rd_put D3.rd hag, grown_put D3.grown D3.new_⟩
          clear hS
          go_wp2_with fail
          go_returns
          exact ⟨g, off, c, m, _, rfl, D4⟩
      · have hd : decide (1 < (m : Int)) = false := decide_eq_false (by omega)
        cases b
        all_goals
          go_wp2_with fail
          go_returns
          exact ⟨g, off, c, m, l, rfl, D3⟩
end Go.Proofs.YthgamidodkkpbaaDoor
