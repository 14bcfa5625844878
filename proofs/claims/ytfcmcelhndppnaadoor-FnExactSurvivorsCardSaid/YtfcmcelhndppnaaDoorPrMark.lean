/- Rows of peers of the call's own: marked, looked at again. -/
import Derived.Test.YtfcmcelhndppnaaDoorPrRow
import Derived.Test.YtfcmcelhndppnaaDoorPeersS
namespace Go.Proofs.YtfcmcelhndppnaaDoor
open Go.ChangeShapes Go.WideShapes Go.ChangeAt Go.RowKit
set_option linter.unusedVariables false
set_option linter.unusedSimpArgs false

/-- The marks of one. -/
def mkP (q : Int) : Pr := ⟨q, q + 1, ⟨q + 2, q + 3, q + 4, q + 5⟩⟩
/-- So many that are marked. -/
def mkPs (k0 : Int) (n : Nat) : List Pr := (List.range n).map fun (i : Nat) => mkP (k0 + 6 * (i : Int))
theorem mkPs_length (k0 : Int) (n : Nat) : (mkPs k0 n).length = n := by simp [mkPs]
theorem mkPs_at {k0 : Int} {n k : Nat} (h : k < n) : (mkPs k0 n)[k]? = some (mkP (k0 + 6 * (k : Int))) := by simp [mkPs, h]
theorem mkPs_set {l : List Pr} {k0 : Int} {k : Nat} (h : k < l.length) : (mkPs k0 k ++ l.drop k).set k (mkP (k0 + 6 * (k : Int))) = mkPs k0 (k + 1) ++ l.drop (k + 1) := by
  have hl := mkPs_length k0 k
  rw [List.set_append_right _ _ (by omega), hl, Nat.sub_self]
  rw [List.drop_eq_getElem_cons h, List.set_cons_zero]
  have : mkPs k0 (k + 1) = mkPs k0 k ++ [mkP (k0 + 6 * (k : Int))] := by simp [mkPs, List.range_succ]
  rw [this, List.append_assoc]
  rfl
theorem flatPr_set (l : List Pr) (k : Nat) (v : Pr) (h : k < l.length) :
    ((((((flatPr l).set (k * 6) (.int .i64 v.id)).set (k * 6 + 1) (.int .i64 v.str)).set (k * 6 + 2) (.int .i64 v.s.off)).set (k * 6 + 3) (.int .i64 v.s.delay)).set (k * 6 + 4) (.int .i64 v.s.disp)).set (k * 6 + 5) (.int .i64 v.s.at_) = flatPr (l.set k v) := by
  induction l generalizing k with
  | nil => simp at h
  | cons a l ih =>
    have e1 : flatPr (a :: l) = .int .i64 a.id :: .int .i64 a.str :: .int .i64 a.s.off :: .int .i64 a.s.delay :: .int .i64 a.s.disp :: .int .i64 a.s.at_ :: flatPr l := rfl
    cases k with
    | zero =>
      rw [e1]
      rfl
    | succ k =>
      have e2 : flatPr (a :: l.set k v) = .int .i64 a.id :: .int .i64 a.str :: .int .i64 a.s.off :: .int .i64 a.s.delay :: .int .i64 a.s.disp :: .int .i64 a.s.at_ :: flatPr (l.set k v) := rfl
      rw [List.set_cons_succ, e2, ← ih k (by simpa using h), e1]
      have a0 : (k + 1) * 6 = k * 6 + 1 + 1 + 1 + 1 + 1 + 1 := by omega
      have a1 : (k + 1) * 6 + 1 = (k * 6 + 1) + 1 + 1 + 1 + 1 + 1 + 1 := by omega
      have a2 : (k + 1) * 6 + 2 = (k * 6 + 2) + 1 + 1 + 1 + 1 + 1 + 1 := by omega
      have a3 : (k + 1) * 6 + 3 = (k * 6 + 3) + 1 + 1 + 1 + 1 + 1 + 1 := by omega
      have a4 : (k + 1) * 6 + 4 = (k * 6 + 4) + 1 + 1 + 1 + 1 + 1 + 1 := by omega
      have a5 : (k + 1) * 6 + 5 = (k * 6 + 5) + 1 + 1 + 1 + 1 + 1 + 1 := by omega
      rw [a1, a2, a3, a4, a5, a0]
      simp only [List.set_cons_succ]

/-- A peer stored at its place in a row. -/
theorem PrRow.put {base : Nat} {W : World} {g cap k : Nat} {l : List Pr} (h : PrRow base W (some ⟨g, 0, none⟩) cap l) (hk : k < l.length) (v : Pr) :
    PrRow base ((((((W.setCell ⟨g, k * 6, none⟩ (.int .i64 v.id)).setCell ⟨g, k * 6 + 1, none⟩ (.int .i64 v.str)).setCell ⟨g, k * 6 + 2, none⟩ (.int .i64 v.s.off)).setCell ⟨g, k * 6 + 3, none⟩ (.int .i64 v.s.delay)).setCell ⟨g, k * 6 + 4, none⟩ (.int .i64 v.s.disp)).setCell ⟨g, k * 6 + 5, none⟩ (.int .i64 v.s.at_)) (some ⟨g, 0, none⟩) cap (l.set k v) := by
  have h1 := (((((((World.ownsRow.stored h (k * 6) (.int .i64 v.id)).1).stored (k * 6 + 1) (.int .i64 v.str)).1.stored (k * 6 + 2) (.int .i64 v.s.off)).1.stored (k * 6 + 3) (.int .i64 v.s.delay)).1.stored (k * 6 + 4) (.int .i64 v.s.disp)).1.stored (k * 6 + 5) (.int .i64 v.s.at_)).1
  rw [flatPr_set l k v hk] at h1
  unfold PrRow
  rw [List.length_set]
  exact h1
theorem PrRow.thaw {base : Nat} {W : World} {g cap : Nat} {l : List Pr} (h : PrRow base W (some ⟨g, 0, none⟩) cap l) (k : Nat) : W.frozen? ⟨g, k * 6, none⟩ = false ∧ W.frozen? ⟨g, k * 6 + 1, none⟩ = false ∧ W.frozen? ⟨g, k * 6 + 2, none⟩ = false ∧ W.frozen? ⟨g, k * 6 + 3, none⟩ = false ∧ W.frozen? ⟨g, k * 6 + 4, none⟩ = false ∧ W.frozen? ⟨g, k * 6 + 5, none⟩ = false :=
  ⟨World.ownsRow.frozenAt h _, World.ownsRow.frozenAt h _, World.ownsRow.frozenAt h _, World.ownsRow.frozenAt h _, World.ownsRow.frozenAt h _, World.ownsRow.frozenAt h _⟩
theorem grown_setP {w a : World} {g : Nat} (h : w.grownBy a (some g)) (k : Nat) (v : Value) : w.grownBy (a.setCell ⟨g, k, none⟩ v) (some g) :=
  ⟨h.os, h.tape, h.output, by have := h.size; simpa [World.setCell] using this, fun j hj hne => by
    rw [← h.block j hj hne]
    have : g ≠ j := fun e => hne (by rw [e])
    simp [World.setCell, Array.getElem?_modify, this]⟩
theorem PrRow.some_ {base : Nat} {W : World} {x : Option Addr} {cap : Nat} {l : List Pr} (h : PrRow base W x cap l) (hl : 0 < l.length) : ∃ g, x = some ⟨g, 0, none⟩ := by
  rcases h.2 with ⟨e, e0⟩ | ⟨g, c, cur, e, hb, hg, _⟩
  · omega
  · simp only [Value.slice.injEq] at e
    exact ⟨g, e.1⟩

/-- Marked: the row holds the marks, nothing else has turned. -/
def MarkedP (base : Nat) (w : World) (x : Option Addr) (cap n : Nat) (k0 : Int) : Ending → World → Prop := fun e w' =>
  e = .returned (.int .i64 (k0 + 6 * n)) ∧ PrRow base w' x cap (mkPs k0 n) ∧ w.grownBy w' (x.map (·.block))

set_option maxHeartbeats 2000000 in
theorem markPeerS_c (l : List Pr) (n : Nat) (hn : Hid (n = l.length)) (hm : n ≤ 1048576) (k0 : Int) (h0 : 0 ≤ k0) (h1 : k0 ≤ 1048576) (base : Nat) (x : Option Addr) (cap : Nat) (w : World) (h : PrRow base w x cap l) :
    Calls Tryd.prog 13 #[.slice x n cap, .int .i64 k0] w (MarkedP base w x cap n k0) := by
  go_enter Tryd.func13, Tryd.ntmps13
  go_wp2
  go_loopw [1, 5] (fun m i wr => ∃ k : Nat, k ≤ n ∧ i = .int .i64 k ∧ m = .int .i64 (k0 + 6 * k) ∧ PrRow base wr x cap (mkPs k0 k ++ l.drop k) ∧ w.grownBy wr (x.map (·.block))) (fun _ i _ => n - (intOf i).toNat)
  case atStart => exact ⟨0, Nat.zero_le _, rfl, by simp, by simpa [mkPs] using h, World.grownBy.refl _ _⟩
  case round =>
    obtain ⟨k, hk, rfl, rfl, hr, hg⟩ := hrel
    by_cases hlt : k < n
    · have hkl : k < l.length := by rw [← hn.out]; exact hlt
      have hll : k < (mkPs k0 k ++ l.drop k).length := by rw [List.length_append, mkPs_length, List.length_drop]; omega
      obtain ⟨g, rfl⟩ := hr.some_ (by omega)
      obtain ⟨v, hv⟩ := getP hll
      obtain ⟨c0, c1, c2, c3, c4, c5⟩ := hr.cell hv
      obtain ⟨f0, f1, f2, f3, f4, f5⟩ := hr.thaw k
      have hp := hr.put hll (mkP (k0 + 6 * (k : Int)))
      rw [mkPs_set hkl] at hp
      dsimp only [mkP] at hp
      obtain ⟨q, hq⟩ : ∃ q, q = k0 + 6 * (k : Int) := ⟨_, rfl⟩
      rw [← hq] at hp ⊢
      have q0 : 0 ≤ q := by omega
      have q1 : q ≤ 8388608 := by omega
      have HQ := Lib.hid hq
      have hg' := grown_setP (grown_setP (grown_setP (grown_setP (grown_setP (grown_setP hg (k * 6) (.int .i64 q)) (k * 6 + 1) (.int .i64 (q + 1))) (k * 6 + 2) (.int .i64 (q + 2))) (k * 6 + 3) (.int .i64 (q + 3))) (k * 6 + 4) (.int .i64 (q + 4))) (k * 6 + 5) (.int .i64 (q + 5))
      have a2 : q + 1 + 1 = q + 2 := by omega
      have a3 : q + 2 + 1 = q + 3 := by omega
      have a4 : q + 3 + 1 = q + 4 := by omega
      have a5 : q + 4 + 1 = q + 5 := by omega
      clear hv hq
      go_wp2_with fail
      go_roundw
      case rel => exact ⟨k + 1, by omega, by go_num, by rw [show k0 + 6 * ((k + 1 : Nat) : Int) = q + 5 + 1 from by have := HQ.out; omega], hp, hg'⟩
      case measure => simp [intOf]; omega
    · have e : k = n := by omega
      have hr' : PrRow base wr x cap (mkPs k0 n) := by
        rw [e, List.drop_of_length_le (by rw [← hn.out]; exact Nat.le_refl _), List.append_nil] at hr
        exact hr
      have HE := Lib.hid e
      clear e hr
      go_wp2_with fail
      go_returns
      exact ⟨by rw [HE.out]; rfl, hr', hg⟩

set_option maxHeartbeats 2000000 in
theorem heldPeerS_c (n : Nat) (hm : n ≤ 1048576) (k0 : Int) (h0 : 0 ≤ k0) (h1 : k0 ≤ 1048576) (base : Nat) (x : Option Addr) (cap : Nat) (w : World) (h : PrRow base w x cap (mkPs k0 n)) :
    Calls Tryd.prog 14 #[.slice x n cap, .int .i64 k0] w fun e w' => e = .returned (.int .i64 (k0 + 6 * n)) ∧ w = w' := by
  go_enter Tryd.func14, Tryd.ntmps14
  go_wp2
  go_loop [1, 5] (fun m i => ∃ k : Nat, k ≤ n ∧ i = .int .i64 k ∧ m = .int .i64 (k0 + 6 * k)) (fun _ i => n - (intOf i).toNat)
  case atStart => exact ⟨0, Nat.zero_le _, rfl, by simp⟩
  case round =>
    obtain ⟨k, hk, rfl, rfl⟩ := hrel
    by_cases hlt : k < n
    · obtain ⟨g, rfl⟩ := h.some_ (by rw [mkPs_length]; omega)
      obtain ⟨c0, c1, c2, c3, c4, c5⟩ := h.cell (mkPs_at hlt)
      dsimp only [mkP] at c0 c1 c2 c3 c4 c5
      obtain ⟨q, hq⟩ : ∃ q, q = k0 + 6 * (k : Int) := ⟨_, rfl⟩
      rw [← hq] at c0 c1 c2 c3 c4 c5 ⊢
      have q0 : 0 ≤ q := by omega
      have q1 : q ≤ 8388608 := by omega
      have HQ := Lib.hid hq
      have a2 : q + 1 + 1 = q + 2 := by omega
      have a3 : q + 2 + 1 = q + 3 := by omega
      have a4 : q + 3 + 1 = q + 4 := by omega
      have a5 : q + 4 + 1 = q + 5 := by omega
      clear hq
      go_wp2_with fail
      go_round
      case rel => exact ⟨k + 1, by omega, by go_num, by rw [show k0 + 6 * ((k + 1 : Nat) : Int) = q + 5 + 1 from by have := HQ.out; omega]⟩
      case measure => simp [intOf]; omega
    · have HE := Lib.hid (show k = n by omega)
      go_wp2_with fail
      go_returns
      exact ⟨by rw [HE.out]; rfl, rfl⟩
theorem PrTab.row {n g : Nat} {w : World} {l : List Pr} (h : PrTab n w g l) (hn : n = l.length) (hm : n ≤ maxLen) : PrRow 0 w (some ⟨g, 0, none⟩) n l := by
  obtain ⟨cur, h1, h2, h3, h4⟩ := h
  subst hn
  refine ⟨flatPr_len l, .inr ⟨g, l.length, cur, rfl, Nat.zero_le _, h1, Nat.le_refl _, hm, h2, ?_⟩⟩
  apply List.ext_getElem?
  intro i
  rcases Nat.lt_or_ge i (l.length * 6) with hi | hi
  · obtain ⟨v, hv⟩ := getP (l := l) (k := i / 6) (by omega)
    obtain ⟨z, hz⟩ : ∃ z, v.row[i % 6]? = some z := ⟨v.row[i % 6]'(by simp [Pr.row]; omega), List.getElem?_eq_getElem _⟩
    have e : i / 6 * 6 + i % 6 = i := by omega
    have a := h4 (i / 6) v (i % 6) z hv hz
    have b := flatPr_at hv hz
    rw [e] at a b
    rw [List.getElem?_take, if_pos hi, b]
    simpa using a
  · rw [List.getElem?_take, if_neg (by omega)]
    exact (List.getElem?_eq_none (by rw [flatPr_len]; exact hi)).symm
theorem grown_belowM {B : Nat} {W w1 w2 : World} {row : Option Nat} (h : Below B W w1) (hB : B ≤ w1.heap.size) (hg : w1.grownBy w2 row) (hr : ∀ k, row = some k → B ≤ k) : Below B W w2 := h.grown hg hB (fun j e => hr j e)
theorem PrRow.own {base : Nat} {W : World} {x : Option Addr} {cap : Nat} {l : List Pr} (h : PrRow base W x cap l) {k : Nat} (hk : x.map (·.block) = some k) : x = some ⟨k, 0, none⟩ := by
  rcases h.2 with ⟨e, _⟩ | ⟨g, c, cur, e, _⟩
  · simp only [Value.slice.injEq] at e
    rw [e.1] at hk
    simp at hk
  · simp only [Value.slice.injEq] at e
    rw [e.1] at hk ⊢
    simp at hk
    rw [hk]
end Go.Proofs.YtfcmcelhndppnaaDoor
