/- Rows of clients of the call's own: marked, looked at again. -/
import Derived.Test.YtckonbbdeohccaaClRow
namespace Go.Proofs.Ytckonbbdeohccaa
open Go.ChangeShapes Go.WideShapes Go.ChangeAt Go.RowKit
set_option linter.unusedVariables false
set_option linter.unusedSimpArgs false

/-- The marks of one. -/
def mkC (q : Int) : Cl := ⟨q, q + 1, q + 2⟩
/-- So many that are marked. -/
def mkCs (k0 : Int) (n : Nat) : List Cl := (List.range n).map fun (i : Nat) => mkC (k0 + 3 * (i : Int))
theorem mkCs_length (k0 : Int) (n : Nat) : (mkCs k0 n).length = n := by simp [mkCs]
theorem mkCs_at {k0 : Int} {n k : Nat} (h : k < n) : (mkCs k0 n)[k]? = some (mkC (k0 + 3 * (k : Int))) := by simp [mkCs, h]
theorem mkCs_set {l : List Cl} {k0 : Int} {k : Nat} (h : k < l.length) : (mkCs k0 k ++ l.drop k).set k (mkC (k0 + 3 * (k : Int))) = mkCs k0 (k + 1) ++ l.drop (k + 1) := by
  have hl := mkCs_length k0 k
  rw [List.set_append_right _ _ (by omega), hl, Nat.sub_self]
  rw [List.drop_eq_getElem_cons h, List.set_cons_zero]
  have : mkCs k0 (k + 1) = mkCs k0 k ++ [mkC (k0 + 3 * (k : Int))] := by simp [mkCs, List.range_succ]
  rw [this, List.append_assoc]
  rfl
theorem flatCl_set (l : List Cl) (k : Nat) (v : Cl) (h : k < l.length) :
    (((flatCl l).set (k * 3) (.int .i64 v.id)).set (k * 3 + 1) (.int .i64 v.last)).set (k * 3 + 2) (.int .i64 v.score) = flatCl (l.set k v) := by
  induction l generalizing k with
  | nil => simp at h
  | cons a l ih =>
    have e1 : flatCl (a :: l) = .int .i64 a.id :: .int .i64 a.last :: .int .i64 a.score :: flatCl l := rfl
    cases k with
    | zero =>
      rw [e1]
      rfl
    | succ k =>
      have e2 : flatCl (a :: l.set k v) = .int .i64 a.id :: .int .i64 a.last :: .int .i64 a.score :: flatCl (l.set k v) := rfl
      rw [List.set_cons_succ, e2, ← ih k (by simpa using h), e1]
      have a0 : (k + 1) * 3 = k * 3 + 1 + 1 + 1 := by omega
      have a1 : (k + 1) * 3 + 1 = (k * 3 + 1) + 1 + 1 + 1 := by omega
      have a2 : (k + 1) * 3 + 2 = (k * 3 + 2) + 1 + 1 + 1 := by omega
      rw [a1, a2, a0]
      simp only [List.set_cons_succ]

/-- A sample stored at its place in a row. -/
theorem ClRow.put {base : Nat} {W : World} {g cap k : Nat} {l : List Cl} (h : ClRow base W (some ⟨g, 0, none⟩) cap l) (hk : k < l.length) (v : Cl) :
    ClRow base (((W.setCell ⟨g, k * 3, none⟩ (.int .i64 v.id)).setCell ⟨g, k * 3 + 1, none⟩ (.int .i64 v.last)).setCell ⟨g, k * 3 + 2, none⟩ (.int .i64 v.score)) (some ⟨g, 0, none⟩) cap (l.set k v) := by
  have h1 := ((((World.ownsRow.stored h (k * 3) (.int .i64 v.id)).1).stored (k * 3 + 1) (.int .i64 v.last)).1.stored (k * 3 + 2) (.int .i64 v.score)).1
  rw [flatCl_set l k v hk] at h1
  unfold ClRow
  rw [List.length_set]
  exact h1
theorem ClRow.thaw {base : Nat} {W : World} {g cap : Nat} {l : List Cl} (h : ClRow base W (some ⟨g, 0, none⟩) cap l) (k : Nat) : W.frozen? ⟨g, k * 3, none⟩ = false ∧ W.frozen? ⟨g, k * 3 + 1, none⟩ = false ∧ W.frozen? ⟨g, k * 3 + 2, none⟩ = false :=
  ⟨World.ownsRow.frozenAt h _, World.ownsRow.frozenAt h _, World.ownsRow.frozenAt h _⟩
theorem grown_setC {w a : World} {g : Nat} (h : w.grownBy a (some g)) (k : Nat) (v : Value) : w.grownBy (a.setCell ⟨g, k, none⟩ v) (some g) :=
  ⟨h.os, h.tape, h.output, by have := h.size; simpa [World.setCell] using this, fun j hj hne => by
    rw [← h.block j hj hne]
    have : g ≠ j := fun e => hne (by rw [e])
    simp [World.setCell, Array.getElem?_modify, this]⟩
theorem ClRow.some_ {base : Nat} {W : World} {x : Option Addr} {cap : Nat} {l : List Cl} (h : ClRow base W x cap l) (hl : 0 < l.length) : ∃ g, x = some ⟨g, 0, none⟩ := by
  rcases h.2 with ⟨e, e0⟩ | ⟨g, c, cur, e, hb, hg, _⟩
  · omega
  · simp only [Value.slice.injEq] at e
    exact ⟨g, e.1⟩

/-- Marked: the row holds the marks, nothing else has turned. -/
def MarkedC (base : Nat) (w : World) (x : Option Addr) (cap n : Nat) (k0 : Int) : Ending → World → Prop := fun e w' =>
  e = .returned (.int .i64 (k0 + 3 * n)) ∧ ClRow base w' x cap (mkCs k0 n) ∧ w.grownBy w' (x.map (·.block))

set_option maxHeartbeats 2000000 in
theorem markClientS_c (l : List Cl) (n : Nat) (hn : Hid (n = l.length)) (hm : n ≤ 1048576) (k0 : Int) (h0 : 0 ≤ k0) (h1 : k0 ≤ 1048576) (base : Nat) (x : Option Addr) (cap : Nat) (w : World) (h : ClRow base w x cap l) :
    Calls Try.prog 44 #[.slice x n cap, .int .i64 k0] w (MarkedC base w x cap n k0) := by
  go_enter Try.func44, Try.ntmps44
  go_wp2
  go_loopw [1, 5] (fun m i wr => ∃ k : Nat, k ≤ n ∧ i = .int .i64 k ∧ m = .int .i64 (k0 + 3 * k) ∧ ClRow base wr x cap (mkCs k0 k ++ l.drop k) ∧ w.grownBy wr (x.map (·.block))) (fun _ i _ => n - (RowKit.intOf i).toNat)
  case atStart => exact ⟨0, Nat.zero_le _, rfl, by simp, by simpa [mkCs] using h, World.grownBy.refl _ _⟩
  case round =>
    obtain ⟨k, hk, rfl, rfl, hr, hg⟩ := hrel
    by_cases hlt : k < n
    · have hkl : k < l.length := by rw [← hn.out]; exact hlt
      have hll : k < (mkCs k0 k ++ l.drop k).length := by rw [List.length_append, mkCs_length, List.length_drop]; omega
      obtain ⟨g, rfl⟩ := hr.some_ (by omega)
      obtain ⟨v, hv⟩ := getC hll
      obtain ⟨c0, c1, c2⟩ := hr.cell hv
      obtain ⟨f0, f1, f2⟩ := hr.thaw k
      have hp := hr.put hll (mkC (k0 + 3 * (k : Int)))
      rw [mkCs_set hkl] at hp
      dsimp only [mkC] at hp
      obtain ⟨q, hq⟩ : ∃ q, q = k0 + 3 * (k : Int) := ⟨_, rfl⟩
      rw [← hq] at hp ⊢
      have q0 : 0 ≤ q := by omega
      have q1 : q ≤ 8388608 := by omega
      have HQ := Lib.hid hq
      have hg' := grown_setC (grown_setC (grown_setC hg (k * 3) (.int .i64 q)) (k * 3 + 1) (.int .i64 (q + 1))) (k * 3 + 2) (.int .i64 (q + 2))
      have a2 : q + 1 + 1 = q + 2 := by omega
      clear hv hq
      go_wp2_with fail
      go_roundw
      case rel => exact ⟨k + 1, by omega, by go_num, by rw [show k0 + 3 * ((k + 1 : Nat) : Int) = q + 2 + 1 from by have := HQ.out; omega], hp, hg'⟩
      case measure => simp [RowKit.intOf]; omega
    · have e : k = n := by omega
      have hr' : ClRow base wr x cap (mkCs k0 n) := by
        rw [e, List.drop_of_length_le (by rw [← hn.out]; exact Nat.le_refl _), List.append_nil] at hr
        exact hr
      have HE := Lib.hid e
      clear e hr
      go_wp2_with fail
      go_returns
      exact ⟨by rw [HE.out]; rfl, hr', hg⟩

set_option maxHeartbeats 2000000 in
theorem heldClientS_c (n : Nat) (hm : n ≤ 1048576) (k0 : Int) (h0 : 0 ≤ k0) (h1 : k0 ≤ 1048576) (base : Nat) (x : Option Addr) (cap : Nat) (w : World) (h : ClRow base w x cap (mkCs k0 n)) :
    Calls Try.prog 45 #[.slice x n cap, .int .i64 k0] w fun e w' => e = .returned (.int .i64 (k0 + 3 * n)) ∧ w = w' := by
  go_enter Try.func45, Try.ntmps45
  go_wp2
  go_loop [1, 5] (fun m i => ∃ k : Nat, k ≤ n ∧ i = .int .i64 k ∧ m = .int .i64 (k0 + 3 * k)) (fun _ i => n - (RowKit.intOf i).toNat)
  case atStart => exact ⟨0, Nat.zero_le _, rfl, by simp⟩
  case round =>
    obtain ⟨k, hk, rfl, rfl⟩ := hrel
    by_cases hlt : k < n
    · obtain ⟨g, rfl⟩ := h.some_ (by rw [mkCs_length]; omega)
      obtain ⟨c0, c1, c2⟩ := h.cell (mkCs_at hlt)
      dsimp only [mkC] at c0 c1 c2
      obtain ⟨q, hq⟩ : ∃ q, q = k0 + 3 * (k : Int) := ⟨_, rfl⟩
      rw [← hq] at c0 c1 c2 ⊢
      have q0 : 0 ≤ q := by omega
      have q1 : q ≤ 8388608 := by omega
      have HQ := Lib.hid hq
      have a2 : q + 1 + 1 = q + 2 := by omega
      clear hq
      go_wp2_with fail
      go_round
      case rel => exact ⟨k + 1, by omega, by go_num, by rw [show k0 + 3 * ((k + 1 : Nat) : Int) = q + 2 + 1 from by have := HQ.out; omega]⟩
      case measure => simp [RowKit.intOf]; omega
    · have HE := Lib.hid (show k = n by omega)
      go_wp2_with fail
      go_returns
      exact ⟨by rw [HE.out]; rfl, rfl⟩
theorem ClTab.row {n g : Nat} {w : World} {l : List Cl} (h : ClTab n w g l) (hn : n = l.length) (hm : n ≤ maxLen) : ClRow 0 w (some ⟨g, 0, none⟩) n l := by
  obtain ⟨cur, h1, h2, h3, h4⟩ := h
  subst hn
  refine ⟨flatCl_len l, .inr ⟨g, l.length, cur, rfl, Nat.zero_le _, h1, Nat.le_refl _, hm, h2, ?_⟩⟩
  apply List.ext_getElem?
  intro i
  rcases Nat.lt_or_ge i (l.length * 3) with hi | hi
  · obtain ⟨v, hv⟩ := getC (l := l) (k := i / 3) (by omega)
    obtain ⟨z, hz⟩ : ∃ z, v.row[i % 3]? = some z := ⟨v.row[i % 3]'(by simp [Cl.row]; omega), List.getElem?_eq_getElem _⟩
    have e : i / 3 * 3 + i % 3 = i := by omega
    have a := h4 (i / 3) v (i % 3) z hv hz
    have b := flatCl_at hv hz
    rw [e] at a b
    rw [List.getElem?_take, if_pos hi, b]
    simpa using a
  · rw [List.getElem?_take, if_neg (by omega)]
    exact (List.getElem?_eq_none (by rw [flatCl_len]; exact hi)).symm
theorem ClRow.own {base : Nat} {W : World} {x : Option Addr} {cap : Nat} {l : List Cl} (h : ClRow base W x cap l) {k : Nat} (hk : x.map (·.block) = some k) : x = some ⟨k, 0, none⟩ := by
  rcases h.2 with ⟨e, _⟩ | ⟨g, c, cur, e, _⟩
  · simp only [Value.slice.injEq] at e
    rw [e.1] at hk
    simp at hk
  · simp only [Value.slice.injEq] at e
    rw [e.1] at hk ⊢
    simp at hk
    rw [hk]
end Go.Proofs.Ytckonbbdeohccaa
