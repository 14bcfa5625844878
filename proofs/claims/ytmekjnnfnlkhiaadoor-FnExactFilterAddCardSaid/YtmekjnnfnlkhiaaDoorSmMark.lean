/- Rows of samples of the call's own: marked, looked at again. -/
import Derived.Test.YtmekjnnfnlkhiaaDoorSmsL
namespace Go.Proofs.YtmekjnnfnlkhiaaDoor
open Go.ChangeShapes Go.WideShapes Go.ChangeAt Go.RowKit
set_option linter.unusedVariables false
set_option linter.unusedSimpArgs false

/-- The marks of one. -/
def mkS (q : Int) : Sm := ⟨q, q + 1, q + 2, q + 3⟩
/-- So many that are marked. -/
def mkSs (k0 : Int) (n : Nat) : List Sm := (List.range n).map fun (i : Nat) => mkS (k0 + 4 * (i : Int))
theorem mkSs_length (k0 : Int) (n : Nat) : (mkSs k0 n).length = n := by simp [mkSs]
theorem mkSs_at {k0 : Int} {n k : Nat} (h : k < n) : (mkSs k0 n)[k]? = some (mkS (k0 + 4 * (k : Int))) := by simp [mkSs, h]
theorem mkSs_set {l : List Sm} {k0 : Int} {k : Nat} (h : k < l.length) : (mkSs k0 k ++ l.drop k).set k (mkS (k0 + 4 * (k : Int))) = mkSs k0 (k + 1) ++ l.drop (k + 1) := by
  have hl := mkSs_length k0 k
  rw [List.set_append_right _ _ (by omega), hl, Nat.sub_self]
  rw [List.drop_eq_getElem_cons h, List.set_cons_zero]
  have : mkSs k0 (k + 1) = mkSs k0 k ++ [mkS (k0 + 4 * (k : Int))] := by simp [mkSs, List.range_succ]
  rw [this, List.append_assoc]
  rfl
theorem flatSm_set (l : List Sm) (k : Nat) (v : Sm) (h : k < l.length) :
    ((((flatSm l).set (k * 4) (.int .i64 v.off)).set (k * 4 + 1) (.int .i64 v.delay)).set (k * 4 + 2) (.int .i64 v.disp)).set (k * 4 + 3) (.int .i64 v.at_) = flatSm (l.set k v) := by
  induction l generalizing k with
  | nil => simp at h
  | cons a l ih =>
    have e1 : flatSm (a :: l) = .int .i64 a.off :: .int .i64 a.delay :: .int .i64 a.disp :: .int .i64 a.at_ :: flatSm l := rfl
    cases k with
    | zero =>
      rw [e1]
      rfl
    | succ k =>
      have e2 : flatSm (a :: l.set k v) = .int .i64 a.off :: .int .i64 a.delay :: .int .i64 a.disp :: .int .i64 a.at_ :: flatSm (l.set k v) := rfl
      rw [List.set_cons_succ, e2, ← ih k (by simpa using h), e1]
      have a0 : (k + 1) * 4 = k * 4 + 1 + 1 + 1 + 1 := by omega
      have a1 : (k + 1) * 4 + 1 = (k * 4 + 1) + 1 + 1 + 1 + 1 := by omega
      have a2 : (k + 1) * 4 + 2 = (k * 4 + 2) + 1 + 1 + 1 + 1 := by omega
      have a3 : (k + 1) * 4 + 3 = (k * 4 + 3) + 1 + 1 + 1 + 1 := by omega
      rw [a1, a2, a3, a0]
      simp only [List.set_cons_succ]

/-- A sample stored at its place in a row. -/
theorem SmRow.put {base : Nat} {W : World} {g cap k : Nat} {l : List Sm} (h : SmRow base W (some ⟨g, 0, none⟩) cap l) (hk : k < l.length) (v : Sm) :
    SmRow base ((((W.setCell ⟨g, k * 4, none⟩ (.int .i64 v.off)).setCell ⟨g, k * 4 + 1, none⟩ (.int .i64 v.delay)).setCell ⟨g, k * 4 + 2, none⟩ (.int .i64 v.disp)).setCell ⟨g, k * 4 + 3, none⟩ (.int .i64 v.at_)) (some ⟨g, 0, none⟩) cap (l.set k v) := by
  have h1 := (((((World.ownsRow.stored h (k * 4) (.int .i64 v.off)).1).stored (k * 4 + 1) (.int .i64 v.delay)).1.stored (k * 4 + 2) (.int .i64 v.disp)).1.stored (k * 4 + 3) (.int .i64 v.at_)).1
  rw [flatSm_set l k v hk] at h1
  unfold SmRow
  rw [List.length_set]
  exact h1
theorem SmRow.thaw {base : Nat} {W : World} {g cap : Nat} {l : List Sm} (h : SmRow base W (some ⟨g, 0, none⟩) cap l) (k : Nat) : W.frozen? ⟨g, k * 4, none⟩ = false ∧ W.frozen? ⟨g, k * 4 + 1, none⟩ = false ∧ W.frozen? ⟨g, k * 4 + 2, none⟩ = false ∧ W.frozen? ⟨g, k * 4 + 3, none⟩ = false :=
  ⟨World.ownsRow.frozenAt h _, World.ownsRow.frozenAt h _, World.ownsRow.frozenAt h _, World.ownsRow.frozenAt h _⟩
theorem grown_setS {w a : World} {g : Nat} (h : w.grownBy a (some g)) (k : Nat) (v : Value) : w.grownBy (a.setCell ⟨g, k, none⟩ v) (some g) :=
  ⟨h.os, h.tape, h.output, by have := h.size; simpa [World.setCell] using this, fun j hj hne => by
    rw [← h.block j hj hne]
    have : g ≠ j := fun e => hne (by rw [e])
    simp [World.setCell, Array.getElem?_modify, this]⟩
theorem SmRow.some_ {base : Nat} {W : World} {x : Option Addr} {cap : Nat} {l : List Sm} (h : SmRow base W x cap l) (hl : 0 < l.length) : ∃ g, x = some ⟨g, 0, none⟩ := by
  rcases h.2 with ⟨e, e0⟩ | ⟨g, c, cur, e, hb, hg, _⟩
  · omega
  · simp only [Value.slice.injEq] at e
    exact ⟨g, e.1⟩

/-- Marked: the row holds the marks, nothing else has turned. -/
def MarkedS (base : Nat) (w : World) (x : Option Addr) (cap n : Nat) (k0 : Int) : Ending → World → Prop := fun e w' =>
  e = .returned (.int .i64 (k0 + 4 * n)) ∧ SmRow base w' x cap (mkSs k0 n) ∧ w.grownBy w' (x.map (·.block))

set_option maxHeartbeats 2000000 in
theorem markSampleS_c (l : List Sm) (n : Nat) (hn : Hid (n = l.length)) (hm : n ≤ 1048576) (k0 : Int) (h0 : 0 ≤ k0) (h1 : k0 ≤ 1048576) (base : Nat) (x : Option Addr) (cap : Nat) (w : World) (h : SmRow base w x cap l) :
    Calls Tryd.prog 35 #[.slice x n cap, .int .i64 k0] w (MarkedS base w x cap n k0) := by
  go_enter Tryd.func35, Tryd.ntmps35
  go_wp2
  go_loopw [1, 5] (fun m i wr => ∃ k : Nat, k ≤ n ∧ i = .int .i64 k ∧ m = .int .i64 (k0 + 4 * k) ∧ SmRow base wr x cap (mkSs k0 k ++ l.drop k) ∧ w.grownBy wr (x.map (·.block))) (fun _ i _ => n - (intOf i).toNat)
  case atStart => exact ⟨0, Nat.zero_le _, rfl, by simp, by simpa [mkSs] using h, World.grownBy.refl _ _⟩
  case round =>
    obtain ⟨k, hk, rfl, rfl, hr, hg⟩ := hrel
    by_cases hlt : k < n
    · have hkl : k < l.length := by rw [← hn.out]; exact hlt
      have hll : k < (mkSs k0 k ++ l.drop k).length := by rw [List.length_append, mkSs_length, List.length_drop]; omega
      obtain ⟨g, rfl⟩ := hr.some_ (by omega)
      obtain ⟨v, hv⟩ := getS hll
      obtain ⟨c0, c1, c2, c3⟩ := hr.cell hv
      obtain ⟨f0, f1, f2, f3⟩ := hr.thaw k
      have hp := hr.put hll (mkS (k0 + 4 * (k : Int)))
      rw [mkSs_set hkl] at hp
      dsimp only [mkS] at hp
      obtain ⟨q, hq⟩ : ∃ q, q = k0 + 4 * (k : Int) := ⟨_, rfl⟩
      rw [← hq] at hp ⊢
      have q0 : 0 ≤ q := by omega
      have q1 : q ≤ 8388608 := by omega
      have HQ := Lib.hid hq
      have hg' := grown_setS (grown_setS (grown_setS (grown_setS hg (k * 4) (.int .i64 q)) (k * 4 + 1) (.int .i64 (q + 1))) (k * 4 + 2) (.int .i64 (q + 2))) (k * 4 + 3) (.int .i64 (q + 3))
      have a2 : q + 1 + 1 = q + 2 := by omega
      have a3 : q + 2 + 1 = q + 3 := by omega
      clear hv hq
      go_wp2_with fail
      go_roundw
      case rel => exact ⟨k + 1, by omega, by go_num, by rw [show k0 + 4 * ((k + 1 : Nat) : Int) = q + 3 + 1 from by have := HQ.out; omega], hp, hg'⟩
      case measure => simp [intOf]; omega
    · have e : k = n := by omega
      have hr' : SmRow base wr x cap (mkSs k0 n) := by
        rw [e, List.drop_of_length_le (by rw [← hn.out]; exact Nat.le_refl _), List.append_nil] at hr
        exact hr
      have HE := Lib.hid e
      clear e hr
      go_wp2_with fail
      go_returns
      exact ⟨by rw [HE.out]; rfl, hr', hg⟩

set_option maxHeartbeats 2000000 in
theorem heldSampleS_c (n : Nat) (hm : n ≤ 1048576) (k0 : Int) (h0 : 0 ≤ k0) (h1 : k0 ≤ 1048576) (base : Nat) (x : Option Addr) (cap : Nat) (w : World) (h : SmRow base w x cap (mkSs k0 n)) :
    Calls Tryd.prog 36 #[.slice x n cap, .int .i64 k0] w fun e w' => e = .returned (.int .i64 (k0 + 4 * n)) ∧ w = w' := by
  go_enter Tryd.func36, Tryd.ntmps36
  go_wp2
  go_loop [1, 5] (fun m i => ∃ k : Nat, k ≤ n ∧ i = .int .i64 k ∧ m = .int .i64 (k0 + 4 * k)) (fun _ i => n - (intOf i).toNat)
  case atStart => exact ⟨0, Nat.zero_le _, rfl, by simp⟩
  case round =>
    obtain ⟨k, hk, rfl, rfl⟩ := hrel
    by_cases hlt : k < n
    · obtain ⟨g, rfl⟩ := h.some_ (by rw [mkSs_length]; omega)
      obtain ⟨c0, c1, c2, c3⟩ := h.cell (mkSs_at hlt)
      dsimp only [mkS] at c0 c1 c2 c3
      obtain ⟨q, hq⟩ : ∃ q, q = k0 + 4 * (k : Int) := ⟨_, rfl⟩
      rw [← hq] at c0 c1 c2 c3 ⊢
      have q0 : 0 ≤ q := by omega
      have q1 : q ≤ 8388608 := by omega
      have HQ := Lib.hid hq
      have a2 : q + 1 + 1 = q + 2 := by omega
      have a3 : q + 2 + 1 = q + 3 := by omega
      clear hq
      go_wp2_with fail
      go_round
      case rel => exact ⟨k + 1, by omega, by go_num, by rw [show k0 + 4 * ((k + 1 : Nat) : Int) = q + 3 + 1 from by have := HQ.out; omega]⟩
      case measure => simp [intOf]; omega
    · have HE := Lib.hid (show k = n by omega)
      go_wp2_with fail
      go_returns
      exact ⟨by rw [HE.out]; rfl, rfl⟩
theorem SmTab.row {n g : Nat} {w : World} {l : List Sm} (h : SmTab n w g l) (hn : n = l.length) (hm : n ≤ maxLen) : SmRow 0 w (some ⟨g, 0, none⟩) n l := by
  obtain ⟨cur, h1, h2, h3, h4⟩ := h
  subst hn
  refine ⟨flatSm_len l, .inr ⟨g, l.length, cur, rfl, Nat.zero_le _, h1, Nat.le_refl _, hm, h2, ?_⟩⟩
  apply List.ext_getElem?
  intro i
  rcases Nat.lt_or_ge i (l.length * 4) with hi | hi
  · obtain ⟨v, hv⟩ := getS (l := l) (k := i / 4) (by omega)
    obtain ⟨z, hz⟩ : ∃ z, v.row[i % 4]? = some z := ⟨v.row[i % 4]'(by simp [Sm.row]; omega), List.getElem?_eq_getElem _⟩
    have e : i / 4 * 4 + i % 4 = i := by omega
    have a := h4 (i / 4) v (i % 4) z hv hz
    have b := flatSm_at hv hz
    rw [e] at a b
    rw [List.getElem?_take, if_pos hi, b]
    simpa using a
  · rw [List.getElem?_take, if_neg (by omega)]
    exact (List.getElem?_eq_none (by rw [flatSm_len]; exact hi)).symm
theorem SmRow.own {base : Nat} {W : World} {x : Option Addr} {cap : Nat} {l : List Sm} (h : SmRow base W x cap l) {k : Nat} (hk : x.map (·.block) = some k) : x = some ⟨k, 0, none⟩ := by
  rcases h.2 with ⟨e, _⟩ | ⟨g, c, cur, e, _⟩
  · simp only [Value.slice.injEq] at e
    rw [e.1] at hk
    simp at hk
  · simp only [Value.slice.injEq] at e
    rw [e.1] at hk ⊢
    simp at hk
    rw [hk]
end Go.Proofs.YtmekjnnfnlkhiaaDoor
