/- Parts of a slice of clients, as sources of an append. -/
import Derived.Test.YtckonbbdeohccaaClMark
import Derived.Test.YtckonbbdeohccaaAppAny
namespace Go.Proofs.Ytckonbbdeohccaa
open Go.ChangeShapes Go.WideShapes Go.ChangeAt Go.RowKit
set_option linter.unusedVariables false
set_option linter.unusedSimpArgs false

theorem add_add0 (b o i j : Nat) : ((⟨b, o, none⟩ : Addr).add i).add j = (⟨b, o, none⟩ : Addr).add (i + j) := by
  by_cases hi : i = 0 <;> by_cases hj : j = 0 <;> simp [Addr.add, hi, hj, Nat.add_assoc]
/-- All of a slice. -/
theorem src_all {B : Nat} {W : World} {x : Option Addr} {cap : Nat} {l : List Cl} (h : Cls B W x l) (hnil : x = none → cap = 0) : SrcAt W (.slice x l.length cap) l.length 3 (flatCl l) := by
  rcases x with _ | a
  · have hl : l = [] := by
      rcases h with h | ⟨b, off, e, _⟩
      · exact h
      · cases e
    subst hl
    exact .inl ⟨by rw [hnil rfl]; rfl, rfl, rfl⟩
  · refine .inr ⟨a, cap, rfl, flatCl_len l, fun j u hj => ?_⟩
    have h0 := h
    rcases h with h | ⟨b, off, e, _, _⟩
    · subst h; simp [flatCl] at hj
    · simp only [Option.some.injEq] at e
      subst e
      exact cls_news h0 j u hj
theorem run_from {W : World} (x : Option Addr) (n cap k : Nat) (hk : k ≤ n) (hc : n ≤ cap) :
    (Instr.sliceAt 26 (.slice x n cap) (some (.int .i64 (k : Int))) none none).run Try.prog W = .ok (.slice (if cap = k then x else x.map (·.add (k * 3))) (n - k) (cap - k)) W := by
  have h1 : (0 : Int) ≤ (k : Int) := by omega
  have h2 : (k : Int) ≤ (n : Int) := by omega
  have hs : ∀ W, (sizeOf 52).run Try.prog W = .ok 3 W := fun W => by kernel_rfl
  simp [go_sem, Try.underlying26, h1, h2, hs]
theorem run_upto {W : World} (x : Option Addr) (n cap k : Nat) (hk : k ≤ n) (hc : n ≤ cap) :
    (Instr.sliceAt 26 (.slice x n cap) none (some (.int .i64 (k : Int))) none).run Try.prog W = .ok (.slice (if cap = 0 then x else x.map (·.add 0)) k cap) W := by
  have h1 : (0 : Int) ≤ (k : Int) := by omega
  have h2 : (k : Int) ≤ (cap : Int) := by omega
  have hs : ∀ W, (sizeOf 52).run Try.prog W = .ok 3 W := fun W => by kernel_rfl
  simp [go_sem, Try.underlying26, h1, h2, hs]
theorem add_zero0 (b o : Nat) : (⟨b, o, none⟩ : Addr).add 0 = ⟨b, o, none⟩ := by unfold Addr.add; simp
/-- What stands behind a place. -/
theorem slice_from (x : Option Addr) (l : List Cl) (n cap k : Nat) (i : Int) (hi : i = (k : Int)) (hn : n = l.length) (hk : k ≤ n) (hc : n ≤ cap) (hnil : x = none → cap = 0) :
    ∃ src : Value, (∀ W, (Instr.sliceAt 26 (.slice x n cap) (some (.int .i64 i)) none none).run Try.prog W = .ok src W) ∧ ∀ B W, Cls B W x l → SrcAt W src (n - k) 3 (flatCl (l.drop k)) := by
  subst hi
  refine ⟨_, fun W => run_from x n cap k hk hc, fun B W h => ?_⟩
  rcases x with _ | a
  · have h0 := hnil rfl
    have hl : l = [] := List.eq_nil_of_length_eq_zero (by omega)
    subst hl
    exact .inl ⟨by subst h0; simp; omega, by omega, by simp [flatCl]⟩
  · by_cases hcap : cap = k
    · rw [if_pos hcap]
      have hkn : k = n := by omega
      refine .inr ⟨a, cap - k, rfl, by rw [flatCl_len, List.length_drop]; omega, fun j u hj => ?_⟩
      rw [List.drop_eq_nil_of_le (by omega)] at hj
      simp [flatCl] at hj
    · rw [if_neg hcap]
      refine .inr ⟨a.add (k * 3), cap - k, rfl, by rw [flatCl_len, List.length_drop]; omega, fun j u hj => ?_⟩
      have h0 := h
      rcases h with h | ⟨b, off, e, _, _⟩
      · subst h; simp [flatCl] at hj
      · simp only [Option.some.injEq] at e
        subst e
        rw [add_add0]
        refine cls_news h0 _ u ?_
        rw [← flatCl_drop, List.getElem?_drop] at hj
        exact hj
/-- What stands ahead of a place. -/
theorem slice_upto (x : Option Addr) (l : List Cl) (n cap k : Nat) (hn : n = l.length) (hk : k ≤ n) (hc : n ≤ cap) (hnil : x = none → cap = 0) :
    ∃ src : Value, (∀ W, (Instr.sliceAt 26 (.slice x n cap) none (some (.int .i64 (k : Int))) none).run Try.prog W = .ok src W) ∧ ∀ B W, Cls B W x l → SrcAt W src k 3 (flatCl (l.take k)) := by
  refine ⟨_, fun W => run_upto x n cap k hk hc, fun B W h => ?_⟩
  rcases x with _ | a
  · have h0 := hnil rfl
    have hl : l = [] := List.eq_nil_of_length_eq_zero (by omega)
    subst hl
    exact .inl ⟨by subst h0; simp; omega, by omega, by simp [flatCl]⟩
  · have hln : (l.take k).length = k := by rw [List.length_take]; omega
    have h0 := h
    have hcell : ∀ j u, (flatCl (l.take k))[j]? = some u → W.cell? (a.add j) = some u := fun j u hj => by
      rcases h with h | ⟨b, off, e, _, _⟩
      · subst h; simp [flatCl] at hj
      · simp only [Option.some.injEq] at e
        subst e
        refine cls_news h0 _ u ?_
        rw [← flatCl_take] at hj
        rw [List.getElem?_take] at hj
        split at hj
        · exact hj
        · cases hj
    by_cases hcap : cap = 0
    · rw [if_pos hcap]
      exact .inr ⟨a, cap, rfl, by rw [flatCl_len, hln], hcell⟩
    · rw [if_neg hcap]
      refine .inr ⟨a.add 0, cap, rfl, by rw [flatCl_len, hln], fun j u hj => ?_⟩
      rcases h with h | ⟨b, off, e, _, _⟩
      · subst h; simp [flatCl] at hj
      · simp only [Option.some.injEq] at e
        subst e
        rw [add_zero0]
        exact hcell j u hj
end Go.Proofs.Ytckonbbdeohccaa
