/- A filter takes one more sample. -/
import Derived.Test.YthgamidodkkpbaaDoorFil
import Derived.Deep.RegionHeld3
import Derived.Deep.RegionWith
import Derived.Deep.Cut
import Derived.Deep.RegionLaw
namespace Go.Proofs.YthgamidodkkpbaaDoor
open Go.ChangeShapes Go.WideShapes Go.ChangeAt Go.RowKit Go.Sort
set_option linter.unusedVariables false
set_option linter.unusedSimpArgs false

theorem row_set {W : World} {b : Nat} {C : List Value} {T : TypeId} (h : W.heap[b]? = some (.cells C.toArray T (0, 0))) (i : Nat) (v : Value) :
    (W.setCell ⟨b, i, none⟩ v).heap[b]? = some (.cells (C.set i v).toArray T (0, 0)) := by
  simp [World.setCell, Array.getElem?_modify, h]
theorem row_drew {W : World} {b : Nat} {o : Obj} (h : W.heap[b]? = some o) : W.drew.heap[b]? = some o := h
theorem grown_drewF {w a : World} {r : Option Nat} (h : w.grownBy a r) : w.grownBy a.drew r := ⟨h.os, h.tape, h.output, h.size, h.block⟩
theorem grown_setRow {w a a' : World} {g : Nat} {cs : Array Value} (h : w.grownBy a (some g)) (e : a' = a.setRow g cs) : w.grownBy a' (some g) := by
  refine ⟨?_, ?_, ?_, ?_, fun j hj hne => (setRow_other' e (fun h => hne (by rw [h]))).trans (h.block j hj hne)⟩
  · subst e; exact h.os
  · subst e; exact h.tape
  · subst e; exact h.output
  · rw [setRow_size' e]; exact h.size
theorem grown_set {w a : World} {g : Nat} (h : w.grownBy a (some g)) (k : Nat) (v : Value) : w.grownBy (a.setCell ⟨g, k, none⟩ v) (some g) :=
  ⟨h.os, h.tape, h.output, by have := h.size; simpa [World.setCell] using this, fun j hj hne => by
    rw [← h.block j hj hne]
    have : g ≠ j := fun e => hne (by rw [e])
    simp [World.setCell, Array.getElem?_modify, this]⟩
/-- The four numbers of a sample at its place. -/
def put4 (C : List Value) (k : Nat) (s : Sm) : List Value := (((C.set (k * 4) (.int .i64 s.off)).set (k * 4 + 1) (.int .i64 s.delay)).set (k * 4 + 2) (.int .i64 s.disp)).set (k * 4 + 3) (.int .i64 s.at_)
theorem put4_len (C : List Value) (k : Nat) (s : Sm) : (put4 C k s).length = C.length := by simp [put4]
theorem put4_out {C : List Value} {k : Nat} {s : Sm} {i : Nat} (h : i < k * 4 ∨ k * 4 + 4 ≤ i) : (put4 C k s)[i]? = C[i]? := by
  unfold put4
  rw [List.getElem?_set_ne (by omega), List.getElem?_set_ne (by omega), List.getElem?_set_ne (by omega), List.getElem?_set_ne (by omega)]
theorem put4_in {C : List Value} {k : Nat} {s : Sm} {j : Nat} {z : Int} (hC : k * 4 + 4 ≤ C.length) (h : s.row[j]? = some z) : (put4 C k s)[k * 4 + j]? = some (.int .i64 z) := by
  unfold put4
  match j, h with
  | 0, h =>
    simp only [Sm.row, List.getElem?_cons_zero, Option.some.injEq] at h
    subst h
    rw [List.getElem?_set_ne (by omega), List.getElem?_set_ne (by omega), List.getElem?_set_ne (by omega), Nat.add_zero, List.getElem?_set_self (by omega)]
  | 1, h =>
    simp only [Sm.row, List.getElem?_cons_succ, List.getElem?_cons_zero, Option.some.injEq] at h
    subst h
    rw [List.getElem?_set_ne (by omega), List.getElem?_set_ne (by omega), List.getElem?_set_self (by simp; omega)]
  | 2, h =>
    simp only [Sm.row, List.getElem?_cons_succ, List.getElem?_cons_zero, Option.some.injEq] at h
    subst h
    rw [List.getElem?_set_ne (by omega), List.getElem?_set_self (by simp; omega)]
  | 3, h =>
    simp only [Sm.row, List.getElem?_cons_succ, List.getElem?_cons_zero, Option.some.injEq] at h
    subst h
    rw [List.getElem?_set_self (by simp; omega)]
  | j + 4, h => simp [Sm.row] at h
theorem row_len {s : Sm} {j : Nat} {z : Int} (h : s.row[j]? = some z) : j < 4 := by
  have := (List.getElem?_eq_some_iff.1 h).1
  simpa [Sm.row] using this
theorem fil_put {C : List Value} {l : List Sm} (h : Fil C l) (hk : l.length < 8) (s : Sm) : Fil ((put4 C l.length s).set 32 (.int .i64 ((l.length : Int) + 1))) (l ++ [s]) := by
  have hC := h.len
  refine ⟨by simp [put4_len, hC], fun i hi => ?_, ?_, by simp; omega, fun i v j z hv hz => ?_⟩
  · by_cases h32 : i = 32
    · subst h32
      exact ⟨_, List.getElem?_set_self (by rw [put4_len]; omega)⟩
    · rw [List.getElem?_set_ne (by omega)]
      by_cases hin : i < l.length * 4 ∨ l.length * 4 + 4 ≤ i
      · rw [put4_out hin]; exact h.ints i hi
      · obtain ⟨j, rfl⟩ : ∃ j, i = l.length * 4 + j := ⟨i - l.length * 4, by omega⟩
        obtain ⟨z, hz⟩ : ∃ z, s.row[j]? = some z := ⟨s.row[j]'(by simp [Sm.row]; omega), List.getElem?_eq_getElem _⟩
        exact ⟨z, put4_in (by omega) hz⟩
  · rw [List.getElem?_set_self (by rw [put4_len]; omega)]
    simp
  · have hj := row_len hz
    rcases Nat.lt_or_ge i l.length with hi | hi
    · rw [List.getElem?_append_left hi] at hv
      rw [List.getElem?_set_ne (by omega), put4_out (by omega)]
      exact h.at_ i v j z hv hz
    · have hi' : i = l.length := by
        have := (List.getElem?_eq_some_iff.1 hv).1
        simp at this
        omega
      subst hi'
      simp at hv
      subst hv
      rw [List.getElem?_set_ne (by omega)]
      exact put4_in (by omega) hz
theorem splice_low {C : List Value} (hC : C.length = 33) {i : Nat} (h : i < 28) : (splice C 0 ((C.drop 4).take 28))[i]? = C[i + 4]? := by
  unfold splice
  have hl : ((C.drop 4).take 28).length = 28 := by simp [hC]
  rw [List.take_zero, List.nil_append, List.getElem?_append_left (by omega), List.getElem?_take_of_lt h, List.getElem?_drop, Nat.add_comm]
theorem splice_high {C : List Value} (hC : C.length = 33) {i : Nat} (h : 28 ≤ i) : (splice C 0 ((C.drop 4).take 28))[i]? = C[i]? := by
  unfold splice
  have hl : ((C.drop 4).take 28).length = 28 := by simp [hC]
  rw [List.take_zero, List.nil_append, List.getElem?_append_right (by omega), hl, List.getElem?_drop]
  congr 1
  omega
theorem fil_shift {C : List Value} {l : List Sm} (h : Fil C l) (h8 : l.length = 8) : Fil ((splice C 0 ((C.drop 4).take 28)).set 32 (.int .i64 7)) (l.drop 1) := by
  have hC := h.len
  have hl : (splice C 0 ((C.drop 4).take 28)).length = 33 := by unfold splice; simp [hC]
  refine ⟨by simp [hl], fun i hi => ?_, ?_, by simp; omega, fun i v j z hv hz => ?_⟩
  · by_cases h32 : i = 32
    · subst h32
      exact ⟨_, List.getElem?_set_self (by omega)⟩
    · rw [List.getElem?_set_ne (by omega)]
      rcases Nat.lt_or_ge i 28 with hi' | hi'
      · rw [splice_low hC hi']; exact h.ints _ (by omega)
      · rw [splice_high hC hi']; exact h.ints _ hi
  · rw [List.getElem?_set_self (by omega)]
    simp [h8]
  · have hj := row_len hz
    rw [List.getElem?_drop] at hv
    have hi := (List.getElem?_eq_some_iff.1 hv).1
    rw [List.getElem?_set_ne (by omega), splice_low hC (by omega)]
    have := h.at_ (1 + i) v j z hv hz
    rwa [show (1 + i) * 4 + j = i * 4 + j + 4 by omega] at this
/-- What a filter has behind one more. -/
def addV (l : List Sm) (s : Sm) : List Sm := if l.length = 8 then l.drop 1 ++ [s] else l ++ [s]

set_option maxRecDepth 100000 in
set_option maxHeartbeats 2000000 in
theorem add_c (l : List Sm) (s : Sm) (b : Nat) (w : World) (h : FilAt w b l) :
    Calls Tryd.prog 31 #[.pointer (some ⟨b, 0, none⟩), .agg #[.int .i64 s.off, .int .i64 s.delay, .int .i64 s.disp, .int .i64 s.at_]] w fun e w' => e = .returned (.tuple #[]) ∧ FilAt w' b (addV l s) ∧ w.grownBy w' (some b) := by
  have Q0 := blk_new w (.cells #[.int .i64 s.off, .int .i64 s.delay, .int .i64 s.disp, .int .i64 s.at_] 26)
  have B0 : w.grownBy (w.alloc (.cells #[.int .i64 s.off, .int .i64 s.delay, .int .i64 s.disp, .int .i64 s.at_] 26)) (some b) := World.grownBy_alloc w _ _
  have hlt := h.lt
  have h0 := h.next (below_new w (.cells #[.int .i64 s.off, .int .i64 s.delay, .int .i64 s.disp, .int .i64 s.at_] 26))
  obtain ⟨W, hW⟩ : ∃ W, w.alloc (.cells #[.int .i64 s.off, .int .i64 s.delay, .int .i64 s.disp, .int .i64 s.at_] 26) = W := ⟨_, rfl⟩
  rw [hW] at Q0 h0 B0
  obtain ⟨c0, c1, c2, c3⟩ := sample_cells Q0
  have hle := h.le
  have hc := h0.count
  by_cases hf : l.length = 8
  · have hadd : addV l s = l.drop 1 ++ [s] := by unfold addV; rw [if_pos hf]
    rw [hadd]
    obtain ⟨C, hC, hF⟩ := h0
    have hS := fil_shift hF hf
    have HP := fil_put hS (by simp; omega) s
    have h7 : (l.drop 1).length = 7 := by simp; omega
    rw [h7] at HP
    rw [hf] at hc
    have HC := Lib.hid hC
    have HL : Hid (((C.drop 4).take 28).length = Nat.min 7 8 * 4) := Lib.hid (by simp [hF.len])
    have HSRC : Hid (∀ j v, ((C.drop 4).take 28)[j]? = some v → W.drew.cell? ((⟨b, 4, none⟩ : Addr).add j) = some v) := Lib.hid (fun j v hv => by
      have hj : j < 28 := by
        have := (List.getElem?_eq_some_iff.1 hv).1
        simp at this
        omega
      rw [List.getElem?_take_of_lt hj, List.getElem?_drop] at hv
      rw [show (⟨b, 4, none⟩ : Addr).add j = ⟨b, 4 + j, none⟩ by unfold Addr.add; split <;> simp_all]
      show W.cell? ⟨b, 4 + j, none⟩ = some v
      rw [cell_of_row W b _ _ _ _ hC]
      simpa using hv)
    have HFIT : Hid (0 + ((C.drop 4).take 28).length ≤ C.length) := Lib.hid (by simp [hF.len])
    have HONE : Hid (∀ v ∈ (C.drop 4).take 28, v.oneCell' = true) := Lib.hid (fun v hv => by
      obtain ⟨i, hi, e⟩ := List.mem_iff_getElem.1 ((List.take_sublist _ _).trans (List.drop_sublist _ _) |>.subset hv)
      obtain ⟨n, hn⟩ := hF.ints i (by rw [← hF.len]; exact hi)
      rw [List.getElem?_eq_getElem hi, e] at hn
      simp only [Option.some.injEq] at hn
      subst hn
      rfl)
    have hne : w.heap.size ≠ b := by omega
    have HS := Lib.hid hS
    have HP' := Lib.hid HP
    have HFL := Lib.hid hF
    have hc2 : ((8 : Int) == 8) = true := rfl
    clear hF hC hS HP hadd
    go_enter Tryd.func31, Tryd.ntmps31
    go_wp2_with fail
    go_region_law (refine step_copy_k rfl _ _ 24 24 rfl 26 4 Tryd.underlying24 (by kernel_rfl) b 0 8 8 ⟨b, 4, none⟩ 7 7 (by simp [Act.eval, Act.put]) (by simp [Act.eval, Act.put]) C 46 (row_drew HC.out) ((C.drop 4).take 28) HL.out HSRC.out HFIT.out HONE.out ?_; intro v9 w9 hw9)
    all_goals
      have H9 := setRow_heap' hw9.out (row_drew HC.out)
      have Q9 := (setRow_other' hw9.out hne).trans (row_drew Q0)
      have G9 := grown_setRow (grown_drewF B0) hw9.out
      have x9 : w9.cell? ⟨b, 32, none⟩ = some (.int .i64 8) := by
        rw [cell_of_row w9 b 32 _ _ _ H9]
        have := HFL.out.count
        rw [hf] at this
        have e := splice_high HFL.out.len (i := 32) (by omega)
        rw [this] at e
        simpa using e
      have z9 : w9.frozen? ⟨b, 32, none⟩ = false := by simp [World.frozen?, H9]
      have HH9 := Lib.hid H9
      have HQ9 := Lib.hid Q9
      have HG9 := Lib.hid G9
      clear hw9 H9 Q9 G9 hc c0 c1 c2 c3 Q0 HC HSRC HL HFIT HONE HFL
      go_wp2_with fail
      have H3 := Lib.hid (row_set HH9.out 32 (.int .i64 7))
      have Q3 : (w9.setCell ⟨b, 32, none⟩ (.int .i64 7)).heap[w.heap.size]? = some (.cells #[.int .i64 s.off, .int .i64 s.delay, .int .i64 s.disp, .int .i64 s.at_] 26) := by
        have := HQ9.out
        simpa [World.setCell, Array.getElem?_modify, Ne.symm hne] using this
      have G3 := Lib.hid (grown_set HG9.out 32 (.int .i64 7))
      have y3 : (w9.setCell ⟨b, 32, none⟩ (.int .i64 7)).cell? ⟨b, 32, none⟩ = some (.int .i64 7) := World.cell?_setCell_same _ _ _ x9
      generalize w9.setCell ⟨b, 32, none⟩ (.int .i64 7) = W3 at *
      clear x9 z9 HH9 HQ9 HG9
      obtain ⟨c0, c1, c2, c3⟩ := sample_cells Q3
      obtain ⟨D, hD⟩ : ∃ D, (splice C 0 ((C.drop 4).take 28)).set 32 (.int .i64 7) = D := ⟨_, rfl⟩
      rw [hD] at H3 HS HP'
      have d := fun j (hj : j < 4) => show ∃ n : Int, W3.cell? ⟨b, 28 + j, none⟩ = some (.int .i64 n) from by
        obtain ⟨n, hn⟩ := HS.out.ints (28 + j) (by omega)
        exact ⟨n, by rw [cell_of_row W3 b _ _ _ _ H3.out]; simpa using hn⟩
      obtain ⟨n0, d0⟩ := d 0 (by omega)
      obtain ⟨n1, d1⟩ := d 1 (by omega)
      obtain ⟨n2, d2⟩ := d 2 (by omega)
      obtain ⟨n3, d3⟩ := d 3 (by omega)
      have z := fun i => show W3.frozen? ⟨b, i, none⟩ = false by simp [World.frozen?, H3.out]
      have z0 := z 28
      have z1 := z 29
      have z2 := z 30
      have z3 := z 31
      clear d z hD Q3
      go_region_with fail
      all_goals
        have H5 := Lib.hid (row_drew (row_set (row_set (row_set (row_set H3.out 28 (.int .i64 s.off)) 29 (.int .i64 s.delay)) 30 (.int .i64 s.disp)) 31 (.int .i64 s.at_)))
        have G5 := grown_drewF (grown_set (grown_set (grown_set (grown_set G3.out 28 (.int .i64 s.off)) 29 (.int .i64 s.delay)) 30 (.int .i64 s.disp)) 31 (.int .i64 s.at_))
        generalize ((((W3.setCell ⟨b, 28, none⟩ (.int .i64 s.off)).setCell ⟨b, 29, none⟩ (.int .i64 s.delay)).setCell ⟨b, 30, none⟩ (.int .i64 s.disp)).setCell ⟨b, 31, none⟩ (.int .i64 s.at_)).drew = W5 at *
        have x5 : W5.cell? ⟨b, 32, none⟩ = some (.int .i64 7) := by
          rw [cell_of_row W5 b 32 _ _ _ H5.out]
          have := put4_out (C := D) (k := 7) (s := s) (i := 32) (by omega)
          unfold put4 at this
          have e := HS.out.count
          rw [h7] at e
          rw [e] at this
          simpa using this
        have z5 : W5.frozen? ⟨b, 32, none⟩ = false := by simp [World.frozen?, H5.out]
        go_wp2_with fail
        go_returns
        exact ⟨rfl, ⟨_, row_set H5.out 32 _, HP'.out⟩, grown_set G5 32 _⟩
  · have hadd : addV l s = l ++ [s] := by unfold addV; rw [if_neg hf]
    rw [hadd]
    obtain ⟨C, hC, hF⟩ := h0
    have HP := fil_put hF (by omega) s
    obtain ⟨k, hk⟩ : ∃ k, l.length = k := ⟨_, rfl⟩
    rw [hk] at hf hle hc HP
    have hk8 : k < 8 := by omega
    have hk2 : ((k : Int) == 8) = false := by simpa using (show ¬ (k : Int) = 8 by omega)
    have hk4 : (k : Int) < 8 := by omega
    have d := fun j (hj : j < 4) => show ∃ n : Int, W.cell? ⟨b, k * 4 + j, none⟩ = some (.int .i64 n) from by
      obtain ⟨n, hn⟩ := hF.ints (k * 4 + j) (by omega)
      exact ⟨n, by rw [cell_of_row W b _ _ _ _ hC]; simpa using hn⟩
    obtain ⟨n0, d0⟩ := d 0 (by omega)
    obtain ⟨n1, d1⟩ := d 1 (by omega)
    obtain ⟨n2, d2⟩ := d 2 (by omega)
    obtain ⟨n3, d3⟩ := d 3 (by omega)
    rw [Nat.add_zero] at d0
    have z := fun i => show W.frozen? ⟨b, i, none⟩ = false by simp [World.frozen?, hC]
    have z0 := z (k * 4)
    have z1 := z (k * 4 + 1)
    have z2 := z (k * 4 + 2)
    have z3 := z (k * 4 + 3)
    have HC := Lib.hid hC
    have HN : Hid (C[32]? = some (.int .i64 (k : Int))) := Lib.hid (by rw [← hk]; exact hF.count)
    clear hF d z hf hk hC
    go_enter Tryd.func31, Tryd.ntmps31
    go_wp2_with fail
    go_region_with fail
    all_goals
      have H5 := Lib.hid (row_drew (row_set (row_set (row_set (row_set HC.out (k * 4) (.int .i64 s.off)) (k * 4 + 1) (.int .i64 s.delay)) (k * 4 + 2) (.int .i64 s.disp)) (k * 4 + 3) (.int .i64 s.at_)))
      have G5 := grown_drewF (grown_set (grown_set (grown_set (grown_set B0 (k * 4) (.int .i64 s.off)) (k * 4 + 1) (.int .i64 s.delay)) (k * 4 + 2) (.int .i64 s.disp)) (k * 4 + 3) (.int .i64 s.at_))
      generalize ((((W.setCell ⟨b, k * 4, none⟩ (.int .i64 s.off)).setCell ⟨b, k * 4 + 1, none⟩ (.int .i64 s.delay)).setCell ⟨b, k * 4 + 2, none⟩ (.int .i64 s.disp)).setCell ⟨b, k * 4 + 3, none⟩ (.int .i64 s.at_)).drew = W5 at *
      have x5 : W5.cell? ⟨b, 32, none⟩ = some (.int .i64 (k : Int)) := by
        rw [cell_of_row W5 b 32 _ _ _ H5.out]
        have := put4_out (C := C) (k := k) (s := s) (i := 32) (by omega)
        unfold put4 at this
        simpa [this] using HN.out
      have z5 : W5.frozen? ⟨b, 32, none⟩ = false := by simp [World.frozen?, H5.out]
      have hw5 : IntKind.i64.wrap ((k : Int) + 1) = (k : Int) + 1 := IntWalk.i64_in _ (by omega)
      go_wp2_with fail
      go_returns
      exact ⟨rfl, ⟨_, row_set H5.out 32 _, HP⟩, grown_set G5 32 _⟩
end Go.Proofs.YthgamidodkkpbaaDoor
