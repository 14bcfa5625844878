/- The jitter of a filter: the program's way. -/
import Derived.Test.YthgamidodkkpbaaDoorFilBest
namespace Go.Proofs.YthgamidodkkpbaaDoor
open Go.ChangeShapes Go.WideShapes Go.ChangeAt Go.RowKit Go.Sort
set_option linter.unusedVariables false
set_option linter.unusedSimpArgs false

theorem best_c (l : List Sm) (b : Nat) (w : World) (h : FilAt w b l) :
    Calls Tryd.prog 35 #[.pointer (some ⟨b, 0, none⟩)] w fun e w' => ∃ q : Sm, e = .returned (.agg #[.int .i64 q.off, .int .i64 q.delay, .int .i64 q.disp, .int .i64 q.at_]) ∧ (l ≠ [] → q = bestV l) ∧ Below w.heap.size w w' := by
  by_cases hl : l = []
  · obtain ⟨n0, h0⟩ := h.int (i := 0) (by omega)
    obtain ⟨n1, h1⟩ := h.int (i := 1) (by omega)
    obtain ⟨n2, h2⟩ := h.int (i := 2) (by omega)
    obtain ⟨n3, h3⟩ := h.int (i := 3) (by omega)
    exact (best_from ⟨n0, n1, n2, n3⟩ l b w h ⟨h0, h1, h2, h3⟩).mono fun e w' ⟨he, hb⟩ => ⟨_, he, fun hne => absurd hl hne, hb⟩
  · obtain ⟨v, hv⟩ : ∃ v, l[0]? = some v := ⟨l[0]'(List.length_pos_iff.2 hl), List.getElem?_eq_getElem _⟩
    obtain ⟨c0, c1, c2, c3⟩ := h.at_ hv
    simp only [Nat.zero_mul, Nat.zero_add] at c0 c1 c2 c3
    exact (best_from v l b w h ⟨c0, c1, c2, c3⟩).mono fun e w' ⟨he, hb⟩ => ⟨_, he, fun _ => (bestV_at hv).symm, hb⟩

/-- How far two numbers are apart. -/
def awayV (a b : Int) : Int := max (a - b) (b - a)
theorem awayV_in {a b : Int} (ha : -1000000000000 ≤ a ∧ a ≤ 1000000000000) (hb : -1000000000000 ≤ b ∧ b ≤ 1000000000000) : 0 ≤ awayV a b ∧ awayV a b ≤ 2000000000000 := by unfold awayV; omega
theorem awayV_ge {a b : Int} (h : b - a ≤ a - b) : awayV a b = a - b := by unfold awayV; omega
theorem awayV_lt {a b : Int} (h : ¬ b - a ≤ a - b) : awayV a b = b - a := by unfold awayV; omega
theorem away_c (a b : Int) (ha : -1000000000000 ≤ a ∧ a ≤ 1000000000000) (hb : -1000000000000 ≤ b ∧ b ≤ 1000000000000) (w : World) :
    Calls Tryd.prog 40 #[.int .i64 a, .int .i64 b] w fun e w' => e = .returned (.int .i64 (awayV a b)) ∧ Below w.heap.size w w' := by
  have h1 : IntKind.i64.wrap (a - b) = a - b := IntWalk.i64_in _ (by omega)
  have h2 : IntKind.i64.wrap (b - a) = b - a := IntWalk.i64_in _ (by omega)
  by_cases h : b - a ≤ a - b
  · rw [awayV_ge h]
    have hd : decide (a - b < b - a) = false := decide_eq_false (by omega)
    have hd' : ¬ a - b < b - a := by omega
    go_enter Tryd.func40, Tryd.ntmps40
    go_wp2
    all_goals
      go_returns
      exact ⟨by congr 2 <;> omega, Below.refl _ _⟩
  · rw [awayV_lt h]
    have hd : decide (a - b < b - a) = true := decide_eq_true (by omega)
    have hd' : a - b < b - a := by omega
    go_enter Tryd.func40, Tryd.ntmps40
    go_wp2
    all_goals
      go_returns
      exact ⟨by congr 2 <;> omega, Below.refl _ _⟩

def AllOkS (l : List Sm) : Prop := ∀ v ∈ l, v.ok = true
theorem off_in {v : Sm} (h : v.ok = true) : -1000000000000 ≤ v.off ∧ v.off ≤ 1000000000000 := (Sm.ok_iff.1 h).1
def sumJ (q : Sm) (l : List Sm) : Int := (l.map fun s => awayV s.off q.off).sum
theorem sumJ_next (q : Sm) {l : List Sm} {k : Nat} {v : Sm} (h : l[k]? = some v) : sumJ q (l.take (k + 1)) = sumJ q (l.take k) + awayV v.off q.off := by
  unfold sumJ
  rw [take_nextS h, List.map_append, List.sum_append]
  simp
theorem sumJ_in {q : Sm} (hq : q.ok = true) : ∀ (l : List Sm), AllOkS l → 0 ≤ sumJ q l ∧ sumJ q l ≤ 2000000000000 * (l.length : Int)
  | [], _ => by simp [sumJ]
  | v :: l, h => by
    have := sumJ_in hq l (fun u hu => h u (by simp [hu]))
    have h2 := awayV_in (off_in (h v (by simp))) (off_in hq)
    have e : sumJ q (v :: l) = awayV v.off q.off + sumJ q l := by simp [sumJ]
    rw [e, List.length_cons]
    omega
def jitV (l : List Sm) : Int := sumJ (bestV l) l / max ((l.length : Int) - 1) 1
theorem bestFrom_mem : ∀ (l : List Sm) (q : Sm), bestFrom q l = q ∨ bestFrom q l ∈ l
  | [], q => .inl rfl
  | v :: l, q => by
    have e : bestFrom q (v :: l) = bestFrom (bestStep q v) l := rfl
    rw [e]
    rcases bestFrom_mem l (bestStep q v) with h | h
    · rw [h]
      unfold bestStep
      split
      · exact .inr (by simp)
      · exact .inl rfl
    · exact .inr (by simp [h])
theorem bestV_mem {l : List Sm} (h : l ≠ []) : bestV l ∈ l := by
  cases l with
  | nil => exact absurd rfl h
  | cons a l =>
    rcases bestFrom_mem (a :: l) a with e | e
    · show bestFrom a (a :: l) ∈ _
      rw [e]; simp
    · exact e

set_option maxRecDepth 100000 in
set_option maxHeartbeats 2000000 in
theorem jitter_c (l : List Sm) (hA : AllOkS l) (b : Nat) (w : World) (h : FilAt w b l) :
    Calls Tryd.prog 37 #[.pointer (some ⟨b, 0, none⟩)] w fun e w' => e = .returned (.int .i64 (jitV l)) ∧ Below w.heap.size w w' := by
  obtain ⟨n, hn⟩ : ∃ n, n = l.length := ⟨_, rfl⟩
  have hle := h.le
  have HN := Lib.hid hn
  have HL := Lib.hid (fun W h => list_c l b W h)
  have HB := Lib.hid (best_c l b w h)
  rw [← hn] at HL hle
  clear hn
  go_enter Tryd.func37, Tryd.ntmps37
  go_wp2_with fail
  refine HB.out.mono ?_
  rintro e w1 ⟨q, rfl, hq, hb1⟩
  have Q1 := blk_new w1 (.cells #[.int .i64 q.off, .int .i64 q.delay, .int .i64 q.disp, .int .i64 q.at_] 26)
  have B1 := hb1.alloc hb1.size (.cells #[.int .i64 q.off, .int .i64 q.delay, .int .i64 q.disp, .int .i64 q.at_] 26)
  have F1 := h.next B1
  have HQ := Lib.hid hq
  clear hq
  go_wp2_with fail
  refine (HL.out _ F1).mono ?_
  rintro e w2 ⟨rfl, hb2⟩
  have Q2 := blk_next hb2 Q1
  have F2 := F1.next hb2
  have B2 := grow_next B1 hb2
  clear Q1 F1
  go_wp2_with fail
  go_loopw [4, 12] (fun s i wr => ∃ (k : Nat) (t : Int), k ≤ n ∧ i = .int .i64 k ∧ s = .int .i64 t ∧ Hid (t = sumJ q (l.take k)) ∧ Below w2.heap.size w2 wr) (fun _ i _ => n - (intOf i).toNat)
  case atStart => exact ⟨0, 0, Nat.zero_le _, rfl, rfl, Lib.hid rfl, Below.refl _ _⟩
  case round =>
    obtain ⟨k, t, hk, rfl, rfl, HT, hb⟩ := hrel
    have gr := grow_next B2 hb
    have Fr := F2.next hb
    obtain ⟨p0, p1, p2, p3⟩ := sample_cells (blk_next hb Q2)
    have hp1 : w1.heap.size < wr.heap.size := (Array.getElem?_eq_some_iff.1 (blk_next hb Q2)).1
    by_cases hlt : k < n
    · obtain ⟨v, hv⟩ : ∃ v, l[k]? = some v := ⟨l[k]'(by rw [← HN.out]; exact hlt), List.getElem?_eq_getElem _⟩
      have hne : l ≠ [] := by intro e; rw [e] at hv; simp at hv
      have hqv := HQ.out hne
      have hqok : q.ok = true := by rw [hqv]; exact hA _ (bestV_mem hne)
      have hvok := hA v (List.mem_of_getElem? hv)
      have hnx := sumJ_next q hv
      rw [← HT.out] at hnx
      have h1 := sumJ_in hqok (l.take k) (fun u hu => hA u (List.mem_of_mem_take hu))
      rw [← HT.out, List.length_take, ← HN.out] at h1
      have hC := away_c v.off q.off (off_in hvok) (off_in hqok)
      have h2 := awayV_in (off_in hvok) (off_in hqok)
      obtain ⟨c0, c1, c2, c3⟩ := Fr.at_ hv
      obtain ⟨d, hd⟩ : ∃ d, awayV v.off q.off = d := ⟨_, rfl⟩
      rw [hd] at hC hnx h2
      have hw : IntKind.i64.wrap (t + d) = t + d := IntWalk.i64_in _ (by omega)
      have HC := Lib.hid hC
      have HNX := Lib.hid hnx.symm
      have B3 : Below wr.heap.size wr (wr.alloc (.cells #[.int .i64 v.off, .int .i64 v.delay, .int .i64 v.disp, .int .i64 v.at_] 26)) := below_new _ _
      have hk8 : k < 8 := by omega
      clear hv hnx hC hd h1 h2 hvok hqok hqv hne
      go_wp2_with fail
      refine (HC.out _).mono ?_
      rintro e w4 ⟨rfl, hb4⟩
      go_wp2_with fail
      go_roundw
      case rel => exact ⟨k + 1, t + d, by omega, by go_num, rfl, HNX, grow_next (grow_next hb B3) hb4⟩
      case measure => simp [intOf]; omega
    · have e : k = n := by omega
      have e1 : l.take k = l := by rw [e, HN.out, List.take_length]
      have ht := HT.out
      rw [e1] at ht
      have h1 : 0 ≤ t ∧ t ≤ 16000000000000 := by
        by_cases hne : l = []
        · rw [ht, hne]; simp [sumJ]
        · have := sumJ_in (q := q) (by rw [HQ.out hne]; exact hA _ (bestV_mem hne)) l hA
          rw [← ht, ← HN.out] at this
          omega
      have hj : jitV l = t / max ((n : Int) - 1) 1 := by
        unfold jitV
        rw [← HN.out]
        by_cases hne : l = []
        · rw [ht, hne]; simp [sumJ]
        · rw [← HQ.out hne, ← ht]
      have HJ := Lib.hid hj
      have hcnt := Fr.count
      rw [← HN.out] at hcnt
      have hw1 : IntKind.i64.wrap ((n : Int) - 1) = (n : Int) - 1 := IntWalk.i64_in _ (by omega)
      have HJa : 1 ≤ (n : Int) - 1 → jitV l = t / ((n : Int) - 1) := fun h => by rw [hj, show max ((n : Int) - 1) 1 = (n : Int) - 1 by omega]
      have HJb : (n : Int) - 1 ≤ 1 → jitV l = t := fun h => by rw [hj, show max ((n : Int) - 1) 1 = 1 by omega, Int.ediv_one]
      have HW : 1 ≤ (n : Int) - 1 → IntKind.i64.wrap (t / ((n : Int) - 1)) = t / ((n : Int) - 1) := fun h => IntWalk.i64_in _ (by
        have h0 : 0 ≤ t / ((n : Int) - 1) := Int.ediv_nonneg h1.1 (by omega)
        have h2 : t / ((n : Int) - 1) ≤ t := Int.ediv_le_self _ h1.1
        omega)
      have HTD : Int.tdiv t ((n : Int) - 1) = t / ((n : Int) - 1) := tdiv_pos h1.1 _
      have Ja := Lib.hid HJa
      have Jb := Lib.hid HJb
      have JW := Lib.hid HW
      clear hj ht e1 e p0 p1 p2 p3 HJa HJb HW
      go_wp2_with fail
      all_goals
        go_returns
        refine ⟨?_, gr⟩
        first
          | exact congrArg (fun z => Ending.returned (.int .i64 z)) (Jb.out (by omega)).symm
          | exact congrArg (fun z => Ending.returned (.int .i64 z)) (Ja.out (by omega)).symm
          | exact congrArg (fun z => Ending.returned (.int .i64 z)) ((JW.out (by omega)).trans (Ja.out (by omega)).symm)
end Go.Proofs.YthgamidodkkpbaaDoor
