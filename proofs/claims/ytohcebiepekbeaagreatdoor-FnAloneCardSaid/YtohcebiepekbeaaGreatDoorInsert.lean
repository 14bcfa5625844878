/- slices.Insert of one element into a row of the caller's own: in place, at the end, into a new row. -/
import Derived.Test.YtohcebiepekbeaaGreatDoorCopyK
import Derived.Test.YtohcebiepekbeaaGreatDoorMga
import Derived.Deep.RegionLaw
import Derived.Lib.Overlaps
import Derived.Lib.AppendZerosOnto
import Derived.Laws.AppendOwn
import Derived.Laws.Externs
import Derived.IntWalk
namespace Go.Proofs.YtohcebiepekbeaaGreatDoor
open Go.ChangeShapes Go.WideShapes Go.ChangeAt Go.RowKit
set_option linter.unusedVariables false
set_option linter.unusedSimpArgs false

theorem infoEd : (Tryz.prog.info? 149).map (fun i => (i.zero, i.size, i.bytes)) = some (some (.agg #[.int .i64 0, .int .i64 0]), 2, 16) := by kernel_rfl
theorem sizeEd : (Tryz.prog.info? 149).map (·.size) = some 2 := by kernel_rfl
theorem sizeOfEd : ∀ w, (Go.sizeOf 149).run Tryz.prog w = .ok 2 w := by
  intro w
  cases hi : Tryz.prog.info? 149 with
  | none => have := sizeEd; rw [hi] at this; cases this
  | some i =>
    have := sizeEd
    rw [hi] at this
    simp at this
    simp [Go.sizeOf, typeInfo, hi, this]
theorem addAt (b o j : Nat) : (⟨b, o, none⟩ : Addr).add j = ⟨b, o + j, none⟩ := by unfold Addr.add; split <;> simp_all
theorem cell_row {w : World} {g : Nat} {cur : List Value} {t : TypeId} {f : Nat × Nat} (h : w.heap[g]? = some (.cells cur.toArray t f)) (j : Nat) : w.cell? ⟨g, j, none⟩ = cur[j]? := by
  simp [World.cell?, h]

theorem grown_setRow {w w' : World} {g : Nat} {cs : Array Value} (h : w' = w.drew.setRow g cs) : w.grownBy w' (some g) := by
  subst h
  exact ⟨rfl, rfl, rfl, by simp [World.setRow], fun k hk hne => setRow_other _ g k cs (fun e => hne (by rw [e]))⟩
theorem grown_setRow0 {w w' : World} {g : Nat} {cs : Array Value} (h : w' = w.setRow g cs) : w.grownBy w' (some g) := by
  subst h
  exact ⟨rfl, rfl, rfl, by simp [World.setRow], fun k hk hne => setRow_other _ g k cs (fun e => hne (by rw [e]))⟩
theorem splice_mem {α : Type} {L cs : List α} {o : Nat} {v : α} (h : v ∈ splice L o cs) : v ∈ L ∨ v ∈ cs := by
  simp only [splice, List.mem_append] at h
  rcases h with h | h | h
  · exact .inl (List.mem_of_mem_take h)
  · exact .inr h
  · exact .inl (List.mem_of_mem_drop h)

set_option maxHeartbeats 4000000 in
set_option maxRecDepth 100000 in
theorem insert_shift (g n i cap q : Nat) (cur it : List Value) (w : World) (hi : i < n) (hroom : n + 1 ≤ cap) (hcap : cap ≤ maxLen) (hq : q ≠ g)
    (hcl : cur.length = cap * 2) (hil : it.length = 2) (hg : w.heap[g]? = some (.cells cur.toArray 149 (0, 0))) (hv : w.heap[q]? = some (.cells it.toArray 149 (0, 0)))
    (h1 : ∀ v ∈ cur.take (n * 2), v.oneCell' = true) (h2 : ∀ v ∈ it, v.oneCell' = true) :
    Calls Tryz.prog 126 #[.slice (some ⟨g, 0, none⟩) n cap, .int .i64 i, .slice (some ⟨q, 0, none⟩) 1 1] w fun e w' =>
      e = .returned (.slice (some ⟨g, 0, none⟩) (n + 1) cap) ∧ w'.heap[g]? = some (.cells (splice (splice cur ((i + 1) * 2) ((cur.take (n * 2)).drop (i * 2))) (i * 2) it).toArray 149 (0, 0)) ∧ w.grownBy w' (some g) := by
  unfold maxLen at hcap
  have hov : ∀ lb cb, (callFunc 144 #[.slice (some ⟨q, 0, none⟩) 1 1, .slice (some ⟨g, (i + 1) * 2, none⟩) lb cb]).run Tryz.prog w = .ok (.value (.bool false)) w := fun lb cb => by
    rw [run_callFunc_extern Tryz.func144 (by kernel_rfl) (by kernel_rfl) (by kernel_rfl) (e := Extern.SlicesOverlaps.overlaps #[115, 115] #[4]) (by kernel_rfl),
      Lib.run_overlaps_apart w 115 4 149 Tryz.underlying115 2 sizeOfEd ⟨q, 0, none⟩ ⟨g, (i + 1) * 2, none⟩ 1 1 lb cb hq 149 149 2 (cap * 2) (by simp [World.shape?, hv, hil]) (by simp [World.shape?, hg, hcl]) (by omega) (by simp [World.frozen?, hv]) (by simp [World.frozen?, hv])]
    rfl
  obtain ⟨seg, hseg⟩ : ∃ seg, seg = (cur.take (n * 2)).drop (i * 2) := ⟨_, rfl⟩
  have hsl : seg.length = (n - i) * 2 := by rw [hseg, List.length_drop, List.length_take]; omega
  have hcp1 : ∀ ty dc sc, (Builtin.copy_ #[115, 115] ty #[.slice (some ⟨g, (i + 1) * 2, none⟩) (n - i) dc, .slice (some ⟨g, i * 2, none⟩) (n + 1 - i) sc]).run Tryz.prog w.drew = .ok (goInt (Nat.min (n + 1 - i) (n - i))) (w.drew.setRow g (splice cur ((i + 1) * 2) seg).toArray) := fun ty dc sc =>
    run_copy_k w.drew _ _ ty 149 2 g ((i + 1) * 2) (n - i) dc ⟨g, i * 2, none⟩ (n + 1 - i) sc cur 149 seg Tryz.underlying115 sizeEd hg (by rw [hsl]; simp only [Nat.min_def]; split <;> omega)
      (fun j v hj => by
        rw [addAt]
        show w.cell? _ = _
        rw [cell_row hg]
        rw [hseg, List.getElem?_drop, List.getElem?_take] at hj
        split at hj
        · exact hj
        · cases hj)
      (by rw [hsl, hcl]; omega) (fun v hv' => h1 v (by rw [hseg] at hv'; exact List.mem_of_mem_drop hv'))
  obtain ⟨W1, hW1⟩ : ∃ W1, W1 = w.drew.setRow g (splice cur ((i + 1) * 2) seg).toArray := ⟨_, rfl⟩
  have hg1 : W1.heap[g]? = some (.cells (splice cur ((i + 1) * 2) seg).toArray 149 (0, 0)) := setRow_heap' hW1 hg
  have hv1 : W1.heap[q]? = some (.cells it.toArray 149 (0, 0)) := (setRow_other' hW1 hq).trans hv
  have hcp2 : ∀ ty dc, (Builtin.copy_ #[115, 115] ty #[.slice (some ⟨g, i * 2, none⟩) (n + 1 - i) dc, .slice (some ⟨q, 0, none⟩) 1 1]).run Tryz.prog W1 = .ok (goInt (Nat.min 1 (n + 1 - i))) (W1.setRow g (splice (splice cur ((i + 1) * 2) seg) (i * 2) it).toArray) := fun ty dc =>
    run_copy_k W1 _ _ ty 149 2 g (i * 2) (n + 1 - i) dc ⟨q, 0, none⟩ 1 1 _ 149 it Tryz.underlying115 sizeEd hg1 (by rw [hil]; simp only [Nat.min_def]; split <;> omega)
      (fun j v hj => by rw [addAt, cell_row hv1, Nat.zero_add]; exact hj)
      (by rw [hil, length_splice _ _ _ (by rw [hsl, hcl]; omega), hcl]; omega) h2
  rw [← hW1] at hcp1
  obtain ⟨W2, hW2⟩ : ∃ W2, W2 = W1.setRow g (splice (splice cur ((i + 1) * 2) seg) (i * 2) it).toArray := ⟨_, rfl⟩
  rw [← hW2] at hcp2
  have hg2 : W2.heap[g]? = some (.cells (splice (splice cur ((i + 1) * 2) seg) (i * 2) it).toArray 149 (0, 0)) := setRow_heap' hW2 hg1
  have hgr : w.grownBy W2 (some g) := by
    have a := grown_setRow hW1
    have b := grown_setRow0 hW2
    exact ⟨b.os.trans a.os, b.tape.trans a.tape, b.output.trans a.output, Nat.le_trans a.size b.size, fun k hk hne => (b.block k (Nat.lt_of_lt_of_le hk a.size) hne).trans (a.block k hk hne)⟩
  rw [← hseg]
  have hw1 : IntKind.i64.wrap ((i : Int) + 1) = (i : Int) + 1 := by rw [IntKind.wrap_i64]; omega
  have hb1 : (0 : Int) ≤ (i : Int) + 1 := by omega
  have hin : i ≤ n := by omega
  have htn : ((i : Int) + 1).toNat = i + 1 := by omega
  have hb2 : ¬ (cap = i + 1) := by omega
  have hb3 : (i : Int) ≤ (n : Int) + 1 := by omega
  have hb4 : ¬ (cap = i) := by omega
  have hz2 : ¬ ((i : Int) = (n : Int)) := by omega
  have HG := Lib.hid hg2
  clear hg2 hg1 hv1 hg hv hcl hil hsl hW1 hW2 hseg
  go_enter Tryz.func126, Tryz.ntmps126
  go_wp2_with (simp only [hov])
  go_region_law (refine step_copy_eqn rfl _ _ 115 115 rfl (by simp [Act.eval, Act.put]) (by simp [Act.eval, Act.put]) (hcp1 _ _ _) ?_)
  go_wp2_with (at_builtin; refine wpList_copy_eqn rfl _ _ 115 115 rfl rfl rfl (hcp2 _ _) ?_)
  go_returns
  exact ⟨rfl, HG.out, hgr⟩

theorem splice_at {α : Type} (A B C D : List α) (h : B.length = C.length) : splice (A ++ (B ++ D)) A.length C = A ++ (C ++ D) := by
  unfold splice
  rw [List.take_left' rfl, ← List.append_assoc A B D, List.drop_append_of_le_length (by simp; omega), List.drop_of_length_le (by simp; omega), List.nil_append]

/-- A new row, of n + 1 elements that are these. -/
def InsGrown (w : World) (n : Nat) (ys : List Value) : Ending → World → Prop := fun e w' =>
  ∃ (G : Nat) (R : List Value), e = .returned (.slice (some ⟨w.heap.size, 0, none⟩) (n + 1) G) ∧ n + 1 ≤ G ∧ G ≤ maxLen ∧ R.length = G * 2 ∧ R.take ((n + 1) * 2) = ys ∧ w'.heap[w.heap.size]? = some (.cells R.toArray 149 (0, 0)) ∧ w.grownBy w' none

set_option maxHeartbeats 4000000 in
set_option maxRecDepth 100000 in
theorem insert_grow (g n i cap q : Nat) (cur it : List Value) (w : World) (hi : i < n) (hnc : n ≤ cap) (hroom : cap < n + 1) (hsmall : n ≤ 1000000) (hq : q < w.heap.size)
    (hcl : cur.length = cap * 2) (hil : it.length = 2) (hg : w.heap[g]? = some (.cells cur.toArray 149 (0, 0))) (hv : w.heap[q]? = some (.cells it.toArray 149 (0, 0)))
    (h1 : ∀ v ∈ cur.take (n * 2), v.oneCell' = true) (h2 : ∀ v ∈ it, v.oneCell' = true) :
    Calls Tryz.prog 126 #[.slice (some ⟨g, 0, none⟩) n cap, .int .i64 i, .slice (some ⟨q, 0, none⟩) 1 1] w (InsGrown w n (cur.take (i * 2) ++ (it ++ (cur.take (n * 2)).drop (i * 2)))) := by
  obtain ⟨i0, hi0, hz0, hzs, hzb⟩ := info_partsT infoEd
  have hgw : g < w.heap.size := (Array.getElem?_eq_some_iff.1 hg).1
  have hold : (Builtin.firstCells i0.size i (.slice (some ⟨g, 0, none⟩) i cap)).run Tryz.prog w.drew = .ok (cur.take (i * 2)).toArray w.drew := by
    rw [hzs]
    exact run_firstCells_some w.drew 2 i ⟨g, 0, none⟩ i cap (cur.take (i * 2)) (by rw [List.length_take]; omega) (fun j v hj => by
      rw [addAt]
      show w.cell? _ = _
      rw [cell_row hg, Nat.zero_add]
      rw [List.getElem?_take] at hj
      split at hj
      · exact hj
      · cases hj)
  have hik : i + (n + 1 - i) = n + 1 := by omega
  have hkk : (n : Int) + 1 - (i : Int) = ((n + 1 - i : Nat) : Int) := by omega
  obtain ⟨G, hG⟩ : ∃ G, G = grownCap w (n + 1) cap 149 := ⟨_, rfl⟩
  obtain ⟨Z1, hZ1⟩ : ∃ Z : List Value, Z = (Builtin.zeroCells (Value.agg #[.int .i64 0, .int .i64 0]).cells (n + 1 - i)).toList := ⟨_, rfl⟩
  obtain ⟨Z2, hZ2⟩ : ∃ Z : List Value, Z = (Builtin.zeroCells (Value.agg #[.int .i64 0, .int .i64 0]).cells (G - (n + 1))).toList := ⟨_, rfl⟩
  obtain ⟨R0, hR0⟩ : ∃ R : List Value, R = cur.take (i * 2) ++ (Z1 ++ Z2) := ⟨_, rfl⟩
  have hrz : ∀ ty, (Builtin.append_ #[115, 3] ty #[.slice (some ⟨g, 0, none⟩) i cap, .int .i64 ((n : Int) + 1 - (i : Int))]).run Tryz.prog w =
      .ok (.slice (some ⟨w.heap.size, 0, none⟩) (n + 1) G) (w.drew.alloc (.cells R0.toArray 149)) := fun ty => by
    have h := Lib.run_append_grow_zeros w 115 3 ty 149 i0 _ .i64 .i64 Tryz.underlying115 Tryz.underlying3 hi0 hz0 (some ⟨g, 0, none⟩) i cap (cur.take (i * 2)) hold (n + 1 - i) (by omega) (by omega) (by omega) (by omega) (by rw [hzb]; omega) (by rw [hzb, hik]; exact growslice_fits hroom (by omega))
    rw [hik, ← hG] at h
    rw [hkk, h, hR0, hZ1, hZ2]
    congr 3
    simp
  have hGn : n + 1 ≤ G := by rw [hG]; exact grownCap_ge w _ _ _
  have hGm : G ≤ maxLen := by
    rw [hG]
    exact grownCap_le_maxLen w (n + 1) cap 149 (by unfold maxLen; omega)
  have hz1 : Z1.length = (n + 1 - i) * 2 := by rw [hZ1]; simp [Builtin.zeroCells, Value.cells]
  have hz2 : Z2.length = (G - (n + 1)) * 2 := by rw [hZ2]; simp [Builtin.zeroCells, Value.cells]
  obtain ⟨W1, hW1⟩ : ∃ W1, W1 = w.drew.alloc (.cells R0.toArray 149) := ⟨_, rfl⟩
  have hW1' : W1 = (w.alloc (.cells R0.toArray 149)).drew := hW1
  rw [← hW1] at hrz
  have hn1 : W1.heap[w.heap.size]? = some (.cells R0.toArray 149 (0, 0)) := by rw [hW1]; exact blk_new w.drew _
  have hg1 : W1.heap[g]? = some (.cells cur.toArray 149 (0, 0)) := by rw [hW1]; exact blk_alloc (w := w.drew) hg _
  have hv1 : W1.heap[q]? = some (.cells it.toArray 149 (0, 0)) := by rw [hW1]; exact blk_alloc (w := w.drew) hv _
  have hR0l : R0.length = G * 2 := by rw [hR0]; simp only [List.length_append, List.length_take]; rw [hz1, hz2, hcl]; omega
  have hcpA : ∀ ty dc, (Builtin.copy_ #[115, 115] ty #[.slice (some ⟨w.heap.size, i * 2, none⟩) (n + 1 - i) dc, .slice (some ⟨q, 0, none⟩) 1 1]).run Tryz.prog W1 = .ok (goInt (Nat.min 1 (n + 1 - i))) (W1.setRow w.heap.size (splice R0 (i * 2) it).toArray) := fun ty dc =>
    run_copy_k W1 _ _ ty 149 2 w.heap.size (i * 2) (n + 1 - i) dc ⟨q, 0, none⟩ 1 1 R0 149 it Tryz.underlying115 sizeEd hn1 (by rw [hil]; simp only [Nat.min_def]; split <;> omega)
      (fun j v hj => by rw [addAt, cell_row hv1, Nat.zero_add]; exact hj)
      (by rw [hil, hR0l]; omega) h2
  obtain ⟨W2, hW2⟩ : ∃ W2, W2 = W1.setRow w.heap.size (splice R0 (i * 2) it).toArray := ⟨_, rfl⟩
  rw [← hW2] at hcpA
  have hn2 : W2.heap[w.heap.size]? = some (.cells (splice R0 (i * 2) it).toArray 149 (0, 0)) := setRow_heap' hW2 hn1
  have hg2 : W2.heap[g]? = some (.cells cur.toArray 149 (0, 0)) := (setRow_other' hW2 (by omega)).trans hg1
  obtain ⟨seg, hseg⟩ : ∃ seg, seg = (cur.take (n * 2)).drop (i * 2) := ⟨_, rfl⟩
  have hsl : seg.length = (n - i) * 2 := by rw [hseg, List.length_drop, List.length_take]; omega
  have hcpB : ∀ ty dc sc, (Builtin.copy_ #[115, 115] ty #[.slice (some ⟨w.heap.size, (i + 1) * 2, none⟩) (n - i) dc, .slice (some ⟨g, i * 2, none⟩) (n - i) sc]).run Tryz.prog W2.drew = .ok (goInt (Nat.min (n - i) (n - i))) (W2.drew.setRow w.heap.size (splice (splice R0 (i * 2) it) ((i + 1) * 2) seg).toArray) := fun ty dc sc =>
    run_copy_k W2.drew _ _ ty 149 2 w.heap.size ((i + 1) * 2) (n - i) dc ⟨g, i * 2, none⟩ (n - i) sc _ 149 seg Tryz.underlying115 sizeEd hn2 (by rw [hsl]; simp only [Nat.min_def]; split <;> omega)
      (fun j v hj => by
        rw [addAt]
        show W2.cell? _ = _
        rw [cell_row hg2]
        rw [hseg, List.getElem?_drop, List.getElem?_take] at hj
        split at hj
        · exact hj
        · cases hj)
      (by rw [hsl, length_splice _ _ _ (by rw [hil, hR0l]; omega), hR0l]; omega) (fun v hv' => h1 v (by rw [hseg] at hv'; exact List.mem_of_mem_drop hv'))
  obtain ⟨W3, hW3⟩ : ∃ W3, W3 = W2.drew.setRow w.heap.size (splice (splice R0 (i * 2) it) ((i + 1) * 2) seg).toArray := ⟨_, rfl⟩
  rw [← hW3] at hcpB
  have hn3 : W3.heap[w.heap.size]? = some (.cells (splice (splice R0 (i * 2) it) ((i + 1) * 2) seg).toArray 149 (0, 0)) := setRow_heap' (w := W2.drew) hW3 hn2
  have hgr : w.grownBy W3 none := by
    have s1 : W1.heap.size = w.heap.size + 1 := by rw [hW1]; simp
    have a := grown_setRow0 hW2
    have b := grown_setRow hW3
    refine ⟨b.os.trans (a.os.trans (by rw [hW1]; rfl)), b.tape.trans (a.tape.trans (by rw [hW1]; rfl)), b.output.trans (a.output.trans (by rw [hW1]; rfl)), by have := a.size; have := b.size; omega, fun k hk _ => ?_⟩
    rw [b.block k (by have := a.size; omega) (by simp; omega), a.block k (by omega) (by simp; omega), hW1]
    exact Below.heap_alloc w.drew _ k hk
  have hlen : (splice (splice R0 (i * 2) it) ((i + 1) * 2) seg).length = G * 2 := by
    rw [length_splice _ _ _ (by rw [hsl, length_splice _ _ _ (by rw [hil, hR0l]; omega), hR0l]; omega), length_splice _ _ _ (by rw [hil, hR0l]; omega), hR0l]
  have htake : (splice (splice R0 (i * 2) it) ((i + 1) * 2) seg).take ((n + 1) * 2) = cur.take (i * 2) ++ (it ++ seg) := by
    have l0 : (cur.take (i * 2)).length = i * 2 := by rw [List.length_take]; omega
    have e0 : R0 = cur.take (i * 2) ++ (Z1.take 2 ++ (Z1.drop 2 ++ Z2)) := by rw [hR0, ← List.append_assoc (Z1.take 2), List.take_append_drop]
    have e1 : splice R0 (i * 2) it = cur.take (i * 2) ++ (it ++ (Z1.drop 2 ++ Z2)) := by
      rw [e0]
      have := splice_at (cur.take (i * 2)) (Z1.take 2) it (Z1.drop 2 ++ Z2) (by rw [List.length_take, hz1, hil]; omega)
      rwa [l0] at this
    have l1 : (cur.take (i * 2) ++ it).length = (i + 1) * 2 := by rw [List.length_append, l0, hil]; omega
    have e2 : splice (splice R0 (i * 2) it) ((i + 1) * 2) seg = cur.take (i * 2) ++ it ++ (seg ++ Z2) := by
      rw [e1, ← List.append_assoc]
      have := splice_at (cur.take (i * 2) ++ it) (Z1.drop 2) seg Z2 (by rw [List.length_drop, hz1, hsl]; omega)
      rwa [l1] at this
    rw [e2, ← List.append_assoc, List.take_left' (by rw [List.length_append, l1, hsl]; omega), List.append_assoc]
  rw [← hseg]
  have hw1 : IntKind.i64.wrap ((i : Int) + 1) = (i : Int) + 1 := by rw [IntKind.wrap_i64]; omega
  have hb1 : (0 : Int) ≤ (i : Int) + 1 := by omega
  have hin : i ≤ n := by omega
  have htn : ((i : Int) + 1).toNat = i + 1 := by omega
  have hb3 : (i : Int) ≤ (n : Int) := by omega
  have hGi : ¬ (G = i) := by omega
  have hGim : ¬ (G = i + 1) := by omega
  have hci : ¬ (cap = i) := by omega
  have hz2 : ¬ ((i : Int) = (n : Int)) := by omega
  have hz3 : (cap : Int) < (n : Int) + 1 := by omega
  have hG63 := hGm
  unfold maxLen at hG63
  have HN := Lib.hid hn3
  have HT := Lib.hid htake
  have HL := Lib.hid hlen
  clear hn3 htake hlen hn1 hn2 hg1 hv1 hg2 hg hv hcl hil hsl hW1 hW1' hW2 hW3 hseg hz1 hR0 hZ1 hZ2 hG hkk hik hold hi0 hz0 hzs hzb hR0l
  go_enter Tryz.func126, Tryz.ntmps126
  go_wp2_with (first
    | (at_builtin; refine wpList_append_eqn rfl _ _ 115 3 rfl rfl rfl (hrz _) ?_)
    | (refine wpList_copy_eqn rfl _ _ 115 115 rfl rfl rfl (hcpA _ _) ?_))
  go_region_law (refine step_copy_eqn rfl _ _ 115 115 rfl (v := .slice (some ⟨w.heap.size, (i + 1) * 2, none⟩) (n - i) (G - (i + 1))) (u := .slice (some ⟨g, i * 2, none⟩) (n - i) (cap - i)) (by simp [Act.eval, Act.put]) (by simp [Act.eval, Act.put]) (hcpB _ _ _) ?_)
  go_wp2
  go_returns
  exact ⟨G, _, rfl, hGn, hGm, HL.out, HT.out, HN.out, hgr⟩

/-- A row of the caller's own with one element more. -/
def InsPost (base : Nat) (w : World) (sv : Value) (n : Nat) (ys : List Value) : Ending → World → Prop := fun e w' =>
  ∃ v', e = .returned v' ∧ w'.ownsRow base 149 2 v' (n + 1) ys ∧ w.grownBy w' sv.ownBlock

set_option maxRecDepth 100000 in
set_option maxHeartbeats 2000000 in
theorem insert_end (base : Nat) (x : Option Addr) (cap n q : Nat) (xs it : List Value) (w : World) (hown : w.ownsRow base 149 2 (.slice x n cap) n xs) (hbase : base ≤ w.heap.size) (hsmall : n ≤ 1000000)
    (hv : w.heap[q]? = some (.cells it.toArray 149 (0, 0))) (hil : it.length = 2) (h2 : ∀ v ∈ it, v.oneCell' = true) :
    Calls Tryz.prog 126 #[.slice x n cap, .int .i64 n, .slice (some ⟨q, 0, none⟩) 1 1] w (InsPost base w (.slice x n cap) n (xs ++ it)) := by
  obtain ⟨i0, hi, hz0, hz1, hz2⟩ := info_partsT infoEd
  have HI0 := Lib.hid hi
  have HZ0 := Lib.hid hz0
  have HZ1 := Lib.hid hz1
  have HZ2 := Lib.hid hz2
  have HV := Lib.hid hv
  have HL := Lib.hid hil
  have hcap : n ≤ cap := by
    rcases hown.2 with ⟨e, rfl⟩ | ⟨g, c, cur, e, _, _, hc, _⟩
    · exact Nat.zero_le _
    · simp only [Value.slice.injEq] at e; omega
  have hx : x = none → cap = 0 := fun e => by
    subst e
    rcases hown.2 with ⟨e, rfl⟩ | ⟨g, c, cur, e, _, _, hc, _⟩
    · simp only [Value.slice.injEq] at e; exact e.2.2
    · simp at e
  clear hi hz0 hz1 hz2 hv hil
  go_enter Tryz.func126, Tryz.ntmps126
  go_wp2_with (at_builtin; refine wpList_append_own _ rfl _ _ 115 rfl base 149 i0 (.agg #[.int .i64 0, .int .i64 0]) 2 16 Tryz.underlying115 HI0.out HZ0.out HZ1.out HZ2.out rfl (by decide) _ _ _ rfl hown ⟨q, 0, none⟩ 1 1 it rfl HL.out (fun j v hj => by rw [addAt, cell_row HV.out, Nat.zero_add]; exact hj) h2 (by unfold maxLen; omega) (by omega) hbase ?_; intro v' w4 hown' hgrow _)
  all_goals
    have hg' : w.grownBy w4 (Value.slice x n cap).ownBlock := hgrow
    clear hgrow
    go_returns
    exact ⟨v', rfl, hown', by cases x <;> exact hg'⟩

theorem splice_take {α : Type} (cur it : List α) (n i : Nat) (hi : i < n) (hc : (n + 1) * 2 ≤ cur.length) (hil : it.length = 2) :
    (splice (splice cur ((i + 1) * 2) ((cur.take (n * 2)).drop (i * 2))) (i * 2) it).take ((n + 1) * 2) = (cur.take (n * 2)).take (i * 2) ++ (it ++ (cur.take (n * 2)).drop (i * 2)) := by
  obtain ⟨A, hA⟩ : ∃ A, A = cur.take (i * 2) := ⟨_, rfl⟩
  obtain ⟨S, hS⟩ : ∃ S, S = (cur.take (n * 2)).drop (i * 2) := ⟨_, rfl⟩
  have hAl : A.length = i * 2 := by rw [hA, List.length_take]; omega
  have hSl : S.length = (n - i) * 2 := by rw [hS, List.length_drop, List.length_take]; omega
  have e1 : (cur.take (n * 2)).take (i * 2) = A := by rw [List.take_take, hA]; congr 1; omega
  rw [e1, ← hS]
  have d1 : cur = A ++ (cur.drop (i * 2)) := by rw [hA, List.take_append_drop]
  obtain ⟨B, hB⟩ : ∃ B, B = cur.drop (i * 2) := ⟨_, rfl⟩
  rw [← hB] at d1
  have hBl : B.length = cur.length - i * 2 := by rw [hB, List.length_drop]
  have dB : B = B.take 2 ++ ((B.drop 2).take ((n - i) * 2) ++ (B.drop 2).drop ((n - i) * 2)) := by rw [List.take_append_drop, List.take_append_drop]
  have s1 : splice cur ((i + 1) * 2) S = (A ++ B.take 2) ++ (S ++ (B.drop 2).drop ((n - i) * 2)) := by
    have l1 : (A ++ B.take 2).length = (i + 1) * 2 := by rw [List.length_append, hAl, List.length_take, hBl]; omega
    have := splice_at (A ++ B.take 2) ((B.drop 2).take ((n - i) * 2)) S ((B.drop 2).drop ((n - i) * 2)) (by rw [List.length_take, List.length_drop, hBl, hSl]; omega)
    rw [l1, List.append_assoc A, ← dB, ← d1] at this
    exact this
  have s2 : splice (splice cur ((i + 1) * 2) S) (i * 2) it = A ++ (it ++ (S ++ (B.drop 2).drop ((n - i) * 2))) := by
    rw [s1, List.append_assoc]
    have := splice_at A (B.take 2) it (S ++ (B.drop 2).drop ((n - i) * 2)) (by rw [List.length_take, hBl, hil]; omega)
    rwa [hAl] at this
  rw [s2, ← List.append_assoc it, ← List.append_assoc A, List.take_left' (by rw [List.length_append, List.length_append, hAl, hil, hSl]; omega)]

theorem insert_c (base : Nat) (x : Option Addr) (cap n i q : Nat) (xs it : List Value) (w : World) (hown : w.ownsRow base 149 2 (.slice x n cap) n xs) (hbase : base ≤ w.heap.size) (hsmall : n ≤ 1000000) (hin : i ≤ n)
    (hv : w.heap[q]? = some (.cells it.toArray 149 (0, 0))) (hq : (Value.slice x n cap).ownBlock ≠ some q) (hil : it.length = 2) (h1 : ∀ v ∈ xs, v.oneCell' = true) (h2 : ∀ v ∈ it, v.oneCell' = true) :
    Calls Tryz.prog 126 #[.slice x n cap, .int .i64 i, .slice (some ⟨q, 0, none⟩) 1 1] w (InsPost base w (.slice x n cap) n (xs.take (i * 2) ++ (it ++ xs.drop (i * 2)))) := by
  have hxl := hown.1
  rcases Nat.lt_or_ge i n with hi | hi
  · have hown0 := hown
    rcases hown.2 with ⟨e, rfl⟩ | ⟨g, c, cur, e, hbg, hg, hnc, hcm, hcs, htk⟩
    · omega
    · simp only [Value.slice.injEq] at e
      obtain ⟨rfl, _, rfl⟩ := e
      have hqg : q ≠ g := fun e => hq (by rw [e]; rfl)
      have hg' : w.heap[g]? = some (.cells cur.toList.toArray 149 (0, 0)) := by simpa using hg
      have hcl : cur.toList.length = cap * 2 := by simpa using hcs
      subst htk
      rcases Nat.lt_or_ge cap (n + 1) with hr | hr
      · refine (insert_grow g n i cap q cur.toList it w hi hnc hr hsmall (Array.getElem?_eq_some_iff.1 hv).1 hcl hil hg' hv h1 h2).mono ?_
        rintro e w' ⟨G, R, rfl, g1, g2, g3, g4, g5, g6⟩
        have e0 : (cur.toList.take (n * 2)).take (i * 2) = cur.toList.take (i * 2) := by rw [List.take_take]; congr 1; omega
        refine ⟨_, rfl, ⟨?_, .inr ⟨w.heap.size, G, R.toArray, rfl, hbase, g5, g1, g2, by simpa using g3, ?_⟩⟩, ⟨g6.os, g6.tape, g6.output, g6.size, fun k hk _ => g6.block k hk (by simp)⟩⟩
        · rw [e0, ← g4, List.length_take, g3]
          have := Nat.mul_le_mul_right 2 g1
          omega
        · rw [e0]
          exact g4
      · refine (insert_shift g n i cap q cur.toList it w hi hr hcm hqg hcl hil hg' hv h1 h2).mono ?_
        rintro e w' ⟨rfl, g1, g2⟩
        have hs := splice_take cur.toList it n i hi (by rw [hcl]; omega) hil
        have hl2 : (splice (splice cur.toList ((i + 1) * 2) ((cur.toList.take (n * 2)).drop (i * 2))) (i * 2) it).length = cap * 2 := by
          have a : ((cur.toList.take (n * 2)).drop (i * 2)).length = (n - i) * 2 := by rw [List.length_drop, List.length_take]; omega
          rw [length_splice _ _ _ (by rw [hil, length_splice _ _ _ (by rw [a]; omega)]; omega), length_splice _ _ _ (by rw [a]; omega), hcl]
        refine ⟨_, rfl, ⟨?_, .inr ⟨g, cap, _, rfl, hbg, g1, hr, hcm, by simpa using hl2, ?_⟩⟩, g2⟩
        · rw [← hs, List.length_take, hl2]
          omega
        · exact hs
  · obtain rfl : i = n := by omega
    have e : xs.take (i * 2) ++ (it ++ xs.drop (i * 2)) = xs ++ it := by
      rw [List.take_of_length_le (by omega), List.drop_of_length_le (by omega), List.append_nil]
    rw [e]
    exact insert_end base x cap i q xs it w hown hbase hsmall hv hil h2
end Go.Proofs.YtohcebiepekbeaaGreatDoor
