/- slices.Insert of one pointer into a row of the caller's own: in place, at the end, into a new row. -/
import Derived.Test.YtfcmcelhndppnaaDoorCopyK
import Derived.Test.YtfcmcelhndppnaaDoorTab
import Derived.Test.YtfcmcelhndppnaaDoorPtrs
import Derived.Deep.RegionLaw
import Derived.Lib.Overlaps
import Derived.Lib.AppendZerosOnto
import Derived.Laws.AppendOwn
import Derived.Laws.Externs
import Derived.IntWalk
namespace Go.Proofs.YtfcmcelhndppnaaDoor
open Go.ChangeShapes Go.WideShapes Go.ChangeAt Go.RowKit
set_option linter.unusedVariables false
set_option linter.unusedSimpArgs false

theorem run_copy_1 {P : Program} (w : World) (dT sT ty elem : TypeId) (g o dLen dCap : Nat) (a : Addr) (sLen sCap : Nat) (cur : List Value) (t : TypeId) (cs : List Value)
    (hu : P.underlying dT = some (.slice elem)) (hs : (P.info? elem).map (·.size) = some 1)
    (hg : w.heap[g]? = some (.cells cur.toArray t (0, 0))) (hn : cs.length = Nat.min sLen dLen)
    (hsrc : ∀ j v, cs[j]? = some v → w.cell? (a.add j) = some v) (hfit : o + cs.length ≤ cur.length) (h1 : ∀ v ∈ cs, v.oneCell' = true) :
    (Builtin.copy_ #[dT, sT] ty #[.slice (some ⟨g, o, none⟩) dLen dCap, .slice (some a) sLen sCap]).run P w =
      .ok (goInt (Nat.min sLen dLen)) (w.setRow g (splice cur o cs).toArray) :=
  run_copy_k w dT sT ty elem 1 g o dLen dCap a sLen sCap cur t cs hu hs hg (by rw [hn, Nat.mul_one]) hsrc hfit h1
theorem sizePt : (Tryd.prog.info? 62).map (·.size) = some 1 := by kernel_rfl
theorem sizeOfPt : ∀ w, (Go.sizeOf 62).run Tryd.prog w = .ok 1 w := by
  intro w
  cases hi : Tryd.prog.info? 62 with
  | none => have := sizePt; rw [hi] at this; cases this
  | some i =>
    have := sizePt
    rw [hi] at this
    simp at this
    simp [Go.sizeOf, typeInfo, hi, this]
theorem addAtP (b o j : Nat) : (⟨b, o, none⟩ : Addr).add j = ⟨b, o + j, none⟩ := by unfold Addr.add; split <;> simp_all
theorem cell_rowP {w : World} {g : Nat} {cur : List Value} {t : TypeId} {f : Nat × Nat} (h : w.heap[g]? = some (.cells cur.toArray t f)) (j : Nat) : w.cell? ⟨g, j, none⟩ = cur[j]? := by
  simp [World.cell?, h]

theorem grown_setRowP {w w' : World} {g : Nat} {cs : Array Value} (h : w' = w.drew.setRow g cs) : w.grownBy w' (some g) := by
  subst h
  exact ⟨rfl, rfl, rfl, by simp [World.setRow], fun k hk hne => setRow_other _ g k cs (fun e => hne (by rw [e]))⟩
theorem grown_setRow0P {w w' : World} {g : Nat} {cs : Array Value} (h : w' = w.setRow g cs) : w.grownBy w' (some g) := by
  subst h
  exact ⟨rfl, rfl, rfl, by simp [World.setRow], fun k hk hne => setRow_other _ g k cs (fun e => hne (by rw [e]))⟩
theorem splice_memP {α : Type} {L cs : List α} {o : Nat} {v : α} (h : v ∈ splice L o cs) : v ∈ L ∨ v ∈ cs := by
  simp only [splice, List.mem_append] at h
  rcases h with h | h | h
  · exact .inl (List.mem_of_mem_take h)
  · exact .inr h
  · exact .inl (List.mem_of_mem_drop h)

set_option maxHeartbeats 4000000 in
set_option maxRecDepth 100000 in
theorem insert_shiftP (g n i cap q : Nat) (cur it : List Value) (w : World) (hi : i < n) (hroom : n + 1 ≤ cap) (hcap : cap ≤ maxLen) (hq : q ≠ g)
    (hcl : cur.length = cap) (hil : it.length = 1) (hg : w.heap[g]? = some (.cells cur.toArray 62 (0, 0))) (hv : w.heap[q]? = some (.cells it.toArray 62 (0, 0)))
    (h1 : ∀ v ∈ cur.take (n), v.oneCell' = true) (h2 : ∀ v ∈ it, v.oneCell' = true) :
    Calls Tryd.prog 58 #[.slice (some ⟨g, 0, none⟩) n cap, .int .i64 i, .slice (some ⟨q, 0, none⟩) 1 1] w fun e w' =>
      e = .returned (.slice (some ⟨g, 0, none⟩) (n + 1) cap) ∧ w'.heap[g]? = some (.cells (splice (splice cur ((i + 1)) ((cur.take (n)).drop (i))) (i) it).toArray 62 (0, 0)) ∧ w.grownBy w' (some g) := by
  unfold maxLen at hcap
  have hov : ∀ lb cb, (callFunc 66 #[.slice (some ⟨q, 0, none⟩) 1 1, .slice (some ⟨g, (i + 1), none⟩) lb cb]).run Tryd.prog w = .ok (.value (.bool false)) w := fun lb cb => by
    rw [run_callFunc_extern Tryd.func66 (by kernel_rfl) (by kernel_rfl) (by kernel_rfl) (e := Extern.SlicesOverlaps.overlaps #[49, 49] #[4]) (by kernel_rfl),
      Lib.run_overlaps_apart w 49 4 62 Tryd.underlying49 1 sizeOfPt ⟨q, 0, none⟩ ⟨g, (i + 1), none⟩ 1 1 lb cb hq 62 62 1 cap (by simp [World.shape?, hv, hil]) (by simp [World.shape?, hg, hcl]) (by omega) (by simp [World.frozen?, hv]) (by simp [World.frozen?, hv])]
    rfl
  obtain ⟨seg, hseg⟩ : ∃ seg, seg = (cur.take (n)).drop (i) := ⟨_, rfl⟩
  have hsl : seg.length = (n - i) := by rw [hseg, List.length_drop, List.length_take]; omega
  have hcp1 : ∀ ty dc sc, (Builtin.copy_ #[49, 49] ty #[.slice (some ⟨g, (i + 1), none⟩) (n - i) dc, .slice (some ⟨g, i, none⟩) (n + 1 - i) sc]).run Tryd.prog w.drew = .ok (goInt (Nat.min (n + 1 - i) (n - i))) (w.drew.setRow g (splice cur ((i + 1)) seg).toArray) := fun ty dc sc =>
    run_copy_1 w.drew _ _ ty 62 g ((i + 1)) (n - i) dc ⟨g, i, none⟩ (n + 1 - i) sc cur 62 seg Tryd.underlying49 sizePt hg (by rw [hsl]; simp only [Nat.min_def]; split <;> omega)
      (fun j v hj => by
        rw [addAtP]
        show w.cell? _ = _
        rw [cell_rowP hg]
        rw [hseg, List.getElem?_drop, List.getElem?_take] at hj
        split at hj
        · exact hj
        · cases hj)
      (by rw [hsl, hcl]; omega) (fun v hv' => h1 v (by rw [hseg] at hv'; exact List.mem_of_mem_drop hv'))
  obtain ⟨W1, hW1⟩ : ∃ W1, W1 = w.drew.setRow g (splice cur ((i + 1)) seg).toArray := ⟨_, rfl⟩
  have hg1 : W1.heap[g]? = some (.cells (splice cur ((i + 1)) seg).toArray 62 (0, 0)) := setRow_heap' hW1 hg
  have hv1 : W1.heap[q]? = some (.cells it.toArray 62 (0, 0)) := (setRow_other' hW1 hq).trans hv
  have hcp2 : ∀ ty dc, (Builtin.copy_ #[49, 49] ty #[.slice (some ⟨g, i, none⟩) (n + 1 - i) dc, .slice (some ⟨q, 0, none⟩) 1 1]).run Tryd.prog W1 = .ok (goInt (Nat.min 1 (n + 1 - i))) (W1.setRow g (splice (splice cur ((i + 1)) seg) (i) it).toArray) := fun ty dc =>
    run_copy_1 W1 _ _ ty 62 g (i) (n + 1 - i) dc ⟨q, 0, none⟩ 1 1 _ 62 it Tryd.underlying49 sizePt hg1 (by rw [hil]; simp only [Nat.min_def]; split <;> omega)
      (fun j v hj => by rw [addAtP, cell_rowP hv1, Nat.zero_add]; exact hj)
      (by rw [hil, length_splice _ _ _ (by rw [hsl, hcl]; omega), hcl]; omega) h2
  rw [← hW1] at hcp1
  obtain ⟨W2, hW2⟩ : ∃ W2, W2 = W1.setRow g (splice (splice cur ((i + 1)) seg) (i) it).toArray := ⟨_, rfl⟩
  rw [← hW2] at hcp2
  have hg2 : W2.heap[g]? = some (.cells (splice (splice cur ((i + 1)) seg) (i) it).toArray 62 (0, 0)) := setRow_heap' hW2 hg1
  have hgr : w.grownBy W2 (some g) := by
    have a := grown_setRowP hW1
    have b := grown_setRow0P hW2
    exact ⟨b.os.trans a.os, b.tape.trans a.tape, b.output.trans a.output, Nat.le_trans a.size b.size, fun k hk hne => (b.block k (Nat.lt_of_lt_of_le hk a.size) hne).trans (a.block k hk hne)⟩
  rw [← hseg]
  have hw1 : IntKind.i64.wrap ((i : Int) + 1) = (i : Int) + 1 := by rw [IntKind.wrap_i64]; omega
  have hb1 : (0 : Int) ≤ (i : Int) + 1 := by omega
  have hin : i ≤ n := by omega
  have htn : ((i : Int) + 1).toNat = i + 1 := by omega
  have hb2 : ¬ (cap = i + 1) := by omega
  have hb3 : (i : Int) ≤ (n : Int) + 1 := by omega
  have hb4 : ¬ (cap = i) := by omega
  have hz2 : ¬ ((i : Int) = (n : Int)) := by omega
  have HG := Lib.hid hg2
  clear hg2 hg1 hv1 hg hv hcl hil hsl hW1 hW2 hseg
  go_enter Tryd.func58, Tryd.ntmps58
  go_wp2_with (simp only [hov])
  go_region_law (refine step_copy_eqn rfl _ _ 49 49 rfl (by simp [Act.eval, Act.put]) (by simp [Act.eval, Act.put]) (hcp1 _ _ _) ?_)
  go_wp2_with (at_builtin; refine wpList_copy_eqn rfl _ _ 49 49 rfl rfl rfl (hcp2 _ _) ?_)
  go_returns
  exact ⟨rfl, HG.out, hgr⟩

theorem splice_atP {α : Type} (A B C D : List α) (h : B.length = C.length) : splice (A ++ (B ++ D)) A.length C = A ++ (C ++ D) := by
  unfold splice
  rw [List.take_left' rfl, ← List.append_assoc A B D, List.drop_append_of_le_length (by simp; omega), List.drop_of_length_le (by simp; omega), List.nil_append]

/-- A new row, of n + 1 elements that are these. -/
def InsGrownP (w : World) (n : Nat) (ys : List Value) : Ending → World → Prop := fun e w' =>
  ∃ (G : Nat) (R : List Value), e = .returned (.slice (some ⟨w.heap.size, 0, none⟩) (n + 1) G) ∧ n + 1 ≤ G ∧ G ≤ maxLen ∧ R.length = G ∧ R.take ((n + 1)) = ys ∧ w'.heap[w.heap.size]? = some (.cells R.toArray 62 (0, 0)) ∧ w.grownBy w' none

set_option maxHeartbeats 4000000 in
set_option maxRecDepth 100000 in
theorem insert_growP (g n i cap q : Nat) (cur it : List Value) (w : World) (hi : i < n) (hnc : n ≤ cap) (hroom : cap < n + 1) (hsmall : n ≤ 1000000) (hq : q < w.heap.size)
    (hcl : cur.length = cap) (hil : it.length = 1) (hg : w.heap[g]? = some (.cells cur.toArray 62 (0, 0))) (hv : w.heap[q]? = some (.cells it.toArray 62 (0, 0)))
    (h1 : ∀ v ∈ cur.take (n), v.oneCell' = true) (h2 : ∀ v ∈ it, v.oneCell' = true) :
    Calls Tryd.prog 58 #[.slice (some ⟨g, 0, none⟩) n cap, .int .i64 i, .slice (some ⟨q, 0, none⟩) 1 1] w (InsGrownP w n (cur.take (i) ++ (it ++ (cur.take (n)).drop (i)))) := by
  obtain ⟨i0, hi0, hz0, hzs, hzb⟩ := info_partsT infoPtr
  have hgw : g < w.heap.size := (Array.getElem?_eq_some_iff.1 hg).1
  have hold : (Builtin.firstCells i0.size i (.slice (some ⟨g, 0, none⟩) i cap)).run Tryd.prog w.drew = .ok (cur.take (i)).toArray w.drew := by
    rw [hzs]
    exact run_firstCells_some w.drew 1 i ⟨g, 0, none⟩ i cap (cur.take (i)) (by rw [List.length_take]; omega) (fun j v hj => by
      rw [addAtP]
      show w.cell? _ = _
      rw [cell_rowP hg, Nat.zero_add]
      rw [List.getElem?_take] at hj
      split at hj
      · exact hj
      · cases hj)
  have hik : i + (n + 1 - i) = n + 1 := by omega
  have hkk : (n : Int) + 1 - (i : Int) = ((n + 1 - i : Nat) : Int) := by omega
  obtain ⟨G, hG⟩ : ∃ G, G = grownCap w (n + 1) cap 62 := ⟨_, rfl⟩
  obtain ⟨Z1, hZ1⟩ : ∃ Z : List Value, Z = (Builtin.zeroCells (Value.pointer none).cells (n + 1 - i)).toList := ⟨_, rfl⟩
  obtain ⟨Z2, hZ2⟩ : ∃ Z : List Value, Z = (Builtin.zeroCells (Value.pointer none).cells (G - (n + 1))).toList := ⟨_, rfl⟩
  obtain ⟨R0, hR0⟩ : ∃ R : List Value, R = cur.take (i) ++ (Z1 ++ Z2) := ⟨_, rfl⟩
  have hrz : ∀ ty, (Builtin.append_ #[49, 3] ty #[.slice (some ⟨g, 0, none⟩) i cap, .int .i64 ((n : Int) + 1 - (i : Int))]).run Tryd.prog w =
      .ok (.slice (some ⟨w.heap.size, 0, none⟩) (n + 1) G) (w.drew.alloc (.cells R0.toArray 62)) := fun ty => by
    have h := Lib.run_append_grow_zeros w 49 3 ty 62 i0 _ .i64 .i64 Tryd.underlying49 Tryd.underlying3 hi0 hz0 (some ⟨g, 0, none⟩) i cap (cur.take (i)) hold (n + 1 - i) (by omega) (by omega) (by omega) (by omega) (by rw [hzb]; omega) (by rw [hzb, hik]; exact growslice_fits hroom (by omega))
    rw [hik, ← hG] at h
    rw [hkk, h, hR0, hZ1, hZ2]
    congr 3
    simp
  have hGn : n + 1 ≤ G := by rw [hG]; exact grownCap_ge w _ _ _
  have hGm : G ≤ maxLen := by
    rw [hG]
    exact grownCap_le_maxLen w (n + 1) cap 62 (by unfold maxLen; omega)
  have hz1 : Z1.length = (n + 1 - i) := by rw [hZ1]; simp [Builtin.zeroCells, Value.cells]
  have hz2 : Z2.length = (G - (n + 1)) := by rw [hZ2]; simp [Builtin.zeroCells, Value.cells]
  obtain ⟨W1, hW1⟩ : ∃ W1, W1 = w.drew.alloc (.cells R0.toArray 62) := ⟨_, rfl⟩
  have hW1' : W1 = (w.alloc (.cells R0.toArray 62)).drew := hW1
  rw [← hW1] at hrz
  have hn1 : W1.heap[w.heap.size]? = some (.cells R0.toArray 62 (0, 0)) := by rw [hW1]; exact blk_new w.drew _
  have hg1 : W1.heap[g]? = some (.cells cur.toArray 62 (0, 0)) := by rw [hW1]; exact blk_alloc (w := w.drew) hg _
  have hv1 : W1.heap[q]? = some (.cells it.toArray 62 (0, 0)) := by rw [hW1]; exact blk_alloc (w := w.drew) hv _
  have hR0l : R0.length = G := by rw [hR0]; simp only [List.length_append, List.length_take]; rw [hz1, hz2, hcl]; omega
  have hcpA : ∀ ty dc, (Builtin.copy_ #[49, 49] ty #[.slice (some ⟨w.heap.size, i, none⟩) (n + 1 - i) dc, .slice (some ⟨q, 0, none⟩) 1 1]).run Tryd.prog W1 = .ok (goInt (Nat.min 1 (n + 1 - i))) (W1.setRow w.heap.size (splice R0 (i) it).toArray) := fun ty dc =>
    run_copy_1 W1 _ _ ty 62 w.heap.size (i) (n + 1 - i) dc ⟨q, 0, none⟩ 1 1 R0 62 it Tryd.underlying49 sizePt hn1 (by rw [hil]; simp only [Nat.min_def]; split <;> omega)
      (fun j v hj => by rw [addAtP, cell_rowP hv1, Nat.zero_add]; exact hj)
      (by rw [hil, hR0l]; omega) h2
  obtain ⟨W2, hW2⟩ : ∃ W2, W2 = W1.setRow w.heap.size (splice R0 (i) it).toArray := ⟨_, rfl⟩
  rw [← hW2] at hcpA
  have hn2 : W2.heap[w.heap.size]? = some (.cells (splice R0 (i) it).toArray 62 (0, 0)) := setRow_heap' hW2 hn1
  have hg2 : W2.heap[g]? = some (.cells cur.toArray 62 (0, 0)) := (setRow_other' hW2 (by omega)).trans hg1
  obtain ⟨seg, hseg⟩ : ∃ seg, seg = (cur.take (n)).drop (i) := ⟨_, rfl⟩
  have hsl : seg.length = (n - i) := by rw [hseg, List.length_drop, List.length_take]; omega
  have hcpB : ∀ ty dc sc, (Builtin.copy_ #[49, 49] ty #[.slice (some ⟨w.heap.size, (i + 1), none⟩) (n - i) dc, .slice (some ⟨g, i, none⟩) (n - i) sc]).run Tryd.prog W2.drew = .ok (goInt (Nat.min (n - i) (n - i))) (W2.drew.setRow w.heap.size (splice (splice R0 (i) it) ((i + 1)) seg).toArray) := fun ty dc sc =>
    run_copy_1 W2.drew _ _ ty 62 w.heap.size ((i + 1)) (n - i) dc ⟨g, i, none⟩ (n - i) sc _ 62 seg Tryd.underlying49 sizePt hn2 (by rw [hsl]; simp only [Nat.min_def]; split <;> omega)
      (fun j v hj => by
        rw [addAtP]
        show W2.cell? _ = _
        rw [cell_rowP hg2]
        rw [hseg, List.getElem?_drop, List.getElem?_take] at hj
        split at hj
        · exact hj
        · cases hj)
      (by rw [hsl, length_splice _ _ _ (by rw [hil, hR0l]; omega), hR0l]; omega) (fun v hv' => h1 v (by rw [hseg] at hv'; exact List.mem_of_mem_drop hv'))
  obtain ⟨W3, hW3⟩ : ∃ W3, W3 = W2.drew.setRow w.heap.size (splice (splice R0 (i) it) ((i + 1)) seg).toArray := ⟨_, rfl⟩
  rw [← hW3] at hcpB
  have hn3 : W3.heap[w.heap.size]? = some (.cells (splice (splice R0 (i) it) ((i + 1)) seg).toArray 62 (0, 0)) := setRow_heap' (w := W2.drew) hW3 hn2
  have hgr : w.grownBy W3 none := by
    have s1 : W1.heap.size = w.heap.size + 1 := by rw [hW1]; simp
    have a := grown_setRow0P hW2
    have b := grown_setRowP hW3
    refine ⟨b.os.trans (a.os.trans (by rw [hW1]; rfl)), b.tape.trans (a.tape.trans (by rw [hW1]; rfl)), b.output.trans (a.output.trans (by rw [hW1]; rfl)), by have := a.size; have := b.size; omega, fun k hk _ => ?_⟩
    rw [b.block k (by have := a.size; omega) (by simp; omega), a.block k (by omega) (by simp; omega), hW1]
    exact Below.heap_alloc w.drew _ k hk
  have hlen : (splice (splice R0 (i) it) ((i + 1)) seg).length = G := by
    rw [length_splice _ _ _ (by rw [hsl, length_splice _ _ _ (by rw [hil, hR0l]; omega), hR0l]; omega), length_splice _ _ _ (by rw [hil, hR0l]; omega), hR0l]
  have htake : (splice (splice R0 (i) it) ((i + 1)) seg).take ((n + 1)) = cur.take (i) ++ (it ++ seg) := by
    have l0 : (cur.take (i)).length = i := by rw [List.length_take]; omega
    have e0 : R0 = cur.take (i) ++ (Z1.take 1 ++ (Z1.drop 1 ++ Z2)) := by rw [hR0, ← List.append_assoc (Z1.take 1), List.take_append_drop]
    have e1 : splice R0 (i) it = cur.take (i) ++ (it ++ (Z1.drop 1 ++ Z2)) := by
      rw [e0]
      have := splice_atP (cur.take (i)) (Z1.take 1) it (Z1.drop 1 ++ Z2) (by rw [List.length_take, hz1, hil]; omega)
      rwa [l0] at this
    have l1 : (cur.take (i) ++ it).length = (i + 1) := by rw [List.length_append, l0, hil]
    have e2 : splice (splice R0 (i) it) ((i + 1)) seg = cur.take (i) ++ it ++ (seg ++ Z2) := by
      rw [e1, ← List.append_assoc]
      have := splice_atP (cur.take (i) ++ it) (Z1.drop 1) seg Z2 (by rw [List.length_drop, hz1, hsl]; omega)
      rwa [l1] at this
    rw [e2, ← List.append_assoc, List.take_left' (by rw [List.length_append, l1, hsl]; omega), List.append_assoc]
  rw [← hseg]
  have hw1 : IntKind.i64.wrap ((i : Int) + 1) = (i : Int) + 1 := by rw [IntKind.wrap_i64]; omega
  have hb1 : (0 : Int) ≤ (i : Int) + 1 := by omega
  have hin : i ≤ n := by omega
  have htn : ((i : Int) + 1).toNat = i + 1 := by omega
  have hb3 : (i : Int) ≤ (n : Int) := by omega
  have hGi : ¬ (G = i) := by omega
  have hGim : ¬ (G = i + 1) := by omega
  have hci : ¬ (cap = i) := by omega
  have hz2 : ¬ ((i : Int) = (n : Int)) := by omega
  have hz3 : (cap : Int) < (n : Int) + 1 := by omega
  have hG63 := hGm
  unfold maxLen at hG63
  have HN := Lib.hid hn3
  have HT := Lib.hid htake
  have HL := Lib.hid hlen
  clear hn3 htake hlen hn1 hn2 hg1 hv1 hg2 hg hv hcl hil hsl hW1 hW1' hW2 hW3 hseg hz1 hR0 hZ1 hZ2 hG hkk hik hold hi0 hz0 hzs hzb hR0l
  go_enter Tryd.func58, Tryd.ntmps58
  go_wp2_with (first
    | (at_builtin; refine wpList_append_eqn rfl _ _ 49 3 rfl rfl rfl (hrz _) ?_)
    | (refine wpList_copy_eqn rfl _ _ 49 49 rfl rfl rfl (hcpA _ _) ?_))
  go_region_law (refine step_copy_eqn rfl _ _ 49 49 rfl (v := .slice (some ⟨w.heap.size, (i + 1), none⟩) (n - i) (G - (i + 1))) (u := .slice (some ⟨g, i, none⟩) (n - i) (cap - i)) (by simp [Act.eval, Act.put]) (by simp [Act.eval, Act.put]) (hcpB _ _ _) ?_)
  go_wp2
  go_returns
  exact ⟨G, _, rfl, hGn, hGm, HL.out, HT.out, HN.out, hgr⟩

/-- A row of the caller's own with one element more. -/
def InsPostP (base : Nat) (w : World) (sv : Value) (n : Nat) (ys : List Value) : Ending → World → Prop := fun e w' =>
  ∃ v', e = .returned v' ∧ w'.ownsRow base 62 1 v' (n + 1) ys ∧ w.grownBy w' sv.ownBlock

set_option maxRecDepth 100000 in
set_option maxHeartbeats 2000000 in
theorem insert_endP (base : Nat) (x : Option Addr) (cap n q : Nat) (xs it : List Value) (w : World) (hown : w.ownsRow base 62 1 (.slice x n cap) n xs) (hbase : base ≤ w.heap.size) (hsmall : n ≤ 1000000)
    (hv : w.heap[q]? = some (.cells it.toArray 62 (0, 0))) (hil : it.length = 1) (h2 : ∀ v ∈ it, v.oneCell' = true) :
    Calls Tryd.prog 58 #[.slice x n cap, .int .i64 n, .slice (some ⟨q, 0, none⟩) 1 1] w (InsPostP base w (.slice x n cap) n (xs ++ it)) := by
  obtain ⟨i0, hi, hz0, hz1, hz2⟩ := info_partsT infoPtr
  have HI0 := Lib.hid hi
  have HZ0 := Lib.hid hz0
  have HZ1 := Lib.hid hz1
  have HZ2 := Lib.hid hz2
  have HV := Lib.hid hv
  have HL := Lib.hid hil
  have hcap : n ≤ cap := by
    rcases hown.2 with ⟨e, rfl⟩ | ⟨g, c, cur, e, _, _, hc, _⟩
    · exact Nat.zero_le _
    · simp only [Value.slice.injEq] at e; omega
  have hx : x = none → cap = 0 := fun e => by
    subst e
    rcases hown.2 with ⟨e, rfl⟩ | ⟨g, c, cur, e, _, _, hc, _⟩
    · simp only [Value.slice.injEq] at e; exact e.2.2
    · simp at e
  clear hi hz0 hz1 hz2 hv hil
  go_enter Tryd.func58, Tryd.ntmps58
  go_wp2_with (at_builtin; refine wpList_append_own _ rfl _ _ 49 rfl base 62 i0 (.pointer none) 1 8 Tryd.underlying49 HI0.out HZ0.out HZ1.out HZ2.out rfl (by decide) _ _ _ rfl hown ⟨q, 0, none⟩ 1 1 it rfl HL.out (fun j v hj => by rw [addAtP, cell_rowP HV.out, Nat.zero_add]; exact hj) h2 (by unfold maxLen; omega) (by omega) hbase ?_; intro v' w4 hown' hgrow _)
  all_goals
    have hg' : w.grownBy w4 (Value.slice x n cap).ownBlock := hgrow
    clear hgrow
    go_returns
    exact ⟨v', rfl, hown', by cases x <;> exact hg'⟩

theorem splice_takeP {α : Type} (cur it : List α) (n i : Nat) (hi : i < n) (hc : (n + 1) ≤ cur.length) (hil : it.length = 1) :
    (splice (splice cur ((i + 1)) ((cur.take (n)).drop (i))) (i) it).take ((n + 1)) = (cur.take (n)).take (i) ++ (it ++ (cur.take (n)).drop (i)) := by
  obtain ⟨A, hA⟩ : ∃ A, A = cur.take (i) := ⟨_, rfl⟩
  obtain ⟨S, hS⟩ : ∃ S, S = (cur.take (n)).drop (i) := ⟨_, rfl⟩
  have hAl : A.length = i := by rw [hA, List.length_take]; omega
  have hSl : S.length = (n - i) := by rw [hS, List.length_drop, List.length_take]; omega
  have e1 : (cur.take (n)).take (i) = A := by rw [List.take_take, hA]; congr 1; omega
  rw [e1, ← hS]
  have d1 : cur = A ++ (cur.drop (i)) := by rw [hA, List.take_append_drop]
  obtain ⟨B, hB⟩ : ∃ B, B = cur.drop (i) := ⟨_, rfl⟩
  rw [← hB] at d1
  have hBl : B.length = cur.length - i := by rw [hB, List.length_drop]
  have dB : B = B.take 1 ++ ((B.drop 1).take ((n - i)) ++ (B.drop 1).drop ((n - i))) := by rw [List.take_append_drop, List.take_append_drop]
  have s1 : splice cur ((i + 1)) S = (A ++ B.take 1) ++ (S ++ (B.drop 1).drop ((n - i))) := by
    have l1 : (A ++ B.take 1).length = (i + 1) := by rw [List.length_append, hAl, List.length_take, hBl]; omega
    have := splice_atP (A ++ B.take 1) ((B.drop 1).take ((n - i))) S ((B.drop 1).drop ((n - i))) (by rw [List.length_take, List.length_drop, hBl, hSl]; omega)
    rw [l1, List.append_assoc A, ← dB, ← d1] at this
    exact this
  have s2 : splice (splice cur ((i + 1)) S) (i) it = A ++ (it ++ (S ++ (B.drop 1).drop ((n - i)))) := by
    rw [s1, List.append_assoc]
    have := splice_atP A (B.take 1) it (S ++ (B.drop 1).drop ((n - i))) (by rw [List.length_take, hBl, hil]; omega)
    rwa [hAl] at this
  rw [s2, ← List.append_assoc it, ← List.append_assoc A, List.take_left' (by rw [List.length_append, List.length_append, hAl, hil, hSl]; omega)]

theorem insert_cP (base : Nat) (x : Option Addr) (cap n i q : Nat) (xs it : List Value) (w : World) (hown : w.ownsRow base 62 1 (.slice x n cap) n xs) (hbase : base ≤ w.heap.size) (hsmall : n ≤ 1000000) (hin : i ≤ n)
    (hv : w.heap[q]? = some (.cells it.toArray 62 (0, 0))) (hq : (Value.slice x n cap).ownBlock ≠ some q) (hil : it.length = 1) (h1 : ∀ v ∈ xs, v.oneCell' = true) (h2 : ∀ v ∈ it, v.oneCell' = true) :
    Calls Tryd.prog 58 #[.slice x n cap, .int .i64 i, .slice (some ⟨q, 0, none⟩) 1 1] w (InsPostP base w (.slice x n cap) n (xs.take (i) ++ (it ++ xs.drop (i)))) := by
  have hxl := hown.1
  rcases Nat.lt_or_ge i n with hi | hi
  · have hown0 := hown
    rcases hown.2 with ⟨e, rfl⟩ | ⟨g, c, cur, e, hbg, hg, hnc, hcm, hcs, htk⟩
    · omega
    · simp only [Value.slice.injEq] at e
      obtain ⟨rfl, _, rfl⟩ := e
      have hqg : q ≠ g := fun e => hq (by rw [e]; rfl)
      have hg' : w.heap[g]? = some (.cells cur.toList.toArray 62 (0, 0)) := by simpa using hg
      have hcl : cur.toList.length = cap := by simpa using hcs
      rw [Nat.mul_one] at htk
      subst htk
      rcases Nat.lt_or_ge cap (n + 1) with hr | hr
      · refine (insert_growP g n i cap q cur.toList it w hi hnc hr hsmall (Array.getElem?_eq_some_iff.1 hv).1 hcl hil hg' hv h1 h2).mono ?_
        rintro e w' ⟨G, R, rfl, g1, g2, g3, g4, g5, g6⟩
        have e0 : (cur.toList.take (n)).take (i) = cur.toList.take (i) := by rw [List.take_take]; congr 1; omega
        refine ⟨_, rfl, ⟨?_, .inr ⟨w.heap.size, G, R.toArray, rfl, hbase, g5, g1, g2, by simpa using g3, ?_⟩⟩, ⟨g6.os, g6.tape, g6.output, g6.size, fun k hk _ => g6.block k hk (by simp)⟩⟩
        · rw [e0, ← g4, List.length_take, g3]
          omega
        · rw [e0, Nat.mul_one]
          simpa using g4
      · refine (insert_shiftP g n i cap q cur.toList it w hi hr hcm hqg hcl hil hg' hv h1 h2).mono ?_
        rintro e w' ⟨rfl, g1, g2⟩
        have hs := splice_takeP cur.toList it n i hi (by rw [hcl]; omega) hil
        have hl2 : (splice (splice cur.toList ((i + 1)) ((cur.toList.take (n)).drop (i))) (i) it).length = cap := by
          have a : ((cur.toList.take (n)).drop (i)).length = (n - i) := by rw [List.length_drop, List.length_take]; omega
          rw [length_splice _ _ _ (by rw [hil, length_splice _ _ _ (by rw [a]; omega)]; omega), length_splice _ _ _ (by rw [a]; omega), hcl]
        refine ⟨_, rfl, ⟨?_, .inr ⟨g, cap, _, rfl, hbg, g1, hr, hcm, by simpa using hl2, ?_⟩⟩, g2⟩
        · rw [← hs, List.length_take, hl2]
          omega
        · rw [Nat.mul_one]
          exact hs
  · obtain rfl : i = n := by omega
    have e : xs.take (i) ++ (it ++ xs.drop (i)) = xs ++ it := by
      rw [List.take_of_length_le (by omega), List.drop_of_length_le (by omega), List.append_nil]
    rw [e]
    exact insert_endP base x cap i q xs it w hown hbase hsmall hv hil h2
end Go.Proofs.YtfcmcelhndppnaaDoor
