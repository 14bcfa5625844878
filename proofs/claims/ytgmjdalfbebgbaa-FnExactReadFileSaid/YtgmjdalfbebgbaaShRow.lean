/- Rows of bytes of the call's own, bearing the run-time's mark or not: made of a text, added to, read back. -/
import Derived.Test.YtgmjdalfbebgbaaTab
import Derived.Lib.AppendStr
import Derived.Laws.IdiomStrings
import Derived.Laws.OwnMore
namespace Go.Proofs.Ytgmjdalfbebgbaa
open Go.ChangeShapes Go.WideShapes Go.ChangeAt Go.RowKit
set_option linter.unusedVariables false
set_option linter.unusedSimpArgs false

/-- Block g begins with these bytes; none of its cells is frozen. -/
def BytesAt (w : World) (g cap : Nat) (s : ByteArray) : Prop :=
  ∃ cur fr, w.heap[g]? = some (.cells cur 5 fr) ∧ s.size ≤ cap ∧ cap ≤ maxLen ∧ cur.size = cap ∧ cur.toList.take s.size = Lib.strCells s ∧ (fr = (0, 0) ∨ cur.size ≤ fr.1)
theorem BytesAt.grown {w w' : World} {g cap : Nat} {s : ByteArray} {row : Option Nat} (h : BytesAt w g cap s) (hg : w.grownBy w' row) (hne : some g ≠ row) : BytesAt w' g cap s := by
  obtain ⟨cur, fr, h1, r⟩ := h
  exact ⟨cur, fr, (hg.block g (Array.getElem?_eq_some_iff.1 h1).1 hne).trans h1, r⟩
theorem BytesAt.lt {w : World} {g cap : Nat} {s : ByteArray} (h : BytesAt w g cap s) : g < w.heap.size := by
  obtain ⟨cur, fr, h1, r⟩ := h
  exact (Array.getElem?_eq_some_iff.1 h1).1
theorem BytesAt.cell {w : World} {g cap : Nat} {s : ByteArray} (h : BytesAt w g cap s) {j : Nat} {u : Value} (hj : (Lib.strCells s)[j]? = some u) : w.cell? ⟨g, j, none⟩ = some u := by
  obtain ⟨cur, fr, h1, h2, h3, h4, h5, h6⟩ := h
  rw [← h5, List.getElem?_take] at hj
  split at hj
  · rename_i hlt
    rw [← hj]
    unfold World.cell?
    simp [h1]
  · cases hj
/-- A value that is a row of these bytes, or nil where there is none. -/
def SliceIs (w : World) (v : Value) (s : ByteArray) : Prop := (v = .slice none 0 0 ∧ s.size = 0) ∨ ∃ g cap, v = .slice (some ⟨g, 0, none⟩) s.size cap ∧ BytesAt w g cap s
theorem SliceIs.grown {w w' : World} {v : Value} {s : ByteArray} {row : Option Nat} (h : SliceIs w v s) (hg : w.grownBy w' row) (hne : ∀ g, v.ownBlock = some g → row ≠ some g) : SliceIs w' v s := by
  rcases h with h | ⟨g, cap, rfl, hb⟩
  · exact .inl h
  · exact .inr ⟨g, cap, rfl, hb.grown hg (fun e => hne g rfl e.symm)⟩
theorem SliceIs.lt {w : World} {v : Value} {s : ByteArray} (h : SliceIs w v s) : ∀ g, v.ownBlock = some g → g < w.heap.size := by
  rintro g e
  rcases h with ⟨rfl, _⟩ | ⟨g', cap, rfl, hb⟩
  · cases e
  · simp only [Value.ownBlock, Option.some.injEq] at e
    subst e
    exact hb.lt
theorem SliceIs.form {w : World} {v : Value} {s : ByteArray} (h : SliceIs w v s) : ∃ x cap, v = .slice x s.size cap := by
  rcases h with ⟨rfl, e⟩ | ⟨g', cap, rfl, hb⟩
  · exact ⟨none, 0, by rw [e]⟩
  · exact ⟨_, _, rfl⟩
theorem storeCells_fz (P : Program) (g o : Nat) (t : TypeId) (fz : Nat × Nat) : ∀ (vs : List Value) (i : Nat) (cur : Array Value) (w : World), w.heap[g]? = some (.cells cur t fz) → (fz = (0, 0) ∨ cur.size ≤ fz.1) → o + i + vs.length ≤ cur.size → (∀ v ∈ vs, v.oneCell' = true) →
    (storeCells ⟨g, o, none⟩ vs i).run P w = .ok () (w.setRow g (cur.toList.take (o + i) ++ vs ++ cur.toList.drop (o + i + vs.length)).toArray)
  | [], i, cur, w, hg, _, _, _ => by
    simp only [storeCells, List.append_nil, List.length_nil, Nat.add_zero, List.take_append_drop, Array.toArray_toList]
    rw [setRow_self w g cur t fz hg]
    rfl
  | v :: rest, i, cur, w, hg, hf, hl, h1 => by
    have hi : o + i < cur.size := by simp at hl; omega
    have hadd : (⟨g, o, none⟩ : Addr).add i = ⟨g, o + i, none⟩ := by unfold Addr.add; split <;> simp_all
    have hcell : w.cell? ⟨g, o + i, none⟩ = some cur[o + i] := by simp [World.cell?, hg, hi]
    have hfro : w.frozen? ⟨g, o + i, none⟩ = false := by
      rcases hf with rfl | hf
      · simp [World.frozen?, hg]
      · obtain ⟨lo, hi2⟩ := fz
        simp only at hf
        simp [World.frozen?, hg]
        intro h; omega
    have hst : (store ((⟨g, o, none⟩ : Addr).add i) v).run P w = .ok () (w.setRow g (cur.setIfInBounds (o + i) v)) := by
      rw [hadd, run_store P w _ v _ (h1 v (by simp)), hcell]
      simp [hfro, setCell_eq_setRow w g (o + i) cur t fz v hg]
    have ih := storeCells_fz P g o t fz rest (i + 1) (cur.setIfInBounds (o + i) v) (w.setRow g (cur.setIfInBounds (o + i) v)) (setRow_heap w g cur _ t _ hg) (by simpa using hf) (by simp at hl ⊢; omega) (fun x hx => h1 x (by simp [hx]))
    simp only [storeCells, Sem.run_bind, hst, Result.andThen_ok, ih, setRow_setRow]
    congr 3
    have e := list_seg_step cur.toList (o + i) v rest (by simp at hl ⊢; omega)
    simpa [Array.toList_setIfInBounds, Nat.add_assoc] using e
theorem strCells_append (a b : ByteArray) : Lib.strCells (a ++ b) = Lib.strCells a ++ Lib.strCells b := by simp [Lib.strCells]
theorem infoU8 : (Try.prog.info? 5).map (fun i => (i.zero, i.size, i.bytes)) = some (some (.int .u8 0), 1, 1) := by kernel_rfl
theorem bytesAt_own {w : World} {base n : Nat} {v : Value} {s : ByteArray} (hn : n = s.size) (h : w.ownsRow base 5 1 v n (Lib.strCells s)) : SliceIs w v s := by
  subst hn
  rcases h.2 with ⟨e, e0⟩ | ⟨g, cap, cur, e, hb, hg, hn, hc, hs, ht⟩
  · exact .inl ⟨e, e0⟩
  · exact .inr ⟨g, cap, e, cur, (0, 0), hg, hn, hc, by simpa using hs, by simpa using ht, .inl rfl⟩
/-- A text's bytes added to a row of bytes. -/
theorem run_append_bytes (w : World) (ty : TypeId) (v : Value) (s z : ByteArray) (h : SliceIs w v s) (hsz : s.size + z.size ≤ 140737488355328) :
    ∃ v' w', (Builtin.append_ #[57, 9] ty #[v, .string z]).run Try.prog w = .ok v' w' ∧ SliceIs w' v' (s ++ z) ∧ w.grownBy w' v.ownBlock ∧ (∀ g, v'.ownBlock = some g → v.ownBlock = some g ∨ w.heap.size ≤ g) := by
  obtain ⟨i0, hi, hz0, hz1, hz2⟩ := info_partsT infoU8
  have h63 : s.size + z.size ≤ maxLen := by unfold maxLen; omega
  rcases h with ⟨rfl, h0⟩ | ⟨g, cap, rfl, cur, fr, hg, hnc, hcm, hcs, htake, hfr⟩
  · have hs0 : s = ByteArray.empty := by
      have : s.data.size = 0 := h0
      cases s
      rename_i d
      simp at this
      subst this
      rfl
    have hown : w.ownsRow w.heap.size 5 1 (.slice none 0 0) 0 [] := World.ownsRow_nil _ _ _ _
    obtain ⟨v', w', h1, h2, h3, h4⟩ := Lib.run_append_own_string w w.heap.size 57 9 ty 5 i0 Try.underlying57 Try.underlying9 hi hz0 hz1 hz2 (.slice none 0 0) 0 [] hown z (by omega) (by omega) (Nat.le_refl _)
    refine ⟨v', w', h1, ?_, h3, fun g e => .inr (World.ownsRow.lt h2 g e).1⟩
    have e : s ++ z = z := by rw [hs0]; exact ByteArray.empty_append
    rw [e]
    exact bytesAt_own (Nat.zero_add _) (by simpa using h2)
  · by_cases hroom : s.size + z.size ≤ cap
    · have hf := Lib.run_firstCells_string (P := Try.prog) w 1 z
      have hst := storeCells_fz Try.prog g s.size 5 fr (Lib.strCells z) 0 cur w hg hfr (by simpa [Lib.strCells_length] using (by omega : s.size + z.size ≤ cur.size)) (Lib.strCells_oneCell z)
      simp only [Nat.add_zero, Lib.strCells_length] at hst
      have hsl : (Lib.strCells s).length = s.size := Lib.strCells_length s
      refine ⟨.slice (some ⟨g, 0, none⟩) (s.size + z.size) cap, w.setRow g (cur.toList.take s.size ++ Lib.strCells z ++ cur.toList.drop (s.size + z.size)).toArray, ?_, ?_, ?_, fun g' e => .inl (by simpa [Value.ownBlock] using e)⟩
      · simp [Builtin.append_, run_underlying Try.underlying57, run_underlying Try.underlying9, sizeOf, typeInfo, hi, hz1, Builtin.lenOf, hroom, hf, Addr.add_lit, hst]
      · refine .inr ⟨g, cap, by rw [ByteArray.size_append], _, fr, setRow_heap w g cur _ _ fr hg, by rw [ByteArray.size_append]; exact hroom, hcm, ?_, ?_, ?_⟩
        · simp only [List.size_toArray, List.length_append, List.length_take, List.length_drop, Array.length_toList, Lib.strCells_length]
          omega
        · rw [ByteArray.size_append, strCells_append, htake]
          have e : (Lib.strCells s ++ Lib.strCells z).length = s.size + z.size := by rw [List.length_append, Lib.strCells_length, Lib.strCells_length]
          rw [← e]
          exact List.take_left
        · rcases hfr with h | h
          · exact .inl h
          · right
            simp only [List.size_toArray, List.length_append, List.length_take, List.length_drop, Array.length_toList, Lib.strCells_length]
            omega
      · exact ⟨rfl, rfl, rfl, by simp, fun k _ hk => setRow_other w g k _ (fun e => hk (by simp [Value.ownBlock, e]))⟩
    · have holds : ∀ j u, (Lib.strCells s)[j]? = some u → w.cell? ((⟨g, 0, none⟩ : Addr).add j) = some u := fun j u hj => by
        rw [show (⟨g, 0, none⟩ : Addr).add j = ⟨g, j, none⟩ by unfold Addr.add; split <;> simp_all]
        exact BytesAt.cell ⟨cur, fr, hg, hnc, hcm, hcs, htake, hfr⟩ hj
      have hr := Lib.run_append_grow_string (P := Try.prog) w 57 9 ty 5 i0 (.int .u8 0) Try.underlying57 Try.underlying9 hi hz0 ⟨g, 0, none⟩ s.size cap (Lib.strCells s) (by rw [hz1]; simpa using Lib.strCells_length s) holds z (by omega) (by unfold maxLen at h63; omega) (by rw [hz2]; exact growslice_fits (by omega) (by omega))
      have hge := grownCap_ge w (s.size + z.size) cap 5
      have hcm2 : grownCap w (s.size + z.size) cap 5 ≤ maxLen := grownCap_le_maxLen w (s.size + z.size) cap 5 h63
      refine ⟨_, _, hr, .inr ⟨w.heap.size, _, by rw [ByteArray.size_append], _, (0, 0), heap_alloc_new w.drew _, by rw [ByteArray.size_append]; exact hge, hcm2, ?_, ?_, .inl rfl⟩, ⟨rfl, rfl, rfl, by simp, fun k hk _ => heap_alloc_old w.drew _ hk⟩, fun g' e => .inr (by simp only [Value.ownBlock, Option.some.injEq] at e; omega)⟩
      · have hzz : (Value.int IntKind.u8 0).cells.size = 1 := rfl
        simp only [Array.size_append, List.size_toArray, size_zeroCells, hzz, Lib.strCells_length]
        omega
      · rw [ByteArray.size_append, strCells_append]
        simp only [Array.toList_append, List.append_assoc]
        have e : (Lib.strCells s ++ Lib.strCells z).length = s.size + z.size := by rw [List.length_append, Lib.strCells_length, Lib.strCells_length]
        rw [← List.append_assoc, ← e]
        exact List.take_left
/-- A text made into a row of bytes. -/
theorem run_to_bytes (w : World) (s : ByteArray) (hs : s.size ≤ 140737488355328) :
    ∃ v w', (convert 9 57 (.string s)).run Try.prog w = .ok v w' ∧ SliceIs w' v s ∧ w.grownBy w' none ∧ v.ownBlock = some w.heap.size := by
  have hr := run_bytes_of_string (P := Try.prog) w 9 57 5 s Try.underlying9 Try.underlying57 Try.underlying5
  have hge : s.size ≤ grownCap w s.size 0 5 := grownCap_ge w s.size 0 5
  have hcm2 : grownCap w s.size 0 5 ≤ maxLen := grownCap_le_maxLen w s.size 0 5 (by unfold maxLen; omega)
  have hsz : (bytesRow s (grownCap w s.size 0 5)).size = grownCap w s.size 0 5 := by
    unfold bytesRow
    rw [Array.size_append, Array.size_map, Array.size_replicate]
    have : s.data.size = s.size := rfl
    omega
  refine ⟨_, _, hr, .inr ⟨w.heap.size, _, rfl, _, _, heap_alloc_new w.drew _, hge, hcm2, hsz, ?_, .inr (Nat.le_refl _)⟩, ⟨rfl, rfl, rfl, by simp, fun k hk _ => heap_alloc_old w.drew _ hk⟩, rfl⟩
  unfold bytesRow
  rw [Array.toList_append, Array.toList_map]
  have e : (s.data.toList.map fun b => Value.int .u8 b.toNat).length = s.size := by rw [List.length_map, Array.length_toList]; rfl
  rw [← e]
  exact List.take_left
/-- A row of bytes read back as a text. -/
theorem run_of_bytes (w : World) (v : Value) (s : ByteArray) (h : SliceIs w v s) : (convert 57 9 v).run Try.prog w = .ok (.string s) w := by
  rcases h with ⟨rfl, h0⟩ | ⟨g, cap, rfl, hb⟩
  · have hs0 : s = ByteArray.empty := by
      have : s.data.size = 0 := h0
      cases s
      rename_i d
      simp at this
      subst this
      rfl
    rw [run_convert_bytes_nil w 57 5 Try.underlying57 Try.underlying5 0 0 9 Try.underlying9, hs0]
  · have hl : s.data.toList.length = s.size := by rw [Array.length_toList]; rfl
    have := run_convert_bytes_back (P := Try.prog) w 57 9 5 ⟨g, 0, none⟩ cap s.data.toList Try.underlying57 Try.underlying5 Try.underlying9 (fun j hj => by
      rw [show (⟨g, 0, none⟩ : Addr).add j = ⟨g, j, none⟩ by unfold Addr.add; split <;> simp_all]
      exact hb.cell (by unfold Lib.strCells; rw [List.getElem?_map, List.getElem?_eq_getElem hj]; rfl))
    rw [hl] at this
    rw [this]
end Go.Proofs.Ytgmjdalfbebgbaa
