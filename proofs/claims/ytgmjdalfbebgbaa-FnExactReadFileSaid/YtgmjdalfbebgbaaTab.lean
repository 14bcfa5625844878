/- Slices of structs of int64s that read as lists: what lies where; out of a reading; behind what grows. -/
import Derived.Test.YtgmjdalfbebgbaaFlat
import Derived.Test.YtgmjdalfbebgbaaKeep
import Derived.Deep.Slices
import Derived.Deep.AppendLies
import Derived.Laws.MakeOwn
import Derived.BigQuiet
namespace Go.Proofs.Ytgmjdalfbebgbaa
open Go.ChangeShapes Go.WideShapes Go.ChangeAt Go.RowKit Go.Deep
set_option linter.unusedVariables false
set_option linter.unusedSimpArgs false

/-- From this address on lie these elements, k numbers each, in a block below B; or there are none. -/
def RowsAt {α : Type} (enc : α → List Int) (k B : Nat) (w : World) (x : Option Addr) (l : List α) : Prop :=
  l = [] ∨ ∃ b off, x = some ⟨b, off, none⟩ ∧ b < B ∧ ∀ i v j z, l[i]? = some v → (enc v)[j]? = some z → w.cell? ⟨b, off + i * k + j, none⟩ = some (.int .i64 z)

section
variable {α : Type} {enc : α → List Int} {k B B' : Nat} {w w' : World} {x : Option Addr} {l : List α}
theorem RowsAt.none_ : RowsAt enc k B w x [] := Or.inl rfl
theorem RowsAt.below (h : RowsAt enc k B w x l) (hb : Below B w w') : RowsAt enc k B w' x l := by
  rcases h with h | ⟨b, off, e, hlt, hc⟩
  · exact .inl h
  · exact .inr ⟨b, off, e, hlt, fun i v j z hi hj => (hb.cell (p := ⟨b, off + i * k + j, none⟩) hlt).trans (hc i v j z hi hj)⟩
theorem RowsAt.mono (h : RowsAt enc k B w x l) (hB : B ≤ B') : RowsAt enc k B' w x l := by
  rcases h with h | ⟨b, off, e, hlt, hc⟩
  · exact .inl h
  · exact .inr ⟨b, off, e, by omega, hc⟩
theorem RowsAt.next (h : RowsAt enc k w.heap.size w x l) (hb : Below w.heap.size w w') : RowsAt enc k w'.heap.size w' x l := (h.below hb).mono hb.size
theorem RowsAt.at_ {i : Nat} {v : α} (h : RowsAt enc k B w x l) (hi : l[i]? = some v) : ∃ b off, x = some ⟨b, off, none⟩ ∧ b < B ∧ ∀ j z, (enc v)[j]? = some z → w.cell? ⟨b, off + i * k + j, none⟩ = some (.int .i64 z) := by
  rcases h with rfl | ⟨b, off, e, hlt, hc⟩
  · simp at hi
  · exact ⟨b, off, e, hlt, fun j z hj => hc i v j z hi hj⟩
theorem RowsAt.spot {i : Nat} (h : RowsAt enc k B w x l) (hi : i < l.length) : ∃ b off, x = some ⟨b, off, none⟩ ∧ b < B := by
  rcases h with rfl | ⟨b, off, e, hlt, hc⟩
  · simp at hi
  · exact ⟨b, off, e, hlt⟩
end

/-- A slice that came in, of structs of k int64s. -/
theorem open_rows {H : Type} {enc : TypeId × Value → H} {P : Program} {w : World} {held : Bool} {r : Reach} {b0 : Nat} {t u : TypeId} {fs : Array Field} {v : Value} {d : DataW H} {q : List MemPlace}
    {α : Type} (row : α → List Int) (dec : List Int → α) (hdec : ∀ l, l.length = fs.size → row (dec l) = l)
    (ht : P.underlying t = some (.slice u)) (hu : P.underlying u = some (.struct fs)) (hflat : flatInts P fs = true) (hC : P.cellsOf u = fs.size) (hpos : 0 < fs.size)
    (hv : Value.okWide P w r b0 t v) (h : DataW.Trod enc P w 0 (fun _ => true) held t v d q) :
    ∃ (x : Option Addr) (len cap : Nat) (l : List α), v = .slice x len cap ∧ len = l.length ∧ RowsAt row fs.size w.heap.size w x l ∧ len ≤ cap ∧ cap ≤ maxLen ∧ ∀ e ∈ l, ∀ n ∈ row e, (Lit.int .i64 n).wf = true := by
  obtain ⟨a0, len0, cap0, rfl⟩ := okWide_slice ht hv
  obtain ⟨fuel, hf⟩ := h
  rcases open_slice ht hf with ⟨hcs, _⟩ | ⟨a, len, cap, m, n, D, Pl, hcs, _, hl, hm, hmm, _, hi⟩
  · simp [Value.cells] at hcs
    obtain ⟨rfl, rfl, rfl⟩ := hcs
    exact ⟨_, _, _, [], rfl, rfl, .inl rfl, Nat.le_refl _, Nat.zero_le _, by simp⟩
  · simp [Value.cells] at hcs
    obtain ⟨rfl, rfl, rfl⟩ := hcs
    simp only [if_true] at hmm
    subst hmm
    have each : ∀ i, i < len0 → ∃ ns : List Int, ns.length = fs.size ∧ (∀ j z, ns[j]? = some z → w.cell? (a.add (i * fs.size + j)) = some (.int .i64 z)) ∧ ∀ n ∈ ns, (Lit.int .i64 n).wf = true := by
      intro i hilt
      obtain ⟨cs', hc, htr⟩ := hi i (by omega)
      rw [hC] at hc
      obtain ⟨_, hclen, hcell⟩ := World.cells?_some hc
      have hsz : (Value.agg cs'.toArray).cells.toList = cs' := by simp [Value.cells]
      obtain ⟨xs, n', _, hx, hlen, hxl, hfield⟩ := DataW.trod_struct hu htr
      obtain ⟨ns, e, hns⟩ := list_of_each (Value.int .i64) (fun n => (Lit.int .i64 n).wf = true) cs' (fun j y hj => by
        have hjl : j < cs'.length := (List.getElem?_eq_some_iff.1 hj).1
        have hjf : j < fs.size := by omega
        have hfi : fs[j]? = some fs[j] := Array.getElem?_eq_getElem hjf
        have hfl := List.all_eq_true.1 hflat (fs[j], j) (by
          rw [List.mem_iff_getElem?]
          exact ⟨j, by simp [hjf]⟩)
        simp only [Bool.and_eq_true, beq_iff_eq] at hfl
        obtain ⟨⟨ho, hcc⟩, hu2⟩ := hfl
        have hu' : P.underlying fs[j].type = some (.int .i64) := by
          split at hu2
          · assumption
          · cases hu2
        have hk := hfield j fs[j] hfi
        rw [ho, hcc] at hk
        have hone : (cs'.drop j).take 1 = [y] := by
          rw [List.getElem?_eq_getElem hjl] at hj
          rw [List.drop_eq_getElem_cons hjl, Option.some.inj hj]
          rfl
        rw [hone] at hk
        obtain ⟨y', hy⟩ : ∃ y, xs[j]? = some y := ⟨xs[j]'(by omega), List.getElem?_eq_getElem (by omega)⟩
        rw [hy] at hk
        obtain ⟨m, e0, _, wm⟩ := DataW.trod_int hu' hk
        simp only [List.cons.injEq, and_true] at e0
        exact ⟨m, e0, wm⟩)
      refine ⟨ns, ?_, ?_, hns⟩
      · have := congrArg List.length e
        simp at this
        omega
      · intro j z hj
        have hjn : j < ns.length := (List.getElem?_eq_some_iff.1 hj).1
        have hjl : j < fs.size := by have := congrArg List.length e; simp at this; omega
        have hc1 := hcell j hjl
        rw [add_add] at hc1
        rw [hc1, e, List.getElem?_map, hj]
        rfl
    obtain ⟨f, hfam⟩ := choose_lt each
    refine ⟨_, _, _, (List.range len0).map fun i => dec (f i), rfl, by simp, ?_, hl, hm, ?_⟩
    · by_cases hn : len0 = 0
      · subst hn
        exact .inl rfl
      · right
        obtain ⟨h0, hc0, _⟩ := hfam 0 (by omega)
        obtain ⟨z0, hz0⟩ : ∃ z, (f 0)[0]? = some z := ⟨(f 0)[0]'(by omega), List.getElem?_eq_getElem (by omega)⟩
        have hc00 := hc0 0 z0 hz0
        obtain ⟨b, off, spot⟩ := a
        have hspot : spot = none := by simpa [Addr.add] using World.cell?_spot hc00
        subst hspot
        have hadd : ∀ i, (⟨b, off, none⟩ : Addr).add i = ⟨b, off + i, none⟩ := fun i => by unfold Addr.add; split <;> simp_all
        refine ⟨b, off, rfl, World.block_lt_of_cell? w _ (by rw [hadd] at hc00; exact hc00), fun i v j z hiv hj => ?_⟩
        have hil : i < len0 := by
          have := (List.getElem?_eq_some_iff.1 hiv).1
          simpa using this
        rw [List.getElem?_map, List.getElem?_range hil] at hiv
        simp only [Option.map_some, Option.some.injEq] at hiv
        obtain ⟨hl', hc', _⟩ := hfam i hil
        rw [← hiv, hdec _ hl'] at hj
        have := hc' j z hj
        rw [hadd] at this
        rw [Nat.add_assoc]
        exact this
    · intro e he n hn
      obtain ⟨i, hi', rfl⟩ := List.mem_map.1 he
      have hil := List.mem_range.1 hi'
      obtain ⟨hl', _, hw⟩ := hfam i hil
      rw [hdec _ hl'] at hn
      exact hw n hn

/-- In block g lie these elements from its head on, k numbers each; it has room for m of them, and may be written. -/
def TabAt {α : Type} (enc : α → List Int) (k m : Nat) (T : TypeId) (w : World) (g : Nat) (l : List α) : Prop :=
  ∃ cur : Array Value, w.heap[g]? = some (.cells cur T (0, 0)) ∧ cur.size = m * k ∧ l.length ≤ m ∧ ∀ i v j z, l[i]? = some v → (enc v)[j]? = some z → cur[i * k + j]? = some (.int .i64 z)

section
variable {α : Type} {enc : α → List Int} {k m g : Nat} {T : TypeId} {w w' : World} {l : List α}
theorem heap_set {cur : Array Value} (h : w.heap[g]? = some (.cells cur T (0, 0))) (o : Nat) (v : Value) : (w.setCell ⟨g, o, none⟩ v).heap[g]? = some (.cells (cur.setIfInBounds o v) T (0, 0)) := by
  simp [World.setCell, Array.getElem?_modify, h]
theorem TabAt.lt (h : TabAt enc k m T w g l) : g < w.heap.size := by
  obtain ⟨cur, hg, _⟩ := h
  exact (Array.getElem?_eq_some_iff.1 hg).1
theorem TabAt.keep (h : TabAt enc k m T w g l) (hg : w'.heap[g]? = w.heap[g]?) : TabAt enc k m T w' g l := by
  obtain ⟨cur, h1, h2⟩ := h
  exact ⟨cur, hg.trans h1, h2⟩
theorem TabAt.next (h : TabAt enc k m T w g l) (hb : Below w.heap.size w w') : TabAt enc k m T w' g l := h.keep (hb.block g h.lt)
theorem TabAt.other (h : TabAt enc k m T w g l) {b o : Nat} {v : Value} (hne : b ≠ g) : TabAt enc k m T (w.setCell ⟨b, o, none⟩ v) g l :=
  h.keep (by simp [World.setCell, Array.getElem?_modify, hne])
theorem TabAt.alloc (h : TabAt enc k m T w g l) (o : Obj) : TabAt enc k m T (w.alloc o) g l := h.keep (Below.heap_alloc w o g h.lt)
theorem TabAt.room (h : TabAt enc k m T w g l) {o : Nat} (ho : o < m * k) : (∃ u, w.cell? ⟨g, o, none⟩ = some u) ∧ w.frozen? ⟨g, o, none⟩ = false := by
  obtain ⟨cur, h1, h2, _⟩ := h
  refine ⟨⟨cur[o]'(by omega), ?_⟩, ?_⟩
  · simp [World.cell?, h1, h2, ho]
  · simp [World.frozen?, h1]
theorem TabAt.rows (h : TabAt enc k m T w g l) : RowsAt enc k w.heap.size w (some ⟨g, 0, none⟩) l := by
  have hlt := h.lt
  obtain ⟨cur, h1, h2, h3, h4⟩ := h
  refine .inr ⟨g, 0, rfl, hlt, fun i v j z hi hj => ?_⟩
  have := h4 i v j z hi hj
  simp [World.cell?, h1, this]
theorem TabAt.made (z : Value) (hz : z.cells.size = k) (w : World) (h : (0 : Nat) ≤ m) : TabAt enc k m T (w.alloc (.cells (madeCells z.cells (m * k)) T)) w.heap.size ([] : List α) :=
  ⟨_, blk_new w _, by rw [size_madeCells], by simp, by simp⟩
end
theorem run_make_tab {P : Program} {t e : TypeId} {z : Value} {size bytes : Nat} (ht : P.underlying t = some (.slice e)) (hi : (P.info? e).map (fun i => (i.zero, i.size, i.bytes)) = some (some z, size, bytes))
    (n : Nat) (hb : bytes * n ≤ 281474976710656) (hn : n ≤ 1048576) (w : World) :
    (Instr.makeSlice t (.int .i64 n) (.int .i64 n)).run P w = .ok (.slice (some ⟨w.heap.size, 0, none⟩) n n) (w.alloc (.cells (madeCells z.cells (n * size)) e)) := by
  cases hj : P.info? e with
  | none => rw [hj] at hi; simp at hi
  | some i =>
    rw [hj] at hi
    simp at hi
    obtain ⟨h1, h2, h3⟩ := hi
    have hq : ((bytes * n : Nat) : Int) ≤ 281474976710656 := by omega
    rw [Int.natCast_mul] at hq
    have := run_make (P := P) w t e i z ht hj h1 .i64 .i64 (n : Int) (n : Int) (by omega) (by omega) (by rw [h3]; exact hq) (by omega)
    simpa [h2] using this
theorem below_setCell {w W : World} {b : Nat} (h : Below w.heap.size w W) (hb : w.heap.size ≤ b) (o : Nat) (v : Value) : Below w.heap.size w (W.setCell ⟨b, o, none⟩ v) := h.setCell hb v
theorem info_partsT {P : Program} {t : TypeId} {z : Value} {s b : Nat} (h : (P.info? t).map (fun i => (i.zero, i.size, i.bytes)) = some (some z, s, b)) : ∃ i, P.info? t = some i ∧ i.zero = some z ∧ i.size = s ∧ i.bytes = b := by
  cases hi : P.info? t with
  | none => rw [hi] at h; simp at h
  | some i =>
    rw [hi] at h
    simp at h
    exact ⟨i, rfl, h⟩
theorem ownsRow_formT {w : World} {base : Nat} {e : TypeId} {size : Nat} {v : Value} {n : Nat} {xs : List Value} (h : w.ownsRow base e size v n xs) : ∃ x cap, v = .slice x n cap := by
  rcases h.2 with ⟨rfl, rfl⟩ | ⟨g, cap, cur, rfl, _⟩
  · exact ⟨_, _, rfl⟩
  · exact ⟨_, _, rfl⟩
end Go.Proofs.Ytgmjdalfbebgbaa
