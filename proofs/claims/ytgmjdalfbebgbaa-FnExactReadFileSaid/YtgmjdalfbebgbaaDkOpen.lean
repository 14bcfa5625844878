/- Disks that came in: files and ops out of a reading; rows that are filled cell by cell. -/
import Derived.Test.YtgmjdalfbebgbaaDkOkI
import Derived.SliceStrings
namespace Go.Proofs.Ytgmjdalfbebgbaa
open Go.ChangeShapes Go.WideShapes Go.ChangeAt Go.RowKit Go.Deep
set_option linter.unusedVariables false
set_option linter.unusedSimpArgs false
set_option maxRecDepth 100000

theorem open_rowsG {H : Type} {enc : TypeId × Value → H} {P : Program} {w : World} {held : Bool} {r : Reach} {b0 : Nat} {t u : TypeId} {v : Value} {d : DataW H} {q : List MemPlace}
    {α : Type} (good : α → Prop) (C : Cells α) (ht : P.underlying t = some (.slice u)) (hC : P.cellsOf u = C.size)
    (helem : ∀ (n : Nat) (cs : List Value) (x : DataW H × List MemPlace), DataW.trod enc P w 0 (fun _ => true) held n u cs = some x → ∃ a, cs = C.cells a ∧ good a)
    (hv : Value.okWide P w r b0 t v) (h : DataW.Trod enc P w 0 (fun _ => true) held t v d q) :
    ∃ (x : Option Addr) (len cap : Nat) (l : List α), v = .slice x len cap ∧ len = l.length ∧ GAt C w.heap.size w x l ∧ len ≤ cap ∧ cap ≤ maxLen ∧ ∀ e ∈ l, good e := by
  obtain ⟨a0, len0, cap0, rfl⟩ := okWide_slice ht hv
  obtain ⟨fuel, hf⟩ := h
  rcases open_slice ht hf with ⟨hcs, _⟩ | ⟨a, len, cap, m, n, D, Pl, hcs, _, hl, hm, hmm, _, hi⟩
  · simp [Value.cells] at hcs
    obtain ⟨rfl, rfl, rfl⟩ := hcs
    exact ⟨_, _, _, [], rfl, rfl, .inl rfl, Nat.le_refl _, Nat.zero_le _, by simp⟩
  · simp [Value.cells] at hcs
    obtain ⟨rfl, rfl, rfl⟩ := hcs
    simp only [if_true] at hmm
    subst hmm
    have each : ∀ i, i < len0 → ∃ e : α, (∀ j z, (C.cells e)[j]? = some z → w.cell? (a.add (i * C.size + j)) = some z) ∧ good e := by
      intro i hilt
      obtain ⟨cs', hc, htr⟩ := hi i (by omega)
      rw [hC] at hc
      obtain ⟨_, hclen, hcell⟩ := World.cells?_some hc
      obtain ⟨e, rfl, hgood⟩ := helem _ _ _ htr
      refine ⟨e, fun j z hj => ?_, hgood⟩
      have hjl : j < C.size := by have := (List.getElem?_eq_some_iff.1 hj).1; rwa [C.len] at this
      have hc1 := hcell j hjl
      rw [add_add] at hc1
      rw [hc1, hj]
    by_cases hn : len0 = 0
    · subst hn
      exact ⟨_, _, _, [], rfl, rfl, .inl rfl, hl, hm, by simp⟩
    · haveI : Inhabited α := ⟨(each 0 (by omega)).choose⟩
      obtain ⟨f, hfam⟩ := choose_lt each
      refine ⟨_, _, _, (List.range len0).map f, rfl, by simp, ?_, hl, hm, fun e he => by
        obtain ⟨i, hi', rfl⟩ := List.mem_map.1 he
        exact (hfam i (List.mem_range.1 hi')).2⟩
      right
      have hc0 := (hfam 0 (by omega)).1
      obtain ⟨z0, hz0⟩ : ∃ z, (C.cells (f 0))[0]? = some z := ⟨(C.cells (f 0))[0]'(by rw [C.len]; exact C.pos), List.getElem?_eq_getElem (by rw [C.len]; exact C.pos)⟩
      have hc00 := hc0 0 z0 hz0
      obtain ⟨b, off, spot⟩ := a
      have hspot : spot = none := by simpa [Addr.add] using World.cell?_spot hc00
      subst hspot
      have hadd : ∀ i, (⟨b, off, none⟩ : Addr).add i = ⟨b, off + i, none⟩ := fun i => by unfold Addr.add; split <;> simp_all
      refine ⟨b, off, rfl, World.block_lt_of_cell? w _ (by rw [hadd] at hc00; exact hc00), fun i v j z hiv hj => ?_⟩
      have hil : i < len0 := by
        have := (List.getElem?_eq_some_iff.1 hiv).1
        simpa using this
      rw [List.getElem?_map, List.getElem?_range hil] at hiv
      simp only [Option.map_some, Option.some.injEq] at hiv
      rw [← hiv] at hj
      have := (hfam i hil).1 j z hj
      rw [hadd] at this
      rw [Nat.add_assoc]
      exact this
def FlBig (f : Fl) : Prop := f.name.size ≤ maxLen ∧ f.data.size ≤ maxLen
def DpBig (o : Dp) : Prop := o.name.size ≤ maxLen ∧ o.to.size ≤ maxLen ∧ o.data.size ≤ maxLen
theorem file_elem {H : Type} {enc : TypeId × Value → H} {w : World} {held : Bool} (n : Nat) (cs : List Value) (x : DataW H × List MemPlace) (h : DataW.trod enc Try.prog w 0 (fun _ => true) held n 104 cs = some x) : ∃ a, cs = flC.cells a ∧ FlBig a := by
  obtain ⟨xs, n', _, hx, hlen, hxl, hfield⟩ := DataW.trod_struct Try.underlying104 h
  have hC : (Try.prog).cellsOf 104 = 2 := by kernel_rfl
  have hc : (Try.prog).cellsOf 9 = 1 := by kernel_rfl
  rw [hC] at hlen
  match cs, hlen, xs, hxl with
  | [c0, c1], _, [y0, y1], _ =>
  have g0 : DataW.trod enc Try.prog w 0 (fun _ => true) held n' 9 [c0] = some y0 := by simpa [hc] using hfield 0 _ rfl
  have g1 : DataW.trod enc Try.prog w 0 (fun _ => true) held n' 9 [c1] = some y1 := by simpa [hc] using hfield 1 _ rfl
  obtain ⟨s0, e0, _, z0⟩ := DataW.trod_string Try.underlying9 g0
  obtain ⟨s1, e1, _, z1⟩ := DataW.trod_string Try.underlying9 g1
  simp only [List.cons.injEq, and_true] at e0 e1
  subst e0 e1
  exact ⟨⟨s0, s1⟩, rfl, z0, z1⟩
theorem dop_elem {H : Type} {enc : TypeId × Value → H} {w : World} {held : Bool} (n : Nat) (cs : List Value) (x : DataW H × List MemPlace) (h : DataW.trod enc Try.prog w 0 (fun _ => true) held n 36 cs = some x) : ∃ a, cs = dpC.cells a ∧ DpBig a := by
  obtain ⟨xs, n', _, hx, hlen, hxl, hfield⟩ := DataW.trod_struct Try.underlying36 h
  have hC : (Try.prog).cellsOf 36 = 4 := by kernel_rfl
  have hc : (Try.prog).cellsOf 9 = 1 := by kernel_rfl
  have hd : (Try.prog).cellsOf 2 = 1 := by kernel_rfl
  rw [hC] at hlen
  match cs, hlen, xs, hxl with
  | [c0, c1, c2, c3], _, [y0, y1, y2, y3], _ =>
  have g0 : DataW.trod enc Try.prog w 0 (fun _ => true) held n' 2 [c0] = some y0 := by simpa [hd] using hfield 0 _ rfl
  have g1 : DataW.trod enc Try.prog w 0 (fun _ => true) held n' 9 [c1] = some y1 := by simpa [hc] using hfield 1 _ rfl
  have g2 : DataW.trod enc Try.prog w 0 (fun _ => true) held n' 9 [c2] = some y2 := by simpa [hc] using hfield 2 _ rfl
  have g3 : DataW.trod enc Try.prog w 0 (fun _ => true) held n' 9 [c3] = some y3 := by simpa [hc] using hfield 3 _ rfl
  obtain ⟨n0, e0, _⟩ := DataW.trod_int Try.underlying2 g0
  obtain ⟨s1, e1, _, z1⟩ := DataW.trod_string Try.underlying9 g1
  obtain ⟨s2, e2, _, z2⟩ := DataW.trod_string Try.underlying9 g2
  obtain ⟨s3, e3, _, z3⟩ := DataW.trod_string Try.underlying9 g3
  simp only [List.cons.injEq, and_true] at e0 e1 e2 e3
  subst e0 e1 e2 e3
  exact ⟨⟨n0, s1, s2, s3⟩, rfl, z1, z2, z3⟩
structure DkBig (d : Dk) : Prop where
  live : ∀ f ∈ d.live, FlBig f
  safe : ∀ f ∈ d.safe, FlBig f
  ops : ∀ o ∈ d.ops, DpBig o
/-- A disk that came in. -/
theorem open_disk {H : Type} {enc : TypeId × Value → H} {w : World} {held : Bool} {r : Reach} {b0 : Nat} {v : Value} {d : DataW H} {q : List MemPlace}
    (hv : Value.okWide Try.prog w r b0 25 v) (h : DataW.Trod enc Try.prog w 0 (fun _ => true) held 25 v d q) :
    ∃ (x y z : Option Addr) (n m k cx cy cz : Nat) (D : Dk), v = .agg #[.slice x n cx, .slice y m cy, .slice z k cz] ∧ (n ≤ maxLen ∧ m ≤ maxLen ∧ k ≤ maxLen ∧ DkAt w.heap.size w x y z n m k D ∧ DkBig D) := by
  simp only [Value.okWide, Try.underlying25] at hv
  obtain ⟨cs, rfl, hsz, ts, hts, _, hcell⟩ := hv
  have hts' : (Try.prog).cellTypes (Try.prog).depth 25 = some [22, 22, 23] := by kernel_rfl
  rw [hts'] at hts
  simp only [Option.some.injEq] at hts
  subst hts
  have hC : (Try.prog).cellsOf 25 = 3 := by kernel_rfl
  rw [hC] at hsz
  obtain ⟨l0⟩ := cs
  match l0, hsz with
  | [c0, c1, c2], _ =>
  obtain ⟨u0, hu0, hok0⟩ := hcell 0 c0 rfl
  obtain ⟨u1, hu1, hok1⟩ := hcell 1 c1 rfl
  obtain ⟨u2, hu2, hok2⟩ := hcell 2 c2 rfl
  simp at hu0 hu1 hu2
  subst hu0 hu1 hu2
  obtain ⟨fuel, hf⟩ := h
  obtain ⟨xs, n, _, _, _, hxl, hfield⟩ := DataW.trod_struct Try.underlying25 hf
  match xs, hxl with
  | [y0, y1, y2], _ =>
  have hcF : (Try.prog).cellsOf 22 = 1 := by kernel_rfl
  have hcD : (Try.prog).cellsOf 23 = 1 := by kernel_rfl
  have g0 : DataW.trod enc Try.prog w 0 (fun _ => true) held n 22 [c0] = some y0 := by simpa [Value.cells, hcF] using hfield 0 _ rfl
  have g1 : DataW.trod enc Try.prog w 0 (fun _ => true) held n 22 [c1] = some y1 := by simpa [Value.cells, hcF] using hfield 1 _ rfl
  have g2 : DataW.trod enc Try.prog w 0 (fun _ => true) held n 23 [c2] = some y2 := by simpa [Value.cells, hcD] using hfield 2 _ rfl
  have ok0 : Value.okWide Try.prog w r b0 22 c0 := by simp only [Value.okWide, Try.underlying22]; exact hok0
  have ok1 : Value.okWide Try.prog w r b0 22 c1 := by simp only [Value.okWide, Try.underlying22]; exact hok1
  have ok2 : Value.okWide Try.prog w r b0 23 c2 := by simp only [Value.okWide, Try.underlying23]; exact hok2
  obtain ⟨a0, p0, q0, rfl⟩ := okWide_slice Try.underlying22 ok0
  obtain ⟨a1, p1, q1, rfl⟩ := okWide_slice Try.underlying22 ok1
  obtain ⟨a2, p2, q2, rfl⟩ := okWide_slice Try.underlying23 ok2
  have t0 : DataW.Trod enc Try.prog w 0 (fun _ => true) held 22 (.slice a0 p0 q0) y0.1 y0.2 := ⟨n, by simpa [Value.cells] using g0⟩
  have t1 : DataW.Trod enc Try.prog w 0 (fun _ => true) held 22 (.slice a1 p1 q1) y1.1 y1.2 := ⟨n, by simpa [Value.cells] using g1⟩
  have t2 : DataW.Trod enc Try.prog w 0 (fun _ => true) held 23 (.slice a2 p2 q2) y2.1 y2.2 := ⟨n, by simpa [Value.cells] using g2⟩
  obtain ⟨x0, n0, m0, l0, e0, hl0, hr0, hc0, hm0, hb0⟩ := open_rowsG (enc := enc) FlBig flC Try.underlying22 (by kernel_rfl) file_elem ok0 t0
  obtain ⟨x1, n1, m1, l1, e1, hl1, hr1, hc1, hm1, hb1⟩ := open_rowsG (enc := enc) FlBig flC Try.underlying22 (by kernel_rfl) file_elem ok1 t1
  obtain ⟨x2, n2, m2, l2, e2, hl2, hr2, hc2, hm2, hb2⟩ := open_rowsG (enc := enc) DpBig dpC Try.underlying23 (by kernel_rfl) dop_elem ok2 t2
  exact ⟨x0, x1, x2, n0, n1, n2, m0, m1, m2, ⟨l0, l1, l2⟩, by rw [e0, e1, e2], by omega, by omega, by omega, ⟨hr0, hr1, hr2, hl0, hl1, hl2⟩, ⟨hb0, hb1, hb2⟩⟩

/-! ### A row of many cells, filled one by one -/
/-- In block g lie these cells from its head on; it has N cells. -/
def FTab (N : Nat) (T : TypeId) (w : World) (g : Nat) (fl : List Value) : Prop :=
  ∃ cur : Array Value, w.heap[g]? = some (.cells cur T (0, 0)) ∧ cur.size = N ∧ fl.length ≤ N ∧ ∀ (i : Nat) (u : Value), fl[i]? = some u → cur[i]? = some u
section
variable {N g : Nat} {T : TypeId} {w w' : World} {fl : List Value}
theorem FTab.lt (h : FTab N T w g fl) : g < w.heap.size := by
  obtain ⟨cur, hg, _⟩ := h
  exact (Array.getElem?_eq_some_iff.1 hg).1
theorem FTab.keep (h : FTab N T w g fl) (hg : w'.heap[g]? = w.heap[g]?) : FTab N T w' g fl := by
  obtain ⟨cur, h1, h2⟩ := h
  exact ⟨cur, hg.trans h1, h2⟩
theorem FTab.next (h : FTab N T w g fl) (hb : Below w.heap.size w w') : FTab N T w' g fl := h.keep (hb.block g h.lt)
theorem FTab.room (h : FTab N T w g fl) {o : Nat} (ho : o < N) : (∃ u, w.cell? ⟨g, o, none⟩ = some u) ∧ w.frozen? ⟨g, o, none⟩ = false := by
  obtain ⟨cur, h1, h2, _⟩ := h
  refine ⟨⟨cur[o]'(by omega), ?_⟩, ?_⟩
  · simp [World.cell?, h1, h2, ho]
  · simp [World.frozen?, h1]
theorem FTab.push (h : FTab N T w g fl) {k : Nat} (hk : k = fl.length) (hN : k < N) (v : Value) : FTab N T (w.setCell ⟨g, k, none⟩ v) g (fl ++ [v]) := by
  obtain ⟨cur, h1, h2, h3, h4⟩ := h
  subst hk
  refine ⟨_, heap_set h1 _ _, by simp [h2], by simp; omega, fun i u hi => ?_⟩
  simp only [Array.getElem?_setIfInBounds]
  rcases Nat.lt_or_ge i fl.length with hl | hl
  · rw [List.getElem?_append_left hl] at hi
    rw [if_neg (by omega)]
    exact h4 i u hi
  · have e : i = fl.length := by
      have := (List.getElem?_eq_some_iff.1 hi).1
      simp at this
      omega
    subst e
    simp at hi
    subst hi
    rw [if_pos rfl, if_pos (by omega)]
theorem FTab.made {z : Value} {k : Nat} (w : World) : FTab N T (w.alloc (.cells (madeCells z.cells N) T)) w.heap.size ([] : List Value) :=
  ⟨_, blk_new w _, by rw [size_madeCells], by simp, by simp⟩
theorem FTab.at_ {α : Type} {C : Cells α} {l : List α} (h : FTab N T w g (flatG C l)) : GAt C w.heap.size w (some ⟨g, 0, none⟩) l := by
  have hlt := h.lt
  obtain ⟨cur, h1, h2, h3, h4⟩ := h
  refine .inr ⟨g, 0, rfl, hlt, fun i v j u hi hj => ?_⟩
  have := h4 _ u (flatG_at hi hj)
  rw [Nat.zero_add]
  exact blk_cell h1 this
end
end Go.Proofs.Ytgmjdalfbebgbaa
