/- A peer's six numbers; slices of peers that come in; peers copied and held against each other. -/
import Derived.Test.YtfcmcelhndppnaaDoorTab
import Derived.Test.YtfcmcelhndppnaaDoorSampleOk
import Derived.Deep.QuietTactic
import Derived.Deep.RegionHeld3
import Derived.Lib.SmallJoins
namespace Go.Proofs.YtfcmcelhndppnaaDoor
open Go.ChangeShapes Go.WideShapes Go.ChangeAt Go.RowKit Go.Deep
set_option linter.unusedVariables false
set_option linter.unusedSimpArgs false

structure Pr where
  id : Int
  str : Int
  s : Sm
def Pr.row (p : Pr) : List Int := [p.id, p.str, p.s.off, p.s.delay, p.s.disp, p.s.at_]
def Pr.ofRow : List Int → Pr
  | [a, b, c, d, e, f] => ⟨a, b, ⟨c, d, e, f⟩⟩
  | _ => ⟨0, 0, ⟨0, 0, 0, 0⟩⟩
theorem list6 {α : Type} (l : List α) (h : l.length = 6) : ∃ a b c d e f, l = [a, b, c, d, e, f] :=
  match l, h with
  | [a, b, c, d, e, f], _ => ⟨a, b, c, d, e, f, rfl⟩
def Prs (B : Nat) (w : World) (x : Option Addr) (l : List Pr) : Prop := RowsAt Pr.row 6 B w x l

section
variable {B B' : Nat} {w w' : World} {x : Option Addr} {l : List Pr}
theorem Prs.below (h : Prs B w x l) (hb : Below B w w') : Prs B w' x l := RowsAt.below h hb
theorem Prs.mono (h : Prs B w x l) (hB : B ≤ B') : Prs B' w x l := RowsAt.mono h hB
theorem Prs.next (h : Prs w.heap.size w x l) (hb : Below w.heap.size w w') : Prs w'.heap.size w' x l := RowsAt.next h hb
theorem Prs.at_ {i : Nat} {v : Pr} (h : Prs B w x l) (hi : l[i]? = some v) : ∃ b off, x = some ⟨b, off, none⟩ ∧ b < B ∧ w.cell? ⟨b, off + i * 6, none⟩ = some (.int .i64 v.id) ∧ w.cell? ⟨b, off + i * 6 + 1, none⟩ = some (.int .i64 v.str) ∧ w.cell? ⟨b, off + i * 6 + 2, none⟩ = some (.int .i64 v.s.off) ∧ w.cell? ⟨b, off + i * 6 + 3, none⟩ = some (.int .i64 v.s.delay) ∧ w.cell? ⟨b, off + i * 6 + 4, none⟩ = some (.int .i64 v.s.disp) ∧ w.cell? ⟨b, off + i * 6 + 5, none⟩ = some (.int .i64 v.s.at_) := by
  obtain ⟨b, off, e, hb, hc⟩ := RowsAt.at_ h hi
  exact ⟨b, off, e, hb, hc 0 _ rfl, hc 1 _ rfl, hc 2 _ rfl, hc 3 _ rfl, hc 4 _ rfl, hc 5 _ rfl⟩
end

/-! ### Slices of structs whose cells are all int64s -/
theorem open_rows_by {H : Type} {enc : TypeId × Value → H} {P : Program} {w : World} {held : Bool} {r : Reach} {b0 : Nat} {t u : TypeId} {k : Nat} {v : Value} {d : DataW H} {q : List MemPlace}
    {α : Type} (row : α → List Int) (dec : List Int → α) (hdec : ∀ l, l.length = k → row (dec l) = l)
    (ht : P.underlying t = some (.slice u)) (hC : P.cellsOf u = k) (hpos : 0 < k)
    (hel : ∀ (n : Nat) (cs : List Value) (x : DataW H × List MemPlace), cs.length = k → DataW.trod enc P w 0 (fun _ => true) held n u cs = some x → ∃ ns : List Int, cs = ns.map (Value.int .i64) ∧ ∀ n ∈ ns, (Lit.int .i64 n).wf = true)
    (hv : Value.okWide P w r b0 t v) (h : DataW.Trod enc P w 0 (fun _ => true) held t v d q) :
    ∃ (x : Option Addr) (len cap : Nat) (l : List α), v = .slice x len cap ∧ len = l.length ∧ RowsAt row k w.heap.size w x l ∧ len ≤ cap ∧ cap ≤ maxLen ∧ ∀ e ∈ l, ∀ n ∈ row e, (Lit.int .i64 n).wf = true := by
  obtain ⟨a0, len0, cap0, rfl⟩ := okWide_slice ht hv
  obtain ⟨fuel, hf⟩ := h
  rcases open_slice ht hf with ⟨hcs, _⟩ | ⟨a, len, cap, m, n, D, Pl, hcs, _, hl, hm, hmm, _, hi⟩
  · simp [Value.cells] at hcs
    obtain ⟨rfl, rfl, rfl⟩ := hcs
    exact ⟨_, _, _, [], rfl, rfl, .inl rfl, Nat.le_refl _, Nat.zero_le _, by simp⟩
  · simp [Value.cells] at hcs
    obtain ⟨rfl, rfl, rfl⟩ := hcs
    simp only [if_true] at hmm
    subst hmm
    have each : ∀ i, i < len0 → ∃ ns : List Int, ns.length = k ∧ (∀ j z, ns[j]? = some z → w.cell? (a.add (i * k + j)) = some (.int .i64 z)) ∧ ∀ n ∈ ns, (Lit.int .i64 n).wf = true := by
      intro i hilt
      obtain ⟨cs', hc, htr⟩ := hi i (by omega)
      rw [hC] at hc
      obtain ⟨_, hclen, hcell⟩ := World.cells?_some hc
      obtain ⟨ns, e, hns⟩ := hel _ _ _ hclen htr
      refine ⟨ns, ?_, ?_, hns⟩
      · have := congrArg List.length e
        simp at this
        omega
      · intro j z hj
        have hjn : j < ns.length := (List.getElem?_eq_some_iff.1 hj).1
        have hjl : j < k := by have := congrArg List.length e; simp at this; omega
        have hc1 := hcell j hjl
        rw [add_add] at hc1
        rw [hc1, e, List.getElem?_map, hj]
        rfl
    obtain ⟨f, hfam⟩ := choose_lt each
    refine ⟨_, _, _, (List.range len0).map fun i => dec (f i), rfl, by simp, ?_, hl, hm, ?_⟩
    · by_cases hn : len0 = 0
      · subst hn
        exact .inl rfl
      · right
        obtain ⟨h0, hc0, _⟩ := hfam 0 (by omega)
        obtain ⟨z0, hz0⟩ : ∃ z, (f 0)[0]? = some z := ⟨(f 0)[0]'(by omega), List.getElem?_eq_getElem (by omega)⟩
        have hc00 := hc0 0 z0 hz0
        obtain ⟨b, off, spot⟩ := a
        have hspot : spot = none := by simpa [Addr.add] using World.cell?_spot hc00
        subst hspot
        have hadd : ∀ i, (⟨b, off, none⟩ : Addr).add i = ⟨b, off + i, none⟩ := fun i => by unfold Addr.add; split <;> simp_all
        refine ⟨b, off, rfl, World.block_lt_of_cell? w _ (by rw [hadd] at hc00; exact hc00), fun i v j z hiv hj => ?_⟩
        have hil : i < len0 := by
          have := (List.getElem?_eq_some_iff.1 hiv).1
          simpa using this
        rw [List.getElem?_map, List.getElem?_range hil] at hiv
        simp only [Option.map_some, Option.some.injEq] at hiv
        obtain ⟨hl', hc', _⟩ := hfam i hil
        rw [← hiv, hdec _ hl'] at hj
        have := hc' j z hj
        rw [hadd] at this
        rw [Nat.add_assoc]
        exact this
    · intro e he n hn
      obtain ⟨i, hi', rfl⟩ := List.mem_map.1 he
      have hil := List.mem_range.1 hi'
      obtain ⟨hl', _, hw⟩ := hfam i hil
      rw [hdec _ hl'] at hn
      exact hw n hn

set_option maxRecDepth 100000 in
theorem peer_el {H : Type} {enc : TypeId × Value → H} {w : World} {held : Bool} (n : Nat) (cs : List Value) (x : DataW H × List MemPlace) (hl : cs.length = 6)
    (h : DataW.trod enc Tryd.prog w 0 (fun _ => true) held n 47 cs = some x) : ∃ ns : List Int, cs = ns.map (Value.int .i64) ∧ ∀ n ∈ ns, (Lit.int .i64 n).wf = true := by
  obtain ⟨a, b, c, d, e, f, rfl⟩ := list6 cs hl
  obtain ⟨y0, y1, y2, n1, _, _, h0, h1, h2⟩ := trod_struct3 Tryd.underlying47 h
  obtain ⟨z0, z1, z2, z3, n2, _, _, g0, g1, g2, g3⟩ := Go.Joins.trod_struct4 Tryd.underlying45 h2
  rw [show Tryd.prog.cellsOf 2 = 1 by kernel_rfl] at h0 h1 g0 g1 g2 g3
  rw [show Tryd.prog.cellsOf 45 = 4 by kernel_rfl] at g0 g1 g2 g3
  simp only [List.drop_zero, List.drop_succ_cons, List.take_succ_cons, List.take_zero] at h0 h1 g0 g1 g2 g3
  obtain ⟨m0, e0, _, w0⟩ := DataW.trod_int Tryd.underlying2 h0
  obtain ⟨m1, e1, _, w1⟩ := DataW.trod_int Tryd.underlying2 h1
  obtain ⟨m2, e2, _, w2⟩ := DataW.trod_int Tryd.underlying2 g0
  obtain ⟨m3, e3, _, w3⟩ := DataW.trod_int Tryd.underlying2 g1
  obtain ⟨m4, e4, _, w4⟩ := DataW.trod_int Tryd.underlying2 g2
  obtain ⟨m5, e5, _, w5⟩ := DataW.trod_int Tryd.underlying2 g3
  simp only [List.cons.injEq, and_true] at e0 e1 e2 e3 e4 e5
  subst e0 e1 e2 e3 e4 e5
  refine ⟨[m0, m1, m2, m3, m4, m5], rfl, ?_⟩
  simp [w0, w1, w2, w3, w4, w5]

set_option maxRecDepth 100000 in
theorem open_prs {H : Type} {enc : TypeId × Value → H} {w : World} {held : Bool} {r : Reach} {b0 : Nat} {v : Value} {d : DataW H} {q : List MemPlace}
    (hv : Value.okWide Tryd.prog w r b0 22 v) (h : DataW.Trod enc Tryd.prog w 0 (fun _ => true) held 22 v d q) :
    ∃ (x : Option Addr) (len cap : Nat) (l : List Pr), v = .slice x len cap ∧ (Hid (len = l.length) ∧ len ≤ cap ∧ cap ≤ maxLen ∧ Prs w.heap.size w x l) := by
  obtain ⟨x, len, cap, l, rfl, hl, hr, hc, hm, _⟩ := open_rows_by (enc := enc) Pr.row Pr.ofRow (fun l hl => by obtain ⟨a, b, c, d, e, f, rfl⟩ := list6 l hl; rfl) Tryd.underlying22 (by kernel_rfl) (by decide) (fun n cs x hl h => peer_el n cs x hl h) hv h
  exact ⟨x, len, cap, l, rfl, Lib.hid hl, hc, hm, hr⟩
end Go.Proofs.YtfcmcelhndppnaaDoor
