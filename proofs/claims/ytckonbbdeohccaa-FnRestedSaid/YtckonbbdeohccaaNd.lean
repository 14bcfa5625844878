/- Nodes in memory: what lies where; out of a reading; behind what grows. -/
import Derived.Test.YtckonbbdeohccaaTab
namespace Go.Proofs.Ytckonbbdeohccaa
open Go.ChangeShapes Go.WideShapes Go.ChangeAt Go.RowKit Go.Deep
set_option linter.unusedVariables false
set_option linter.unusedSimpArgs false

structure Nd where
  src : Bool
  peers : List Int
  ref : Int
  str : Int
instance : Inhabited Nd := ⟨⟨false, [], 0, 0⟩⟩

/-- From this address on lie these numbers, in a block below B; or there are none. -/
def IntsAt (B : Nat) (w : World) (x : Option Addr) (l : List Int) : Prop := RowsAt (fun z => [z]) 1 B w x l
section
variable {B B' : Nat} {w w' : World} {x : Option Addr} {l : List Int}
theorem IntsAt.next (h : IntsAt w.heap.size w x l) (hb : Below w.heap.size w w') : IntsAt w'.heap.size w' x l := RowsAt.next h hb
theorem IntsAt.at_ {i : Nat} {z : Int} (h : IntsAt B w x l) (hi : l[i]? = some z) : ∃ b off, x = some ⟨b, off, none⟩ ∧ b < B ∧ w.cell? ⟨b, off + i, none⟩ = some (.int .i64 z) := by
  obtain ⟨b, off, e, hb, hc⟩ := RowsAt.at_ h hi
  have := hc 0 _ rfl
  rw [Nat.mul_one, Nat.add_zero] at this
  exact ⟨b, off, e, hb, this⟩
end
theorem getI {l : List Int} {k : Nat} (h : k < l.length) : ∃ z, l[k]? = some z := ⟨l[k], List.getElem?_eq_getElem h⟩
theorem getN {l : List Nd} {k : Nat} (h : k < l.length) : ∃ v, l[k]? = some v := ⟨l[k], List.getElem?_eq_getElem h⟩

/-- At this place lie a node's four cells; its peers lie below B. -/
def NdCells (B : Nat) (w : World) (b o : Nat) (v : Nd) (px : Option Addr) (pc : Nat) : Prop :=
  w.cell? ⟨b, o, none⟩ = some (.bool v.src) ∧ w.cell? ⟨b, o + 1, none⟩ = some (.slice px v.peers.length pc) ∧ w.cell? ⟨b, o + 2, none⟩ = some (.int .i64 v.ref) ∧ w.cell? ⟨b, o + 3, none⟩ = some (.int .i64 v.str) ∧
  IntsAt B w px v.peers ∧ v.peers.length ≤ pc ∧ pc ≤ maxLen
/-- From this address on lie these nodes, all below B; or there are none. -/
def Nds (B : Nat) (w : World) (x : Option Addr) (l : List Nd) : Prop :=
  l = [] ∨ ∃ b off, x = some ⟨b, off, none⟩ ∧ b < B ∧ ∀ i v, l[i]? = some v → ∃ px pc, NdCells B w b (off + i * 4) v px pc
section
variable {B B' : Nat} {w w' : World} {x : Option Addr} {l : List Nd}
theorem NdCells.next {b o : Nat} {v : Nd} {px : Option Addr} {pc : Nat} (hb : b < w.heap.size) (h : NdCells w.heap.size w b o v px pc) (hw : Below w.heap.size w w') : NdCells w'.heap.size w' b o v px pc := by
  obtain ⟨c0, c1, c2, c3, hp, h1, h2⟩ := h
  exact ⟨(hw.cell (p := ⟨b, o, none⟩) hb).trans c0, (hw.cell (p := ⟨b, o + 1, none⟩) hb).trans c1, (hw.cell (p := ⟨b, o + 2, none⟩) hb).trans c2, (hw.cell (p := ⟨b, o + 3, none⟩) hb).trans c3, hp.next hw, h1, h2⟩
theorem Nds.next (h : Nds w.heap.size w x l) (hw : Below w.heap.size w w') : Nds w'.heap.size w' x l := by
  rcases h with h | ⟨b, off, e, hlt, hc⟩
  · exact .inl h
  · refine .inr ⟨b, off, e, Nat.lt_of_lt_of_le hlt hw.size, fun i v hi => ?_⟩
    obtain ⟨px, pc, hn⟩ := hc i v hi
    exact ⟨px, pc, hn.next hlt hw⟩
theorem Nds.at_ {i : Nat} {v : Nd} (h : Nds B w x l) (hi : l[i]? = some v) : ∃ b off px pc, x = some ⟨b, off, none⟩ ∧ b < B ∧ NdCells B w b (off + i * 4) v px pc := by
  rcases h with rfl | ⟨b, off, e, hlt, hc⟩
  · simp at hi
  · obtain ⟨px, pc, hn⟩ := hc i v hi
    exact ⟨b, off, px, pc, e, hlt, hn⟩
end

/-- A node out of its reading's cells. -/
theorem open_nodes {H : Type} {enc : TypeId × Value → H} {P : Program} {w : World} {held : Bool} {r : Reach} {b0 : Nat} {t u e : TypeId} {f0 f1 f2 f3 : Field} {v : Value} {d : DataW H} {q : List MemPlace}
    (ht : P.underlying t = some (.slice u)) (hu : P.underlying u = some (.struct #[f0, f1, f2, f3])) (hC : P.cellsOf u = 4)
    (hf : (f0.offset = 0 ∧ f1.offset = 1 ∧ f2.offset = 2 ∧ f3.offset = 3) ∧ (P.cellsOf f0.type = 1 ∧ P.cellsOf f1.type = 1 ∧ P.cellsOf f2.type = 1 ∧ P.cellsOf f3.type = 1))
    (hb : P.underlying f0.type = some .bool) (hs : P.underlying f1.type = some (.slice e)) (he : P.underlying e = some (.int .i64)) (hce : P.cellsOf e = 1) (h2 : P.underlying f2.type = some (.int .i64)) (h3 : P.underlying f3.type = some (.int .i64))
    (hv : Value.okWide P w r b0 t v) (h : DataW.Trod enc P w 0 (fun _ => true) held t v d q) :
    ∃ (x : Option Addr) (len cap : Nat) (l : List Nd), v = .slice x len cap ∧ len = l.length ∧ Nds w.heap.size w x l ∧ len ≤ cap ∧ cap ≤ maxLen := by
  obtain ⟨⟨o0, o1, o2, o3⟩, ⟨k0, k1, k2, k3⟩⟩ := hf
  obtain ⟨a0, len0, cap0, rfl⟩ := okWide_slice ht hv
  obtain ⟨fuel, hf⟩ := h
  rcases open_slice ht hf with ⟨hcs, _⟩ | ⟨a, len, cap, m, n, D, Pl, hcs, _, hl, hm, hmm, _, hi⟩
  · simp [Value.cells] at hcs
    obtain ⟨rfl, rfl, rfl⟩ := hcs
    exact ⟨_, _, _, [], rfl, rfl, .inl rfl, Nat.le_refl _, Nat.zero_le _⟩
  · simp [Value.cells] at hcs
    obtain ⟨rfl, rfl, rfl⟩ := hcs
    simp only [if_true] at hmm
    subst hmm
    have each : ∀ i, i < len0 → ∃ (v : Nd) (px : Option Addr) (pc : Nat), w.cell? (a.add (i * 4)) = some (.bool v.src) ∧ w.cell? (a.add (i * 4 + 1)) = some (.slice px v.peers.length pc) ∧ w.cell? (a.add (i * 4 + 2)) = some (.int .i64 v.ref) ∧ w.cell? (a.add (i * 4 + 3)) = some (.int .i64 v.str) ∧ IntsAt w.heap.size w px v.peers ∧ v.peers.length ≤ pc ∧ pc ≤ maxLen := by
      intro i hilt
      obtain ⟨cs', hc, htr⟩ := hi i (by omega)
      rw [hC] at hc
      obtain ⟨_, hclen, hcell⟩ := World.cells?_some hc
      obtain ⟨xs, n', _, hx, hlen, hxl, hfield⟩ := DataW.trod_struct hu htr
      match cs', hclen with
      | [c0, c1, c2, c3], _ =>
      match xs, hxl with
      | [y0, y1, y2, y3], _ =>
      have g0 := hfield 0 f0 rfl
      have g1 := hfield 1 f1 rfl
      have g2 := hfield 2 f2 rfl
      have g3 := hfield 3 f3 rfl
      rw [o0, k0] at g0
      rw [o1, k1] at g1
      rw [o2, k2] at g2
      rw [o3, k3] at g3
      simp only [List.drop, List.take] at g0 g1 g2 g3
      obtain ⟨bv, e0, _⟩ := DataW.trod_bool hb g0
      obtain ⟨m2, e2, _, _⟩ := DataW.trod_int h2 g2
      obtain ⟨m3, e3, _, _⟩ := DataW.trod_int h3 g3
      simp only [List.cons.injEq, and_true] at e0 e2 e3
      subst e0 e2 e3
      have q0 := hcell 0 (by omega)
      have q1 := hcell 1 (by omega)
      have q2 := hcell 2 (by omega)
      have q3 := hcell 3 (by omega)
      rw [add_add] at q0 q1 q2 q3
      simp only [Nat.add_zero, List.getElem?_cons_zero, List.getElem?_cons_succ] at q0 q1 q2 q3
      rcases open_ints hs he hce g1 with ⟨e1, _⟩ | ⟨pa, pl, pc, zs, e1, _, hpl, hpc, hzl, _, hzc, _⟩
      · simp only [List.cons.injEq, and_true] at e1
        subst e1
        exact ⟨⟨bv, [], m2, m3⟩, none, 0, q0, q1, q2, q3, .inl rfl, Nat.le_refl _, Nat.zero_le _⟩
      · simp only [List.cons.injEq, and_true] at e1
        subst e1
        simp only [if_true] at hzl
        have hL : (zs.take pl).length = pl := by rw [List.length_take]; omega
        refine ⟨⟨bv, zs.take pl, m2, m3⟩, some pa, pc, q0, ?_, q2, q3, ?_, ?_, hpc⟩
        · show _ = some (Value.slice (some pa) (zs.take pl).length pc)
          rw [hL]; exact q1
        · by_cases hp0 : pl = 0
          · subst hp0; exact .inl rfl
          · right
            have c00 := hzc 0 (by omega)
            obtain ⟨b, off, spot⟩ := pa
            have hspot : spot = none := by simpa [Addr.add] using World.cell?_spot c00
            subst hspot
            have hadd : ∀ i, (⟨b, off, none⟩ : Addr).add i = ⟨b, off + i, none⟩ := fun i => by unfold Addr.add; split <;> simp_all
            refine ⟨b, off, rfl, World.block_lt_of_cell? w _ (by rw [hadd] at c00; exact c00), fun i z j zz hiz hj => ?_⟩
            match j, hj with
            | 0, hj =>
              simp only [List.getElem?_cons_zero, Option.some.injEq] at hj
              subst hj
              have hil : i < pl := by
                have := (List.getElem?_eq_some_iff.1 hiz).1
                simp only [] at this
                rw [hL] at this
                exact this
              have := hzc i (by omega)
              rw [hadd] at this
              rw [Nat.mul_one, Nat.add_zero, this]
              change (zs.take pl)[i]? = some z at hiz
              rw [List.getElem?_take, if_pos hil] at hiz
              rw [List.getD_eq_getElem?_getD, hiz]
              rfl
            | j + 1, hj => simp at hj
        · show (zs.take pl).length ≤ pc
          rw [hL]; exact hpl
    obtain ⟨f, hfam⟩ := choose_lt each
    refine ⟨_, _, _, (List.range len0).map f, rfl, by simp, ?_, hl, hm⟩
    by_cases hn : len0 = 0
    · subst hn
      exact .inl rfl
    · right
      obtain ⟨px0, pc0, c00, _⟩ := hfam 0 (by omega)
      obtain ⟨b, off, spot⟩ := a
      have hspot : spot = none := by simpa [Addr.add] using World.cell?_spot c00
      subst hspot
      have hadd : ∀ i, (⟨b, off, none⟩ : Addr).add i = ⟨b, off + i, none⟩ := fun i => by unfold Addr.add; split <;> simp_all
      refine ⟨b, off, rfl, World.block_lt_of_cell? w _ (by rw [hadd] at c00; exact c00), fun i v hiv => ?_⟩
      have hil : i < len0 := by
        have := (List.getElem?_eq_some_iff.1 hiv).1
        simpa using this
      rw [List.getElem?_map, List.getElem?_range hil] at hiv
      simp only [Option.map_some, Option.some.injEq] at hiv
      obtain ⟨px, pc, c0, c1, c2, c3, hp, g1, g2⟩ := hfam i hil
      rw [hadd] at c0 c1 c2 c3
      subst hiv
      exact ⟨px, pc, c0, by rw [Nat.add_assoc]; exact c1, by rw [Nat.add_assoc]; exact c2, by rw [Nat.add_assoc]; exact c3, hp, g1, g2⟩
end Go.Proofs.Ytckonbbdeohccaa
