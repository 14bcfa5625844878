/- A stage: the program's own copy of a list of nodes. -/
import Derived.Test.YtdapongofiohgaaNdRow
import Derived.Test.YtdapongofiohgaaNdMark
import Derived.Deep.Cut
namespace Go.Proofs.Ytdapongofiohgaa
open Go.ChangeShapes Go.WideShapes Go.ChangeAt Go.RowKit
set_option linter.unusedVariables false
set_option linter.unusedSimpArgs false

theorem grownSet (w : World) (b k : Nat) (v : Value) : w.grownBy (w.setCell ⟨b, k, none⟩ v) (some b) :=
  ⟨rfl, rfl, rfl, by rw [World.size_setCell]; exact Nat.le_refl _, fun j hj hne => by
    have : b ≠ j := fun e => hne (by rw [e])
    simp [World.setCell, Array.getElem?_modify, this]⟩
theorem grownAlloc (w : World) (o : Obj) : w.grownBy (w.alloc o) none := grown_of_below (below_new w o)
theorem cells_np_new (w : World) (e : Np) (t : TypeId) : ∀ j z, e.cells[j]? = some z → (w.alloc (.cells #[.bool e.v.src, .slice e.px e.v.peers.length e.pc, .int .i64 e.v.ref, .int .i64 e.v.str] t)).cell? ((⟨w.heap.size, 0, none⟩ : Addr).add j) = some z := by
  intro j z hz
  match j, hz with
  | 0, hz => simp [Np.cells] at hz; subst hz; simp [Addr.add]
  | 1, hz => simp [Np.cells] at hz; subst hz; simp [Addr.add]
  | 2, hz => simp [Np.cells] at hz; subst hz; simp [Addr.add]
  | 3, hz => simp [Np.cells] at hz; subst hz; simp [Addr.add]
  | j + 4, hz => simp [Np.cells] at hz
theorem own_lowerN {w : World} {base base' : Nat} {e : TypeId} {size : Nat} {v : Value} {n : Nat} {xs : List Value} (h : w.ownsRow base e size v n xs) (hb : base' ≤ base) : w.ownsRow base' e size v n xs := by
  refine ⟨h.1, ?_⟩
  rcases h.2 with h | ⟨g, c, cur, h, h1, r⟩
  · exact .inl h
  · exact .inr ⟨g, c, cur, h, by omega, r⟩
/-- A stage at block s. -/
def StageAt (base : Nat) (w : World) (s : Nat) (E : List Np) : Prop :=
  ∃ o, w.heap[s]? = some (.cells #[o] 77 (0, 0)) ∧ base ≤ s ∧ w.ownsRow base 48 4 o E.length (flatNp E) ∧ PeersAll base w o E ∧ o.ownBlock ≠ some s
set_option maxRecDepth 100000 in
set_option maxHeartbeats 8000000 in
theorem stageOf_c (l : List Nd) (n : Nat) (hn : Hid (n = l.length)) (hm : n ≤ 1000) (hs : ∀ v ∈ l, v.peers.length ≤ 1048576) (x : Option Addr) (cap : Nat) (w : World) (h : Nds w.heap.size w x l) :
    Calls Try.prog 53 #[.slice x n cap] w fun e w' => ∃ s E, e = .returned (.pointer (some ⟨s, 0, none⟩)) ∧ E.map Np.v = l ∧ StageAt w.heap.size w' s E ∧ Below w.heap.size w w' := by
  obtain ⟨i0, hi, hz0, hz1, hz2⟩ := info_partsT infoNd'
  have HI0 := Lib.hid hi
  have HZ0 := Lib.hid hz0
  have HZ1 := Lib.hid hz1
  have HZ2 := Lib.hid hz2
  clear hi hz0 hz1 hz2
  go_enter Try.func53, Try.ntmps53
  go_wp2
  go_loopw [3, 8] (fun o i wr => ∃ (k : Nat) (E : List Np), k ≤ n ∧ i = .int .i64 k ∧ Hid (E.map Np.v = l.take k) ∧ Hid (E.length = k) ∧ wr.ownsRow w.heap.size 48 4 o k (flatNp E) ∧ PeersAll w.heap.size wr o E ∧ Below w.heap.size w wr) (fun _ i _ => n - (intOf i).toNat)
  case atStart => exact ⟨0, [], Nat.zero_le _, rfl, Lib.hid rfl, Lib.hid rfl, World.ownsRow_nil _ _ _ _, fun e he => by simp at he, Below.refl _ _⟩
  case round =>
    obtain ⟨k, E, hk, rfl, HE, HL, hrow, hpe, hb⟩ := hrel
    by_cases hlt : k < n
    · obtain ⟨v, hv⟩ := getN (l := l) (k := k) (by rw [← hn.out]; exact hlt)
      obtain ⟨b, off, px, pc, rfl, _, c0, c1, c2, c3, hp, p1, p2⟩ := (h.next hb).at_ hv
      have HV := Lib.hid (take_nextN hv)
      have hpl := hs v (List.mem_of_getElem? hv)
      have N1 := blk_new wr (.cells #[.bool v.src, .slice px v.peers.length pc, .int .i64 v.ref, .int .i64 v.str] 48)
      have B1 : Below wr.heap.size wr (wr.alloc (.cells #[.bool v.src, .slice px v.peers.length pc, .int .i64 v.ref, .int .i64 v.str] 48)) := below_new _ _
      have hsz1 : (wr.alloc (.cells #[.bool v.src, .slice px v.peers.length pc, .int .i64 v.ref, .int .i64 v.str] 48)).heap.size = wr.heap.size + 1 := World.size_alloc _ _
      have HC := Lib.hid (cloneInts_c v.peers v.peers.length (Lib.hid rfl) hpl px pc _ (hp.next B1))
      have HR := Lib.hid hrow
      have HP := Lib.hid hpe
      clear hv hp p1 hpl hrow hpe
      go_upto_region 5 with (fail)
      generalize hW1 : wr.alloc (.cells #[.bool v.src, .slice px v.peers.length pc, .int .i64 v.ref, .int .i64 v.str] 48) = W1 at *
      clear hW1
      obtain ⟨x0, x1, x2, x3⟩ := node_cells N1
      go_upto_region 6 with (go_at_call 77; refine HC.out.mono ?_; rintro e w1 ⟨v1, rfl, hown1, hb1⟩; obtain ⟨qx, qc, rfl⟩ := ownsRow_formT hown1; have N2 := blk_next hb1 N1; obtain ⟨x0, x1, x2, x3⟩ := node_cells N2; have hfz : w1.frozen? ⟨wr.heap.size, 1, none⟩ = false := by simp [World.frozen?, N2])
      have b12 := grow_next B1 hb1
      have N3 : (w1.setCell ⟨wr.heap.size, 1, none⟩ (.slice qx v.peers.length qc)).heap[wr.heap.size]? = some (.cells #[.bool v.src, .slice qx v.peers.length qc, .int .i64 v.ref, .int .i64 v.str] 48) := heap_set N2 1 _
      have hg2 := grownSet w1 wr.heap.size 1 (.slice qx v.peers.length qc)
      have r1 := ownsRow_next HR.out b12
      have hob : ∀ p, u3.ownBlock = some p → p < wr.heap.size := fun p hp => (HR.out.lt p hp).2
      have hon : u3.ownBlock = none ∨ u3.ownBlock ≠ some wr.heap.size := .inr (fun e => by have := hob _ e; omega)
      have r2 := r1.kept hg2 hon
      have P1 := HP.out.next b12
      have P2 : PeersAll w.heap.size (w1.setCell ⟨wr.heap.size, 1, none⟩ (.slice qx v.peers.length qc)) u3 E := fun e he => ⟨(P1 e he).1.kept hg2 (fun p hp e2 => by
        have := ((HP.out e he).1.lt p hp).2
        simp only [Option.some.injEq] at e2
        omega), (P1 e he).2⟩
      have hsw := hb.size
      have hnew1 : PeersOwn w.heap.size w1 ⟨v, qx, qc⟩ := own_lowerN hown1 (by rw [hsz1]; omega)
      have hnlt : ∀ p, (Value.slice qx v.peers.length qc).ownBlock = some p → wr.heap.size < p ∧ p < w1.heap.size := fun p hp => by
        have := hown1.lt p hp
        rw [hsz1] at this
        omega
      have hnew2 := hnew1.kept hg2 (fun p hp e2 => by
        have := (hnlt p hp).1
        simp only [Option.some.injEq] at e2
        omega)
      have b02 := below_setCell (grow_next hb b12) hsw 1 (.slice qx v.peers.length qc)
      have hs2 : (w1.setCell ⟨wr.heap.size, 1, none⟩ (.slice qx v.peers.length qc)).heap.size = w1.heap.size := World.size_setCell _ _ _
      have HS2 := Lib.hid hs2
      have hgt : wr.heap.size < w1.heap.size := by have := hb1.size; omega
      clear N1 N2 x0 x1 x2 x3 hfz hg2 r1 P1 hon hnew1 hown1 HC HR HP hs2
      generalize hW2 : w1.setCell ⟨wr.heap.size, 1, none⟩ (.slice qx v.peers.length qc) = W2 at *
      clear hW2
      obtain ⟨⟨x0, x1, x2, x3⟩, _⟩ := four_cells N3
      have O3 := Lib.hid (r2.alloc (.cells #[.bool v.src, .slice qx v.peers.length qc, .int .i64 v.ref, .int .i64 v.str] 48))
      have B3 : Below W2.heap.size W2 (W2.alloc (.cells #[.bool v.src, .slice qx v.peers.length qc, .int .i64 v.ref, .int .i64 v.str] 48)) := below_new _ _
      have NS := Lib.hid (cells_np_new W2 ⟨v, qx, qc⟩ 48)
      have hsz3 : (W2.alloc (.cells #[.bool v.src, .slice qx v.peers.length qc, .int .i64 v.ref, .int .i64 v.str] 48)).heap.size = W2.heap.size + 1 := World.size_alloc _ _
      have HSZ3 := Lib.hid hsz3
      have b03 := grow_next b02 B3
      go_wp2_with (at_builtin; go_loud (refine wpList_append_own_at _ rfl _ _ 43 rfl w.heap.size 48 i0 (.agg #[.bool false, .slice none 0 0, .int .i64 0, .int .i64 0]) 4 48 Try.underlying43 HI0.out HZ0.out HZ1.out HZ2.out rfl (by decide) _ _ _ rfl O3.out ⟨W2.heap.size, 0, none⟩ 1 1 (⟨v, qx, qc⟩ : Np).cells rfl rfl NS.out (by simp [Np.cells, Value.oneCell']) (by unfold maxLen; omega) (by omega) (by have := HSZ3.out; have := HS2.out; simp only [] at *; omega) ?_); intro v3 w4 hown4 hgrow4 _ hloc4)
      have b04 : Below w.heap.size w w4 := b03.grown hgrow4 b03.size (fun g hg => (O3.out.lt g hg).1)
      have P3 := P2.next B3
      have hnew3 := hnew2.kept (grown_of_below B3) (fun _ _ => by simp)
      have hfl : flatNp E ++ (⟨v, qx, qc⟩ : Np).cells = flatNp (E ++ [⟨v, qx, qc⟩]) := by rw [flatNp_append]; simp [flatNp]
      rw [hfl] at hown4
      have hPA : PeersAll w.heap.size w4 v3 (E ++ [⟨v, qx, qc⟩]) := fun e he => by
        rcases List.mem_append.1 he with he | he
        · have h1 := P3 e he
          refine ⟨h1.1.kept hgrow4 (fun p hp e2 => h1.2 p hp e2), fun p hp e2 => ?_⟩
          rcases hloc4 with h4 | h4
          · rw [h4] at e2; exact h1.2 p hp e2
          · rw [h4] at e2
            have := ((P2 e he).1.lt p hp).2
            simp only [Option.some.injEq] at e2
            rw [hsz3] at e2
            omega
        · simp only [List.mem_singleton] at he
          subst he
          refine ⟨hnew3.kept hgrow4 (fun p hp e2 => by have := hnlt p hp; have := hob p e2; omega), fun p hp e2 => ?_⟩
          have h0 := hnlt p hp
          rcases hloc4 with h4 | h4
          · rw [h4] at e2; have := hob p e2; omega
          · rw [h4] at e2
            simp only [Option.some.injEq] at e2
            rw [hsz3] at e2
            have := HS2.out
            omega
      have HE1 : Hid ((E ++ [(⟨v, qx, qc⟩ : Np)]).map Np.v = l.take (k + 1)) := Lib.hid (by rw [List.map_append, HE.out, HV.out]; rfl)
      have HL1 : Hid ((E ++ [(⟨v, qx, qc⟩ : Np)]).length = k + 1) := Lib.hid (by rw [List.length_append, HL.out]; rfl)
      clear hloc4 hgrow4 hnew3 P3 hfl hob hnlt
      go_roundw
      case rel => exact ⟨k + 1, E ++ [(⟨v, qx, qc⟩ : Np)], by omega, by go_num, HE1, HL1, hown4, hPA, b04⟩
      case measure => simp [intOf]; omega
    · obtain ⟨y, cy, rfl⟩ := ownsRow_formT hrow
      have e : k = n := by omega
      have HEE : Hid (E.map Np.v = l) := Lib.hid (by rw [HE.out, e, hn.out, List.take_length])
      have HLE : Hid (k = E.length) := Lib.hid HL.out.symm
      have hr := hrow.alloc (.cells #[.slice y k cy] 77)
      have hp' := hpe.next (below_new wr (.cells #[.slice y k cy] 77))
      have hN := blk_new wr (.cells #[.slice y k cy] 77)
      have hob : (Value.slice y k cy).ownBlock ≠ some wr.heap.size := fun e2 => by have := (hrow.lt _ e2).2; omega
      have HA := Lib.hid (⟨_, hN, hb.size, HLE.out ▸ hr, hp', hob⟩ : StageAt w.heap.size (wr.alloc (.cells #[.slice y k cy] 77)) wr.heap.size E)
      have b1 := hb.alloc hb.size (.cells #[.slice y k cy] 77)
      clear e hr hp' hN hob hrow hpe
      go_wp2_with fail
      go_returns
      exact ⟨_, E, rfl, HEE.out, HA.out, b1⟩
end Go.Proofs.Ytdapongofiohgaa
