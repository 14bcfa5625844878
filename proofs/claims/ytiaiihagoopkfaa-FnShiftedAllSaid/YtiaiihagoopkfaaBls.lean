/- Rows of answers in memory: out of a reading, of the call's own; copied and held against each other by the laws. -/
import Derived.Test.YtiaiihagoopkfaaTab
import Derived.Deep.Grids
import Derived.IntWalk
import Derived.Deep.QuietTactic
namespace Go.Proofs.Ytiaiihagoopkfaa
open Go.ChangeShapes Go.WideShapes Go.ChangeAt Go.RowKit Go.Deep
set_option linter.unusedVariables false
set_option linter.unusedSimpArgs false

/-- From this address on lie these answers, in a block below B; or there are none. -/
def Bls (B : Nat) (w : World) (x : Option Addr) (l : List Bool) : Prop :=
  l = [] ∨ ∃ b off, x = some ⟨b, off, none⟩ ∧ b < B ∧ ∀ (i : Nat) (v : Bool), l[i]? = some v → w.cell? ⟨b, off + i, none⟩ = some (Value.bool v)
section
variable {B B' : Nat} {w w' : World} {x : Option Addr} {l : List Bool}
theorem Bls.below (h : Bls B w x l) (hb : Below B w w') : Bls B w' x l := by
  rcases h with h | ⟨b, off, e, hlt, hc⟩
  · exact .inl h
  · exact .inr ⟨b, off, e, hlt, fun i v hi => (hb.cell (p := ⟨b, off + i, none⟩) hlt).trans (hc i v hi)⟩
theorem Bls.mono (h : Bls B w x l) (hB : B ≤ B') : Bls B' w x l := by
  rcases h with h | ⟨b, off, e, hlt, hc⟩
  · exact .inl h
  · exact .inr ⟨b, off, e, by omega, hc⟩
theorem Bls.next (h : Bls w.heap.size w x l) (hb : Below w.heap.size w w') : Bls w'.heap.size w' x l := (h.below hb).mono hb.size
theorem Bls.at_ {i : Nat} {v : Bool} (h : Bls B w x l) (hi : l[i]? = some v) : ∃ b off, x = some ⟨b, off, none⟩ ∧ b < B ∧ w.cell? ⟨b, off + i, none⟩ = some (.bool v) := by
  rcases h with rfl | ⟨b, off, e, hlt, hc⟩
  · simp at hi
  · exact ⟨b, off, e, hlt, hc i v hi⟩
end

theorem open_bls {H : Type} {enc : TypeId × Value → H} {w : World} {held : Bool} {r : Reach} {b0 : Nat} {v : Value} {d : DataW H} {q : List MemPlace}
    (hv : Value.okWide Try.prog w r b0 28 v) (h : DataW.Trod enc Try.prog w 0 (fun _ => true) held 28 v d q) :
    ∃ (x : Option Addr) (len cap : Nat) (l : List Bool), v = .slice x len cap ∧ (Hid (len = l.length) ∧ len ≤ cap ∧ cap ≤ maxLen ∧ Bls w.heap.size w x l) := by
  obtain ⟨a0, len0, cap0, rfl⟩ := okWide_slice Try.underlying28 hv
  obtain ⟨fuel, hf⟩ := h
  rcases open_bools Try.underlying28 Try.underlying4 (by kernel_rfl) hf with ⟨hcs, _⟩ | ⟨a, len, cap, B, hcs, _, hl, hm, _, hcell⟩
  · simp [Value.cells] at hcs
    obtain ⟨rfl, rfl, rfl⟩ := hcs
    exact ⟨_, _, _, [], rfl, Lib.hid rfl, Nat.le_refl _, Nat.zero_le _, .inl rfl⟩
  · simp [Value.cells] at hcs
    obtain ⟨rfl, rfl, rfl⟩ := hcs
    refine ⟨_, _, _, (List.range len0).map B, rfl, Lib.hid (by simp), hl, hm, ?_⟩
    by_cases hn : len0 = 0
    · subst hn
      exact .inl rfl
    · right
      obtain ⟨b, off, spot⟩ := a
      have hc0 := hcell 0 (by omega)
      have hspot : spot = none := by simpa [Addr.add] using World.cell?_spot hc0
      subst hspot
      have hadd : ∀ i, (⟨b, off, none⟩ : Addr).add i = ⟨b, off + i, none⟩ := fun i => by unfold Addr.add; split <;> simp_all
      refine ⟨b, off, rfl, World.block_lt_of_cell? w _ (by rw [hadd] at hc0; exact hc0), fun i u hi => ?_⟩
      have hil : i < len0 := by
        have := (List.getElem?_eq_some_iff.1 hi).1
        simpa using this
      rw [List.getElem?_map, List.getElem?_range hil] at hi
      simp only [Option.map_some, Option.some.injEq] at hi
      rw [← hi, ← hadd]
      exact hcell i (by omega)

/-- In block g lie these answers from its head on; it has room for m, and may be written. -/
def BlTab (m : Nat) (w : World) (g : Nat) (l : List Bool) : Prop :=
  ∃ cur : Array Value, w.heap[g]? = some (.cells cur 4 (0, 0)) ∧ cur.size = m ∧ l.length ≤ m ∧ ∀ (i : Nat) (v : Bool), l[i]? = some v → cur[i]? = some (Value.bool v)
section
variable {m g : Nat} {w w' : World} {l : List Bool}
theorem BlTab.lt (h : BlTab m w g l) : g < w.heap.size := by
  obtain ⟨cur, hg, _⟩ := h
  exact (Array.getElem?_eq_some_iff.1 hg).1
theorem BlTab.next (h : BlTab m w g l) (hb : Below w.heap.size w w') : BlTab m w' g l := by
  have hlt := h.lt
  obtain ⟨cur, h1, h2⟩ := h
  exact ⟨cur, (hb.block g hlt).trans h1, h2⟩
theorem BlTab.room (h : BlTab m w g l) {k : Nat} (hk : k < m) : (∃ u, w.cell? ⟨g, k, none⟩ = some u) ∧ w.frozen? ⟨g, k, none⟩ = false := by
  obtain ⟨cur, h1, h2, _⟩ := h
  refine ⟨⟨cur[k]'(by omega), ?_⟩, ?_⟩
  · simp [World.cell?, h1, h2, hk]
  · simp [World.frozen?, h1]
theorem BlTab.put (h : BlTab m w g l) (hk : l.length < m) (v : Bool) : BlTab m (w.setCell ⟨g, l.length, none⟩ (.bool v)) g (l ++ [v]) := by
  obtain ⟨cur, h1, h2, h3, h4⟩ := h
  refine ⟨_, heap_set h1 _ _, by simp [h2], by simp; omega, fun i u hi => ?_⟩
  simp only [Array.getElem?_setIfInBounds]
  rcases Nat.lt_or_ge i l.length with hl | hl
  · rw [List.getElem?_append_left hl] at hi
    rw [if_neg (by omega)]
    exact h4 i u hi
  · have e : i = l.length := by
      have := (List.getElem?_eq_some_iff.1 hi).1
      simp at this
      omega
    subst e
    simp at hi
    subst hi
    rw [if_pos rfl, if_pos (by omega)]
theorem BlTab.bls (h : BlTab m w g l) : Bls w.heap.size w (some ⟨g, 0, none⟩) l := by
  have hlt := h.lt
  obtain ⟨cur, h1, h2, h3, h4⟩ := h
  refine .inr ⟨g, 0, rfl, hlt, fun i v hi => ?_⟩
  simp [World.cell?, h1, h4 i v hi]
end
theorem infoBl : (Try.prog.info? 4).map (fun i => (i.zero, i.size, i.bytes)) = some (some (.bool false), 1, 1) := by kernel_rfl
theorem getB_ {l : List Bool} {k : Nat} (h : k < l.length) : ∃ v, l[k]? = some v := ⟨l[k], List.getElem?_eq_getElem h⟩
theorem take_nextB {l : List Bool} {k : Nat} {v : Bool} (h : l[k]? = some v) : l.take (k + 1) = l.take k ++ [v] := by rw [List.take_add_one, h]; rfl

/-- A copy of these: a slice of the call's own. -/
def FreshBls (n : Nat) (W : World) (l : List Bool) : Ending → World → Prop := fun e w' => ∃ g, e = .returned (.slice (some ⟨g, 0, none⟩) n n) ∧ BlTab n w' g l ∧ W.heap.size ≤ g ∧ Below W.heap.size W w'

set_option maxHeartbeats 1000000 in
theorem toBoolS_c (l : List Bool) (n : Nat) (hn : Hid (n = l.length)) (hm : n ≤ 1048576) (x : Option Addr) (cap : Nat) (w : World) (h : Bls w.heap.size w x l) :
    Calls Try.prog 22 #[.slice x n cap] w (FreshBls n w l) := by
  have hmk := run_make_tab (P := Try.prog) Try.underlying28 infoBl n (by omega) hm
  have hT : BlTab n (w.alloc (.cells (madeCells (Value.bool false).cells (n * 1)) 4)) w.heap.size [] := ⟨_, blk_new w _, by rw [size_madeCells]; simp [Value.cells], by simp, by simp⟩
  rw [Nat.mul_one] at hT
  simp only [Nat.mul_one] at hmk
  go_enter Try.func22, Try.ntmps22
  go_wp2
  go_loopw [4] (fun i wr => ∃ k : Nat, k ≤ n ∧ i = .int .i64 k ∧ BlTab n wr w.heap.size (l.take k) ∧ Below w.heap.size w wr) (fun i _ => n - (intOf i).toNat)
  case atStart => exact ⟨0, Nat.zero_le _, rfl, hT, by go_grown⟩
  case round =>
    obtain ⟨k, hk, rfl, ht, hb⟩ := hrel
    clear hmk
    by_cases hlt : k < n
    · obtain ⟨v, hv⟩ := getB_ (l := l) (k := k) (by rw [← hn.out]; exact hlt)
      obtain ⟨b, off, rfl, hbB, c0⟩ := (h.next hb).at_ hv
      have HV := Lib.hid (take_nextB hv)
      have HK := Lib.hid (show (l.take k).length = k by have := hn.out; simp; omega)
      obtain ⟨⟨u0, r0⟩, f0⟩ := ht.room hlt
      have hp := ht.put (by rw [HK.out]; exact hlt) v
      rw [HK.out, ← HV.out] at hp
      have G := below_setCell hb (Nat.le_refl w.heap.size) k (.bool v)
      clear hv
      go_wp2_with fail
      go_roundw
      case rel => exact ⟨k + 1, by omega, by go_num, hp, G⟩
      case measure => simp [intOf]; omega
    · have e : k = n := by omega
      have hT' : BlTab n wr w.heap.size l := by
        rw [e, hn.out, List.take_length] at ht
        rw [hn.out]
        exact ht
      clear e
      go_wp2_with fail
      go_returns
      exact ⟨w.heap.size, rfl, hT', Nat.le_refl _, hb⟩

set_option maxHeartbeats 1000000 in
theorem eqBoolS_c (l : List Bool) (n : Nat) (hn : Hid (n = l.length)) (hm : n ≤ 1048576) (x y : Option Addr) (cap cap' : Nat) (w : World) (h : Bls w.heap.size w x l) (h' : Bls w.heap.size w y l) :
    Calls Try.prog 24 #[.slice x n cap, .slice y n cap'] w fun e w' => e = .returned (.bool true) ∧ Below w.heap.size w w' := by
  go_enter Try.func24, Try.ntmps24
  go_wp2
  go_loopw [5] (fun i wr => ∃ k : Nat, k ≤ n ∧ i = .int .i64 k ∧ Below w.heap.size w wr) (fun i _ => n - (intOf i).toNat)
  case atStart => exact ⟨0, Nat.zero_le _, rfl, Below.refl _ _⟩
  case round =>
    obtain ⟨k, hk, rfl, hb⟩ := hrel
    by_cases hlt : k < n
    · obtain ⟨v, hv⟩ := getB_ (l := l) (k := k) (by rw [← hn.out]; exact hlt)
      obtain ⟨b, off, rfl, _, c0⟩ := (h.next hb).at_ hv
      obtain ⟨b', off', rfl, _, c1⟩ := (h'.next hb).at_ hv
      have HV := Lib.hid hv
      clear hv
      cases v with
      | true =>
        go_wp2_with fail
        go_quiet (fail)
        go_wp2_with fail
        go_roundw
        case rel => exact ⟨k + 1, by omega, by go_num, grow_drew hb _⟩
        case measure => simp [intOf]; omega
      | false =>
        go_wp2_with fail
        go_quiet (fail)
        go_wp2_with fail
        go_roundw
        case rel => exact ⟨k + 1, by omega, by go_num, grow_drew hb _⟩
        case measure => simp [intOf]; omega
    · go_wp2_with fail
      go_returns
      exact ⟨rfl, hb⟩
end Go.Proofs.Ytiaiihagoopkfaa
