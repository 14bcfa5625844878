/- Marks that the laws write into rows of numbers and into nodes, and look at again. -/
import Derived.Test.YtnnhcgnagmdheaaNdTo
namespace Go.Proofs.Ytnnhcgnagmdheaa
open Go.ChangeShapes Go.WideShapes Go.ChangeAt Go.RowKit
set_option linter.unusedVariables false
set_option linter.unusedSimpArgs false

/-- A row of n numbers that may be written, at the head of block p; or none. -/
def RowIn (w : World) (x : Option Addr) (n : Nat) (row : Option Nat) (sz : Nat) : Prop :=
  n = 0 ∨ ∃ p c, x = some ⟨p, 0, none⟩ ∧ row = some p ∧ w.heap[p]? = some (.cells c 2 (0, 0)) ∧ n ≤ c.size ∧ c.size = sz
/-- A row that holds these marks. -/
def RowHas (w : World) (x : Option Addr) (n : Nat) (k0 : Int) : Prop :=
  n = 0 ∨ ∃ p c, x = some ⟨p, 0, none⟩ ∧ w.heap[p]? = some (.cells c 2 (0, 0)) ∧ ∀ i : Nat, i < n → c[i]? = some (.int .i64 (k0 + (i : Int)))
theorem RowHas.keep {w w' : World} {x : Option Addr} {n : Nat} {k0 : Int} (h : RowHas w x n k0) (hk : ∀ p, x = some ⟨p, 0, none⟩ → p < w.heap.size → w'.heap[p]? = w.heap[p]?) : RowHas w' x n k0 := by
  rcases h with h | ⟨p, c, e, hp, hc⟩
  · exact .inl h
  · exact .inr ⟨p, c, e, (hk p e (Array.getElem?_eq_some_iff.1 hp).1).trans hp, hc⟩
theorem RowHas.next {w w' : World} {x : Option Addr} {n : Nat} {k0 : Int} (h : RowHas w x n k0) (hb : Below w.heap.size w w') : RowHas w' x n k0 := h.keep (fun p _ hlt => hb.block p hlt)
set_option maxHeartbeats 1000000 in
theorem markInts_c (n : Nat) (hn : n ≤ 1048576) (k0 : Int) (h0 : 0 ≤ k0) (h1 : k0 ≤ 8388608) (x : Option Addr) (cap : Nat) (row : Option Nat) (sz : Nat) (w : World) (h : RowIn w x n row sz) :
    Calls Try.prog 34 #[.slice x n cap, .int .i64 k0] w fun e w' => e = .returned (.int .i64 (k0 + n)) ∧ RowHas w' x n k0 ∧ RowIn w' x n row sz ∧ w.grownBy w' row := by
  go_enter Try.func34, Try.ntmps34
  go_wp2
  go_loopw [1, 5] (fun m i wr => ∃ k : Nat, k ≤ n ∧ i = .int .i64 k ∧ m = .int .i64 (k0 + k) ∧ (n = 0 ∨ ∃ p c, x = some ⟨p, 0, none⟩ ∧ row = some p ∧ wr.heap[p]? = some (.cells c 2 (0, 0)) ∧ n ≤ c.size ∧ c.size = sz ∧ Hid (∀ i : Nat, i < k → c[i]? = some (.int .i64 (k0 + (i : Int))))) ∧ w.grownBy wr row) (fun _ i _ => n - (intOf i).toNat)
  case atStart =>
    refine ⟨0, Nat.zero_le _, rfl, by simp, ?_, World.grownBy.refl _ _⟩
    rcases h with h | ⟨p, c, e, er, hp, hs, hz⟩
    · exact .inl h
    · exact .inr ⟨p, c, e, er, hp, hs, hz, Lib.hid (fun i hi => absurd hi (Nat.not_lt_zero _))⟩
  case round =>
    obtain ⟨k, hk, rfl, rfl, hr, hg⟩ := hrel
    by_cases hlt : k < n
    · obtain ⟨p, c, rfl, rfl, hp, hs, hz, HC⟩ := hr.resolve_left (by omega)
      have hcell : ∃ u, wr.cell? ⟨p, k, none⟩ = some u := ⟨c[k]'(by omega), by simp [World.cell?, hp, show k < c.size by omega]⟩
      obtain ⟨u, hu⟩ := hcell
      have hf : wr.frozen? ⟨p, k, none⟩ = false := by simp [World.frozen?, hp]
      obtain ⟨q, hq⟩ : ∃ q, k0 + (k : Int) = q := ⟨_, rfl⟩
      have hp' : (wr.setCell ⟨p, k, none⟩ (.int .i64 q)).heap[p]? = some (.cells (c.setIfInBounds k (.int .i64 q)) 2 (0, 0)) := heap_set hp k _
      have HC1 : Hid (∀ i : Nat, i < k + 1 → (c.setIfInBounds k (.int .i64 q))[i]? = some (.int .i64 (k0 + (i : Int)))) := Lib.hid (fun i hi => by
        rw [Array.getElem?_setIfInBounds]
        by_cases hik : k = i
        · subst hik
          rw [if_pos rfl, if_pos (by omega), hq]
        · rw [if_neg hik]
          exact HC.out i (by omega))
      have hs' : n ≤ (c.setIfInBounds k (.int .i64 q)).size := by simpa using hs
      have HZ' := Lib.hid (show (c.setIfInBounds k (.int .i64 q)).size = sz by simpa using hz)
      have hw : IntKind.i64.wrap (q + 1) = q + 1 := IntWalk.i64_in _ (by omega)
      have hg' : w.grownBy (wr.setCell ⟨p, k, none⟩ (.int .i64 q)) (some p) := ⟨hg.os, hg.tape, hg.output, by rw [World.size_setCell]; exact hg.size, fun j hj hne => by
        rw [show (wr.setCell ⟨p, k, none⟩ (.int .i64 q)).heap[j]? = wr.heap[j]? by
          have : p ≠ j := fun e => hne (by rw [e])
          simp [World.setCell, Array.getElem?_modify, this]]
        exact hg.block j hj hne⟩
      have HQ := Lib.hid hq
      clear hr hp HC hz
      go_wp2_with fail
      go_roundw
      case rel => exact ⟨k + 1, by omega, by go_num, by rw [show k0 + ((k + 1 : Nat) : Int) = q + 1 by have := HQ.out; omega], .inr ⟨p, _, rfl, rfl, hp', hs', HZ'.out, HC1⟩, hg'⟩
      case measure => simp [intOf]; omega
    · have e : k = n := by omega
      have hH : RowHas wr x n k0 ∧ RowIn wr x n row sz := by
        rcases hr with hr | ⟨p, c, ex, er, hp, hs, hz, HC⟩
        · exact ⟨.inl hr, .inl hr⟩
        · exact ⟨.inr ⟨p, c, ex, hp, fun i hi => HC.out i (by omega)⟩, .inr ⟨p, c, ex, er, hp, hs, hz⟩⟩
      have HE := Lib.hid e
      clear e hr
      go_wp2_with fail
      go_returns
      exact ⟨by rw [HE.out]; rfl, hH.1, hH.2, hg⟩
set_option maxHeartbeats 1000000 in
theorem heldInts_c (n : Nat) (hn : n ≤ 1048576) (k0 : Int) (h0 : 0 ≤ k0) (h1 : k0 ≤ 8388608) (x : Option Addr) (cap : Nat) (w : World) (h : RowHas w x n k0) :
    Calls Try.prog 35 #[.slice x n cap, .int .i64 k0] w fun e w' => e = .returned (.int .i64 (k0 + n)) ∧ Below w.heap.size w w' := by
  go_enter Try.func35, Try.ntmps35
  go_wp2
  go_loop [1, 5] (fun m i => ∃ k : Nat, k ≤ n ∧ i = .int .i64 k ∧ m = .int .i64 (k0 + k)) (fun _ i => n - (intOf i).toNat)
  case atStart => exact ⟨0, Nat.zero_le _, rfl, by simp⟩
  case round =>
    obtain ⟨k, hk, rfl, rfl⟩ := hrel
    by_cases hlt : k < n
    · obtain ⟨p, c, rfl, hp, hc⟩ := h.resolve_left (by omega)
      have hcell : w.cell? ⟨p, k, none⟩ = some (.int .i64 (k0 + (k : Int))) := by simp [World.cell?, hp, hc k hlt]
      obtain ⟨q, hq⟩ : ∃ q, k0 + (k : Int) = q := ⟨_, rfl⟩
      rw [hq] at hcell
      have hw : IntKind.i64.wrap (q + 1) = q + 1 := IntWalk.i64_in _ (by omega)
      have HQ := Lib.hid hq
      go_wp2_with fail
      go_round
      case rel => exact ⟨k + 1, by omega, by go_num, by rw [show k0 + ((k + 1 : Nat) : Int) = q + 1 by have := HQ.out; omega]⟩
      case measure => simp [intOf]; omega
    · have HE := Lib.hid (show k = n by omega)
      go_wp2_with fail
      go_returns
      exact ⟨by rw [HE.out]; rfl, Below.refl _ _⟩
theorem markRow_c (a : Nat) (ha : a ≤ 1048576) (k0 : Int) (h0 : 0 ≤ k0) (h1 : k0 ≤ 8388608) (p : Nat) (c : Array Value) (cap : Nat) (w : World) (h : w.heap[p]? = some (.cells c 2 (0, 0))) (hs : a ≤ c.size) :
    Calls Try.prog 34 #[.slice (some ⟨p, 0, none⟩) a cap, .int .i64 k0] w fun e w' => e = .returned (.int .i64 (k0 + a)) ∧ (∃ c', w'.heap[p]? = some (.cells c' 2 (0, 0)) ∧ c'.size = c.size) ∧ w.grownBy w' (some p) := by
  by_cases h0' : a = 0
  · subst h0'
    refine (markInts_c 0 (by omega) k0 h0 h1 (some ⟨p, 0, none⟩) cap none 0 w (.inl rfl)).mono ?_
    rintro e w' ⟨rfl, _, _, hg⟩
    exact ⟨rfl, ⟨c, (hg.block p (Array.getElem?_eq_some_iff.1 h).1 (by simp)).trans h, rfl⟩, ⟨hg.os, hg.tape, hg.output, hg.size, fun k hk _ => hg.block k hk (by simp)⟩⟩
  · refine (markInts_c a ha k0 h0 h1 (some ⟨p, 0, none⟩) cap (some p) c.size w (.inr ⟨p, c, rfl, rfl, h, hs, rfl⟩)).mono ?_
    rintro e w' ⟨rfl, _, hr, hg⟩
    obtain ⟨p', c', e, _, hp, _, hz⟩ := hr.resolve_left h0'
    simp only [Option.some.injEq, Addr.mk.injEq] at e
    obtain ⟨rfl, _⟩ := e
    exact ⟨rfl, ⟨c', hp, hz⟩, hg⟩
/-- Of nodes of these many peers each: what may be written; all of it lies from g on and ahead of hi. -/
def NdMark (hi : Nat) (w : World) (g : Nat) (ns : List Nat) : Prop :=
  g < hi ∧ ∃ cur : Array Value, w.heap[g]? = some (.cells cur 31 (0, 0)) ∧ ∀ i n, ns[i]? = some n → ∃ p c, g < p ∧ p < hi ∧ (∃ u, cur[i * 4]? = some u) ∧ cur[i * 4 + 1]? = some (.slice (some ⟨p, 0, none⟩) n n) ∧ (∃ u, cur[i * 4 + 2]? = some u) ∧ (∃ u, cur[i * 4 + 3]? = some u) ∧ w.heap[p]? = some (.cells c 2 (0, 0)) ∧ n ≤ c.size
theorem NdTab.mark {m g : Nat} {w : World} {l : List Nd} (h : NdTab m w g l) : NdMark w.heap.size w g (l.map fun v => v.peers.length) := by
  refine ⟨h.lt, ?_⟩
  obtain ⟨cur, h1, h2, h3, h4⟩ := h
  refine ⟨cur, h1, fun i n hi => ?_⟩
  rw [List.getElem?_map] at hi
  cases hv : l[i]? with
  | none => rw [hv] at hi; cases hi
  | some v =>
    rw [hv] at hi
    simp only [Option.map_some, Option.some.injEq] at hi
    subst hi
    obtain ⟨p, hp, c0, c1, c2, c3, hI, hm⟩ := h4 i v hv
    have hlt := hI.lt
    obtain ⟨c, d1, d2, _⟩ := hI
    exact ⟨p, c, hp, hlt, ⟨_, c0⟩, c1, ⟨_, c2⟩, ⟨_, c3⟩, d1, by omega⟩
theorem NdMark.keep {hi g : Nat} {w w' : World} {ns : List Nat} (h : NdMark hi w g ns) (hk : ∀ b, g ≤ b → b < hi → w'.heap[b]? = w.heap[b]?) : NdMark hi w' g ns := by
  obtain ⟨hg, cur, h1, h2⟩ := h
  refine ⟨hg, cur, (hk g (Nat.le_refl _) hg).trans h1, fun i n hin => ?_⟩
  obtain ⟨p, c, p1, p2, c0, c1, c2, c3, d1, d2⟩ := h2 i n hin
  exact ⟨p, c, p1, p2, c0, c1, c2, c3, (hk p (by omega) p2).trans d1, d2⟩
/-- Nothing has turned but between these blocks. -/
structure TurnIn (g hi : Nat) (w w' : World) : Prop where
  os : w'.os = w.os
  tape : w'.tape = w.tape
  output : w'.output = w.output
  size : w.heap.size ≤ w'.heap.size
  block : ∀ b, b < w.heap.size → (b < g ∨ hi ≤ b) → w'.heap[b]? = w.heap[b]?
theorem TurnIn.refl (g hi : Nat) (w : World) : TurnIn g hi w w := ⟨rfl, rfl, rfl, Nat.le_refl _, fun _ _ _ => rfl⟩
theorem TurnIn.set {g hi : Nat} {w a : World} (h : TurnIn g hi w a) {b : Nat} (h1 : g ≤ b) (h2 : b < hi) (o : Nat) (v : Value) : TurnIn g hi w (a.setCell ⟨b, o, none⟩ v) :=
  ⟨h.os, h.tape, h.output, by rw [World.size_setCell]; exact h.size, fun j hj hn => by
    rw [show (a.setCell ⟨b, o, none⟩ v).heap[j]? = a.heap[j]? by
      have : b ≠ j := by omega
      simp [World.setCell, Array.getElem?_modify, this]]
    exact h.block j hj hn⟩
theorem TurnIn.row {g hi p : Nat} {w a b : World} (h : TurnIn g hi w a) (hg : a.grownBy b (some p)) (h1 : g ≤ p) (h2 : p < hi) : TurnIn g hi w b :=
  ⟨hg.os.trans h.os, hg.tape.trans h.tape, hg.output.trans h.output, Nat.le_trans h.size hg.size, fun j hj hn => (hg.block j (Nat.lt_of_lt_of_le hj h.size) (fun e => by simp only [Option.some.injEq] at e; omega)).trans (h.block j hj hn)⟩
theorem TurnIn.below {g hi B : Nat} {w a b : World} (hw : Below B w a) (h : TurnIn g hi a b) (hB : B ≤ g) (hs : B ≤ a.heap.size) : Below B w b :=
  ⟨h.os.trans hw.os, h.tape.trans hw.tape, h.output.trans hw.output, Nat.le_trans hw.size h.size, fun j hj => (h.block j (by omega) (.inl (by omega))).trans (hw.block j hj)⟩
def sumNs (ns : List Nat) (k : Nat) : Nat := ((ns.take k).map (· + 3)).sum
theorem sumNs_next {ns : List Nat} {k n : Nat} (h : ns[k]? = some n) : sumNs ns (k + 1) = sumNs ns k + (n + 3) := by
  unfold sumNs
  rw [List.take_add_one, h]
  simp
theorem sumNs_le (ns : List Nat) (k : Nat) : sumNs ns k ≤ sumNs ns ns.length := by
  unfold sumNs
  have := List.take_append_drop k ns
  rw [List.take_length]
  conv => rhs; rw [← this]
  rw [List.map_append, List.sum_append]
  omega
set_option maxRecDepth 100000 in
set_option maxHeartbeats 4000000 in
theorem markNodeS_c (ns : List Nat) (n : Nat) (hn : Hid (n = ns.length)) (hm : n ≤ 1048576) (hs : sumNs ns ns.length ≤ 8388000) (ha8 : ∀ a ∈ ns, a ≤ 1048576) (hi g cap : Nat) (w : World) (h : NdMark hi w g ns) :
    Calls Try.prog 21 #[.slice (some ⟨g, 0, none⟩) n cap, .int .i64 1] w fun e w' => ∃ k : Int, e = .returned (.int .i64 k) ∧ 0 ≤ k ∧ TurnIn g hi w w' := by
  go_enter Try.func21, Try.ntmps21
  go_wp2
  go_loopw [1, 5] (fun m i wr => ∃ (k : Nat) (q : Int), k ≤ n ∧ i = .int .i64 k ∧ m = .int .i64 q ∧ Hid (q = 1 + (sumNs ns k : Int)) ∧ 0 ≤ q ∧ NdMark hi wr g ns ∧ TurnIn g hi w wr) (fun _ i _ => n - (intOf i).toNat)
  case atStart => exact ⟨0, 1, Nat.zero_le _, rfl, rfl, Lib.hid (by simp [sumNs]), by omega, h, TurnIn.refl _ _ _⟩
  case round =>
    obtain ⟨k, q, hk, rfl, rfl, HQ, q0, hM, hT⟩ := hrel
    by_cases hlt : k < n
    · obtain ⟨a, ha⟩ : ∃ a, ns[k]? = some a := ⟨ns[k]'(by rw [← hn.out]; exact hlt), List.getElem?_eq_getElem _⟩
      have hnx := sumNs_next ha
      have hle := sumNs_le ns (k + 1)
      have hq := HQ.out
      have hqb : q + a + 3 ≤ 8388608 := by omega
      have ha1 : a ≤ 1048576 := ha8 a (List.mem_of_getElem? ha)
      have HNX := Lib.hid hnx
      obtain ⟨hgi, cur, G0, hcur⟩ := hM
      obtain ⟨p, c, p1, p2, ⟨u0, d0⟩, d1, ⟨u2, d2⟩, ⟨u3, d3⟩, hp, hac⟩ := hcur k a ha
      obtain ⟨r, hr⟩ : ∃ r, Int.tmod q 3 = r := ⟨_, rfl⟩
      have hr0 : 0 ≤ r ∧ r < 3 := by
        rw [← hr, Int.tmod_eq_emod_of_nonneg q0]
        omega
      have hwr : IntKind.i64.wrap r = r := IntWalk.i64_in _ (by omega)
      obtain ⟨b, hbb⟩ : ∃ b, (r == 0) = b := ⟨_, rfl⟩
      have hw1 : IntKind.i64.wrap (q + 1) = q + 1 := IntWalk.i64_in _ (by omega)
      have e0 : wr.cell? ⟨g, k * 4, none⟩ = some u0 := by simp [World.cell?, G0, d0]
      have f0 : wr.frozen? ⟨g, k * 4, none⟩ = false := by simp [World.frozen?, G0]
      have G1 : (wr.setCell ⟨g, k * 4, none⟩ (.bool b)).heap[g]? = some (.cells (cur.setIfInBounds (k * 4) (.bool b)) 31 (0, 0)) := heap_set G0 _ _
      have P1 : (wr.setCell ⟨g, k * 4, none⟩ (.bool b)).heap[p]? = some (.cells c 2 (0, 0)) := blk_other hp (by omega) _ _
      have e1 : (wr.setCell ⟨g, k * 4, none⟩ (.bool b)).cell? ⟨g, k * 4 + 1, none⟩ = some (.slice (some ⟨p, 0, none⟩) a a) := by
        have : (cur.setIfInBounds (k * 4) (.bool b))[k * 4 + 1]? = some (.slice (some ⟨p, 0, none⟩) a a) := by rw [Array.getElem?_setIfInBounds, if_neg (by omega)]; exact d1
        simp [World.cell?, G1, this]
      have T1 := hT.set (b := g) (Nat.le_refl _) hgi (k * 4) (.bool b)
      have HCU := Lib.hid hcur
      have HP0 := Lib.hid hp
      have HMR := Lib.hid (markRow_c a (by omega) (q + 1) (by omega) (by omega) p c a _ P1 hac)
      have D1 := Lib.hid d1
      have D2 := Lib.hid d2
      have D3 := Lib.hid d3
      clear hcur d0 d1 d2 d3 hp hnx hle hr0 ha hq hac
      go_upto_region 6 with (fail)
      have HPP := Lib.hid HP0.out
      have HKW : Hid (∀ (p' : Nat) (c0 : Array Value), p' ≠ g → wr.heap[p']? = some (.cells c0 2 (0, 0)) → (wr.setCell ⟨g, k * 4, none⟩ (.bool b)).heap[p']? = some (.cells c0 2 (0, 0))) := Lib.hid (fun p' c0 hne h => blk_other h (Ne.symm hne) _ _)
      generalize hW1 : wr.setCell ⟨g, k * 4, none⟩ (.bool b) = W1 at *
      clear hW1 e0 f0
      go_wp2_with fail
      refine HMR.out.mono ?_
      rintro e w2 ⟨rfl, ⟨c', P2, hcs⟩, hg2⟩
      have G2 := (hg2.block g (Array.getElem?_eq_some_iff.1 G1).1 (by simp; omega)).trans G1
      have T2 := T1.row hg2 (by omega) p2
      obtain ⟨s, hs2⟩ : ∃ s, q + 1 + (a : Int) = s := ⟨_, rfl⟩
      have hs0 : 0 ≤ s ∧ s ≤ 8388608 := by omega
      have hw2 : IntKind.i64.wrap (s + 1) = s + 1 := IntWalk.i64_in _ (by omega)
      have hw3 : IntKind.i64.wrap (s + 1 + 1) = s + 1 + 1 := IntWalk.i64_in _ (by omega)
      have e2 : w2.cell? ⟨g, k * 4 + 2, none⟩ = some u2 := by
        have : (cur.setIfInBounds (k * 4) (.bool b))[k * 4 + 2]? = some u2 := by rw [Array.getElem?_setIfInBounds, if_neg (by omega)]; exact D2.out
        simp [World.cell?, G2, this]
      have e3 : w2.cell? ⟨g, k * 4 + 3, none⟩ = some u3 := by
        have : (cur.setIfInBounds (k * 4) (.bool b))[k * 4 + 3]? = some u3 := by rw [Array.getElem?_setIfInBounds, if_neg (by omega)]; exact D3.out
        simp [World.cell?, G2, this]
      have f2 : w2.frozen? ⟨g, k * 4 + 2, none⟩ = false := by simp [World.frozen?, G2]
      have f3 : w2.frozen? ⟨g, k * 4 + 3, none⟩ = false := by simp [World.frozen?, G2]
      have G4 : ((w2.setCell ⟨g, k * 4 + 2, none⟩ (.int .i64 s)).setCell ⟨g, k * 4 + 3, none⟩ (.int .i64 (s + 1))).heap[g]? = some (.cells (((cur.setIfInBounds (k * 4) (.bool b)).setIfInBounds (k * 4 + 2) (.int .i64 s)).setIfInBounds (k * 4 + 3) (.int .i64 (s + 1))) 31 (0, 0)) := heap_set (heap_set G2 _ _) _ _
      have T4 := (T2.set (b := g) (Nat.le_refl _) hgi (k * 4 + 2) (.int .i64 s)).set (b := g) (Nat.le_refl _) hgi (k * 4 + 3) (.int .i64 (s + 1))
      have M4 : NdMark hi ((w2.setCell ⟨g, k * 4 + 2, none⟩ (.int .i64 s)).setCell ⟨g, k * 4 + 3, none⟩ (.int .i64 (s + 1))) g ns := by
        refine ⟨hgi, _, G4, fun i n' hin => ?_⟩
        obtain ⟨p', c0, q1, q2, ⟨v0, y0⟩, y1, ⟨v2, y2⟩, ⟨v3, y3⟩, hp', hn'⟩ := HCU.out i n' hin
        have hex : ∀ j u, cur[j]? = some u → ∃ u', (((cur.setIfInBounds (k * 4) (.bool b)).setIfInBounds (k * 4 + 2) (.int .i64 s)).setIfInBounds (k * 4 + 3) (.int .i64 (s + 1)))[j]? = some u' := fun j u hj => by
          have hjl := (Array.getElem?_eq_some_iff.1 hj).1
          exact ⟨_, Array.getElem?_eq_getElem (by simpa using hjl)⟩
        have hslice : (((cur.setIfInBounds (k * 4) (.bool b)).setIfInBounds (k * 4 + 2) (.int .i64 s)).setIfInBounds (k * 4 + 3) (.int .i64 (s + 1)))[i * 4 + 1]? = some (.slice (some ⟨p', 0, none⟩) n' n') := by
          rw [Array.getElem?_setIfInBounds, if_neg (by omega), Array.getElem?_setIfInBounds, if_neg (by omega), Array.getElem?_setIfInBounds, if_neg (by omega)]
          exact y1
        by_cases hpp : p' = p
        · subst hpp
          have P0 : wr.heap[p']? = some (.cells c 2 (0, 0)) := HPP.out
          rw [hp'] at P0
          simp only [Option.some.injEq, Obj.cells.injEq, true_and, and_true] at P0
          subst P0
          exact ⟨p', c', q1, q2, hex _ _ y0, hslice, hex _ _ y2, hex _ _ y3, blk_other (blk_other P2 (by omega) _ _) (by omega) _ _, by omega⟩
        · have hW : W1.heap[p']? = some (.cells c0 2 (0, 0)) := HKW.out p' c0 (by omega) hp'
          exact ⟨p', c0, q1, q2, hex _ _ y0, hslice, hex _ _ y2, hex _ _ y3, blk_other (blk_other ((hg2.block p' (Array.getElem?_eq_some_iff.1 hW).1 (by simp; exact hpp)).trans hW) (by omega) _ _) (by omega) _ _, hn'⟩
      have HS2 := Lib.hid hs2
      clear HCU HMR
      go_wp2_with fail
      go_roundw
      case rel => exact ⟨k + 1, s + 1 + 1, by omega, by go_num, rfl, Lib.hid (by have := HQ.out; have := HNX.out; have := HS2.out; omega), by omega, M4, T4⟩
      case measure => simp [intOf]; omega
    · go_wp2_with fail
      go_returns
      exact ⟨_, rfl, q0, hT⟩
end Go.Proofs.Ytnnhcgnagmdheaa
