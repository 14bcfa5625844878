/- Marks that the laws write into rows of numbers and into nodes, and look at again. -/
import Derived.Test.YtdapongofiohgaaNdTo
namespace Go.Proofs.Ytdapongofiohgaa
open Go.ChangeShapes Go.WideShapes Go.ChangeAt Go.RowKit
set_option linter.unusedVariables false
set_option linter.unusedSimpArgs false

/-- A row of n numbers that may be written, at the head of block p; or none. -/
def RowIn (w : World) (x : Option Addr) (n : Nat) (row : Option Nat) (sz : Nat) : Prop :=
  n = 0 ∨ ∃ p c, x = some ⟨p, 0, none⟩ ∧ row = some p ∧ w.heap[p]? = some (.cells c 2 (0, 0)) ∧ n ≤ c.size ∧ c.size = sz
/-- A row that holds these marks. -/
def RowHas (w : World) (x : Option Addr) (n : Nat) (k0 : Int) : Prop :=
  n = 0 ∨ ∃ p c, x = some ⟨p, 0, none⟩ ∧ w.heap[p]? = some (.cells c 2 (0, 0)) ∧ ∀ i : Nat, i < n → c[i]? = some (.int .i64 (k0 + (i : Int)))
theorem RowHas.keep {w w' : World} {x : Option Addr} {n : Nat} {k0 : Int} (h : RowHas w x n k0) (hk : ∀ p, x = some ⟨p, 0, none⟩ → p < w.heap.size → w'.heap[p]? = w.heap[p]?) : RowHas w' x n k0 := by
  rcases h with h | ⟨p, c, e, hp, hc⟩
  · exact .inl h
  · exact .inr ⟨p, c, e, (hk p e (Array.getElem?_eq_some_iff.1 hp).1).trans hp, hc⟩
theorem RowHas.next {w w' : World} {x : Option Addr} {n : Nat} {k0 : Int} (h : RowHas w x n k0) (hb : Below w.heap.size w w') : RowHas w' x n k0 := h.keep (fun p _ hlt => hb.block p hlt)
/-- Of nodes of these many peers each: what may be written; all of it lies from g on and ahead of hi. -/
def NdMark (hi : Nat) (w : World) (g : Nat) (ns : List Nat) : Prop :=
  g < hi ∧ ∃ cur : Array Value, w.heap[g]? = some (.cells cur 48 (0, 0)) ∧ ∀ i n, ns[i]? = some n → ∃ p c, g < p ∧ p < hi ∧ (∃ u, cur[i * 4]? = some u) ∧ cur[i * 4 + 1]? = some (.slice (some ⟨p, 0, none⟩) n n) ∧ (∃ u, cur[i * 4 + 2]? = some u) ∧ (∃ u, cur[i * 4 + 3]? = some u) ∧ w.heap[p]? = some (.cells c 2 (0, 0)) ∧ n ≤ c.size
theorem NdTab.mark {m g : Nat} {w : World} {l : List Nd} (h : NdTab m w g l) : NdMark w.heap.size w g (l.map fun v => v.peers.length) := by
  refine ⟨h.lt, ?_⟩
  obtain ⟨cur, h1, h2, h3, h4⟩ := h
  refine ⟨cur, h1, fun i n hi => ?_⟩
  rw [List.getElem?_map] at hi
  cases hv : l[i]? with
  | none => rw [hv] at hi; cases hi
  | some v =>
    rw [hv] at hi
    simp only [Option.map_some, Option.some.injEq] at hi
    subst hi
    obtain ⟨p, hp, c0, c1, c2, c3, hI, hm⟩ := h4 i v hv
    have hlt := hI.lt
    obtain ⟨c, d1, d2, _⟩ := hI
    exact ⟨p, c, hp, hlt, ⟨_, c0⟩, c1, ⟨_, c2⟩, ⟨_, c3⟩, d1, by omega⟩
theorem NdMark.keep {hi g : Nat} {w w' : World} {ns : List Nat} (h : NdMark hi w g ns) (hk : ∀ b, g ≤ b → b < hi → w'.heap[b]? = w.heap[b]?) : NdMark hi w' g ns := by
  obtain ⟨hg, cur, h1, h2⟩ := h
  refine ⟨hg, cur, (hk g (Nat.le_refl _) hg).trans h1, fun i n hin => ?_⟩
  obtain ⟨p, c, p1, p2, c0, c1, c2, c3, d1, d2⟩ := h2 i n hin
  exact ⟨p, c, p1, p2, c0, c1, c2, c3, (hk p (by omega) p2).trans d1, d2⟩
/-- Nothing has turned but between these blocks. -/
structure TurnIn (g hi : Nat) (w w' : World) : Prop where
  os : w'.os = w.os
  tape : w'.tape = w.tape
  output : w'.output = w.output
  size : w.heap.size ≤ w'.heap.size
  block : ∀ b, b < w.heap.size → (b < g ∨ hi ≤ b) → w'.heap[b]? = w.heap[b]?
theorem TurnIn.refl (g hi : Nat) (w : World) : TurnIn g hi w w := ⟨rfl, rfl, rfl, Nat.le_refl _, fun _ _ _ => rfl⟩
theorem TurnIn.set {g hi : Nat} {w a : World} (h : TurnIn g hi w a) {b : Nat} (h1 : g ≤ b) (h2 : b < hi) (o : Nat) (v : Value) : TurnIn g hi w (a.setCell ⟨b, o, none⟩ v) :=
  ⟨h.os, h.tape, h.output, by rw [World.size_setCell]; exact h.size, fun j hj hn => by
    rw [show (a.setCell ⟨b, o, none⟩ v).heap[j]? = a.heap[j]? by
      have : b ≠ j := by omega
      simp [World.setCell, Array.getElem?_modify, this]]
    exact h.block j hj hn⟩
theorem TurnIn.row {g hi p : Nat} {w a b : World} (h : TurnIn g hi w a) (hg : a.grownBy b (some p)) (h1 : g ≤ p) (h2 : p < hi) : TurnIn g hi w b :=
  ⟨hg.os.trans h.os, hg.tape.trans h.tape, hg.output.trans h.output, Nat.le_trans h.size hg.size, fun j hj hn => (hg.block j (Nat.lt_of_lt_of_le hj h.size) (fun e => by simp only [Option.some.injEq] at e; omega)).trans (h.block j hj hn)⟩
theorem TurnIn.below {g hi B : Nat} {w a b : World} (hw : Below B w a) (h : TurnIn g hi a b) (hB : B ≤ g) (hs : B ≤ a.heap.size) : Below B w b :=
  ⟨h.os.trans hw.os, h.tape.trans hw.tape, h.output.trans hw.output, Nat.le_trans hw.size h.size, fun j hj => (h.block j (by omega) (.inl (by omega))).trans (hw.block j hj)⟩
def sumNs (ns : List Nat) (k : Nat) : Nat := ((ns.take k).map (· + 3)).sum
theorem sumNs_next {ns : List Nat} {k n : Nat} (h : ns[k]? = some n) : sumNs ns (k + 1) = sumNs ns k + (n + 3) := by
  unfold sumNs
  rw [List.take_add_one, h]
  simp
theorem sumNs_le (ns : List Nat) (k : Nat) : sumNs ns k ≤ sumNs ns ns.length := by
  unfold sumNs
  have := List.take_append_drop k ns
  rw [List.take_length]
  conv => rhs; rw [← this]
  rw [List.map_append, List.sum_append]
  omega
end Go.Proofs.Ytdapongofiohgaa
