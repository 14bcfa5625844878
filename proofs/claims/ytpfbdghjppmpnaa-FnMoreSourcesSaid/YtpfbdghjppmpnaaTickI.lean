/- A tick: whom a node follows then; the program's way. -/
import Derived.Test.YtpfbdghjppmpnaaStage
import Derived.Test.YtpfbdghjppmpnaaLoopsMath
import Derived.Test.YtpfbdghjppmpnaaNdOkI
namespace Go.Proofs.Ytpfbdghjppmpnaa
open Go.ChangeShapes Go.WideShapes Go.ChangeAt Go.RowKit
set_option linter.unusedVariables false
set_option linter.unusedSimpArgs false

def strAt (l : List Nd) (p : Int) : Int := match l[p.toNat]? with | some v => v.str | none => 0
theorem strAt_of {l : List Nd} {p : Int} {v : Nd} (h : l[p.toNat]? = some v) : strAt l p = v.str := by unfold strAt; rw [h]
def bestStepP (l : List Nd) (q : Int × Int) (p : Int) : Int × Int := if strAt l p + 1 < q.2 then (p, strAt l p + 1) else q
/-- The peer of the least stratum, of these the first one, and one more. -/
def bestP (l : List Nd) (ps : List Int) : Int × Int := ps.foldl (bestStepP l) (-1, 16)
theorem bestP_next (l : List Nd) {ps : List Int} {k : Nat} {p : Int} (h : ps[k]? = some p) : bestP l (ps.take (k + 1)) = bestStepP l (bestP l (ps.take k)) p := by
  unfold bestP
  rw [List.take_add_one, h]
  simp
def tickNd (l : List Nd) (v : Nd) : Nd := if v.src then v else ⟨v.src, v.peers, (bestP l v.peers).1, (bestP l v.peers).2⟩
def tickOk (l : List Nd) (a : Int) : Bool := nodesOk l && inB 0 a ((l.length : Int) - 1)
def tickR (l : List Nd) (a : Int) : Nd := if tickOk l a then (match l[a.toNat]? with | some v => tickNd l v | none => zeroNd) else zeroNd
theorem str_in {N a : Int} {v : Nd} (h : ndOk N a v = true) : 1 ≤ v.str ∧ v.str ≤ 16 := by
  have hs := (nd_parts h).2.2
  unfold standsB at hs
  cases hsr : v.src with
  | true =>
    rw [hsr] at hs
    simp only [if_true, Bool.and_eq_true, beq_iff_eq] at hs
    omega
  | false =>
    rw [hsr] at hs
    simp only [Bool.false_eq_true, if_false] at hs
    split at hs
    · have : v.str = 16 := by simpa using hs
      omega
    · simp only [Bool.and_eq_true, inB_iff] at hs
      omega
/-- Everybody's stratum is between 1 and 16. -/
def StrOk (l : List Nd) : Prop := ∀ v ∈ l, 1 ≤ v.str ∧ v.str ≤ 16
theorem strOk_of {l : List Nd} (h : nodesOk l = true) : StrOk l := fun v hv => by
  obtain ⟨j, hj⟩ := List.getElem?_of_mem hv
  exact str_in (nodesOk_at h hj)
theorem strAt_in {l : List Nd} (h : StrOk l) {p : Int} (h0 : 0 ≤ p) (h1 : p < l.length) : 1 ≤ strAt l p ∧ strAt l p ≤ 16 := by
  obtain ⟨v, hv⟩ := getN (l := l) (k := p.toNat) (by omega)
  rw [strAt_of hv]
  exact h v (List.mem_of_getElem? hv)
theorem one_cell' {W : World} {b : Nat} {x0 : Value} {T : TypeId} (e : W.heap[b]? = some (.cells #[x0] T)) : W.cell? ⟨b, 0, none⟩ = some x0 ∧ W.frozen? ⟨b, 0, none⟩ = false := by simp [World.cell?, World.frozen?, e]
theorem np_cells {base : Nat} {w : World} {g cy : Nat} {E : List Np} (h : w.ownsRow base 31 4 (.slice (some ⟨g, 0, none⟩) E.length cy) E.length (flatNp E)) {k : Nat} {e : Np} (he : E[k]? = some e) :
    (w.cell? ⟨g, k * 4, none⟩ = some (.bool e.v.src) ∧ w.cell? ⟨g, k * 4 + 1, none⟩ = some (.slice e.px e.v.peers.length e.pc) ∧ w.cell? ⟨g, k * 4 + 2, none⟩ = some (.int .i64 e.v.ref) ∧ w.cell? ⟨g, k * 4 + 3, none⟩ = some (.int .i64 e.v.str)) ∧ ∀ j, w.frozen? ⟨g, j, none⟩ = false := by
  have hk := (List.getElem?_eq_some_iff.1 he).1
  have h0 := flatNp_at he (j := 0) rfl
  have h1 := flatNp_at he (j := 1) rfl
  have h2 := flatNp_at he (j := 2) rfl
  have h3 := flatNp_at he (j := 3) rfl
  rw [Nat.add_zero] at h0
  refine ⟨⟨?_, ?_, ?_, ?_⟩, fun j => World.ownsRow.frozenAt h j⟩
  · rw [World.ownsRow.cellAt h _ (by omega)]; exact h0
  · rw [World.ownsRow.cellAt h _ (by omega)]; exact h1
  · rw [World.ownsRow.cellAt h _ (by omega)]; exact h2
  · rw [World.ownsRow.cellAt h _ (by omega)]; exact h3
end Go.Proofs.Ytpfbdghjppmpnaa
