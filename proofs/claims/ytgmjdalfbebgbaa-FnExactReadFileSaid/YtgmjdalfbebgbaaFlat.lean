/- A struct of int64s, by value, out of its reading. -/
import Derived.Test.YtgmjdalfbebgbaaFrame
namespace Go.Proofs.Ytgmjdalfbebgbaa
open Go.ChangeShapes Go.WideShapes Go.ChangeAt Go.RowKit

/-! ### A struct of int64s, by value -/
def flatInts (P : Program) (fs : Array Field) : Bool :=
  fs.toList.zipIdx.all fun x => x.1.offset == x.2 && P.cellsOf x.1.type == 1 && (match P.underlying x.1.type with | some (.int .i64) => true | _ => false)

theorem list_of_each {α β : Type} (f : β → α) (Q : β → Prop) : ∀ l : List α, (∀ (i : Nat) (x : α), l[i]? = some x → ∃ n, x = f n ∧ Q n) → ∃ ns : List β, l = ns.map f ∧ ∀ n ∈ ns, Q n
  | [], _ => ⟨[], rfl, by simp⟩
  | a :: l, h => by
    obtain ⟨n, rfl, hn⟩ := h 0 a rfl
    obtain ⟨ns, rfl, hns⟩ := list_of_each f Q l (fun i x hx => h (i + 1) x (by simpa using hx))
    exact ⟨n :: ns, rfl, by simpa using ⟨hn, hns⟩⟩

theorem open_flat {H : Type} {enc : TypeId × Value → H} {P : Program} {w : World} {base : Nat} {spare : Nat → Bool} {held : Bool} {r : Reach} {b0 : Nat} {t : TypeId} {fs : Array Field} {v : Value} {d : DataW H} {p : List MemPlace}
    (hs : P.underlying t = some (.struct fs)) (hflat : flatInts P fs = true) (hC : P.cellsOf t = fs.size)
    (hv : Value.okWide P w r b0 t v) (h : DataW.Trod enc P w base spare held t v d p) :
    ∃ ns : List Int, v = .agg (ns.map (Value.int .i64)).toArray ∧ ns.length = fs.size ∧ ∀ n ∈ ns, (Lit.int .i64 n).wf = true := by
  obtain ⟨cs, rfl, hsz⟩ := okWide_struct hs hv
  obtain ⟨fuel, hf⟩ := h
  obtain ⟨xs, n, rfl, hx, hlen, hxl, hfield⟩ := DataW.trod_struct hs hf
  have hlen' : cs.toList.length = fs.size := by simpa [hC] using hsz
  obtain ⟨ns, e, hns⟩ := list_of_each (Value.int .i64) (fun n => (Lit.int .i64 n).wf = true) cs.toList (fun i x hi => by
    have hil : i < cs.toList.length := by
      rcases Nat.lt_or_ge i cs.toList.length with h | h
      · exact h
      · rw [List.getElem?_eq_none h] at hi; cases hi
    have hif : i < fs.size := by omega
    have hfi : fs[i]? = some fs[i] := Array.getElem?_eq_getElem hif
    have hfl := List.all_eq_true.1 hflat (fs[i], i) (by
      rw [List.mem_iff_getElem?]
      exact ⟨i, by simp [hif]⟩)
    simp only [Bool.and_eq_true, beq_iff_eq] at hfl
    obtain ⟨⟨ho, hc⟩, hu⟩ := hfl
    have hu' : P.underlying fs[i].type = some (.int .i64) := by
      split at hu
      · assumption
      · cases hu
    have hk := hfield i fs[i] hfi
    rw [ho, hc] at hk
    have hone : ((Value.agg cs).cells.toList.drop i).take 1 = [x] := by
      have : (Value.agg cs).cells = cs := rfl
      rw [this, List.drop_eq_getElem_cons hil]
      rw [List.getElem?_eq_getElem hil] at hi
      simpa using hi
    rw [hone] at hk
    have hsome : ∃ y, xs[i]? = some y := ⟨xs[i]'(by omega), List.getElem?_eq_getElem (by omega)⟩
    obtain ⟨y, hy⟩ := hsome
    rw [hy] at hk
    obtain ⟨m, e0, _, wm⟩ := DataW.trod_int hu' hk
    simp only [List.cons.injEq, and_true] at e0
    exact ⟨m, e0, wm⟩)
  refine ⟨ns, ?_, ?_, hns⟩
  · congr 1
    rw [← e]
  · have := congrArg List.length e
    simp at this hlen'
    omega
end Go.Proofs.Ytgmjdalfbebgbaa
