/- A slice of int64s that came in. -/
import Derived.Test.YtckonbbdeohccaaNdRead
namespace Go.Proofs.Ytckonbbdeohccaa
open Go.ChangeShapes Go.WideShapes Go.ChangeAt Go.RowKit
set_option linter.unusedVariables false
set_option linter.unusedSimpArgs false
set_option maxRecDepth 100000

theorem open_i64s {H : Type} {enc : TypeId × Value → H} {w : World} {held : Bool} {r : Reach} {b0 : Nat} {v : Value} {d : DataW H} {q : List MemPlace}
    (hv : Value.okWide Try.prog w r b0 35 v) (h : DataW.Trod enc Try.prog w 0 (fun _ => true) held 35 v d q) :
    ∃ (x : Option Addr) (len cap : Nat) (l : List Int), v = .slice x len cap ∧ (Hid (len = l.length) ∧ len ≤ cap ∧ cap ≤ maxLen ∧ IntsAt w.heap.size w x l) := by
  obtain ⟨a0, len0, cap0, rfl⟩ := okWide_slice Try.underlying35 hv
  obtain ⟨fuel, hf⟩ := h
  rcases open_ints Try.underlying35 Try.underlying2 (by kernel_rfl) hf with ⟨hcs, _⟩ | ⟨x, l, c, zs, hcs, _, hl, hm, hz, _, hcell, hwz⟩
  · simp [Value.cells] at hcs
    obtain ⟨rfl, rfl, rfl⟩ := hcs
    exact ⟨_, _, _, [], rfl, Lib.hid rfl, Nat.le_refl _, Nat.zero_le _, .inl rfl⟩
  · simp [Value.cells] at hcs
    obtain ⟨rfl, rfl, rfl⟩ := hcs
    have hzl : zs.length = cap0 := by simpa using hz
    have hL : (zs.take len0).length = len0 := by rw [List.length_take]; omega
    refine ⟨_, _, _, zs.take len0, rfl, Lib.hid hL.symm, hl, hm, ?_⟩
    by_cases hn : len0 = 0
    · subst hn
      exact .inl rfl
    · right
      obtain ⟨b, off, spot⟩ := x
      have hc0 := hcell 0 (by omega)
      have hspot : spot = none := by simpa [Addr.add] using World.cell?_spot hc0
      subst hspot
      have hadd : ∀ i, (⟨b, off, none⟩ : Addr).add i = ⟨b, off + i, none⟩ := fun i => by unfold Addr.add; split <;> simp_all
      refine ⟨b, off, rfl, World.block_lt_of_cell? w _ (by rw [hadd] at hc0; exact hc0), fun i z j zz hiz hj => ?_⟩
      match j, hj with
      | 0, hj =>
        simp only [List.getElem?_cons_zero, Option.some.injEq] at hj
        subst hj
        have hil : i < len0 := by have := (List.getElem?_eq_some_iff.1 hiz).1; omega
        have hc := hcell i (by omega)
        rw [hadd] at hc
        rw [List.getElem?_take_of_lt hil] at hiz
        rw [show off + i * 1 + 0 = off + i by omega, hc, List.getD_eq_getElem?_getD, hiz]
        rfl
      | j + 1, hj => simp at hj
end Go.Proofs.Ytckonbbdeohccaa
