/- What is put together of peers: the program's way. -/
import Derived.Test.YtfcmcelhndppnaaDoorCombM
import Derived.Test.YtfcmcelhndppnaaDoorPtrs
namespace Go.Proofs.YtfcmcelhndppnaaDoor
open Go.ChangeShapes Go.WideShapes Go.ChangeAt Go.RowKit Go.Sort
set_option linter.unusedVariables false
set_option linter.unusedSimpArgs false

theorem own_ptrs {w : World} {base n b off : Nat} {v : Value} {l : List Pr} (h : w.ownsRow base 62 1 v n (ptrsTo b off n)) (hp : Prs w.heap.size w (some ⟨b, off, none⟩) l) (hn : n = l.length) :
    ∃ y cap, v = .slice y n cap ∧ PtrPrs w.heap.size w y l := by
  have hc := fun g (hg : v.ownBlock = some g) => h.cells hg
  have hlt := h.lt
  rcases h.2 with ⟨rfl, rfl⟩ | ⟨g, cap, cur, rfl, _⟩
  · exact ⟨_, _, rfl, .inl (by
      cases l with
      | nil => rfl
      | cons a l => simp at hn)⟩
  · refine ⟨_, _, rfl, .inr ⟨g, 0, rfl, (hlt g rfl).2, fun i u hi => ?_⟩⟩
    have hil : i < n := by
      have := (List.getElem?_eq_some_iff.1 hi).1
      omega
    have := hc g rfl i _ (ptrsTo_at hil)
    refine ⟨_, ?_, hp.to_at hi⟩
    have hadd : (⟨g, 0, none⟩ : Addr).add i = ⟨g, 0 + i, none⟩ := by unfold Addr.add; split <;> simp_all
    rw [hadd] at this
    exact this
end Go.Proofs.YtfcmcelhndppnaaDoor
