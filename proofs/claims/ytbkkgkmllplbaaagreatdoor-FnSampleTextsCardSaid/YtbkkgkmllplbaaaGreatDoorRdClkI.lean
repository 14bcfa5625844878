/- A clock read back from its text: the program's way. -/
import Derived.Test.YtbkkgkmllplbaaaGreatDoorRdNumI
namespace Go.Proofs.YtbkkgkmllplbaaaGreatDoor
open Go.ChangeShapes Go.WideShapes Go.ChangeAt Go.RowKit Go.Sort
set_option linter.unusedVariables false
set_option linter.unusedSimpArgs false

attribute [local go_sem] detQuiet detUpon Cls
theorem told_words {s : ByteArray} {a b d e f : Int} (h : Told readV (wordsOf s) [a, b, d, e, f]) : (⟨a, b, d, e, f⟩ : Ck).words = s := by
  have h1 := h.read.1
  simp only [List.map_cons, List.map_nil] at h1
  rcases of_wordsOf h1 with ⟨h, _⟩ | ⟨s1, e1, h2⟩
  · cases h
  rcases of_wordsOf h2 with ⟨h, _⟩ | ⟨s2, e2, h3⟩
  · cases h
  rcases of_wordsOf h3 with ⟨h, _⟩ | ⟨s3, e3, h4⟩
  · cases h
  rcases of_wordsOf h4 with ⟨h, _⟩ | ⟨s4, e4, h5⟩
  · cases h
  rcases of_wordsOf h5 with ⟨_, e5⟩ | ⟨s5, _, h6⟩
  · rw [e1, e2, e3, e4, e5]
    unfold Ck.words
    simp only [ByteArray.append_assoc]
  · have := wordsOf_pos s5
    rw [h6] at this
    simp at this
end Go.Proofs.YtbkkgkmllplbaaaGreatDoor
