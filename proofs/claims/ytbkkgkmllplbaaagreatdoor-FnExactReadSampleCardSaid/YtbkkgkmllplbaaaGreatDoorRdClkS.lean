/- A clock read back from its text: the reference's way. -/
import Derived.Test.YtbkkgkmllplbaaaGreatDoorNumsS
import Derived.Test.YtbkkgkmllplbaaaGreatDoorDetLast
namespace Go.Proofs.YtbkkgkmllplbaaaGreatDoor
open Go.ChangeShapes Go.WideShapes Go.ChangeAt Go.RowKit Go.Sort
set_option linter.unusedVariables false
set_option linter.unusedSimpArgs false

attribute [local go_sem] detQuiet detUpon Cls
/-- What is read: the right clock of this text, if there is one. -/
def ReadIs (s : ByteArray) (c : Ck) (b : Bool) : Prop := (b = true ∧ c.ok = true ∧ c.words = s) ∨ (b = false ∧ c = Ck.zero ∧ ∀ c' : Ck, c'.ok = true → c'.words ≠ s)
def Ck.list (c : Ck) : List Int := [c.st, c.off, c.fr, c.poll, c.calm]
theorem Ck.list_in {c : Ck} (h : c.ok = true) : ∀ x ∈ c.list, -maxDec ≤ x ∧ x ≤ maxDec := by
  obtain ⟨⟨a0, a1⟩, ⟨b0, b1⟩, ⟨c0, c1⟩, ⟨d0, d1⟩, ⟨e0, e1⟩⟩ := Ck.ok_iff.1 h
  intro x hx
  unfold maxDec
  simp only [Ck.list, List.mem_cons, List.not_mem_nil, or_false] at hx
  rcases hx with rfl | rfl | rfl | rfl | rfl <;> omega
theorem wordsOf_words (c : Ck) : wordsOf c.words = c.list.map decB := by
  unfold Ck.words
  rw [ByteArray.append_assoc, ByteArray.append_assoc, ByteArray.append_assoc, ByteArray.append_assoc, ByteArray.append_assoc, ByteArray.append_assoc]
  have hn := fun n => decB_noBl n
  have e : ∀ (a : ByteArray) (t : ByteArray), NoBl a → wordsOf (a ++ (⟨#[32]⟩ ++ t)) = a :: wordsOf t := fun a t h => by
    rw [← ByteArray.append_assoc]; exact wordsOf_cons h
  first
    | rw [e _ _ (hn _), e _ _ (hn _), e _ _ (hn _), e _ _ (hn _), wordsOf_one (hn _)]; rfl
    | (simp only [ByteArray.append_assoc]; rw [e _ _ (hn _), e _ _ (hn _), e _ _ (hn _), e _ _ (hn _), wordsOf_one (hn _)]; rfl)
theorem Ck.of_list {c : Ck} {a b d e f : Int} (h : [a, b, d, e, f] = c.list) : c = ⟨a, b, d, e, f⟩ := by
  unfold Ck.list at h
  simp only [List.cons.injEq, and_true] at h
  obtain ⟨rfl, rfl, rfl, rfl, rfl⟩ := h
  rfl
theorem told_some {f : ByteArray → Option Int} {ws : List ByteArray} {xs ys : List Int} (h : Told f ws xs) (h' : Told f ws ys) : xs = ys := by
  unfold Told at h h'
  rw [h] at h'
  exact List.map_inj_right (fun _ _ => Option.some.inj) |>.1 h'
/-- What was told is the clock's, where one has this text. -/
theorem told_ck {f : ByteArray → Option Int} (hf : ∀ n, (-maxDec ≤ n ∧ n ≤ maxDec) → f (decB n) = some n) {s : ByteArray} {c : Ck} (h : c.ok = true) (hs : c.words = s) : Told f (wordsOf s) c.list := by
  rw [← hs, wordsOf_words]
  exact told_dec hf (Ck.list_in h)
theorem read_no {f : ByteArray → Option Int} (hf : ∀ n, (-maxDec ≤ n ∧ n ≤ maxDec) → f (decB n) = some n) {s : ByteArray} (h : ∀ xs : List Int, xs.length = 5 → ¬ Told f (wordsOf s) xs) : ReadIs s Ck.zero false :=
  .inr ⟨rfl, rfl, fun c' hc hs => h c'.list rfl (told_ck hf hc hs)⟩
theorem ReadIs.same {s : ByteArray} {c c' : Ck} {b b' : Bool} (h : ReadIs s c b) (h' : ReadIs s c' b') : c = c' ∧ b = b' := by
  rcases h with ⟨rfl, hc, hs⟩ | ⟨rfl, rfl, hn⟩
  · rcases h' with ⟨rfl, hc', hs'⟩ | ⟨rfl, rfl, hn'⟩
    · refine ⟨?_, rfl⟩
      have h1 := told_ck readV_dec hc hs
      have h2 := told_ck readV_dec hc' hs'
      exact (Ck.of_list (told_some h1 h2)).symm ▸ rfl
    · exact absurd hs (hn' _ hc)
  · rcases h' with ⟨rfl, hc', hs'⟩ | ⟨rfl, rfl, hn'⟩
    · exact absurd hs' (hn _ hc')
    · exact ⟨rfl, rfl⟩
theorem list5D {l : List Int} (h : l.length = 5) : ∃ a b c d e, l = [a, b, c, d, e] := by
  match l, h with
  | [a, b, c, d, e], _ => exact ⟨a, b, c, d, e, rfl⟩
theorem int_cells {base : Nat} {w : World} {o : Value} {l : List Int} {n : Nat} (hn : l.length = n) (hp : 0 < n) (h : w.ownsRow base 2 1 o n (l.map (Value.int .i64))) : ∃ g cap, o = .slice (some ⟨g, 0, none⟩) n cap ∧ base ≤ g ∧ g < w.heap.size ∧ ∀ (j : Nat) x, l[j]? = some x → w.cell? ⟨g, j, none⟩ = some (.int .i64 x) := by
  rcases id h.2 with ⟨_, h0⟩ | ⟨g, cap, cur, rfl, hb, hg, _⟩
  · omega
  · refine ⟨g, cap, rfl, hb, (Array.getElem?_eq_some_iff.1 hg).1, fun j x hx => ?_⟩
    have hj := (List.getElem?_eq_some_iff.1 hx).1
    rw [World.ownsRow.cellAt h j (by omega), List.getElem?_map, hx]
    rfl
end Go.Proofs.YtbkkgkmllplbaaaGreatDoor
