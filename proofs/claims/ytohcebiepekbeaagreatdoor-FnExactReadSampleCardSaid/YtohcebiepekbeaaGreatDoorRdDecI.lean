/- Numbers with blanks between, read: the program's way, by the library's contracts. -/
import Derived.Shelf.LaysC
import Derived.Shelf.Strings.SplitShaped
import Derived.Shelf.Strings.PiecesUse
import Derived.Shelf.Strconv.ErrVarParseInt
import Derived.Lib.AtoiErrMem
import Derived.Test.YtohcebiepekbeaaGreatDoorRdClkS
import Derived.Test.YtohcebiepekbeaaGreatDoorFrameL
namespace Go.Proofs
open Go.Shelf
shelf_lay LaysM.n146 Nm 146 at Tryz as Tryz.laysM146
shelf_lay LaysC.n174 Nm 174 at Tryz as Tryz.laysC174
end Go.Proofs
namespace Go.Proofs.YtohcebiepekbeaaGreatDoor
open Go.ChangeShapes Go.WideShapes Go.ChangeAt Go.RowKit Go.Sort
set_option linter.unusedVariables false
set_option linter.unusedSimpArgs false

theorem cell_ltD {W : World} {a : Addr} {v : Value} (h : W.cell? a = some v) : a.block < W.heap.size := by
  rcases Nat.lt_or_ge a.block W.heap.size with h' | h'
  · exact h'
  · simp [World.cell?, Array.getElem?_eq_none h'] at h
/-- What reading leans on: the table, a number that the processor tells, two errors. -/
structure DecW (w : World) : Prop where
  pow : Pow w
  mx : ∃ m, w.cell? ⟨5, 0, none⟩ = some (.int .i64 m)
  syn : ∃ t p, w.var? Tryz.prog "strconv.ErrSyntax" = some #[.iface t p]
  rng : ∃ t p, w.var? Tryz.prog "strconv.ErrRange" = some #[.iface t p]
theorem var_lt {w : World} {n : String} {g : Nat} {cs : Array Value} (hg : Tryz.prog.globalNamed n = some g) (h : w.var? Tryz.prog n = some cs) : g < w.heap.size := by
  unfold World.var? at h
  rw [hg] at h
  simp only [Option.bind_some] at h
  rcases Nat.lt_or_ge g w.heap.size with h' | h'
  · exact h'
  · rw [Array.getElem?_eq_none h'] at h; cases h
theorem DecW.next {w w' : World} (h : DecW w) (hb : Below w.heap.size w w') : DecW w' := by
  obtain ⟨m, hm⟩ := h.mx
  obtain ⟨t, p, hs⟩ := h.syn
  obtain ⟨t', p', hr⟩ := h.rng
  have g1 : Tryz.prog.globalNamed "strconv.ErrSyntax" = some 8 := by kernel_rfl
  have g2 : Tryz.prog.globalNamed "strconv.ErrRange" = some 9 := by kernel_rfl
  exact ⟨h.pow.next hb, ⟨m, (hb.cell (p := ⟨5, 0, none⟩) (cell_ltD hm)).trans hm⟩, ⟨t, p, var?_below hb g1 (var_lt g1 hs) hs⟩, ⟨t', p', var?_below hb g2 (var_lt g2 hr) hr⟩⟩
theorem split_c (s : ByteArray) (hs : s.size ≤ 1048576) (w : World) (h : DecW w) :
    Calls Tryz.prog 57 #[.string s, .string ⟨#[32]⟩] w fun e w' => e = .returned (.slice (some ⟨w.heap.size, 0, none⟩) (wordsOf s).length (wordsOf s).length) ∧ w' = w.alloc (.cells ((wordsOf s).map Value.string).toArray 9) := by
  obtain ⟨m, hm⟩ := h.mx
  refine (Any.strings_Split { Tryz.laysM146 with } Tryz.laysM146.i9 s ⟨#[32]⟩ m w (by omega) hm (by decide)).mono fun e w' ⟨he, hw⟩ => ?_
  rw [wordsOf_length]
  exact ⟨he, hw⟩
theorem parse_c (s : ByteArray) (hs : s.size ≤ 1048576) (w : World) (h : DecW w) :
    Calls Tryz.prog 110 #[.string s, .int .i64 10, .int .i64 64] w fun e w' => Below w.heap.size w w' ∧
      ((∃ v, Lib.parseIntB 64 s.data.toList = .ok v ∧ e = .returned (.tuple #[.int .i64 v, .nilIface])) ∨ ((∀ v, Lib.parseIntB 64 s.data.toList ≠ .ok v) ∧ ∃ v t p, e = .returned (.tuple #[.int .i64 v, .iface t (.pointer (some p))]))) := by
  obtain ⟨t, p, hsy⟩ := h.syn
  obtain ⟨t', p', hr⟩ := h.rng
  cases hp : Lib.parseIntB 64 s.data.toList with
  | ok v =>
    refine (Any.strconv_ParseInt_10_at64_ok Tryz.laysC174 s (by omega) v hp w).mono fun e w' ⟨he, hw⟩ => ⟨?_, .inl ⟨v, rfl, he⟩⟩
    rcases hw with rfl | ⟨u, rfl⟩
    · exact Below.refl _ _
    · exact Lib.bytesWorld_below _ _ _
  | «syntax» => exact (Any.strconv_ParseInt_10_at64_syntax_var Tryz.laysC174 s (by omega) hp t p w hsy).mono fun e w' ⟨N, he, _, _, hb⟩ => ⟨hb, .inr ⟨fun v hv => (by cases hv), _, _, _, he⟩⟩
  | range => exact (Any.strconv_ParseInt_10_at64_range_var Tryz.laysC174 s (by omega) hp t' p' w hr).mono fun e w' ⟨N, he, _, _, hb⟩ => ⟨hb, .inr ⟨fun v hv => (by cases hv), _, _, _, he⟩⟩
end Go.Proofs.YtohcebiepekbeaaGreatDoor
