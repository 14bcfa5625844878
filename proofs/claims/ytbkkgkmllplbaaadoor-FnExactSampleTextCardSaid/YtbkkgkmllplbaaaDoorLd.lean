/- What the package's variables hold when a law's call begins: the handle that errors.As reads, and the reasons of the refusals. -/
import Derived.Test.YtbkkgkmllplbaaaDoorBase
import Derived.Test.YtbkkgkmllplbaaaDoorKeep
import Derived.Test.YtbkkgkmllplbaaaDoorFrameL
namespace Go.Proofs.YtbkkgkmllplbaaaDoor
open Go.ChangeShapes Go.WideShapes Go.ChangeAt Go.RowKit
set_option linter.unusedVariables false

/-- The variable number g holds an error of errors.New's make, at a, with this text. -/
structure Sent (W : World) (g : Nat) (text : List UInt8) (a : Addr) : Prop where
  cell : W.cell? ⟨g, 0, none⟩ = some (.iface 167 (.pointer (some a)))
  said : ∃ s : ByteArray, W.cell? a = some (.string s) ∧ s.data.toList = text
  live : ∃ c t, W.heap[a.block]? = some (.cells c t (0, 0))

/-- What a run of SampleOk leans on. -/
structure Ld (W : World) (ao an au : Addr) : Prop where
  et : W.cell? ⟨3, 0, none⟩ = some (.iface 130 (.agg #[.pointer (some ⟨12, 63, none⟩)]))
  outside : Sent W 0 [111, 117, 116, 115, 105, 100, 101, 32, 105, 116, 115, 32, 98, 111, 117, 110, 100, 115] ao
  noTime : Sent W 1 [110, 111, 32, 116, 105, 109, 101] an
  unsure : Sent W 2 [116, 111, 108, 100, 32, 108, 101, 115, 115, 32, 115, 117, 114, 101, 108, 121, 32, 116, 104, 97, 110, 32, 97, 110, 121, 32, 115, 97, 109, 112, 108, 101] au

theorem cell_lt {W : World} {b o : Nat} {v : Value} (h : W.cell? ⟨b, o, none⟩ = some v) : b < W.heap.size := by
  rcases Nat.lt_or_ge b W.heap.size with h' | h'
  · exact h'
  · simp [World.cell?, Array.getElem?_eq_none h'] at h

theorem cell_lt' {W : World} {a : Addr} {v : Value} (h : W.cell? a = some v) : a.block < W.heap.size := by
  rcases Nat.lt_or_ge a.block W.heap.size with h' | h'
  · exact h'
  · simp [World.cell?, Array.getElem?_eq_none h'] at h

theorem Sent.next {W w' : World} {g : Nat} {text : List UInt8} {a : Addr} (h : Sent W g text a) (hb : Below W.heap.size W w') : Sent w' g text a := by
  obtain ⟨s, hs, e⟩ := h.said
  obtain ⟨c, t, hc⟩ := h.live
  refine ⟨(hb.cell (p := ⟨g, 0, none⟩) (cell_lt h.cell)).trans h.cell, ⟨s, (hb.cell (cell_lt' hs)).trans hs, e⟩, c, t, blk_next hb hc⟩

theorem Sent.apart {W : World} {g g' : Nat} {t t' : List UInt8} {a a' : Addr} (h : Sent W g t a) (h' : Sent W g' t' a') (hne : t ≠ t') : a ≠ a' := by
  intro e
  subst e
  obtain ⟨s, hs, e1⟩ := h.said
  obtain ⟨s', hs', e2⟩ := h'.said
  have e := hs.symm.trans hs'
  simp only [Option.some.injEq, Value.string.injEq] at e
  subst e
  exact hne (e1.symm.trans e2)

theorem Ld.next {W w' : World} {ao an au : Addr} (h : Ld W ao an au) (hb : Below W.heap.size W w') : Ld w' ao an au :=
  ⟨(hb.cell (p := ⟨3, 0, none⟩) (cell_lt h.et)).trans h.et, h.outside.next hb, h.noTime.next hb, h.unsure.next hb⟩

theorem Ld.ou {W : World} {ao an au : Addr} (h : Ld W ao an au) : ao ≠ au := h.outside.apart h.unsure (by decide)
theorem Ld.nu {W : World} {ao an au : Addr} (h : Ld W ao an au) : an ≠ au := h.noTime.apart h.unsure (by decide)

theorem etNamed : Tryd.prog.globalNamed "errors.errorType" = some 3 := by kernel_rfl
theorem rtNamed : (Tryd.prog.cutTypes.find? (·.1 == "internal/reflectlite.rtype")).map (·.2) = some 130 := by kernel_rfl
theorem oneRow : ((List.range 196).filter fun t => Tryd.prog.rowNamed t [101, 114, 114, 111, 114]) = [63] := by kernel_rfl
theorem typesSize : Tryd.prog.types.size = 196 := by kernel_rfl

set_option maxRecDepth 100000 in
/-- The handle's cell, out of what the statement lays. -/
theorem handle_cell {W : World} {n : String} {d : DataW Unit} (hn : n = "errors.errorType") (hd : d = .iface "internal/reflectlite.rtype" (.agg [.ptr (.lit (.string [101, 114, 114, 111, 114]))]))
    (h : ∃ name u ty, d.handleName? = some name ∧ (Tryd.prog.cutTypes.find? (·.1 == "internal/reflectlite.rtype")).map (·.2) = some u ∧ ty < Tryd.prog.types.size ∧ Tryd.prog.rowNamed ty name = true ∧ W.var? Tryd.prog n = some #[.iface u (.agg #[typeHandle Tryd.prog ty])]) :
    W.cell? ⟨3, 0, none⟩ = some (.iface 130 (.agg #[.pointer (some ⟨12, 63, none⟩)])) := by
  subst hn hd
  obtain ⟨name, u, ty, e1, e2, e3, e4, e5⟩ := h
  have en : name = [101, 114, 114, 111, 114] := (Option.some.inj e1).symm
  subst en
  obtain rfl := Option.some.inj (rtNamed.symm.trans e2)
  have hm : ty ∈ (List.range 196).filter fun t => Tryd.prog.rowNamed t [101, 114, 114, 111, 114] := List.mem_filter.2 ⟨List.mem_range.2 (by rw [← typesSize]; exact e3), e4⟩
  rw [oneRow] at hm
  obtain rfl := List.mem_singleton.1 hm
  have hh : typeHandle Tryd.prog 63 = .pointer (some ⟨12, 63, none⟩) := by kernel_rfl
  rw [hh] at e5
  simpa using World.var?_cell etNamed e5 0

set_option maxRecDepth 100000 in
theorem errRows : ((List.range Tryd.prog.types.size).all fun u => Tryd.prog.typeName? 3 u != some ("*" ++ "errors.errorString") || u == 167) = true := by kernel_rfl
set_option maxRecDepth 100000 in
theorem errNamed : ((List.range Tryd.prog.types.size).all fun e => Tryd.prog.typeName? 2 e != some "errors.errorString" || (match (Tryd.prog.info? e).map (·.desc) with | some (TypeDesc.named _ _) => true | _ => false)) = true := by kernel_rfl

set_option maxRecDepth 100000 in
/-- A reason's cell, out of what the statement lays. -/
theorem sent_of {W : World} {l : List (String × DataW Unit)} (h : laidMet Tryd.prog l W) {n : String} {text : List UInt8} {g : Nat} (hn : Tryd.prog.globalNamed n = some g) (ht : (Tryd.prog.globals[g]?).map (·.type) = some 63)
    (hm : (n, DataW.iface "*errors.errorString" (.ptr (.agg [.lit (.string text)]))) ∈ l) : ∃ a, Sent W g text a := by
  obtain ⟨ps, hv, _, hp⟩ := h
  obtain ⟨g', t, cs, fuel, p, e1, e2, e3, e4, e5⟩ := laidVars_mem hv hm
  obtain rfl := Option.some.inj (hn.symm.trans e1)
  obtain rfl := Option.some.inj (ht.symm.trans e2)
  have hcell : ∀ v, cs.toList = [v] → W.cell? ⟨g, 0, none⟩ = some v := fun v hv => by
    have := World.var?_cell hn e3 0
    rw [Array.eq_one_of_toList hv] at this
    simpa using this
  have hsize : ∀ v, cs.toList = [v] → MemPlace.cell g 0 ∈ ps := fun v hv => e5 _ (by rw [Array.eq_one_of_toList hv]; simp [MemPlace.row])
  obtain ⟨a, s, c1, c2, c3, _, c5⟩ := errorString_of_trod (ti := 63) (tp := 167) (te := 169) (ts := 9) Tryd.underlying63
    (fun u hu => typeName_ptr_named errRows errNamed (by decide) u hu) Tryd.underlying167 Tryd.underlying169 rfl rfl Tryd.underlying9 (by kernel_rfl) (by kernel_rfl) e4
    (fun u v hc => (hp g 0 (hsize _ hc)).2 u v (hcell _ hc))
  have hlive := (hp a.block a.off (e5 _ (by rw [c5]; simp [MemPlace.row]))).1
  exact ⟨a, hcell _ c1, ⟨s, c2, c3⟩, hlive⟩

/-- The two halves of what a statement lays. -/
theorem laid_halves {W : World} {l : List (String × DataW Unit)} (h : laidMetH Tryd.prog l W) {n : String} {d : DataW Unit} (hm : (n, d) ∈ l) (hd : d.handleName?.isSome = true) :
    laidMet Tryd.prog (l.filter fun x => x.2.handleName?.isNone) W ∧ handlesMet Tryd.prog (l.filter fun x => x.2.handleName?.isSome) W := by
  have hf : (n, d) ∈ l.filter fun x => x.2.handleName?.isSome := List.mem_filter.2 ⟨hm, hd⟩
  unfold laidMetH at h
  generalize (l.filter fun x => x.2.handleName?.isSome) = fl at h hf
  cases fl with
  | nil => cases hf
  | cons a r => exact h

/-- The handle of the type error, as a statement lays it. -/
def handleD : DataW Unit := .iface "internal/reflectlite.rtype" (.agg [.ptr (.lit (.string [101, 114, 114, 111, 114]))])
/-- An error of errors.New's make, as a statement lays it. -/
def sentD (text : List UInt8) : DataW Unit := .iface "*errors.errorString" (.ptr (.agg [.lit (.string text)]))
theorem sentD_plain (text : List UInt8) : (sentD text).handleName?.isNone = true := by
  simp [sentD, DataW.handleName?]
theorem handleD_some : handleD.handleName?.isSome = true := by
  simp [handleD, DataW.handleName?]

theorem sentH_of {W : World} {l : List (String × DataW Unit)} (h : laidMetH Tryd.prog l W) (h0 : ("errors.errorType", handleD) ∈ l) {n : String} {text : List UInt8} {g : Nat}
    (hm : (n, sentD text) ∈ l) (hn : Tryd.prog.globalNamed n = some g) (ht : (Tryd.prog.globals[g]?).map (·.type) = some 63) : ∃ a, Sent W g text a :=
  sent_of (laid_halves h h0 handleD_some).1 hn ht (List.mem_filter.2 ⟨hm, sentD_plain text⟩)

theorem ld_of {W : World} {l : List (String × DataW Unit)} (h : laidMetH Tryd.prog l W) (h0 : ("errors.errorType", handleD) ∈ l)
    (h1 : ("loop.example/g00656/impl.errOutside", sentD [111, 117, 116, 115, 105, 100, 101, 32, 105, 116, 115, 32, 98, 111, 117, 110, 100, 115]) ∈ l)
    (h2 : ("loop.example/g00656/impl.errNoTime", sentD [110, 111, 32, 116, 105, 109, 101]) ∈ l)
    (h3 : ("loop.example/g00656/impl.errUnsure", sentD [116, 111, 108, 100, 32, 108, 101, 115, 115, 32, 115, 117, 114, 101, 108, 121, 32, 116, 104, 97, 110, 32, 97, 110, 121, 32, 115, 97, 109, 112, 108, 101]) ∈ l) : ∃ ao an au, Ld W ao an au := by
  obtain ⟨ao, H1⟩ := sentH_of h h0 h1 (by kernel_rfl) (by kernel_rfl)
  obtain ⟨an, H2⟩ := sentH_of h h0 h2 (by kernel_rfl) (by kernel_rfl)
  obtain ⟨au, H3⟩ := sentH_of h h0 h3 (by kernel_rfl) (by kernel_rfl)
  have he := (laid_halves h h0 handleD_some).2 _ (List.mem_filter.2 ⟨h0, handleD_some⟩)
  have hf : handleD.funcsIn? = none := by simp [handleD, DataW.funcsIn?]
  rw [hf] at he
  exact ⟨ao, an, au, handle_cell rfl rfl he, H1, H2, H3⟩
end Go.Proofs.YtbkkgkmllplbaaaDoor
