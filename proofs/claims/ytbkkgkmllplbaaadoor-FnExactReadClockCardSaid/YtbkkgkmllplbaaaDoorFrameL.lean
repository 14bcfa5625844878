/- The frame of a law that reads listed variables: where its walk returns true and nothing that lay before the call has turned, the statement holds. -/
import Derived.Test.YtbkkgkmllplbaaaDoorFrame
import Derived.Handed
import Derived.LaidMore
import Derived.LaidLaws
import Derived.LaidHandle
import Derived.WalkSmall
import Derived.SevenTiedAt
namespace Go.Proofs.YtbkkgkmllplbaaaDoor
open Go.ChangeShapes Go.WideShapes Go.ChangeAt Go.RowKit
set_option linter.unusedVariables false

theorem trodVars_below {H : Type} {enc : TypeId × Value → H} {P : Program} (hl : laidOutB P = true) {W W' : World} (bel : Below W.heap.size W W') :
    ∀ {ns : List String} {gs : List (DataW H)} {q : List MemPlace}, (∀ n ∈ ns, ∀ g t, P.globalNamed n = some g → (P.globals[g]?).map (·.type) = some t → P.readableRec t = true ∧ t < P.types.size) →
      DataW.TrodVars enc P W (fun _ => true) ns gs q → DataW.TrodVars enc P W' (fun b => decide (b < W.heap.size)) ns gs q := by
  intro ns
  induction ns with
  | nil =>
    intro gs q _ h
    obtain ⟨rfl, rfl⟩ := trodVars_none h
    exact rfl
  | cons n ns ih =>
    intro gs q hr h
    have hlt := DataW.TrodVars.lt h
    match gs, h with
    | d :: ds, h =>
      obtain ⟨g, t, cs, fuel, p, q', hg, ht, hv, hd, hrest, rfl⟩ := h
      have hgl : g < W.heap.size := by
        unfold World.var? at hv
        rw [hg] at hv
        simp only [Option.bind_some] at hv
        rcases Nat.lt_or_ge g W.heap.size with h | h
        · exact h
        · rw [Array.getElem?_eq_none h] at hv; cases hv
      have hv' := var?_below bel hg hgl hv
      obtain ⟨r1, r2⟩ := hr n (by simp) g t hg ht
      have hcells : (Value.agg cs).cells = cs := rfl
      have hd' : DataW.Trod enc P W 0 (fun _ => true) true t (.agg cs) d p := ⟨fuel, by rw [hcells]; exact hd⟩
      obtain ⟨fuel', hd2⟩ := Below.trod hl r1 r2 hd' bel (fun x hx => hlt x (by simp [hx]))
      rw [hcells] at hd2
      exact ⟨g, t, cs, fuel', p, q', hg, ht, hv', hd2, ih (fun n' hn' => hr n' (by simp [hn'])) hrest, rfl⟩

theorem trodVars_length {H : Type} {enc : TypeId × Value → H} {P : Program} {W : World} {sp : Nat → Bool} :
    ∀ {ns : List String} {gs : List (DataW H)} {q : List MemPlace}, DataW.TrodVars enc P W sp ns gs q → gs.length = ns.length := by
  intro ns
  induction ns with
  | nil =>
    intro gs q h
    obtain ⟨rfl, rfl⟩ := trodVars_none h
    rfl
  | cons n ns ih =>
    intro gs q h
    match gs, h with
    | d :: ds, h =>
      obtain ⟨g, t, cs, fuel, p, q', hg, ht, hv, hd, hrest, rfl⟩ := h
      simp [ih hrest]

theorem lifted_of_walk_laid {C : Checked} {os : Os} {f : FuncId} {fn : Func} {s : ChangeSpec} {H : Type} {enc : TypeId × Value → H} {tb : TypeId} {laid : List (String × DataW Unit)}
    (own : ownKnob C.prog.godebug = none) (started : os.Started) (noInit : C.prog.inits.idxOf? f = none) (hfn : C.prog.funcs[f]? = some fn)
    (witness : ∃ (w : World) (tape : Tape) (i : Input), w.os = os ∧ (w.forCall tape i).Shaped C.prog ∧ i.vars = [] ∧ Input.okWide C.prog (w.forCall tape i) .any w.heap.size f i ∧
      ((s.pre enc C.prog fn [] false (w.forCall tape i).memory i.args ∧ laidMetH C.prog laid (w.forCall tape i).memory) ∧ sizedMet enc C.prog fn (OpenSpec.ofChange s) false (w.forCall tape i).memory i.args) ∧ ({} : Assume).holds C.prog (lone (Frame.enter C.prog f i.args .normal) [] (w.forCall tape i)))
    (hl : laidOutB C.prog = true)
    (hread : fn.params.toList.all (fun t => C.prog.readableRec t && decide (t < C.prog.types.size)) = true)
    (hvars : s.vars.all (fun n => match C.prog.globalNamed n with | some g => (match (C.prog.globals[g]?).map (·.type) with | some t => C.prog.readableRec t && decide (t < C.prog.types.size) | none => true) | none => true) = true)
    (hres : fn.resultTypes = #[tb]) (htb : C.prog.underlying tb = some .bool)
    (hspec : ∀ ds gs : List (DataW H), ds.length = fn.params.size → gs.length = s.vars.length → s.fn H (ds ++ gs) = { results := [.lit (.bool true)], args := ds, vars := gs })
    (walk : ∀ (W : World) (base : Nat) (args : Array Value) (ds : List (DataW H)) (q : List MemPlace),
      (∀ (j : Nat) t v, fn.params[j]? = some t → args[j]? = some v → Value.okWide C.prog W .any base t v) →
      Reads enc C.prog W fn.params.toList args.toList ds q → laidMetH C.prog laid W →
      Calls C.prog f args W fun e W' => e = .returned (.bool true) ∧ Below W.heap.size W W') :
    ReturnsInHanded {} C os f .any (fun w args => (s.pre enc C.prog fn [] false w args ∧ laidMetH C.prog laid w) ∧ sizedMet enc C.prog fn (OpenSpec.ofChange s) false w args) (s.post enc C.prog fn false true false false) := by
  refine returnsInHanded_of_change_and (X := fun w _ => laidMetH C.prog laid w) (fun _ _ _ hh h => h.of_heap hh) own started noInit hfn witness ?_
  intro W base args ds gs before hval hW _ _ hL _
  have hW' := hW
  obtain ⟨p, q, hA, hV, rfl, hfz, hnd⟩ := hW
  have hlen : ds.length = fn.params.size := by
    have := trodAll_length hA
    simpa using this
  have hs := hspec ds gs hlen (trodVars_length hV)
  refine (walk W base args ds p hval hA hL).mono fun e W' ⟨he, bel⟩ => ?_
  subst he
  refine ⟨_, rfl, ds, gs, _, [], p, q, hW', ?_, ?_, ?_, bel.frame _, fun h => by cases h⟩
  · rw [hs, hres]
    exact trodAll_mk1 (shut_bool htb _)
  · rw [hs]
    refine trodAll_below hl bel (fun t ht => ?_) hA
    have := List.all_eq_true.1 hread t ht
    simpa using this
  · rw [hs]
    refine trodVars_below hl bel (fun n hn g t hg ht => ?_) hV
    have := List.all_eq_true.1 hvars n hn
    rw [hg] at this
    simp only [ht] at this
    simpa using this

/-! ### What a list of variables that are laid gives -/
theorem laidVars_mem {P : Program} {w : World} {n : String} {d : DataW Unit} : ∀ {l : List (String × DataW Unit)} {ps : List MemPlace}, DataW.LaidVars P w l ps → (n, d) ∈ l →
    ∃ g t cs fuel p, P.globalNamed n = some g ∧ (P.globals[g]?).map (·.type) = some t ∧ w.var? P n = some cs ∧ DataW.trod (fun _ => ()) P w 0 (fun _ => true) false fuel t cs.toList = some (d, p) ∧
      ∀ x ∈ MemPlace.row ⟨g, 0, none⟩ cs.size ++ p, x ∈ ps := by
  intro l
  induction l with
  | nil => intro ps _ h; cases h
  | cons a r ih =>
    intro ps h hm
    obtain ⟨na, da⟩ := a
    obtain ⟨g, t, cs, fuel, p, q, hg, ht, hv, hd, hrest, rfl⟩ := h
    rcases List.mem_cons.1 hm with e | hm
    · cases e
      exact ⟨g, t, cs, fuel, p, hg, ht, hv, hd, fun x hx => by simp only [List.mem_append] at hx ⊢; exact Or.inl hx⟩
    · obtain ⟨g', t', cs', fuel', p', a1, a2, a3, a4, a5⟩ := ih hrest hm
      exact ⟨g', t', cs', fuel', p', a1, a2, a3, a4, fun x hx => List.mem_append.2 (Or.inr (a5 x hx))⟩
theorem noStandIn {P : Program} {ts : Array TypeId} (h : (ts.toList.all fun u => !P.wantsStandIn u) = true) (j : Nat) (t : TypeId) (ht : ts[j]? = some t) : P.wantsStandIn t = false := by
  have hm : t ∈ ts.toList := by simpa using Array.mem_of_getElem? ht
  simpa using List.all_eq_true.1 h t hm
end Go.Proofs.YtbkkgkmllplbaaaDoor
