/- The frame of every law of this seat: where its walk returns true and nothing that lay before the call has turned, the statement holds. -/
import Derived.WalkKit
import Derived.ProofKit
import Derived.OpenShut
import Derived.ShutString
import Derived.ChangeOld
import Derived.Below
import Derived.JoinedOf
import Derived.Test.YtohcebiepekbeaaGreatDoorRows
import Derived.Handy
import Derived.Lib.Hide
import Derived.Deep.QuietTactic
import Derived.RangeFuncBox
import Derived.Deep.Slices
import Derived.Deep.AppendLies
import Derived.Laws.MakeOwn
import Derived.BigQuiet
import Derived.Handed
import Derived.LaidMore
import Derived.LaidLaws
import Derived.LaidHandle
import Derived.WalkSmall
import Derived.SevenTiedAt
import Derived.BigGuardPart
namespace Go.Proofs.YtohcebiepekbeaaGreatDoor
open Go.ChangeShapes Go.WideShapes Go.ChangeAt Go.RowKit

theorem trodAll_lt {H : Type} {enc : TypeId × Value → H} {P : Program} {W : World} {base : Nat} {sp : Nat → Bool} {held : Bool} :
    ∀ {Ts : List TypeId} {vs : List Value} {ds : List (DataW H)} {ps : List MemPlace}, DataW.TrodAll enc P W base sp held Ts vs ds ps → ∀ x ∈ ps, x.block < W.heap.size := by
  intro Ts
  induction Ts with
  | nil =>
    intro vs ds ps h
    obtain ⟨rfl, rfl, rfl⟩ := trodAll_nil h
    simp
  | cons t ts ih =>
    intro vs ds ps h
    obtain ⟨v, vs', d, ds', p, q, rfl, rfl, rfl, ⟨m, hm⟩, hr⟩ := trodAll_cons h
    intro x hx
    rcases List.mem_append.1 hx with hx | hx
    · exact DataW.trod_lt m _ _ _ hm x hx
    · exact ih hr x hx

theorem trodAll_below {H : Type} {enc : TypeId × Value → H} {P : Program} (hl : laidOutB P = true) {W W' : World} (bel : Below W.heap.size W W') :
    ∀ {Ts : List TypeId} {vs : List Value} {ds : List (DataW H)} {ps : List MemPlace}, (∀ t ∈ Ts, P.readableRec t = true ∧ t < P.types.size) →
      DataW.TrodAll enc P W 0 (fun _ => true) true Ts vs ds ps → DataW.TrodAll enc P W' 0 (fun b => decide (b < W.heap.size)) true Ts vs ds ps := by
  intro Ts
  induction Ts with
  | nil =>
    intro vs ds ps _ h
    obtain ⟨rfl, rfl, rfl⟩ := trodAll_nil h
    exact trodAll_mk0
  | cons t ts ih =>
    intro vs ds ps hr h
    obtain ⟨v, vs', d, ds', p, q, rfl, rfl, rfl, h0, hs⟩ := trodAll_cons h
    have lt0 : ∀ x ∈ p, x.block < W.heap.size := by obtain ⟨m, hm⟩ := h0; exact DataW.trod_lt m _ _ _ hm
    exact trodAll_cons_mk (Below.trod hl (hr t (by simp)).1 (hr t (by simp)).2 h0 bel lt0) (ih (fun t ht => hr t (by simp [ht])) hs)

theorem trodAll_length {H : Type} {enc : TypeId × Value → H} {P : Program} {W : World} {base : Nat} {sp : Nat → Bool} {held : Bool} :
    ∀ {Ts : List TypeId} {vs : List Value} {ds : List (DataW H)} {ps : List MemPlace}, DataW.TrodAll enc P W base sp held Ts vs ds ps → ds.length = Ts.length := by
  intro Ts
  induction Ts with
  | nil =>
    intro vs ds ps h
    obtain ⟨rfl, rfl, rfl⟩ := trodAll_nil h
    rfl
  | cons t ts ih =>
    intro vs ds ps h
    obtain ⟨v, vs', d, ds', p, q, rfl, rfl, rfl, _, hr⟩ := trodAll_cons h
    simp [ih hr]

/-! ### The closed facts of a row, each of its own; what the translation's head says, read off its first word -/
theorem head_via {α : Type} (f : List Char → α) (s : String) (l : List Char) (r : α) (hs : String.ofList l = s) (h : f l = r) : f s.toList = r := by subst hs; rw [String.toList_ofList]; exact h
theorem cutFirst {P : Program} (h : (behindMainWord (wordsSigns P.initOrder.toList)).head? = some "cut".toList) : ∃ rest, behindMainWord (wordsSigns P.initOrder.toList) = "cut".toList :: rest := by
  cases hb : behindMainWord (wordsSigns P.initOrder.toList) with
  | nil => rw [hb] at h; cases h
  | cons c rest => rw [hb] at h; exact ⟨rest, by simpa using h⟩
theorem strip_cut (rest : List (List Char)) : stripLifts liftWords ("cut".toList :: rest) = ([], "cut".toList :: rest) := by
  have e : ∀ (o : String), ("cut".toList == o.toList) = false → ∀ os, stripLifts (o :: os) ("cut".toList :: rest) = stripLifts os ("cut".toList :: rest) := by
    intro o h os
    simp only [stripLifts, h, Bool.false_eq_true, if_false]
  unfold liftWords
  repeat rw [e _ (by decide)]
  rfl
theorem headLifts_cut {P : Program} (h : (behindMainWord (wordsSigns P.initOrder.toList)).head? = some "cut".toList) : P.headLifts = [] := by
  obtain ⟨rest, hr⟩ := cutFirst h
  unfold Program.headLifts
  rw [hr, strip_cut]
  simp
theorem mayEnter_cut {P : Program} (h : (behindMainWord (wordsSigns P.initOrder.toList)).head? = some "cut".toList) (h1 : P.laysLater = false) (h2 : P.bearsReflect = false) (h3 : P.doorFits [] = true) : P.mayEnter = true := by
  obtain ⟨rest, hr⟩ := cutFirst h
  unfold Program.mayEnter
  rw [hr]
  dsimp only
  rw [strip_cut]
  simp [h1, h2, h3]
theorem liftsFinal_cut {P : Program} (h : (behindMainWord (wordsSigns P.initOrder.toList)).head? = some "cut".toList) : P.liftsFinal = false := by
  unfold Program.liftsFinal
  rw [headLifts_cut h]
  simp only [h]
  simp
theorem make_cut {P : Program} (h : (behindMainWord (wordsSigns P.initOrder.toList)).head? = some "cut".toList) : P.make = some .cut := by
  obtain ⟨rest, hr⟩ := cutFirst h
  unfold Program.make
  rw [hr]
  have e1 : ("cut".toList == "gc".toList) = false := by decide
  have e2 : ("cut".toList == "spec".toList) = false := by decide
  simp only [e1, e2]
  simp

theorem facts_of {P : Program} {f : FuncId} {fn : Func} {s : ChangeSpec} {c : OpenClaim}
    (k1 : c.wf (OpenSpec.ofChange s) = true) (k2 : laidOutB P = true) (k3 : mapsRowed P = true)
    (k4 : fn.params.all (P.readableRec ·) = true) (k5 : namedTie P c.named s.vars = true)
    (k6 : c.stops = []) (k7 : P.stops = []) (k8 : c.knobs = []) (k9 : P.stopKnobs = [])
    (k10 : c.inPlace = P.inPlace f) (k11 : c.unfollowed = P.unfollowed f) (k12 : c.recurses = P.recurses f) (k13 : c.named = P.varsNamed f)
    (k14 : c.maps = (fn.params.toList ++ s.plain.varTypes P).any (P.mapsRec ·)) (k15 : c.ifaces = (fn.params.toList ++ s.plain.varTypes P).any (P.ifacesRec ·)) (k16 : c.mapsOut = P.mapsAmong fn.resultTypes.toList)
    (k17 : c.loops = (fn.params.toList ++ s.plain.varTypes P).any (P.loopsFrom ·)) (k18 : c.wideKeys = (fn.params.toList ++ s.plain.varTypes P ++ fn.resultTypes.toList).any (P.wideKeysFrom ·))
    (k19 : s.vars.all (P.varReadable ·) = true) (k20 : fn.resultTypes.all (fun t => P.readableRec t && decide (t < P.types.size)) = true) (k21 : c.ifacesOut = fn.resultTypes.toList.any (P.ifacesRec ·)) (k22 : c.loopsOut = fn.resultTypes.toList.any (P.loopsFrom ·))
    (k23 : c.plainKeys = P.plainKeys) (k24 : c.shortTexts.isNone = true) (k25 : P.stopsHeard = true) (k26 : P.mayEnter = true) (k27 : c.lifted = P.liftsFinal) (k28 : P.make = some c.make)
    (kd : c.domain = []) (k29 : c.kinds = []) (k30 : c.pinned = c.pinnedBy)
    (k31 : c.veiled = (fn.params.toList ++ s.plain.varTypes P ++ fn.resultTypes.toList).any (P.veiledRec ·)) (k32 : c.veiledFits P fn.params.toList (fn.params.toList ++ s.plain.varTypes P ++ fn.resultTypes.toList) = true) :
    joinedFacts P f fn s c = true := by
  unfold joinedFacts
  rw [k1, k2, k3, k4, k5, k6, k7, k8, k9, ← k10, ← k11, ← k12, ← k13, ← k14, ← k15, ← k16, ← k17, ← k18, k19, k20, ← k21, ← k22, ← k23, k24, k25, k26, ← k27, k28, kd, k29, ← k30, ← k31, k32]
  simp

/-- What every law's walk is told of its arguments: they read as data. -/
def Reads {H : Type} (enc : TypeId × Value → H) (P : Program) (W : World) (Ts : List TypeId) (vs : List Value) (ds : List (DataW H)) (ps : List MemPlace) : Prop :=
  DataW.TrodAll enc P W 0 (fun _ => true) true Ts vs ds ps

theorem lifted_of_walk {C : Checked} {os : Os} {f : FuncId} {fn : Func} {s : ChangeSpec} {H : Type} {enc : TypeId × Value → H} {tb : TypeId}
    (own : ownKnob C.prog.godebug = none) (started : os.Started) (noInit : C.prog.inits.idxOf? f = none) (hfn : C.prog.funcs[f]? = some fn)
    (witness : ∃ (w : World) (tape : Tape) (i : Input), w.os = os ∧ (w.forCall tape i).Shaped C.prog ∧ i.vars = [] ∧ Input.okWide C.prog (w.forCall tape i) .any w.heap.size f i ∧
      s.pre6 enc C.prog fn [] false (w.forCall tape i).memory i.args ∧ ({} : Assume).holds C.prog (lone (Frame.enter C.prog f i.args .normal) [] (w.forCall tape i)))
    (hl : laidOutB C.prog = true) (hvars : s.vars = [])
    (hread : fn.params.toList.all (fun t => C.prog.readableRec t && decide (t < C.prog.types.size)) = true)
    (hres : fn.resultTypes = #[tb]) (htb : C.prog.underlying tb = some .bool)
    (hspec : ∀ ds : List (DataW H), ds.length = fn.params.size → s.fn H ds = { results := [.lit (.bool true)], args := ds })
    (walk : ∀ (W : World) (base : Nat) (args : Array Value) (ds : List (DataW H)) (q : List MemPlace),
      (∀ (j : Nat) t v, fn.params[j]? = some t → args[j]? = some v → Value.okWide C.prog W .any base t v) →
      Reads enc C.prog W fn.params.toList args.toList ds q →
      Calls C.prog f args W fun e W' => e = .returned (.bool true) ∧ Below W.heap.size W W') :
    ReturnsInHanded {} C os f .any (s.pre6 enc C.prog fn [] false) (s.post enc C.prog fn false true false false) := by
  refine returnsInHanded_of_change own started noInit hfn witness ?_
  intro W base args ds gs before hval hW _ _
  have hW' := hW
  obtain ⟨p, q, hA, hV, rfl, hfz, hnd⟩ := hW
  have hgs : gs = [] ∧ q = [] := by
    rw [hvars] at hV
    cases gs with
    | nil => exact ⟨rfl, hV⟩
    | cons _ _ => exact hV.elim
  obtain ⟨rfl, rfl⟩ := hgs
  have hlen : ds.length = fn.params.size := by
    have := trodAll_length hA
    simpa using this
  have hs : s.fn H (ds ++ []) = { results := [.lit (.bool true)], args := ds } := by rw [List.append_nil]; exact hspec ds hlen
  refine (walk W base args ds p hval hA).mono fun e W' ⟨he, bel⟩ => ?_
  subst he
  refine ⟨_, rfl, ds, [], _, [], p, [], hW', ?_, ?_, ?_, bel.frame _, fun h => by cases h⟩
  · rw [hs, hres]
    exact trodAll_mk1 (shut_bool htb _)
  · rw [hs]
    refine trodAll_below hl bel (fun t ht => ?_) hA
    have := List.all_eq_true.1 hread t ht
    simpa using this
  · rw [hs, hvars]
    rfl
end Go.Proofs.YtohcebiepekbeaaGreatDoor

namespace Go.Proofs.YtohcebiepekbeaaGreatDoor
open Go.ChangeShapes Go.WideShapes Go.ChangeAt Go.RowKit

/-! ### A struct of int64s, by value -/
def flatInts (P : Program) (fs : Array Field) : Bool :=
  fs.toList.zipIdx.all fun x => x.1.offset == x.2 && P.cellsOf x.1.type == 1 && (match P.underlying x.1.type with | some (.int .i64) => true | _ => false)

theorem list_of_each {α β : Type} (f : β → α) (Q : β → Prop) : ∀ l : List α, (∀ (i : Nat) (x : α), l[i]? = some x → ∃ n, x = f n ∧ Q n) → ∃ ns : List β, l = ns.map f ∧ ∀ n ∈ ns, Q n
  | [], _ => ⟨[], rfl, by simp⟩
  | a :: l, h => by
    obtain ⟨n, rfl, hn⟩ := h 0 a rfl
    obtain ⟨ns, rfl, hns⟩ := list_of_each f Q l (fun i x hx => h (i + 1) x (by simpa using hx))
    exact ⟨n :: ns, rfl, by simpa using ⟨hn, hns⟩⟩

theorem open_flat {H : Type} {enc : TypeId × Value → H} {P : Program} {w : World} {base : Nat} {spare : Nat → Bool} {held : Bool} {r : Reach} {b0 : Nat} {t : TypeId} {fs : Array Field} {v : Value} {d : DataW H} {p : List MemPlace}
    (hs : P.underlying t = some (.struct fs)) (hflat : flatInts P fs = true) (hC : P.cellsOf t = fs.size)
    (hv : Value.okWide P w r b0 t v) (h : DataW.Trod enc P w base spare held t v d p) :
    ∃ ns : List Int, v = .agg (ns.map (Value.int .i64)).toArray ∧ ns.length = fs.size ∧ ∀ n ∈ ns, (Lit.int .i64 n).wf = true := by
  obtain ⟨cs, rfl, hsz⟩ := okWide_struct hs hv
  obtain ⟨fuel, hf⟩ := h
  obtain ⟨xs, n, rfl, hx, hlen, hxl, hfield⟩ := DataW.trod_struct hs hf
  have hlen' : cs.toList.length = fs.size := by simpa [hC] using hsz
  obtain ⟨ns, e, hns⟩ := list_of_each (Value.int .i64) (fun n => (Lit.int .i64 n).wf = true) cs.toList (fun i x hi => by
    have hil : i < cs.toList.length := by
      rcases Nat.lt_or_ge i cs.toList.length with h | h
      · exact h
      · rw [List.getElem?_eq_none h] at hi; cases hi
    have hif : i < fs.size := by omega
    have hfi : fs[i]? = some fs[i] := Array.getElem?_eq_getElem hif
    have hfl := List.all_eq_true.1 hflat (fs[i], i) (by
      rw [List.mem_iff_getElem?]
      exact ⟨i, by simp [hif]⟩)
    simp only [Bool.and_eq_true, beq_iff_eq] at hfl
    obtain ⟨⟨ho, hc⟩, hu⟩ := hfl
    have hu' : P.underlying fs[i].type = some (.int .i64) := by
      split at hu
      · assumption
      · cases hu
    have hk := hfield i fs[i] hfi
    rw [ho, hc] at hk
    have hone : ((Value.agg cs).cells.toList.drop i).take 1 = [x] := by
      have : (Value.agg cs).cells = cs := rfl
      rw [this, List.drop_eq_getElem_cons hil]
      rw [List.getElem?_eq_getElem hil] at hi
      simpa using hi
    rw [hone] at hk
    have hsome : ∃ y, xs[i]? = some y := ⟨xs[i]'(by omega), List.getElem?_eq_getElem (by omega)⟩
    obtain ⟨y, hy⟩ := hsome
    rw [hy] at hk
    obtain ⟨m, e0, _, wm⟩ := DataW.trod_int hu' hk
    simp only [List.cons.injEq, and_true] at e0
    exact ⟨m, e0, wm⟩)
  refine ⟨ns, ?_, ?_, hns⟩
  · congr 1
    rw [← e]
  · have := congrArg List.length e
    simp at this hlen'
    omega
end Go.Proofs.YtohcebiepekbeaaGreatDoor

namespace Go.Proofs.YtohcebiepekbeaaGreatDoor
theorem own : ownKnob Tryz.prog.godebug = none := by kernel_rfl
theorem laidOut : laidOutB Tryz.prog = true := by kernel_rfl
theorem boolType : Tryz.prog.underlying 4 = some .bool := Tryz.underlying4
theorem mapsRow : mapsRowed Tryz.prog = true := by kernel_rfl
theorem noStops : Tryz.prog.stops = [] := by kernel_rfl
theorem noKnobs : Tryz.prog.stopKnobs = [] := by kernel_rfl
theorem keysPlain : true = Tryz.prog.plainKeys := by kernel_rfl
theorem heard : Tryz.prog.stopsHeard = true := by kernel_rfl
set_option maxRecDepth 100000 in
theorem isCut : (behindMainWord (wordsSigns Tryz.prog.initOrder.toList)).head? = some "cut".toList :=
  head_via (fun l => (behindMainWord (wordsSigns l)).head?) Tryz.prog.initOrder _ _ rfl (by kernel_rfl)
theorem lays : Tryz.prog.laysLater = false := by kernel_rfl
theorem reflects : Tryz.prog.bearsReflect = false := by kernel_rfl
theorem doors : Tryz.prog.doorFits [] = true := by kernel_rfl
theorem enters : Tryz.prog.mayEnter = true := mayEnter_cut isCut lays reflects doors
theorem finals : false = Tryz.prog.liftsFinal := (liftsFinal_cut isCut).symm
theorem isMake : Tryz.prog.make = some .cut := make_cut isCut
end Go.Proofs.YtohcebiepekbeaaGreatDoor

namespace Go.Proofs.YtohcebiepekbeaaGreatDoor
open Go.RowKit
theorem bcell {W w1 : World} (hb : Below W.heap.size W w1) : (∀ b o, b < W.heap.size → w1.cell? ⟨b, o, none⟩ = W.cell? ⟨b, o, none⟩) ∧ (∀ b o, b < W.heap.size → w1.frozen? ⟨b, o, none⟩ = W.frozen? ⟨b, o, none⟩) :=
  ⟨fun b o h => hb.cell (p := ⟨b, o, none⟩) h, fun b o h => hb.frozen (p := ⟨b, o, none⟩) h⟩
theorem grow_next {w a b : World} (h : Below w.heap.size w a) (hb : Below a.heap.size a b) : Below w.heap.size w b := h.trans (hb.mono h.size)
theorem grow_drew {B : Nat} {a w : World} (h : Below B a w) (n : Nat) : Below B a (w.drewN n) := h.trans ⟨rfl, rfl, rfl, Nat.le_refl _, fun _ _ => rfl⟩
theorem size_lt {W w1 : World} (hb : Below W.heap.size W w1) {k : Nat} (h : k < W.heap.size) : k < w1.heap.size := Nat.lt_of_lt_of_le h hb.size
theorem blk_next {W w1 : World} (hb : Below W.heap.size W w1) {b : Nat} {o : Obj} (h : W.heap[b]? = some o) : w1.heap[b]? = some o := (hb.block b (Array.getElem?_eq_some_iff.1 h).1).trans h
theorem blk_new (w : World) (o : Obj) : (w.alloc o).heap[w.heap.size]? = some o := World.alloc_heap_new w o
theorem blk_alloc {w : World} {b : Nat} {o : Obj} (h : w.heap[b]? = some o) (o' : Obj) : (w.alloc o').heap[b]? = some o := (Below.heap_alloc w o' b (Array.getElem?_eq_some_iff.1 h).1).trans h
theorem below_drewL {a b : World} (h : Below a.drew.heap.size a.drew b) : Below a.heap.size a b := ⟨h.os, h.tape, h.output, h.size, h.block⟩
theorem below_drewR {B : Nat} {a w : World} (h : Below B a w) : Below B a w.drew := h.trans ⟨rfl, rfl, rfl, Nat.le_refl _, fun _ _ => rfl⟩
theorem below_new (w : World) (o : Obj) : Below w.heap.size w (w.alloc o) := (Below.refl _ _).alloc (Nat.le_refl _) o
theorem below_newd (w : World) (o : Obj) : Below w.heap.size w (w.alloc o).drew := below_drewR (below_new w o)
theorem blk_newd (w : World) (o : Obj) : (w.alloc o).drew.heap[w.heap.size]? = some o := blk_new w o
end Go.Proofs.YtohcebiepekbeaaGreatDoor

namespace Go.Proofs.YtohcebiepekbeaaGreatDoor
open Go.ChangeShapes Go.WideShapes Go.ChangeAt Go.RowKit Go.Deep
set_option linter.unusedVariables false
set_option linter.unusedSimpArgs false

/-- From this address on lie these elements, k numbers each, in a block below B; or there are none. -/
def RowsAt {α : Type} (enc : α → List Int) (k B : Nat) (w : World) (x : Option Addr) (l : List α) : Prop :=
  l = [] ∨ ∃ b off, x = some ⟨b, off, none⟩ ∧ b < B ∧ ∀ i v j z, l[i]? = some v → (enc v)[j]? = some z → w.cell? ⟨b, off + i * k + j, none⟩ = some (.int .i64 z)

section
variable {α : Type} {enc : α → List Int} {k B B' : Nat} {w w' : World} {x : Option Addr} {l : List α}
theorem RowsAt.none_ : RowsAt enc k B w x [] := Or.inl rfl
theorem RowsAt.below (h : RowsAt enc k B w x l) (hb : Below B w w') : RowsAt enc k B w' x l := by
  rcases h with h | ⟨b, off, e, hlt, hc⟩
  · exact .inl h
  · exact .inr ⟨b, off, e, hlt, fun i v j z hi hj => (hb.cell (p := ⟨b, off + i * k + j, none⟩) hlt).trans (hc i v j z hi hj)⟩
theorem RowsAt.mono (h : RowsAt enc k B w x l) (hB : B ≤ B') : RowsAt enc k B' w x l := by
  rcases h with h | ⟨b, off, e, hlt, hc⟩
  · exact .inl h
  · exact .inr ⟨b, off, e, by omega, hc⟩
theorem RowsAt.next (h : RowsAt enc k w.heap.size w x l) (hb : Below w.heap.size w w') : RowsAt enc k w'.heap.size w' x l := (h.below hb).mono hb.size
theorem RowsAt.at_ {i : Nat} {v : α} (h : RowsAt enc k B w x l) (hi : l[i]? = some v) : ∃ b off, x = some ⟨b, off, none⟩ ∧ b < B ∧ ∀ j z, (enc v)[j]? = some z → w.cell? ⟨b, off + i * k + j, none⟩ = some (.int .i64 z) := by
  rcases h with rfl | ⟨b, off, e, hlt, hc⟩
  · simp at hi
  · exact ⟨b, off, e, hlt, fun j z hj => hc i v j z hi hj⟩
theorem RowsAt.spot {i : Nat} (h : RowsAt enc k B w x l) (hi : i < l.length) : ∃ b off, x = some ⟨b, off, none⟩ ∧ b < B := by
  rcases h with rfl | ⟨b, off, e, hlt, hc⟩
  · simp at hi
  · exact ⟨b, off, e, hlt⟩
end

/-- A slice that came in, of structs of k int64s. -/
theorem open_rows {H : Type} {enc : TypeId × Value → H} {P : Program} {w : World} {held : Bool} {r : Reach} {b0 : Nat} {t u : TypeId} {fs : Array Field} {v : Value} {d : DataW H} {q : List MemPlace}
    {α : Type} (row : α → List Int) (dec : List Int → α) (hdec : ∀ l, l.length = fs.size → row (dec l) = l)
    (ht : P.underlying t = some (.slice u)) (hu : P.underlying u = some (.struct fs)) (hflat : flatInts P fs = true) (hC : P.cellsOf u = fs.size) (hpos : 0 < fs.size)
    (hv : Value.okWide P w r b0 t v) (h : DataW.Trod enc P w 0 (fun _ => true) held t v d q) :
    ∃ (x : Option Addr) (len cap : Nat) (l : List α), v = .slice x len cap ∧ len = l.length ∧ RowsAt row fs.size w.heap.size w x l ∧ len ≤ cap ∧ cap ≤ maxLen ∧ ∀ e ∈ l, ∀ n ∈ row e, (Lit.int .i64 n).wf = true := by
  obtain ⟨a0, len0, cap0, rfl⟩ := okWide_slice ht hv
  obtain ⟨fuel, hf⟩ := h
  rcases open_slice ht hf with ⟨hcs, _⟩ | ⟨a, len, cap, m, n, D, Pl, hcs, _, hl, hm, hmm, _, hi⟩
  · simp [Value.cells] at hcs
    obtain ⟨rfl, rfl, rfl⟩ := hcs
    exact ⟨_, _, _, [], rfl, rfl, .inl rfl, Nat.le_refl _, Nat.zero_le _, by simp⟩
  · simp [Value.cells] at hcs
    obtain ⟨rfl, rfl, rfl⟩ := hcs
    simp only [if_true] at hmm
    subst hmm
    have each : ∀ i, i < len0 → ∃ ns : List Int, ns.length = fs.size ∧ (∀ j z, ns[j]? = some z → w.cell? (a.add (i * fs.size + j)) = some (.int .i64 z)) ∧ ∀ n ∈ ns, (Lit.int .i64 n).wf = true := by
      intro i hilt
      obtain ⟨cs', hc, htr⟩ := hi i (by omega)
      rw [hC] at hc
      obtain ⟨_, hclen, hcell⟩ := World.cells?_some hc
      have hsz : (Value.agg cs'.toArray).cells.toList = cs' := by simp [Value.cells]
      obtain ⟨xs, n', _, hx, hlen, hxl, hfield⟩ := DataW.trod_struct hu htr
      obtain ⟨ns, e, hns⟩ := list_of_each (Value.int .i64) (fun n => (Lit.int .i64 n).wf = true) cs' (fun j y hj => by
        have hjl : j < cs'.length := (List.getElem?_eq_some_iff.1 hj).1
        have hjf : j < fs.size := by omega
        have hfi : fs[j]? = some fs[j] := Array.getElem?_eq_getElem hjf
        have hfl := List.all_eq_true.1 hflat (fs[j], j) (by
          rw [List.mem_iff_getElem?]
          exact ⟨j, by simp [hjf]⟩)
        simp only [Bool.and_eq_true, beq_iff_eq] at hfl
        obtain ⟨⟨ho, hcc⟩, hu2⟩ := hfl
        have hu' : P.underlying fs[j].type = some (.int .i64) := by
          split at hu2
          · assumption
          · cases hu2
        have hk := hfield j fs[j] hfi
        rw [ho, hcc] at hk
        have hone : (cs'.drop j).take 1 = [y] := by
          rw [List.getElem?_eq_getElem hjl] at hj
          rw [List.drop_eq_getElem_cons hjl, Option.some.inj hj]
          rfl
        rw [hone] at hk
        obtain ⟨y', hy⟩ : ∃ y, xs[j]? = some y := ⟨xs[j]'(by omega), List.getElem?_eq_getElem (by omega)⟩
        rw [hy] at hk
        obtain ⟨m, e0, _, wm⟩ := DataW.trod_int hu' hk
        simp only [List.cons.injEq, and_true] at e0
        exact ⟨m, e0, wm⟩)
      refine ⟨ns, ?_, ?_, hns⟩
      · have := congrArg List.length e
        simp at this
        omega
      · intro j z hj
        have hjn : j < ns.length := (List.getElem?_eq_some_iff.1 hj).1
        have hjl : j < fs.size := by have := congrArg List.length e; simp at this; omega
        have hc1 := hcell j hjl
        rw [add_add] at hc1
        rw [hc1, e, List.getElem?_map, hj]
        rfl
    obtain ⟨f, hfam⟩ := choose_lt each
    refine ⟨_, _, _, (List.range len0).map fun i => dec (f i), rfl, by simp, ?_, hl, hm, ?_⟩
    · by_cases hn : len0 = 0
      · subst hn
        exact .inl rfl
      · right
        obtain ⟨h0, hc0, _⟩ := hfam 0 (by omega)
        obtain ⟨z0, hz0⟩ : ∃ z, (f 0)[0]? = some z := ⟨(f 0)[0]'(by omega), List.getElem?_eq_getElem (by omega)⟩
        have hc00 := hc0 0 z0 hz0
        obtain ⟨b, off, spot⟩ := a
        have hspot : spot = none := by simpa [Addr.add] using World.cell?_spot hc00
        subst hspot
        have hadd : ∀ i, (⟨b, off, none⟩ : Addr).add i = ⟨b, off + i, none⟩ := fun i => by unfold Addr.add; split <;> simp_all
        refine ⟨b, off, rfl, World.block_lt_of_cell? w _ (by rw [hadd] at hc00; exact hc00), fun i v j z hiv hj => ?_⟩
        have hil : i < len0 := by
          have := (List.getElem?_eq_some_iff.1 hiv).1
          simpa using this
        rw [List.getElem?_map, List.getElem?_range hil] at hiv
        simp only [Option.map_some, Option.some.injEq] at hiv
        obtain ⟨hl', hc', _⟩ := hfam i hil
        rw [← hiv, hdec _ hl'] at hj
        have := hc' j z hj
        rw [hadd] at this
        rw [Nat.add_assoc]
        exact this
    · intro e he n hn
      obtain ⟨i, hi', rfl⟩ := List.mem_map.1 he
      have hil := List.mem_range.1 hi'
      obtain ⟨hl', _, hw⟩ := hfam i hil
      rw [hdec _ hl'] at hn
      exact hw n hn

/-- In block g lie these elements from its head on, k numbers each; it has room for m of them, and may be written. -/
def TabAt {α : Type} (enc : α → List Int) (k m : Nat) (T : TypeId) (w : World) (g : Nat) (l : List α) : Prop :=
  ∃ cur : Array Value, w.heap[g]? = some (.cells cur T (0, 0)) ∧ cur.size = m * k ∧ l.length ≤ m ∧ ∀ i v j z, l[i]? = some v → (enc v)[j]? = some z → cur[i * k + j]? = some (.int .i64 z)

section
variable {α : Type} {enc : α → List Int} {k m g : Nat} {T : TypeId} {w w' : World} {l : List α}
theorem heap_set {cur : Array Value} (h : w.heap[g]? = some (.cells cur T (0, 0))) (o : Nat) (v : Value) : (w.setCell ⟨g, o, none⟩ v).heap[g]? = some (.cells (cur.setIfInBounds o v) T (0, 0)) := by
  simp [World.setCell, Array.getElem?_modify, h]
theorem TabAt.lt (h : TabAt enc k m T w g l) : g < w.heap.size := by
  obtain ⟨cur, hg, _⟩ := h
  exact (Array.getElem?_eq_some_iff.1 hg).1
theorem TabAt.keep (h : TabAt enc k m T w g l) (hg : w'.heap[g]? = w.heap[g]?) : TabAt enc k m T w' g l := by
  obtain ⟨cur, h1, h2⟩ := h
  exact ⟨cur, hg.trans h1, h2⟩
theorem TabAt.next (h : TabAt enc k m T w g l) (hb : Below w.heap.size w w') : TabAt enc k m T w' g l := h.keep (hb.block g h.lt)
theorem TabAt.other (h : TabAt enc k m T w g l) {b o : Nat} {v : Value} (hne : b ≠ g) : TabAt enc k m T (w.setCell ⟨b, o, none⟩ v) g l :=
  h.keep (by simp [World.setCell, Array.getElem?_modify, hne])
theorem TabAt.alloc (h : TabAt enc k m T w g l) (o : Obj) : TabAt enc k m T (w.alloc o) g l := h.keep (Below.heap_alloc w o g h.lt)
theorem TabAt.room (h : TabAt enc k m T w g l) {o : Nat} (ho : o < m * k) : (∃ u, w.cell? ⟨g, o, none⟩ = some u) ∧ w.frozen? ⟨g, o, none⟩ = false := by
  obtain ⟨cur, h1, h2, _⟩ := h
  refine ⟨⟨cur[o]'(by omega), ?_⟩, ?_⟩
  · simp [World.cell?, h1, h2, ho]
  · simp [World.frozen?, h1]
theorem TabAt.rows (h : TabAt enc k m T w g l) : RowsAt enc k w.heap.size w (some ⟨g, 0, none⟩) l := by
  have hlt := h.lt
  obtain ⟨cur, h1, h2, h3, h4⟩ := h
  refine .inr ⟨g, 0, rfl, hlt, fun i v j z hi hj => ?_⟩
  have := h4 i v j z hi hj
  simp [World.cell?, h1, this]
theorem TabAt.made (z : Value) (hz : z.cells.size = k) (w : World) (h : (0 : Nat) ≤ m) : TabAt enc k m T (w.alloc (.cells (madeCells z.cells (m * k)) T)) w.heap.size ([] : List α) :=
  ⟨_, blk_new w _, by rw [size_madeCells], by simp, by simp⟩
end
theorem run_make_tab {P : Program} {t e : TypeId} {z : Value} {size bytes : Nat} (ht : P.underlying t = some (.slice e)) (hi : (P.info? e).map (fun i => (i.zero, i.size, i.bytes)) = some (some z, size, bytes))
    (n : Nat) (hb : bytes * n ≤ 281474976710656) (hn : n ≤ 1048576) (w : World) :
    (Instr.makeSlice t (.int .i64 n) (.int .i64 n)).run P w = .ok (.slice (some ⟨w.heap.size, 0, none⟩) n n) (w.alloc (.cells (madeCells z.cells (n * size)) e)) := by
  cases hj : P.info? e with
  | none => rw [hj] at hi; simp at hi
  | some i =>
    rw [hj] at hi
    simp at hi
    obtain ⟨h1, h2, h3⟩ := hi
    have hq : ((bytes * n : Nat) : Int) ≤ 281474976710656 := by omega
    rw [Int.natCast_mul] at hq
    have := run_make (P := P) w t e i z ht hj h1 .i64 .i64 (n : Int) (n : Int) (by omega) (by omega) (by rw [h3]; exact hq) (by omega)
    simpa [h2] using this
theorem below_setCell {w W : World} {b : Nat} (h : Below w.heap.size w W) (hb : w.heap.size ≤ b) (o : Nat) (v : Value) : Below w.heap.size w (W.setCell ⟨b, o, none⟩ v) := h.setCell hb v
theorem info_partsT {P : Program} {t : TypeId} {z : Value} {s b : Nat} (h : (P.info? t).map (fun i => (i.zero, i.size, i.bytes)) = some (some z, s, b)) : ∃ i, P.info? t = some i ∧ i.zero = some z ∧ i.size = s ∧ i.bytes = b := by
  cases hi : P.info? t with
  | none => rw [hi] at h; simp at h
  | some i =>
    rw [hi] at h
    simp at h
    exact ⟨i, rfl, h⟩
theorem ownsRow_formT {w : World} {base : Nat} {e : TypeId} {size : Nat} {v : Value} {n : Nat} {xs : List Value} (h : w.ownsRow base e size v n xs) : ∃ x cap, v = .slice x n cap := by
  rcases h.2 with ⟨rfl, rfl⟩ | ⟨g, cap, cur, rfl, _⟩
  · exact ⟨_, _, rfl⟩
  · exact ⟨_, _, rfl⟩
end Go.Proofs.YtohcebiepekbeaaGreatDoor

namespace Go.Proofs.YtohcebiepekbeaaGreatDoor
open Go.ChangeShapes Go.WideShapes Go.ChangeAt Go.RowKit
set_option linter.unusedVariables false

theorem trodVars_below {H : Type} {enc : TypeId × Value → H} {P : Program} (hl : laidOutB P = true) {W W' : World} (bel : Below W.heap.size W W') :
    ∀ {ns : List String} {gs : List (DataW H)} {q : List MemPlace}, (∀ n ∈ ns, ∀ g t, P.globalNamed n = some g → (P.globals[g]?).map (·.type) = some t → P.readableRec t = true ∧ t < P.types.size) →
      DataW.TrodVars enc P W (fun _ => true) ns gs q → DataW.TrodVars enc P W' (fun b => decide (b < W.heap.size)) ns gs q := by
  intro ns
  induction ns with
  | nil =>
    intro gs q _ h
    obtain ⟨rfl, rfl⟩ := trodVars_none h
    exact rfl
  | cons n ns ih =>
    intro gs q hr h
    have hlt := DataW.TrodVars.lt h
    match gs, h with
    | d :: ds, h =>
      obtain ⟨g, t, cs, fuel, p, q', hg, ht, hv, hd, hrest, rfl⟩ := h
      have hgl : g < W.heap.size := by
        unfold World.var? at hv
        rw [hg] at hv
        simp only [Option.bind_some] at hv
        rcases Nat.lt_or_ge g W.heap.size with h | h
        · exact h
        · rw [Array.getElem?_eq_none h] at hv; cases hv
      have hv' := var?_below bel hg hgl hv
      obtain ⟨r1, r2⟩ := hr n (by simp) g t hg ht
      have hcells : (Value.agg cs).cells = cs := rfl
      have hd' : DataW.Trod enc P W 0 (fun _ => true) true t (.agg cs) d p := ⟨fuel, by rw [hcells]; exact hd⟩
      obtain ⟨fuel', hd2⟩ := Below.trod hl r1 r2 hd' bel (fun x hx => hlt x (by simp [hx]))
      rw [hcells] at hd2
      exact ⟨g, t, cs, fuel', p, q', hg, ht, hv', hd2, ih (fun n' hn' => hr n' (by simp [hn'])) hrest, rfl⟩

theorem trodVars_length {H : Type} {enc : TypeId × Value → H} {P : Program} {W : World} {sp : Nat → Bool} :
    ∀ {ns : List String} {gs : List (DataW H)} {q : List MemPlace}, DataW.TrodVars enc P W sp ns gs q → gs.length = ns.length := by
  intro ns
  induction ns with
  | nil =>
    intro gs q h
    obtain ⟨rfl, rfl⟩ := trodVars_none h
    rfl
  | cons n ns ih =>
    intro gs q h
    match gs, h with
    | d :: ds, h =>
      obtain ⟨g, t, cs, fuel, p, q', hg, ht, hv, hd, hrest, rfl⟩ := h
      simp [ih hrest]

theorem lifted_of_walk_laid {C : Checked} {os : Os} {f : FuncId} {fn : Func} {s : ChangeSpec} {H : Type} {enc : TypeId × Value → H} {tb : TypeId} {laid : List (String × DataW Unit)}
    (own : ownKnob C.prog.godebug = none) (started : os.Started) (noInit : C.prog.inits.idxOf? f = none) (hfn : C.prog.funcs[f]? = some fn)
    (witness : ∃ (w : World) (tape : Tape) (i : Input), w.os = os ∧ (w.forCall tape i).Shaped C.prog ∧ i.vars = [] ∧ Input.okWide C.prog (w.forCall tape i) .any w.heap.size f i ∧
      ((s.pre enc C.prog fn [] false (w.forCall tape i).memory i.args ∧ laidMetH C.prog laid (w.forCall tape i).memory) ∧ sizedMet enc C.prog fn (OpenSpec.ofChange s) false (w.forCall tape i).memory i.args) ∧ ({} : Assume).holds C.prog (lone (Frame.enter C.prog f i.args .normal) [] (w.forCall tape i)))
    (hl : laidOutB C.prog = true)
    (hread : fn.params.toList.all (fun t => C.prog.readableRec t && decide (t < C.prog.types.size)) = true)
    (hvars : s.vars.all (fun n => match C.prog.globalNamed n with | some g => (match (C.prog.globals[g]?).map (·.type) with | some t => C.prog.readableRec t && decide (t < C.prog.types.size) | none => true) | none => true) = true)
    (hres : fn.resultTypes = #[tb]) (htb : C.prog.underlying tb = some .bool)
    (hspec : ∀ ds gs : List (DataW H), ds.length = fn.params.size → gs.length = s.vars.length → s.fn H (ds ++ gs) = { results := [.lit (.bool true)], args := ds, vars := gs })
    (walk : ∀ (W : World) (base : Nat) (args : Array Value) (ds : List (DataW H)) (q : List MemPlace),
      (∀ (j : Nat) t v, fn.params[j]? = some t → args[j]? = some v → Value.okWide C.prog W .any base t v) →
      Reads enc C.prog W fn.params.toList args.toList ds q → laidMetH C.prog laid W →
      Calls C.prog f args W fun e W' => e = .returned (.bool true) ∧ Below W.heap.size W W') :
    ReturnsInHanded {} C os f .any (fun w args => (s.pre enc C.prog fn [] false w args ∧ laidMetH C.prog laid w) ∧ sizedMet enc C.prog fn (OpenSpec.ofChange s) false w args) (s.post enc C.prog fn false true false false) := by
  refine returnsInHanded_of_change_and (X := fun w _ => laidMetH C.prog laid w) (fun _ _ _ hh h => h.of_heap hh) own started noInit hfn witness ?_
  intro W base args ds gs before hval hW _ _ hL _
  have hW' := hW
  obtain ⟨p, q, hA, hV, rfl, hfz, hnd⟩ := hW
  have hlen : ds.length = fn.params.size := by
    have := trodAll_length hA
    simpa using this
  have hs := hspec ds gs hlen (trodVars_length hV)
  refine (walk W base args ds p hval hA hL).mono fun e W' ⟨he, bel⟩ => ?_
  subst he
  refine ⟨_, rfl, ds, gs, _, [], p, q, hW', ?_, ?_, ?_, bel.frame _, fun h => by cases h⟩
  · rw [hs, hres]
    exact trodAll_mk1 (shut_bool htb _)
  · rw [hs]
    refine trodAll_below hl bel (fun t ht => ?_) hA
    have := List.all_eq_true.1 hread t ht
    simpa using this
  · rw [hs]
    refine trodVars_below hl bel (fun n hn g t hg ht => ?_) hV
    have := List.all_eq_true.1 hvars n hn
    rw [hg] at this
    simp only [ht] at this
    simpa using this

/-! ### What a list of variables that are laid gives -/
theorem laidVars_mem {P : Program} {w : World} {n : String} {d : DataW Unit} : ∀ {l : List (String × DataW Unit)} {ps : List MemPlace}, DataW.LaidVars P w l ps → (n, d) ∈ l →
    ∃ g t cs fuel p, P.globalNamed n = some g ∧ (P.globals[g]?).map (·.type) = some t ∧ w.var? P n = some cs ∧ DataW.trod (fun _ => ()) P w 0 (fun _ => true) false fuel t cs.toList = some (d, p) ∧
      ∀ x ∈ MemPlace.row ⟨g, 0, none⟩ cs.size ++ p, x ∈ ps := by
  intro l
  induction l with
  | nil => intro ps _ h; cases h
  | cons a r ih =>
    intro ps h hm
    obtain ⟨na, da⟩ := a
    obtain ⟨g, t, cs, fuel, p, q, hg, ht, hv, hd, hrest, rfl⟩ := h
    rcases List.mem_cons.1 hm with e | hm
    · cases e
      exact ⟨g, t, cs, fuel, p, hg, ht, hv, hd, fun x hx => by simp only [List.mem_append] at hx ⊢; exact Or.inl hx⟩
    · obtain ⟨g', t', cs', fuel', p', a1, a2, a3, a4, a5⟩ := ih hrest hm
      exact ⟨g', t', cs', fuel', p', a1, a2, a3, a4, fun x hx => List.mem_append.2 (Or.inr (a5 x hx))⟩
theorem noStandIn {P : Program} {ts : Array TypeId} (h : (ts.toList.all fun u => !P.wantsStandIn u) = true) (j : Nat) (t : TypeId) (ht : ts[j]? = some t) : P.wantsStandIn t = false := by
  have hm : t ∈ ts.toList := by simpa using Array.mem_of_getElem? ht
  simpa using List.all_eq_true.1 h t hm
end Go.Proofs.YtohcebiepekbeaaGreatDoor

namespace Go.Proofs.YtohcebiepekbeaaGreatDoor
open Go.ChangeShapes Go.WideShapes Go.ChangeAt Go.RowKit
set_option linter.unusedVariables false

/-- The variable number g holds an error of errors.New's make, at a, with this text. -/
structure Sent (W : World) (g : Nat) (text : List UInt8) (a : Addr) : Prop where
  cell : W.cell? ⟨g, 0, none⟩ = some (.iface 226 (.pointer (some a)))
  said : ∃ s : ByteArray, W.cell? a = some (.string s) ∧ s.data.toList = text
  live : ∃ c t, W.heap[a.block]? = some (.cells c t (0, 0))

/-- What a run of SampleOk leans on. -/
structure Ld (W : World) (ao an au : Addr) : Prop where
  et : W.cell? ⟨3, 0, none⟩ = some (.iface 169 (.agg #[.pointer (some ⟨12, 63, none⟩)]))
  outside : Sent W 0 [111, 117, 116, 115, 105, 100, 101, 32, 105, 116, 115, 32, 98, 111, 117, 110, 100, 115] ao
  noTime : Sent W 1 [110, 111, 32, 116, 105, 109, 101] an
  unsure : Sent W 2 [116, 111, 108, 100, 32, 108, 101, 115, 115, 32, 115, 117, 114, 101, 108, 121, 32, 116, 104, 97, 110, 32, 97, 110, 121, 32, 115, 97, 109, 112, 108, 101] au

theorem cell_lt {W : World} {b o : Nat} {v : Value} (h : W.cell? ⟨b, o, none⟩ = some v) : b < W.heap.size := by
  rcases Nat.lt_or_ge b W.heap.size with h' | h'
  · exact h'
  · simp [World.cell?, Array.getElem?_eq_none h'] at h

theorem cell_lt' {W : World} {a : Addr} {v : Value} (h : W.cell? a = some v) : a.block < W.heap.size := by
  rcases Nat.lt_or_ge a.block W.heap.size with h' | h'
  · exact h'
  · simp [World.cell?, Array.getElem?_eq_none h'] at h

theorem Sent.next {W w' : World} {g : Nat} {text : List UInt8} {a : Addr} (h : Sent W g text a) (hb : Below W.heap.size W w') : Sent w' g text a := by
  obtain ⟨s, hs, e⟩ := h.said
  obtain ⟨c, t, hc⟩ := h.live
  refine ⟨(hb.cell (p := ⟨g, 0, none⟩) (cell_lt h.cell)).trans h.cell, ⟨s, (hb.cell (cell_lt' hs)).trans hs, e⟩, c, t, blk_next hb hc⟩

theorem Sent.apart {W : World} {g g' : Nat} {t t' : List UInt8} {a a' : Addr} (h : Sent W g t a) (h' : Sent W g' t' a') (hne : t ≠ t') : a ≠ a' := by
  intro e
  subst e
  obtain ⟨s, hs, e1⟩ := h.said
  obtain ⟨s', hs', e2⟩ := h'.said
  have e := hs.symm.trans hs'
  simp only [Option.some.injEq, Value.string.injEq] at e
  subst e
  exact hne (e1.symm.trans e2)

theorem Ld.next {W w' : World} {ao an au : Addr} (h : Ld W ao an au) (hb : Below W.heap.size W w') : Ld w' ao an au :=
  ⟨(hb.cell (p := ⟨3, 0, none⟩) (cell_lt h.et)).trans h.et, h.outside.next hb, h.noTime.next hb, h.unsure.next hb⟩

theorem Ld.ou {W : World} {ao an au : Addr} (h : Ld W ao an au) : ao ≠ au := h.outside.apart h.unsure (by decide)
theorem Ld.nu {W : World} {ao an au : Addr} (h : Ld W ao an au) : an ≠ au := h.noTime.apart h.unsure (by decide)

theorem etNamed : Tryz.prog.globalNamed "errors.errorType" = some 3 := by kernel_rfl
theorem rtNamed : (Tryz.prog.cutTypes.find? (·.1 == "internal/reflectlite.rtype")).map (·.2) = some 169 := by kernel_rfl
theorem oneRow : ((List.range 255).filter fun t => Tryz.prog.rowNamed t [101, 114, 114, 111, 114]) = [63] := by kernel_rfl
theorem typesSize : Tryz.prog.types.size = 255 := by kernel_rfl

set_option maxRecDepth 100000 in
/-- The handle's cell, out of what the statement lays. -/
theorem handle_cell {W : World} {n : String} {d : DataW Unit} (hn : n = "errors.errorType") (hd : d = .iface "internal/reflectlite.rtype" (.agg [.ptr (.lit (.string [101, 114, 114, 111, 114]))]))
    (h : ∃ name u ty, d.handleName? = some name ∧ (Tryz.prog.cutTypes.find? (·.1 == "internal/reflectlite.rtype")).map (·.2) = some u ∧ ty < Tryz.prog.types.size ∧ Tryz.prog.rowNamed ty name = true ∧ W.var? Tryz.prog n = some #[.iface u (.agg #[typeHandle Tryz.prog ty])]) :
    W.cell? ⟨3, 0, none⟩ = some (.iface 169 (.agg #[.pointer (some ⟨12, 63, none⟩)])) := by
  subst hn hd
  obtain ⟨name, u, ty, e1, e2, e3, e4, e5⟩ := h
  have en : name = [101, 114, 114, 111, 114] := (Option.some.inj e1).symm
  subst en
  obtain rfl := Option.some.inj (rtNamed.symm.trans e2)
  have hm : ty ∈ (List.range 255).filter fun t => Tryz.prog.rowNamed t [101, 114, 114, 111, 114] := List.mem_filter.2 ⟨List.mem_range.2 (by rw [← typesSize]; exact e3), e4⟩
  rw [oneRow] at hm
  obtain rfl := List.mem_singleton.1 hm
  have hh : typeHandle Tryz.prog 63 = .pointer (some ⟨12, 63, none⟩) := by kernel_rfl
  rw [hh] at e5
  simpa using World.var?_cell etNamed e5 0

set_option maxRecDepth 100000 in
theorem errRows : ((List.range Tryz.prog.types.size).all fun u => Tryz.prog.typeName? 3 u != some ("*" ++ "errors.errorString") || u == 226) = true := by kernel_rfl
set_option maxRecDepth 100000 in
theorem errNamed : ((List.range Tryz.prog.types.size).all fun e => Tryz.prog.typeName? 2 e != some "errors.errorString" || (match (Tryz.prog.info? e).map (·.desc) with | some (TypeDesc.named _ _) => true | _ => false)) = true := by kernel_rfl

set_option maxRecDepth 100000 in
/-- A reason's cell, out of what the statement lays. -/
theorem sent_of {W : World} {l : List (String × DataW Unit)} (h : laidMet Tryz.prog l W) {n : String} {text : List UInt8} {g : Nat} (hn : Tryz.prog.globalNamed n = some g) (ht : (Tryz.prog.globals[g]?).map (·.type) = some 63)
    (hm : (n, DataW.iface "*errors.errorString" (.ptr (.agg [.lit (.string text)]))) ∈ l) : ∃ a, Sent W g text a := by
  obtain ⟨ps, hv, _, hp⟩ := h
  obtain ⟨g', t, cs, fuel, p, e1, e2, e3, e4, e5⟩ := laidVars_mem hv hm
  obtain rfl := Option.some.inj (hn.symm.trans e1)
  obtain rfl := Option.some.inj (ht.symm.trans e2)
  have hcell : ∀ v, cs.toList = [v] → W.cell? ⟨g, 0, none⟩ = some v := fun v hv => by
    have := World.var?_cell hn e3 0
    rw [Array.eq_one_of_toList hv] at this
    simpa using this
  have hsize : ∀ v, cs.toList = [v] → MemPlace.cell g 0 ∈ ps := fun v hv => e5 _ (by rw [Array.eq_one_of_toList hv]; simp [MemPlace.row])
  obtain ⟨a, s, c1, c2, c3, _, c5⟩ := errorString_of_trod (ti := 63) (tp := 226) (te := 228) (ts := 9) Tryz.underlying63
    (fun u hu => typeName_ptr_named errRows errNamed (by decide) u hu) Tryz.underlying226 Tryz.underlying228 rfl rfl Tryz.underlying9 (by kernel_rfl) (by kernel_rfl) e4
    (fun u v hc => (hp g 0 (hsize _ hc)).2 u v (hcell _ hc))
  have hlive := (hp a.block a.off (e5 _ (by rw [c5]; simp [MemPlace.row]))).1
  exact ⟨a, hcell _ c1, ⟨s, c2, c3⟩, hlive⟩

/-- The two halves of what a statement lays. -/
theorem laid_halves {W : World} {l : List (String × DataW Unit)} (h : laidMetH Tryz.prog l W) {n : String} {d : DataW Unit} (hm : (n, d) ∈ l) (hd : d.handleName?.isSome = true) :
    laidMet Tryz.prog (l.filter fun x => x.2.handleName?.isNone) W ∧ handlesMet Tryz.prog (l.filter fun x => x.2.handleName?.isSome) W := by
  have hf : (n, d) ∈ l.filter fun x => x.2.handleName?.isSome := List.mem_filter.2 ⟨hm, hd⟩
  unfold laidMetH at h
  generalize (l.filter fun x => x.2.handleName?.isSome) = fl at h hf
  cases fl with
  | nil => cases hf
  | cons a r => exact h

/-- The handle of the type error, as a statement lays it. -/
def handleD : DataW Unit := .iface "internal/reflectlite.rtype" (.agg [.ptr (.lit (.string [101, 114, 114, 111, 114]))])
/-- An error of errors.New's make, as a statement lays it. -/
def sentD (text : List UInt8) : DataW Unit := .iface "*errors.errorString" (.ptr (.agg [.lit (.string text)]))
theorem sentD_plain (text : List UInt8) : (sentD text).handleName?.isNone = true := by
  simp [sentD, DataW.handleName?]
theorem handleD_some : handleD.handleName?.isSome = true := by
  simp [handleD, DataW.handleName?]

theorem sentH_of {W : World} {l : List (String × DataW Unit)} (h : laidMetH Tryz.prog l W) (h0 : ("errors.errorType", handleD) ∈ l) {n : String} {text : List UInt8} {g : Nat}
    (hm : (n, sentD text) ∈ l) (hn : Tryz.prog.globalNamed n = some g) (ht : (Tryz.prog.globals[g]?).map (·.type) = some 63) : ∃ a, Sent W g text a :=
  sent_of (laid_halves h h0 handleD_some).1 hn ht (List.mem_filter.2 ⟨hm, sentD_plain text⟩)

theorem ld_of {W : World} {l : List (String × DataW Unit)} (h : laidMetH Tryz.prog l W) (h0 : ("errors.errorType", handleD) ∈ l)
    (h1 : ("loop.example/g00656/impl.errOutside", sentD [111, 117, 116, 115, 105, 100, 101, 32, 105, 116, 115, 32, 98, 111, 117, 110, 100, 115]) ∈ l)
    (h2 : ("loop.example/g00656/impl.errNoTime", sentD [110, 111, 32, 116, 105, 109, 101]) ∈ l)
    (h3 : ("loop.example/g00656/impl.errUnsure", sentD [116, 111, 108, 100, 32, 108, 101, 115, 115, 32, 115, 117, 114, 101, 108, 121, 32, 116, 104, 97, 110, 32, 97, 110, 121, 32, 115, 97, 109, 112, 108, 101]) ∈ l) : ∃ ao an au, Ld W ao an au := by
  obtain ⟨ao, H1⟩ := sentH_of h h0 h1 (by kernel_rfl) (by kernel_rfl)
  obtain ⟨an, H2⟩ := sentH_of h h0 h2 (by kernel_rfl) (by kernel_rfl)
  obtain ⟨au, H3⟩ := sentH_of h h0 h3 (by kernel_rfl) (by kernel_rfl)
  have he := (laid_halves h h0 handleD_some).2 _ (List.mem_filter.2 ⟨h0, handleD_some⟩)
  have hf : handleD.funcsIn? = none := by simp [handleD, DataW.funcsIn?]
  rw [hf] at he
  exact ⟨ao, an, au, handle_cell rfl rfl he, H1, H2, H3⟩
end Go.Proofs.YtohcebiepekbeaaGreatDoor

namespace Go.Proofs.YtohcebiepekbeaaGreatDoor
open Go.ChangeShapes Go.WideShapes Go.ChangeAt Go.RowKit
set_option linter.unusedVariables false

/-- Is it within these bounds? -/
def inB (lo n hi : Int) : Bool := decide (lo ≤ n) && decide (n ≤ hi)
theorem inB_yes {lo n hi : Int} (h0 : lo ≤ n) (h1 : n ≤ hi) : inB lo n hi = true := by simp [inB, h0, h1]
theorem inB_low {lo n hi : Int} (h0 : ¬ lo ≤ n) : inB lo n hi = false := by simp [inB, h0]
theorem inB_high {lo n hi : Int} (h0 : ¬ n ≤ hi) : inB lo n hi = false := by simp [inB, h0]
theorem inB_iff {lo n hi : Int} : inB lo n hi = true ↔ lo ≤ n ∧ n ≤ hi := by simp [inB]

theorem within_c (n lo hi : Int) (w : World) :
    Calls Tryz.prog 67 #[.int .i64 n, .int .i64 lo, .int .i64 hi] w fun e w' => e = .returned (.bool (inB lo n hi)) ∧ w = w' := by
  by_cases h0 : lo ≤ n
  · by_cases h1 : n ≤ hi
    · rw [inB_yes h0 h1]
      go_enter Tryz.func67, Tryz.ntmps67
      go_wp2
      go_returns
      exact ⟨rfl, rfl⟩
    · rw [inB_high h1]
      go_enter Tryz.func67, Tryz.ntmps67
      go_wp2
      go_returns
      exact ⟨rfl, rfl⟩
  · rw [inB_low h0]
    go_enter Tryz.func67, Tryz.ntmps67
    go_wp2
    go_returns
    exact ⟨rfl, rfl⟩

theorem l1In_c (n lo hi : Int) (w : World) :
    Calls Tryz.prog 54 #[.int .i64 n, .int .i64 lo, .int .i64 hi] w fun e w' => e = .returned (.bool (inB lo n hi)) ∧ w = w' := by
  by_cases h0 : lo ≤ n
  · by_cases h1 : n ≤ hi
    · rw [inB_yes h0 h1]
      go_enter Tryz.func54, Tryz.ntmps54
      go_wp2
      go_returns
      exact ⟨rfl, rfl⟩
    · rw [inB_high h1]
      go_enter Tryz.func54, Tryz.ntmps54
      go_wp2
      go_returns
      exact ⟨rfl, rfl⟩
  · rw [inB_low h0]
    go_enter Tryz.func54, Tryz.ntmps54
    go_wp2
    go_returns
    exact ⟨rfl, rfl⟩

theorem isTime_c (t : Int) (w : World) :
    Calls Tryz.prog 68 #[.int .i64 t] w fun e w' => e = .returned (.bool (inB 0 t 4000000000000000)) ∧ w = w' := by
  go_enter Tryz.func68, Tryz.ntmps68
  go_wp2_with (go_at_call 67; refine (within_c _ _ _ _).mono ?_; rintro e w1 ⟨rfl, rfl⟩)
  go_returns
  exact ⟨rfl, rfl⟩

theorem l1Time_c (t : Int) (w : World) :
    Calls Tryz.prog 64 #[.int .i64 t] w fun e w' => e = .returned (.bool (inB 0 t 4000000000000000)) ∧ w = w' := by
  go_enter Tryz.func64, Tryz.ntmps64
  go_wp2_with (go_at_call 54; refine (l1In_c _ _ _ _).mono ?_; rintro e w1 ⟨rfl, rfl⟩)
  go_returns
  exact ⟨rfl, rfl⟩
end Go.Proofs.YtohcebiepekbeaaGreatDoor

namespace Go.Proofs.YtohcebiepekbeaaGreatDoor
open Go.ChangeShapes Go.WideShapes Go.ChangeAt Go.RowKit
set_option linter.unusedVariables false
set_option linter.unusedSimpArgs false

structure Sm where
  off : Int
  delay : Int
  disp : Int
  at_ : Int

def Sm.ok (s : Sm) : Bool := inB (-1000000000000) s.off 1000000000000 && inB 0 s.delay 1000000000000 && inB 0 s.disp 16000000 && inB 0 s.at_ 4000000000000000
def Sm.zero : Sm := ⟨0, 0, 0, 0⟩
theorem Sm.ok_iff {s : Sm} : s.ok = true ↔ (-1000000000000 ≤ s.off ∧ s.off ≤ 1000000000000) ∧ (0 ≤ s.delay ∧ s.delay ≤ 1000000000000) ∧ (0 ≤ s.disp ∧ s.disp ≤ 16000000) ∧ (0 ≤ s.at_ ∧ s.at_ ≤ 4000000000000000) := by
  simp [Sm.ok, inB, and_assoc]

/-- Four right times, in their order. -/
def waysOk (a b c d : Int) : Bool := inB 0 a 4000000000000000 && inB 0 b 4000000000000000 && inB 0 c 4000000000000000 && inB 0 d 4000000000000000 && !decide (d < a) && !decide (c < b)
theorem waysOk_iff {a b c d : Int} : waysOk a b c d = true ↔ (0 ≤ a ∧ a ≤ 4000000000000000) ∧ (0 ≤ b ∧ b ≤ 4000000000000000) ∧ (0 ≤ c ∧ c ≤ 4000000000000000) ∧ (0 ≤ d ∧ d ≤ 4000000000000000) ∧ a ≤ d ∧ b ≤ c := by
  simp [waysOk, inB, and_assoc]
def smOf (a b c d : Int) : Sm := ⟨(b - a + c - d) / 2, d - a - (c - b), min 16000000 (1 + (d - a) * 15 / 1000000), d⟩
def smOfOk (a b c d : Int) : Bool := waysOk a b c d && (smOf a b c d).ok
def smOfV (a b c d : Int) : Sm := if smOfOk a b c d then smOf a b c d else Sm.zero

/-- So many begun seconds. -/
def begun (n : Int) : Int := (n + 999999) / 1000000
def agedOk (s : Sm) (now : Int) : Bool := s.ok && inB 0 now 4000000000000000 && !decide (now < s.at_)
theorem agedOk_iff {s : Sm} {now : Int} : agedOk s now = true ↔ s.ok = true ∧ (0 ≤ now ∧ now ≤ 4000000000000000) ∧ s.at_ ≤ now := by
  simp [agedOk, inB, and_assoc]
def agedOf (s : Sm) (now : Int) : Sm := ⟨s.off, s.delay, min 16000000 (s.disp + begun (now - s.at_) * 15), now⟩
def agedV (s : Sm) (now : Int) : Sm := if agedOk s now then agedOf s now else Sm.zero
def reachV (s : Sm) : Int := if s.ok then (s.delay + 1) / 2 + s.disp else -1

/-! ### Go's quotient down -/
theorem tdiv_pos {a : Int} (h : 0 ≤ a) (b : Int) : Int.tdiv a b = a / b := Int.tdiv_eq_ediv_of_nonneg h
theorem tdiv_two (a : Int) : Int.tdiv a 2 = if a < 0 ∧ a % 2 ≠ 0 then a / 2 + 1 else a / 2 := by
  by_cases h : a < 0
  · have e : Int.tdiv a 2 = -((-a) / 2) := by
      have := Int.neg_tdiv (-a) 2
      rw [Int.neg_neg] at this
      rw [this, tdiv_pos (by omega)]
    rw [e]
    split <;> omega
  · rw [tdiv_pos (by omega)]
    split <;> omega
theorem tmod_two (a : Int) : Int.tmod a 2 = if a < 0 ∧ a % 2 ≠ 0 then -1 else a % 2 := by
  rw [Int.tmod_def, tdiv_two]
  split <;> omega
end Go.Proofs.YtohcebiepekbeaaGreatDoor
