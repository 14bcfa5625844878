/- The frame of every law of this seat: where its walk returns true and nothing that lay before the call has turned, the statement holds. -/
import Derived.WalkKit
import Derived.ProofKit
import Derived.OpenShut
import Derived.ShutString
import Derived.ChangeOld
import Derived.Below
import Derived.JoinedOf
import Derived.Test.YteecemjbkpkpaaaDoorRows
import Derived.Handy
import Derived.Lib.Hide
import Derived.Deep.QuietTactic
import Derived.RangeFuncBox
import Derived.Laws.AppendOwn
import Derived.BigQuiet
import Derived.Deep.AppendLies
namespace Go.Proofs.YteecemjbkpkpaaaDoor
open Go.ChangeShapes Go.WideShapes Go.ChangeAt Go.RowKit

theorem trodAll_lt {H : Type} {enc : TypeId × Value → H} {P : Program} {W : World} {base : Nat} {sp : Nat → Bool} {held : Bool} :
    ∀ {Ts : List TypeId} {vs : List Value} {ds : List (DataW H)} {ps : List MemPlace}, DataW.TrodAll enc P W base sp held Ts vs ds ps → ∀ x ∈ ps, x.block < W.heap.size := by
  intro Ts
  induction Ts with
  | nil =>
    intro vs ds ps h
    obtain ⟨rfl, rfl, rfl⟩ := trodAll_nil h
    simp
  | cons t ts ih =>
    intro vs ds ps h
    obtain ⟨v, vs', d, ds', p, q, rfl, rfl, rfl, ⟨m, hm⟩, hr⟩ := trodAll_cons h
    intro x hx
    rcases List.mem_append.1 hx with hx | hx
    · exact DataW.trod_lt m _ _ _ hm x hx
    · exact ih hr x hx

theorem trodAll_below {H : Type} {enc : TypeId × Value → H} {P : Program} (hl : laidOutB P = true) {W W' : World} (bel : Below W.heap.size W W') :
    ∀ {Ts : List TypeId} {vs : List Value} {ds : List (DataW H)} {ps : List MemPlace}, (∀ t ∈ Ts, P.readableRec t = true ∧ t < P.types.size) →
      DataW.TrodAll enc P W 0 (fun _ => true) true Ts vs ds ps → DataW.TrodAll enc P W' 0 (fun b => decide (b < W.heap.size)) true Ts vs ds ps := by
  intro Ts
  induction Ts with
  | nil =>
    intro vs ds ps _ h
    obtain ⟨rfl, rfl, rfl⟩ := trodAll_nil h
    exact trodAll_mk0
  | cons t ts ih =>
    intro vs ds ps hr h
    obtain ⟨v, vs', d, ds', p, q, rfl, rfl, rfl, h0, hs⟩ := trodAll_cons h
    have lt0 : ∀ x ∈ p, x.block < W.heap.size := by obtain ⟨m, hm⟩ := h0; exact DataW.trod_lt m _ _ _ hm
    exact trodAll_cons_mk (Below.trod hl (hr t (by simp)).1 (hr t (by simp)).2 h0 bel lt0) (ih (fun t ht => hr t (by simp [ht])) hs)

theorem trodAll_length {H : Type} {enc : TypeId × Value → H} {P : Program} {W : World} {base : Nat} {sp : Nat → Bool} {held : Bool} :
    ∀ {Ts : List TypeId} {vs : List Value} {ds : List (DataW H)} {ps : List MemPlace}, DataW.TrodAll enc P W base sp held Ts vs ds ps → ds.length = Ts.length := by
  intro Ts
  induction Ts with
  | nil =>
    intro vs ds ps h
    obtain ⟨rfl, rfl, rfl⟩ := trodAll_nil h
    rfl
  | cons t ts ih =>
    intro vs ds ps h
    obtain ⟨v, vs', d, ds', p, q, rfl, rfl, rfl, _, hr⟩ := trodAll_cons h
    simp [ih hr]

/-! ### The closed facts of a row, each of its own; what the translation's head says, read off its first word -/
theorem head_via {α : Type} (f : List Char → α) (s : String) (l : List Char) (r : α) (hs : String.ofList l = s) (h : f l = r) : f s.toList = r := by subst hs; rw [String.toList_ofList]; exact h
theorem cutFirst {P : Program} (h : (behindMainWord (wordsSigns P.initOrder.toList)).head? = some "cut".toList) : ∃ rest, behindMainWord (wordsSigns P.initOrder.toList) = "cut".toList :: rest := by
  cases hb : behindMainWord (wordsSigns P.initOrder.toList) with
  | nil => rw [hb] at h; cases h
  | cons c rest => rw [hb] at h; exact ⟨rest, by simpa using h⟩
theorem strip_cut (rest : List (List Char)) : stripLifts liftWords ("cut".toList :: rest) = ([], "cut".toList :: rest) := by
  have e : ∀ (o : String), ("cut".toList == o.toList) = false → ∀ os, stripLifts (o :: os) ("cut".toList :: rest) = stripLifts os ("cut".toList :: rest) := by
    intro o h os
    simp only [stripLifts, h, Bool.false_eq_true, if_false]
  unfold liftWords
  repeat rw [e _ (by decide)]
  rfl
theorem headLifts_cut {P : Program} (h : (behindMainWord (wordsSigns P.initOrder.toList)).head? = some "cut".toList) : P.headLifts = [] := by
  obtain ⟨rest, hr⟩ := cutFirst h
  unfold Program.headLifts
  rw [hr, strip_cut]
  simp
theorem mayEnter_cut {P : Program} (h : (behindMainWord (wordsSigns P.initOrder.toList)).head? = some "cut".toList) (h1 : P.laysLater = false) (h2 : P.bearsReflect = false) (h3 : P.doorFits [] = true) : P.mayEnter = true := by
  obtain ⟨rest, hr⟩ := cutFirst h
  unfold Program.mayEnter
  rw [hr]
  dsimp only
  rw [strip_cut]
  simp [h1, h2, h3]
theorem liftsFinal_cut {P : Program} (h : (behindMainWord (wordsSigns P.initOrder.toList)).head? = some "cut".toList) : P.liftsFinal = false := by
  unfold Program.liftsFinal
  rw [headLifts_cut h]
  simp only [h]
  simp
theorem make_cut {P : Program} (h : (behindMainWord (wordsSigns P.initOrder.toList)).head? = some "cut".toList) : P.make = some .cut := by
  obtain ⟨rest, hr⟩ := cutFirst h
  unfold Program.make
  rw [hr]
  have e1 : ("cut".toList == "gc".toList) = false := by decide
  have e2 : ("cut".toList == "spec".toList) = false := by decide
  simp only [e1, e2]
  simp

theorem facts_of {P : Program} {f : FuncId} {fn : Func} {s : ChangeSpec} {c : OpenClaim}
    (k1 : c.wf (OpenSpec.ofChange s) = true) (k2 : laidOutB P = true) (k3 : mapsRowed P = true)
    (k4 : fn.params.all (P.readableRec ·) = true) (k5 : namedTie P c.named s.vars = true)
    (k6 : c.stops = []) (k7 : P.stops = []) (k8 : c.knobs = []) (k9 : P.stopKnobs = [])
    (k10 : c.inPlace = P.inPlace f) (k11 : c.unfollowed = P.unfollowed f) (k12 : c.recurses = P.recurses f) (k13 : c.named = P.varsNamed f)
    (k14 : c.maps = (fn.params.toList ++ s.plain.varTypes P).any (P.mapsRec ·)) (k15 : c.ifaces = (fn.params.toList ++ s.plain.varTypes P).any (P.ifacesRec ·)) (k16 : c.mapsOut = P.mapsAmong fn.resultTypes.toList)
    (k17 : c.loops = (fn.params.toList ++ s.plain.varTypes P).any (P.loopsFrom ·)) (k18 : c.wideKeys = (fn.params.toList ++ s.plain.varTypes P ++ fn.resultTypes.toList).any (P.wideKeysFrom ·))
    (k19 : s.vars.all (P.varReadable ·) = true) (k20 : fn.resultTypes.all (fun t => P.readableRec t && decide (t < P.types.size)) = true) (k21 : c.ifacesOut = fn.resultTypes.toList.any (P.ifacesRec ·)) (k22 : c.loopsOut = fn.resultTypes.toList.any (P.loopsFrom ·))
    (k23 : c.plainKeys = P.plainKeys) (k24 : c.shortTexts.isNone = true) (k25 : P.stopsHeard = true) (k26 : P.mayEnter = true) (k27 : c.lifted = P.liftsFinal) (k28 : P.make = some c.make)
    (kd : c.domain = []) (k29 : c.kinds = []) (k30 : c.pinned = c.pinnedBy)
    (k31 : c.veiled = (fn.params.toList ++ s.plain.varTypes P ++ fn.resultTypes.toList).any (P.veiledRec ·)) (k32 : c.veiledFits P fn.params.toList (fn.params.toList ++ s.plain.varTypes P ++ fn.resultTypes.toList) = true) :
    joinedFacts P f fn s c = true := by
  unfold joinedFacts
  rw [k1, k2, k3, k4, k5, k6, k7, k8, k9, ← k10, ← k11, ← k12, ← k13, ← k14, ← k15, ← k16, ← k17, ← k18, k19, k20, ← k21, ← k22, ← k23, k24, k25, k26, ← k27, k28, kd, k29, ← k30, ← k31, k32]
  simp

/-- What every law's walk is told of its arguments: they read as data. -/
def Reads {H : Type} (enc : TypeId × Value → H) (P : Program) (W : World) (Ts : List TypeId) (vs : List Value) (ds : List (DataW H)) (ps : List MemPlace) : Prop :=
  DataW.TrodAll enc P W 0 (fun _ => true) true Ts vs ds ps

theorem lifted_of_walk {C : Checked} {os : Os} {f : FuncId} {fn : Func} {s : ChangeSpec} {H : Type} {enc : TypeId × Value → H} {tb : TypeId}
    (own : ownKnob C.prog.godebug = none) (started : os.Started) (noInit : C.prog.inits.idxOf? f = none) (hfn : C.prog.funcs[f]? = some fn)
    (witness : ∃ (w : World) (tape : Tape) (i : Input), w.os = os ∧ (w.forCall tape i).Shaped C.prog ∧ i.vars = [] ∧ Input.okWide C.prog (w.forCall tape i) .any w.heap.size f i ∧
      s.pre6 enc C.prog fn [] false (w.forCall tape i).memory i.args ∧ ({} : Assume).holds C.prog (lone (Frame.enter C.prog f i.args .normal) [] (w.forCall tape i)))
    (hl : laidOutB C.prog = true) (hvars : s.vars = [])
    (hread : fn.params.toList.all (fun t => C.prog.readableRec t && decide (t < C.prog.types.size)) = true)
    (hres : fn.resultTypes = #[tb]) (htb : C.prog.underlying tb = some .bool)
    (hspec : ∀ ds : List (DataW H), ds.length = fn.params.size → s.fn H ds = { results := [.lit (.bool true)], args := ds })
    (walk : ∀ (W : World) (base : Nat) (args : Array Value) (ds : List (DataW H)) (q : List MemPlace),
      (∀ (j : Nat) t v, fn.params[j]? = some t → args[j]? = some v → Value.okWide C.prog W .any base t v) →
      Reads enc C.prog W fn.params.toList args.toList ds q →
      Calls C.prog f args W fun e W' => e = .returned (.bool true) ∧ Below W.heap.size W W') :
    ReturnsInHanded {} C os f .any (s.pre6 enc C.prog fn [] false) (s.post enc C.prog fn false true false false) := by
  refine returnsInHanded_of_change own started noInit hfn witness ?_
  intro W base args ds gs before hval hW _ _
  have hW' := hW
  obtain ⟨p, q, hA, hV, rfl, hfz, hnd⟩ := hW
  have hgs : gs = [] ∧ q = [] := by
    rw [hvars] at hV
    cases gs with
    | nil => exact ⟨rfl, hV⟩
    | cons _ _ => exact hV.elim
  obtain ⟨rfl, rfl⟩ := hgs
  have hlen : ds.length = fn.params.size := by
    have := trodAll_length hA
    simpa using this
  have hs : s.fn H (ds ++ []) = { results := [.lit (.bool true)], args := ds } := by rw [List.append_nil]; exact hspec ds hlen
  refine (walk W base args ds p hval hA).mono fun e W' ⟨he, bel⟩ => ?_
  subst he
  refine ⟨_, rfl, ds, [], _, [], p, [], hW', ?_, ?_, ?_, bel.frame _, fun h => by cases h⟩
  · rw [hs, hres]
    exact trodAll_mk1 (shut_bool htb _)
  · rw [hs]
    refine trodAll_below hl bel (fun t ht => ?_) hA
    have := List.all_eq_true.1 hread t ht
    simpa using this
  · rw [hs, hvars]
    rfl
end Go.Proofs.YteecemjbkpkpaaaDoor

namespace Go.Proofs.YteecemjbkpkpaaaDoor
theorem own : ownKnob Tryd.prog.godebug = none := by kernel_rfl
theorem laidOut : laidOutB Tryd.prog = true := by kernel_rfl
theorem boolType : Tryd.prog.underlying 4 = some .bool := Tryd.underlying4
theorem mapsRow : mapsRowed Tryd.prog = true := by kernel_rfl
theorem noStops : Tryd.prog.stops = [] := by kernel_rfl
theorem noKnobs : Tryd.prog.stopKnobs = [] := by kernel_rfl
theorem keysPlain : true = Tryd.prog.plainKeys := by kernel_rfl
theorem heard : Tryd.prog.stopsHeard = true := by kernel_rfl
set_option maxRecDepth 100000 in
theorem isCut : (behindMainWord (wordsSigns Tryd.prog.initOrder.toList)).head? = some "cut".toList :=
  head_via (fun l => (behindMainWord (wordsSigns l)).head?) Tryd.prog.initOrder _ _ rfl (by kernel_rfl)
theorem lays : Tryd.prog.laysLater = false := by kernel_rfl
theorem reflects : Tryd.prog.bearsReflect = false := by kernel_rfl
theorem doors : Tryd.prog.doorFits [] = true := by kernel_rfl
theorem enters : Tryd.prog.mayEnter = true := mayEnter_cut isCut lays reflects doors
theorem finals : false = Tryd.prog.liftsFinal := (liftsFinal_cut isCut).symm
theorem isMake : Tryd.prog.make = some .cut := make_cut isCut
end Go.Proofs.YteecemjbkpkpaaaDoor

namespace Go.Proofs.YteecemjbkpkpaaaDoor
open Go.RowKit
theorem bcell {W w1 : World} (hb : Below W.heap.size W w1) : (∀ b o, b < W.heap.size → w1.cell? ⟨b, o, none⟩ = W.cell? ⟨b, o, none⟩) ∧ (∀ b o, b < W.heap.size → w1.frozen? ⟨b, o, none⟩ = W.frozen? ⟨b, o, none⟩) :=
  ⟨fun b o h => hb.cell (p := ⟨b, o, none⟩) h, fun b o h => hb.frozen (p := ⟨b, o, none⟩) h⟩
theorem grow_next {w a b : World} (h : Below w.heap.size w a) (hb : Below a.heap.size a b) : Below w.heap.size w b := h.trans (hb.mono h.size)
theorem grow_drew {B : Nat} {a w : World} (h : Below B a w) (n : Nat) : Below B a (w.drewN n) := h.trans ⟨rfl, rfl, rfl, Nat.le_refl _, fun _ _ => rfl⟩
theorem size_lt {W w1 : World} (hb : Below W.heap.size W w1) {k : Nat} (h : k < W.heap.size) : k < w1.heap.size := Nat.lt_of_lt_of_le h hb.size
theorem blk_next {W w1 : World} (hb : Below W.heap.size W w1) {b : Nat} {o : Obj} (h : W.heap[b]? = some o) : w1.heap[b]? = some o := (hb.block b (Array.getElem?_eq_some_iff.1 h).1).trans h
theorem blk_new (w : World) (o : Obj) : (w.alloc o).heap[w.heap.size]? = some o := World.alloc_heap_new w o
theorem blk_alloc {w : World} {b : Nat} {o : Obj} (h : w.heap[b]? = some o) (o' : Obj) : (w.alloc o').heap[b]? = some o := (Below.heap_alloc w o' b (Array.getElem?_eq_some_iff.1 h).1).trans h
theorem below_drewL {a b : World} (h : Below a.drew.heap.size a.drew b) : Below a.heap.size a b := ⟨h.os, h.tape, h.output, h.size, h.block⟩
theorem below_drewR {B : Nat} {a w : World} (h : Below B a w) : Below B a w.drew := h.trans ⟨rfl, rfl, rfl, Nat.le_refl _, fun _ _ => rfl⟩
theorem below_new (w : World) (o : Obj) : Below w.heap.size w (w.alloc o) := (Below.refl _ _).alloc (Nat.le_refl _) o
theorem below_newd (w : World) (o : Obj) : Below w.heap.size w (w.alloc o).drew := below_drewR (below_new w o)
theorem blk_newd (w : World) (o : Obj) : (w.alloc o).drew.heap[w.heap.size]? = some o := blk_new w o
end Go.Proofs.YteecemjbkpkpaaaDoor

namespace Go.Proofs.YteecemjbkpkpaaaDoor
open Go.ChangeShapes Go.WideShapes Go.ChangeAt Go.RowKit
set_option linter.unusedVariables false

/-- A slice of bytes that can be read: it has none, or n cells of it hold bytes, in a block below B. -/
def Code (B : Nat) (w : World) (sv : Value) (n : Nat) : Prop :=
  (n = 0 ∧ ∃ x cap, sv = .slice x 0 cap) ∨ ∃ b off cap, sv = .slice (some ⟨b, off, none⟩) n cap ∧ b < B ∧ ∀ i, i < n → ∃ z : Int, 0 ≤ z ∧ z ≤ 255 ∧ w.cell? ⟨b, off + i, none⟩ = some (.int .u8 z)

theorem Code.below {B : Nat} {w w' : World} {sv : Value} {n : Nat} (h : Code B w sv n) (hb : Below B w w') : Code B w' sv n := by
  rcases h with h | ⟨b, off, cap, e, hlt, hc⟩
  · exact .inl h
  · exact .inr ⟨b, off, cap, e, hlt, fun i hi => by
      obtain ⟨z, h0, h1, hz⟩ := hc i hi
      exact ⟨z, h0, h1, (hb.cell (p := ⟨b, off + i, none⟩) hlt).trans hz⟩⟩

theorem Code.mono {B B' : Nat} {w : World} {sv : Value} {n : Nat} (h : Code B w sv n) (hB : B ≤ B') : Code B' w sv n := by
  rcases h with h | ⟨b, off, cap, e, hlt, hc⟩
  · exact .inl h
  · exact .inr ⟨b, off, cap, e, by omega, hc⟩
theorem Code.next {w w' : World} {sv : Value} {n : Nat} (h : Code w.heap.size w sv n) (hb : Below w.heap.size w w') : Code w'.heap.size w' sv n := (h.below hb).mono hb.size

theorem open_bytes {H : Type} {enc : TypeId × Value → H} {P : Program} {w : World} {held : Bool} {r : Reach} {b0 : Nat} {t u : TypeId} {v : Value} {d : DataW H} {q : List MemPlace}
    (ht : P.underlying t = some (.slice u)) (hu : P.underlying u = some (.int .u8)) (hC : P.cellsOf u = 1)
    (hv : Value.okWide P w r b0 t v) (h : DataW.Trod enc P w 0 (fun _ => true) held t v d q) : ∃ a len cap n, v = .slice a len cap ∧ (n = len ∧ Code w.heap.size w v len) := by
  obtain ⟨a0, len0, cap0, rfl⟩ := okWide_slice ht hv
  refine ⟨a0, len0, cap0, len0, rfl, rfl, ?_⟩
  have k0 := h
  obtain ⟨fuel, hf⟩ := h
  rcases open_ints ht hu hC hf with ⟨hcs, _⟩ | ⟨x, l, c, zs, hcs, _, hl, hm, hz, _, hcell, hwz⟩
  · simp [Value.cells] at hcs
    obtain ⟨rfl, rfl, rfl⟩ := hcs
    exact .inl ⟨rfl, _, _, rfl⟩
  · simp [Value.cells] at hcs
    obtain ⟨rfl, rfl, rfl⟩ := hcs
    obtain ⟨b, off, spot⟩ := x
    have hzl : zs.length = cap0 := by simpa using hz
    by_cases hn : len0 = 0
    · subst hn
      exact .inl ⟨rfl, _, _, rfl⟩
    · have hc0 := hcell 0 (by omega)
      have hspot : spot = none := by simpa [Addr.add] using World.cell?_spot hc0
      subst hspot
      refine .inr ⟨b, off, cap0, rfl, World.block_lt_of_cell? w _ hc0, fun i hi => ?_⟩
      have hci := hcell i (by omega)
      have hadd : (⟨b, off, none⟩ : Addr).add i = ⟨b, off + i, none⟩ := by unfold Addr.add; split <;> simp_all
      rw [hadd] at hci
      have hw := hwz (zs.getD i 0) (by rw [List.getD_eq_getElem?_getD, List.getElem?_eq_getElem (by omega)]; exact List.getElem_mem _)
      have hb := bounds_u8 hw
      exact ⟨_, hb.1, hb.2, hci⟩

/-- The reader: its slice and its place. -/
structure RdAt (w : World) (a : Nat) (sv : Value) (n p : Nat) : Prop where
  blk : w.heap[a]? = some (.cells #[sv, .int .i64 p] 45 (0, 0))
  le : p ≤ n
  small : n ≤ 1048576
  code : Code a w sv n

/-- A reader stands in block a. -/
def Rd (w : World) (a : Nat) : Prop := ∃ sv n p, RdAt w a sv n p

theorem Rd.kept {w w' : World} {a : Nat} {row : Option Nat} (h : Rd w a) (hg : w.grownBy w' row) (hr : ∀ k, row = some k → a < k) : Rd w' a := by
  obtain ⟨sv, n, p, hb, hle, hs, hc⟩ := h
  have hlt : a < w.heap.size := (Array.getElem?_eq_some_iff.1 hb).1
  have hne : ∀ k, k ≤ a → some k ≠ row := fun k hk e => by have := hr k e.symm; omega
  refine ⟨sv, n, p, (hg.block a hlt (hne a (Nat.le_refl _))).trans hb, hle, hs, ?_⟩
  rcases hc with hc | ⟨b, off, cap, e, hltb, hcell⟩
  · exact .inl hc
  · exact .inr ⟨b, off, cap, e, hltb, fun i hi => by
      obtain ⟨z, h0, h1, hz⟩ := hcell i hi
      exact ⟨z, h0, h1, hg.cell hz (hne b (by omega))⟩⟩

/-- What a reading leaves: a number within bounds, the reader where it stood, all else as it was. -/
def RdPost (lo hi : Int) (a : Nat) (w : World) : Ending → World → Prop := fun e w' => ∃ v : Int, lo ≤ v ∧ v ≤ hi ∧ e = .returned (.int .i64 v) ∧ Rd w' a ∧ w.grownBy w' (some a)

theorem grown_place (w : World) (a : Nat) (v : Value) (q q' : Nat) : w.grownBy (((w.drewN q).setCell ⟨a, 1, none⟩ v).drewN q') (some a) :=
  ⟨rfl, rfl, rfl, by simp [World.setCell], fun k _ hk => Below.heap_setCell (w.drewN q) ⟨a, 1, none⟩ v k (fun e => hk (by rw [e]))⟩

theorem grown_drew (w : World) (q : Nat) (row : Option Nat) : w.grownBy (w.drewN q) row := ⟨rfl, rfl, rfl, Nat.le_refl _, fun _ _ _ => rfl⟩
theorem RdAt.drew {w : World} {a : Nat} {sv : Value} {n p : Nat} (h : RdAt w a sv n p) (q : Nat) : RdAt (w.drewN q) a sv n p := ⟨h.blk, h.le, h.small, by
  rcases h.code with hc | ⟨b, off, cap, e, hltb, hcell⟩
  · exact .inl hc
  · exact .inr ⟨b, off, cap, e, hltb, hcell⟩⟩

theorem RdAt.step {w : World} {a : Nat} {sv : Value} {n p : Nat} (h : RdAt w a sv n p) (hp : p < n) (q q' : Nat) : Rd (((w.drewN q).setCell ⟨a, 1, none⟩ (.int .i64 ((p : Int) + 1))).drewN q') a := by
  obtain ⟨hb, hle, hs, hc⟩ := h
  obtain ⟨hlt, hk⟩ := Array.getElem?_eq_some_iff.1 hb
  refine ⟨sv, n, p + 1, ?_, by omega, hs, ?_⟩
  · show (w.heap.modify a _)[a]? = _
    rw [Array.getElem?_eq_getElem (by rw [Array.size_modify]; exact hlt), Array.getElem_modify_self, hk]
    rfl
  · rcases hc with hc | ⟨b, off, cap, e, hltb, hcell⟩
    · exact .inl hc
    · exact .inr ⟨b, off, cap, e, hltb, fun i hi => by
        obtain ⟨z, h0, h1, hz⟩ := hcell i hi
        exact ⟨z, h0, h1, (grown_place w a _ q q').cell hz (by simp; omega)⟩⟩

theorem next_c (a : Nat) (w : World) (h : Rd w a) : Calls Tryd.prog 41 #[.pointer (some ⟨a, 0, none⟩)] w (RdPost 0 255 a w) := by
  obtain ⟨sv, n, p, hR⟩ := h
  obtain ⟨hb, hle, hs, hc⟩ := id hR
  have hc0 : w.cell? ⟨a, 0, none⟩ = some sv := by simp [World.cell?, hb]
  have hc1 : w.cell? ⟨a, 1, none⟩ = some (.int .i64 p) := by simp [World.cell?, hb]
  have hf1 : w.frozen? ⟨a, 1, none⟩ = false := by simp [World.frozen?, hb]
  by_cases hlt : p < n
  · rcases hc with ⟨rfl, _⟩ | ⟨b, off, cap, rfl, hltb, hcell⟩
    · omega
    · obtain ⟨z, z0, z1, hz⟩ := hcell p hlt
      have hne : b ≠ a := by omega
      have hpn : (p : Int) < (n : Int) := by omega
      have x1 : ∀ q v, ((w.drewN q).setCell ⟨a, 1, none⟩ v).cell? ⟨a, 1, none⟩ = some v := fun q v => World.cell?_setCell_same' _ _ _ (by rw [World.cell?_drewN, hc1]; rfl)
      have x0 : ∀ q v, ((w.drewN q).setCell ⟨a, 1, none⟩ v).cell? ⟨a, 0, none⟩ = some (.slice (some ⟨b, off, none⟩) n cap) := fun q v => (World.cell?_setCell_other (w := w.drewN q) (a := ⟨a, 1, none⟩) (b := ⟨a, 0, none⟩) (v := v) (by simp)).trans hc0
      have xz : ∀ q v, ((w.drewN q).setCell ⟨a, 1, none⟩ v).cell? ⟨b, off + p, none⟩ = some (.int .u8 z) := fun q v => (World.cell?_setCell_other (w := w.drewN q) (a := ⟨a, 1, none⟩) (b := ⟨b, off + p, none⟩) (v := v) (by simp <;> omega)).trans hz
      have p0 : (0 : Int) ≤ (p : Int) := Int.natCast_nonneg _
      have pe : ((p : Int) + 1 - 1) = p := by omega
      go_enter Tryd.func41, Tryd.ntmps41
      go_wp2
      go_quiet (fail)
      go_wp2
      go_quiet (fail)
      go_wp2
      go_returns
      exact ⟨z, z0, z1, rfl, hR.step hlt _ _, grown_place _ _ _ _ _⟩
  · have hnp : (n : Int) ≤ (p : Int) := by omega
    have e : ∃ x cap, sv = .slice x n cap := by
      rcases hc with ⟨e0, x, cap, e⟩ | ⟨b, off, cap, e, _⟩
      · exact ⟨x, cap, by rw [e0]; exact e⟩
      · exact ⟨_, cap, e⟩
    obtain ⟨x, cap, rfl⟩ := e
    go_enter Tryd.func41, Tryd.ntmps41
    go_wp2
    go_quiet (fail)
    go_wp2
    go_returns
    exact ⟨0, by omega, by omega, rfl, ⟨_, n, p, hR.drew _⟩, grown_drew _ _ _⟩

end Go.Proofs.YteecemjbkpkpaaaDoor

namespace Go.Proofs.YteecemjbkpkpaaaDoor
open Go.ChangeShapes Go.WideShapes Go.ChangeAt Go.RowKit
set_option linter.unusedVariables false

theorem grown_trans {a b c : World} {row : Option Nat} (h : a.grownBy b row) (k : b.grownBy c row) : a.grownBy c row :=
  ⟨k.os.trans h.os, k.tape.trans h.tape, k.output.trans h.output, Nat.le_trans h.size k.size, fun i hi hne => (k.block i (Nat.lt_of_lt_of_le hi h.size) hne).trans (h.block i hi hne)⟩

theorem RdPost.weaken {lo hi lo' hi' : Int} {a : Nat} {w : World} {e : Ending} {w' : World} (h : RdPost lo hi a w e w') (h0 : lo' ≤ lo) (h1 : hi ≤ hi') : RdPost lo' hi' a w e w' := by
  obtain ⟨v, v0, v1, rest⟩ := h
  exact ⟨v, by omega, by omega, rest⟩

set_option maxHeartbeats 1000000 in
theorem below_c (a : Nat) (n m : Int) (hn : n ≤ 4611686018427387904) (h0 : 0 ≤ m) (hm : n - 1 ≤ m) (w : World) (h : Rd w a) : Calls Tryd.prog 24 #[.pointer (some ⟨a, 0, none⟩), .int .i64 n] w (RdPost 0 m a w) := by
  by_cases h1 : n ≤ 1
  · go_enter Tryd.func24, Tryd.ntmps24
    go_wp2_with fail
    go_returns
    exact ⟨0, by omega, by omega, rfl, h, World.grownBy.refl _ _⟩
  · by_cases h2 : n ≤ 256
    · go_enter Tryd.func24, Tryd.ntmps24
      go_wp2_with fail
      refine (next_c a _ h).mono ?_
      rintro e w1 ⟨v, v0, v1, rfl, hr, hg⟩
      go_wp2_with fail
      go_returns
      exact ⟨v % n, Int.emod_nonneg _ (by omega), by have := Int.emod_lt_of_pos v (show 0 < n by omega); omega, rfl, hr, hg⟩
    · go_enter Tryd.func24, Tryd.ntmps24
      go_wp2_with fail
      refine (next_c a _ h).mono ?_
      rintro e w1 ⟨v, v0, v1, rfl, hr, hg⟩
      go_wp2_with fail
      refine (next_c a _ hr).mono ?_
      rintro e w2 ⟨u, u0, u1, rfl, hr2, hg2⟩
      go_wp2_with fail
      go_returns
      exact ⟨(v * 256 + u) % n, Int.emod_nonneg _ (by omega), by have := Int.emod_lt_of_pos (v * 256 + u) (show 0 < n by omega); omega, rfl, hr2, grown_trans hg hg2⟩

/-- A yes or a no, the reader where it stood. -/
def RdBool (a : Nat) (w : World) : Ending → World → Prop := fun e w' => ∃ b : Bool, e = .returned (.bool b) ∧ Rd w' a ∧ w.grownBy w' (some a)

theorem once_c (a : Nat) (n : Int) (hn : n ≤ 4611686018427387904) (h0 : 1 ≤ n) (w : World) (h : Rd w a) : Calls Tryd.prog 18 #[.pointer (some ⟨a, 0, none⟩), .int .i64 n] w (RdBool a w) := by
  go_enter Tryd.func18, Tryd.ntmps18
  go_wp2_with fail
  refine (below_c a n (n - 1) hn (by omega) (by omega) _ h).mono ?_
  rintro e w1 ⟨v, v0, v1, rfl, hr, hg⟩
  go_wp2_with fail
  go_returns
  exact ⟨_, rfl, hr, hg⟩

/-- A word, the reader where it stood. -/
def RdWord (a : Nat) (w : World) : Ending → World → Prop := fun e w' => ∃ u : Int, 0 ≤ u ∧ u ≤ 18446744073709551615 ∧ e = .returned (.int .u64 u) ∧ Rd w' a ∧ w.grownBy w' (some a)

set_option maxHeartbeats 1000000 in
theorem word_c (a : Nat) (w : World) (h : Rd w a) : Calls Tryd.prog 57 #[.pointer (some ⟨a, 0, none⟩)] w (RdWord a w) := by
  go_enter Tryd.func57, Tryd.ntmps57
  go_wp2
  go_loopw [3, 4] (fun x i wr => ∃ (k : Nat) (u : Int), k ≤ 8 ∧ i = .int .i64 k ∧ x = .int .u64 u ∧ 0 ≤ u ∧ u ≤ 18446744073709551615 ∧ Rd wr a ∧ w.grownBy wr (some a)) (fun _ i _ => 8 - (intOf i).toNat)
  case atStart => exact ⟨0, 0, by omega, rfl, rfl, by omega, by omega, h, World.grownBy.refl _ _⟩
  case round =>
    obtain ⟨k, u, hk, rfl, rfl, u0, u1, hr, hg⟩ := hrel
    by_cases hlt : k < 8
    · go_wp2_with fail
      refine (next_c a _ hr).mono ?_
      rintro e w1 ⟨v, v0, v1, rfl, hr1, hg1⟩
      go_wp2_with fail
      go_roundw
      case rel =>
        have hb := bounds_u64 (wf_bits .or .u64 (IntKind.u64.wrap (u * 256)) v)
        exact ⟨k + 1, _, by omega, by go_num, rfl, hb.1, hb.2, hr1, grown_trans hg hg1⟩
      case measure => simp [intOf]; omega
    · go_wp2_with fail
      go_returns
      exact ⟨u, u0, u1, rfl, hr, hg⟩

theorem wrap64_range (n : Int) : -9223372036854775808 ≤ wrap64 n ∧ wrap64 n ≤ 9223372036854775807 := by unfold wrap64; omega
theorem small_range {n : Int} (h0 : -4611686018427387904 ≤ n) (h1 : n ≤ 4611686018427387904) : -9223372036854775808 ≤ n ∧ n ≤ 9223372036854775807 := by omega

/-- Any number at all. -/
def RdAny (a : Nat) (w : World) : Ending → World → Prop := RdPost (-9223372036854775808) 9223372036854775807 a w

set_option maxHeartbeats 1000000 in
theorem near_c (a : Nat) (lo hi : Int) (hl : -2305843009213693952 ≤ lo) (hh : hi ≤ 2305843009213693952) (hlh : lo ≤ hi) (w : World) (h : Rd w a) : Calls Tryd.prog 42 #[.pointer (some ⟨a, 0, none⟩), .int .i64 lo, .int .i64 hi] w (RdAny a w) := by
  go_enter Tryd.func42, Tryd.ntmps42
  go_wp2_with fail
  refine (below_c a 8 7 (by omega) (by omega) (by omega) _ h).mono ?_
  rintro e w1 ⟨v, v0, v1, rfl, hr, hg⟩
  by_cases c0 : v = 0
  · subst c0
    go_wp2_with fail
    go_returns
    exact ⟨lo, by omega, by omega, rfl, hr, hg⟩
  · by_cases c1 : v = 1
    · subst c1
      go_wp2_with fail
      go_returns
      exact ⟨hi, by omega, by omega, rfl, hr, hg⟩
    · go_wp2_with fail
      refine (word_c a _ hr).mono ?_
      rintro e w2 ⟨u, u0, u1, rfl, hr2, hg2⟩
      go_wp2_with fail
      go_returns
      refine ⟨_, ?_, ?_, rfl, hr2, grown_trans hg hg2⟩
      · exact (wrap64_range _).1
      · exact (wrap64_range _).2

set_option maxHeartbeats 1000000 in
theorem off_c (a : Nat) (lo hi : Int) (hl : -2305843009213693952 ≤ lo) (hh : hi ≤ 2305843009213693952) (hlh : lo ≤ hi) (w : World) (h : Rd w a) : Calls Tryd.prog 26 #[.pointer (some ⟨a, 0, none⟩), .int .i64 lo, .int .i64 hi] w (RdAny a w) := by
  go_enter Tryd.func26, Tryd.ntmps26
  go_wp2_with fail
  refine (once_c a 24 (by omega) (by omega) _ h).mono ?_
  rintro e w1 ⟨b, rfl, hr, hg⟩
  cases b with
  | false =>
    go_wp2_with fail
    refine (near_c a lo hi hl hh hlh _ hr).mono ?_
    rintro e w2 ⟨v, v0, v1, rfl, hr2, hg2⟩
    go_wp2_with fail
    go_returns
    exact ⟨v, v0, v1, rfl, hr2, grown_trans hg hg2⟩
  | true =>
    have ha : a < w1.heap.size := by
      obtain ⟨_, _, _, hb, _⟩ := hr
      exact (Array.getElem?_eq_some_iff.1 hb).1
    go_wp2_with fail
    refine (below_c a 4 3 (by omega) (by omega) (by omega) _ (hr.kept (World.grownBy_alloc w1 _ none) (by simp))).mono ?_
    rintro e w2 ⟨v, v0, v1, rfl, hr2, hg2⟩
    have hblk : w2.heap[w1.heap.size]? = some (.cells #[.int .i64 (lo - 1), .int .i64 (hi + 1), .int .i64 (-9223372036854775808), .int .i64 9223372036854775807] 2) :=
      (hg2.block _ (by simp) (fun e => by cases e; omega)).trans (blk_new w1 _)
    have d0 : w2.cell? ⟨w1.heap.size, 0, none⟩ = some (.int .i64 (lo - 1)) := by simp [World.cell?, hblk]
    have d1 : w2.cell? ⟨w1.heap.size, 1, none⟩ = some (.int .i64 (hi + 1)) := by simp [World.cell?, hblk]
    have d2 : w2.cell? ⟨w1.heap.size, 2, none⟩ = some (.int .i64 (-9223372036854775808)) := by simp [World.cell?, hblk]
    have d3 : w2.cell? ⟨w1.heap.size, 3, none⟩ = some (.int .i64 9223372036854775807) := by simp [World.cell?, hblk]
    have hg3 := grown_trans hg (grown_trans (World.grownBy_alloc w1 _ _) hg2)
    clear hblk
    rcases (show v = 0 ∨ v = 1 ∨ v = 2 ∨ v = 3 by omega) with rfl | rfl | rfl | rfl
    all_goals
      go_wp2_with fail
      go_returns
      exact ⟨_, by omega, by omega, rfl, hr2, hg3⟩

set_option maxHeartbeats 2000000 in
theorem time_c (a : Nat) (w : World) (h : Rd w a) : Calls Tryd.prog 25 #[.pointer (some ⟨a, 0, none⟩)] w (RdAny a w) := by
  go_enter Tryd.func25, Tryd.ntmps25
  go_wp2_with fail
  refine (below_c a 6 5 (by omega) (by omega) (by omega) _ h).mono ?_
  rintro e w1 ⟨v, v0, v1, rfl, hr, hg⟩
  by_cases c0 : v = 0
  · subst c0
    go_wp2_with fail
    refine (off_c a 0 4000000000000000 (by omega) (by omega) (by omega) _ hr).mono ?_
    rintro e w2 ⟨u, u0, u1, rfl, hr2, hg2⟩
    go_wp2_with fail
    go_returns
    exact ⟨u, u0, u1, rfl, hr2, grown_trans hg hg2⟩
  · by_cases c1 : v = 1
    · subst c1
      go_wp2_with fail
      refine (below_c a 1000 999 (by omega) (by omega) (by omega) _ hr).mono ?_
      rintro e w2 ⟨u, u0, u1, rfl, hr2, hg2⟩
      go_wp2_with fail
      go_returns
      exact ⟨u * 1000000, by omega, by omega, rfl, hr2, grown_trans hg hg2⟩
    · go_wp2_with fail
      refine (below_c a 1073741824 1073741823 (by omega) (by omega) (by omega) _ hr).mono ?_
      rintro e w2 ⟨u, u0, u1, rfl, hr2, hg2⟩
      go_wp2_with fail
      refine (below_c a 1000 999 (by omega) (by omega) (by omega) _ hr2).mono ?_
      rintro e w3 ⟨x, x0, x1, rfl, hr3, hg3⟩
      go_wp2_with fail
      go_returns
      refine ⟨_, ?_, ?_, rfl, hr3, grown_trans hg (grown_trans hg2 hg3)⟩
      · exact (wrap64_range _).1
      · exact (wrap64_range _).2
end Go.Proofs.YteecemjbkpkpaaaDoor

namespace Go.Proofs.YteecemjbkpkpaaaDoor
open Go.ChangeShapes Go.WideShapes Go.ChangeAt Go.RowKit
set_option linter.unusedVariables false

theorem open_c (x : Option Addr) (n cap : Nat) (w : World) : Calls Tryd.prog 12 #[.slice x n cap] w fun e w' => e = .returned (.pointer (some ⟨w.heap.size, 0, none⟩)) ∧ w' = w.alloc (.cells #[.slice x n cap, .int .i64 0] 45) := by
  go_enter Tryd.func12, Tryd.ntmps12
  go_wp2
  go_returns
  exact ⟨rfl, rfl⟩

theorem rd_open {w : World} {x : Option Addr} {n cap : Nat} (hc : Code w.heap.size w (.slice x n cap) n) (hn : n ≤ 1048576) : Rd (w.alloc (.cells #[.slice x n cap, .int .i64 0] 45)) w.heap.size :=
  ⟨_, n, 0, blk_new w _, Nat.zero_le _, hn, hc.below ((Below.refl _ _).alloc (Nat.le_refl _) _)⟩

/-- Any number; nothing that lay has turned. -/
def AnyInt (w : World) : Ending → World → Prop := fun e w' => ∃ v : Int, -9223372036854775808 ≤ v ∧ v ≤ 9223372036854775807 ∧ e = .returned (.int .i64 v) ∧ Below w.heap.size w w'

theorem grown_below {w a b : World} {k : Nat} (h : Below w.heap.size w a) (hg : a.grownBy b (some k)) (hk : w.heap.size ≤ k) : Below w.heap.size w b :=
  h.grown hg h.size (fun j e => by cases e; exact hk)

end Go.Proofs.YteecemjbkpkpaaaDoor

namespace Go.Proofs.YteecemjbkpkpaaaDoor
open Go.ChangeShapes Go.WideShapes Go.ChangeAt Go.RowKit

/-! ### A struct of int64s, by value -/
def flatInts (P : Program) (fs : Array Field) : Bool :=
  fs.toList.zipIdx.all fun x => x.1.offset == x.2 && P.cellsOf x.1.type == 1 && (match P.underlying x.1.type with | some (.int .i64) => true | _ => false)

theorem list_of_each {α β : Type} (f : β → α) (Q : β → Prop) : ∀ l : List α, (∀ (i : Nat) (x : α), l[i]? = some x → ∃ n, x = f n ∧ Q n) → ∃ ns : List β, l = ns.map f ∧ ∀ n ∈ ns, Q n
  | [], _ => ⟨[], rfl, by simp⟩
  | a :: l, h => by
    obtain ⟨n, rfl, hn⟩ := h 0 a rfl
    obtain ⟨ns, rfl, hns⟩ := list_of_each f Q l (fun i x hx => h (i + 1) x (by simpa using hx))
    exact ⟨n :: ns, rfl, by simpa using ⟨hn, hns⟩⟩

theorem open_flat {H : Type} {enc : TypeId × Value → H} {P : Program} {w : World} {base : Nat} {spare : Nat → Bool} {held : Bool} {r : Reach} {b0 : Nat} {t : TypeId} {fs : Array Field} {v : Value} {d : DataW H} {p : List MemPlace}
    (hs : P.underlying t = some (.struct fs)) (hflat : flatInts P fs = true) (hC : P.cellsOf t = fs.size)
    (hv : Value.okWide P w r b0 t v) (h : DataW.Trod enc P w base spare held t v d p) :
    ∃ ns : List Int, v = .agg (ns.map (Value.int .i64)).toArray ∧ ns.length = fs.size ∧ ∀ n ∈ ns, (Lit.int .i64 n).wf = true := by
  obtain ⟨cs, rfl, hsz⟩ := okWide_struct hs hv
  obtain ⟨fuel, hf⟩ := h
  obtain ⟨xs, n, rfl, hx, hlen, hxl, hfield⟩ := DataW.trod_struct hs hf
  have hlen' : cs.toList.length = fs.size := by simpa [hC] using hsz
  obtain ⟨ns, e, hns⟩ := list_of_each (Value.int .i64) (fun n => (Lit.int .i64 n).wf = true) cs.toList (fun i x hi => by
    have hil : i < cs.toList.length := by
      rcases Nat.lt_or_ge i cs.toList.length with h | h
      · exact h
      · rw [List.getElem?_eq_none h] at hi; cases hi
    have hif : i < fs.size := by omega
    have hfi : fs[i]? = some fs[i] := Array.getElem?_eq_getElem hif
    have hfl := List.all_eq_true.1 hflat (fs[i], i) (by
      rw [List.mem_iff_getElem?]
      exact ⟨i, by simp [hif]⟩)
    simp only [Bool.and_eq_true, beq_iff_eq] at hfl
    obtain ⟨⟨ho, hc⟩, hu⟩ := hfl
    have hu' : P.underlying fs[i].type = some (.int .i64) := by
      split at hu
      · assumption
      · cases hu
    have hk := hfield i fs[i] hfi
    rw [ho, hc] at hk
    have hone : ((Value.agg cs).cells.toList.drop i).take 1 = [x] := by
      have : (Value.agg cs).cells = cs := rfl
      rw [this, List.drop_eq_getElem_cons hil]
      rw [List.getElem?_eq_getElem hil] at hi
      simpa using hi
    rw [hone] at hk
    have hsome : ∃ y, xs[i]? = some y := ⟨xs[i]'(by omega), List.getElem?_eq_getElem (by omega)⟩
    obtain ⟨y, hy⟩ := hsome
    rw [hy] at hk
    obtain ⟨m, e0, _, wm⟩ := DataW.trod_int hu' hk
    simp only [List.cons.injEq, and_true] at e0
    exact ⟨m, e0, wm⟩)
  refine ⟨ns, ?_, ?_, hns⟩
  · congr 1
    rw [← e]
  · have := congrArg List.length e
    simp at this hlen'
    omega
end Go.Proofs.YteecemjbkpkpaaaDoor

namespace Go.Proofs.YteecemjbkpkpaaaDoor
open Go.ChangeShapes Go.WideShapes Go.ChangeAt Go.RowKit
set_option linter.unusedVariables false

/-- Is it within these bounds? -/
def inB (lo n hi : Int) : Bool := decide (lo ≤ n) && decide (n ≤ hi)
theorem inB_yes {lo n hi : Int} (h0 : lo ≤ n) (h1 : n ≤ hi) : inB lo n hi = true := by simp [inB, h0, h1]
theorem inB_low {lo n hi : Int} (h0 : ¬ lo ≤ n) : inB lo n hi = false := by simp [inB, h0]
theorem inB_high {lo n hi : Int} (h0 : ¬ n ≤ hi) : inB lo n hi = false := by simp [inB, h0]
theorem inB_iff {lo n hi : Int} : inB lo n hi = true ↔ lo ≤ n ∧ n ≤ hi := by simp [inB]

theorem within_c (n lo hi : Int) (w : World) :
    Calls Tryd.prog 27 #[.int .i64 n, .int .i64 lo, .int .i64 hi] w fun e w' => e = .returned (.bool (inB lo n hi)) ∧ w = w' := by
  by_cases h0 : lo ≤ n
  · by_cases h1 : n ≤ hi
    · rw [inB_yes h0 h1]
      go_enter Tryd.func27, Tryd.ntmps27
      go_wp2
      go_returns
      exact ⟨rfl, rfl⟩
    · rw [inB_high h1]
      go_enter Tryd.func27, Tryd.ntmps27
      go_wp2
      go_returns
      exact ⟨rfl, rfl⟩
  · rw [inB_low h0]
    go_enter Tryd.func27, Tryd.ntmps27
    go_wp2
    go_returns
    exact ⟨rfl, rfl⟩

theorem l1In_c (n lo hi : Int) (w : World) :
    Calls Tryd.prog 37 #[.int .i64 n, .int .i64 lo, .int .i64 hi] w fun e w' => e = .returned (.bool (inB lo n hi)) ∧ w = w' := by
  by_cases h0 : lo ≤ n
  · by_cases h1 : n ≤ hi
    · rw [inB_yes h0 h1]
      go_enter Tryd.func37, Tryd.ntmps37
      go_wp2
      go_returns
      exact ⟨rfl, rfl⟩
    · rw [inB_high h1]
      go_enter Tryd.func37, Tryd.ntmps37
      go_wp2
      go_returns
      exact ⟨rfl, rfl⟩
  · rw [inB_low h0]
    go_enter Tryd.func37, Tryd.ntmps37
    go_wp2
    go_returns
    exact ⟨rfl, rfl⟩

theorem isTime_c (t : Int) (w : World) :
    Calls Tryd.prog 28 #[.int .i64 t] w fun e w' => e = .returned (.bool (inB 0 t 4000000000000000)) ∧ w = w' := by
  go_enter Tryd.func28, Tryd.ntmps28
  go_wp2_with (go_at_call 27; refine (within_c _ _ _ _).mono ?_; rintro e w1 ⟨rfl, rfl⟩)
  go_returns
  exact ⟨rfl, rfl⟩

theorem l1Time_c (t : Int) (w : World) :
    Calls Tryd.prog 38 #[.int .i64 t] w fun e w' => e = .returned (.bool (inB 0 t 4000000000000000)) ∧ w = w' := by
  go_enter Tryd.func38, Tryd.ntmps38
  go_wp2_with (go_at_call 37; refine (l1In_c _ _ _ _).mono ?_; rintro e w1 ⟨rfl, rfl⟩)
  go_returns
  exact ⟨rfl, rfl⟩
end Go.Proofs.YteecemjbkpkpaaaDoor
