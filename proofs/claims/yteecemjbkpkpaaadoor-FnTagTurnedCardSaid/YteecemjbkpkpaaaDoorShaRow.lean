/- Rows of words of 32 bits in memory. -/
import Derived.Test.YteecemjbkpkpaaaDoorShaRot
import Derived.Test.YteecemjbkpkpaaaDoorMga
import Derived.Test.YteecemjbkpkpaaaDoorRowOps
import Derived.Test.YteecemjbkpkpaaaDoorTab
import Derived.BigQuiet
import Derived.Deep.QuietTactic
import Derived.StillTailTactics
import Derived.OwnWalk
namespace Go.Proofs.YteecemjbkpkpaaaDoor
open Go.ChangeShapes Go.WideShapes Go.ChangeAt Go.RowKit
set_option linter.unusedVariables false
set_option linter.unusedSimpArgs false
set_option maxRecDepth 100000

def w32 (l : List Int) : List Value := l.map (Value.int .u32)
theorem w32_len (l : List Int) : (w32 l).length = l.length := by simp [w32]
theorem w32_at {l : List Int} {i : Nat} {x : Int} (h : l[i]? = some x) : (w32 l)[i]? = some (.int .u32 x) := by simp [w32, h]
theorem w32_one (l : List Int) : (w32 l).toArray.all (·.oneCell') = true := by
  rw [Array.all_eq_true_iff_forall_mem]
  intro v hv
  simp only [w32, List.mem_toArray, List.mem_map] at hv
  obtain ⟨x, _, rfl⟩ := hv
  rfl
/-- A block of words. -/
def WB (W : World) (b : Nat) (T : TypeId) (l : List Int) : Prop := W.heap[b]? = some (.cells (w32 l).toArray T (0, 0))
theorem WB.cell {W : World} {b : Nat} {T : TypeId} {l : List Int} (h : WB W b T l) {i : Nat} {x : Int} (hx : l[i]? = some x) : W.cell? ⟨b, i, none⟩ = some (.int .u32 x) := by
  simp [World.cell?, show W.heap[b]? = _ from h, w32, hx]
theorem WB.thaw {W : World} {b : Nat} {T : TypeId} {l : List Int} (h : WB W b T l) (i : Nat) : W.frozen? ⟨b, i, none⟩ = false := by
  simp [World.frozen?, show W.heap[b]? = _ from h]
theorem WB.next {W W' : World} {b : Nat} {T : TypeId} {l : List Int} (h : WB W b T l) (hb : Below W.heap.size W W') : WB W' b T l := blk_next hb h
theorem WB.lt {W : World} {b : Nat} {T : TypeId} {l : List Int} (h : WB W b T l) : b < W.heap.size := (Array.getElem?_eq_some_iff.1 h).1
theorem WB.set {W : World} {b : Nat} {T : TypeId} {l : List Int} (h : WB W b T l) (i : Nat) (x : Int) : WB (W.setCell ⟨b, i, none⟩ (.int .u32 x)) b T (l.set i x) := by
  unfold WB at h ⊢
  simp [World.setCell, Array.getElem?_modify, h, w32, List.map_set]
theorem WB.other {W : World} {b c : Nat} {T : TypeId} {l : List Int} (h : WB W b T l) (hne : b ≠ c) (i : Nat) (x : Value) : WB (W.setCell ⟨c, i, none⟩ x) b T l := by
  unfold WB at h ⊢
  simp [World.setCell, Array.getElem?_modify, Ne.symm hne, h]
theorem WB.alloc {W : World} {b : Nat} {T : TypeId} {l : List Int} (h : WB W b T l) (o : Obj) : WB (W.alloc o) b T l := blk_alloc h o
theorem WB.row {W W' : World} {b : Nat} {T : TypeId} {l m : List Int} (h : WB W b T l) (hw : W' = W.setRow b (w32 m).toArray) : WB W' b T m := setRow_heap' hw h
theorem WB.row_other {W W' : World} {b c : Nat} {T : TypeId} {l : List Int} {cs : Array Value} (h : WB W b T l) (hne : b ≠ c) (hw : W' = W.setRow c cs) : WB W' b T l := (setRow_other' hw hne).trans h
theorem WB.new (W : World) (T : TypeId) (l : List Int) : WB (W.alloc (.cells (w32 l).toArray T)) W.heap.size T l := blk_new W _
theorem WB.drewN {W : World} {b : Nat} {T : TypeId} {l : List Int} (h : WB W b T l) (n : Nat) : WB (W.drewN n) b T l := h
theorem WB.drew {W : World} {b : Nat} {T : TypeId} {l : List Int} (h : WB W b T l) : WB W.drew b T l := h
theorem set_step {l : List Int} {i n : Nat} (h : l.length = i) (v : Int) : (l ++ List.replicate (n + 1) 0).set i v = (l ++ [v]) ++ List.replicate n 0 := by
  subst h
  rw [List.replicate_succ, List.set_append_right _ _ (Nat.le_refl _), Nat.sub_self, List.set_cons_zero, List.append_assoc]
  rfl
theorem read_pre {l r : List Int} {i : Nat} (h : i < l.length) : (l ++ r)[i]? = some (l.getD i 0) := by
  rw [List.getElem?_append_left h, List.getD_eq_getElem?_getD, List.getElem?_eq_getElem h]
  rfl
theorem read_zero {l : List Int} {i n : Nat} (h : l.length = i) : (l ++ List.replicate (n + 1) 0)[i]? = some (0 : Int) := by
  subst h
  rw [List.getElem?_append_right (Nat.le_refl _), Nat.sub_self]
  rfl
def zeros64 : List Int := List.replicate 64 0
def zeros8 : List Int := List.replicate 8 0
theorem z64 : (#[.int .u32 0, .int .u32 0, .int .u32 0, .int .u32 0, .int .u32 0, .int .u32 0, .int .u32 0, .int .u32 0, .int .u32 0, .int .u32 0, .int .u32 0, .int .u32 0, .int .u32 0, .int .u32 0, .int .u32 0, .int .u32 0, .int .u32 0, .int .u32 0, .int .u32 0, .int .u32 0, .int .u32 0, .int .u32 0, .int .u32 0, .int .u32 0, .int .u32 0, .int .u32 0, .int .u32 0, .int .u32 0, .int .u32 0, .int .u32 0, .int .u32 0, .int .u32 0, .int .u32 0, .int .u32 0, .int .u32 0, .int .u32 0, .int .u32 0, .int .u32 0, .int .u32 0, .int .u32 0, .int .u32 0, .int .u32 0, .int .u32 0, .int .u32 0, .int .u32 0, .int .u32 0, .int .u32 0, .int .u32 0, .int .u32 0, .int .u32 0, .int .u32 0, .int .u32 0, .int .u32 0, .int .u32 0, .int .u32 0, .int .u32 0, .int .u32 0, .int .u32 0, .int .u32 0, .int .u32 0, .int .u32 0, .int .u32 0, .int .u32 0, .int .u32 0] : Array Value) = (w32 zeros64).toArray := rfl
theorem z8 : (#[.int .u32 0, .int .u32 0, .int .u32 0, .int .u32 0, .int .u32 0, .int .u32 0, .int .u32 0, .int .u32 0] : Array Value) = (w32 zeros8).toArray := rfl
theorem info64 : (Tryd.prog.info? 69).map (·.size) = some 64 := by kernel_rfl
theorem infoD : (Tryd.prog.info? 67).map (·.size) = some 8 := by kernel_rfl
theorem below_two (w : World) (o o' : Obj) : Below w.heap.size w ((w.alloc o).alloc o') := grow_next (below_new w o) (below_new _ o')
theorem results_row1 {P : Program} {fn : Func} {p : Tmp} {ty : TypeId} (h : fn.results = #[.cell p ty]) (tmps : Array Value) (w : World) (b : Nat) (T : TypeId) (cells : Array Value) (d : TypeDesc)
    (hp : tmps.getD p undef = .pointer (some ⟨b, 0, none⟩)) (hg : w.heap[b]? = some (.cells cells T (0, 0))) (hu : P.underlying ty = some d) (hd : (match d with | .struct _ | .array _ _ => true | _ => false) = true) (hi : (P.info? ty).map (·.size) = some cells.size) :
    (results fn tmps).run P w = .ok (.agg cells) w := by
  have e : (results fn tmps).run P w = ((asAddr (tmps.getD p undef)).run P w).andThen fun a w1 => (loadVar ty a).run P w1 := by
    simp only [results, h]
    simp [Sem.run_bind, Result.andThen]
  rw [e, hp]
  simp only [asAddr, Sem.run_pure, Result.andThen_ok, run_loadVar_row w b T ty cells (0, 0) d hg hu hd hi]
/-- The eight words of a digest in memory. -/
def WD (W : World) (b : Nat) (d : W8) : Prop := WB W b 67 d.list
theorem WD.cells {W : World} {b : Nat} {T : TypeId} {d : W8} (h : WB W b T d.list) : W.cell? ⟨b, 0, none⟩ = some (.int .u32 d.a) ∧ W.cell? ⟨b, 1, none⟩ = some (.int .u32 d.b) ∧ W.cell? ⟨b, 2, none⟩ = some (.int .u32 d.c) ∧ W.cell? ⟨b, 3, none⟩ = some (.int .u32 d.d) ∧
    W.cell? ⟨b, 4, none⟩ = some (.int .u32 d.e) ∧ W.cell? ⟨b, 5, none⟩ = some (.int .u32 d.f) ∧ W.cell? ⟨b, 6, none⟩ = some (.int .u32 d.g) ∧ W.cell? ⟨b, 7, none⟩ = some (.int .u32 d.h) :=
  ⟨h.cell rfl, h.cell rfl, h.cell rfl, h.cell rfl, h.cell rfl, h.cell rfl, h.cell rfl, h.cell rfl⟩
theorem size64 {l : List Int} (h : l.length = 64) : (Tryd.prog.info? 69).map (·.size) = some (w32 l).toArray.size := by
  rw [info64]
  simp [w32, h]
theorem size8 (d : W8) : (Tryd.prog.info? 67).map (·.size) = some (w32 d.list).toArray.size := infoD
theorem same_world {f : FuncId} {args : Array Value} {w : World} {v : Value} (h : Calls Tryd.prog f args w fun e w' => e = .returned v ∧ w = w') : Calls Tryd.prog f args w fun e w' => e = .returned v ∧ w' = w := h.mono fun e w' h => ⟨h.1, h.2.symm⟩
end Go.Proofs.YteecemjbkpkpaaaDoor
