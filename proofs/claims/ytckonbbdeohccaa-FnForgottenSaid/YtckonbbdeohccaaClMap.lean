/- The program's map of clients: made of a limiter, somebody comes. -/
import Derived.Test.YtckonbbdeohccaaClMath
import Derived.WalkArith
import Derived.Deep.RegionWith
namespace Go.Proofs.Ytckonbbdeohccaa
open Go.ChangeShapes Go.WideShapes Go.ChangeAt Go.RowKit Go.Maps
set_option linter.unusedVariables false
set_option linter.unusedSimpArgs false
set_option maxRecDepth 100000

theorem clLaw : Keyed Try.prog 2 := int_keyed Try.underlying2
theorem key_cl {i : Int} (h : -9223372036854775808 ≤ i ∧ i ≤ 9223372036854775807) : keyOf Try.prog 2 (.int .i64 i) = some (.int .i64 i) := keyOf_int_mk Try.underlying2 (WalkArith.wf_i64 h)
theorem grownC {w w' : World} (h : Below w.heap.size w w') : w.grownBy w' none := ⟨h.os, h.tape, h.output, h.size, fun k hk _ => h.block k hk⟩
/-- Block b is the map of these clients. -/
structure ClMap (w : World) (b : Nat) (l : List Cl) : Prop where
  own : w.ownsMap Try.prog 2 clR b l.length (clsD l)
  rise : RisingC l
theorem ownsMap_tight {H : Type} {P : Program} {k : TypeId} {R : Value → Option (DataW H × List MemPlace)} {w : World} {b n : Nat} {D : DataW H} (h : w.ownsMap P k R b n D) : w.ownsMap P k R b (Maps.size D) D := by
  obtain ⟨es, clock, hb, F, hs, rfl⟩ := h
  exact ⟨es, clock, hb, F, by simp [Maps.size, length_sorted], rfl⟩
section
variable {w w' : World} {b : Nat} {l : List Cl}
theorem ClMap.of {n : Nat} (h : w.ownsMap Try.prog 2 clR b n (clsD l)) (hr : RisingC l) : ClMap w b l := ⟨by have := ownsMap_tight h; rwa [size_clsD] at this, hr⟩
theorem ClMap.kept {row : Option Nat} (h : ClMap w b l) (hg : w.grownBy w' row) (hne : some b ≠ row) : ClMap w' b l := ⟨h.own.kept hg hne, h.rise⟩
theorem ClMap.next (h : ClMap w b l) (hb : Below w.heap.size w w') : ClMap w' b l := h.kept (grownC hb) (by simp)
theorem ClMap.lt (h : ClMap w b l) : b < w.heap.size := h.own.lt
end
theorem zero_cl (w : World) : (zeroValue 52).run Try.prog w = .ok (.agg #[.int .i64 0, .int .i64 0, .int .i64 0]) w := by kernel_rfl
/-- What the map has at an Id, and whether. -/
theorem ClMap.look {w : World} {b : Nat} {l : List Cl} (h : ClMap w b l) (i : Int) (hi : -9223372036854775808 ≤ i ∧ i ≤ 9223372036854775807) (ok : Bool) :
    (Instr.lookup 64 (.map (some b)) (.int .i64 i) ok).run Try.prog w = .ok (if ok then .tuple #[(match clAt l i with | some c => .agg #[.int .i64 c.id, .int .i64 c.last, .int .i64 c.score] | none => .agg #[.int .i64 0, .int .i64 0, .int .i64 0]), .bool (clAt l i).isSome] else (match clAt l i with | some c => .agg #[.int .i64 c.id, .int .i64 c.last, .int .i64 c.score] | none => .agg #[.int .i64 0, .int .i64 0, .int .i64 0])) w := by
  have fin : ∀ v ps, clR v = some ((clsD l).atKey (.int .i64 i) (clDat ⟨0, 0, 0⟩), ps) → v = (match clAt l i with | some c => .agg #[.int .i64 c.id, .int .i64 c.last, .int .i64 c.score] | none => .agg #[.int .i64 0, .int .i64 0, .int .i64 0]) := fun v ps hv => by
    obtain ⟨c, rfl, hz⟩ := clR_inv hv
    have hz1 := congrArg Prod.fst hz
    rw [at_clsD] at hz1
    cases hc : clAt l i with
    | some d =>
      rw [hc] at hz1
      have e : d = c := clDat_inj hz1
      rw [e]
    | none =>
      rw [hc] at hz1
      have e : (⟨0, 0, 0⟩ : Cl) = c := clDat_inj hz1
      rw [← e]
  cases ok with
  | true =>
    obtain ⟨v, ps, hrun, hv⟩ := h.own.look_ok clLaw Try.underlying64 (zero_cl w) (clR_mk ⟨0, 0, 0⟩) (key_cl hi)
    rw [hrun, has_clsD, fin v ps hv]
    rfl
  | false =>
    obtain ⟨v, ps, hrun, hv⟩ := h.own.lookup clLaw Try.underlying64 (zero_cl w) (clR_mk ⟨0, 0, 0⟩) (key_cl hi)
    rw [hrun, fin v ps hv]
    rfl
theorem ClMap.len {w : World} {b : Nat} {l : List Cl} (h : ClMap w b l) (ty : TypeId) : (Builtin.len_ #[64] ty #[.map (some b)]).run Try.prog w = .ok (.int .i64 l.length) w := by
  rw [h.own.len Try.underlying64, size_clsD]
set_option maxHeartbeats 1000000 in
theorem scoreLeft_c (c : Cl) (b0 : 0 ≤ c.last) (b1 : c.last ≤ 1000000000) (s0 : 0 ≤ c.score) (s1 : c.score ≤ 20) (now : Int) (h0 : 0 ≤ now) (h1 : now ≤ 1000000000) (w : World) :
    Calls Try.prog 49 #[.agg #[.int .i64 c.id, .int .i64 c.last, .int .i64 c.score], .int .i64 now] w fun e w' => e = .returned (.int .i64 (leftC c now)) ∧ Below w.heap.size w w' := by
  have B0 : Below w.heap.size w (w.alloc (.cells #[.int .i64 c.id, .int .i64 c.last, .int .i64 c.score] 52)) := below_new _ _
  obtain ⟨c0, c1, c2⟩ := client_cells (blk_new w (.cells #[.int .i64 c.id, .int .i64 c.last, .int .i64 c.score] 52))
  have e1 : IntKind.i64.wrap (now - c.last) = now - c.last := IntWalk.i64_in _ (by omega)
  have e2 : IntKind.i64.wrap (c.score - (now - c.last)) = c.score - (now - c.last) := IntWalk.i64_in _ (by omega)
  have HL := Lib.hid (show leftC c now = max (c.score - (now - c.last)) 0 from rfl)
  by_cases hneg : c.score - (now - c.last) < 0
  · have HV : Hid (leftC c now = 0) := Lib.hid (by rw [HL.out]; omega)
    have hd := decide_eq_true hneg
    go_enter Try.func49, Try.ntmps49
    go_wp2_with fail
    all_goals go_returns
    all_goals exact ⟨by rw [HV.out]; try rfl, B0⟩
  · have HV : Hid (leftC c now = c.score - (now - c.last)) := Lib.hid (by rw [HL.out]; omega)
    have hd := decide_eq_false hneg
    go_enter Try.func49, Try.ntmps49
    go_wp2_with fail
    all_goals go_returns
    all_goals exact ⟨by rw [HV.out]; try rfl, B0⟩
end Go.Proofs.Ytckonbbdeohccaa
