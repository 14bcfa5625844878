/- Numbers as bytes, the highest first: the program's way: the loop over the iterator. -/
import Derived.Test.YteecemjbkpkpaaaDoorHighest
namespace Go.Proofs.YteecemjbkpkpaaaDoor
open Go.ChangeShapes Go.WideShapes Go.ChangeAt Go.RowKit Go.Shelf
set_option linter.unusedVariables false

attribute [local go_sem] Oper.semAt_some

theorem infoByte : (Tryd.prog.info? 5).map (fun i => (i.zero, i.size, i.bytes)) = some (some (.int .u8 0), 1, 1) := by kernel_rfl

set_option maxRecDepth 100000 in
set_option maxHeartbeats 2000000 in
theorem bytesOf4_in (F : Fence) (n : Nat) (h1 : F.fn 29) (h2 : F.fn 43) (h3 : F.fn 58) (hro : F.round = none) (hn : 3 ≤ n) (v : Int) (g0 : 0 ≤ v) (g1 : v < 4611686018427387904) (w : World) :
    CallsIn F n Tryd.prog 29 #[.int .i64 v, .int .i64 4] w fun e W' => e = .returned (.string (put4 v)) ∧ Below w.heap.size w W' := by
  have h1n : 1 ≤ n := by omega
  obtain ⟨i0, hi, hz0, hz1, hz2⟩ := info_parts infoByte
  have hmk : ∀ w, (Instr.makeSlice 22 (.int .i64 0) (.int .i64 4)).run Tryd.prog w = .ok (.slice (some ⟨w.heap.size, 0, none⟩) 0 4) (w.alloc (.cells #[.int .u8 0, .int .u8 0, .int .u8 0, .int .u8 0] 5)) := fun _ => by kernel_rfl
  refine callsIn_of_wp_marks Tryd.func29 rfl h1 ?_ hro
  simp only [Tryd.ntmps29, List.size_toArray, List.length_cons, List.length_nil, Nat.reduceAdd, Nat.reduceSub, Array.replicate_succ, Array.replicate_zero, List.push_toArray, List.append_toArray, List.nil_append, List.cons_append]
  gi_wp2_with (gi_at_call 43; refine (highest_in F (n - 1) h2 hro _ _ _).mono ?_; rintro e w' ⟨rfl, rfl⟩)
  obtain ⟨cs, hcs⟩ : ∃ cs : Array Value, #[Value.int .u8 0, Value.int .u8 0, Value.int .u8 0, Value.int .u8 0] = cs := ⟨_, rfl⟩
  have hcsz : cs.size = 4 * 1 := by rw [← hcs]; rfl
  rw [hcs]
  clear hcs hmk
  have bO := Boxed.new (w.alloc (.cells cs 5)) 22 (.slice (some ⟨w.heap.size, 0, none⟩) 0 4)
  have bN := Boxed.new ((w.alloc (.cells cs 5)).alloc (.cells #[.slice (some ⟨w.heap.size, 0, none⟩) 0 4] 22)) 2 (.int .i64 v)
  have bC := Boxed.new (((w.alloc (.cells cs 5)).alloc (.cells #[.slice (some ⟨w.heap.size, 0, none⟩) 0 4] 22)).alloc (.cells #[.int .i64 v] 2)) 3 (.int .i64 4)
  simp only [World.size_alloc] at bO bN bC
  have rO := (((World.ownsRow_made (base := w.heap.size) (e := 5) (size := 1) w cs 4 (Nat.le_refl _) (by simp [maxLen]) hcsz).alloc (.cells #[.slice (some ⟨w.heap.size, 0, none⟩) 0 4] 22)).alloc (.cells #[.int .i64 v] 2)).alloc (.cells #[.int .i64 4] 3)
  have bO' := (bO.alloc (.cells #[.int .i64 v] 2)).alloc (.cells #[.int .i64 4] 3)
  have bN' := bN.alloc (.cells #[.int .i64 4] 3)
  have hB0 : Below w.heap.size w ((((w.alloc (.cells cs 5)).alloc (.cells #[.slice (some ⟨w.heap.size, 0, none⟩) 0 4] 22)).alloc (.cells #[.int .i64 v] 2)).alloc (.cells #[.int .i64 4] 3)) := by go_grown
  obtain ⟨w0, hw0⟩ : ∃ w0, (((w.alloc (.cells cs 5)).alloc (.cells #[.slice (some ⟨w.heap.size, 0, none⟩) 0 4] 22)).alloc (.cells #[.int .i64 v] 2)).alloc (.cells #[.int .i64 4] 3) = w0 := ⟨_, rfl⟩
  have hsz0 : w0.heap.size = w.heap.size + 1 + 1 + 1 + 1 := by rw [← hw0]; simp
  rw [hw0] at rO bO' bN' bC hB0 ⊢
  clear hw0 bO bN
  refine wpIn_rangeFunc_ownG hro h1n (gf := 58) (lb := #[.pointer (some ⟨w.heap.size + 1 + 1 + 1, 0, none⟩), .pointer (some ⟨w.heap.size + 1 + 1, 0, none⟩)]) rfl h3 (enters_of Tryd.func58 (by kernel_rfl) rfl)
    (highest4_stops F (n - 1) h3 hro (by omega) (w.heap.size + 1 + 1) (w.heap.size + 1 + 1 + 1) v g0 g1 w0 bN' bC) (fun h h' x => h' (h x))
    (fun W l o o' hle hl hc _ hx => hx.kept (grownBy_putObj' W l o') (fun e => by cases e; rw [show W.heap[_]? = _ from hx] at hl; cases hl; cases hc))
    (Below.refl _ _) (fun _ => rfl)
    (fun pre W => ((∃ v, Boxed W (w.heap.size + 1) 22 v ∧ W.ownsRow w.heap.size 5 1 v pre.length (pre.map (Value.int .u8)) ∧ True) ∧ Boxed W (w.heap.size + 1 + 1) 2 (.int .i64 v)) ∧ Below w.heap.size w W)
    (fun _ _ _ => False)
    (OwnFrom.and (OwnFrom.and (Own.from (holdsRow_own w.heap.size (w.heap.size + 1) 22 5 1 (fun pre : List Int => pre.length) (fun pre => pre.map (Value.int .u8)) (fun pre v => True)) _) (Own.from (boxed_own _ _ _) _)) (ownFrom_below (Nat.le_refl _) (by omega)))
    (fun _ _ _ _ _ hs _ _ => hs)
    ⟨⟨⟨_, bO', rO, trivial⟩, bN'⟩, hB0⟩
    (fun x => { tmps := #[.int .i64 v, .int .i64 4, undef, undef, .string { data := #[] }, .pointer (some ⟨w.heap.size + 1, 0, none⟩), .int .u8 x, .int .i64 4, .slice (some ⟨w.heap.size, 0, none⟩) 0 4, .int .i64 v, .int .i64 4, .func (.func 58) #[] #[.pointer (some ⟨w.heap.size + 1 + 1 + 1, 0, none⟩), .pointer (some ⟨w.heap.size + 1 + 1, 0, none⟩)], .int .u8 x, undef, undef, undef, undef, undef, undef], defers := [] }) ?assign ?body ?done ?stop
  case assign =>
    intro l x W K hK
    gi_wp2
    exact hK
  case body =>
    rintro l pre x W ⟨⟨⟨u, hv, hrow, _⟩, hx⟩, hB⟩ hlt
    have hc := hv.cell
    gi_wp2_with (gi_at_builtin; refine wpListIn_append_own _ rfl _ _ 22 rfl w.heap.size 5 i0 (.int .u8 0) 1 1 Tryd.underlying22 hi hz0 hz1 hz2 rfl (by decide) _ _ _ rfl (hrow.alloc _) ⟨W.heap.size, 0, none⟩ 1 1 [.int .u8 x] rfl rfl (cell_one_new _ _ _) (by simp [Value.oneCell']) (by unfold maxLen; omega) (by omega) (by have := hB.size; simp; omega) ?_; intro v' w1 hown' hgrow _; obtain ⟨g', cap', rfl⟩ := ownsRow_succ hown'; obtain ⟨hv1, hv2, hr2, hk2, hb2⟩ := hv.appended (by decide) hrow hB.size (by omega) hown' hgrow; have hx1 := (hx.alloc (.cells #[.int .u8 x] 5)).kept hgrow (hx.not_row (by decide) hrow); have hc1 := hv1.cell; have hf1 := hv1.frozen)
    exact ⟨hk2.from _, fun _ => hx1.other (by omega) _, ⟨⟨_, hv2, by simpa using hr2, trivial⟩, hx1.other (by omega) _⟩, hB.trans hb2⟩
  case done =>
    rintro D ys W hD rfl ⟨⟨⟨u, hv, hrow, _⟩, hx⟩, hB⟩ hK
    have hc := hv.cell
    have hcv := convert_owned (P := Tryd.prog) (src := 22) (dst := 9) Tryd.underlying22 Tryd.underlying5 Tryd.underlying9 hrow
    gi_wp2
    refine ⟨by simp, .inl ⟨_, _, rfl, run_takeDeferred hK, ?_⟩⟩
    exact ⟨_, results_tmp rfl _ _ _, rfl, hB.trans (belowK_b (w := w) (Nat.le_refl _) W D _ _ (by omega) hK rfl rfl)⟩
  case stop =>
    rintro D c pre W _ _ h _
    exact h.elim

theorem bytesOf4 (v : Int) (g0 : 0 ≤ v) (g1 : v < 4611686018427387904) (w : World) :
    Calls Tryd.prog 29 #[.int .i64 v, .int .i64 4] w fun e W' => e = .returned (.string (put4 v)) ∧ Below w.heap.size w W' :=
  (callsIn_wide (n := 5)).1 (bytesOf4_in Fence.wide 5 trivial trivial trivial rfl (by omega) v g0 g1 w)
end Go.Proofs.YteecemjbkpkpaaaDoor
