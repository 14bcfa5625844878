/- One number as one byte: the program's way. -/
import Derived.Test.YteecemjbkpkpaaaDoorBytesOf
namespace Go.Proofs.YteecemjbkpkpaaaDoor
open Go.ChangeShapes Go.WideShapes Go.ChangeAt Go.RowKit Go.Shelf
set_option linter.unusedVariables false

attribute [local go_sem] Oper.semAt_some

/-- The last byte of a number. -/
def put1 (n : Int) : ByteArray := strOfNums [n % 256]

set_option maxRecDepth 100000 in
set_option maxHeartbeats 2000000 in
/-- The iterator at a count of one: the last byte. -/
theorem highest1_in (F : Fence) (n : Nat) (hf : F.fn 58) (hro : F.round = none) (hn : 1 ≤ n) (l Bn Bc : Nat) (v : Int) (h0 : 0 ≤ v) (h1 : v < 4611686018427387904) (J Jx : List Int → World → Prop)
    (hY : ∀ pre x W, J pre W → pre.length < 1 → YieldAt F (n - 1) Tryd.prog l #[.int .u8 x] W fun e W' =>
      (e = .returned (.bool true) ∧ J (pre ++ [x]) W' ∧ BoxKept Bn (.int .i64 v) W W') ∨ (e = .returned (.bool false) ∧ Jx (pre ++ [x]) W'))
    (W : World) (hxn : Boxed W Bn 2 (.int .i64 v)) (hBc : W.cell? ⟨Bc, 0, none⟩ = some (.int .i64 1)) (hJ : J [] W) :
    CallsIn F n Tryd.prog 58 #[.func (.yield l) #[] #[], .pointer (some ⟨Bc, 0, none⟩), .pointer (some ⟨Bn, 0, none⟩)] W fun e W' => (∃ v, e = .returned v) ∧
      ((∃ ys, ys = [v % 256] ∧ J ys W') ∨ (∃ pre, True ∧ Jx pre W')) := by
  refine callsIn_of_wp Tryd.func58 rfl hf ?_ hro
  simp only [Tryd.ntmps58, List.size_toArray, List.length_cons, List.length_nil, Nat.reduceAdd, Nat.reduceSub, Array.replicate_succ, Array.replicate_zero, List.push_toArray, List.append_toArray, List.nil_append, List.cons_append]
  have hBn := hxn.cell
  gi_wp2
  refine wpIn_loop_rounds 2 ?_
  rw [roundsIn_succ]
  obtain ⟨fn1, t1, a1, b1, hy1, hR1⟩ := hY [] (v % 256) W hJ (by simp)
  gi_wp2
  refine hR1.mono ?_
  rintro e W1 (⟨rfl, hJ1, hk1⟩ | ⟨rfl, hJx1⟩)
  · gi_wp2
    rw [roundsIn_succ]
    gi_wp2
    go_end0
    exact ⟨⟨_, rfl⟩, .inl ⟨_, rfl, hJ1⟩⟩
  · gi_wp2
    refine bodyPost_ret (results_none rfl _ _ _) rfl ?_
    exact ⟨⟨_, rfl⟩, .inr ⟨_, trivial, hJx1⟩⟩

theorem highest1_stops (F : Fence) (n : Nat) (hf : F.fn 58) (hro : F.round = none) (hn : 1 ≤ n) (Bn Bc : Nat) (v : Int) (h0 : 0 ≤ v) (h1 : v < 4611686018427387904) (w : World)
    (hBn : Boxed w Bn 2 (.int .i64 v)) (hBc : Boxed w Bc 3 (.int .i64 1)) :
    SeqStopsK F n Tryd.prog 58 #[.pointer (some ⟨Bc, 0, none⟩), .pointer (some ⟨Bn, 0, none⟩)] (fun x : Int => #[Value.int .u8 x]) (BoxKept Bn (.int .i64 v)) (fun ys => ys = [v % 256]) (fun _ => True) 1 w := fun l J Jx W hW _ _ hY hJ =>
  highest1_in F n hf hro hn l Bn Bc v h0 h1 J Jx hY W ((hW.block Bn hBn.lt).trans hBn) ((hW.cell (p := ⟨Bc, 0, none⟩) hBc.lt).trans hBc.cell) hJ

set_option maxRecDepth 100000 in
set_option maxHeartbeats 2000000 in
theorem bytesOf1_in (F : Fence) (n : Nat) (h1 : F.fn 29) (h2 : F.fn 43) (h3 : F.fn 58) (hro : F.round = none) (hn : 3 ≤ n) (v : Int) (g0 : 0 ≤ v) (g1 : v < 4611686018427387904) (w : World) :
    CallsIn F n Tryd.prog 29 #[.int .i64 v, .int .i64 1] w fun e W' => e = .returned (.string (put1 v)) ∧ Below w.heap.size w W' := by
  have h1n : 1 ≤ n := by omega
  obtain ⟨i0, hi, hz0, hz1, hz2⟩ := info_parts infoByte
  have hmk : ∀ w, (Instr.makeSlice 22 (.int .i64 0) (.int .i64 1)).run Tryd.prog w = .ok (.slice (some ⟨w.heap.size, 0, none⟩) 0 1) (w.alloc (.cells #[.int .u8 0] 5)) := fun _ => by kernel_rfl
  refine callsIn_of_wp_marks Tryd.func29 rfl h1 ?_ hro
  simp only [Tryd.ntmps29, List.size_toArray, List.length_cons, List.length_nil, Nat.reduceAdd, Nat.reduceSub, Array.replicate_succ, Array.replicate_zero, List.push_toArray, List.append_toArray, List.nil_append, List.cons_append]
  gi_wp2_with (gi_at_call 43; refine (highest_in F (n - 1) h2 hro _ _ _).mono ?_; rintro e w' ⟨rfl, rfl⟩)
  obtain ⟨cs, hcs⟩ : ∃ cs : Array Value, #[Value.int .u8 0] = cs := ⟨_, rfl⟩
  have hcsz : cs.size = 1 * 1 := by rw [← hcs]; rfl
  rw [hcs]
  clear hcs hmk
  have bO := Boxed.new (w.alloc (.cells cs 5)) 22 (.slice (some ⟨w.heap.size, 0, none⟩) 0 1)
  have bN := Boxed.new ((w.alloc (.cells cs 5)).alloc (.cells #[.slice (some ⟨w.heap.size, 0, none⟩) 0 1] 22)) 2 (.int .i64 v)
  have bC := Boxed.new (((w.alloc (.cells cs 5)).alloc (.cells #[.slice (some ⟨w.heap.size, 0, none⟩) 0 1] 22)).alloc (.cells #[.int .i64 v] 2)) 3 (.int .i64 1)
  simp only [World.size_alloc] at bO bN bC
  have rO := (((World.ownsRow_made (base := w.heap.size) (e := 5) (size := 1) w cs 1 (Nat.le_refl _) (by simp [maxLen]) hcsz).alloc (.cells #[.slice (some ⟨w.heap.size, 0, none⟩) 0 1] 22)).alloc (.cells #[.int .i64 v] 2)).alloc (.cells #[.int .i64 1] 3)
  have bO' := (bO.alloc (.cells #[.int .i64 v] 2)).alloc (.cells #[.int .i64 1] 3)
  have bN' := bN.alloc (.cells #[.int .i64 1] 3)
  have hB0 : Below w.heap.size w ((((w.alloc (.cells cs 5)).alloc (.cells #[.slice (some ⟨w.heap.size, 0, none⟩) 0 1] 22)).alloc (.cells #[.int .i64 v] 2)).alloc (.cells #[.int .i64 1] 3)) := by go_grown
  obtain ⟨w0, hw0⟩ : ∃ w0, (((w.alloc (.cells cs 5)).alloc (.cells #[.slice (some ⟨w.heap.size, 0, none⟩) 0 1] 22)).alloc (.cells #[.int .i64 v] 2)).alloc (.cells #[.int .i64 1] 3) = w0 := ⟨_, rfl⟩
  have hsz0 : w0.heap.size = w.heap.size + 1 + 1 + 1 + 1 := by rw [← hw0]; simp
  rw [hw0] at rO bO' bN' bC hB0 ⊢
  clear hw0 bO bN
  refine wpIn_rangeFunc_ownG hro h1n (gf := 58) (lb := #[.pointer (some ⟨w.heap.size + 1 + 1 + 1, 0, none⟩), .pointer (some ⟨w.heap.size + 1 + 1, 0, none⟩)]) rfl h3 (enters_of Tryd.func58 (by kernel_rfl) rfl)
    (highest1_stops F (n - 1) h3 hro (by omega) (w.heap.size + 1 + 1) (w.heap.size + 1 + 1 + 1) v g0 g1 w0 bN' bC) (fun h h' x => h' (h x))
    (fun W l o o' hle hl hc _ hx => hx.kept (grownBy_putObj' W l o') (fun e => by cases e; rw [show W.heap[_]? = _ from hx] at hl; cases hl; cases hc))
    (Below.refl _ _) (fun _ => rfl)
    (fun pre W => ((∃ v, Boxed W (w.heap.size + 1) 22 v ∧ W.ownsRow w.heap.size 5 1 v pre.length (pre.map (Value.int .u8)) ∧ True) ∧ Boxed W (w.heap.size + 1 + 1) 2 (.int .i64 v)) ∧ Below w.heap.size w W)
    (fun _ _ _ => False)
    (OwnFrom.and (OwnFrom.and (Own.from (holdsRow_own w.heap.size (w.heap.size + 1) 22 5 1 (fun pre : List Int => pre.length) (fun pre => pre.map (Value.int .u8)) (fun pre v => True)) _) (Own.from (boxed_own _ _ _) _)) (ownFrom_below (Nat.le_refl _) (by omega)))
    (fun _ _ _ _ _ hs _ _ => hs)
    ⟨⟨⟨_, bO', rO, trivial⟩, bN'⟩, hB0⟩
    (fun x => { tmps := #[.int .i64 v, .int .i64 1, undef, undef, .string { data := #[] }, .pointer (some ⟨w.heap.size + 1, 0, none⟩), .int .u8 x, .int .i64 1, .slice (some ⟨w.heap.size, 0, none⟩) 0 1, .int .i64 v, .int .i64 1, .func (.func 58) #[] #[.pointer (some ⟨w.heap.size + 1 + 1 + 1, 0, none⟩), .pointer (some ⟨w.heap.size + 1 + 1, 0, none⟩)], .int .u8 x, undef, undef, undef, undef, undef, undef], defers := [] }) ?assign ?body ?done ?stop
  case assign =>
    intro l x W K hK
    gi_wp2
    exact hK
  case body =>
    rintro l pre x W ⟨⟨⟨u, hv, hrow, _⟩, hx⟩, hB⟩ hlt
    have hc := hv.cell
    gi_wp2_with (gi_at_builtin; refine wpListIn_append_own _ rfl _ _ 22 rfl w.heap.size 5 i0 (.int .u8 0) 1 1 Tryd.underlying22 hi hz0 hz1 hz2 rfl (by decide) _ _ _ rfl (hrow.alloc _) ⟨W.heap.size, 0, none⟩ 1 1 [.int .u8 x] rfl rfl (cell_one_new _ _ _) (by simp [Value.oneCell']) (by unfold maxLen; omega) (by omega) (by have := hB.size; simp; omega) ?_; intro v' w1 hown' hgrow _; obtain ⟨g', cap', rfl⟩ := ownsRow_succ hown'; obtain ⟨hv1, hv2, hr2, hk2, hb2⟩ := hv.appended (by decide) hrow hB.size (by omega) hown' hgrow; have hx1 := (hx.alloc (.cells #[.int .u8 x] 5)).kept hgrow (hx.not_row (by decide) hrow); have hc1 := hv1.cell; have hf1 := hv1.frozen)
    exact ⟨hk2.from _, fun _ => hx1.other (by omega) _, ⟨⟨_, hv2, by simpa using hr2, trivial⟩, hx1.other (by omega) _⟩, hB.trans hb2⟩
  case done =>
    rintro D ys W hD rfl ⟨⟨⟨u, hv, hrow, _⟩, hx⟩, hB⟩ hK
    have hc := hv.cell
    have hcv := convert_owned (P := Tryd.prog) (src := 22) (dst := 9) Tryd.underlying22 Tryd.underlying5 Tryd.underlying9 hrow
    gi_wp2
    refine ⟨by simp, .inl ⟨_, _, rfl, run_takeDeferred hK, ?_⟩⟩
    exact ⟨_, results_tmp rfl _ _ _, rfl, hB.trans (belowK_b (w := w) (Nat.le_refl _) W D _ _ (by omega) hK rfl rfl)⟩
  case stop =>
    rintro D c pre W _ _ h _
    exact h.elim

theorem bytesOf1 (v : Int) (g0 : 0 ≤ v) (g1 : v < 4611686018427387904) (w : World) :
    Calls Tryd.prog 29 #[.int .i64 v, .int .i64 1] w fun e W' => e = .returned (.string (put1 v)) ∧ Below w.heap.size w W' :=
  (callsIn_wide (n := 5)).1 (bytesOf1_in Fence.wide 5 trivial trivial trivial rfl (by omega) v g0 g1 w)
end Go.Proofs.YteecemjbkpkpaaaDoor
