/- A number's bytes, as many as are wanted, the highest first: the program's way. -/
import Derived.Test.YteecemjbkpkpaaaDoorBytesOf
import Derived.Laws.ShiftsVarLaws
import Derived.Laws.MakeOwn
namespace Go.Proofs.YteecemjbkpkpaaaDoor
open Go.ChangeShapes Go.WideShapes Go.ChangeAt Go.RowKit Go.Shelf
set_option linter.unusedVariables false
set_option linter.unusedSimpArgs false
set_option maxRecDepth 100000
attribute [local go_sem] Oper.semAt_some

/-- The first few of so many bytes of a number. -/
def highN (v : Int) (c k : Nat) : List Int := (List.range k).map fun j => v / 2 ^ min (8 * (c - 1 - j)) 64 % 256
theorem highN_length (v : Int) (c k : Nat) : (highN v c k).length = k := by simp [highN]
theorem highN_succ (v : Int) (c k : Nat) : highN v c (k + 1) = highN v c k ++ [v / 2 ^ min (8 * (c - 1 - k)) 64 % 256] := by simp [highN, List.range_succ]
set_option maxHeartbeats 2000000 in
theorem highestN_in (c : Nat) (hc : c ≤ 63) (F : Fence) (n : Nat) (hf : F.fn 58) (hro : F.round = none) (hn : 1 ≤ n) (l Bn Bc : Nat) (v : Int) (h0 : 0 ≤ v) (h1 : v < 4611686018427387904) (J Jx : List Int → World → Prop)
    (hY : ∀ pre x W, J pre W → pre.length < c → YieldAt F (n - 1) Tryd.prog l #[.int .u8 x] W fun e W' =>
      (e = .returned (.bool true) ∧ J (pre ++ [x]) W' ∧ BoxKept Bn (.int .i64 v) W W') ∨ (e = .returned (.bool false) ∧ Jx (pre ++ [x]) W'))
    (W : World) (hxn : Boxed W Bn 2 (.int .i64 v)) (hBc : W.cell? ⟨Bc, 0, none⟩ = some (.int .i64 c)) (hJ : J [] W) :
    CallsIn F n Tryd.prog 58 #[.func (.yield l) #[] #[], .pointer (some ⟨Bc, 0, none⟩), .pointer (some ⟨Bn, 0, none⟩)] W fun e W' => (∃ v, e = .returned v) ∧
      ((∃ ys, ys = highN v c c ∧ J ys W') ∨ (∃ pre, True ∧ Jx pre W')) := by
  refine callsIn_of_wp Tryd.func58 rfl hf ?_ hro
  simp only [Tryd.ntmps58, List.size_toArray, List.length_cons, List.length_nil, Nat.reduceAdd, Nat.reduceSub, Array.replicate_succ, Array.replicate_zero, List.push_toArray, List.append_toArray, List.nil_append, List.cons_append]
  gi_wp2
  gi_loopw [4] (fun i wr => ∃ k : Nat, k ≤ c ∧ i = .int .i64 ((c : Int) - 1 - k) ∧ J (highN v c k) wr ∧ Boxed wr Bn 2 (.int .i64 v)) (fun i _ => (intOf i + 1).toNat)
  case atStart => exact ⟨0, Nat.zero_le _, by simp, hJ, hxn⟩
  case round =>
    obtain ⟨k, hk, rfl, hJ1, hx⟩ := hrel
    have hcl := hx.cell
    by_cases hlt : k < c
    · obtain ⟨q, hq⟩ : ∃ q : Nat, q = c - 1 - k := ⟨_, rfl⟩
      have hqi : (c : Int) - 1 - (k : Int) = (q : Int) := by omega
      have hN := highN_succ v c k
      rw [← hq] at hN
      have HN := Lib.hid hN
      obtain ⟨fn1, t1, a1, b1, hy1, hR1⟩ := hY (highN v c k) (v / 2 ^ min (8 * q) 64 % 256) wr hJ1 (by rw [highN_length]; exact hlt)
      rw [hqi]
      have HQ := Lib.hid hq
      clear hN hq hqi
      have hq0 : (0 : Int) ≤ 8 * (q : Int) := by omega
      have hqb : q ≤ 62 := by have := HQ.out; omega
      have hsh : (8 * (q : Int)).toNat = 8 * q := by omega
      have hw : wrap64 (8 * (q : Int)) = 8 * (q : Int) := IntWalk.wrap64_in _ (by omega)
      gi_wp2
      refine hR1.mono ?_
      rintro e W1 (⟨rfl, hJ2, hk2⟩ | ⟨rfl, hJx2⟩)
      · gi_wp2
        go_roundw
        case rel => exact ⟨k + 1, by omega, by have := HQ.out; first | (congr 1; done) | (congr 1; omega), by rw [HN.out]; exact hJ2, hk2 hx⟩
        case measure => simp [intOf]
      · gi_wp2
        refine bodyPost_ret (results_none rfl _ _ _) rfl ?_
        exact ⟨⟨_, rfl⟩, .inr ⟨_, trivial, hJx2⟩⟩
    · have hkc : k = c := by omega
      subst hkc
      have e1 : (k : Int) - 1 - k = -1 := by omega
      rw [e1]
      clear e1 hlt
      gi_wp2
      go_end0
      exact ⟨⟨_, rfl⟩, .inl ⟨_, rfl, hJ1⟩⟩
theorem highestN_stops (c : Nat) (hc : c ≤ 63) (F : Fence) (n : Nat) (hf : F.fn 58) (hro : F.round = none) (hn : 1 ≤ n) (Bn Bc : Nat) (v : Int) (h0 : 0 ≤ v) (h1 : v < 4611686018427387904) (w : World)
    (hBn : Boxed w Bn 2 (.int .i64 v)) (hBc : Boxed w Bc 3 (.int .i64 c)) :
    SeqStopsK F n Tryd.prog 58 #[.pointer (some ⟨Bc, 0, none⟩), .pointer (some ⟨Bn, 0, none⟩)] (fun x : Int => #[Value.int .u8 x]) (BoxKept Bn (.int .i64 v)) (fun ys => ys = highN v c c) (fun _ => True) c w := fun l J Jx W hW _ _ hY hJ =>
  highestN_in c hc F n hf hro hn l Bn Bc v h0 h1 J Jx hY W ((hW.block Bn hBn.lt).trans hBn) ((hW.cell (p := ⟨Bc, 0, none⟩) hBc.lt).trans hBc.cell) hJ
theorem infoByteN : (Tryd.prog.info? 5).map (fun i => (i.zero, i.size, i.bytes)) = some (some (.int .u8 0), 1, 1) := by kernel_rfl
set_option maxRecDepth 100000 in
set_option maxHeartbeats 2000000 in
theorem bytesOfN_in (c : Nat) (hc63 : c ≤ 63) (F : Fence) (n : Nat) (h1 : F.fn 29) (h2 : F.fn 43) (h3 : F.fn 58) (hro : F.round = none) (hn : 3 ≤ n) (v : Int) (g0 : 0 ≤ v) (g1 : v < 4611686018427387904) (w : World) :
    CallsIn F n Tryd.prog 29 #[.int .i64 v, .int .i64 (c : Int)] w fun e W' => e = .returned (.string (strOfNums (highN v c c))) ∧ Below w.heap.size w W' := by
  have h1n : 1 ≤ n := by omega
  obtain ⟨i0, hi, hz0, hz1, hz2⟩ := info_parts infoByte
  have hmk : ∀ w, (Instr.makeSlice 22 (.int .i64 0) (.int .i64 (c : Int))).run Tryd.prog w = .ok (.slice (some ⟨w.heap.size, 0, none⟩) 0 c) (w.alloc (.cells (madeCells #[.int .u8 0] c) 5)) := fun w => by
    have h := run_make (P := Tryd.prog) w 22 5 i0 (.int .u8 0) Tryd.underlying22 hi hz0 .i64 .i64 0 c (by omega) (by omega) (by rw [hz2]; omega) (by omega)
    rw [hz1] at h
    simpa [Value.cells] using h
  refine callsIn_of_wp_marks Tryd.func29 rfl h1 ?_ hro
  simp only [Tryd.ntmps29, List.size_toArray, List.length_cons, List.length_nil, Nat.reduceAdd, Nat.reduceSub, Array.replicate_succ, Array.replicate_zero, List.push_toArray, List.append_toArray, List.nil_append, List.cons_append]
  gi_wp2_with (gi_at_call 43; refine (highest_in F (n - 1) h2 hro _ _ _).mono ?_; rintro e w' ⟨rfl, rfl⟩)
  obtain ⟨cs, hcs⟩ : ∃ cs : Array Value, madeCells #[Value.int .u8 0] c = cs := ⟨_, rfl⟩
  have hcsz : cs.size = c * 1 := by rw [← hcs, size_madeCells]; omega
  rw [hcs]
  clear hcs hmk
  have bO := Boxed.new (w.alloc (.cells cs 5)) 22 (.slice (some ⟨w.heap.size, 0, none⟩) 0 c)
  have bN := Boxed.new ((w.alloc (.cells cs 5)).alloc (.cells #[.slice (some ⟨w.heap.size, 0, none⟩) 0 c] 22)) 2 (.int .i64 v)
  have bC := Boxed.new (((w.alloc (.cells cs 5)).alloc (.cells #[.slice (some ⟨w.heap.size, 0, none⟩) 0 c] 22)).alloc (.cells #[.int .i64 v] 2)) 3 (.int .i64 (c : Int))
  simp only [World.size_alloc] at bO bN bC
  have rO := (((World.ownsRow_made (base := w.heap.size) (e := 5) (size := 1) w cs c (Nat.le_refl _) (by simp [maxLen]; omega) hcsz).alloc (.cells #[.slice (some ⟨w.heap.size, 0, none⟩) 0 c] 22)).alloc (.cells #[.int .i64 v] 2)).alloc (.cells #[.int .i64 (c : Int)] 3)
  have bO' := (bO.alloc (.cells #[.int .i64 v] 2)).alloc (.cells #[.int .i64 (c : Int)] 3)
  have bN' := bN.alloc (.cells #[.int .i64 (c : Int)] 3)
  have hB0 : Below w.heap.size w ((((w.alloc (.cells cs 5)).alloc (.cells #[.slice (some ⟨w.heap.size, 0, none⟩) 0 c] 22)).alloc (.cells #[.int .i64 v] 2)).alloc (.cells #[.int .i64 (c : Int)] 3)) := by go_grown
  obtain ⟨w0, hw0⟩ : ∃ w0, (((w.alloc (.cells cs 5)).alloc (.cells #[.slice (some ⟨w.heap.size, 0, none⟩) 0 c] 22)).alloc (.cells #[.int .i64 v] 2)).alloc (.cells #[.int .i64 (c : Int)] 3) = w0 := ⟨_, rfl⟩
  have hsz0 : w0.heap.size = w.heap.size + 1 + 1 + 1 + 1 := by rw [← hw0]; simp
  rw [hw0] at rO bO' bN' bC hB0 ⊢
  clear hw0 bO bN
  refine wpIn_rangeFunc_ownG hro h1n (gf := 58) (lb := #[.pointer (some ⟨w.heap.size + 1 + 1 + 1, 0, none⟩), .pointer (some ⟨w.heap.size + 1 + 1, 0, none⟩)]) rfl h3 (enters_of Tryd.func58 (by kernel_rfl) rfl)
    (highestN_stops c hc63 F (n - 1) h3 hro (by omega) (w.heap.size + 1 + 1) (w.heap.size + 1 + 1 + 1) v g0 g1 w0 bN' bC) (fun h h' x => h' (h x))
    (fun W l o o' hle hl hc _ hx => hx.kept (grownBy_putObj' W l o') (fun e => by cases e; rw [show W.heap[_]? = _ from hx] at hl; cases hl; cases hc))
    (Below.refl _ _) (fun _ => rfl)
    (fun pre W => ((∃ v, Boxed W (w.heap.size + 1) 22 v ∧ W.ownsRow w.heap.size 5 1 v pre.length (pre.map (Value.int .u8)) ∧ True) ∧ Boxed W (w.heap.size + 1 + 1) 2 (.int .i64 v)) ∧ Below w.heap.size w W)
    (fun _ _ _ => False)
    (OwnFrom.and (OwnFrom.and (Own.from (holdsRow_own w.heap.size (w.heap.size + 1) 22 5 1 (fun pre : List Int => pre.length) (fun pre => pre.map (Value.int .u8)) (fun pre v => True)) _) (Own.from (boxed_own _ _ _) _)) (ownFrom_below (Nat.le_refl _) (by omega)))
    (fun _ _ _ _ _ hs _ _ => hs)
    ⟨⟨⟨_, bO', rO, trivial⟩, bN'⟩, hB0⟩
    (fun x => { tmps := #[.int .i64 v, .int .i64 (c : Int), undef, undef, .string { data := #[] }, .pointer (some ⟨w.heap.size + 1, 0, none⟩), .int .u8 x, .int .i64 (c : Int), .slice (some ⟨w.heap.size, 0, none⟩) 0 c, .int .i64 v, .int .i64 (c : Int), .func (.func 58) #[] #[.pointer (some ⟨w.heap.size + 1 + 1 + 1, 0, none⟩), .pointer (some ⟨w.heap.size + 1 + 1, 0, none⟩)], .int .u8 x, undef, undef, undef, undef, undef, undef], defers := [] }) ?assign ?body ?done ?stop
  case assign =>
    intro l x W K hK
    gi_wp2
    exact hK
  case body =>
    rintro l pre x W ⟨⟨⟨u, hv, hrow, _⟩, hx⟩, hB⟩ hlt
    have hcv0 := hv.cell
    gi_wp2_with (gi_at_builtin; refine wpListIn_append_own _ rfl _ _ 22 rfl w.heap.size 5 i0 (.int .u8 0) 1 1 Tryd.underlying22 hi hz0 hz1 hz2 rfl (by decide) _ _ _ rfl (hrow.alloc _) ⟨W.heap.size, 0, none⟩ 1 1 [.int .u8 x] rfl rfl (cell_one_new _ _ _) (by simp [Value.oneCell']) (by unfold maxLen; omega) (by omega) (by have := hB.size; simp; omega) ?_; intro v' w1 hown' hgrow _; obtain ⟨g', cap', rfl⟩ := ownsRow_succ hown'; obtain ⟨hv1, hv2, hr2, hk2, hb2⟩ := hv.appended (by decide) hrow hB.size (by omega) hown' hgrow; have hx1 := (hx.alloc (.cells #[.int .u8 x] 5)).kept hgrow (hx.not_row (by decide) hrow); have hc1 := hv1.cell; have hf1 := hv1.frozen)
    exact ⟨hk2.from _, fun _ => hx1.other (by omega) _, ⟨⟨_, hv2, by simpa using hr2, trivial⟩, hx1.other (by omega) _⟩, hB.trans hb2⟩
  case done =>
    rintro D ys W hD rfl ⟨⟨⟨u, hv, hrow, _⟩, hx⟩, hB⟩ hK
    have hcv0 := hv.cell
    have hcv := convert_owned (P := Tryd.prog) (src := 22) (dst := 9) Tryd.underlying22 Tryd.underlying5 Tryd.underlying9 hrow
    gi_wp2
    refine ⟨by simp, .inl ⟨_, _, rfl, run_takeDeferred hK, ?_⟩⟩
    exact ⟨_, results_tmp rfl _ _ _, rfl, hB.trans (belowK_b (w := w) (Nat.le_refl _) W D _ _ (by omega) hK rfl rfl)⟩
  case stop =>
    rintro D c pre W _ _ h _
    exact h.elim

theorem bytesOfN (c : Nat) (hc : c ≤ 63) (v : Int) (g0 : 0 ≤ v) (g1 : v < 4611686018427387904) (w : World) :
    Calls Tryd.prog 29 #[.int .i64 v, .int .i64 (c : Int)] w fun e W' => e = .returned (.string (strOfNums (highN v c c))) ∧ Below w.heap.size w W' :=
  (callsIn_wide (n := 5)).1 (bytesOfN_in c hc Fence.wide 5 trivial trivial trivial rfl (by omega) v g0 g1 w)
end Go.Proofs.YteecemjbkpkpaaaDoor
