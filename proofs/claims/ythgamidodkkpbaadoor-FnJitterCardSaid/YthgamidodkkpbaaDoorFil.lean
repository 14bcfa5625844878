/- A filter's block: the samples it has, and how many; whether it takes one more. -/
import Derived.Test.YthgamidodkkpbaaDoorSampleOk
import Derived.Test.YthgamidodkkpbaaDoorCopyK
import Derived.Test.YthgamidodkkpbaaDoorTab
import Derived.Lib.QuietBelow
import Derived.IntWalk
namespace Go.Proofs.YthgamidodkkpbaaDoor
open Go.ChangeShapes Go.WideShapes Go.ChangeAt Go.RowKit Go.Sort
set_option linter.unusedVariables false
set_option linter.unusedSimpArgs false

def Sm.row (s : Sm) : List Int := [s.off, s.delay, s.disp, s.at_]
def Sm.cells (s : Sm) : List Value := s.row.map (Value.int .i64)
/-- These cells are a filter of these samples. -/
structure Fil (C : List Value) (l : List Sm) : Prop where
  len : C.length = 33
  ints : ∀ i, i < 33 → ∃ n : Int, C[i]? = some (.int .i64 n)
  count : C[32]? = some (.int .i64 (l.length : Int))
  le : l.length ≤ 8
  at_ : ∀ (i : Nat) (v : Sm) (j : Nat) (z : Int), l[i]? = some v → v.row[j]? = some z → C[i * 4 + j]? = some (.int .i64 z)
def FilAt (w : World) (b : Nat) (l : List Sm) : Prop := ∃ C, w.heap[b]? = some (.cells C.toArray 46 (0, 0)) ∧ Fil C l
section
variable {w w' : World} {b : Nat} {l : List Sm}
theorem FilAt.lt (h : FilAt w b l) : b < w.heap.size := by
  obtain ⟨C, hb, _⟩ := h
  exact (Array.getElem?_eq_some_iff.1 hb).1
theorem FilAt.next (h : FilAt w b l) (hb : Below w.heap.size w w') : FilAt w' b l := by
  have hlt := h.lt
  obtain ⟨C, hC, hF⟩ := h
  exact ⟨C, (hb.block b hlt).trans hC, hF⟩
theorem FilAt.count (h : FilAt w b l) : w.cell? ⟨b, 32, none⟩ = some (.int .i64 (l.length : Int)) := by
  obtain ⟨C, hC, hF⟩ := h
  rw [cell_of_row w b 32 _ _ _ hC]
  simpa using hF.count
theorem FilAt.le (h : FilAt w b l) : l.length ≤ 8 := by
  obtain ⟨C, hC, hF⟩ := h
  exact hF.le
theorem FilAt.int (h : FilAt w b l) {i : Nat} (hi : i < 33) : ∃ n : Int, w.cell? ⟨b, i, none⟩ = some (.int .i64 n) := by
  obtain ⟨C, hC, hF⟩ := h
  obtain ⟨n, hn⟩ := hF.ints i hi
  exact ⟨n, by rw [cell_of_row w b i _ _ _ hC]; simpa using hn⟩
theorem FilAt.at_ (h : FilAt w b l) {i : Nat} {v : Sm} (hi : l[i]? = some v) : w.cell? ⟨b, i * 4, none⟩ = some (.int .i64 v.off) ∧ w.cell? ⟨b, i * 4 + 1, none⟩ = some (.int .i64 v.delay) ∧ w.cell? ⟨b, i * 4 + 2, none⟩ = some (.int .i64 v.disp) ∧ w.cell? ⟨b, i * 4 + 3, none⟩ = some (.int .i64 v.at_) := by
  obtain ⟨C, hC, hF⟩ := h
  have g := fun j z hz => show w.cell? ⟨b, i * 4 + j, none⟩ = some (.int .i64 z) by
    rw [cell_of_row w b _ _ _ _ hC]
    simpa using hF.at_ i v j z hi hz
  exact ⟨g 0 _ rfl, g 1 _ rfl, g 2 _ rfl, g 3 _ rfl⟩
theorem FilAt.thaw (h : FilAt w b l) (i : Nat) : w.frozen? ⟨b, i, none⟩ = false := by
  obtain ⟨C, hC, hF⟩ := h
  simp [World.frozen?, hC]
end
/-- Does a filter of these take this one? -/
def takesV (l : List Sm) (s : Sm) : Bool := s.ok && (match l.getLast? with | none => true | some v => decide (v.at_ < s.at_))
theorem takesV_no {l : List Sm} {s : Sm} (h : s.ok = false) : takesV l s = false := by unfold takesV; rw [h]; rfl
theorem takesV_nil {s : Sm} (h : s.ok = true) : takesV [] s = true := by unfold takesV; rw [h]; rfl
theorem takesV_some {l : List Sm} {s v : Sm} (h : s.ok = true) (hv : l[l.length - 1]? = some v) : takesV l s = decide (v.at_ < s.at_) := by
  unfold takesV
  rw [h, List.getLast?_eq_getElem?, hv]
  rfl
theorem sampleOk_decF {s : Sm} {b : Bool} (h : s.ok = b) (W : World) {ao an au : Addr} (L : Ld W ao an au) : Calls Tryd.prog 39 #[.agg #[.int .i64 s.off, .int .i64 s.delay, .int .i64 s.disp, .int .i64 s.at_]] W fun e w' => e = .returned (.bool b) ∧ Below W.heap.size W w' := h ▸ sampleOk_impl s W L

set_option maxRecDepth 100000 in
set_option maxHeartbeats 2000000 in
theorem takes_c (l : List Sm) (s : Sm) (b : Nat) (w : World) (h : FilAt w b l) {ao an au : Addr} (L : Ld w ao an au) :
    Calls Tryd.prog 30 #[.pointer (some ⟨b, 0, none⟩), .agg #[.int .i64 s.off, .int .i64 s.delay, .int .i64 s.disp, .int .i64 s.at_]] w fun e w' => e = .returned (.bool (takesV l s)) ∧ Below w.heap.size w w' := by
  have Q0 := blk_new w (.cells #[.int .i64 s.off, .int .i64 s.delay, .int .i64 s.disp, .int .i64 s.at_] 26)
  have B0 : Below w.heap.size w (w.alloc (.cells #[.int .i64 s.off, .int .i64 s.delay, .int .i64 s.disp, .int .i64 s.at_] 26)) := below_new _ _
  have L0 := L.next B0
  have h0 := h.next B0
  obtain ⟨W, hW⟩ : ∃ W, w.alloc (.cells #[.int .i64 s.off, .int .i64 s.delay, .int .i64 s.disp, .int .i64 s.at_] 26) = W := ⟨_, rfl⟩
  obtain ⟨c0, c1, c2, c3⟩ := sample_cells Q0
  rw [hW] at c0 c1 c2 c3 L0 h0 B0
  have kx0 := cell_regrown c0
  have kx1 := cell_regrown c1
  have kx2 := cell_regrown c2
  have kx3 := cell_regrown c3
  have kc := cell_regrown h0.count
  cases hs : s.ok with
  | false =>
    have KS := Lib.hid (fun d os => Calls.regrown_of (sampleOk_decF hs (grow (redrawn W d) os) (L0.next (below_regrown W d os))))
    rw [takesV_no hs]
    clear hs c0 c1 c2 c3 Q0
    go_enter Tryd.func30, Tryd.ntmps30
    go_wp2_with fail
    refine wp_region_quiet_below (by kernel_rfl) (by kernel_rfl) ?_
    repeat ((with_reducible refine wpQuiet_step (fun K hK => ?_)); go_simp; first | ((with_reducible refine hK _ ?_); clear hK K) | (rw [if_neg (by intro h; exact nomatch h)]; (with_reducible refine hK _ ?_); clear hK K) | (apply Exists.intro; (with_reducible refine ⟨fun _ => ?_, hK _ ?_⟩); (first | with_reducible exact KS.out _ _); clear hK K))
    with_reducible refine wpQuiet_nil ?_
    intro _ hw'
    obtain ⟨⟨dq1, osq1⟩, hw''⟩ := hw'
    subst hw''
    have g1 := below_regrown W dq1 osq1
    generalize hW1 : grow (redrawn W dq1) osq1 = W1 at *
    clear hW1 kx0 kx1 kx2 kx3 kc KS
    go_wp2_with fail
    go_returns
    exact ⟨rfl, grow_next B0 g1⟩
  | true =>
    have KS := Lib.hid (fun d os => Calls.regrown_of (sampleOk_decF hs (grow (redrawn W d) os) (L0.next (below_regrown W d os))))
    rcases Nat.eq_zero_or_pos l.length with hl | hl
    · have e : l = [] := List.eq_nil_of_length_eq_zero hl
      subst e
      rw [takesV_nil hs]
      have kc' : ∀ d os, (grow (redrawn W d) os).cell? ⟨b, 32, none⟩ = some (.int .i64 0) := kc
      clear hs c0 c1 c2 c3 Q0 kc
      go_enter Tryd.func30, Tryd.ntmps30
      go_wp2_with fail
      refine wp_region_quiet_below (by kernel_rfl) (by kernel_rfl) ?_
      repeat ((with_reducible refine wpQuiet_step (fun K hK => ?_)); go_simp; first | ((with_reducible refine hK _ ?_); clear hK K) | (rw [if_neg (by intro h; exact nomatch h)]; (with_reducible refine hK _ ?_); clear hK K) | (apply Exists.intro; (with_reducible refine ⟨fun _ => ?_, hK _ ?_⟩); (first | with_reducible exact KS.out _ _); clear hK K))
      with_reducible refine wpQuiet_nil ?_
      intro _ hw'
      obtain ⟨⟨dq1, osq1⟩, hw''⟩ := hw'
      subst hw''
      have g1 := below_regrown W dq1 osq1
      generalize hW1 : grow (redrawn W dq1) osq1 = W1 at *
      clear hW1 kx0 kx1 kx2 kx3 kc' KS
      go_wp2_with fail
      go_returns
      exact ⟨rfl, grow_next B0 g1⟩
    · obtain ⟨v, hv⟩ : ∃ v, l[l.length - 1]? = some v := ⟨l[l.length - 1]'(by omega), List.getElem?_eq_getElem (by omega)⟩
      rw [takesV_some hs hv]
      have hle := h.le
      have kv := cell_regrown (h0.at_ hv).2.2.2
      obtain ⟨k, hk⟩ : ∃ k, l.length = k := ⟨_, rfl⟩
      rw [hk] at hl hle kv kc
      have hki : ((k - 1 : Nat) : Int) = (k : Int) - 1 := by omega
      have hk1 : IntKind.i64.wrap ((k : Int) - 1) = ((k - 1 : Nat) : Int) := by rw [hki]; exact IntWalk.i64_in _ (by omega)
      have hk2 : ((k : Int) == 0) = false := by simpa using (show ¬ k = 0 by omega)
      have hk3 : k - 1 < 8 := by omega
      have hk4 : ((k - 1 : Nat) : Int) < 8 := by omega
      clear hs c0 c1 c2 c3 Q0 hv hki hk
      cases hd : decide (v.at_ < s.at_)
      all_goals
        go_enter Tryd.func30, Tryd.ntmps30
        go_wp2_with fail
        refine wp_region_quiet_below (by kernel_rfl) (by kernel_rfl) ?_
        repeat ((with_reducible refine wpQuiet_step (fun K hK => ?_)); go_simp; first | ((with_reducible refine hK _ ?_); clear hK K) | (rw [if_neg (by intro h; exact nomatch h)]; (with_reducible refine hK _ ?_); clear hK K) | (apply Exists.intro; (with_reducible refine ⟨fun _ => ?_, hK _ ?_⟩); (first | with_reducible exact KS.out _ _); clear hK K))
        with_reducible refine wpQuiet_nil ?_
        intro _ hw'
        obtain ⟨⟨dq1, osq1⟩, hw''⟩ := hw'
        subst hw''
        have g1 := below_regrown W dq1 osq1
        generalize hW1 : grow (redrawn W dq1) osq1 = W1 at *
        clear hW1 kx0 kx1 kx2 kx3 kc kv KS
        go_wp2_with fail
        go_returns
        exact ⟨rfl, grow_next B0 g1⟩
end Go.Proofs.YthgamidodkkpbaaDoor
