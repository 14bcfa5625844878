/- The reference's new score of who comes. -/
import Derived.Test.YtckonbbdeohccaaCameI
namespace Go.Proofs.Ytckonbbdeohccaa
open Go.ChangeShapes Go.WideShapes Go.ChangeAt Go.RowKit Go.Maps
set_option linter.unusedVariables false
set_option linter.unusedSimpArgs false
set_option maxRecDepth 100000

theorem three_cellsC {W : World} {b : Nat} {x0 x1 x2 : Value} {T : TypeId} (e : W.heap[b]? = some (.cells #[x0, x1, x2] T)) : (W.cell? ⟨b, 0, none⟩ = some x0 ∧ W.cell? ⟨b, 1, none⟩ = some x1 ∧ W.cell? ⟨b, 2, none⟩ = some x2) ∧ W.frozen? ⟨b, 0, none⟩ = false ∧ W.frozen? ⟨b, 1, none⟩ = false ∧ W.frozen? ⟨b, 2, none⟩ = false := by simp [World.cell?, World.frozen?, e]
/-- Who came: the client then. -/
def newC (c : Cl) (now : Int) : Cl := ⟨c.id, now, min (leftC c now + 4) 20⟩
def refC (c : Cl) (now : Int) : Int := if 20 < leftC c now + 4 then 1 else 0
set_option maxHeartbeats 4000000 in
theorem l9Came_c (c : Cl) (b0 : 0 ≤ c.last) (b1 : c.last ≤ 1000000000) (s0 : 0 ≤ c.score) (s1 : c.score ≤ 20) (now : Int) (h0 : 0 ≤ now) (h1 : now ≤ 1000000000) (w : World) :
    Calls Try.prog 38 #[.agg #[.int .i64 c.id, .int .i64 c.last, .int .i64 c.score], .int .i64 now] w fun e w' => e = .returned (.tuple #[.agg #[.int .i64 (newC c now).id, .int .i64 (newC c now).last, .int .i64 (newC c now).score], .int .i64 (refC c now)]) ∧ Below w.heap.size w w' := by
  have Z0 := blk_alloc (blk_new w (.cells #[.int .i64 c.id, .int .i64 c.last, .int .i64 c.score] 52)) (.cells #[.int .i64 0, .int .i64 0, .int .i64 0] 52)
  have Z1 := blk_new (w.alloc (.cells #[.int .i64 c.id, .int .i64 c.last, .int .i64 c.score] 52)) (.cells #[.int .i64 0, .int .i64 0, .int .i64 0] 52)
  simp only [World.size_alloc] at Z1
  have B0 : Below w.heap.size w ((w.alloc (.cells #[.int .i64 c.id, .int .i64 c.last, .int .i64 c.score] 52)).alloc (.cells #[.int .i64 0, .int .i64 0, .int .i64 0] 52)) := by go_grown
  obtain ⟨i, hi⟩ : ∃ i, c.id = i := ⟨_, rfl⟩
  obtain ⟨t, ht⟩ : ∃ t, c.last = t := ⟨_, rfl⟩
  obtain ⟨s, hs⟩ : ∃ s, c.score = s := ⟨_, rfl⟩
  have HL : Hid (leftC c now = max (s - (now - t)) 0) := Lib.hid (by unfold leftC; rw [ht, hs])
  have HN : Hid (newC c now = ⟨i, now, min (leftC c now + 4) 20⟩) := Lib.hid (by unfold newC; rw [hi])
  have HR : Hid (refC c now = if 20 < leftC c now + 4 then 1 else 0) := Lib.hid rfl
  rw [hi, ht, hs] at Z0
  rw [hi, ht, hs] at Z1 B0
  rw [ht] at b0 b1
  rw [hs] at s0 s1
  rw [hi, ht, hs]
  clear hi ht hs
  obtain ⟨d, hd⟩ : ∃ d, max (s - (now - t)) 0 = d := ⟨_, rfl⟩
  rw [hd] at HL
  have d0 : 0 ≤ d := by omega
  have d1 : d ≤ 1000000020 := by omega
  have e1 : IntKind.i64.wrap (now - t) = now - t := IntWalk.i64_in _ (by omega)
  have e2 : IntKind.i64.wrap (s - (now - t)) = s - (now - t) := IntWalk.i64_in _ (by omega)
  have e3 : IntKind.i64.wrap (d + 4) = d + 4 := IntWalk.i64_in _ (by omega)
  have hmx : ∀ W ty, (Builtin.max_ #[2, 2] ty #[.int .i64 0, .int .i64 (s - (now - t))]).run Try.prog W = .ok (.int .i64 d) W := fun W ty => by
    by_cases hn : (0 : Int) < s - (now - t)
    · have e : d = s - (now - t) := by omega
      have hn2 : ¬ s - (now - t) < 0 := by omega
      simp [Builtin.max_, Builtin.max2, go_sem, hn, hn2, e]
      intro h; omega
    · have e : d = 0 := by omega
      simp [Builtin.max_, Builtin.max2, go_sem, hn, e]
      intro h; omega
  go_enter Try.func38, Try.ntmps38
  go_upto_region 1 with fail
  generalize (w.alloc (.cells #[.int .i64 i, .int .i64 t, .int .i64 s] 52)).alloc (.cells #[.int .i64 0, .int .i64 0, .int .i64 0] 52) = W at *
  obtain ⟨⟨x0, x1, x2⟩, f0, f1, f2⟩ := three_cellsC Z0
  go_upto_region 2 with fail
  have V1 := heap_set Z0 2 (.int .i64 (d + 4))
  have B1 := below_setCell B0 (b := w.heap.size) (Nat.le_refl _) 2 (.int .i64 (d + 4))
  have Y1 := blk_other Z1 (b' := w.heap.size) (by omega) 2 (.int .i64 (d + 4))
  generalize W.setCell ⟨w.heap.size, 2, none⟩ (.int .i64 (d + 4)) = W1 at V1 B1 Y1 ⊢
  clear x0 x1 x2 f0 f1 f2 hmx
  obtain ⟨⟨x0, x1, x2⟩, f0, f1, f2⟩ := three_cellsC V1
  go_upto_region 3 with fail
  have V2 := heap_set V1 1 (.int .i64 now)
  have B2 := below_setCell B1 (b := w.heap.size) (Nat.le_refl _) 1 (.int .i64 now)
  have Y2 := blk_other Y1 (b' := w.heap.size) (by omega) 1 (.int .i64 now)
  generalize W1.setCell ⟨w.heap.size, 1, none⟩ (.int .i64 now) = W2 at V2 B2 Y2 ⊢
  clear x0 x1 x2 f0 f1 f2
  obtain ⟨⟨x0, x1, x2⟩, f0, f1, f2⟩ := three_cellsC V2
  by_cases h20 : 20 < d + 4
  · have HV : Hid (newC c now = ⟨i, now, 20⟩ ∧ refC c now = 1) := Lib.hid ⟨by rw [HN.out, HL.out, show min (d + 4) 20 = 20 by omega], by rw [HR.out, HL.out, if_pos h20]⟩
    have hd2 := decide_eq_true h20
    clear HN HR HL
    go_upto_region 5 with fail
    have V3 := heap_set V2 2 (.int .i64 20)
    have B3 := below_setCell B2 (b := w.heap.size) (Nat.le_refl _) 2 (.int .i64 20)
    have Y3 := blk_other Y2 (b' := w.heap.size) (by omega) 2 (.int .i64 20)
    generalize W2.setCell ⟨w.heap.size, 2, none⟩ (.int .i64 20) = W3 at V3 B3 Y3 ⊢
    clear x0 x1 x2 f0 f1 f2
    obtain ⟨⟨x0, x1, x2⟩, f0, f1, f2⟩ := three_cellsC V3
    obtain ⟨⟨y0, y1, y2⟩, k0, k1, k2⟩ := three_cellsC Y3
    have P := heap_set (heap_set (heap_set Y3 0 (.int .i64 i)) 1 (.int .i64 now)) 2 (.int .i64 20)
    have G := below_setCell (below_setCell (below_setCell B3 (b := w.heap.size + 1) (by omega) 0 (.int .i64 i)) (b := w.heap.size + 1) (by omega) 1 (.int .i64 now)) (b := w.heap.size + 1) (by omega) 2 (.int .i64 20)
    go_wp2_with fail
    obtain ⟨⟨q0, q1, q2⟩, _⟩ := three_cellsC P
    try simp only [Exit.inBlock, Exit.then]
    refine bodyPost_ret (by simp [results, Try.results38, go_sem, q0, q1, q2]; try rfl) rfl ?_
    exact ⟨by rw [HV.out.1, HV.out.2], G⟩
  · have HV : Hid (newC c now = ⟨i, now, d + 4⟩ ∧ refC c now = 0) := Lib.hid ⟨by rw [HN.out, HL.out, show min (d + 4) 20 = d + 4 by omega], by rw [HR.out, HL.out, if_neg h20]⟩
    have hd2 := decide_eq_false h20
    clear HN HR HL
    obtain ⟨⟨y0, y1, y2⟩, k0, k1, k2⟩ := three_cellsC Y2
    have P := heap_set (heap_set (heap_set Y2 0 (.int .i64 i)) 1 (.int .i64 now)) 2 (.int .i64 (d + 4))
    have G := below_setCell (below_setCell (below_setCell B2 (b := w.heap.size + 1) (by omega) 0 (.int .i64 i)) (b := w.heap.size + 1) (by omega) 1 (.int .i64 now)) (b := w.heap.size + 1) (by omega) 2 (.int .i64 (d + 4))
    go_wp2_with fail
    obtain ⟨⟨q0, q1, q2⟩, _⟩ := three_cellsC P
    try simp only [Exit.inBlock, Exit.then]
    refine bodyPost_ret (by simp [results, Try.results38, go_sem, q0, q1, q2]; try rfl) rfl ?_
    exact ⟨by rw [HV.out.1, HV.out.2], G⟩
end Go.Proofs.Ytckonbbdeohccaa
