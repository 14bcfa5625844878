/- The interval that a sample tells: the program's way and the reference's. -/
import Derived.Test.YtohcebiepekbeaaGreatDoorIv
import Derived.Test.YtohcebiepekbeaaGreatDoorReachC
import Derived.Deep.RegionWith
import Derived.Deep.RegionHeld3
import Derived.IntWalk
namespace Go.Proofs.YtohcebiepekbeaaGreatDoor
open Go.ChangeShapes Go.WideShapes Go.ChangeAt Go.RowKit
set_option linter.unusedVariables false
set_option linter.unusedSimpArgs false

def ivOf (s : Sm) : Iv := ⟨s.off - ((s.delay + 1) / 2 + s.disp), s.off + ((s.delay + 1) / 2 + s.disp)⟩
def ivV (s : Sm) : Iv := if s.ok then ivOf s else ⟨0, 0⟩
theorem ivV_yes {s : Sm} (h : s.ok = true) : ivV s = ivOf s := by unfold ivV; rw [h]; rfl
theorem ivV_no {s : Sm} (h : s.ok = false) : ivV s = ⟨0, 0⟩ := by unfold ivV; rw [h]; rfl
theorem ivOf_ok {s : Sm} (h : s.ok = true) : (ivOf s).ok = true := by
  obtain ⟨⟨a0, a1⟩, ⟨b0, b1⟩, ⟨c0, c1⟩, ⟨d0, d1⟩⟩ := Sm.ok_iff.1 h
  rw [Iv.ok_iff]
  simp only [ivOf]
  omega
theorem reach_held {s : Sm} (h : s.ok = true) : ∃ r : Int, r = (s.delay + 1) / 2 + s.disp ∧ 0 ≤ r ∧ r ≤ 1000000000000 := by
  obtain ⟨⟨a0, a1⟩, ⟨b0, b1⟩, ⟨c0, c1⟩, ⟨d0, d1⟩⟩ := Sm.ok_iff.1 h
  exact ⟨_, rfl, by omega, by omega⟩

theorem intervalOf_impl (s : Sm) (W : World) {ao an au : Addr} (L : Ld W ao an au) :
    Calls Tryz.prog 23 #[.agg #[.int .i64 s.off, .int .i64 s.delay, .int .i64 s.disp, .int .i64 s.at_]] W fun e w' => e = .returned (.tuple #[.agg #[.int .i64 (ivV s).lo, .int .i64 (ivV s).hi], .bool s.ok]) ∧ Below W.heap.size W w' := by
  have Q := blk_alloc (blk_new W (.cells #[.int .i64 s.off, .int .i64 s.delay, .int .i64 s.disp, .int .i64 s.at_] 23)) (.cells #[.int .i64 0, .int .i64 0] 45)
  have R := blk_new (W.alloc (.cells #[.int .i64 s.off, .int .i64 s.delay, .int .i64 s.disp, .int .i64 s.at_] 23)) (.cells #[.int .i64 0, .int .i64 0] 45)
  simp only [World.size_alloc] at R
  have g0 : Below W.heap.size W ((W.alloc (.cells #[.int .i64 s.off, .int .i64 s.delay, .int .i64 s.disp, .int .i64 s.at_] 23)).alloc (.cells #[.int .i64 0, .int .i64 0] 45)) := by go_grown
  cases hs : s.ok with
  | false =>
    rw [ivV_no hs]
    have HS := Lib.hid (sampleOk_decI hs _ (L.next g0))
    clear hs
    go_enter Tryz.func23, Tryz.ntmps23
    go_wp2_with fail
    refine (HS.out).mono ?_
    rintro e w1 ⟨rfl, hb1⟩
    have R1 := blk_next hb1 R
    have g1 := grow_next g0 hb1
    obtain ⟨z0, z1⟩ := iv_cells (q := ⟨0, 0⟩) R1
    obtain ⟨y0, y1⟩ := iv_thaw (q := ⟨0, 0⟩) R1
    have K := iv_put (q := ⟨0, 0⟩) R1 ⟨0, 0⟩
    obtain ⟨q0, q1⟩ := iv_cells K
    have G : Below W.heap.size W ((w1.setCell ⟨W.heap.size + 1, 0, none⟩ (.int .i64 0)).setCell ⟨W.heap.size + 1, 1, none⟩ (.int .i64 0)) := by
      repeat (refine below_put ?_ (by omega) _ _)
      exact g1
    clear K
    dsimp only at z0 z1 q0 q1
    go_wp2_with fail
    refine bodyPost_ret (by simp [results, Tryz.results23, go_sem, q0, q1]; try rfl) rfl ?_
    exact ⟨rfl, G⟩
  | true =>
    rw [ivV_yes hs]
    obtain ⟨⟨a0, a1⟩, ⟨b0, b1⟩, ⟨c0, c1⟩, ⟨d0, d1⟩⟩ := Sm.ok_iff.1 hs
    obtain ⟨r, hr, r0, r1⟩ := reach_held hs
    have hv := (reachV_bounds s hs).1
    rw [← hr] at hv
    have hI := fun W {ao an au} L => @reach_impl s W ao an au L
    rw [hv] at hI
    have e : ivOf s = ⟨s.off - r, s.off + r⟩ := by rw [hr]; rfl
    rw [e]
    have HS := Lib.hid (sampleOk_decI hs _ (L.next g0))
    have HI := Lib.hid (fun W {ao an au} L => @hI W ao an au L)
    clear hs hI hv hr e
    go_enter Tryz.func23, Tryz.ntmps23
    go_wp2_with fail
    refine (HS.out).mono ?_
    rintro e w1 ⟨rfl, hb1⟩
    have R1 := blk_next hb1 R
    have Q1 := blk_next hb1 Q
    have g1 := grow_next g0 hb1
    obtain ⟨x0, x1, x2, x3⟩ := sample_cells Q1
    go_wp2_with fail
    refine (HI.out _ (L.next g1)).mono ?_
    rintro e w2 ⟨rfl, hb2⟩
    have R2 := blk_next hb2 R1
    have Q2 := blk_next hb2 Q1
    have g2 := grow_next g1 hb2
    clear x0 x1 x2 x3 Q1 R1
    obtain ⟨x0, x1, x2, x3⟩ := sample_cells Q2
    obtain ⟨z0, z1⟩ := iv_cells (q := ⟨0, 0⟩) R2
    obtain ⟨y0, y1⟩ := iv_thaw (q := ⟨0, 0⟩) R2
    have K := iv_put (q := ⟨0, 0⟩) R2 ⟨s.off - r, s.off + r⟩
    obtain ⟨q0, q1⟩ := iv_cells K
    have G : Below W.heap.size W ((w2.setCell ⟨W.heap.size + 1, 0, none⟩ (.int .i64 (s.off - r))).setCell ⟨W.heap.size + 1, 1, none⟩ (.int .i64 (s.off + r))) := by
      repeat (refine below_put ?_ (by omega) _ _)
      exact g2
    clear K
    dsimp only at z0 z1 q0 q1
    go_wp2_with fail
    refine bodyPost_ret (by simp [results, Tryz.results23, go_sem, q0, q1]; try rfl) rfl ?_
    exact ⟨rfl, G⟩

theorem intervalOf_spec (s : Sm) (W : World) :
    Calls Tryz.prog 37 #[.agg #[.int .i64 s.off, .int .i64 s.delay, .int .i64 s.disp, .int .i64 s.at_]] W fun e w' => e = .returned (.tuple #[.agg #[.int .i64 (ivV s).lo, .int .i64 (ivV s).hi], .bool s.ok]) ∧ Below W.heap.size W w' := by
  have Q := blk_alloc (blk_new W (.cells #[.int .i64 s.off, .int .i64 s.delay, .int .i64 s.disp, .int .i64 s.at_] 23)) (.cells #[.int .i64 0, .int .i64 0] 45)
  have R := blk_new (W.alloc (.cells #[.int .i64 s.off, .int .i64 s.delay, .int .i64 s.disp, .int .i64 s.at_] 23)) (.cells #[.int .i64 0, .int .i64 0] 45)
  simp only [World.size_alloc] at R
  have g0 : Below W.heap.size W ((W.alloc (.cells #[.int .i64 s.off, .int .i64 s.delay, .int .i64 s.disp, .int .i64 s.at_] 23)).alloc (.cells #[.int .i64 0, .int .i64 0] 45)) := by go_grown
  cases hs : s.ok with
  | false =>
    rw [ivV_no hs]
    have HS := Lib.hid (fun w => sampleOk_dec hs w)
    clear hs
    go_enter Tryz.func37, Tryz.ntmps37
    go_wp2_with fail
    refine (HS.out _).mono ?_
    rintro e w1 ⟨rfl, hb1⟩
    have R1 := blk_next hb1 R
    have g1 := grow_next g0 hb1
    obtain ⟨z0, z1⟩ := iv_cells (q := ⟨0, 0⟩) R1
    obtain ⟨y0, y1⟩ := iv_thaw (q := ⟨0, 0⟩) R1
    have K := iv_put (q := ⟨0, 0⟩) R1 ⟨0, 0⟩
    obtain ⟨q0, q1⟩ := iv_cells K
    have G : Below W.heap.size W ((w1.setCell ⟨W.heap.size + 1, 0, none⟩ (.int .i64 0)).setCell ⟨W.heap.size + 1, 1, none⟩ (.int .i64 0)) := by
      repeat (refine below_put ?_ (by omega) _ _)
      exact g1
    clear K
    dsimp only at z0 z1 q0 q1
    go_wp2_with fail
    refine bodyPost_ret (by simp [results, Tryz.results37, go_sem, q0, q1]; try rfl) rfl ?_
    exact ⟨rfl, G⟩
  | true =>
    rw [ivV_yes hs]
    obtain ⟨⟨a0, a1⟩, ⟨b0, b1⟩, ⟨c0, c1⟩, ⟨d0, d1⟩⟩ := Sm.ok_iff.1 hs
    obtain ⟨r, hr, r0, r1⟩ := reach_held hs
    have hS := fun W => l3Reach_c s hs W
    rw [← hr] at hS
    have e : ivOf s = ⟨s.off - r, s.off + r⟩ := by rw [hr]; rfl
    rw [e]
    have HS := Lib.hid (fun w => sampleOk_dec hs w)
    have HR := Lib.hid hS
    clear hs hS hr e
    have e1 : IntKind.i64.wrap (s.off - r) = s.off - r := IntWalk.i64_in _ (by omega)
    have e2 : IntKind.i64.wrap (s.off + r) = s.off + r := IntWalk.i64_in _ (by omega)
    go_enter Tryz.func37, Tryz.ntmps37
    go_wp2_with fail
    refine (HS.out _).mono ?_
    rintro e w1 ⟨rfl, hb1⟩
    have R1 := blk_next hb1 R
    have Q1 := blk_next hb1 Q
    have g1 := grow_next g0 hb1
    obtain ⟨x0, x1, x2, x3⟩ := sample_cells Q1
    obtain ⟨z0, z1⟩ := iv_cells (q := ⟨0, 0⟩) R1
    obtain ⟨y0, y1⟩ := iv_thaw (q := ⟨0, 0⟩) R1
    dsimp only at z0 z1
    go_wp2_with fail
    go_region_held3 (fun w' => (w'.cell? ⟨W.heap.size, 0, none⟩ = some (.int .i64 s.off) ∧ w'.cell? ⟨W.heap.size, 1, none⟩ = some (.int .i64 s.delay) ∧ w'.cell? ⟨W.heap.size, 2, none⟩ = some (.int .i64 s.disp) ∧ w'.cell? ⟨W.heap.size, 3, none⟩ = some (.int .i64 s.at_))) (first | exact sample_cells (by assumption) | exact sample_cells (iv_other (by assumption) (by omega) _ _))
      ((go_at_call 69; refine (HR.out _).mono ?_; rintro e wn ⟨rfl, hbn⟩; have A := blk_next hbn (b := W.heap.size) (o := .cells #[.int .i64 s.off, .int .i64 s.delay, .int .i64 s.disp, .int .i64 s.at_] 23) (by assumption); have B := blk_next hbn (b := W.heap.size + 1) (o := .cells #[.int .i64 0, .int .i64 0] 45) (by assumption); have G : Below W.heap.size W wn := grow_next (by first | assumption | exact Below.drew (by assumption)) hbn; have C := iv_cells (q := ⟨0, 0⟩) B; have F := iv_thaw (q := ⟨0, 0⟩) B; dsimp only at C))
    have K := iv_put (q := ⟨0, 0⟩) B ⟨s.off - r, s.off + r⟩
    obtain ⟨q0, q1⟩ := iv_cells K
    have G' : Below W.heap.size W ((wn.setCell ⟨W.heap.size + 1, 0, none⟩ (.int .i64 (s.off - r))).setCell ⟨W.heap.size + 1, 1, none⟩ (.int .i64 (s.off + r))) := by
      repeat (refine below_put ?_ (by omega) _ _)
      exact G
    clear K C F A B
    dsimp only at q0 q1
    go_wp2_with fail
    refine bodyPost_ret (by simp [results, Tryz.results37, go_sem, q0, q1]; try rfl) rfl ?_
    exact ⟨rfl, G'⟩
end Go.Proofs.YtohcebiepekbeaaGreatDoor
