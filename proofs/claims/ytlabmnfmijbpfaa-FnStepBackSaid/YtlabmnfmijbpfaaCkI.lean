/- The program's Adjusted and Slewed by a clock's numbers. -/
import Derived.Test.YtlabmnfmijbpfaaCkOk
import Derived.Deep.RegionWith
import Derived.Deep.RegionHeld3
import Derived.Lib.Hide
import Derived.IntWalk
import Derived.Deep.Cut
namespace Go.Proofs.Ytlabmnfmijbpfaa
open Go.ChangeShapes Go.WideShapes Go.ChangeAt Go.RowKit
set_option linter.unusedVariables false
set_option linter.unusedSimpArgs false

theorem ret_ck {x0 x1 x2 x3 x4 : Int} {b : Ck} (h : (⟨x0, x1, x2, x3, x4⟩ : Ck) = b) : Ending.returned (.agg #[.int .i64 x0, .int .i64 x1, .int .i64 x2, .int .i64 x3, .int .i64 x4]) = .returned (.agg #[.int .i64 b.st, .int .i64 b.off, .int .i64 b.fr, .int .i64 b.poll, .int .i64 b.calm]) := by
  rw [← h]

def calmedV (c : Ck) : Ck := if c.calm < 3 then ⟨c.st, c.off, c.fr, c.poll, c.calm + 1⟩ else ⟨c.st, c.off, c.fr, min (c.poll + 1) 10, 0⟩

theorem calmed_c (c : Ck) (h : c.ok = true) (w : World) :
    Calls Try.prog 42 #[.agg #[.int .i64 c.st, .int .i64 c.off, .int .i64 c.fr, .int .i64 c.poll, .int .i64 c.calm]] w fun e w' => e = .returned (.agg #[.int .i64 (calmedV c).st, .int .i64 (calmedV c).off, .int .i64 (calmedV c).fr, .int .i64 (calmedV c).poll, .int .i64 (calmedV c).calm]) ∧ Below w.heap.size w w' := by
  obtain ⟨_, _, _, ⟨p0, p1⟩, ⟨a0, a1⟩⟩ := Ck.ok_iff.1 h
  clear h
  by_cases hc : c.calm < 3
  · have e : calmedV c = ⟨c.st, c.off, c.fr, c.poll, c.calm + 1⟩ := by unfold calmedV; rw [if_pos hc]
    rw [e]
    clear e
    go_enter Try.func42, Try.ntmps42
    go_wp2
    go_returns
    exact ⟨rfl, by go_grown⟩
  · have e : (⟨c.st, c.off, c.fr, min (c.poll + 1) 10, 0⟩ : Ck) = calmedV c := by unfold calmedV; rw [if_neg hc]
    have E := Lib.hid e
    clear e
    go_enter Try.func42, Try.ntmps42
    go_wp2
    all_goals
      go_returns
      exact ⟨ret_ck (by rw [← E.out]; exact Ck.same rfl rfl rfl (by dsimp only; omega) rfl), by go_grown⟩

theorem stepped_c (c : Ck) (o : Int) (w : World) :
    Calls Try.prog 43 #[.agg #[.int .i64 c.st, .int .i64 c.off, .int .i64 c.fr, .int .i64 c.poll, .int .i64 c.calm], .int .i64 o] w fun e w' => e = .returned (.tuple #[.agg #[.int .i64 1, .int .i64 0, .int .i64 c.fr, .int .i64 4, .int .i64 0], .int .i64 o]) ∧ Below w.heap.size w w' := by
  go_enter Try.func43, Try.ntmps43
  go_wp2
  go_returns
  exact ⟨rfl, by go_grown⟩

theorem spiked_c (c : Ck) (o : Int) (w : World) :
    Calls Try.prog 44 #[.agg #[.int .i64 c.st, .int .i64 c.off, .int .i64 c.fr, .int .i64 c.poll, .int .i64 c.calm], .int .i64 o] w fun e w' => e = .returned (.tuple #[.agg #[.int .i64 2, .int .i64 c.off, .int .i64 c.fr, .int .i64 c.poll, .int .i64 c.calm], .int .i64 0]) ∧ Below w.heap.size w w' := by
  go_enter Try.func44, Try.ntmps44
  go_wp2
  go_returns
  exact ⟨rfl, by go_grown⟩

theorem run_store_func (P : Program) (w : World) (a : Addr) (m : Mode) (f : Fn) (xs ys : Array Value) : (store a (.func f xs ys) m).run P w = stored P w a (.func f xs ys) m := run_store P w a _ m rfl
attribute [local go_sem] run_store_func

theorem whenGreat_c (w : World) :
    Calls Try.prog 34 #[] w fun e w' => e = .returned (.agg #[.func (.func 43) #[] #[], .func (.func 44) #[] #[], .func (.func 43) #[] #[]]) ∧ Below w.heap.size w w' := by
  go_enter Try.func34, Try.ntmps34
  go_wp2
  refine bodyPost_ret (by simp [results, Try.results34, go_sem]; try rfl) rfl ?_
  exact ⟨rfl, by go_grown⟩

theorem unB_dec {n b : Int} {r : Bool} (h0 : 0 ≤ b) (h1 : b ≤ 4611686018427387904) (h : unB n b = r) (w : World) :
    Calls Try.prog 32 #[.int .i64 n, .int .i64 b] w fun e w' => e = .returned (.bool r) ∧ w = w' := h ▸ isUnder_c n b h0 h1 w

/-- Poll and Calm, the program's way. -/
theorem polled_of (c : Ck) (o : Int) : (unB o 10000 = false ∧ polled c o = ⟨c.st, c.off, c.fr, max (c.poll - 1) 4, 0⟩) ∨ (unB o 10000 = true ∧ unB o 1000 = true ∧ polled c o = calmedV c) ∨ (unB o 10000 = true ∧ unB o 1000 = false ∧ polled c o = c) := by
  unfold polled calmedV
  cases h : unB o 10000 with
  | false => exact .inl ⟨rfl, by simp⟩
  | true =>
    cases h2 : unB o 1000 with
    | true => exact .inr (.inl ⟨rfl, rfl, by simp⟩)
    | false => exact .inr (.inr ⟨rfl, rfl, by simp⟩)

set_option maxHeartbeats 1000000 in
theorem followed_c (c : Ck) (h : c.ok = true) (o g : Int) (ho : unB o 128000 = true) (g0 : 1 ≤ g) (g1 : g ≤ 100000) (w : World) :
    Calls Try.prog 33 #[.agg #[.int .i64 c.st, .int .i64 c.off, .int .i64 c.fr, .int .i64 c.poll, .int .i64 c.calm], .int .i64 o, .int .i64 g] w fun e w' => e = .returned (.agg #[.int .i64 (followedV c o g).st, .int .i64 (followedV c o g).off, .int .i64 (followedV c o g).fr, .int .i64 (followedV c o g).poll, .int .i64 (followedV c o g).calm]) ∧ Below w.heap.size w w' := by
  obtain ⟨o0, o1⟩ := unB_iff.1 ho
  obtain ⟨q0, q1⟩ := tdiv_bounds (a := o) (b := 16 * g) (m := 128000) (by omega) (by omega) (by omega)
  obtain ⟨_, _, ⟨f0, f1⟩, ⟨p0, p1⟩, a0, a1⟩ := Ck.ok_iff.1 h
  obtain ⟨r, hr⟩ : ∃ r, r = clampV (c.fr + Int.tdiv o (16 * g)) 500 := ⟨_, rfl⟩
  have hb := clampV_bounds (c.fr + Int.tdiv o (16 * g)) (show (0 : Int) ≤ 500 by omega)
  rw [← hr] at hb
  have hok : (⟨1, o, r, c.poll, c.calm⟩ : Ck).ok = true := Ck.ok_iff.2 (by dsimp only; omega)
  have hv : followedV c o g = polled ⟨1, o, r, c.poll, c.calm⟩ o := by unfold followedV rateV; rw [← hr]
  rw [hv]
  have hm : IntKind.i64.wrap (16 * g) = 16 * g := IntWalk.i64_in _ (by omega)
  have hq : IntKind.i64.wrap (Int.tdiv o (16 * g)) = Int.tdiv o (16 * g) := IntWalk.i64_in _ (by omega)
  have ha : IntKind.i64.wrap (c.fr + Int.tdiv o (16 * g)) = c.fr + Int.tdiv o (16 * g) := IntWalk.i64_in _ (by omega)
  have hz : ¬ (16 * g = 0) := by omega
  have HH : Hid (∀ w, Calls Try.prog 39 #[.int .i64 (c.fr + Int.tdiv o (16 * g)), .int .i64 500] w fun e w' => e = .returned (.int .i64 r) ∧ w = w') := Lib.hid (fun w => hr ▸ held_c (c.fr + Int.tdiv o (16 * g)) 500 (by omega) (by omega) w)
  obtain ⟨v, hw⟩ : ∃ v, v = polled ⟨1, o, r, c.poll, c.calm⟩ o := ⟨_, rfl⟩
  have hcases := polled_of ⟨1, o, r, c.poll, c.calm⟩ o
  rw [← hw] at hcases ⊢
  clear hr hb hv h ho hw
  rcases hcases with ⟨u1, e⟩ | ⟨u1, u2, e⟩ | ⟨u1, u2, e⟩
  · have E := Lib.hid e.symm
    have H1 := Lib.hid (fun w => unB_dec (by omega) (by omega) u1 w)
    clear e u1
    go_enter Try.func33, Try.ntmps33
    go_wp2_with fail
    go_region_with (go_at_call 39; refine (HH.out _).mono ?_; rintro e w1 ⟨rfl, rfl⟩)
    all_goals
      clear hm hq ha hz
      go_wp2_with (go_at_call 32; refine (H1.out _).mono ?_; rintro e w1 ⟨rfl, rfl⟩)
      all_goals
        go_returns
        exact ⟨ret_ck (by rw [← E.out]; exact Ck.same rfl rfl rfl (by dsimp only; omega) rfl), by go_grown⟩
  · have HC : Hid (∀ w, Calls Try.prog 42 #[.agg #[.int .i64 1, .int .i64 o, .int .i64 r, .int .i64 c.poll, .int .i64 c.calm]] w fun e w' => e = .returned (.agg #[.int .i64 v.st, .int .i64 v.off, .int .i64 v.fr, .int .i64 v.poll, .int .i64 v.calm]) ∧ Below w.heap.size w w') := Lib.hid (fun w => e ▸ calmed_c ⟨1, o, r, c.poll, c.calm⟩ hok w)
    have H1 := Lib.hid (fun w => unB_dec (by omega) (by omega) u1 w)
    have H2 := Lib.hid (fun w => unB_dec (by omega) (by omega) u2 w)
    clear e u1 u2
    go_enter Try.func33, Try.ntmps33
    go_wp2_with fail
    go_region_with (go_at_call 39; refine (HH.out _).mono ?_; rintro e w1 ⟨rfl, rfl⟩)
    all_goals
      clear hm hq ha hz
      go_wp2_with fail
      refine (H1.out _).mono ?_
      rintro e w1 ⟨rfl, rfl⟩
      go_wp2_with fail
      refine (H2.out _).mono ?_
      rintro e w1 ⟨rfl, rfl⟩
      go_wp2_with fail
      refine (HC.out _).mono ?_
      rintro e w1 ⟨rfl, hb'⟩
      have hb := below_drewL hb'
      clear hb'
      have hP := blk_next hb (blk_alloc (blk_new w (.cells #[.int .i64 ((⟨1, o, r, c.poll, c.calm⟩ : Ck)).st, .int .i64 ((⟨1, o, r, c.poll, c.calm⟩ : Ck)).off, .int .i64 ((⟨1, o, r, c.poll, c.calm⟩ : Ck)).fr, .int .i64 ((⟨1, o, r, c.poll, c.calm⟩ : Ck)).poll, .int .i64 ((⟨1, o, r, c.poll, c.calm⟩ : Ck)).calm] 25)) (.cells #[.int .i64 Ck.zero.st, .int .i64 Ck.zero.off, .int .i64 Ck.zero.fr, .int .i64 Ck.zero.poll, .int .i64 Ck.zero.calm] 25))
      have hR := blk_next hb (blk_new (w.alloc (.cells #[.int .i64 ((⟨1, o, r, c.poll, c.calm⟩ : Ck)).st, .int .i64 ((⟨1, o, r, c.poll, c.calm⟩ : Ck)).off, .int .i64 ((⟨1, o, r, c.poll, c.calm⟩ : Ck)).fr, .int .i64 ((⟨1, o, r, c.poll, c.calm⟩ : Ck)).poll, .int .i64 ((⟨1, o, r, c.poll, c.calm⟩ : Ck)).calm] 25)) (.cells #[.int .i64 Ck.zero.st, .int .i64 Ck.zero.off, .int .i64 Ck.zero.fr, .int .i64 Ck.zero.poll, .int .i64 Ck.zero.calm] 25))
      simp only [World.size_alloc] at hR
      obtain ⟨x0, x1, x2, x3, x4⟩ := ck_cells (q := ⟨1, o, r, c.poll, c.calm⟩) hP
      obtain ⟨y0, y1, y2, y3, y4⟩ := ck_thaw (q := ⟨1, o, r, c.poll, c.calm⟩) hP
      obtain ⟨z0, z1, z2, z3, z4⟩ := ck_cells hR
      obtain ⟨t0, t1, t2, t3, t4⟩ := ck_thaw hR
      dsimp only [Ck.zero] at x0 x1 x2 x3 x4 z0 z1 z2 z3 z4
      have G : Below w.heap.size w w1 := grow_next (show Below w.heap.size w ((w.alloc (.cells #[.int .i64 ((⟨1, o, r, c.poll, c.calm⟩ : Ck)).st, .int .i64 ((⟨1, o, r, c.poll, c.calm⟩ : Ck)).off, .int .i64 ((⟨1, o, r, c.poll, c.calm⟩ : Ck)).fr, .int .i64 ((⟨1, o, r, c.poll, c.calm⟩ : Ck)).poll, .int .i64 ((⟨1, o, r, c.poll, c.calm⟩ : Ck)).calm] 25)).alloc (.cells #[.int .i64 Ck.zero.st, .int .i64 Ck.zero.off, .int .i64 Ck.zero.fr, .int .i64 Ck.zero.poll, .int .i64 Ck.zero.calm] 25)) by go_grown) hb
      have HP := Lib.hid hP
      have HR := Lib.hid hR
      have HG := Lib.hid G
      have l1 : w.heap.size + 1 < w1.heap.size := (Array.getElem?_eq_some_iff.1 hR).1
      clear hP hR hb G hok
      go_upto_region 9 with (fail)
      obtain ⟨W2, hW2⟩ : ∃ W2, W2 = (((((w1.setCell ⟨w.heap.size, 0, none⟩ (.int .i64 v.st)).setCell ⟨w.heap.size, 1, none⟩ (.int .i64 v.off)).setCell ⟨w.heap.size, 2, none⟩ (.int .i64 v.fr)).setCell ⟨w.heap.size, 3, none⟩ (.int .i64 v.poll)).setCell ⟨w.heap.size, 4, none⟩ (.int .i64 v.calm)) := ⟨_, rfl⟩
      have hP2 : W2.heap[w.heap.size]? = some (.cells #[.int .i64 v.st, .int .i64 v.off, .int .i64 v.fr, .int .i64 v.poll, .int .i64 v.calm] 25) := by rw [hW2]; exact ck_put (q := ⟨1, o, r, c.poll, c.calm⟩) HP.out v
      have hR2 : W2.heap[w.heap.size + 1]? = some (.cells #[.int .i64 Ck.zero.st, .int .i64 Ck.zero.off, .int .i64 Ck.zero.fr, .int .i64 Ck.zero.poll, .int .i64 Ck.zero.calm] 25) := by rw [hW2]; exact ck_other HR.out (by omega) v
      have G2 : Below w.heap.size w W2 := by
        rw [hW2]
        repeat (refine below_set ?_ (by omega) _ _)
        exact HG.out
      rw [← hW2]
      clear hW2 x0 x1 x2 x3 x4 y0 y1 y2 y3 y4 z0 z1 z2 z3 z4 t0 t1 t2 t3 t4 HP HR HG l1
      obtain ⟨x0, x1, x2, x3, x4⟩ := ck_cells hP2
      obtain ⟨z0, z1, z2, z3, z4⟩ := ck_cells hR2
      obtain ⟨t0, t1, t2, t3, t4⟩ := ck_thaw hR2
      obtain ⟨r0, r1, r2, r3, r4⟩ := ck_cells (ck_put hR2 v)
      dsimp only [Ck.zero] at z0 z1 z2 z3 z4
      have G3 : Below w.heap.size w (((((W2.setCell ⟨w.heap.size + 1, 0, none⟩ (.int .i64 v.st)).setCell ⟨w.heap.size + 1, 1, none⟩ (.int .i64 v.off)).setCell ⟨w.heap.size + 1, 2, none⟩ (.int .i64 v.fr)).setCell ⟨w.heap.size + 1, 3, none⟩ (.int .i64 v.poll)).setCell ⟨w.heap.size + 1, 4, none⟩ (.int .i64 v.calm)) := by
        repeat (refine below_set ?_ (by omega) _ _)
        exact G2
      clear hP2 hR2 G2
      have HG := Lib.hid G3
      clear G3
      go_wp2_with fail
      refine bodyPost_ret (by simp [results, Try.results33, go_sem, r0, r1, r2, r3, r4]; try rfl) rfl ?_
      exact ⟨rfl, HG.out⟩
  · have H1 := Lib.hid (fun w => unB_dec (by omega) (by omega) u1 w)
    have H2 := Lib.hid (fun w => unB_dec (by omega) (by omega) u2 w)
    subst e
    clear u1 u2
    go_enter Try.func33, Try.ntmps33
    go_wp2_with fail
    go_region_with (go_at_call 39; refine (HH.out _).mono ?_; rintro e w1 ⟨rfl, rfl⟩)
    all_goals
      clear hm hq ha hz
      go_wp2_with fail
      refine (H1.out _).mono ?_
      rintro e w1 ⟨rfl, rfl⟩
      go_wp2_with fail
      refine (H2.out _).mono ?_
      rintro e w1 ⟨rfl, rfl⟩
      go_wp2_with fail
      go_returns
      exact ⟨rfl, by go_grown⟩
end Go.Proofs.Ytlabmnfmijbpfaa
