/- The reference's drawings of limiters with clients and times; of limiters; of limiters with times. -/
import Derived.Test.YtckonbbdeohccaaLimDraw
namespace Go.Proofs.Ytckonbbdeohccaa
open Go.ChangeShapes Go.WideShapes Go.ChangeAt Go.RowKit
set_option linter.unusedVariables false
set_option linter.unusedSimpArgs false
set_option maxRecDepth 100000

def AnyCame (w : World) : Ending → World → Prop := fun e w' =>
  ∃ (x : Option Addr) (cap : Nat) (l : List Cl) (id t : Int), e = .returned (.tuple #[.agg #[.slice x l.length cap], .int .i64 id, .int .i64 t]) ∧ l.length ≤ 50 ∧ (∀ c ∈ l, c.id ≤ 4) ∧ -9223372036854775808 ≤ t ∧ t ≤ 9223372036854775807 ∧ ClRow w.heap.size w' x cap l ∧ Below w.heap.size w w'
def AnyLim (w : World) : Ending → World → Prop := fun e w' =>
  ∃ (x : Option Addr) (cap : Nat) (l : List Cl), e = .returned (.agg #[.slice x l.length cap]) ∧ l.length ≤ 50 ∧ ClRow w.heap.size w' x cap l ∧ Below w.heap.size w w'
def AnyForg (w : World) : Ending → World → Prop := fun e w' =>
  ∃ (x : Option Addr) (cap : Nat) (l : List Cl) (t : Int), e = .returned (.tuple #[.agg #[.slice x l.length cap], .int .i64 t]) ∧ l.length ≤ 50 ∧ ClRow w.heap.size w' x cap l ∧ Below w.heap.size w w'
/-- What lies behind a drawn limiter: the box of the answer, the reader, the limiter's box and row. -/
structure LE (w wr : World) (p : Nat) (x : Option Addr) (cap : Nat) (l : List Cl) : Prop where
  res : wr.heap[w.heap.size]? = some (.cells #[.slice none 0 0] 28)
  box : wr.heap[p]? = some (.cells #[.slice x l.length cap] 28)
  pw : w.heap.size < p
  row : ClRow w.heap.size wr x cap l
  rd : Rd wr (w.heap.size + 1)
  low : Below w.heap.size w wr
section
variable {w wr w' : World} {p : Nat} {x : Option Addr} {cap : Nat} {l : List Cl}
theorem LE.grow (h : LE w wr p x cap l) (hp : p ≠ w.heap.size + 1) (hrow : ∀ g, x = some ⟨g, 0, none⟩ → g ≠ w.heap.size + 1) (hr : Rd w' (w.heap.size + 1)) (hg : wr.grownBy w' (some (w.heap.size + 1))) : LE w w' p x cap l :=
  ⟨box_keepD h.res hg (by simp), box_keepD h.box hg (by simpa using hp), h.pw, h.row.keep hg (fun g e e2 => hrow g e (by simpa using e2.symm)), hr, h.low.grown hg h.low.size (fun j hj => by cases hj; omega)⟩
theorem LE.next (h : LE w wr p x cap l) (hb : Below wr.heap.size wr w') : LE w w' p x cap l :=
  ⟨blk_next hb h.res, blk_next hb h.box, h.pw, h.row.next hb, h.rd.kept (grownC hb) (by simp), grow_next h.low hb⟩
/-- The answer stored: what is left to be told. -/
theorem LE.fin (h : LE w wr p x cap l) : (wr.setCell ⟨w.heap.size, 0, none⟩ (.slice x l.length cap)).cell? ⟨w.heap.size, 0, none⟩ = some (.slice x l.length cap) ∧ ClRow w.heap.size (wr.setCell ⟨w.heap.size, 0, none⟩ (.slice x l.length cap)) x cap l ∧ Below w.heap.size w (wr.setCell ⟨w.heap.size, 0, none⟩ (.slice x l.length cap)) :=
  ⟨(one_cell (heap_set h.res 0 _)).1, h.row.keep (grown_setC (World.grownBy.refl _ _) 0 _) (fun g e e2 => (e ▸ h.row).ne_box h.res (by simpa using e2.symm)), below_setCell h.low (Nat.le_refl _) 0 _⟩
end
set_option maxHeartbeats 4000000 in
theorem drawCame_c (x : Option Addr) (n cap : Nat) (w : World) (hc : Code w.heap.size w (.slice x n cap) n) (hn : n ≤ 1048576) : Calls Try.prog 27 #[.slice x n cap] w (AnyCame w) := by
  have Z0 := blk_new w (.cells #[.slice none 0 0] 28)
  have B0 : Below w.heap.size w (w.alloc (.cells #[.slice none 0 0] 28)) := below_new _ _
  have hc0 := hc.next B0
  have hs0 : (w.alloc (.cells #[.slice none 0 0] 28)).heap.size = w.heap.size + 1 := World.size_alloc _ _
  go_enter Try.func27, Try.ntmps27
  go_upto_region 1 with fail
  obtain ⟨W, hW⟩ : ∃ W, W = w.alloc (.cells #[.slice none 0 0] 28) := ⟨_, rfl⟩
  rw [← hW] at Z0 B0 hc0 hs0 ⊢
  clear hW hc
  go_wp2_with fail
  refine (open_c x n cap _).mono ?_
  rintro e w1 ⟨rfl, rfl⟩
  have hr1 := rd_open hc0 hn
  have Z1 := blk_alloc Z0 (.cells #[.slice x n cap, .int .i64 0] 90)
  have B1 := B0.alloc B0.size (.cells #[.slice x n cap, .int .i64 0] 90)
  have hs1 : (W.alloc (.cells #[.slice x n cap, .int .i64 0] 90)).heap.size = w.heap.size + 2 := by rw [World.size_alloc, hs0]
  rw [hs0] at hr1 ⊢
  generalize W.alloc (.cells #[.slice x n cap, .int .i64 0] 90) = W1 at *
  clear hs0 hc0 Z0 B0
  go_wp2_with fail
  refine (limiter_d (w.heap.size + 1) W1 hr1).mono ?_
  rintro e w2 ⟨y, cy, l, t, rfl, hl50, hids, t0, t1, hrow, hr2, hg2⟩
  have Z2 := box_keepD Z1 hg2 (by simp)
  have B2 : Below w.heap.size w w2 := B1.grown hg2 B1.size (fun j hj => by cases hj; omega)
  have hrowne : ∀ g, y = some ⟨g, 0, none⟩ → g ≠ w.heap.size + 1 := fun g e => by have := (e ▸ hrow).lt.1; omega
  have hs2 := hg2.size
  have E3 : LE w (w2.alloc (.cells #[.slice y l.length cy] 28)) w2.heap.size y cy l :=
    ⟨blk_alloc Z2 _, blk_new w2 _, by omega, ownsRow_base_le (hrow.next (below_new w2 _)) (by omega), hr2.kept (World.grownBy_alloc w2 _ none) (by simp), B2.alloc B2.size _⟩
  have hpne : w2.heap.size ≠ w.heap.size + 1 := by omega
  obtain ⟨p, hp⟩ : ∃ p, w2.heap.size = p := ⟨_, rfl⟩
  rw [hp] at E3 hpne
  clear Z1 Z2 B1 B2 hr1 hr2 hg2 hrow hs2 hs1
  go_upto_region 3 with fail
  obtain ⟨W3, hW3⟩ : ∃ W, W = w2.alloc (.cells #[.slice y l.length cy] 28) := ⟨_, rfl⟩
  rw [← hW3] at E3
  rw [← hW3]
  try rw [hp]
  clear hW3 hp
  go_wp2_with fail
  refine (below_c (w.heap.size + 1) 5 4 (by omega) (by omega) (by omega) _ E3.rd).mono ?_
  rintro e w4 ⟨u, u0, u1, rfl, hr4, hg4⟩
  have E4 := E3.grow hpne hrowne hr4 hg4
  have hw := show IntKind.i64.wrap (1 + u) = 1 + u from IntWalk.i64_in _ (by omega)
  clear E3 hr4 hg4
  go_wp2_with fail
  refine (once_c (w.heap.size + 1) 12 (by omega) (by omega) _ E4.rd).mono ?_
  rintro e w5 ⟨b, rfl, hr5, hg5⟩
  have E5 := E4.grow hpne hrowne hr5 hg5
  clear E4 hr5 hg5
  cases b with
  | false =>
    obtain ⟨f1, f2, f3⟩ := E5.fin
    obtain ⟨r0, r1⟩ := one_cell E5.res
    obtain ⟨b0, _⟩ := one_cell E5.box
    go_wp2_with fail
    try simp only [Exit.inBlock, Exit.then]
    refine bodyPost_ret (by simp [results, Try.results27, go_sem, f1]; try rfl) rfl ?_
    exact ⟨y, cy, l, 1 + u, t, rfl, hl50, hids, by omega, by omega, f2, f3⟩
  | true =>
    go_wp2_with fail
    have Ed := E5.next (below_drewL2 w5)
    obtain ⟨bd, _⟩ := one_cell Ed.box
    go_region_with (go_at_call 54; refine (off_c (w.heap.size + 1) 0 50 (by omega) (by omega) (by omega) _ Ed.rd).mono ?_; rintro e w6 ⟨v, v0, v1, rfl, hr6, hg6⟩; have E6 := Ed.grow hpne hrowne hr6 hg6; obtain ⟨b6, _⟩ := one_cell E6.box; obtain ⟨r60, r61⟩ := one_cell E6.res)
    all_goals
      obtain ⟨f1, f2, f3⟩ := E6.fin
      go_wp2_with fail
      try simp only [Exit.inBlock, Exit.then]
      refine bodyPost_ret (by simp [results, Try.results27, go_sem, f1]; try rfl) rfl ?_
      exact ⟨y, cy, l, 1 + u, v, rfl, hl50, hids, v0, v1, f2, f3⟩
set_option maxHeartbeats 4000000 in
theorem drawLimiterOk_c (x : Option Addr) (n cap : Nat) (w : World) (hc : Code w.heap.size w (.slice x n cap) n) (hn : n ≤ 1048576) : Calls Try.prog 28 #[.slice x n cap] w (AnyLim w) := by
  have Z0 := blk_new w (.cells #[.slice none 0 0] 28)
  have B0 : Below w.heap.size w (w.alloc (.cells #[.slice none 0 0] 28)) := below_new _ _
  have hc0 := hc.next B0
  have hs0 : (w.alloc (.cells #[.slice none 0 0] 28)).heap.size = w.heap.size + 1 := World.size_alloc _ _
  go_enter Try.func28, Try.ntmps28
  go_upto_region 1 with fail
  obtain ⟨W, hW⟩ : ∃ W, W = w.alloc (.cells #[.slice none 0 0] 28) := ⟨_, rfl⟩
  rw [← hW] at Z0 B0 hc0 hs0 ⊢
  clear hW hc
  go_wp2_with fail
  refine (open_c x n cap _).mono ?_
  rintro e w1 ⟨rfl, rfl⟩
  have hr1 := rd_open hc0 hn
  have Z1 := blk_alloc Z0 (.cells #[.slice x n cap, .int .i64 0] 90)
  have B1 := B0.alloc B0.size (.cells #[.slice x n cap, .int .i64 0] 90)
  have hs1 : (W.alloc (.cells #[.slice x n cap, .int .i64 0] 90)).heap.size = w.heap.size + 2 := by rw [World.size_alloc, hs0]
  rw [hs0] at hr1 ⊢
  generalize W.alloc (.cells #[.slice x n cap, .int .i64 0] 90) = W1 at *
  clear hs0 hc0 Z0 B0
  go_wp2_with fail
  refine (limiter_d (w.heap.size + 1) W1 hr1).mono ?_
  rintro e w2 ⟨y, cy, l, t, rfl, hl50, hids, t0, t1, hrow, hr2, hg2⟩
  have Z2 := box_keepD Z1 hg2 (by simp)
  have B2 : Below w.heap.size w w2 := B1.grown hg2 B1.size (fun j hj => by cases hj; omega)
  have hs2 := hg2.size
  have E3 : LE w (w2.alloc (.cells #[.slice y l.length cy] 28)) w2.heap.size y cy l :=
    ⟨blk_alloc Z2 _, blk_new w2 _, by omega, ownsRow_base_le (hrow.next (below_new w2 _)) (by omega), hr2.kept (World.grownBy_alloc w2 _ none) (by simp), B2.alloc B2.size _⟩
  have hw2s : w.heap.size < w2.heap.size := by omega
  obtain ⟨p, hp⟩ : ∃ p, w2.heap.size = p := ⟨_, rfl⟩
  rw [hp] at E3
  clear Z1 Z2 B1 B2 hr1 hr2 hg2 hrow hs2 hs1
  go_upto_region 3 with fail
  obtain ⟨W3, hW3⟩ : ∃ W, W = w2.alloc (.cells #[.slice y l.length cy] 28) := ⟨_, rfl⟩
  rw [← hW3] at E3
  rw [← hW3]
  try rw [hp]
  clear hW3 hp hw2s
  obtain ⟨f1, f2, f3⟩ := E3.fin
  obtain ⟨r0, r1⟩ := one_cell E3.res
  obtain ⟨b0, _⟩ := one_cell E3.box
  go_wp2_with fail
  try simp only [Exit.inBlock, Exit.then]
  refine bodyPost_ret (by simp [results, Try.results28, go_sem, f1]; try rfl) rfl ?_
  exact ⟨y, cy, l, rfl, hl50, f2, f3⟩
set_option maxHeartbeats 4000000 in
theorem drawForgotten_c (x : Option Addr) (n cap : Nat) (w : World) (hc : Code w.heap.size w (.slice x n cap) n) (hn : n ≤ 1048576) : Calls Try.prog 35 #[.slice x n cap] w (AnyForg w) := by
  have Z0 := blk_new w (.cells #[.slice none 0 0] 28)
  have B0 : Below w.heap.size w (w.alloc (.cells #[.slice none 0 0] 28)) := below_new _ _
  have hc0 := hc.next B0
  have hs0 : (w.alloc (.cells #[.slice none 0 0] 28)).heap.size = w.heap.size + 1 := World.size_alloc _ _
  go_enter Try.func35, Try.ntmps35
  go_upto_region 1 with fail
  obtain ⟨W, hW⟩ : ∃ W, W = w.alloc (.cells #[.slice none 0 0] 28) := ⟨_, rfl⟩
  rw [← hW] at Z0 B0 hc0 hs0 ⊢
  clear hW hc
  go_wp2_with fail
  refine (open_c x n cap _).mono ?_
  rintro e w1 ⟨rfl, rfl⟩
  have hr1 := rd_open hc0 hn
  have Z1 := blk_alloc Z0 (.cells #[.slice x n cap, .int .i64 0] 90)
  have B1 := B0.alloc B0.size (.cells #[.slice x n cap, .int .i64 0] 90)
  have hs1 : (W.alloc (.cells #[.slice x n cap, .int .i64 0] 90)).heap.size = w.heap.size + 2 := by rw [World.size_alloc, hs0]
  rw [hs0] at hr1 ⊢
  generalize W.alloc (.cells #[.slice x n cap, .int .i64 0] 90) = W1 at *
  clear hs0 hc0 Z0 B0
  go_wp2_with fail
  refine (limiter_d (w.heap.size + 1) W1 hr1).mono ?_
  rintro e w2 ⟨y, cy, l, t, rfl, hl50, hids, t0, t1, hrow, hr2, hg2⟩
  have Z2 := box_keepD Z1 hg2 (by simp)
  have B2 : Below w.heap.size w w2 := B1.grown hg2 B1.size (fun j hj => by cases hj; omega)
  have hrowne : ∀ g, y = some ⟨g, 0, none⟩ → g ≠ w.heap.size + 1 := fun g e => by have := (e ▸ hrow).lt.1; omega
  have hs2 := hg2.size
  have E3 : LE w (w2.alloc (.cells #[.slice y l.length cy] 28)) w2.heap.size y cy l :=
    ⟨blk_alloc Z2 _, blk_new w2 _, by omega, ownsRow_base_le (hrow.next (below_new w2 _)) (by omega), hr2.kept (World.grownBy_alloc w2 _ none) (by simp), B2.alloc B2.size _⟩
  have hpne : w2.heap.size ≠ w.heap.size + 1 := by omega
  obtain ⟨p, hp⟩ : ∃ p, w2.heap.size = p := ⟨_, rfl⟩
  rw [hp] at E3 hpne
  clear Z1 Z2 B1 B2 hr1 hr2 hg2 hrow hs2 hs1
  go_upto_region 3 with fail
  obtain ⟨W3, hW3⟩ : ∃ W, W = w2.alloc (.cells #[.slice y l.length cy] 28) := ⟨_, rfl⟩
  rw [← hW3] at E3
  rw [← hW3]
  try rw [hp]
  clear hW3 hp
  have Ed := E3.next (below_drewL2 W3)
  obtain ⟨bd, _⟩ := one_cell Ed.box
  have HU := Lib.hid (show ∀ v : Int, 0 ≤ v → v ≤ 29 → IntKind.i64.wrap (t + v) = t + v from fun v _ _ => IntWalk.i64_in _ (by omega))
  go_region_with (go_at_call 52; refine (below_c (w.heap.size + 1) 30 29 (by omega) (by omega) (by omega) _ Ed.rd).mono ?_; rintro e w6 ⟨v, v0, v1, rfl, hr6, hg6⟩; have E6 := Ed.grow hpne hrowne hr6 hg6; have hw6 := HU.out v v0 v1; obtain ⟨b6, _⟩ := one_cell E6.box; obtain ⟨r60, r61⟩ := one_cell E6.res)
  all_goals
    obtain ⟨f1, f2, f3⟩ := E6.fin
    go_wp2_with fail
    try simp only [Exit.inBlock, Exit.then]
    refine bodyPost_ret (by simp [results, Try.results35, go_sem, f1]; try rfl) rfl ?_
    exact ⟨y, cy, l, t + v, rfl, hl50, f2, f3⟩
end Go.Proofs.Ytckonbbdeohccaa
