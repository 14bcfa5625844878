/- The reference's drawing of limiters with rows of ids, a time and a gap: some of each; nothing that lay has turned. -/
import Derived.Test.YtckonbbdeohccaaDrawCame
import Derived.Test.YtckonbbdeohccaaCameAllI
namespace Go.Proofs.Ytckonbbdeohccaa
open Go.ChangeShapes Go.WideShapes Go.ChangeAt Go.RowKit
set_option linter.unusedVariables false
set_option linter.unusedSimpArgs false
set_option maxRecDepth 100000

def AnyAll (w : World) : Ending → World → Prop := fun e w' =>
  ∃ (x : Option Addr) (cap : Nat) (l : List Cl) (y : Option Addr) (cy : Nat) (ids : List Int) (t g : Int), e = .returned (.tuple #[.agg #[.slice x l.length cap], .slice y ids.length cy, .int .i64 t, .int .i64 g]) ∧ l.length ≤ 50 ∧ ids.length ≤ 11 ∧ 0 ≤ t ∧ t ≤ 1000 ∧ 0 ≤ g ∧ g ≤ 5 ∧ ClRow w.heap.size w' x cap l ∧ IRow w.heap.size w' y cy ids ∧ Below w.heap.size w w'
theorem LE.far {w wr w' : World} {p B : Nat} {x : Option Addr} {cap : Nat} {l : List Cl} {row : Option Nat} (h : LE w wr p x cap l) (hg : wr.grownBy w' row) (hB : ∀ g, row = some g → B ≤ g) (hp : p < B) (hrow : ∀ g, x = some ⟨g, 0, none⟩ → g < B) : LE w w' p x cap l := by
  have hpw := h.pw
  exact ⟨box_keepD h.res hg (fun e => by have := hB _ e.symm; omega), box_keepD h.box hg (fun e => by have := hB _ e.symm; omega), h.pw, h.row.keep hg (fun g e e2 => by have := hB g e2; have := hrow g e; omega), h.rd.kept hg (fun g e => by have := hB g e; omega), h.low.grown hg h.low.size (fun j hj => by have := hB j hj; omega)⟩
set_option maxHeartbeats 4000000 in
theorem drawCameAll_c (x : Option Addr) (n cap : Nat) (w : World) (hc : Code w.heap.size w (.slice x n cap) n) (hn : n ≤ 1048576) : Calls Try.prog 33 #[.slice x n cap] w (AnyAll w) := by
  obtain ⟨i0, hi0, hz0, hz1, hz2⟩ := info_partsT infoI64'
  have HI0 := Lib.hid hi0
  have HZ0 := Lib.hid hz0
  have HZ1 := Lib.hid hz1
  have HZ2 := Lib.hid hz2
  clear hi0 hz0 hz1 hz2
  have Z0 := blk_new w (.cells #[.slice none 0 0] 28)
  have B0 : Below w.heap.size w (w.alloc (.cells #[.slice none 0 0] 28)) := below_new _ _
  have hc0 := hc.next B0
  have hs0 : (w.alloc (.cells #[.slice none 0 0] 28)).heap.size = w.heap.size + 1 := World.size_alloc _ _
  go_enter Try.func33, Try.ntmps33
  go_upto_region 1 with fail
  obtain ⟨W, hW⟩ : ∃ W, W = w.alloc (.cells #[.slice none 0 0] 28) := ⟨_, rfl⟩
  rw [← hW] at Z0 B0 hc0 hs0 ⊢
  clear hW hc
  go_wp2_with fail
  refine (open_c x n cap _).mono ?_
  rintro e w1 ⟨rfl, rfl⟩
  have hr1 := rd_open hc0 hn
  have Z1 := blk_alloc Z0 (.cells #[.slice x n cap, .int .i64 0] 90)
  have B1 := B0.alloc B0.size (.cells #[.slice x n cap, .int .i64 0] 90)
  have hs1 : (W.alloc (.cells #[.slice x n cap, .int .i64 0] 90)).heap.size = w.heap.size + 2 := by rw [World.size_alloc, hs0]
  rw [hs0] at hr1 ⊢
  generalize W.alloc (.cells #[.slice x n cap, .int .i64 0] 90) = W1 at *
  clear hs0 hc0 Z0 B0
  go_wp2_with fail
  refine (limiter_d (w.heap.size + 1) W1 hr1).mono ?_
  rintro e w2 ⟨y, cy, l, t, rfl, hl50, hids, t0, t1, hrow, hr2, hg2⟩
  have Z2 := box_keepD Z1 hg2 (by simp)
  have B2 : Below w.heap.size w w2 := B1.grown hg2 B1.size (fun j hj => by cases hj; omega)
  have hrowne : ∀ g, y = some ⟨g, 0, none⟩ → g ≠ w.heap.size + 1 := fun g e => by have := (e ▸ hrow).lt.1; omega
  have hrowlt : ∀ g, y = some ⟨g, 0, none⟩ → g < w2.heap.size + 1 := fun g e => by have := (e ▸ hrow).lt.2; omega
  have hs2 := hg2.size
  have E3 : LE w (w2.alloc (.cells #[.slice y l.length cy] 28)) w2.heap.size y cy l :=
    ⟨blk_alloc Z2 _, blk_new w2 _, by omega, ownsRow_base_le (hrow.next (below_new w2 _)) (by omega), hr2.kept (World.grownBy_alloc w2 _ none) (by simp), B2.alloc B2.size _⟩
  have hpne : w2.heap.size ≠ w.heap.size + 1 := by omega
  have hs3 : (w2.alloc (.cells #[.slice y l.length cy] 28)).heap.size = w2.heap.size + 1 := World.size_alloc _ _
  have hp0 : w.heap.size + 1 < w2.heap.size := by omega
  obtain ⟨p, hp⟩ : ∃ p, w2.heap.size = p := ⟨_, rfl⟩
  rw [hp] at E3 hpne hrowlt hs3 hp0
  clear Z1 Z2 B1 B2 hr1 hr2 hg2 hrow hs2 hs1 hids
  go_upto_region 3 with fail
  obtain ⟨W3, hW3⟩ : ∃ W, W = w2.alloc (.cells #[.slice y l.length cy] 28) := ⟨_, rfl⟩
  rw [← hW3] at E3 hs3
  rw [← hW3]
  try rw [hp]
  clear hW3 hp
  have R4 := World.ownsRow_made (base := p + 1) (e := 2) (size := 1) W3 #[] 0 (Nat.le_of_eq hs3.symm) (by simp [maxLen]) rfl
  have E4 := E3.next (below_new W3 (.cells #[] 2))
  have hs4 : (W3.alloc (.cells #[] 2)).heap.size = p + 2 := by rw [World.size_alloc, hs3]
  rw [hs3] at R4
  go_upto_region 4 with fail
  try rw [hs3]
  generalize W3.alloc (.cells #[] 2) = W4 at *
  clear E3
  go_wp2_with fail
  refine (below_c (w.heap.size + 1) 12 11 (by omega) (by omega) (by omega) _ E4.rd).mono ?_
  rintro e w5 ⟨j', j0, j1, rfl, hr5, hg5⟩
  have E5 := E4.grow hpne hrowne hr5 hg5
  have R5 := R4.kept hg5 (.inr (by simp [Value.ownBlock]; omega))
  have hs5 := hg5.size
  clear E4 R4 hr5 hg5
  obtain ⟨j, rfl⟩ := Int.eq_ofNat_of_zero_le j0
  go_wp2_with fail
  go_loopw [9, 10] (fun o i wr => ∃ (k : Nat) (ids : List Int), k ≤ j ∧ i = .int .i64 k ∧ ids.length + k = j ∧ wr.ownsRow (p + 1) 2 1 o ids.length (ids.map (Value.int .i64)) ∧ LE w wr p y cy l ∧ p + 1 ≤ wr.heap.size) (fun _ i _ => (RowKit.intOf i).toNat)
  case atStart => exact ⟨j, [], Nat.le_refl _, rfl, by simp, R5, E5, by omega⟩
  case round =>
    obtain ⟨k, ids, hk, rfl, hlk, hrow, E, hsz⟩ := hrel
    clear E5 R5
    by_cases hk0 : 0 < k
    · have hk1 : (0 : Int) < (k : Int) := by omega
      have hkd : decide ((0 : Int) < (k : Int)) = true := decide_eq_true hk1
      go_wp2_with fail
      refine (below_c (w.heap.size + 1) 3 2 (by omega) (by omega) (by omega) _ E.rd).mono ?_
      rintro e w6 ⟨c, c0, c1, rfl, hr6, hg6⟩
      have E6 := E.grow hpne hrowne hr6 hg6
      have hrow6 := hrow.kept hg6 (.inr (fun e => by have := (hrow.lt _ e).1; omega))
      have hs6 := hg6.size
      have hw := show IntKind.i64.wrap (1 + c) = 1 + c from IntWalk.i64_in _ (by omega)
      have E7 := E6.next (below_new w6 (.cells #[.int .i64 (1 + c)] 2))
      clear hrow E hr6 hg6
      go_wp2_with (at_builtin; refine wpList_append_own _ rfl _ _ 35 rfl (p + 1) 2 i0 (.int .i64 0) 1 8 Try.underlying35 HI0.out HZ0.out HZ1.out HZ2.out rfl (by decide) _ _ _ rfl (hrow6.alloc _) ⟨w6.heap.size, 0, none⟩ 1 1 [.int .i64 (1 + c)] rfl rfl (cell_one_newA w6 _ _) (by simp [Value.oneCell']) (by unfold maxLen; omega) (by omega) (by simp; omega) ?_; intro v' w8 hown' hgrow _)
      have hu := fun g hg => (hrow6.lt g hg).1
      have E8 := E7.far (B := p + 1) hgrow (fun g hg => hu g hg) (by omega) hrowlt
      have hs8 := hgrow.size
      have hs7 : (w6.alloc (.cells #[.int .i64 (1 + c)] 2)).heap.size = w6.heap.size + 1 := World.size_alloc _ _
      go_roundw
      case rel => exact ⟨k - 1, ids ++ [1 + c], by omega, by rw [show ((k - 1 : Nat) : Int) = (k : Int) - 1 from by omega], by simp; omega, by simpa using hown', E8, by omega⟩
      case measure => simp [RowKit.intOf]; omega
    · have hk1 : ¬ (0 : Int) < (k : Int) := by omega
      have hkd : decide ((0 : Int) < (k : Int)) = false := decide_eq_false hk1
      have hl11 : ids.length ≤ 11 := by omega
      obtain ⟨yi, ci, rfl, hri⟩ := int_form hrow
      clear hrow
      go_wp2_with fail
      have Ed := E.next (below_drewL2 wr)
      have hrd := hri.next (below_drewL2 wr)
      obtain ⟨bd, _⟩ := one_cell Ed.box
      go_region_with (go_at_call 52; refine (below_c (w.heap.size + 1) 6 5 (by omega) (by omega) (by omega) _ Ed.rd).mono ?_; rintro e w6 ⟨v, v0, v1, rfl, hr6, hg6⟩; have E6 := Ed.grow hpne hrowne hr6 hg6; have hri6 := hrd.keep hg6 (fun g e e2 => by have := hri.ge g e; simp only [Option.some.injEq] at e2; omega); obtain ⟨b6, _⟩ := one_cell E6.box; obtain ⟨r60, r61⟩ := one_cell E6.res)
      all_goals
        obtain ⟨f1, f2, f3⟩ := E6.fin
        have hri7 := hri6.keep (row := some w.heap.size) (grown_setC (World.grownBy.refl w6 _) 0 (.slice y l.length cy)) (fun g e e2 => by have := hri.ge g e; simp only [Option.some.injEq] at e2; omega)
        go_wp2_with fail
        try simp only [Exit.inBlock, Exit.then]
        refine bodyPost_ret (by simp [results, Try.results33, go_sem, f1]; try rfl) rfl ?_
        exact ⟨y, cy, l, yi, ci, ids, t, v, rfl, hl50, hl11, t0, t1, v0, v1, f2, ownsRow_base_le hri7 (by omega), f3⟩
end Go.Proofs.Ytckonbbdeohccaa
