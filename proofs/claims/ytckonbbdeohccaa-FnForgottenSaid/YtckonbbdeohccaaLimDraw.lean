/- The reference's drawing of limiters: some list of clients, not too many; nothing that lay has turned. -/
import Derived.Test.YtckonbbdeohccaaCameS
import Derived.Test.YtckonbbdeohccaaDraw0
import Derived.Deep.RegionWith
import Derived.Deep.Cut
import Derived.Deep.CutRange
import Derived.Test.YtckonbbdeohccaaLimMark
import Derived.IntWalk
namespace Go.Proofs.Ytckonbbdeohccaa
open Go.ChangeShapes Go.WideShapes Go.ChangeAt Go.RowKit
set_option linter.unusedVariables false
set_option linter.unusedSimpArgs false
set_option maxRecDepth 100000

/-- Some limiter and a time that is not far; the reader where it stood. -/
def RdLim (a : Nat) (w : World) : Ending → World → Prop := fun e w' =>
  ∃ (x : Option Addr) (cap : Nat) (l : List Cl) (t : Int), e = .returned (.tuple #[.agg #[.slice x l.length cap], .int .i64 t]) ∧ l.length ≤ 50 ∧ (∀ c ∈ l, c.id ≤ 4) ∧ 0 ≤ t ∧ t ≤ 1000 ∧ ClRow w.heap.size w' x cap l ∧ Rd w' a ∧ w.grownBy w' (some a)
/-- What lies while a limiter is drawn. -/
structure LD (w wr : World) (a : Nat) (x : Option Addr) (cap : Nat) (l : List Cl) : Prop where
  low : a < w.heap.size
  box : wr.heap[w.heap.size + 1]? = some (.cells #[.slice x l.length cap] 28)
  res : wr.heap[w.heap.size]? = some (.cells #[.slice none 0 0] 28)
  row : ClRow w.heap.size wr x cap l
  rd : Rd wr a
  grown : w.grownBy wr (some a)
  len : l.length ≤ 50
  ids : ∀ c ∈ l, c.id ≤ 4
theorem box_keepD {w w' : World} {p : Nat} {o : Obj} {row : Option Nat} (h : w.heap[p]? = some o) (hg : w.grownBy w' row) (hne : some p ≠ row) : w'.heap[p]? = some o := (hg.block p (Array.getElem?_eq_some_iff.1 h).1 hne).trans h
theorem ClRow.nil_ {base : Nat} {W : World} {x : Option Addr} {cap : Nat} {l : List Cl} (h : ClRow base W x cap l) : x = none → cap = 0 := by
  rcases h.2 with ⟨e, _⟩ | ⟨g, c, cur, e, _⟩
  · simp only [Value.slice.injEq] at e
    exact fun _ => e.2.2
  · simp only [Value.slice.injEq] at e
    intro e2
    rw [e.1] at e2
    cases e2
section
variable {w wr w' : World} {a : Nat} {x : Option Addr} {cap : Nat} {l : List Cl}
theorem LD.grow (h : LD w wr a x cap l) (hr : Rd w' a) (hg : wr.grownBy w' (some a)) : LD w w' a x cap l :=
  { low := h.low, box := box_keepD h.box hg (by have := h.low; simp only [ne_eq, Option.some.injEq]; omega), res := box_keepD h.res hg (by have := h.low; simp only [ne_eq, Option.some.injEq]; omega),
    row := h.row.keep hg (fun g e => by have := (e ▸ h.row).lt.1; have := h.low; simp only [ne_eq, Option.some.injEq]; omega), rd := hr, grown := grown_trans h.grown hg, len := h.len, ids := h.ids }
theorem LD.next (h : LD w wr a x cap l) (hb : Below wr.heap.size wr w') : LD w w' a x cap l :=
  h.grow (h.rd.kept (grownC hb) (by simp)) ((grownC hb : wr.grownBy w' none) |> fun g => ⟨g.os, g.tape, g.output, g.size, fun k hk _ => g.block k hk (by simp)⟩)
theorem LD.size (h : LD w wr a x cap l) : w.heap.size ≤ wr.heap.size := h.grown.size
end
theorem LD.set {w wr : World} {a : Nat} {x : Option Addr} {cap : Nat} {l : List Cl} {q : Nat} {u : Value} (h : LD w wr a x cap l) (hq : w.heap.size + 1 < q) (hN : wr.heap[q]? = some (.cells #[u] 28)) (v : Value) : LD w (wr.setCell ⟨q, 0, none⟩ v) a x cap l := by
  have hlow := h.low
  have gS : wr.grownBy (wr.setCell ⟨q, 0, none⟩ v) (some q) := grown_setC (World.grownBy.refl _ _) 0 v
  exact ⟨h.low, blk_other h.box (b' := q) (by omega) 0 v, blk_other h.res (b' := q) (by omega) 0 v,
    h.row.keep gS (fun g e e2 => (e ▸ h.row).ne_box hN (by simpa using e2.symm)), h.rd.kept gS (fun k e => by simp only [Option.some.injEq] at e; omega),
    ⟨gS.os.trans h.grown.os, gS.tape.trans h.grown.tape, gS.output.trans h.grown.output, Nat.le_trans h.grown.size gS.size, fun i hi hne => (gS.block i (Nat.lt_of_lt_of_le hi h.grown.size) (fun e => by simp only [Option.some.injEq] at e; omega)).trans (h.grown.block i hi hne)⟩, h.len, h.ids⟩
theorem resC_lenD (l : List Cl) (id now : Int) : (resC (camV l id now)).length ≤ 50 := by
  unfold camV
  split
  · rename_i ho
    have := comeV_ok (id := id) (now := now) ho
    cases h : comeV l id now with
    | none => simp [resC]
    | some p =>
      rw [h] at this
      exact (limOk_iff.1 this).2.2
  · simp [resC]
theorem resC_ids {l : List Cl} (h : ∀ c ∈ l, c.id ≤ 4) (id now : Int) (hid : id ≤ 4) : ∀ c ∈ resC (camV l id now), c.id ≤ 4 := by
  intro c hc
  unfold camV at hc
  split at hc
  · unfold comeV at hc
    split at hc
    · cases hf : clAt l id with
      | some d =>
        rw [hf] at hc
        simp only at hc
        split at hc
        · simp [resC] at hc
        · rcases putC_mem hc with rfl | hc
          · exact hid
          · exact h c hc
      | none =>
        rw [hf] at hc
        simp only at hc
        split at hc
        · simp [resC] at hc
        · rcases putC_mem hc with rfl | hc
          · exact hid
          · exact h c hc
    · simp [resC] at hc
  · simp [resC] at hc
theorem below_drewL2 (w : World) : Below w.heap.size w w.drew := ⟨rfl, rfl, rfl, Nat.le_refl _, fun _ _ => rfl⟩
set_option maxHeartbeats 8000000 in
theorem limiter_d (a : Nat) (w : World) (h : Rd w a) : Calls Try.prog 51 #[.pointer (some ⟨a, 0, none⟩)] w (RdLim a w) := by
  have ha : a < w.heap.size := by
    obtain ⟨_, _, _, hb, _⟩ := h
    exact (Array.getElem?_eq_some_iff.1 hb).1
  have Z0 := blk_alloc (blk_new w (.cells #[.slice none 0 0] 28)) (.cells #[.slice none 0 0] 28)
  have Z1 := blk_new (w.alloc (.cells #[.slice none 0 0] 28)) (.cells #[.slice none 0 0] 28)
  simp only [World.size_alloc] at Z1
  have B0 : Below w.heap.size w ((w.alloc (.cells #[.slice none 0 0] 28)).alloc (.cells #[.slice none 0 0] 28)) := by go_grown
  go_enter Try.func51, Try.ntmps51
  go_upto_region 2 with fail
  obtain ⟨W, hW⟩ : ∃ W, W = (w.alloc (.cells #[.slice none 0 0] 28)).alloc (.cells #[.slice none 0 0] 28) := ⟨_, rfl⟩
  rw [← hW] at Z0 Z1 B0 ⊢
  clear hW
  have D0 : LD w W a none 0 [] := { low := ha, box := Z1, res := Z0, row := clRow_nil _ _, rd := h.kept (grownC B0) (by simp), grown := (grownC B0 : w.grownBy W none) |> fun g => ⟨g.os, g.tape, g.output, g.size, fun k hk _ => g.block k hk (by simp)⟩, len := by simp, ids := by simp }
  go_wp2_with fail
  refine (below_c a 50 49 (by omega) (by omega) (by omega) _ D0.rd).mono ?_
  rintro e w1 ⟨t, t0, t1, rfl, hr1, hg1⟩
  have D1 := D0.grow hr1 hg1
  clear Z0 Z1 B0 D0 hr1 hg1
  go_wp2_with fail
  refine (below_c a 20 19 (by omega) (by omega) (by omega) _ D1.rd).mono ?_
  rintro e w2 ⟨i, i0, i1, rfl, hr2, hg2⟩
  have D2 := D1.grow hr2 hg2
  clear D1 hr2 hg2
  obtain ⟨j, rfl⟩ := Int.eq_ofNat_of_zero_le i0
  go_wp2_with fail
  go_loopw [5, 6] (fun s i wr => ∃ (k : Nat) (t : Int) (x : Option Addr) (cap : Nat) (l : List Cl), k ≤ j ∧ i = .int .i64 k ∧ s = .int .i64 t ∧ 0 ≤ t ∧ t ≤ 1000 - 5 * (k : Int) ∧ LD w wr a x cap l) (fun _ i _ => (RowKit.intOf i).toNat)
  case atStart => exact ⟨j, t, none, 0, [], Nat.le_refl _, rfl, rfl, t0, by omega, D2⟩
  case round =>
    obtain ⟨k, t, x, cap, l, hk, rfl, rfl, t0, t1, D⟩ := hrel
    by_cases hk0 : 0 < k
    · have hk1 : (0 : Int) < (k : Int) := by omega
      have hkd : decide ((0 : Int) < (k : Int)) = true := decide_eq_true hk1
      obtain ⟨c4, _⟩ := one_cell D.box
      go_wp2_with fail
      have Dd := D.next (below_drewL2 wr)
      obtain ⟨cd4, _⟩ := one_cell Dd.box
      have HU := Lib.hid (show ∀ u : Int, 0 ≤ u → u ≤ 3 → IntKind.i64.wrap (1 + u) = 1 + u from fun u _ _ => IntWalk.i64_in _ (by omega))
      have hl50 := D.len
      have hbw : w.heap.size + 1 < wr.heap.size := (Array.getElem?_eq_some_iff.1 D.box).1
      have Dz := (D.next (below_new wr (.cells #[.slice none 0 0] 28))).next (below_drewL2 _)
      obtain ⟨cz4, _⟩ := one_cell Dz.box
      have Nz : (wr.alloc (.cells #[.slice none 0 0] 28)).drew.heap[wr.heap.size]? = some (.cells #[.slice none 0 0] 28) := blk_new wr (.cells #[.slice none 0 0] 28)
      have hlow := D.low
      go_upto_region 6 with fail
      go_cut [7, 8, 9] from 19 to 28 (fun p tl ok wx => ∃ (o : Option (List Cl × Int)) (y : Option Addr) (cy q : Nat), p = .pointer (some ⟨q, 0, none⟩) ∧ tl = .int .i64 (toldC o) ∧ ok = .bool o.isSome ∧ (resC o).length ≤ 50 ∧ (∀ c ∈ resC o, c.id ≤ 4) ∧ ClRow w.heap.size wx y cy (resC o) ∧ wx.heap[q]? = some (.cells #[.slice y (resC o).length cy] 28) ∧ LD w wx a x cap l)
      case first =>
        go_region_with (first
          | (go_at_call 52; (with_reducible refine (below_c a 4 3 (by omega) (by omega) (by omega) _ Dd.rd).mono ?_); rintro e w3 ⟨u, u0, u1, rfl, hr3, hg3⟩; have D3 := Dd.grow hr3 hg3; have hw := HU.out u u0 u1; obtain ⟨c34, _⟩ := one_cell D3.box; have D3z := D3.next (below_new w3 (.cells #[.slice none 0 0] 28)); obtain ⟨c3z, _⟩ := one_cell D3z.box; have hs3 := (Array.getElem?_eq_some_iff.1 D3.box).1)
          | (go_at_call 52; (with_reducible refine (below_c a 4 3 (by omega) (by omega) (by omega) _ Dz.rd).mono ?_); rintro e w3 ⟨u, u0, u1, rfl, hr3, hg3⟩; have D3 := Dz.grow hr3 hg3; have hw := HU.out u u0 u1; obtain ⟨c34, _⟩ := one_cell D3.box; have N3 := box_keepD Nz hg3 (by simp only [ne_eq, Option.some.injEq]; omega); have hs3 := (Array.getElem?_eq_some_iff.1 D3.box).1; obtain ⟨n30, n31⟩ := one_cell N3)
          | (go_at_call 12; (with_reducible refine (came_spec l l.length (Lib.hid rfl) (by unfold maxLen; omega) (1 + u) t x cap D3z.row.cap_.1 D3z.row.nil_ _ D3z.row.cls).mono ?_); rintro e w4 ⟨y, cy, rfl, hy, hb4⟩; have D4 := D3z.next hb4; have N4 := blk_next hb4 (blk_new w3 (.cells #[.slice none 0 0] 28)); obtain ⟨n40, n41⟩ := one_cell N4)
          | (go_at_call 12; (with_reducible refine (came_spec l l.length (Lib.hid rfl) (by unfold maxLen; omega) (1 + u) t x cap D3.row.cap_.1 D3.row.nil_ _ D3.row.cls).mono ?_); rintro e w4 ⟨y, cy, rfl, hy, hb4⟩; have D4 := D3.next hb4; first | (have N4 := blk_next hb4 N3; obtain ⟨n40, n41⟩ := one_cell N4) | skip))
        all_goals
          have hln := resC_lenD l (1 + u) t
          have hid4 := resC_ids D4.ids (1 + u) t (by omega)
          have h4s := D4.size
          have h3s := D3.size
          obtain ⟨O, hO⟩ : ∃ O, camV l (1 + u) t = O := ⟨_, rfl⟩
          rw [hO] at hln hy hid4
          try rw [hO]
          go_wp2_with fail
          go_meet
          case rel =>
            first
              | exact ⟨O, y, cy, _, rfl, rfl, rfl, hln, hid4, ownsRow_base_le (hy.keep (grown_setC (World.grownBy.refl _ _) 0 _) (fun g e e2 => (e ▸ hy).ne_box N4 (by simpa using e2.symm))) (by first | omega | (simp only [World.size_alloc]; omega)), heap_set N4 0 _, D4.set (by omega) N4 _⟩
              | exact ⟨O, y, cy, _, rfl, rfl, rfl, hln, hid4, ownsRow_base_le (hy.next (below_new w4 _)) (by first | omega | (simp only [World.size_alloc]; omega)), blk_new w4 _, D4.next (below_new w4 _)⟩
      case rest =>
      obtain ⟨O, y, cy, q, rfl, rfl, rfl, hln, hid4, hy, hN, D6⟩ := hcut
      generalize wc = W6 at *
      have hl0 := D6.low
      have HU5 := Lib.hid (show ∀ v : Int, 0 ≤ v → v ≤ 4 → IntKind.i64.wrap (t + v) = t + v from fun v _ _ => IntWalk.i64_in _ (by omega))
      cases hO : O with
      | none =>
        rw [hO] at hy hN hln
        clear hid4
        clear hO
        go_wp2_with fail
        refine (below_c a 5 4 (by omega) (by omega) (by omega) _ D6.rd).mono ?_
        rintro e w7 ⟨v, v0, v1, rfl, hr7, hg7⟩
        have D7 := D6.grow hr7 hg7
        have hw5 := HU5.out v v0 v1
        clear D6 hr7 hg7
        go_wp2_with fail
        go_roundw
        case rel => exact ⟨k - 1, t + v, x, cap, l, by omega, by rw [show ((k - 1 : Nat) : Int) = (k : Int) - 1 from by omega], rfl, by omega, by omega, D7⟩
        case measure => simp [RowKit.intOf]; omega
      | some p =>
        obtain ⟨L, tl⟩ := p
        rw [hO] at hy hN hln hid4
        have hid4' : ∀ c ∈ L, c.id ≤ 4 := hid4
        have hy' : ClRow w.heap.size W6 y cy L := hy
        have hN' : W6.heap[q]? = some (.cells #[.slice y L.length cy] 28) := hN
        have hln' : L.length ≤ 50 := hln
        obtain ⟨n0, _⟩ := one_cell hN'
        obtain ⟨b0, b1⟩ := one_cell D6.box
        have gS : W6.grownBy (W6.setCell ⟨w.heap.size + 1, 0, none⟩ (.slice y L.length cy)) (some (w.heap.size + 1)) := grown_setC (World.grownBy.refl _ _) 0 _
        have D7 : LD w (W6.setCell ⟨w.heap.size + 1, 0, none⟩ (.slice y L.length cy)) a y cy L :=
          ⟨hl0, heap_set D6.box 0 _, blk_other D6.res (b' := w.heap.size + 1) (by omega) 0 _, hy'.keep gS (fun g e e2 => (e ▸ hy').ne_box D6.box (by simpa using e2.symm)), D6.rd.kept gS (fun k e => by simp only [Option.some.injEq] at e; omega),
            ⟨gS.os.trans D6.grown.os, gS.tape.trans D6.grown.tape, gS.output.trans D6.grown.output, Nat.le_trans D6.grown.size gS.size, fun i hi hne => (gS.block i (Nat.lt_of_lt_of_le hi D6.grown.size) (fun e => by simp only [Option.some.injEq] at e; omega)).trans (D6.grown.block i hi hne)⟩, hln', hid4'⟩
        clear hO hy hN hln hid4 hy' hN' D6 gS
        go_wp2_with fail
        generalize W6.setCell ⟨w.heap.size + 1, 0, none⟩ (.slice y L.length cy) = W7 at *
        refine (below_c a 5 4 (by omega) (by omega) (by omega) _ D7.rd).mono ?_
        rintro e w8 ⟨v, v0, v1, rfl, hr8, hg8⟩
        have D8 := D7.grow hr8 hg8
        have hw5 := HU5.out v v0 v1
        clear D7 hr8 hg8
        go_wp2_with fail
        go_roundw
        case rel => exact ⟨k - 1, t + v, y, cy, L, by omega, by rw [show ((k - 1 : Nat) : Int) = (k : Int) - 1 from by omega], rfl, by omega, by omega, D8⟩
        case measure => simp [RowKit.intOf]; omega
    · have hk1 : ¬ (0 : Int) < (k : Int) := by omega
      have hkd : decide ((0 : Int) < (k : Int)) = false := decide_eq_false hk1
      go_wp2_with fail
      refine (once_c a 30 (by omega) (by omega) _ D.rd).mono ?_
      rintro e w3 ⟨b, rfl, hr3, hg3⟩
      have D3 := D.grow hr3 hg3
      clear D hr3 hg3
      obtain ⟨b0, _⟩ := one_cell D3.box
      obtain ⟨z0, z1⟩ := one_cell D3.res
      have hfin : ∀ (W : World) (x : Option Addr) (cap : Nat) (l : List Cl), LD w W a x cap l → ClRow w.heap.size (W.setCell ⟨w.heap.size, 0, none⟩ (.slice x l.length cap)) x cap l ∧ Rd (W.setCell ⟨w.heap.size, 0, none⟩ (.slice x l.length cap)) a ∧ w.grownBy (W.setCell ⟨w.heap.size, 0, none⟩ (.slice x l.length cap)) (some a) ∧ (W.setCell ⟨w.heap.size, 0, none⟩ (.slice x l.length cap)).cell? ⟨w.heap.size, 0, none⟩ = some (.slice x l.length cap) := fun W x cap l D => by
        have gS : W.grownBy (W.setCell ⟨w.heap.size, 0, none⟩ (.slice x l.length cap)) (some w.heap.size) := grown_setC (World.grownBy.refl _ _) 0 _
        exact ⟨D.row.keep gS (fun g e e2 => (e ▸ D.row).ne_box D.res (by simpa using e2.symm)), D.rd.kept gS (fun k e => by simp only [Option.some.injEq] at e; omega),
          ⟨gS.os.trans D.grown.os, gS.tape.trans D.grown.tape, gS.output.trans D.grown.output, Nat.le_trans D.grown.size gS.size, fun i hi hne => (gS.block i (Nat.lt_of_lt_of_le hi D.grown.size) (fun e => by simp only [Option.some.injEq] at e; omega)).trans (D.grown.block i hi hne)⟩, (one_cell (heap_set D.res 0 (.slice x l.length cap))).1⟩
      have HF := Lib.hid hfin
      clear hfin
      have hl50 := D3.len
      have hids := D3.ids
      have hts : t ≤ 1000 := by omega
      by_cases hg : b = true ∧ 0 < l.length
      · obtain ⟨rfl, hl0⟩ := hg
        have hl1 : (0 : Int) < (l.length : Int) := by omega
        have hl2 : decide ((0 : Int) < (l.length : Int)) = true := decide_eq_true hl1
        obtain ⟨g, rfl⟩ := D3.row.some_ hl0
        cases l with
        | nil => simp at hl0
        | cons c0 r =>
        have hlr : (c0 :: r).length = r.length + 1 := rfl
        go_wp2_with fail
        have Dd := D3.next (below_drewL2 w3)
        obtain ⟨bd0, _⟩ := one_cell Dd.box
        have HR := Lib.hid Dd.row
        go_region_with (go_at_call 54; refine (off_c a 0 20 (by omega) (by omega) (by omega) _ Dd.rd).mono ?_; rintro e w5 ⟨v, v0, v1, rfl, hr5, hg5⟩; have D5 := Dd.grow hr5 hg5; obtain ⟨b50, _⟩ := one_cell D5.box; obtain ⟨_, _, q2⟩ := ClRow.cell D5.row (show (c0 :: r)[0]? = some c0 from rfl); obtain ⟨_, _, f2⟩ := ClRow.thaw D5.row 0; simp only [Nat.zero_mul, Nat.zero_add] at q2 f2)
        all_goals
          have gS : w5.grownBy (w5.setCell ⟨g, 2, none⟩ (.int .i64 v)) (some g) := grown_setC (World.grownBy.refl _ _) 2 _
          have hgl := D5.row.lt.1
          have hbx : g ≠ w.heap.size + 1 := D5.row.ne_box D5.box
          have hrs : g ≠ w.heap.size := D5.row.ne_box D5.res
          have R6 : ClRow w.heap.size (w5.setCell ⟨g, 2, none⟩ (.int .i64 v)) (some ⟨g, 0, none⟩) cap (⟨c0.id, c0.last, v⟩ :: r) := by
            have h1 := (World.ownsRow.stored D5.row 2 (.int .i64 v)).1
            exact h1
          have D6 : LD w (w5.setCell ⟨g, 2, none⟩ (.int .i64 v)) a (some ⟨g, 0, none⟩) cap (⟨c0.id, c0.last, v⟩ :: r) :=
            ⟨D5.low, blk_other D5.box (b' := g) hbx 2 _, blk_other D5.res (b' := g) hrs 2 _, R6, D5.rd.kept gS (fun k e => by have := D5.low; simp only [Option.some.injEq] at e; omega),
              ⟨gS.os.trans D5.grown.os, gS.tape.trans D5.grown.tape, gS.output.trans D5.grown.output, Nat.le_trans D5.grown.size gS.size, fun i hi hne => (gS.block i (Nat.lt_of_lt_of_le hi D5.grown.size) (fun e => by simp only [Option.some.injEq] at e; omega)).trans (D5.grown.block i hi hne)⟩, D5.len, fun c hc => by
                rcases List.mem_cons.1 hc with rfl | hc
                · exact D5.ids c0 (by simp)
                · exact D5.ids c (by simp [hc])⟩
          have hids6 := D6.ids
          obtain ⟨f1, f2', f3, f4⟩ := HF.out _ _ _ _ D6
          obtain ⟨b60, _⟩ := one_cell D6.box
          obtain ⟨z60, z61⟩ := one_cell D6.res
          have hlen6 : ((⟨c0.id, c0.last, v⟩ :: r : List Cl)).length = (c0 :: r).length := rfl
          simp only [List.length_cons] at f1 f2' f3 f4 b60
          clear gS R6 D5 bd0 b50 q2 f2 Dd
          generalize w5.setCell ⟨g, 2, none⟩ (.int .i64 v) = W6 at *
          go_wp2_with fail
          try simp only [Exit.inBlock, Exit.then]
          refine bodyPost_ret (by simp [results, Try.results51, go_sem, f4]; try rfl) rfl ?_
          exact ⟨some ⟨g, 0, none⟩, cap, (⟨c0.id, c0.last, v⟩ :: r), t, rfl, hl50, hids6, t0, hts, f1, f2', f3⟩
      · have hV : (b && decide (0 < (l.length : Int))) = false := by
          cases b with
          | false => rfl
          | true => simp at hg; simp [hg]
        obtain ⟨f1, f2, f3, f4⟩ := HF.out w3 x cap l D3
        cases b with
        | false =>
          clear hg hV
          go_wp2_with fail
          try simp only [Exit.inBlock, Exit.then]
          refine bodyPost_ret (by simp [results, Try.results51, go_sem, f4]; try rfl) rfl ?_
          exact ⟨x, cap, l, t, rfl, hl50, hids, t0, hts, f1, f2, f3⟩
        | true =>
          have hl2 : decide ((0 : Int) < (l.length : Int)) = false := by simpa using hV
          have hl3 : ¬ (0 : Int) < (l.length : Int) := by simpa using hl2
          clear hg hV
          go_wp2_with fail
          try simp only [Exit.inBlock, Exit.then]
          refine bodyPost_ret (by simp [results, Try.results51, go_sem, f4]; try rfl) rfl ?_
          exact ⟨x, cap, l, t, rfl, hl50, hids, t0, hts, f1, f2, f3⟩
end Go.Proofs.Ytckonbbdeohccaa
