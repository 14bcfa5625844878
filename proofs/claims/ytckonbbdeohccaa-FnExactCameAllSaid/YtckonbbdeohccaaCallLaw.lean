/- For every limiter, ids, start and gap the program's CameAll answers as the reference; its arguments stay as they were; its answer owns its memory. -/
import Derived.Test.YtckonbbdeohccaaCameAllS
import Derived.Test.YtckonbbdeohccaaLimMark
import Derived.Test.YtckonbbdeohccaaIMarkB
import Derived.Test.YtckonbbdeohccaaIntsOpen
namespace Go.Proofs.Ytckonbbdeohccaa
open Go.ChangeShapes Go.WideShapes Go.ChangeAt Go.RowKit
set_option linter.unusedVariables false
set_option linter.unusedSimpArgs false
set_option maxRecDepth 100000

theorem IntBlk.irow {w : World} {p m : Nat} {l : List Int} (h : IntBlk w p l) (hm : m = l.length) (hmm : m ≤ maxLen) : IRow 0 w (some ⟨p, 0, none⟩) m l := by
  obtain ⟨cur, h1, h2, h3, h4⟩ := h
  subst hm
  refine ⟨by simp, .inr ⟨p, l.length, cur, rfl, Nat.zero_le _, h1, Nat.le_refl _, hmm, h2, ?_⟩⟩
  apply List.ext_getElem?
  intro i
  rcases Nat.lt_or_ge i l.length with hi | hi
  · have a := h4 i l[i] 0 l[i] (List.getElem?_eq_getElem hi) rfl
    rw [List.getElem?_take, if_pos (by simpa using hi), List.getElem?_map, List.getElem?_eq_getElem hi]
    simpa using a
  · rw [List.getElem?_take, if_neg (by simpa using hi)]
    exact (List.getElem?_eq_none (by simpa using hi)).symm
theorem sep_ic {b b' : Nat} {w : World} {t z : Option Addr} {ct cz k : Nat} {S : List Int} {Z : List Cl} (hi : IRow b w t ct S) (hr : ClRow b' w z cz Z) (e : t = some ⟨k, 0, none⟩) (e2 : z = some ⟨k, 0, none⟩) : False :=
  int_ne_row hi hr k (by rw [e]; rfl) e2
theorem sep_ib {b p k : Nat} {w : World} {t : Option Addr} {ct : Nat} {S : List Int} {v : Value} (hi : IRow b w t ct S) (hp : w.heap[p]? = some (.cells #[v] 28)) (e : t = some ⟨k, 0, none⟩) : k ≠ p := fun e2 => int_ne_box hi hp k (by rw [e]; rfl) e2
/-- What lies while two answers are held against each other. -/
structure LA (W w : World) (x : Option Addr) (n cap : Nat) (p10 p12 p14 : Nat) (y : Option Addr) (cy g : Nat) (z : Option Addr) (cz : Nat) (A X Z : List Cl) (u : Option Addr) (cu h m : Nat) (t : Option Addr) (ct : Nat) (T V S : List Int) : Prop where
  low : Below W.heap.size W w
  box3 : w.heap[W.heap.size]? = some (.cells #[.slice x n cap] 24)
  box10 : w.heap[p10]? = some (.cells #[.slice y A.length cy] 28)
  box12 : w.heap[p12]? = some (.cells #[.slice (some ⟨g, 0, none⟩) n n] 28)
  box14 : w.heap[p14]? = some (.cells #[.slice z A.length cz] 28)
  rowY : ClRow 0 w y cy A
  rowX : ClRow 0 w (some ⟨g, 0, none⟩) n X
  rowZ : ClRow 0 w z cz Z
  iU : IRow 0 w u cu T
  iV : IRow 0 w (some ⟨h, 0, none⟩) m V
  iT : IRow 0 w t ct S
  gw : W.heap.size < g
  hw : W.heap.size < h
  zw : ∀ k, z = some ⟨k, 0, none⟩ → W.heap.size < k
  tw : ∀ k, t = some ⟨k, 0, none⟩ → W.heap.size < k
  yg : ∀ k, y = some ⟨k, 0, none⟩ → k ≠ g
  zg : ∀ k, z = some ⟨k, 0, none⟩ → k ≠ g
  yz : ∀ k, y = some ⟨k, 0, none⟩ → z ≠ some ⟨k, 0, none⟩
  uh : ∀ k, u = some ⟨k, 0, none⟩ → k ≠ h
  th : ∀ k, t = some ⟨k, 0, none⟩ → k ≠ h
  ut : ∀ k, u = some ⟨k, 0, none⟩ → t ≠ some ⟨k, 0, none⟩
section
variable {W w w' : World} {x : Option Addr} {n cap p10 p12 p14 : Nat} {y : Option Addr} {cy g : Nat} {z : Option Addr} {cz : Nat} {A X Z X' Z' : List Cl} {u : Option Addr} {cu h m : Nat} {t : Option Addr} {ct : Nat} {T V S V' S' : List Int}
theorem LA.next (a : LA W w x n cap p10 p12 p14 y cy g z cz A X Z u cu h m t ct T V S) (hb : Below w.heap.size w w') : LA W w' x n cap p10 p12 p14 y cy g z cz A X Z u cu h m t ct T V S :=
  { a with low := grow_next a.low hb, box3 := blk_next hb a.box3, box10 := blk_next hb a.box10, box12 := blk_next hb a.box12, box14 := blk_next hb a.box14, rowY := a.rowY.next hb, rowX := a.rowX.next hb, rowZ := a.rowZ.next hb, iU := a.iU.next hb, iV := a.iV.next hb, iT := a.iT.next hb }
theorem LA.markX (a : LA W w x n cap p10 p12 p14 y cy g z cz A X Z u cu h m t ct T V S) (hr : ClRow 0 w' (some ⟨g, 0, none⟩) n X') (hg : w.grownBy w' (some g)) : LA W w' x n cap p10 p12 p14 y cy g z cz A X' Z u cu h m t ct T V S :=
  { a with
    low := a.low.grown hg a.low.size (fun j hj => by cases hj; exact Nat.le_of_lt a.gw)
    box3 := box_keep a.box3 hg (fun e => by have := a.gw; simp only [Option.some.injEq] at e; omega)
    box10 := box_keep a.box10 hg (fun e => a.rowX.ne_box a.box10 (by simpa using e.symm))
    box12 := box_keep a.box12 hg (fun e => a.rowX.ne_box a.box12 (by simpa using e.symm))
    box14 := box_keep a.box14 hg (fun e => a.rowX.ne_box a.box14 (by simpa using e.symm))
    rowY := a.rowY.keep hg (fun k e e2 => a.yg k e (by simpa using e2.symm))
    rowX := hr
    rowZ := a.rowZ.keep hg (fun k e e2 => a.zg k e (by simpa using e2.symm))
    iU := a.iU.keep hg (fun k e e2 => sep_ic a.iU a.rowX e (by rw [show k = g by simpa using e2]))
    iV := a.iV.keep hg (fun k e e2 => sep_ic a.iV a.rowX e (by rw [show k = g by simpa using e2]))
    iT := a.iT.keep hg (fun k e e2 => sep_ic a.iT a.rowX e (by rw [show k = g by simpa using e2])) }
theorem LA.markV (a : LA W w x n cap p10 p12 p14 y cy g z cz A X Z u cu h m t ct T V S) (hr : IRow 0 w' (some ⟨h, 0, none⟩) m V') (hg : w.grownBy w' (some h)) : LA W w' x n cap p10 p12 p14 y cy g z cz A X Z u cu h m t ct T V' S :=
  { a with
    low := a.low.grown hg a.low.size (fun j hj => by cases hj; exact Nat.le_of_lt a.hw)
    box3 := box_keep a.box3 hg (fun e => by have := a.hw; simp only [Option.some.injEq] at e; omega)
    box10 := box_keep a.box10 hg (fun e => sep_ib a.iV a.box10 rfl (by simpa using e.symm))
    box12 := box_keep a.box12 hg (fun e => sep_ib a.iV a.box12 rfl (by simpa using e.symm))
    box14 := box_keep a.box14 hg (fun e => sep_ib a.iV a.box14 rfl (by simpa using e.symm))
    rowY := a.rowY.keep hg (fun k e e2 => sep_ic a.iV a.rowY rfl (by rw [e, show h = k by simpa using e2]))
    rowX := a.rowX.keep hg (fun k e e2 => sep_ic a.iV a.rowX rfl (by rw [e, show h = k by simpa using e2]))
    rowZ := a.rowZ.keep hg (fun k e e2 => sep_ic a.iV a.rowZ rfl (by rw [e, show h = k by simpa using e2]))
    iU := a.iU.keep hg (fun k e e2 => a.uh k e (by simpa using e2))
    iV := hr
    iT := a.iT.keep hg (fun k e e2 => a.th k e (by simpa using e2)) }
theorem LA.markZ (a : LA W w x n cap p10 p12 p14 y cy g z cz A X Z u cu h m t ct T V S) (hr : ClRow 0 w' z cz Z') (hg : w.grownBy w' (z.map (·.block))) : LA W w' x n cap p10 p12 p14 y cy g z cz A X Z' u cu h m t ct T V S :=
  { a with
    low := a.low.grown hg a.low.size (fun j hj => Nat.le_of_lt (a.zw j (a.rowZ.own hj)))
    box3 := box_keep a.box3 hg (fun e => by have := a.zw _ (a.rowZ.own e.symm); omega)
    box10 := box_keep a.box10 hg (fun e => clRow_boxA (a.rowZ.own e.symm ▸ a.rowZ) a.box10 rfl)
    box12 := box_keep a.box12 hg (fun e => clRow_boxA (a.rowZ.own e.symm ▸ a.rowZ) a.box12 rfl)
    box14 := box_keep a.box14 hg (fun e => clRow_boxA (a.rowZ.own e.symm ▸ a.rowZ) a.box14 rfl)
    rowY := a.rowY.keep hg (fun k e e2 => a.yz k e (a.rowZ.own e2))
    rowX := a.rowX.keep hg (fun k e e2 => a.zg k (a.rowZ.own e2) (by simpa using e.symm))
    rowZ := hr
    iU := a.iU.keep hg (fun k e e2 => sep_ic a.iU a.rowZ e (a.rowZ.own e2.symm))
    iV := a.iV.keep hg (fun k e e2 => sep_ic a.iV a.rowZ e (a.rowZ.own e2.symm))
    iT := a.iT.keep hg (fun k e e2 => sep_ic a.iT a.rowZ e (a.rowZ.own e2.symm)) }
theorem LA.markT (a : LA W w x n cap p10 p12 p14 y cy g z cz A X Z u cu h m t ct T V S) (hr : IRow 0 w' t ct S') (hg : w.grownBy w' (t.map (·.block))) : LA W w' x n cap p10 p12 p14 y cy g z cz A X Z u cu h m t ct T V S' :=
  { a with
    low := a.low.grown hg a.low.size (fun j hj => Nat.le_of_lt (a.tw j (a.iT.own hj)))
    box3 := box_keep a.box3 hg (fun e => by have := a.tw _ (a.iT.own e.symm); omega)
    box10 := box_keep a.box10 hg (fun e => sep_ib a.iT a.box10 (a.iT.own e.symm) rfl)
    box12 := box_keep a.box12 hg (fun e => sep_ib a.iT a.box12 (a.iT.own e.symm) rfl)
    box14 := box_keep a.box14 hg (fun e => sep_ib a.iT a.box14 (a.iT.own e.symm) rfl)
    rowY := a.rowY.keep hg (fun k e e2 => sep_ic a.iT a.rowY (a.iT.own e2) e)
    rowX := a.rowX.keep hg (fun k e e2 => sep_ic a.iT a.rowX (a.iT.own e2) e)
    rowZ := a.rowZ.keep hg (fun k e e2 => sep_ic a.iT a.rowZ (a.iT.own e2) e)
    iU := a.iU.keep hg (fun k e e2 => a.ut k e (a.iT.own e2.symm))
    iV := a.iV.keep hg (fun k e e2 => a.th k (a.iT.own e2.symm) (by simpa using e.symm))
    iT := hr }
end
theorem resA_len (l : List Cl) (ids : List Int) (start gap : Int) : (resA l ids start gap).length ≤ 50 := by
  unfold resA
  split
  · rename_i h
    unfold allOk at h
    rw [Bool.and_eq_true] at h
    exact (limOk_iff.1 (allC_ok h.1 ids start gap _)).2.2
  · exact Nat.zero_le _
theorem resT_len (l : List Cl) (ids : List Int) (start gap : Int) : (resT l ids start gap).length ≤ 200 := by
  unfold resT
  split
  · rename_i h
    unfold allOk at h
    rw [Bool.and_eq_true, Bool.and_eq_true] at h
    rw [allT_len]
    exact of_decide_eq_true h.2.1
  · exact Nat.zero_le _
set_option maxHeartbeats 8000000 in
theorem xcall_walk (W : World) (x : Option Addr) (n cap : Nat) (l : List Cl) (h : Hid (n = l.length) ∧ n ≤ cap ∧ cap ≤ maxLen ∧ Cls W.heap.size W x l) (v : Option Addr) (m capv : Nat) (ids : List Int) (hv : Hid (m = ids.length) ∧ m ≤ capv ∧ capv ≤ maxLen ∧ IntsAt W.heap.size W v ids) (start : Int) (wst : (Lit.int .i64 start).wf = true) (gap : Int) (wg : (Lit.int .i64 gap).wf = true) :
    Calls Try.prog 4 #[.agg #[.slice x n cap], .slice v m capv, .int .i64 start, .int .i64 gap] W fun e w' => e = .returned (.bool true) ∧ Below W.heap.size W w' := by
  obtain ⟨hn, hnc, hcm, hr⟩ := h
  obtain ⟨him, hmc, hmv, hri⟩ := hv
  have hnm : n ≤ maxLen := Nat.le_trans hnc hcm
  have hmm : m ≤ maxLen := Nat.le_trans hmc hmv
  obtain ⟨s0, s1⟩ := bounds_i64 wst
  have HZ := Lib.hid (fun W => szLimiter_c n hnm x cap W)
  have B0 : Below W.heap.size W (W.alloc (.cells #[.slice x n cap] 24)) := below_new _ _
  have Q0 := blk_new W (.cells #[.slice x n cap] 24)
  clear wst wg
  go_enter Try.func4, Try.ntmps4
  go_upto_region 1 with (fail)
  generalize W.alloc (.cells #[.slice x n cap] 24) = W0 at *
  obtain ⟨q0, _⟩ := one_cell Q0
  by_cases hm1 : m ≤ 1048576
  · have hmd : decide ((1048576 : Int) < (m : Int)) = false := decide_eq_false (by omega)
    go_wp2_with fail
    refine (HZ.out _).mono ?_
    rintro e w0 ⟨rfl, hb0⟩
    have b0 := grow_next B0 hb0
    have Q1 := blk_next hb0 Q0
    clear q0 Q0 hb0 B0
    by_cases hneg : (1048576 : Int) - (n : Int) < 0
    · have hL : leftOf 1048576 n = -1 := if_pos hneg
      rw [hL]
      clear hneg
      go_wp2_with fail
      go_returns
      exact ⟨rfl, b0⟩
    · have hL : leftOf 1048576 n = 1048576 - n := if_neg hneg
      rw [hL]
      have hd : decide ((1048576 : Int) - (n : Int) < 0) = false := decide_eq_false hneg
      have hn1 : n ≤ 1048576 := by omega
      have HT := Lib.hid (fun w h => toLimiter_c l n hn hn1 x cap w h)
      have HTI : Hid (∀ w, IntsAt w.heap.size w v ids → Calls Try.prog 19 #[.slice v m capv] w fun e w' => ∃ p, e = .returned (.slice (some ⟨p, 0, none⟩) m m) ∧ w.heap.size ≤ p ∧ IntBlk w' p ids ∧ Below w.heap.size w w') := Lib.hid (fun w h => (toInts_c ids m him hm1 v capv w h).mono fun e w' ⟨p, e1, a, b, c⟩ => ⟨p, by rw [e1, ← him.out], a, b, c⟩)
      have HS := Lib.hid (fun g p w h hi => cameAll_spec l ids n m hn him hnm hmm start gap s0 s1 (some ⟨g, 0, none⟩) (some ⟨p, 0, none⟩) n m (fun e => by cases e) w h hi)
      have HI := Lib.hid (fun g p w h hi => cameAll_impl l ids n m hn him hnm hmm start gap s0 s1 (some ⟨g, 0, none⟩) (some ⟨p, 0, none⟩) n m w h hi)
      have HE := Lib.hid (fun x y cap cap' w h h' => eqLimiter_c l n hn hnm x y cap cap' w h h')
      have HEI := Lib.hid (fun x y cap cap' w h h' => eqInts_c ids m him hmm x y cap cap' w h h')
      have hA50 := resA_len l ids start gap
      have hT200 := resT_len l ids start gap
      obtain ⟨A, hA⟩ : ∃ A, resA l ids start gap = A := ⟨_, rfl⟩
      obtain ⟨T, hT⟩ : ∃ T, resT l ids start gap = T := ⟨_, rfl⟩
      rw [hA, hT] at HS HI
      rw [hA] at hA50
      rw [hT] at hT200
      unfold AllOut at HS HI
      have HQ := Lib.hid (fun x y cap cap' w h h' => eqLimiter_c A A.length (Lib.hid rfl) (by unfold maxLen; omega) x y cap cap' w h h')
      have HQI := Lib.hid (fun x y cap cap' w h h' => eqInts_c T T.length (Lib.hid rfl) (by unfold maxLen; omega) x y cap cap' w h h')
      clear hneg hA hT HZ hL
      have r0 := hr.next b0
      obtain ⟨q1, _⟩ := one_cell Q1
      go_wp2_with fail
      refine (HT.out _ r0).mono ?_
      rintro e w1 ⟨g1, rfl, t1, _, hb1⟩
      have b1 := grow_next b0 hb1
      have Q2 := blk_next hb1 Q1
      go_wp2_with fail
      refine (HTI.out _ (hri.next b1)).mono ?_
      rintro e w1b ⟨p1, rfl, _, k1, hb1b⟩
      have b1b := grow_next b1 hb1b
      have Q2b := blk_next hb1b Q2
      have t1b := t1.next hb1b
      clear q1 Q1 r0 Q2 t1 hb1 b1 hb1b
      go_wp2_with fail
      refine (HS.out _ _ _ t1b.cls k1.ints).mono ?_
      rintro e w2 ⟨y, cy, u, cu, rfl, hry, hru, hb2⟩
      have b2 := grow_next b1b hb2
      have Q3 := blk_alloc (blk_next hb2 Q2b) (.cells #[.slice y A.length cy] 28)
      have N8 := blk_new w2 (.cells #[.slice y A.length cy] 28)
      have B8 := b2.alloc b2.size (.cells #[.slice y A.length cy] 28)
      have hryl : ∀ k, y = some ⟨k, 0, none⟩ → k < w2.heap.size := fun k e => (e ▸ hry).lt.2
      have hrul : ∀ k, u = some ⟨k, 0, none⟩ → k < w2.heap.size := fun k e => hru.lt k e
      have Y8 : ClRow 0 (w2.alloc (.cells #[.slice y A.length cy] 28)) y cy A := ownsRow_base_le (hry.next (below_new w2 _)) (Nat.zero_le _)
      have U8 : IRow 0 (w2.alloc (.cells #[.slice y A.length cy] 28)) u cu T := ownsRow_base_le (hru.next (below_new w2 _)) (Nat.zero_le _)
      have s8 : W.heap.size < w2.heap.size := (Array.getElem?_eq_some_iff.1 (blk_next hb2 Q2b)).1
      have hs8 : w2.heap.size < (w2.alloc (.cells #[.slice y A.length cy] 28)).heap.size := by simp
      obtain ⟨p8, hp8⟩ : ∃ p, w2.heap.size = p := ⟨_, rfl⟩
      obtain ⟨q3, _⟩ := one_cell Q3
      clear t1b k1 Q2b hry hru b2 hb2 b1b
      go_upto_region 8 with fail
      obtain ⟨w3, hw3⟩ : ∃ w, w = w2.alloc (.cells #[.slice y A.length cy] 28) := ⟨_, rfl⟩
      rw [hp8] at N8 hryl hrul s8 hs8
      rw [← hw3] at Q3 N8 B8 Y8 U8 hs8 q3
      rw [← hw3]
      try rw [hp8]
      clear hw3 hp8
      go_wp2_with fail
      refine (HT.out _ (hr.next B8)).mono ?_
      rintro e w4 ⟨g, rfl, t4, hg4, hb4⟩
      have b4 := grow_next B8 hb4
      have Q5 := blk_alloc (blk_next hb4 Q3) (.cells #[.slice (some ⟨g, 0, none⟩) n n] 28)
      have N85 := blk_alloc (blk_next hb4 N8) (.cells #[.slice (some ⟨g, 0, none⟩) n n] 28)
      have N11 := blk_new w4 (.cells #[.slice (some ⟨g, 0, none⟩) n n] 28)
      have B11 := b4.alloc b4.size (.cells #[.slice (some ⟨g, 0, none⟩) n n] 28)
      have Y11 := (Y8.next hb4).next (below_new w4 (.cells #[.slice (some ⟨g, 0, none⟩) n n] 28))
      have U11 := (U8.next hb4).next (below_new w4 (.cells #[.slice (some ⟨g, 0, none⟩) n n] 28))
      have hgl : g < w4.heap.size := TabAt.lt t4
      have t11 := t4.next (below_new w4 (.cells #[.slice (some ⟨g, 0, none⟩) n n] 28))
      have s11 : p8 < w4.heap.size := (Array.getElem?_eq_some_iff.1 (blk_next hb4 N8)).1
      have hs11 : w4.heap.size < (w4.alloc (.cells #[.slice (some ⟨g, 0, none⟩) n n] 28)).heap.size := by simp
      obtain ⟨p11, hp11⟩ : ∃ p, w4.heap.size = p := ⟨_, rfl⟩
      clear q3 Q3 N8 Y8 U8 b4 hb4 t4
      go_upto_region 9 with fail
      obtain ⟨w5, hw5⟩ : ∃ w, w = w4.alloc (.cells #[.slice (some ⟨g, 0, none⟩) n n] 28) := ⟨_, rfl⟩
      rw [hp11] at N11 hgl s11 hs11
      rw [← hw5] at Q5 N85 N11 B11 Y11 U11 t11 hs11
      rw [← hw5]
      try rw [hp11]
      clear hw5 hp11
      go_wp2_with fail
      refine (HTI.out _ (hri.next B11)).mono ?_
      rintro e w5b ⟨h, rfl, hh5, k5, hb5⟩
      have Q6 := blk_next hb5 Q5
      have N86 := blk_next hb5 N85
      have N12 := blk_next hb5 N11
      have B12 := grow_next B11 hb5
      have Y12 := Y11.next hb5
      have U12 := U11.next hb5
      have t12 := t11.next hb5
      have hhl : h < w5b.heap.size := IntBlk.lt k5
      have hs5b := hb5.size
      obtain ⟨c12, _⟩ := one_cell N12
      clear Q5 N85 N11 B11 Y11 U11 t11 hb5
      go_wp2_with fail
      refine (HI.out _ _ _ t12.cls k5.ints).mono ?_
      rintro e w6 ⟨z, cz, t, ct, rfl, hrz, hrt, hb6⟩
      have b6 := grow_next B12 hb6
      have hzl : ∀ k, z = some ⟨k, 0, none⟩ → w5b.heap.size ≤ k := fun k e => (e ▸ hrz).lt.1
      have htl : ∀ k, t = some ⟨k, 0, none⟩ → w5b.heap.size ≤ k := fun k e => hrt.ge k e
      have s12 : p11 < w6.heap.size := (Array.getElem?_eq_some_iff.1 (blk_next hb6 N12)).1
      have L12 : LA W (w6.alloc (.cells #[.slice z A.length cz] 28)) x n cap p8 p11 w6.heap.size y cy g z cz A l A u cu h m t ct T ids T :=
        { low := b6.alloc b6.size _
          box3 := blk_alloc (blk_next hb6 Q6) _
          box10 := blk_alloc (blk_next hb6 N86) _
          box12 := blk_alloc (blk_next hb6 N12) _
          box14 := blk_new w6 _
          rowY := (Y12.next hb6).next (below_new w6 _)
          rowX := ((t12.next hb6).next (below_new w6 _)).row hn.out hnm
          rowZ := ownsRow_base_le (hrz.next (below_new w6 _)) (Nat.zero_le _)
          iU := (U12.next hb6).next (below_new w6 _)
          iV := ((k5.next hb6).next (below_new w6 _)).irow him.out hmm
          iT := ownsRow_base_le (hrt.next (below_new w6 _)) (Nat.zero_le _)
          gw := by omega
          hw := by omega
          zw := fun k e => by have := hzl k e; omega
          tw := fun k e => by have := htl k e; omega
          yg := fun k e => by have := hryl k e; omega
          zg := fun k e => by have := hzl k e; omega
          yz := fun k e e2 => by have := hzl k e2; have := hryl k e; omega
          uh := fun k e => by have := hrul k e; omega
          th := fun k e => by have := htl k e; omega
          ut := fun k e e2 => by have := htl k e2; have := hrul k e; omega }
      obtain ⟨p12, hp12⟩ : ∃ p, w6.heap.size = p := ⟨_, rfl⟩
      clear Q6 N86 N12 B12 Y12 U12 t12 c12 hrz hrt hb6 b6 hzl htl hryl hrul s8 hs8 s11 hs11 hgl hhl hg4 hh5 B8 k5 hs5b s12
      rw [hp12] at L12
      go_upto_region 11 with fail
      obtain ⟨w7, hw7⟩ : ∃ w, w = w6.alloc (.cells #[.slice z A.length cz] 28) := ⟨_, rfl⟩
      rw [← hw7] at L12
      rw [← hw7]
      try rw [hp12]
      clear hw7 hp12
      have c14 := (one_cell L12.box14).1
      have c10 := (one_cell L12.box10).1
      go_wp2_with fail
      refine (HQ.out _ _ _ _ _ L12.rowZ.cls L12.rowY.cls).mono ?_
      rintro e w8 ⟨rfl, hb8⟩
      have L13 := L12.next hb8
      clear L12 hb8 c14 c10
      go_wp2_with fail
      refine (HQI.out _ _ _ _ _ L13.iT.ints L13.iU.ints).mono ?_
      rintro e w8b ⟨rfl, hb8⟩
      have L13b := (L13.next hb8).next (below_drewA w8b)
      clear L13 hb8
      go_wp2_with fail
      generalize hW6 : w8b.drew = W6 at *
      have q6 := (one_cell L13b.box3).1
      have x6 := (one_cell L13b.box12).1
      have HA := Lib.hid (hr.next L13b.low)
      go_region_with (first
        | (go_at_call 13; (with_reducible refine (HT.out _ HA.out).mono ?_); rintro e w9 ⟨g9, rfl, t9, _, hb9⟩; have L14 := L13b.next hb9; have q7 := (one_cell L14.box3).1; have x7 := (one_cell L14.box12).1)
        | (go_at_call 15; (with_reducible refine (HE.out _ _ _ _ _ L14.rowX.cls t9.cls).mono ?_); rintro e w10 ⟨rfl, hb10⟩; have L15 := L14.next hb10))
      all_goals
        clear L13b L14 q6 x6 q7 x7 t9 hb9 hb10 HA
        go_wp2_with fail
        refine (HTI.out _ (hri.next L15.low)).mono ?_
        rintro e w11 ⟨h11, rfl, _, k11, hb11⟩
        have L16 := L15.next hb11
        clear L15 hb11
        go_wp2_with fail
        refine (HEI.out _ _ _ _ _ L16.iV.ints k11.ints).mono ?_
        rintro e w12 ⟨rfl, hb12⟩
        have L17 := L16.next hb12
        clear L16 hb12 k11
        have c12 := (one_cell L17.box12).1
        go_wp2_with fail
        refine (markLimiter_c l n hn hn1 1 (by omega) (by omega) _ _ _ _ L17.rowX).mono ?_
        rintro e w13 ⟨rfl, hrx, hgx⟩
        have L18 := L17.markX hrx hgx
        clear L17 hrx hgx c12
        go_wp2_with fail
        refine (markIRowB_c ids m him hm1 (1 + 3 * (n : Int)) (by omega) (by omega) _ _ _ _ L18.iV).mono ?_
        rintro e w14 ⟨rfl, hrv, hgv⟩
        have L19 := L18.markV hrv hgv
        clear L18 hrv hgv
        have e0 : decide ((1 : Int) + 3 * (n : Int) + (m : Int) < 0) = false := decide_eq_false (by omega)
        have c14 := (one_cell L19.box14).1
        have c10 := (one_cell L19.box10).1
        go_wp2_with fail
        refine (HQ.out _ _ _ _ _ L19.rowZ.cls L19.rowY.cls).mono ?_
        rintro e w15 ⟨rfl, hb15⟩
        have L20 := L19.next hb15
        clear L19 hb15 c14 c10
        go_wp2_with fail
        refine (HQI.out _ _ _ _ _ L20.iT.ints L20.iU.ints).mono ?_
        rintro e w16 ⟨rfl, hb16⟩
        have L21 := L20.next hb16
        clear L20 hb16
        have c14 := (one_cell L21.box14).1
        go_wp2_with fail
        refine (markLimiter_c A A.length (Lib.hid rfl) (by omega) 1 (by omega) (by omega) _ _ _ _ L21.rowZ).mono ?_
        rintro e w17 ⟨rfl, hrz, hgz⟩
        have L22 := L21.markZ hrz hgz
        clear L21 hrz hgz c14
        go_wp2_with fail
        refine (markIRowB_c T T.length (Lib.hid rfl) (by omega) (1 + 3 * (A.length : Int)) (by omega) (by omega) _ _ _ _ L22.iT).mono ?_
        rintro e w18 ⟨rfl, hrt, hgt⟩
        have L23 := L22.markT hrt hgt
        clear L22 hrt hgt
        have e1 : decide ((1 : Int) + 3 * (A.length : Int) < 0) = false := decide_eq_false (by omega)
        have e2 : decide ((1 : Int) + 3 * (A.length : Int) + (T.length : Int) < 0) = false := decide_eq_false (by omega)
        have c14 := (one_cell L23.box14).1
        go_wp2_with fail
        refine (heldLimiter_c A.length (by omega) 1 (by omega) (by omega) _ _ _ _ L23.rowZ).mono ?_
        rintro e w19 ⟨rfl, hb19⟩
        have L24 := L23.next hb19
        clear L23 hb19 c14
        go_wp2_with fail
        refine (heldIRowB_c T.length (by omega) (1 + 3 * (A.length : Int)) (by omega) (by omega) _ _ _ _ L24.iT).mono ?_
        rintro e w20 ⟨rfl, rfl⟩
        have c3 := (one_cell L24.box3).1
        go_wp2_with fail
        refine (HT.out _ (hr.next L24.low)).mono ?_
        rintro e w21 ⟨g21, rfl, t21, _, hb21⟩
        have L25 := L24.next hb21
        clear L24 hb21 c3
        go_wp2_with fail
        refine (HTI.out _ (hri.next L25.low)).mono ?_
        rintro e w22 ⟨h22, rfl, _, k22, hb22⟩
        have L26 := L25.next hb22
        have t22 := t21.next hb22
        clear L25 hb22 t21
        go_wp2_with fail
        refine (HI.out _ _ _ t22.cls k22.ints).mono ?_
        rintro e w23 ⟨a, ca, b, cb, rfl, hra, hrb, hb23⟩
        have L27 := (L26.next hb23).next (below_new w23 (.cells #[.slice a A.length ca] 28))
        have V27 := blk_new w23 (.cells #[.slice a A.length ca] 28)
        have R27 := hra.next (below_new w23 (.cells #[.slice a A.length ca] 28))
        have I27 := hrb.next (below_new w23 (.cells #[.slice a A.length ca] 28))
        have hp8' : p8 < w23.heap.size := (Array.getElem?_eq_some_iff.1 (L26.next hb23).box10).1
        clear L26 hb23 t22 k22 hra hrb
        have c19 := (one_cell V27).1
        have c10 := (one_cell L27.box10).1
        go_wp2_with fail
        refine (HQ.out _ _ _ _ _ R27.cls L27.rowY.cls).mono ?_
        rintro e w24 ⟨rfl, hb24⟩
        have L28 := L27.next hb24
        have I28 := I27.next hb24
        clear L27 hb24 c19 c10 R27 V27 I27
        go_wp2_with fail
        refine (HQI.out _ _ _ _ _ I28.ints L28.iU.ints).mono ?_
        rintro e w25 ⟨rfl, hb25⟩
        have L29 := L28.next hb25
        clear L28 hb25 I28
        have c14 := (one_cell L29.box14).1
        go_wp2_with fail
        refine (heldLimiter_c A.length (by omega) 1 (by omega) (by omega) _ _ _ _ L29.rowZ).mono ?_
        rintro e w26 ⟨rfl, hb26⟩
        have L30 := L29.next hb26
        clear L29 hb26 c14
        go_wp2_with fail
        refine (heldIRowB_c T.length (by omega) (1 + 3 * (A.length : Int)) (by omega) (by omega) _ _ _ _ L30.iT).mono ?_
        rintro e w27 ⟨rfl, rfl⟩
        go_wp2_with fail
        go_returns
        exact ⟨rfl, L30.low⟩
  · have hmd : decide ((1048576 : Int) < (m : Int)) = true := decide_eq_true (by omega)
    go_wp2_with fail
    go_returns
    exact ⟨rfl, B0⟩
set_option maxRecDepth 100000 in
theorem xcall_lifted (os : Os) (started : os.Started) (H : Type) (enc : TypeId × Value → H) :
    ReturnsInHanded {} Try.checked os 4 .any (Rows.fnExactCameAllSpec.pre6 enc Try.prog Try.f4 Rows.fnExactCameAllRow.domain false) (Rows.fnExactCameAllSpec.post enc Try.prog Try.f4 false true false false) := by
  refine lifted_of_walk (C := Try.checked) own started (by as_aux_lemma => kernel_rfl) Try.func4
    (ChangeSpec.witness6 (enc := enc) (C := Try.checked) false ⟨#[], #[.agg #[.slice none 0 0], .slice none 0 0, .int .i64 0, .int .i64 0], []⟩ 8 (by as_aux_lemma => kernel_rfl) (by as_aux_lemma => kernel_rfl) (by as_aux_lemma => kernel_rfl) (by as_aux_lemma => kernel_rfl) (by as_aux_lemma => kernel_rfl))
    laidOut rfl (by as_aux_lemma => kernel_rfl) (by as_aux_lemma => kernel_rfl) boolType
    (fun ds h => by
      match ds, h with
      | [_, _, _, _], _ => rfl)
    ?_
  intro W base args ds q hval hA
  rw [Try.params4] at hA hval
  obtain ⟨v0, vs0, d0, ds0, p0, q0, hargs, rfl, rfl, h0, r0⟩ := trodAll_cons hA
  obtain ⟨v1, vs1, d1, ds1, p1, q1, rfl, rfl, rfl, h1, r1⟩ := trodAll_cons r0
  obtain ⟨v2, vs2, d2, ds2, p2, q2, rfl, rfl, rfl, h2, r2⟩ := trodAll_cons r1
  obtain ⟨v3, vs3, d3, ds3, p3, q3, rfl, rfl, rfl, h3, r3⟩ := trodAll_cons r2
  obtain ⟨rfl, rfl, rfl⟩ := trodAll_nil r3
  obtain rfl : args = #[v0, v1, v2, v3] := by cases args; simp_all
  obtain ⟨a0, len0, cap0, z0, rfl, w0⟩ := open_limiter (hval 0 24 v0 rfl rfl) h0
  obtain ⟨a1, len1, cap1, z1, rfl, w1⟩ := open_i64s (hval 1 35 v1 rfl rfl) h1
  obtain ⟨a2, rfl, rfl, rfl, w2⟩ := open_int Try.underlying2 (hval 2 2 v2 rfl rfl) h2
  obtain ⟨a3, rfl, rfl, rfl, w3⟩ := open_int Try.underlying2 (hval 3 2 v3 rfl rfl) h3
  exact xcall_walk W a0 len0 cap0 z0 w0 a1 len1 cap1 z1 w1 a2 w2 a3 w3

set_option maxHeartbeats 4000000 in
theorem xcall_facts : joinedFacts Try.pinned.checked.prog 4 Try.f4 Rows.fnExactCameAllSpec Rows.fnExactCameAllRow = true :=
  facts_of (P := Try.prog) (by as_aux_lemma => kernel_rfl) laidOut mapsRow (by as_aux_lemma => kernel_rfl) (by as_aux_lemma => kernel_rfl) rfl noStops rfl noKnobs (by as_aux_lemma => kernel_rfl) (by as_aux_lemma => kernel_rfl) (by as_aux_lemma => kernel_rfl) (by as_aux_lemma => kernel_rfl) (by as_aux_lemma => kernel_rfl) (by as_aux_lemma => kernel_rfl) (by as_aux_lemma => kernel_rfl) (by as_aux_lemma => kernel_rfl) (by as_aux_lemma => kernel_rfl) rfl (by as_aux_lemma => kernel_rfl) (by as_aux_lemma => kernel_rfl) (by as_aux_lemma => kernel_rfl) keysPlain rfl heard enters finals isMake rfl rfl rfl (by as_aux_lemma => kernel_rfl) (by as_aux_lemma => kernel_rfl)

/-- The given statement. -/
theorem xcall_holds : Rows.FnExactCameAllSaid :=
  OpenClaim.holds_of_wide 4 Try.f4 rfl rfl rfl rfl rfl rfl rfl ⟨rfl, rfl, rfl, rfl, rfl⟩ rfl rfl rfl rfl rfl (by as_aux_lemma => kernel_rfl) Try.func4 xcall_facts
    (of_decide_eq_true (by as_aux_lemma => kernel_rfl)) (by unfold Func.isWrapper; first | (rw [if_pos (by decide +kernel)]; kernel_rfl) | (rw [if_neg (by decide +kernel)]; exact ⟨rfl, rfl⟩))
    (fun os started H enc _ => xcall_lifted os started H enc)
#print axioms xcall_holds
end Go.Proofs.Ytckonbbdeohccaa
