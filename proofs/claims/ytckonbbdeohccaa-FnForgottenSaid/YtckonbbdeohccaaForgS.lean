/- Clients forgotten: the reference's way. -/
import Derived.Test.YtckonbbdeohccaaForgI
import Derived.Test.YtckonbbdeohccaaSliceC
import Derived.Test.YtckonbbdeohccaaNdOkS
import Derived.Lib.QuietBelow
import Derived.Deep.RegionLaw
import Derived.Deep.Cut
import Derived.Deep.CutRange
namespace Go.Proofs.Ytckonbbdeohccaa
open Go.ChangeShapes Go.WideShapes Go.ChangeAt Go.RowKit Go.Maps
set_option linter.unusedVariables false
set_option linter.unusedSimpArgs false
set_option maxRecDepth 100000

theorem stay_next {l : List Cl} {k : Nat} {v : Cl} (h : l[k]? = some v) (now : Int) : stayC (l.take (k + 1)) now = if goneC now v = true then stayC (l.take k) now else stayC (l.take k) now ++ [v] := by
  unfold stayC
  rw [take_nextC h, List.filter_append]
  cases hg : goneC now v <;> simp [List.filter, hg]
theorem gone_iff {c : Cl} {now : Int} : goneC now c = !decide (now < c.last + c.score) := by
  unfold goneC leftC
  by_cases h : now < c.last + c.score
  · rw [decide_eq_true h, show max (c.score - (now - c.last)) 0 = c.score - (now - c.last) by omega]
    simp
    omega
  · rw [decide_eq_false h, show max (c.score - (now - c.last)) 0 = 0 by omega]
    rfl
theorem grown_drawn (w : World) (d : Nat) : w.grownBy { w with drawn := d } none := ⟨rfl, rfl, rfl, Nat.le_refl _, fun _ _ _ => rfl⟩
set_option maxHeartbeats 8000000 in
theorem forgotten_spec (l : List Cl) (n : Nat) (hn : Hid (n = l.length)) (hm : n ≤ maxLen) (now : Int) (x : Option Addr) (cap : Nat) (w : World) (h : Cls w.heap.size w x l) :
    Calls Try.prog 24 #[.agg #[.slice x n cap], .int .i64 now] w (ForgOut w (forgV l now)) := by
  have HL := Lib.hid (fun w h => limOk_spec l n hn hm x cap w h)
  have Q0 := blk_alloc (blk_alloc (blk_new w (.cells #[.slice x n cap] 28)) (.cells #[.slice none 0 0] 28)) (.cells #[.slice none 0 0] 28)
  have Q1 := blk_alloc (blk_new (w.alloc (.cells #[.slice x n cap] 28)) (.cells #[.slice none 0 0] 28)) (.cells #[.slice none 0 0] 28)
  have Q2 := blk_new ((w.alloc (.cells #[.slice x n cap] 28)).alloc (.cells #[.slice none 0 0] 28)) (.cells #[.slice none 0 0] 28)
  simp only [World.size_alloc] at Q1 Q2
  have B0 : Below w.heap.size w (((w.alloc (.cells #[.slice x n cap] 28)).alloc (.cells #[.slice none 0 0] 28)).alloc (.cells #[.slice none 0 0] 28)) := by go_grown
  obtain ⟨q, hq⟩ : ∃ q, inB 0 now 1000000000 = q := ⟨_, rfl⟩
  have HQ := Lib.hid (fun W => (hq ▸ l1In_c now 0 1000000000 W : Calls Try.prog 37 #[.int .i64 now, .int .i64 0, .int .i64 1000000000] W fun e w' => e = .returned (.bool q) ∧ W = w'))
  have HO : Hid ((limOk l && q) = false → forgV l now = none) := Lib.hid (fun e => forgV_out (by rw [hq]; exact e))
  have HI : Hid (limOk l = true → q = true → forgV l now = some (stayC l now)) := Lib.hid (fun e1 e2 => forgV_in e1 (by rw [hq]; exact e2))
  have HN : Hid (q = true → 0 ≤ now ∧ now ≤ 1000000000) := Lib.hid (fun e => inB_iff.1 (by rw [hq]; exact e))
  clear hq
  go_enter Try.func24, Try.ntmps24
  go_upto_region 2 with fail
  generalize ((w.alloc (.cells #[.slice x n cap] 28)).alloc (.cells #[.slice none 0 0] 28)).alloc (.cells #[.slice none 0 0] 28) = W at *
  obtain ⟨c0, _⟩ := one_cell Q0
  go_wp2_with fail
  refine (HL.out _ (h.next B0)).mono ?_
  rintro e w1 ⟨rfl, b1⟩
  have B1 := grow_next B0 b1
  have R0 := blk_next b1 Q0
  have R1 := blk_next b1 Q1
  have R2 := blk_next b1 Q2
  clear Q0 Q1 Q2 c0 b1 B0 HL
  have hbox : w.heap.size + 2 < w1.heap.size := (Array.getElem?_eq_some_iff.1 R2).1
  cases ho : limOk l with
  | false =>
    have HV : Hid (forgV l now = none) := Lib.hid (HO.out (by rw [ho]; rfl))
    obtain ⟨c0, c1⟩ := one_cell R1
    have V := heap_set R1 0 (.slice none 0 0)
    have G := below_setCell B1 (b := w.heap.size + 1) (by omega) 0 (.slice none 0 0)
    go_wp2_with fail
    obtain ⟨q0, _⟩ := one_cell V
    try simp only [Exit.inBlock, Exit.then]
    refine bodyPost_ret (by simp [results, Try.results24, go_sem, q0]; try rfl) rfl ?_
    exact ⟨none, 0, by rw [HV.out]; rfl, by rw [HV.out]; exact clRow_nil _ _, G⟩
  | true =>
    have HOK := Lib.hid ho
    clear ho
    go_wp2_with fail
    refine (HQ.out _).mono ?_
    rintro e w2 ⟨rfl, rfl⟩
    cases q with
    | false =>
      have HV : Hid (forgV l now = none) := Lib.hid (HO.out (by rw [HOK.out]; rfl))
      obtain ⟨c0, c1⟩ := one_cell R1
      have V := heap_set R1 0 (.slice none 0 0)
      have G := below_setCell B1 (b := w.heap.size + 1) (by omega) 0 (.slice none 0 0)
      go_wp2_with fail
      obtain ⟨q0, _⟩ := one_cell V
      try simp only [Exit.inBlock, Exit.then]
      refine bodyPost_ret (by simp [results, Try.results24, go_sem, q0]; try rfl) rfl ?_
      exact ⟨none, 0, by rw [HV.out]; rfl, by rw [HV.out]; exact clRow_nil _ _, G⟩
    | true =>
      have HV : Hid (forgV l now = some (stayC l now)) := Lib.hid (HI.out HOK.out (by trivial))
      obtain ⟨k0, k1⟩ := HN.out (by trivial)
      obtain ⟨h1, h2, h3⟩ := limOk_iff.1 HOK.out
      have hn50 : n ≤ 50 := by rw [hn.out]; exact h3
      have HCK := Lib.hid h2
      clear HO HI HN h1 h2 h3 HQ
      obtain ⟨i0, hi, hz0, hz1, hz2⟩ := info_partsT infoCl'
      have HI0 := Lib.hid hi
      have HZ0 := Lib.hid hz0
      have HZ1 := Lib.hid hz1
      have HZ2 := Lib.hid hz2
      clear hi hz0 hz1 hz2
      obtain ⟨c0, _⟩ := one_cell R0
      go_upto_region 5 with fail
      have HB1 := Lib.hid B1
      have HR2 := Lib.hid R2
      have HH := Lib.hid h
      have hw1 := B1.size
      clear c0
      go_loopw [7] (fun i wr => ∃ (k : Nat) (o : Value), k ≤ n ∧ i = .int .i64 k ∧ wr.heap[w.heap.size + 2]? = some (.cells #[o] 28) ∧ wr.ownsRow w1.heap.size 52 3 o (stayC (l.take k) now).length (flatCl (stayC (l.take k) now)) ∧ w1.grownBy wr (some (w.heap.size + 2))) (fun i _ => n - (RowKit.intOf i).toNat)
      case atStart => exact ⟨0, _, Nat.zero_le _, rfl, R2, by simpa [flatCl, stayC] using World.ownsRow_nil _ _ _ _, World.grownBy.refl _ _⟩
      case round =>
        obtain ⟨k, o, hk, rfl, hY, hrow, hg⟩ := hrel
        have hb : Below w.heap.size w wr := HB1.out.grown hg hw1 (fun j hj => by cases hj; omega)
        have R0r := (hg.block w.heap.size (by omega) (by simp)).trans R0
        have hsz := hg.size
        obtain ⟨c0, _⟩ := one_cell R0r
        by_cases hlt : k < n
        · obtain ⟨v, hv⟩ := getC (l := l) (k := k) (by rw [← hn.out]; exact hlt)
          obtain ⟨b, off, rfl, hbB, d0, d1, d2⟩ := (h.next hb).at_ hv
          obtain ⟨_, ⟨v0, v1⟩, v2, v3⟩ := clOk_bounds (HCK.out v (List.mem_of_getElem? hv))
          have e1 : IntKind.i64.wrap (v.last + v.score) = v.last + v.score := IntWalk.i64_in _ (by omega)
          have HS := Lib.hid (stay_next hv now)
          have hlen : (stayC (l.take k) now).length ≤ k := Nat.le_trans (List.length_filter_le _ _) (by rw [List.length_take]; omega)
          have HGI := Lib.hid (gone_iff (c := v) (now := now))
          have hv' := Lib.hid hv
          clear hv
          go_wp2_with fail
          go_quiet (fail)
          by_cases hst : now < v.last + v.score
          · have hd := decide_eq_true hst
            have HS2 : Hid (stayC (l.take (k + 1)) now = stayC (l.take k) now ++ [v]) := Lib.hid (by rw [HS.out, HGI.out, hd]; rfl)
            clear HS HGI
            go_wp2_with fail
            have gq : Below wr.heap.size wr (wr.drewN nq) := grow_drew (Below.refl _ _) nq
            have Yq := blk_next gq hY
            have R0q := blk_next gq R0r
            obtain ⟨m8, hm8⟩ : ∃ m, (stayC (l.take k) now).length = m := ⟨_, rfl⟩
            rw [hm8] at hrow hlen
            have rq := own_nextC hrow gq
            have hq := h.next (grow_next hb gq)
            have gW := hg.andThen (grownC gq) (fun j hj => by cases hj)
            have HBk := Lib.hid (fun k e => (hrow.lt k e).1)
            generalize wr.drewN nq = wq at gq Yq R0q rq hq gW ⊢
            have hszq := gW.size
            obtain ⟨c0, _⟩ := one_cell R0q
            obtain ⟨yq0, _⟩ := one_cell Yq
            obtain ⟨_, _, e', hbB, d0, d1, d2⟩ := hq.at_ hv'.out
            simp only [Option.some.injEq, Addr.mk.injEq] at e'
            obtain ⟨rfl, rfl, _⟩ := e'
            have O8 := Lib.hid (rq.alloc (.cells #[.int .i64 v.id, .int .i64 v.last, .int .i64 v.score] 52)).drew
            have N8 : Hid (SrcAt (wq.alloc (.cells #[.int .i64 v.id, .int .i64 v.last, .int .i64 v.score] 52)).drew (.slice (some ⟨wq.heap.size, 0, none⟩) 1 1) 1 3 v.cells) := Lib.hid (.inr ⟨_, _, rfl, rfl, cell_new_cl wq v 52⟩)
            have Y8 := Lib.hid (blk_alloc Yq (.cells #[.int .i64 v.id, .int .i64 v.last, .int .i64 v.score] 52))
            have hs8 : w1.heap.size ≤ (wq.alloc (.cells #[.int .i64 v.id, .int .i64 v.last, .int .i64 v.score] 52)).drew.heap.size := by show _ ≤ (wq.alloc (.cells #[.int .i64 v.id, .int .i64 v.last, .int .i64 v.score] 52)).heap.size; rw [World.size_alloc]; omega
            have hs9 : w.heap.size + 2 < (wq.alloc (.cells #[.int .i64 v.id, .int .i64 v.last, .int .i64 v.score] 52)).drew.heap.size := by show _ < (wq.alloc (.cells #[.int .i64 v.id, .int .i64 v.last, .int .i64 v.score] 52)).heap.size; rw [World.size_alloc]; omega
            have hq0 : w.heap.size < wq.heap.size := by omega
            have hq2 : w.heap.size + 2 < wq.heap.size := by omega
            have hm9 := Lib.hid hm8
            have gA0 := World.grownBy_alloc wq (.cells #[.int .i64 v.id, .int .i64 v.last, .int .i64 v.score] 52) none
            have gA : wq.grownBy (wq.alloc (.cells #[.int .i64 v.id, .int .i64 v.last, .int .i64 v.score] 52)).drew none := ⟨gA0.os, gA0.tape, gA0.output, gA0.size, gA0.block⟩
            have HG8 := Lib.hid (gW.andThen gA (fun j hj => by cases hj))
            clear hrow hY gq rq Yq R0q hm8 R0r gA gA0 gW
            go_region_law (refine step_append_any rfl _ _ 26 rfl w1.heap.size 52 i0 (.agg #[.int .i64 0, .int .i64 0, .int .i64 0]) 3 24 Try.underlying26 HI0.out HZ0.out HZ1.out HZ2.out rfl (by decide) o m8 (flatCl (stayC (l.take k) now)) (by simp [Act.eval, Act.put]) O8.out (.slice (some ⟨wq.heap.size, 0, none⟩) 1 1) 1 v.cells (by simp [Act.eval, Act.put]) N8.out (by simp [Cl.cells, Cl.row, Value.oneCell']) (by unfold maxLen; omega) (by omega) hs8 ?_; intro v9 w9 hown9 hgrow9; obtain ⟨qx, qc, rfl⟩ := ownsRow_formT hown9; have Y9 := (hgrow9.block (w.heap.size + 2) hs9 (fun e => by have := HBk.out _ e.symm; omega)).trans Y8.out; obtain ⟨y90, y91⟩ := one_cell Y9)
            all_goals
              have gS : w9.grownBy (w9.setCell ⟨w.heap.size + 2, 0, none⟩ (.slice qx (m8 + 1) qc)) (some (w.heap.size + 2)) := grown_setC (World.grownBy.refl _ _) 0 (.slice qx (m8 + 1) qc)
              have hown5 := hown9.kept gS (.inr (fun e => by have := (hown9.lt _ e).1; omega))
              have hlen9 : (stayC (l.take (k + 1)) now).length = m8 + 1 := by rw [HS2.out, List.length_append, hm9.out]; rfl
              have hfl9 : flatCl (stayC (l.take k) now) ++ v.cells = flatCl (stayC (l.take (k + 1)) now) := by rw [HS2.out, flatCl_append]; simp [flatCl]
              rw [hfl9, ← hlen9] at hown5
              have Y10 := heap_set Y9 0 (.slice qx (m8 + 1) qc)
              have hg5 := (HG8.out.andThen hgrow9 (fun j hj => Or.inl (HBk.out j hj))).andThen gS (fun j hj => by cases hj; exact Or.inr rfl)
              rw [hlen9] at hown5
              clear hown9 hgrow9 gS Y9 hfl9
              go_wp2_with fail
              go_roundw
              case rel => exact ⟨k + 1, .slice qx (m8 + 1) qc, by omega, by go_num, Y10, by rw [hlen9]; exact hown5, hg5⟩
              case measure => simp [RowKit.intOf]; omega
          · have hd := decide_eq_false hst
            have HS2 : Hid (stayC (l.take (k + 1)) now = stayC (l.take k) now) := Lib.hid (by rw [HS.out, HGI.out, hd]; rfl)
            clear HS HGI
            go_wp2_with fail
            go_roundw
            case rel => exact ⟨k + 1, _, by omega, by go_num, hY, by rw [HS2.out]; exact hrow, hg.andThen (grown_drawn wr _) (fun j hj => by cases hj)⟩
            case measure => simp [RowKit.intOf]; omega
        · have e : k = n := by omega
          have R1' := (hg.block (w.heap.size + 1) (by omega) (by simp)).trans R1
          rw [e, hn.out, List.take_length] at hrow
          obtain ⟨y, cy, rfl, hR⟩ := clRow_form hrow rfl
          obtain ⟨L, hL⟩ : ∃ L, stayC l now = L := ⟨_, rfl⟩
          rw [hL] at hR hY HV
          obtain ⟨y0, y1⟩ := one_cell hY
          obtain ⟨z0, z1⟩ := one_cell R1'
          have V0 := heap_set R1' 0 (.slice y L.length cy)
          have hbs := below_setCell hb (b := w.heap.size + 1) (by omega) 0 (.slice y L.length cy)
          have gS : wr.grownBy (wr.setCell ⟨w.heap.size + 1, 0, none⟩ (.slice y L.length cy)) (some (w.heap.size + 1)) := grown_setC (World.grownBy.refl _ _) 0 (.slice y L.length cy)
          have hR2 := hR.keep gS (fun g e => by have := (e ▸ hR).lt.1; simp only [ne_eq, Option.some.injEq]; omega)
          have hR3 : ClRow w.heap.size (wr.setCell ⟨w.heap.size + 1, 0, none⟩ (.slice y L.length cy)) y cy L := ownsRow_base_le hR2 hw1
          clear e hrow hR hR2 hg gS hL
          go_wp2_with fail
          obtain ⟨q0, _⟩ := one_cell V0
          try simp only [Exit.inBlock, Exit.then]
          refine bodyPost_ret (by simp [results, Try.results24, go_sem, q0]; try rfl) rfl ?_
          exact ⟨y, cy, by rw [HV.out]; rfl, by rw [HV.out]; exact hR3, hbs⟩
end Go.Proofs.Ytckonbbdeohccaa
