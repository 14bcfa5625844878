/- The reference's drawing of lists of peers: some list of so many at most; nothing that lay has turned. -/
import Derived.Test.YtfcmcelhndppnaaDoorSampleDraw
import Derived.Test.YtfcmcelhndppnaaDoorPeersL
import Derived.Test.YtfcmcelhndppnaaDoorPrRow
import Derived.Laws.AppendOwn
import Derived.Laws.OwnMore
import Derived.Deep.RegionHeld3
import Derived.Deep.RegionWith
import Derived.IntWalk
import Derived.Deep.Cut
namespace Go.Proofs.YtfcmcelhndppnaaDoor
open Go.ChangeShapes Go.WideShapes Go.ChangeAt Go.RowKit
set_option linter.unusedVariables false
set_option linter.unusedSimpArgs false

/-- Some peers, so many at most; the reader where it stood. -/
def RdPrs (m : Nat) (a : Nat) (w : World) : Ending → World → Prop := fun e w' =>
  ∃ (x : Option Addr) (cap : Nat) (l : List Pr), e = .returned (.slice x l.length cap) ∧ l.length ≤ m ∧ PrRow w.heap.size w' x cap l ∧ Rd w' a ∧ w.grownBy w' (some a)

theorem grown_ownP {w b c : World} {a : Nat} {row : Option Nat} (h : w.grownBy b (some a)) (hg : b.grownBy c row) (hrow : ∀ k, row = some k → w.heap.size ≤ k) : w.grownBy c (some a) :=
  ⟨hg.os.trans h.os, hg.tape.trans h.tape, hg.output.trans h.output, Nat.le_trans h.size hg.size, fun i hi hne => (hg.block i (Nat.lt_of_lt_of_le hi h.size) (fun e => by have := hrow i e.symm; omega)).trans (h.block i hi hne)⟩

/-- What lies while peers are drawn: a row of the call's own, the reader where it stood. -/
structure PD (w wr : World) (a : Nat) (o : Value) (l : List Pr) : Prop where
  low : a < w.heap.size
  row : wr.ownsRow w.heap.size 40 6 o l.length (flatPr l)
  rd : Rd wr a
  grown : w.grownBy wr (some a)
section
variable {w wr w' : World} {a : Nat} {o : Value} {l : List Pr}
theorem PD.grow (h : PD w wr a o l) (hr : Rd w' a) (hg : wr.grownBy w' (some a)) : PD w w' a o l :=
  ⟨h.low, h.row.kept hg (.inr (fun e => by have := (h.row.lt a e).1; have := h.low; omega)), hr, grown_trans h.grown hg⟩
theorem PD.alloc (h : PD w wr a o l) (b : Obj) : PD w (wr.alloc b) a o l :=
  ⟨h.low, h.row.alloc b, h.rd.kept (World.grownBy_alloc wr _ none) (by simp), grown_trans h.grown (World.grownBy_alloc wr _ _)⟩
theorem PD.drew (h : PD w wr a o l) : PD w wr.drew a o l :=
  h.grow (h.rd.kept (row := none) ⟨rfl, rfl, rfl, Nat.le_refl _, fun _ _ _ => rfl⟩ (by simp)) ⟨rfl, rfl, rfl, Nat.le_refl _, fun _ _ _ => rfl⟩
theorem PD.app {p : Pr} {o' : Value} {T : TypeId} {cs : Array Value} (h : PD w wr a o l) (hown : w'.ownsRow w.heap.size 40 6 o' (l.length + 1) (flatPr l ++ p.cells)) (hg : (wr.alloc (.cells cs T)).grownBy w' o.ownBlock) : PD w w' a o' (l ++ [p]) :=
  ⟨h.low, by rw [flatPr_append, List.length_append]; simpa [flatPr] using hown, (h.alloc (.cells cs T)).rd.kept hg (fun k e => by have := (h.row.lt k e).1; have := h.low; omega),
   grown_ownP (h.alloc (.cells cs T)).grown hg (fun k e => (h.row.lt k e).1)⟩
theorem PD.put {b i : Nat} {v : Value} (h : PD w wr a o l) (hb : ∀ k, o.ownBlock = some k → k < b) (hw : w.heap.size ≤ b) : PD w (wr.setCell ⟨b, i, none⟩ v) a o l := by
  have hg : wr.grownBy (wr.setCell ⟨b, i, none⟩ v) (some b) := ⟨rfl, rfl, rfl, by simp [World.setCell], fun j hj hne => by
    have : b ≠ j := fun e => hne (by rw [e])
    simp [World.setCell, Array.getElem?_modify, this]⟩
  have hlow := h.low
  refine ⟨h.low, h.row.kept hg ?_, h.rd.kept hg (fun k e => by simp only [Option.some.injEq] at e; omega), grown_ownP h.grown hg (fun k e => by simp only [Option.some.injEq] at e; omega)⟩
  cases ho : o.ownBlock with
  | none => exact .inl rfl
  | some k => exact .inr (fun e => by simp only [Option.some.injEq] at e; have := hb k ho; omega)
theorem PD.size (h : PD w wr a o l) : w.heap.size ≤ wr.heap.size := h.grown.size
end
theorem rd_blkP {w w' : World} {a k : Nat} {o : Obj} (hg : w.grownBy w' (some a)) (h : w.heap[k]? = some o) (hne : k ≠ a) : w'.heap[k]? = some o :=
  (hg.block k (Array.getElem?_eq_some_iff.1 h).1 (fun e => by simp only [Option.some.injEq] at e; omega)).trans h

/-- One step of a region that draws: an append onto a row of the caller's own. -/
theorem step_append_ownP {P : Program} {ops : Array Oper} {o : Oper} {a : Act} {w : World} {K : Act → World → Prop} {Q : Exit → Act → World → Prop} {E : Prop} (hgd : o.guard = none) (s x : Operand) (t : TypeId)
    (ho : o.op = .call { callee := .builtin .append, args := #[s, x], argTypes := #[t, t] })
    (base : Nat) (e : TypeId) (i : TypeInfo) (z : Value) (size bytes : Nat) (ht : P.underlying t = some (.slice e)) (hi : P.info? e = some i) (hz : i.zero = some z)
    (hsize : i.size = size) (hby : i.bytes = bytes) (hzs : z.cells.size = size) (hsz : 0 < size)
    (v : Value) (n : Nat) (xs : List Value) (hs : a.eval s = v) (hown : w.ownsRow base e size v n xs)
    (ad : Addr) (m c : Nat) (news : List Value) (hx : a.eval x = .slice (some ad) m c) (hl : news.length = m * size) (hnews : ∀ j u, news[j]? = some u → w.cell? (ad.add j) = some u) (h1 : ∀ u ∈ news, u.oneCell' = true)
    (h63 : n + m ≤ maxLen) (hbytes : (n + m) * bytes ≤ 140737488355328) (hbase : base ≤ w.heap.size)
    (h : ∀ v' w', w'.ownsRow base e size v' (n + m) (xs ++ news) → w.grownBy w' v.ownBlock → (v' = .slice none 0 0 ↔ v = .slice none 0 0 ∧ m = 0) → K (a.put o.dst v') w') :
    if Region.wanted o (yielded ops a.tmps) = true then Oper.wp P o a w K Q else E := by
  have hw : Region.wanted o (yielded ops a.tmps) = true := by simp [Region.wanted, hgd]
  rw [if_pos hw]
  exact wp_append_own w s x t ho base e i z size bytes ht hi hz hsize hby hzs hsz v n xs hs hown ad m c news hx hl hnews h1 h63 hbytes hbase h

set_option maxHeartbeats 4000000 in
set_option maxRecDepth 100000 in
theorem peers_c (a : Nat) (m : Nat) (hm : m ≤ 100) (w : World) (h : Rd w a) : Calls Tryd.prog 35 #[.pointer (some ⟨a, 0, none⟩), .int .i64 m] w (RdPrs m a w) := by
  obtain ⟨i0, hi, hz0, hz1, hz2⟩ := info_partsT infoPr'
  have HI0 := Lib.hid hi
  have HZ0 := Lib.hid hz0
  have HZ1 := Lib.hid hz1
  have HZ2 := Lib.hid hz2
  clear hi hz0 hz1 hz2
  have ha : a < w.heap.size := by
    obtain ⟨_, _, _, hb, _⟩ := h
    exact (Array.getElem?_eq_some_iff.1 hb).1
  go_enter Tryd.func35, Tryd.ntmps35
  go_wp2_with fail
  have D0 : PD w (w.alloc (.cells #[] 40)) a (.slice (some ⟨w.heap.size, 0, none⟩) 0 0) [] :=
    ⟨ha, World.ownsRow_made (base := w.heap.size) (e := 40) (size := 6) w #[] 0 (Nat.le_refl _) (by simp [maxLen]) rfl, h.kept (World.grownBy_alloc w _ none) (by simp), World.grownBy_alloc w _ _⟩
  refine (below_c a ((m : Int) + 1) m (by omega) (by omega) (by omega) _ D0.rd).mono ?_
  rintro e w2 ⟨v, v0, v1, rfl, hr2, hg2⟩
  have D2 := D0.grow hr2 hg2
  clear D0 hg2 hr2
  obtain ⟨j, rfl⟩ := Int.eq_ofNat_of_zero_le v0
  go_wp2_with fail
  go_loopw [5, 6, 7] (fun o d i wr => ∃ (k : Nat) (l : List Pr) (n : Int), k ≤ j ∧ i = .int .i64 k ∧ l.length + k = j ∧ d = .int .i64 n ∧ 0 ≤ n ∧ n ≤ 3 * (l.length : Int) ∧ PD w wr a o l) (fun _ _ i _ => (intOf i).toNat)
  case atStart => exact ⟨j, [], 0, Nat.le_refl _, rfl, by simp, rfl, by omega, by simp, D2⟩
  case round =>
    obtain ⟨k, l, n, hk, rfl, hlk, rfl, n0, n1, D⟩ := hrel
    by_cases hk0 : 0 < k
    · have hk1 : (0 : Int) < (k : Int) := by omega
      have hln : (l.length : Int) ≤ 100 := by omega
      go_wp2_with fail
      refine (below_c a 3 2 (by omega) (by omega) (by omega) _ D.rd).mono ?_
      rintro e w3 ⟨c, c0, c1, rfl, hr3, hg3⟩
      have D3 := D.grow hr3 hg3
      clear D hg3 hr3
      go_wp2_with fail
      refine (below_c a 1048576 1048575 (by omega) (by omega) (by omega) _ D3.rd).mono ?_
      rintro e w4 ⟨t, t0, t1, rfl, hr4, hg4⟩
      have D4 := D3.grow hr4 hg4
      clear D3 hg4 hr4
      go_wp2_with fail
      refine (sample_c t a _ D4.rd).mono ?_
      rintro e w5 ⟨s, hst, rfl, hr5, hg5⟩
      have D5 := (D4.grow hr5 hg5).alloc (.cells #[.int .i64 s.off, .int .i64 s.delay, .int .i64 s.disp, .int .i64 s.at_] 38)
      have P5 := blk_new w5 (.cells #[.int .i64 s.off, .int .i64 s.delay, .int .i64 s.disp, .int .i64 s.at_] 38)
      have L5 : w.heap.size ≤ w5.heap.size := (D4.grow hr5 hg5).size
      have HB : Hid (∀ k, u5.ownBlock = some k → k < w5.heap.size) := Lib.hid (fun k e => ((D4.grow hr5 hg5).row.lt k e).2)
      clear D4 hg5 hr5 hst
      go_wp2_with fail
      refine (once_c a 4 (by omega) (by omega) _ D5.rd).mono ?_
      rintro e w6 ⟨b, rfl, hr6, hg6⟩
      have D6 := D5.grow hr6 hg6
      have P6 := rd_blkP hg6 P5 (by omega)
      clear D5 P5 hg6 hr6
      have HU := Lib.hid (show ∀ u : Int, 0 ≤ u → u ≤ 2 → IntKind.i64.wrap (1 + u) = 1 + u from fun u _ _ => IntWalk.i64_in _ (by omega))
      cases b with
      | true =>
        go_wp2_with fail
        have Dd := D6.drew
        obtain ⟨x0, x1, x2, x3⟩ := sample_cells P6
        have Pd : w6.drew.heap[w5.heap.size]? = some (.cells #[.int .i64 s.off, .int .i64 s.delay, .int .i64 s.disp, .int .i64 s.at_] 38) := P6
        have X : w6.drew.cell? ⟨w5.heap.size, 0, none⟩ = some (.int .i64 s.off) ∧ w6.drew.cell? ⟨w5.heap.size, 1, none⟩ = some (.int .i64 s.delay) ∧ w6.drew.cell? ⟨w5.heap.size, 2, none⟩ = some (.int .i64 s.disp) ∧ w6.drew.cell? ⟨w5.heap.size, 3, none⟩ = some (.int .i64 s.at_) := ⟨x0, x1, x2, x3⟩
        clear x0 x1 x2 x3
        go_region_held3 (fun w' => w'.cell? ⟨w5.heap.size, 0, none⟩ = some (.int .i64 s.off) ∧ w'.cell? ⟨w5.heap.size, 1, none⟩ = some (.int .i64 s.delay) ∧ w'.cell? ⟨w5.heap.size, 2, none⟩ = some (.int .i64 s.disp) ∧ w'.cell? ⟨w5.heap.size, 3, none⟩ = some (.int .i64 s.at_)) (first | with_reducible exact X9 | with_reducible exact X8 | with_reducible exact X | with_reducible assumption | with_reducible exact sample_cells (blk_alloc P8 _))
          (first
           | (refine step_append_ownP rfl _ _ 24 rfl w.heap.size 40 i0 (.agg #[.int .i64 0, .int .i64 0, .int .i64 0, .int .i64 0, .int .i64 0, .int .i64 0]) 6 48 Tryd.underlying24 HI0.out HZ0.out HZ1.out HZ2.out rfl (by decide) u5 l.length (flatPr l) (by simp [Act.eval, Act.put]) (D8.row.alloc _) ⟨w8.heap.size, 0, none⟩ 1 1 (Pr.cells ⟨n + (1 + c), 1 + u, s⟩) (by simp [Act.eval, Act.put]) rfl (cell_six_new w8 ⟨n + (1 + c), 1 + u, s⟩ _) (by simp [Pr.cells, Value.oneCell']) (by unfold maxLen; omega) (by omega) (by have := D8.size; simp; omega) ?_; intro v9 w9 hown9 hgr9 hno9; have P9 : w9.heap[w5.heap.size]? = some (.cells #[.int .i64 s.off, .int .i64 s.delay, .int .i64 s.disp, .int .i64 s.at_] 38) := (hgr9.block w5.heap.size (by have := (Array.getElem?_eq_some_iff.1 P8).1; simp; omega) (fun e => by have := HB.out _ e.symm; omega)).trans (blk_alloc P8 _); have X9 := sample_cells P9)
           | (go_at_call 49; (with_reducible refine (below_c a 3 2 (by omega) (by omega) (by omega) _ Dd.rd).mono ?_); rintro e w8 ⟨u, u0, u1, rfl, hr8, hg8⟩
              have D8 := Dd.grow hr8 hg8
              have P8 := rd_blkP hg8 Pd (by omega)
              have X8 := sample_cells P8
              have hw := HU.out u u0 u1))
        have D9 := D8.app (p := ⟨n + (1 + c), 1 + u, s⟩) hown9 hgr9
        clear hown9 hgr9 hno9 X9 P9 P8 X8 D8
        go_wp2_with fail
        go_roundw
        case rel => exact ⟨k - 1, l ++ [⟨n + (1 + c), 1 + u, s⟩], n + (1 + c), by omega, by rw [show ((k - 1 : Nat) : Int) = (k : Int) - 1 from by omega], by simp; omega, rfl, by omega, by simp; omega, D9⟩
        case measure => simp [intOf]; omega
      | false =>
        go_wp2_with fail
        refine (below_c a 300 299 (by omega) (by omega) (by omega) _ D6.rd).mono ?_
        rintro e w7 ⟨z, z0, z1, rfl, hr7, hg7⟩
        have D7 := D6.grow hr7 hg7
        have P7 := rd_blkP hg7 P6 (by omega)
        clear D6 P6 hg7 hr7
        obtain ⟨y0, _, _, _⟩ := sample_cells P7
        have f0 : w7.frozen? ⟨w5.heap.size, 0, none⟩ = false := by simp [World.frozen?, P7]
        have P6 : (w7.setCell ⟨w5.heap.size, 0, none⟩ (.int .i64 z)).heap[w5.heap.size]? = some (.cells #[.int .i64 z, .int .i64 s.delay, .int .i64 s.disp, .int .i64 s.at_] 38) := by simp [World.setCell, Array.getElem?_modify, P7]
        have D6 := D7.put (b := w5.heap.size) (i := 0) (v := .int .i64 z) HB.out L5
        obtain ⟨w6, hw6⟩ : ∃ w6, w6 = w7.setCell ⟨w5.heap.size, 0, none⟩ (.int .i64 z) := ⟨_, rfl⟩
        go_upto_region 10 with (fail)
        rw [← hw6] at P6 D6 ⊢
        clear hw6 D7 P7
        have Dd := D6.drew
        obtain ⟨x0, x1, x2, x3⟩ := sample_cells (q := ⟨z, s.delay, s.disp, s.at_⟩) P6
        have Pd : w6.drew.heap[w5.heap.size]? = some (.cells #[.int .i64 z, .int .i64 s.delay, .int .i64 s.disp, .int .i64 s.at_] 38) := P6
        have X : w6.drew.cell? ⟨w5.heap.size, 0, none⟩ = some (.int .i64 z) ∧ w6.drew.cell? ⟨w5.heap.size, 1, none⟩ = some (.int .i64 s.delay) ∧ w6.drew.cell? ⟨w5.heap.size, 2, none⟩ = some (.int .i64 s.disp) ∧ w6.drew.cell? ⟨w5.heap.size, 3, none⟩ = some (.int .i64 s.at_) := ⟨x0, x1, x2, x3⟩
        clear x0 x1 x2 x3
        go_region_held3 (fun w' => w'.cell? ⟨w5.heap.size, 0, none⟩ = some (.int .i64 z) ∧ w'.cell? ⟨w5.heap.size, 1, none⟩ = some (.int .i64 s.delay) ∧ w'.cell? ⟨w5.heap.size, 2, none⟩ = some (.int .i64 s.disp) ∧ w'.cell? ⟨w5.heap.size, 3, none⟩ = some (.int .i64 s.at_)) (first | with_reducible exact X9 | with_reducible exact X8 | with_reducible exact X | with_reducible assumption | with_reducible exact sample_cells (q := ⟨z, s.delay, s.disp, s.at_⟩) (blk_alloc P8 _))
          (first
           | (refine step_append_ownP rfl _ _ 24 rfl w.heap.size 40 i0 (.agg #[.int .i64 0, .int .i64 0, .int .i64 0, .int .i64 0, .int .i64 0, .int .i64 0]) 6 48 Tryd.underlying24 HI0.out HZ0.out HZ1.out HZ2.out rfl (by decide) u5 l.length (flatPr l) (by simp [Act.eval, Act.put]) (D8.row.alloc _) ⟨w8.heap.size, 0, none⟩ 1 1 (Pr.cells ⟨n + (1 + c), 1 + u, ⟨z, s.delay, s.disp, s.at_⟩⟩) (by simp [Act.eval, Act.put]) rfl (cell_six_new w8 ⟨n + (1 + c), 1 + u, ⟨z, s.delay, s.disp, s.at_⟩⟩ _) (by simp [Pr.cells, Value.oneCell']) (by unfold maxLen; omega) (by omega) (by have := D8.size; simp; omega) ?_; intro v9 w9 hown9 hgr9 hno9; have P9 : w9.heap[w5.heap.size]? = some (.cells #[.int .i64 z, .int .i64 s.delay, .int .i64 s.disp, .int .i64 s.at_] 38) := (hgr9.block w5.heap.size (by have := (Array.getElem?_eq_some_iff.1 P8).1; simp; omega) (fun e => by have := HB.out _ e.symm; omega)).trans (blk_alloc P8 _); have X9 := sample_cells (q := ⟨z, s.delay, s.disp, s.at_⟩) P9)
           | (go_at_call 49; (with_reducible refine (below_c a 3 2 (by omega) (by omega) (by omega) _ Dd.rd).mono ?_); rintro e w8 ⟨u, u0, u1, rfl, hr8, hg8⟩
              have D8 := Dd.grow hr8 hg8
              have P8 := rd_blkP hg8 Pd (by omega)
              have X8 := sample_cells (q := ⟨z, s.delay, s.disp, s.at_⟩) P8
              have hw := HU.out u u0 u1))
        have D9 := D8.app (p := ⟨n + (1 + c), 1 + u, ⟨z, s.delay, s.disp, s.at_⟩⟩) hown9 hgr9
        clear hown9 hgr9 hno9 X9 P9 P8 X8 D8
        go_wp2_with fail
        go_roundw
        case rel => exact ⟨k - 1, l ++ [⟨n + (1 + c), 1 + u, ⟨z, s.delay, s.disp, s.at_⟩⟩], n + (1 + c), by omega, by rw [show ((k - 1 : Nat) : Int) = (k : Int) - 1 from by omega], by simp; omega, rfl, by omega, by simp; omega, D9⟩
        case measure => simp [intOf]; omega
    · have hk1 : ¬ (0 : Int) < (k : Int) := by omega
      go_wp2_with fail
      refine (once_c a 30 (by omega) (by omega) _ D.rd).mono ?_
      rintro e w3 ⟨b, rfl, hr3, hg3⟩
      have D3 := D.grow hr3 hg3
      obtain ⟨x, cap, rfl⟩ := ownsRow_formT D3.row
      clear D hg3 hr3
      have hlj : l.length ≤ m := by omega
      cases b with
      | false =>
        go_wp2_with fail
        go_returns
        exact ⟨x, cap, l, rfl, hlj, D3.row, D3.rd, D3.grown⟩
      | true =>
        cases l with
        | nil =>
          go_wp2_with fail
          go_returns
          exact ⟨x, cap, [], rfl, hlj, D3.row, D3.rd, D3.grown⟩
        | cons v r =>
          obtain ⟨q, hq⟩ : ∃ q, q = (v :: r).length := ⟨_, rfl⟩
          have hn0 : 0 < q := by rw [hq]; simp
          have hn1' : (0 : Int) < (q : Int) := by omega
          have hnm : q ≤ m := by rw [hq]; exact hlj
          have HN := Lib.hid hq
          rw [← hq]
          clear hq hlj hlk n1
          go_wp2_with fail
          refine (off_c a 1 15 (by omega) (by omega) (by omega) _ D3.rd).mono ?_
          rintro e w4 ⟨u, u0, u1, rfl, hr4, hg4⟩
          have D4 := D3.grow hr4 hg4
          have hrow5 := D4.row
          rcases D4.row.2 with ⟨e, e0⟩ | ⟨g, c, cur, e, hbg, hg, _⟩
          · simp at e0
          · simp only [Value.slice.injEq] at e
            obtain ⟨rfl, _, rfl⟩ := e
            have c1 := World.ownsRow.cellAt hrow5 1 (by simp; omega)
            have f1 := World.ownsRow.frozenAt hrow5 1
            have hst := World.ownsRow.stored hrow5 1 (.int .i64 u)
            have e1 : (flatPr (v :: r))[1]? = some (.int .i64 v.str) := rfl
            rw [e1] at c1
            have hst1 : (w4.setCell ⟨g, 1, none⟩ (.int .i64 u)).ownsRow w.heap.size 40 6 (.slice (some ⟨g, 0, none⟩) (v :: r).length cap) (v :: r).length (flatPr (⟨v.id, u, v.s⟩ :: r)) := hst.1
            have hr5 := D4.rd.kept hst.2 (fun k e => by simp only [Option.some.injEq] at e; omega)
            have hg5 := grown_ownP D4.grown hst.2 (fun k e => by simp only [Option.some.injEq] at e; omega)
            rw [← HN.out] at hst1
            have HS := Lib.hid hst1
            clear hst hst1 D3 D4 hrow5 e1 hg hr4 hg4
            go_wp2_with fail
            go_returns
            refine ⟨_, cap, ⟨v.id, u, v.s⟩ :: r, by rw [HN.out]; rfl, by have := HN.out; simp at this ⊢; omega, ?_, hr5, hg5⟩
            have := HS.out
            rw [HN.out] at this
            exact this

/-- Some peers, so many at most, in a row of the call's own; nothing that lay has turned. -/
def AnyPrs (m : Nat) (w : World) : Ending → World → Prop := fun e w' =>
  ∃ (x : Option Addr) (cap : Nat) (l : List Pr), e = .returned (.slice x l.length cap) ∧ l.length ≤ m ∧ l.length ≤ cap ∧ cap ≤ maxLen ∧ Prs w'.heap.size w' x l ∧ Below w.heap.size w w'

theorem drawPeersOk_c (x : Option Addr) (n cap : Nat) (w : World) (hc : Code w.heap.size w (.slice x n cap) n) (hn : n ≤ 1048576) : Calls Tryd.prog 19 #[.slice x n cap] w (AnyPrs 6 w) := by
  go_enter Tryd.func19, Tryd.ntmps19
  go_wp2_with fail
  refine (open_c x n cap _).mono ?_
  rintro e w1 ⟨rfl, rfl⟩
  have hr1 := rd_open hc hn
  go_wp2_with fail
  refine (peers_c _ 6 (by omega) _ hr1).mono ?_
  rintro e w2 ⟨y, c, l, rfl, hl, hrow, hr2, hg2⟩
  have g2 := grown_below (below_new w (.cells #[.slice x n cap, .int .i64 0] 72)) hg2 (Nat.le_refl _)
  go_wp2_with fail
  go_returns
  exact ⟨y, c, l, rfl, hl, hrow.cap_.1, hrow.cap_.2, hrow.prs, g2⟩
end Go.Proofs.YtfcmcelhndppnaaDoor
