/- The clients of a map as a limiter, in rising order of their Ids. -/
import Derived.Test.YtckonbbdeohccaaClKeys
import Derived.Test.YtckonbbdeohccaaClMark
import Derived.Test.YtckonbbdeohccaaClCome
import Derived.Test.YtckonbbdeohccaaIRow
import Derived.Deep.Cut
namespace Go.Proofs.Ytckonbbdeohccaa
open Go.ChangeShapes Go.WideShapes Go.ChangeAt Go.RowKit Go.Maps
set_option linter.unusedVariables false
set_option linter.unusedSimpArgs false
set_option maxRecDepth 100000

theorem clAt_at {l : List Cl} (h : RisingC l) {k : Nat} {v : Cl} (hv : l[k]? = some v) : clAt l v.id = some v := by
  cases hc : clAt l v.id with
  | none => exact absurd rfl (clAt_none hc v (List.mem_of_getElem? hv))
  | some d =>
    obtain ⟨h1, h2⟩ := clAt_some hc
    obtain ⟨j, hj⟩ := List.mem_iff_getElem?.1 h1
    obtain ⟨hjl, hj2⟩ := List.getElem?_eq_some_iff.1 hj
    obtain ⟨hkl, hk2⟩ := List.getElem?_eq_some_iff.1 hv
    rcases Nat.lt_trichotomy j k with hjk | hjk | hjk
    · have := List.pairwise_iff_getElem.1 h j k hjl hkl hjk
      rw [hj2, hk2] at this
      omega
    · subst hjk
      rw [hv] at hj
      rw [Option.some.inj hj]
    · have := List.pairwise_iff_getElem.1 h k j hkl hjl hjk
      rw [hj2, hk2] at this
      omega
theorem ownsRow_base_le {w : World} {base base' : Nat} {e : TypeId} {size : Nat} {v : Value} {n : Nat} {xs : List Value} (h : w.ownsRow base e size v n xs) (hb : base' ≤ base) : w.ownsRow base' e size v n xs := by
  refine ⟨h.1, ?_⟩
  rcases h.2 with h | ⟨g, c, cur, h, h1, r⟩
  · exact .inl h
  · exact .inr ⟨g, c, cur, h, by omega, r⟩
/-- A limiter of the call's own, its clients a row. -/
def LimOwn (base : Nat) (W : World) (l : List Cl) : Ending → World → Prop := fun e w' =>
  ∃ (x : Option Addr) (cap : Nat), e = .returned (.agg #[.slice x l.length cap]) ∧ ClRow base w' x cap l ∧ Below W.heap.size W w'
set_option maxHeartbeats 4000000 in
theorem limiter_c (l : List Cl) (n : Nat) (hn : Hid (n = l.length)) (h50 : n ≤ 50) (hck : ∀ c ∈ l, clOk c = true) (b : Nat) (w : World) (h : ClMap w b l) :
    Calls Try.prog 42 #[.map (some b)] w (LimOwn w.heap.size w l) := by
  obtain ⟨i0, hi, hz0, hz1, hz2⟩ := info_partsT infoCl'
  have HI0 := Lib.hid hi
  have HZ0 := Lib.hid hz0
  have HZ1 := Lib.hid hz1
  have HZ2 := Lib.hid hz2
  clear hi hz0 hz1 hz2
  have Z0 := blk_alloc (blk_new w (.cells #[.slice none 0 0] 28)) (.cells #[.slice none 0 0] 28)
  have Z1 := blk_new (w.alloc (.cells #[.slice none 0 0] 28)) (.cells #[.slice none 0 0] 28)
  simp only [World.size_alloc] at Z1
  have B0 : Below w.heap.size w ((w.alloc (.cells #[.slice none 0 0] 28)).alloc (.cells #[.slice none 0 0] 28)) := by go_grown
  have HM := Lib.hid (h.next B0)
  have HC := Lib.hid hck
  have hbl := h.lt
  go_enter Try.func42, Try.ntmps42
  go_upto_region 2 with fail
  obtain ⟨W, hW⟩ : ∃ W, W = (w.alloc (.cells #[.slice none 0 0] 28)).alloc (.cells #[.slice none 0 0] 28) := ⟨_, rfl⟩
  rw [← hW] at Z0 Z1 B0 HM ⊢
  clear hW
  have HK := Lib.hid (keys_c (some b) W)
  have HS := Lib.hid (sortedKeys_c b l W HM.out (by rw [← hn.out]; omega))
  go_wp2_with fail
  refine HK.out.mono ?_
  rintro e w1 ⟨rfl, rfl⟩
  go_wp2_with fail
  refine HS.out.mono ?_
  rintro e W2 ⟨v, rfl, hrow, hb2⟩
  obtain ⟨x, cap, rfl⟩ := ownsRow_formT hrow
  have hI : IRow W.heap.size W2 x cap (l.map Cl.id) := by unfold IRow; rw [List.length_map]; exact hrow
  rw [← hn.out] at hrow ⊢
  have Y0 := blk_next hb2 Z0
  have Y1 := blk_next hb2 Z1
  have M2 := HM.out.next hb2
  have B2 := grow_next B0 hb2
  have hsW := (Array.getElem?_eq_some_iff.1 Z1).1
  have hW2 : W.heap.size ≤ W2.heap.size := hb2.size
  clear HK HS hrow Z0 Z1 HM hb2 B0
  go_wp2_with fail
  go_loopw [10] (fun i wr => ∃ (k : Nat) (o : Value), k ≤ n ∧ i = .int .i64 k ∧ wr.heap[w.heap.size + 1]? = some (.cells #[o] 28) ∧ wr.ownsRow W2.heap.size 52 3 o k (flatCl (l.take k)) ∧ W2.grownBy wr (some (w.heap.size + 1))) (fun i _ => n - (RowKit.intOf i).toNat)
  case atStart => exact ⟨0, _, Nat.zero_le _, rfl, Y1, by simpa [flatCl] using World.ownsRow_nil _ _ _ _, World.grownBy.refl _ _⟩
  case round =>
    obtain ⟨k, o, hk, rfl, hY, hrow, hg⟩ := hrel
    have hsz2 := hg.size
    by_cases hlt : k < n
    · obtain ⟨v, hv⟩ := getC (l := l) (k := k) (by rw [← hn.out]; exact hlt)
      have hI2 := hI.keep hg (fun g e => by have := hI.ge g e; simp only [ne_eq, Option.some.injEq]; omega)
      obtain ⟨g, rfl, hg1, hg2, d0, _⟩ := hI2.at_ (k := k) (z := v.id) (by rw [List.getElem?_map, hv]; rfl)
      have M3 := M2.kept hg (by simp only [ne_eq, Option.some.injEq]; omega)
      obtain ⟨⟨i0', i1'⟩, _⟩ := clOk_bounds (HC.out v (List.mem_of_getElem? hv))
      have hl := M3.look v.id (by omega) false
      rw [clAt_at M3.rise hv] at hl
      have hl' : (Instr.lookup 64 (.map (some b)) (.int .i64 v.id) false).run Try.prog wr = .ok (.agg #[.int .i64 v.id, .int .i64 v.last, .int .i64 v.score]) wr := hl
      obtain ⟨y0, y1⟩ := one_cell hY
      have HV := Lib.hid (take_nextC hv)
      clear hl hv
      have HBk := Lib.hid (fun k e => (hrow.lt k e).1)
      have O1 := Lib.hid (hrow.alloc (.cells #[.int .i64 v.id, .int .i64 v.last, .int .i64 v.score] 52))
      have Y1' := Lib.hid (blk_alloc hY (.cells #[.int .i64 v.id, .int .i64 v.last, .int .i64 v.score] 52))
      have NS := Lib.hid (cell_new_cl wr v 52)
      have HG := Lib.hid (hg.andThen (World.grownBy_alloc wr (.cells #[.int .i64 v.id, .int .i64 v.last, .int .i64 v.score] 52) none) (fun j hj => by cases hj))
      have hs1 : w.heap.size + 1 < wr.heap.size := by omega
      clear hrow hY hg
      go_wp2_with (at_builtin; go_loud (refine wpList_append_own _ rfl _ _ 26 rfl W2.heap.size 52 i0 (.agg #[.int .i64 0, .int .i64 0, .int .i64 0]) 3 24 Try.underlying26 HI0.out HZ0.out HZ1.out HZ2.out rfl (by decide) _ _ _ rfl O1.out ⟨wr.heap.size, 0, none⟩ 1 1 v.cells rfl rfl NS.out (by simp [Cl.cells, Cl.row, Value.oneCell']) (by unfold maxLen; omega) (by omega) (by simp; omega) ?_); intro v4 w4 hown4 hgrow4 _; obtain ⟨qx, qc, rfl⟩ := ownsRow_formT hown4; have Y4 := (hgrow4.block (w.heap.size + 1) (by simp; omega) (fun e => by have := HBk.out _ e.symm; omega)).trans Y1'.out; obtain ⟨y40, y41⟩ := one_cell Y4)
      have hfl : flatCl (l.take k) ++ v.cells = flatCl (l.take (k + 1)) := by rw [HV.out, flatCl_append]; simp [flatCl]
      rw [hfl] at hown4
      have Y5 := heap_set Y4 0 (.slice qx (k + 1) qc)
      have gS : w4.grownBy (w4.setCell ⟨w.heap.size + 1, 0, none⟩ (.slice qx (k + 1) qc)) (some (w.heap.size + 1)) := grown_setC (World.grownBy.refl _ _) 0 (.slice qx (k + 1) qc)
      have hown5 := hown4.kept gS (.inr (fun e => by have := (hown4.lt _ e).1; omega))
      have hg5 := (HG.out.andThen hgrow4 (fun j hj => Or.inl (HBk.out j hj))).andThen gS (fun j hj => by cases hj; exact Or.inr rfl)
      clear hown4 hgrow4 Y4 gS
      go_roundw
      case rel => exact ⟨k + 1, .slice qx (k + 1) qc, by omega, by go_num, Y5, hown5, hg5⟩
      case measure => simp [RowKit.intOf]; omega
    · have e : k = n := by omega
      have Y0' := (hg.block w.heap.size (by omega) (by simp)).trans Y0
      have hb : Below w.heap.size w wr := B2.grown hg B2.size (fun j hj => by cases hj; omega)
      have hr1 := hrow
      rw [e, hn.out, List.take_length] at hr1
      obtain ⟨y, cy, rfl, hR⟩ := clRow_form hr1 rfl
      obtain ⟨y0, y1⟩ := one_cell hY
      obtain ⟨z0, z1⟩ := one_cell Y0'
      have V0 : (wr.setCell ⟨w.heap.size, 0, none⟩ (.slice y l.length cy)).heap[w.heap.size]? = some (.cells #[.slice y l.length cy] 28) := heap_set Y0' 0 _
      have hbs := below_setCell hb (Nat.le_refl w.heap.size) 0 (.slice y l.length cy)
      have gS : wr.grownBy (wr.setCell ⟨w.heap.size, 0, none⟩ (.slice y l.length cy)) (some w.heap.size) := grown_setC (World.grownBy.refl _ _) 0 (.slice y l.length cy)
      have hR2 := hR.keep gS (fun g e => by have := (e ▸ hR).lt.1; simp only [ne_eq, Option.some.injEq]; omega)
      have hR3 : ClRow w.heap.size (wr.setCell ⟨w.heap.size, 0, none⟩ (.slice y l.length cy)) y cy l := ownsRow_base_le hR2 (by omega)
      clear e hr1 hrow hR hR2 hg gS
      go_wp2_with fail
      obtain ⟨q0, _⟩ := one_cell V0
      try simp only [Exit.inBlock, Exit.then]
      refine bodyPost_ret (by simp [results, Try.results42, go_sem, q0]; try rfl) rfl ?_
      exact ⟨y, cy, rfl, hR3, hbs⟩
end Go.Proofs.Ytckonbbdeohccaa
