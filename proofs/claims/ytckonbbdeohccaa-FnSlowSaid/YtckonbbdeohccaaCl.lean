/- Limiters in memory: their clients, out of a reading; copied and held against each other by the laws. -/
import Derived.Test.YtckonbbdeohccaaNdTo
namespace Go.Proofs.Ytckonbbdeohccaa
open Go.ChangeShapes Go.WideShapes Go.ChangeAt Go.RowKit
set_option linter.unusedVariables false
set_option linter.unusedSimpArgs false

structure Cl where
  id : Int
  last : Int
  score : Int
def Cl.row (c : Cl) : List Int := [c.id, c.last, c.score]
def Cl.ofRow : List Int → Cl
  | [a, b, c] => ⟨a, b, c⟩
  | _ => ⟨0, 0, 0⟩
theorem list3 {α : Type} (l : List α) (h : l.length = 3) : ∃ a b c, l = [a, b, c] := by
  match l, h with
  | [a, b, c], _ => exact ⟨a, b, c, rfl⟩
def Cls (B : Nat) (w : World) (x : Option Addr) (l : List Cl) : Prop := RowsAt Cl.row 3 B w x l
section
variable {B : Nat} {w w' : World} {x : Option Addr} {l : List Cl}
theorem Cls.next (h : Cls w.heap.size w x l) (hb : Below w.heap.size w w') : Cls w'.heap.size w' x l := RowsAt.next h hb
theorem Cls.at_ {i : Nat} {v : Cl} (h : Cls B w x l) (hi : l[i]? = some v) : ∃ b off, x = some ⟨b, off, none⟩ ∧ b < B ∧ w.cell? ⟨b, off + i * 3, none⟩ = some (.int .i64 v.id) ∧ w.cell? ⟨b, off + i * 3 + 1, none⟩ = some (.int .i64 v.last) ∧ w.cell? ⟨b, off + i * 3 + 2, none⟩ = some (.int .i64 v.score) := by
  obtain ⟨b, off, e, hlt, hc⟩ := RowsAt.at_ h hi
  exact ⟨b, off, e, hlt, hc 0 _ rfl, hc 1 _ rfl, hc 2 _ rfl⟩
end
theorem getC {l : List Cl} {k : Nat} (h : k < l.length) : ∃ v, l[k]? = some v := ⟨l[k], List.getElem?_eq_getElem h⟩
set_option maxRecDepth 100000 in
/-- A limiter that came in. -/
theorem open_limiter {H : Type} {enc : TypeId × Value → H} {w : World} {held : Bool} {r : Reach} {b0 : Nat} {v : Value} {d : DataW H} {q : List MemPlace}
    (hv : Value.okWide Try.prog w r b0 24 v) (h : DataW.Trod enc Try.prog w 0 (fun _ => true) held 24 v d q) :
    ∃ (x : Option Addr) (len cap : Nat) (l : List Cl), v = .agg #[.slice x len cap] ∧ (Hid (len = l.length) ∧ len ≤ cap ∧ cap ≤ maxLen ∧ Cls w.heap.size w x l) := by
  simp only [Value.okWide, Try.underlying24] at hv
  obtain ⟨cs, rfl, hsz, ts, hts, _, hcell⟩ := hv
  have hts' : (Try.prog).cellTypes (Try.prog).depth 24 = some [22] := by kernel_rfl
  rw [hts'] at hts
  simp only [Option.some.injEq] at hts
  subst hts
  have hC : (Try.prog).cellsOf 24 = 1 := by kernel_rfl
  rw [hC] at hsz
  obtain ⟨l0⟩ := cs
  match l0, hsz with
  | [c], _ =>
  obtain ⟨u, hu, hok⟩ := hcell 0 c rfl
  simp only [List.length_cons, List.length_nil, Nat.zero_add, Nat.mod_one, List.getElem?_cons_zero, Option.some.injEq] at hu
  subst hu
  obtain ⟨fuel, hf⟩ := h
  obtain ⟨xs, n, _, _, _, hxl, hfield⟩ := DataW.trod_struct Try.underlying24 hf
  match xs, hxl with
  | [y], _ =>
  have g0 := hfield 0 _ rfl
  have hc1 : (Try.prog).cellsOf 22 = 1 := by kernel_rfl
  have hok' : Value.okWide Try.prog w r b0 22 c := by
    simp only [Value.okWide, Try.underlying22]
    exact hok
  obtain ⟨a0, len0, cap0, rfl⟩ := okWide_slice Try.underlying22 hok'
  have ht : DataW.Trod enc Try.prog w 0 (fun _ => true) held 22 (.slice a0 len0 cap0) y.1 y.2 := ⟨n, by simpa [Value.cells, hc1] using g0⟩
  obtain ⟨x, len, cap, l, e, hl, hr, hc, hm, _⟩ := open_rows (enc := enc) Cl.row Cl.ofRow (fun l hl => by obtain ⟨a, b, c, rfl⟩ := list3 l hl; rfl) Try.underlying22 Try.underlying82 (by kernel_rfl) (by kernel_rfl) (by decide) hok' ht
  exact ⟨x, len, cap, l, by rw [e], Lib.hid hl, hc, hm, hr⟩

theorem infoCl' : (Try.prog.info? 52).map (fun i => (i.zero, i.size, i.bytes)) = some (some (.agg #[.int .i64 0, .int .i64 0, .int .i64 0]), 3, 24) := by kernel_rfl
theorem three_cells {W : World} {b : Nat} {x0 x1 x2 : Value} {T : TypeId} (e : W.heap[b]? = some (.cells #[x0, x1, x2] T)) : (W.cell? ⟨b, 0, none⟩ = some x0 ∧ W.cell? ⟨b, 1, none⟩ = some x1 ∧ W.cell? ⟨b, 2, none⟩ = some x2) ∧ W.frozen? ⟨b, 0, none⟩ = false ∧ W.frozen? ⟨b, 1, none⟩ = false ∧ W.frozen? ⟨b, 2, none⟩ = false := by simp [World.cell?, World.frozen?, e]
theorem one_cell {W : World} {b : Nat} {x0 : Value} {T : TypeId} (e : W.heap[b]? = some (.cells #[x0] T)) : W.cell? ⟨b, 0, none⟩ = some x0 ∧ W.frozen? ⟨b, 0, none⟩ = false := by simp [World.cell?, World.frozen?, e]
def ClTab (m : Nat) (w : World) (g : Nat) (l : List Cl) : Prop := TabAt Cl.row 3 m 52 w g l
theorem ClTab.cls {m g : Nat} {w : World} {l : List Cl} (h : ClTab m w g l) : Cls w.heap.size w (some ⟨g, 0, none⟩) l := TabAt.rows h
theorem ClTab.next {m g : Nat} {w w' : World} {l : List Cl} (h : ClTab m w g l) (hb : Below w.heap.size w w') : ClTab m w' g l := TabAt.next h hb
theorem ClTab.room {m g : Nat} {w : World} {l : List Cl} (h : ClTab m w g l) {k : Nat} (hk : k < m) : ((∃ u, w.cell? ⟨g, k * 3, none⟩ = some u) ∧ (∃ u, w.cell? ⟨g, k * 3 + 1, none⟩ = some u) ∧ (∃ u, w.cell? ⟨g, k * 3 + 2, none⟩ = some u)) ∧ w.frozen? ⟨g, k * 3, none⟩ = false ∧ w.frozen? ⟨g, k * 3 + 1, none⟩ = false ∧ w.frozen? ⟨g, k * 3 + 2, none⟩ = false :=
  ⟨⟨(TabAt.room h (by omega)).1, (TabAt.room h (by omega)).1, (TabAt.room h (by omega)).1⟩, (TabAt.room h (by omega)).2, (TabAt.room h (by omega)).2, (TabAt.room h (by omega)).2⟩
theorem ClTab.put {m g : Nat} {w : World} {l : List Cl} (h : ClTab m w g l) (hk : l.length < m) (v : Cl) :
    ClTab m (((w.setCell ⟨g, l.length * 3, none⟩ (.int .i64 v.id)).setCell ⟨g, l.length * 3 + 1, none⟩ (.int .i64 v.last)).setCell ⟨g, l.length * 3 + 2, none⟩ (.int .i64 v.score)) g (l ++ [v]) := by
  obtain ⟨cur, h1, h2, h3, h4⟩ := h
  refine ⟨_, heap_set (heap_set (heap_set h1 _ _) _ _) _ _, by simp [h2], by simp; omega, fun i u j z hi hj => ?_⟩
  simp only [Array.getElem?_setIfInBounds, Array.size_setIfInBounds]
  rcases Nat.lt_or_ge i l.length with hl | hl
  · rw [List.getElem?_append_left hl] at hi
    have hj2 : j < 3 := (List.getElem?_eq_some_iff.1 hj).1
    rw [if_neg (by omega), if_neg (by omega), if_neg (by omega)]
    exact h4 i u j z hi hj
  · have e : i = l.length := by
      have := (List.getElem?_eq_some_iff.1 hi).1
      simp at this
      omega
    subst e
    simp at hi
    subst hi
    match j, hj with
    | 0, hj =>
      simp [Cl.row] at hj
      subst hj
      rw [if_neg (by omega), if_neg (by omega), if_pos (by omega), if_pos (by omega)]
    | 1, hj =>
      simp [Cl.row] at hj
      subst hj
      rw [if_neg (by omega), if_pos (by omega), if_pos (by omega)]
    | 2, hj =>
      simp [Cl.row] at hj
      subst hj
      rw [if_pos (by omega), if_pos (by omega)]
    | j + 3, hj => simp [Cl.row] at hj
theorem take_nextC {l : List Cl} {k : Nat} {v : Cl} (h : l[k]? = some v) : l.take (k + 1) = l.take k ++ [v] := by rw [List.take_add_one, h]; rfl
set_option maxHeartbeats 1000000 in
theorem szLimiter_c (n : Nat) (hm : n ≤ maxLen) (x : Option Addr) (cap : Nat) (w : World) :
    Calls Try.prog 11 #[.agg #[.slice x n cap], .int .i64 1048576] w fun e w' => e = .returned (.int .i64 (leftOf 1048576 n)) ∧ Below w.heap.size w w' := by
  unfold maxLen at hm
  have hw : IntKind.i64.wrap ((1048576 : Int) - (n : Int)) = 1048576 - n := IntWalk.i64_in _ (by omega)
  obtain ⟨d, hd⟩ : ∃ d, (1048576 : Int) - (n : Int) = d := ⟨_, rfl⟩
  rw [hd] at hw
  have HD := Lib.hid hd
  unfold leftOf
  rw [hd]
  clear hd
  have Q0 := blk_new w (.cells #[.slice x n cap] 24)
  obtain ⟨c0, _⟩ := one_cell Q0
  have B0 : Below w.heap.size w (w.alloc (.cells #[.slice x n cap] 24)) := below_new _ _
  go_enter Try.func11, Try.ntmps11
  by_cases hneg : d < 0
  · have hdd : decide (d < 0) = true := decide_eq_true hneg
    have hs : (1048576 : Int) - (n : Int) = d := HD.out
    rw [if_pos hneg]
    go_wp2_with (go_in)
    go_returns
    exact ⟨rfl, B0⟩
  · have hdd : decide (d < 0) = false := decide_eq_false hneg
    have hs : (1048576 : Int) - (n : Int) = d := HD.out
    rw [if_neg hneg]
    go_wp2_with (go_in)
    go_returns
    exact ⟨rfl, B0⟩
theorem toClient_c (v : Cl) (w : World) : Calls Try.prog 56 #[.agg #[.int .i64 v.id, .int .i64 v.last, .int .i64 v.score]] w fun e w' => e = .returned (.agg #[.int .i64 v.id, .int .i64 v.last, .int .i64 v.score]) ∧ Below w.heap.size w w' := by
  go_enter Try.func56, Try.ntmps56
  go_wp2
  go_returns
  exact ⟨rfl, by go_grown⟩
def FreshCls (n : Nat) (W : World) (l : List Cl) : Ending → World → Prop := fun e w' => ∃ g, e = .returned (.slice (some ⟨g, 0, none⟩) n n) ∧ ClTab n w' g l ∧ W.heap.size ≤ g ∧ Below W.heap.size W w'
set_option maxHeartbeats 2000000 in
theorem toClientS_c (l : List Cl) (n : Nat) (hn : Hid (n = l.length)) (hm : n ≤ 1048576) (x : Option Addr) (cap : Nat) (w : World) (h : Cls w.heap.size w x l) :
    Calls Try.prog 39 #[.slice x n cap] w (FreshCls n w l) := by
  have hmk := run_make_tab (P := Try.prog) Try.underlying26 infoCl' n (by omega) hm
  have hT : ClTab n (w.alloc (.cells (madeCells (Value.agg #[.int .i64 0, .int .i64 0, .int .i64 0]).cells (n * 3)) 52)) w.heap.size [] := TabAt.made _ rfl w (Nat.zero_le _)
  go_enter Try.func39, Try.ntmps39
  go_wp2
  go_loopw [4] (fun i wr => ∃ k : Nat, k ≤ n ∧ i = .int .i64 k ∧ ClTab n wr w.heap.size (l.take k) ∧ Below w.heap.size w wr) (fun i _ => n - (intOf i).toNat)
  case atStart => exact ⟨0, Nat.zero_le _, rfl, hT, by go_grown⟩
  case round =>
    obtain ⟨k, hk, rfl, ht, hb⟩ := hrel
    clear hmk
    by_cases hlt : k < n
    · obtain ⟨v, hv⟩ := getC (l := l) (k := k) (by rw [← hn.out]; exact hlt)
      obtain ⟨b, off, rfl, hbB, c0, c1, c2⟩ := (h.next hb).at_ hv
      have HV := Lib.hid (take_nextC hv)
      have HK := Lib.hid (show (l.take k).length = k by have := hn.out; simp; omega)
      clear hv
      go_wp2_with fail
      refine (toClient_c v _).mono ?_
      rintro e w1 ⟨rfl, hb1⟩
      have ht1 := ht.next hb1
      have g1 := grow_next hb hb1
      obtain ⟨⟨⟨u0, r0⟩, ⟨u1, r1⟩, ⟨u2, r2⟩⟩, f0, f1, f2⟩ := ht1.room hlt
      have hp := ht1.put (by rw [HK.out]; exact hlt) v
      rw [HK.out, ← HV.out] at hp
      have G := below_setCell (below_setCell (below_setCell g1 (Nat.le_refl w.heap.size) (k * 3) (.int .i64 v.id)) (Nat.le_refl w.heap.size) (k * 3 + 1) (.int .i64 v.last)) (Nat.le_refl w.heap.size) (k * 3 + 2) (.int .i64 v.score)
      go_wp2_with fail
      go_roundw
      case rel => exact ⟨k + 1, by omega, by go_num, hp, G⟩
      case measure => simp [intOf]; omega
    · have e : k = n := by omega
      have hT' : ClTab n wr w.heap.size l := by
        rw [e, hn.out, List.take_length] at ht
        rw [hn.out]
        exact ht
      clear e
      go_wp2_with fail
      go_returns
      exact ⟨_, rfl, hT', Nat.le_refl _, hb⟩
/-- A limiter of the call's own. -/
def FreshLim (n : Nat) (W : World) (l : List Cl) : Ending → World → Prop := fun e w' => ∃ g, e = .returned (.agg #[.slice (some ⟨g, 0, none⟩) n n]) ∧ ClTab n w' g l ∧ W.heap.size ≤ g ∧ Below W.heap.size W w'
set_option maxRecDepth 100000 in
set_option maxHeartbeats 2000000 in
theorem toLimiter_c (l : List Cl) (n : Nat) (hn : Hid (n = l.length)) (hm : n ≤ 1048576) (x : Option Addr) (cap : Nat) (w : World) (h : Cls w.heap.size w x l) :
    Calls Try.prog 13 #[.agg #[.slice x n cap]] w (FreshLim n w l) := by
  have Z0 := blk_alloc (blk_alloc (blk_new w (.cells #[.slice x n cap] 24)) (.cells #[.slice none 0 0] 28)) (.cells #[.slice none 0 0] 28)
  have Z1 := blk_alloc (blk_new (w.alloc (.cells #[.slice x n cap] 24)) (.cells #[.slice none 0 0] 28)) (.cells #[.slice none 0 0] 28)
  have Z2 := blk_new ((w.alloc (.cells #[.slice x n cap] 24)).alloc (.cells #[.slice none 0 0] 28)) (.cells #[.slice none 0 0] 28)
  simp only [World.size_alloc] at Z1 Z2
  have g3 : Below w.heap.size w (((w.alloc (.cells #[.slice x n cap] 24)).alloc (.cells #[.slice none 0 0] 28)).alloc (.cells #[.slice none 0 0] 28)) := by go_grown
  go_enter Try.func13, Try.ntmps13
  go_upto_region 2 with (fail)
  generalize ((w.alloc (.cells #[.slice x n cap] 24)).alloc (.cells #[.slice none 0 0] 28)).alloc (.cells #[.slice none 0 0] 28) = w3 at *
  obtain ⟨a0, _⟩ := one_cell Z0
  have HT := Lib.hid (toClientS_c l n hn hm x cap _ (h.next g3))
  go_wp2_with fail
  refine HT.out.mono ?_
  rintro e w5 ⟨g, rfl, hT, hpw, hb5⟩
  have g5 := grow_next g3 hb5
  have X1 := blk_next hb5 Z1
  have X2 := blk_next hb5 Z2
  obtain ⟨b0, c0⟩ := one_cell X2
  obtain ⟨b1, c1⟩ := one_cell X1
  have hpp : w.heap.size + 1 + 1 < g := Nat.lt_of_lt_of_le (Array.getElem?_eq_some_iff.1 Z2).1 hpw
  go_wp2_with fail
  try simp only [Exit.inBlock, Exit.then]
  have V1 := blk_other X1 (b' := w.heap.size + 1 + 1) (by omega) 0 (.slice (some ⟨g, 0, none⟩) n n)
  have V2 : ((w5.setCell ⟨w.heap.size + 1 + 1, 0, none⟩ (.slice (some ⟨g, 0, none⟩) n n)).setCell ⟨w.heap.size + 1, 0, none⟩ (.slice (some ⟨g, 0, none⟩) n n)).heap[w.heap.size + 1]? = some (.cells #[.slice (some ⟨g, 0, none⟩) n n] 28) := heap_set V1 0 _
  obtain ⟨q0, _⟩ := one_cell V2
  have G := below_setCell (below_setCell g5 (b := w.heap.size + 1 + 1) (by omega) 0 (.slice (some ⟨g, 0, none⟩) n n)) (b := w.heap.size + 1) (by omega) 0 (.slice (some ⟨g, 0, none⟩) n n)
  refine bodyPost_ret (by simp [results, Try.results13, go_sem, q0]; try rfl) rfl ?_
  exact ⟨g, rfl, TabAt.keep hT (by simp [World.setCell, Array.getElem?_modify, show ¬ w.heap.size + 1 + 1 = g by omega, show ¬ w.heap.size + 1 = g by omega]), by omega, G⟩
theorem eqClient_c (v : Cl) (w : World) : Calls Try.prog 59 #[.agg #[.int .i64 v.id, .int .i64 v.last, .int .i64 v.score], .agg #[.int .i64 v.id, .int .i64 v.last, .int .i64 v.score]] w fun e w' => e = .returned (.bool true) ∧ Below w.heap.size w w' := by
  go_enter Try.func59, Try.ntmps59
  go_wp2
  go_returns
  exact ⟨rfl, by go_grown⟩
set_option maxHeartbeats 2000000 in
theorem eqClientS_c (l : List Cl) (n : Nat) (hn : Hid (n = l.length)) (hm : n ≤ maxLen) (x y : Option Addr) (cap cap' : Nat) (w : World) (h : Cls w.heap.size w x l) (h' : Cls w.heap.size w y l) :
    Calls Try.prog 43 #[.slice x n cap, .slice y n cap'] w fun e w' => e = .returned (.bool true) ∧ Below w.heap.size w w' := by
  unfold maxLen at hm
  go_enter Try.func43, Try.ntmps43
  go_wp2
  go_loopw [5] (fun i wr => ∃ k : Nat, k ≤ n ∧ i = .int .i64 k ∧ Below w.heap.size w wr) (fun i _ => n - (intOf i).toNat)
  case atStart => exact ⟨0, Nat.zero_le _, rfl, Below.refl _ _⟩
  case round =>
    obtain ⟨k, hk, rfl, hb⟩ := hrel
    by_cases hlt : k < n
    · obtain ⟨v, hv⟩ := getC (l := l) (k := k) (by rw [← hn.out]; exact hlt)
      obtain ⟨b, off, rfl, _, c0, c1, c2⟩ := (h.next hb).at_ hv
      obtain ⟨b', off', rfl, _, e0, e1, e2⟩ := (h'.next hb).at_ hv
      have HE := Lib.hid (fun W => eqClient_c v W)
      clear hv
      go_wp2_with fail
      go_region_with (go_at_call 59; (with_reducible refine (HE.out _).mono ?_); rintro e w1 ⟨rfl, hb1⟩)
      all_goals
        go_wp2_with fail
        go_roundw
        case rel => exact ⟨k + 1, by omega, by go_num, grow_next hb (below_drewL hb1)⟩
        case measure => simp [intOf]; omega
    · go_wp2_with fail
      go_returns
      exact ⟨rfl, hb⟩
set_option maxHeartbeats 1000000 in
theorem eqLimiter_c (l : List Cl) (n : Nat) (hn : Hid (n = l.length)) (hm : n ≤ maxLen) (x y : Option Addr) (cap cap' : Nat) (w : World) (h : Cls w.heap.size w x l) (h' : Cls w.heap.size w y l) :
    Calls Try.prog 15 #[.agg #[.slice x n cap], .agg #[.slice y n cap']] w fun e w' => e = .returned (.bool true) ∧ Below w.heap.size w w' := by
  have Z0 := blk_alloc (blk_new w (.cells #[.slice x n cap] 28)) (.cells #[.slice y n cap'] 28)
  have Z1 := blk_new (w.alloc (.cells #[.slice x n cap] 28)) (.cells #[.slice y n cap'] 28)
  simp only [World.size_alloc] at Z1
  have g2 : Below w.heap.size w ((w.alloc (.cells #[.slice x n cap] 28)).alloc (.cells #[.slice y n cap'] 28)) := by go_grown
  obtain ⟨c0, _⟩ := one_cell Z0
  obtain ⟨c1, _⟩ := one_cell Z1
  have HE := Lib.hid (eqClientS_c l n hn hm x y cap cap' _ (h.next g2) (h'.next g2))
  go_enter Try.func15, Try.ntmps15
  go_wp2_with fail
  refine HE.out.mono ?_
  rintro e w2 ⟨rfl, hb2⟩
  go_wp2_with fail
  go_returns
  exact ⟨rfl, grow_next g2 hb2⟩
end Go.Proofs.Ytckonbbdeohccaa
