/- The next leap: the reference's way. -/
import Derived.Test.YtlgmdicpmifcmaaLpS
namespace Go.Proofs.Ytlgmdicpmifcmaa
open Go.ChangeShapes Go.WideShapes Go.ChangeAt Go.RowKit
set_option linter.unusedVariables false
set_option linter.unusedSimpArgs false

theorem find_hit {l : List Lp} {p : Lp → Bool} {k : Nat} {v : Lp} (h : l[k]? = some v) (hp : p v = true) : (l.drop k).find? p = some v := by
  have hk := (List.getElem?_eq_some_iff.1 h).1
  rw [List.drop_eq_getElem_cons hk]
  have : l[k] = v := by have := List.getElem?_eq_getElem hk; rw [h] at this; exact (Option.some.inj this).symm
  rw [this, List.find?_cons_of_pos hp]
theorem find_next {l : List Lp} {p : Lp → Bool} {k : Nat} {v : Lp} (h : l[k]? = some v) (hp : p v = false) : (l.drop k).find? p = (l.drop (k + 1)).find? p := by
  have hk := (List.getElem?_eq_some_iff.1 h).1
  rw [List.drop_eq_getElem_cons hk]
  have : l[k] = v := by have := List.getElem?_eq_getElem hk; rw [h] at this; exact (Option.some.inj this).symm
  rw [this, List.find?_cons_of_neg (by simp [hp])]
/-- What is told of the next one. -/
def nextR (o : Option Lp) : Value := match o with
  | some v => .tuple #[.agg #[.int .i64 v.at_, .int .i64 v.add], .bool true]
  | none => .tuple #[.agg #[.int .i64 0, .int .i64 0], .bool false]
theorem two_putL {W : World} {b : Nat} {x0 x1 : Value} {T : TypeId} (e : W.heap[b]? = some (.cells #[x0, x1] T)) (y0 y1 : Value) : ((W.setCell ⟨b, 0, none⟩ y0).setCell ⟨b, 1, none⟩ y1).heap[b]? = some (.cells #[y0, y1] T) := heap_set (heap_set e 0 y0) 1 y1
theorem two_cellsL {W : World} {b : Nat} {x0 x1 : Value} {T : TypeId} (e : W.heap[b]? = some (.cells #[x0, x1] T)) : (W.cell? ⟨b, 0, none⟩ = some x0 ∧ W.cell? ⟨b, 1, none⟩ = some x1) ∧ W.frozen? ⟨b, 0, none⟩ = false ∧ W.frozen? ⟨b, 1, none⟩ = false := by simp [World.cell?, World.frozen?, e]

set_option maxHeartbeats 2000000 in
theorem nextLeap_spec (t : Int) (l : List Lp) (n : Nat) (hn : Hid (n = l.length)) (hm : n ≤ maxLen) (x : Option Addr) (cap : Nat) (w : World) (h : Lps w.heap.size w x l) :
    Calls Try.prog 17 #[.slice x n cap, .int .i64 t] w fun e w' => e = .returned (nextR (nextV l t)) ∧ Below w.heap.size w w' := by
  have hm' := hm
  unfold maxLen at hm'
  have Z0 := blk_new w (.cells #[.int .i64 0, .int .i64 0] 30)
  have b0 := below_new w (.cells #[.int .i64 0, .int .i64 0] 30)
  have h0 := h.next b0
  have HV := Lib.hid (show nextV l t = (if okLps l && timeL t then (l.drop 0).find? (fun v => decide (t < v.at_)) else none) from rfl)
  obtain ⟨o, hno⟩ : ∃ o, nextV l t = o := ⟨_, rfl⟩
  rw [hno] at HV ⊢
  clear hno
  go_enter Try.func17, Try.ntmps17
  go_wp2_with fail
  go_loopw [6] (fun i wr => ∃ k : Nat, k ≤ n ∧ i = .int .i64 k ∧ Hid (o = (if okLps l && timeL t then (l.drop k).find? (fun v => decide (t < v.at_)) else none)) ∧ Below (w.alloc (.cells #[.int .i64 0, .int .i64 0] 30)).heap.size (w.alloc (.cells #[.int .i64 0, .int .i64 0] 30)) wr) (fun i _ => n - (intOf i).toNat)
  case atStart => exact ⟨0, Nat.zero_le _, rfl, HV, Below.refl _ _⟩
  case round =>
    obtain ⟨k, hk, rfl, HF, hb⟩ := hrel
    clear HV
    have hr := h0.next hb
    have ZR := blk_next hb Z0
    have gr := grow_next b0 hb
    cases ho : okLps l with
    | false =>
      obtain rfl : o = none := by rw [HF.out, ho]; rfl
      have HO := Lib.hid (leapsOk_decS ho n hn hm x cap _ hr)
      clear ho
      go_wp2_with (go_at_call 25; refine HO.out.mono ?_; rintro e w1 ⟨rfl, b1⟩; have g1 := grow_next gr b1; have Z1 := blk_next b1 ZR; obtain ⟨⟨z0, z1⟩, f0, f1⟩ := two_cellsL Z1)
      obtain ⟨⟨q0, q1⟩, _⟩ := two_cellsL (two_putL Z1 (.int .i64 0) (.int .i64 0))
      have G := below_setCell (below_setCell g1 (Nat.le_refl w.heap.size) 0 (.int .i64 0)) (Nat.le_refl w.heap.size) 1 (.int .i64 0)
      refine bodyPost_ret (by simp [results, Try.results17, go_sem, q0, q1]; try rfl) rfl ?_
      exact ⟨rfl, G⟩
    | true =>
      have HO := Lib.hid (leapsOk_decS ho n hn hm x cap _ hr)
      cases ht : timeL t with
      | false =>
        obtain rfl : o = none := by rw [HF.out, ht]; simp
        have HT := Lib.hid (fun w => time_decS ht w)
        clear ht ho
        go_wp2_with (first | (go_at_call 25; refine HO.out.mono ?_; rintro e w1 ⟨rfl, b1⟩; have g1 := grow_next gr b1; have Z1 := blk_next b1 ZR; obtain ⟨⟨z0, z1⟩, f0, f1⟩ := two_cellsL Z1) | (go_at_call 28; refine (HT.out _).mono ?_; rintro e w2 ⟨rfl, rfl⟩))
        obtain ⟨⟨q0, q1⟩, _⟩ := two_cellsL (two_putL Z1 (.int .i64 0) (.int .i64 0))
        have G := below_setCell (below_setCell g1 (Nat.le_refl w.heap.size) 0 (.int .i64 0)) (Nat.le_refl w.heap.size) 1 (.int .i64 0)
        refine bodyPost_ret (by simp [results, Try.results17, go_sem, q0, q1]; try rfl) rfl ?_
        exact ⟨rfl, G⟩
      | true =>
        have HT := Lib.hid (fun w => time_decS ht w)
        have HF' := Lib.hid (show o = (l.drop k).find? (fun v => decide (t < v.at_)) by rw [HF.out, ho, ht]; rfl)
        clear ht ho HF
        by_cases hlt : k < n
        · obtain ⟨v, hv⟩ := get_at (l := l) (k := k) (by rw [← hn.out]; exact hlt)
          obtain ⟨b, off, rfl, hbB, _⟩ := hr.at_ hv
          by_cases hle : t < v.at_
          · have HF2 := Lib.hid (show o = some v by rw [HF'.out]; exact find_hit hv (by simp [hle]))
            go_wp2_with (first | (go_at_call 25; refine HO.out.mono ?_; rintro e w1 ⟨rfl, b1⟩; have g1 := grow_next gr b1; have Z1 := blk_next b1 ZR; obtain ⟨⟨z0, z1⟩, f0, f1⟩ := two_cellsL Z1; obtain ⟨b', off', e', _, c0, c1⟩ := (hr.next b1).at_ hv; simp only [Option.some.injEq, Addr.mk.injEq] at e'; obtain ⟨rfl, rfl, _⟩ := e') | (go_at_call 28; refine (HT.out _).mono ?_; rintro e w2 ⟨rfl, rfl⟩))
            obtain ⟨⟨q0, q1⟩, _⟩ := two_cellsL (two_putL Z1 (.int .i64 v.at_) (.int .i64 v.add))
            have G := below_setCell (below_setCell g1 (Nat.le_refl w.heap.size) 0 (.int .i64 v.at_)) (Nat.le_refl w.heap.size) 1 (.int .i64 v.add)
            refine bodyPost_ret (by simp [results, Try.results17, go_sem, q0, q1]; try rfl) rfl ?_
            exact ⟨by rw [HF2.out]; rfl, G⟩
          · have HF2 := Lib.hid (show o = (if (true && true) = true then (l.drop (k + 1)).find? (fun v => decide (t < v.at_)) else none) by rw [HF'.out]; exact find_next hv (by simp [hle]))
            go_wp2_with (first | (go_at_call 25; refine HO.out.mono ?_; rintro e w1 ⟨rfl, b1⟩; have g1 := grow_next hb b1; obtain ⟨b', off', e', _, c0, c1⟩ := (hr.next b1).at_ hv; simp only [Option.some.injEq, Addr.mk.injEq] at e'; obtain ⟨rfl, rfl, _⟩ := e') | (go_at_call 28; refine (HT.out _).mono ?_; rintro e w2 ⟨rfl, rfl⟩))
            go_roundw
            case rel => exact ⟨k + 1, by omega, by go_num, HF2, g1⟩
            case measure => simp [intOf]; omega
        · obtain rfl : o = none := by rw [HF'.out, List.drop_eq_nil_of_le (by rw [← hn.out]; omega)]; rfl
          go_wp2_with (first | (go_at_call 25; refine HO.out.mono ?_; rintro e w1 ⟨rfl, b1⟩; have g1 := grow_next gr b1; have Z1 := blk_next b1 ZR; obtain ⟨⟨z0, z1⟩, f0, f1⟩ := two_cellsL Z1) | (go_at_call 28; refine (HT.out _).mono ?_; rintro e w2 ⟨rfl, rfl⟩))
          obtain ⟨⟨q0, q1⟩, _⟩ := two_cellsL (two_putL Z1 (.int .i64 0) (.int .i64 0))
          have G := below_setCell (below_setCell g1 (Nat.le_refl w.heap.size) 0 (.int .i64 0)) (Nat.le_refl w.heap.size) 1 (.int .i64 0)
          refine bodyPost_ret (by simp [results, Try.results17, go_sem, q0, q1]; try rfl) rfl ?_
          exact ⟨rfl, G⟩
end Go.Proofs.Ytlgmdicpmifcmaa
