/- The sorted list of right leaps: these leaps, in their order. -/
import Derived.Test.YtlgmdicpmifcmaaLPut
import Derived.Test.YtlgmdicpmifcmaaLpNextS
namespace Go.Proofs.Ytlgmdicpmifcmaa
open Go.ChangeShapes Go.WideShapes Go.ChangeAt Go.RowKit
set_option linter.unusedVariables false
set_option linter.unusedSimpArgs false
theorem run_store_funcL (P : Program) (w : World) (a : Addr) (m : Mode) (f : Fn) (xs ys : Array Value) : (store a (.func f xs ys) m).run P w = stored P w a (.func f xs ys) m := run_store P w a _ m rfl
attribute [local go_sem] run_store_funcL

theorem place_last {l : List Lp} (h : okLps l = true) {k j : Nat} {v : Lp} (hv : l[k]? = some v) (hP : PlaceOf v (l.take k) j) : j = k := by
  have hk := (List.getElem?_eq_some_iff.1 hv).1
  have hl : (l.take k).length = k := by rw [List.length_take]; omega
  obtain ⟨h0, h1, _⟩ := hP
  rw [hl] at h0
  rcases Nat.lt_or_ge j k with hj | hj
  · obtain ⟨u, hu⟩ := get_at (l := l) (k := k - 1) (by omega)
    have hu' : (l.take k)[k - 1]? = some u := by rw [List.getElem?_take_of_lt (by omega)]; exact hu
    have := h1 (k - 1) u (by omega) hu'
    have h2 := (okLps_at h hu).2 k v (by omega) hv
    simp [Lp.ahead] at this
    omega
  · omega
theorem put_last {l : List Lp} {k : Nat} {v : Lp} (hv : l[k]? = some v) : (l.take k).take k ++ v :: (l.take k).drop k = l.take (k + 1) := by
  rw [take_next hv, List.take_take, Nat.min_self, List.drop_take, Nat.sub_self]
  simp

theorem leapsOk_decI {l : List Lp} {b : Bool} (hb : okLps l = b) (n : Nat) (hn : Hid (n = l.length)) (hm : n ≤ maxLen) (x : Option Addr) (cap : Nat) (w : World) (h : Lps w.heap.size w x l) :
    Calls Try.prog 24 #[.slice x n cap] w fun e w' => e = .returned (.bool b) ∧ Below w.heap.size w w' := hb ▸ leapsOk_impl l n hn hm x cap w h
theorem time_decI {t : Int} {b : Bool} (h : timeL t = b) (w : World) : Calls Try.prog 41 #[.int .i64 t, .int .i64 0, .int .i64 4000000000] w fun e w' => e = .returned (.bool b) ∧ w = w' := h ▸ within_c t 0 4000000000 w

/-- The list, and that it is right; else a list of nothing. -/
def ForNo (w : World) : Ending → World → Prop := fun e w' => e = .returned (.tuple #[.agg #[.func (.func 40) #[] #[], .slice none 0 0], .bool false]) ∧ Below w.heap.size w w'
def ForOk (w : World) (l : List Lp) (n : Nat) : Ending → World → Prop := fun e w' => ∃ (y : Option Addr) (c : Nat), e = .returned (.tuple #[.agg #[.func (.func 40) #[] #[], .slice y n c], .bool true]) ∧ LpRow w.heap.size w' y c l ∧ Below w.heap.size w w'

set_option maxHeartbeats 2000000 in
theorem leapsFor_no (t : Int) (l : List Lp) (hno : (okLps l && timeL t) = false) (n : Nat) (hn : Hid (n = l.length)) (hm : n ≤ maxLen) (x : Option Addr) (cap : Nat) (w : World) (h : Lps w.heap.size w x l) :
    Calls Try.prog 30 #[.slice x n cap, .int .i64 t] w (ForNo w) := by
  obtain ⟨W2, hW2⟩ : ∃ W2, (w.alloc (.cells #[Value.nilFunc, .slice none 0 0] 45)).alloc (.cells #[.func (.func 40) #[] #[], .slice none 0 0] 45) = W2 := ⟨_, rfl⟩
  have Z0 : W2.heap[w.heap.size]? = some (.cells #[Value.nilFunc, .slice none 0 0] 45) := by rw [← hW2]; exact blk_alloc (blk_new w _) _
  have Z1 : W2.heap[w.heap.size + 1]? = some (.cells #[.func (.func 40) #[] #[], .slice none 0 0] 45) := by rw [← hW2]; have := blk_new (w.alloc (.cells #[Value.nilFunc, .slice none 0 0] 45)) (.cells #[.func (.func 40) #[] #[], .slice none 0 0] 45); rwa [World.size_alloc] at this
  have b2 : Below w.heap.size w W2 := by rw [← hW2]; go_grown
  have h2 := h.next b2
  have fin : ∀ W3, Below W2.heap.size W2 W3 → ((W3.setCell ⟨w.heap.size, 0, none⟩ (.func (.func 40) #[] #[])).setCell ⟨w.heap.size, 1, none⟩ (.slice none 0 0)).heap[w.heap.size]? = some (.cells #[.func (.func 40) #[] #[], .slice none 0 0] 45) ∧ Below w.heap.size w ((W3.setCell ⟨w.heap.size, 0, none⟩ (.func (.func 40) #[] #[])).setCell ⟨w.heap.size, 1, none⟩ (.slice none 0 0)) := fun W3 b3 =>
    ⟨two_putL (blk_next b3 Z0) _ _, below_setCell (below_setCell (grow_next b2 b3) (Nat.le_refl w.heap.size) 0 _) (Nat.le_refl w.heap.size) 1 _⟩
  cases ho : okLps l with
  | false =>
    have HO := Lib.hid (leapsOk_decI ho n hn hm x cap _ h2)
    clear ho hno
    have HW2 := Lib.hid hW2
    clear hW2
    go_enter Try.func30, Try.ntmps30
    go_wp2_with fail
    rw [HW2.out]
    refine HO.out.mono ?_
    rintro e W3 ⟨rfl, b3⟩
    obtain ⟨⟨z0, z1⟩, f0, f1⟩ := two_cellsL (blk_next b3 Z0)
    obtain ⟨⟨y0, y1⟩, _⟩ := two_cellsL (blk_next b3 Z1)
    obtain ⟨F1, F2⟩ := fin W3 b3
    obtain ⟨⟨q0, q1⟩, _⟩ := two_cellsL F1
    go_wp2_with fail
    refine bodyPost_ret (by simp [results, Try.results30, go_sem, q0, q1]; try rfl) rfl ?_
    exact ⟨rfl, F2⟩
  | true =>
    have ht : timeL t = false := by rw [ho] at hno; simpa using hno
    have HO := Lib.hid (leapsOk_decI ho n hn hm x cap _ h2)
    have HT := Lib.hid (fun w => time_decI ht w)
    clear ho hno ht
    have HW2 := Lib.hid hW2
    clear hW2
    go_enter Try.func30, Try.ntmps30
    go_wp2_with fail
    rw [HW2.out]
    refine HO.out.mono ?_
    rintro e W3 ⟨rfl, b3⟩
    obtain ⟨⟨z0, z1⟩, f0, f1⟩ := two_cellsL (blk_next b3 Z0)
    obtain ⟨⟨y0, y1⟩, _⟩ := two_cellsL (blk_next b3 Z1)
    obtain ⟨F1, F2⟩ := fin W3 b3
    obtain ⟨⟨q0, q1⟩, _⟩ := two_cellsL F1
    go_wp2_with (go_at_call 41; refine (HT.out _).mono ?_; rintro e w2 ⟨rfl, rfl⟩)
    refine bodyPost_ret (by simp [results, Try.results30, go_sem, q0, q1]; try rfl) rfl ?_
    exact ⟨rfl, F2⟩

/-- Where the list stands behind so many leaps. -/
def ForAt (w W2 wr : World) (l : List Lp) (k : Nat) : Prop :=
  ∃ (y : Option Addr) (c : Nat), ListAt wr (w.heap.size + 1) y k c ∧ LpRow (w.heap.size + 1) wr y c (l.take k) ∧ Below (w.heap.size + 1) W2 wr

set_option maxHeartbeats 2000000 in
theorem leapsFor_ok (t : Int) (l : List Lp) (hok : okLps l = true) (ht : timeL t = true) (n : Nat) (hn : Hid (n = l.length)) (hm : n ≤ maxLen) (x : Option Addr) (cap : Nat) (w : World) (h : Lps w.heap.size w x l) :
    Calls Try.prog 30 #[.slice x n cap, .int .i64 t] w (ForOk w l n) := by
  obtain ⟨W2, hW2⟩ : ∃ W2, (w.alloc (.cells #[Value.nilFunc, .slice none 0 0] 45)).alloc (.cells #[.func (.func 40) #[] #[], .slice none 0 0] 45) = W2 := ⟨_, rfl⟩
  have Z0 : W2.heap[w.heap.size]? = some (.cells #[Value.nilFunc, .slice none 0 0] 45) := by rw [← hW2]; exact blk_alloc (blk_new w _) _
  have Z1 : W2.heap[w.heap.size + 1]? = some (.cells #[.func (.func 40) #[] #[], .slice none 0 0] 45) := by rw [← hW2]; have := blk_new (w.alloc (.cells #[Value.nilFunc, .slice none 0 0] 45)) (.cells #[.func (.func 40) #[] #[], .slice none 0 0] 45); rwa [World.size_alloc] at this
  have b2 : Below w.heap.size w W2 := by rw [← hW2]; go_grown
  have hs2 : W2.heap.size = w.heap.size + 1 + 1 := by rw [← hW2]; simp
  have h2 := h.next b2
  have HO := Lib.hid (leapsOk_decI hok n hn hm x cap _ h2)
  have HT := Lib.hid (fun w => time_decI ht w)
  have HK := Lib.hid hok
  have h30 : n ≤ 30 := by rw [hn.out]; exact okLps_len hok
  have HS2 := Lib.hid hs2
  clear hok ht hs2
  have HW2 := Lib.hid hW2
  clear hW2
  go_enter Try.func30, Try.ntmps30
  go_wp2_with fail
  rw [HW2.out]
  refine HO.out.mono ?_
  rintro e W3 ⟨rfl, b3⟩
  clear HO
  go_wp2_with (go_at_call 41; refine (HT.out _).mono ?_; rintro e w2 ⟨rfl, rfl⟩)
  go_loopw [21] (fun i wr => ∃ k : Nat, k ≤ n ∧ i = .int .i64 k ∧ ForAt w W3 wr l k) (fun i _ => n - (intOf i).toNat)
  case atStart =>
    refine ⟨0, Nat.zero_le _, rfl, none, 0, blk_next b3 Z1, ?_, Below.refl _ _⟩
    exact World.ownsRow_nil _ _ _ _
  case round =>
    obtain ⟨k, hk, rfl, y, c, hL, hE, hB⟩ := hrel
    have hws : W2.heap.size ≤ W3.heap.size := b3.size
    have gB : Below w.heap.size w wr := (grow_next b2 b3).trans (hB.mono (by omega))
    by_cases hlt : k < n
    · obtain ⟨v, hv⟩ := get_at (l := l) (k := k) (by rw [← hn.out]; exact hlt)
      obtain ⟨b, off, rfl, hbB, c0, c1⟩ := (h.next gB).at_ hv
      have HN := Lib.hid (show k = (l.take k).length by rw [List.length_take]; have := hn.out; omega)
      have HPL := Lib.hid (fun (j : Nat) (hP : PlaceOf v (l.take k) j) => place_last HK.out hv hP)
      have HPT := Lib.hid (put_last hv)
      have V1 := blk_new wr (.cells #[.int .i64 v.at_, .int .i64 v.add] 30)
      obtain ⟨v0, v1⟩ := lp_cells V1
      have hL1 := hL.next (below_new wr (.cells #[.int .i64 v.at_, .int .i64 v.add] 30))
      have hE1 := hE.next (below_new wr (.cells #[.int .i64 v.at_, .int .i64 v.add] 30))
      have hw0 : w.heap.size + 1 ≤ wr.heap.size := by have := gB.size; have := (Array.getElem?_eq_some_iff.1 hL).1; omega
      have hB1 : Below (w.heap.size + 1) W3 (wr.alloc (.cells #[.int .i64 v.at_, .int .i64 v.add] 30)) := hB.trans ((below_new wr _).mono hw0)
      clear hv hL hE
      go_wp2_with fail
      refine (put_lp (w.heap.size + 1) (w.heap.size + 1) v (l.take k) k HN (by omega) y c _ (Nat.le_refl _) hL1 hE1).mono ?_
      rintro e w1 ⟨j, y', c', rfl, hP, hL', hE', hB', _⟩
      obtain rfl := HPL.out j hP
      rw [HPT.out] at hE'
      go_wp2_with fail
      go_roundw
      case rel =>
        refine ⟨j + 1, by omega, by go_num, y', c', hL', ?_, hB1.trans hB'⟩
        unfold LpRow
        rw [show (l.take (j + 1)).length = j + 1 by rw [List.length_take]; have := hn.out; omega]
        exact hE'
      case measure => simp [intOf]; omega
    · obtain rfl : k = n := by omega
      have hZ : wr.heap[w.heap.size]? = some (.cells #[Value.nilFunc, .slice none 0 0] 45) := (hB.block _ (by omega)).trans (blk_next b3 Z0)
      obtain ⟨⟨z0, z1⟩, f0, f1⟩ := two_cellsL hZ
      obtain ⟨y0, y1⟩ := hL.cells
      have F1 := two_putL hZ (.func (.func 40) #[] #[]) (.slice y k c)
      obtain ⟨⟨q0, q1⟩, _⟩ := two_cellsL F1
      have F2 := below_setCell (below_setCell gB (Nat.le_refl w.heap.size) 0 (.func (.func 40) #[] #[])) (Nat.le_refl w.heap.size) 1 (.slice y k c)
      rw [hn.out, List.take_length] at hE
      have hE2 : LpRow w.heap.size ((wr.setCell ⟨w.heap.size, 0, none⟩ (.func (.func 40) #[] #[])).setCell ⟨w.heap.size, 1, none⟩ (.slice y k c)) y c l := by
        refine ⟨hE.1, ?_⟩
        rcases hE.2 with e | ⟨g, c', cur, e, hb', hg, r⟩
        · exact .inl e
        · refine .inr ⟨g, c', cur, e, by omega, ?_, r⟩
          have hne : w.heap.size ≠ g := by omega
          simp [World.setCell, Array.getElem?_modify, hne, hg]
      have HE2 := Lib.hid hE2
      clear hE hE2
      go_wp2_with fail
      refine bodyPost_ret (by simp [results, Try.results30, go_sem, q0, q1]; try rfl) rfl ?_
      exact ⟨y, c, rfl, HE2.out, F2⟩
end Go.Proofs.Ytlgmdicpmifcmaa
