/- Lists of intervals in memory: all right, how many have a place: the reference's way. -/
import Derived.Test.YtohcebiepekbeaaGreatDoorIv
import Derived.Test.YtohcebiepekbeaaGreatDoorMga
import Derived.IntWalk
import Derived.Deep.QuietTactic
namespace Go.Proofs.YtohcebiepekbeaaGreatDoor
open Go.ChangeShapes Go.WideShapes Go.ChangeAt Go.RowKit
set_option linter.unusedVariables false
set_option linter.unusedSimpArgs false

def Iv.row (i : Iv) : List Int := [i.lo, i.hi]
def Iv.ofRow : List Int → Iv
  | [a, b] => ⟨a, b⟩
  | _ => ⟨0, 0⟩
def Ivs (B : Nat) (w : World) (x : Option Addr) (l : List Iv) : Prop := RowsAt Iv.row 2 B w x l

section
variable {B B' : Nat} {w w' : World} {x : Option Addr} {l : List Iv}
theorem Ivs.below (h : Ivs B w x l) (hb : Below B w w') : Ivs B w' x l := RowsAt.below h hb
theorem Ivs.mono (h : Ivs B w x l) (hB : B ≤ B') : Ivs B' w x l := RowsAt.mono h hB
theorem Ivs.next (h : Ivs w.heap.size w x l) (hb : Below w.heap.size w w') : Ivs w'.heap.size w' x l := RowsAt.next h hb
theorem Ivs.at_ {i : Nat} {v : Iv} (h : Ivs B w x l) (hi : l[i]? = some v) : ∃ b off, x = some ⟨b, off, none⟩ ∧ b < B ∧ w.cell? ⟨b, off + i * 2, none⟩ = some (.int .i64 v.lo) ∧ w.cell? ⟨b, off + i * 2 + 1, none⟩ = some (.int .i64 v.hi) := by
  obtain ⟨b, off, e, hb, hc⟩ := RowsAt.at_ h hi
  exact ⟨b, off, e, hb, hc 0 _ rfl, hc 1 _ rfl⟩
end

theorem get_at {α : Type} {l : List α} {k : Nat} (h : k < l.length) : ∃ v, l[k]? = some v := ⟨l[k], List.getElem?_eq_getElem h⟩
theorem take_next {α : Type} {l : List α} {k : Nat} {v : α} (h : l[k]? = some v) : l.take (k + 1) = l.take k ++ [v] := by
  rw [List.take_add_one, h]; rfl

def okAll (l : List Iv) : Bool := l.all Iv.ok
def okIvs (l : List Iv) : Bool := okAll l && decide (l.length ≤ 20)
theorem okAll_next {l : List Iv} {k : Nat} {v : Iv} (h : l[k]? = some v) (h0 : okAll (l.take k) = true) (h1 : v.ok = true) : okAll (l.take (k + 1)) = true := by
  rw [take_next h]
  simp [okAll] at h0 ⊢
  exact ⟨h0, h1⟩
theorem okAll_not {l : List Iv} {k : Nat} {v : Iv} (h : l[k]? = some v) (h1 : v.ok = false) : okAll l = false := by
  have hm := List.mem_of_getElem? h
  cases e : okAll l with
  | false => rfl
  | true =>
    have := List.all_eq_true.1 e v hm
    rw [h1] at this
    cases this
theorem okAll_take {l : List Iv} (h : okAll (l.take l.length) = true) : okAll l = true := by rwa [List.take_length] at h

theorem ivOk_decS {s : Iv} {b : Bool} (h : s.ok = b) (w : World) : Calls Tryz.prog 121 #[.agg #[.int .i64 s.lo, .int .i64 s.hi]] w fun e w' => e = .returned (.bool b) ∧ Below w.heap.size w w' := h ▸ intervalOk_spec s w
theorem ivOk_decI {s : Iv} {b : Bool} (h : s.ok = b) (w : World) : Calls Tryz.prog 104 #[.agg #[.int .i64 s.lo, .int .i64 s.hi]] w fun e w' => e = .returned (.bool b) ∧ Below w.heap.size w w' := h ▸ intervalOk_impl s w

theorem l5Ok_c (l : List Iv) (n : Nat) (hn : Hid (n = l.length)) (hm : n ≤ maxLen) (x : Option Addr) (cap : Nat) (w : World) (h : Ivs w.heap.size w x l) :
    Calls Tryz.prog 98 #[.slice x n cap] w fun e w' => e = .returned (.bool (okIvs l)) ∧ Below w.heap.size w w' := by
  unfold maxLen at hm
  go_enter Tryz.func98, Tryz.ntmps98
  go_wp2
  go_loopw [3] (fun i wr => ∃ k : Nat, k ≤ n ∧ i = .int .i64 k ∧ okAll (l.take k) = true ∧ Below w.heap.size w wr) (fun i _ => n - (intOf i).toNat)
  case atStart => exact ⟨0, Nat.zero_le _, rfl, rfl, Below.refl _ _⟩
  case round =>
    obtain ⟨k, hk, rfl, ha, hb⟩ := hrel
    have HA := Lib.hid ha
    clear ha
    by_cases hlt : k < n
    · obtain ⟨v, hv⟩ := get_at (l := l) (k := k) (by rw [← hn.out]; exact hlt)
      obtain ⟨b, off, rfl, hbB, c0, c1⟩ := (h.next hb).at_ hv
      have HV := Lib.hid hv
      clear hv
      cases ho : v.ok with
      | false =>
        have HO := Lib.hid (fun w => ivOk_decS ho w)
        have HF := Lib.hid (okAll_not HV.out ho)
        clear ho
        go_wp2_with fail
        refine (HO.out _).mono ?_
        rintro e w1 ⟨rfl, hb1⟩
        have g1 := grow_next hb hb1
        go_wp2_with fail
        go_returns
        exact ⟨by unfold okIvs; rw [HF.out]; rfl, g1⟩
      | true =>
        have HO := Lib.hid (fun w => ivOk_decS ho w)
        have HF := Lib.hid (okAll_next HV.out HA.out ho)
        clear ho
        go_wp2_with fail
        refine (HO.out _).mono ?_
        rintro e w1 ⟨rfl, hb1⟩
        have g1 := grow_next hb hb1
        go_wp2_with fail
        go_roundw
        case rel => exact ⟨k + 1, by omega, by go_num, HF.out, g1⟩
        case measure => simp [intOf]; omega
    · have e : k = n := by omega
      have HL : okAll l = true := by
        have := HA.out
        rw [e, hn.out] at this
        exact okAll_take this
      have HF := Lib.hid (show okIvs l = decide (n ≤ 20) by unfold okIvs; rw [HL, ← hn.out, Bool.true_and])
      clear HL e
      go_wp2_with fail
      go_returns
      exact ⟨by rw [HF.out]; simp; omega, hb⟩

/-- How many have this place. -/
def depthOf (l : List Iv) (x : Int) : Nat := l.countP fun i => inB i.lo x i.hi
theorem depthOf_le (l : List Iv) (x : Int) : depthOf l x ≤ l.length := List.countP_le_length
theorem depthOf_nil (x : Int) : depthOf [] x = 0 := rfl
theorem depthOf_next {l : List Iv} {k : Nat} {v : Iv} (h : l[k]? = some v) (x : Int) : depthOf (l.take (k + 1)) x = depthOf (l.take k) x + (if inB v.lo x v.hi then 1 else 0) := by
  rw [take_next h]
  simp [depthOf, List.countP_append, List.countP_cons]

theorem quiet_of_left {P : Program} {f : FuncId} {args : Array Value} {w : World} {n : Nat} {v : Value}
    (h : Calls P f args (w.drewN n) fun e w' => e = .returned v ∧ w.drewN n = w') : Calls P f args (w.drewN n) fun e w'' => e = .returned v ∧ ∃ m, w'' = w.drewN m :=
  h.mono fun _ _ ⟨he, hm⟩ => ⟨he, n, hm.symm⟩
theorem quiet_of_left0 {P : Program} {f : FuncId} {args : Array Value} {w : World} {v : Value}
    (h : Calls P f args w fun e w' => e = .returned v ∧ w = w') : Calls P f args w fun e w'' => e = .returned v ∧ ∃ m, w'' = w.drewN m :=
  h.mono fun _ _ ⟨he, hm⟩ => ⟨he, 0, hm.symm⟩
theorem drewN_more {w wr : World} (h : ∃ m, wr = w.drewN m) (n : Nat) : ∃ m, wr.drewN n = w.drewN m := by
  obtain ⟨m, rfl⟩ := h
  exact ⟨m + n, by simp⟩
theorem l1In_dec {n lo hi : Int} {b : Bool} (h : inB lo n hi = b) (w : World) : Calls Tryz.prog 54 #[.int .i64 n, .int .i64 lo, .int .i64 hi] w fun e w' => e = .returned (.bool b) ∧ w = w' := h ▸ l1In_c n lo hi w

theorem l5Depth_c (l : List Iv) (q : Int) (n : Nat) (hn : Hid (n = l.length)) (hm : n ≤ maxLen) (x : Option Addr) (cap : Nat) (w : World) (h : Ivs w.heap.size w x l) :
    Calls Tryz.prog 122 #[.slice x n cap, .int .i64 q] w fun e w' => e = .returned (.int .i64 (depthOf l q)) ∧ ∃ m, w' = w.drewN m := by
  unfold maxLen at hm
  go_enter Tryz.func122, Tryz.ntmps122
  go_wp2
  go_loopw [5, 6] (fun d i wr => ∃ k c : Nat, k ≤ n ∧ i = .int .i64 k ∧ c ≤ k ∧ d = .int .i64 c ∧ depthOf (l.take k) q = c ∧ ∃ m, wr = w.drewN m) (fun _ i _ => n - (intOf i).toNat)
  case atStart => exact ⟨0, 0, Nat.zero_le _, rfl, Nat.le_refl _, rfl, rfl, 0, rfl⟩
  case round =>
    obtain ⟨k, c, hk, rfl, hck, rfl, hc, hm'⟩ := hrel
    have HC := Lib.hid hc
    have hr : Ivs w.heap.size wr x l := by
      obtain ⟨m, rfl⟩ := hm'
      exact h.below (grow_drew (Below.refl _ _) m)
    have HM := Lib.hid hm'
    clear hc hm'
    by_cases hlt : k < n
    · obtain ⟨v, hv⟩ := get_at (l := l) (k := k) (by rw [← hn.out]; exact hlt)
      obtain ⟨b, off, rfl, hbB, c0, c1⟩ := hr.at_ hv
      have HV := Lib.hid hv
      have HD := Lib.hid (depthOf_next hv q)
      clear hv
      cases ho : inB v.lo q v.hi with
      | false =>
        have HO := Lib.hid (fun w => l1In_dec ho w)
        have HF := Lib.hid (show depthOf (l.take (k + 1)) q = c by rw [HD.out, ho, HC.out]; rfl)
        clear ho
        go_wp2_with fail
        go_quiet ((go_at_call 54; exact quiet_of_left (HO.out _)))
        go_wp2_with fail
        go_roundw
        case rel => exact ⟨k + 1, c, by omega, by go_num, by omega, rfl, HF.out, drewN_more HM.out _⟩
        case measure => simp [intOf]; omega
      | true =>
        have HO := Lib.hid (fun w => l1In_dec ho w)
        have HF := Lib.hid (show depthOf (l.take (k + 1)) q = c + 1 by rw [HD.out, ho, HC.out]; rfl)
        clear ho
        go_wp2_with fail
        go_quiet ((go_at_call 54; exact quiet_of_left (HO.out _)))
        go_wp2_with fail
        go_roundw
        case rel => exact ⟨k + 1, c + 1, by omega, by go_num, by omega, by go_num, HF.out, drewN_more HM.out _⟩
        case measure => simp [intOf]; omega
    · have e : k = n := by omega
      have HF := Lib.hid (show depthOf l q = c by
        have := HC.out
        rw [e, hn.out, List.take_length] at this
        exact this)
      clear e
      go_wp2_with fail
      go_returns
      exact ⟨by rw [HF.out]; rfl, HM.out⟩

/-- Depth's answer. -/
def depthV (l : List Iv) (q : Int) : Int := if okIvs l then (depthOf l q : Int) else -1
theorem okIvs_dec {l : List Iv} {b : Bool} (hb : okIvs l = b) (n : Nat) (hn : Hid (n = l.length)) (hm : n ≤ maxLen) (x : Option Addr) (cap : Nat) (w : World) (h : Ivs w.heap.size w x l) :
    Calls Tryz.prog 98 #[.slice x n cap] w fun e w' => e = .returned (.bool b) ∧ Below w.heap.size w w' := hb ▸ l5Ok_c l n hn hm x cap w h

end Go.Proofs.YtohcebiepekbeaaGreatDoor
