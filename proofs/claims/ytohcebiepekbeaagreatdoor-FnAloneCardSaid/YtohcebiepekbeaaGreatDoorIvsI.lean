/- Lists of intervals in memory: all right, which have a place: the program's way. -/
import Derived.Test.YtohcebiepekbeaaGreatDoorIvs
import Derived.Laws.AppendOwn
namespace Go.Proofs.YtohcebiepekbeaaGreatDoor
open Go.ChangeShapes Go.WideShapes Go.ChangeAt Go.RowKit
set_option linter.unusedVariables false
set_option linter.unusedSimpArgs false

theorem intervalsOk_c (l : List Iv) (n : Nat) (hn : Hid (n = l.length)) (hm : n ≤ maxLen) (x : Option Addr) (cap : Nat) (w : World) (h : Ivs w.heap.size w x l) :
    Calls Tryz.prog 82 #[.slice x n cap] w fun e w' => e = .returned (.bool (okIvs l)) ∧ Below w.heap.size w w' := by
  unfold maxLen at hm
  by_cases hbig : 20 < n
  · have HF : okIvs l = false := by
      unfold okIvs
      rw [← hn.out, decide_eq_false (by omega), Bool.and_false]
    rw [HF]
    clear HF
    go_enter Tryz.func82, Tryz.ntmps82
    go_wp2
    go_returns
    exact ⟨rfl, Below.refl _ _⟩
  · go_enter Tryz.func82, Tryz.ntmps82
    go_wp2
    go_loopw [10] (fun i wr => ∃ k : Nat, k ≤ n ∧ i = .int .i64 k ∧ okAll (l.take k) = true ∧ Below w.heap.size w wr) (fun i _ => n - (intOf i).toNat)
    case atStart => exact ⟨0, Nat.zero_le _, rfl, rfl, Below.refl _ _⟩
    case round =>
      obtain ⟨k, hk, rfl, ha, hb⟩ := hrel
      have HA := Lib.hid ha
      clear ha
      by_cases hlt : k < n
      · obtain ⟨v, hv⟩ := get_at (l := l) (k := k) (by rw [← hn.out]; exact hlt)
        obtain ⟨b, off, rfl, hbB, c0, c1⟩ := (h.next hb).at_ hv
        have HV := Lib.hid hv
        clear hv
        have hg : Below w.heap.size w (wr.alloc (.cells #[.int .i64 v.lo, .int .i64 v.hi] 45)) := hb.alloc (by have := hb.size; omega) _
        cases ho : v.ok with
        | false =>
          have HO := Lib.hid (fun w => ivOk_decI ho w)
          have HF := Lib.hid (okAll_not HV.out ho)
          clear ho
          go_wp2_with fail
          refine (HO.out _).mono ?_
          rintro e w1 ⟨rfl, hb1⟩
          have g1 := grow_next hg hb1
          go_wp2_with fail
          go_returns
          exact ⟨by unfold okIvs; rw [HF.out]; rfl, g1⟩
        | true =>
          have HO := Lib.hid (fun w => ivOk_decI ho w)
          have HF := Lib.hid (okAll_next HV.out HA.out ho)
          clear ho
          go_wp2_with fail
          refine (HO.out _).mono ?_
          rintro e w1 ⟨rfl, hb1⟩
          have g1 := grow_next hg hb1
          go_wp2_with fail
          go_roundw
          case rel => exact ⟨k + 1, by omega, by go_num, HF.out, g1⟩
          case measure => simp [intOf]; omega
      · have e : k = n := by omega
        have HL : okAll l = true := by
          have := HA.out
          rw [e, hn.out] at this
          exact okAll_take this
        have HF := Lib.hid (show okIvs l = true by unfold okIvs; rw [HL, ← hn.out, Bool.true_and]; exact decide_eq_true (by omega))
        clear HL e
        go_wp2_with fail
        go_returns
        exact ⟨by rw [HF.out]; rfl, hb⟩

/-! ### Which have a place -/
def hasAt (l : List Iv) (q : Int) (j : Nat) : Bool := match l[j]? with | some v => inB v.lo q v.hi | none => false
def placesTo (l : List Iv) (q : Int) (k : Nat) : List Int := ((List.range k).filter (hasAt l q)).map Int.ofNat
def placesOf (l : List Iv) (q : Int) : List Int := placesTo l q l.length
theorem hasAt_of {l : List Iv} {k : Nat} {v : Iv} (h : l[k]? = some v) (q : Int) : hasAt l q k = inB v.lo q v.hi := by unfold hasAt; rw [h]
theorem placesTo_next (l : List Iv) (q : Int) (k : Nat) : placesTo l q (k + 1) = placesTo l q k ++ (if hasAt l q k then [(k : Int)] else []) := by
  unfold placesTo
  rw [List.range_succ, List.filter_append, List.map_append]
  cases h : hasAt l q k <;> simp [h]
theorem placesTo_length (l : List Iv) (q : Int) : ∀ k, k ≤ l.length → (placesTo l q k).length = depthOf (l.take k) q := by
  intro k
  induction k with
  | zero => intro _; simp [placesTo, depthOf]
  | succ k ih =>
    intro h
    obtain ⟨v, hv⟩ := get_at (l := l) (k := k) (by omega)
    rw [placesTo_next, depthOf_next hv, List.length_append, ih (by omega), hasAt_of hv]
    cases inB v.lo q v.hi <;> rfl
theorem placesOf_length (l : List Iv) (q : Int) : (placesOf l q).length = depthOf l q := by
  unfold placesOf
  rw [placesTo_length l q _ (Nat.le_refl _), List.take_length]
theorem placesTo_le (l : List Iv) (q : Int) (k : Nat) : (placesTo l q k).length ≤ k := by
  unfold placesTo
  rw [List.length_map]
  have := List.length_filter_le (hasAt l q) (List.range k)
  simpa using this

theorem infoInt : (Tryz.prog.info? 2).map (fun i => (i.zero, i.size, i.bytes)) = some (some (.int .i64 0), 1, 8) := by kernel_rfl
theorem within_dec {n lo hi : Int} {b : Bool} (h : inB lo n hi = b) (w : World) : Calls Tryz.prog 67 #[.int .i64 n, .int .i64 lo, .int .i64 hi] w fun e w' => e = .returned (.bool b) ∧ w = w' := h ▸ within_c n lo hi w

theorem info_parts' {P : Program} {t : TypeId} {z : Value} {s b : Nat} (h : (P.info? t).map (fun i => (i.zero, i.size, i.bytes)) = some (some z, s, b)) : ∃ i, P.info? t = some i ∧ i.zero = some z ∧ i.size = s ∧ i.bytes = b := by
  cases hi : P.info? t with
  | none => rw [hi] at h; simp at h
  | some i =>
    rw [hi] at h
    simp at h
    exact ⟨i, rfl, h⟩
theorem cell_one_new' (w : World) (v : Value) (t : TypeId) : ∀ j u, [v][j]? = some u → (w.alloc (.cells #[v] t)).cell? ((⟨w.heap.size, 0, none⟩ : Addr).add j) = some u := by
  intro j u hu
  cases j with
  | zero =>
    simp at hu
    subst hu
    simp [Addr.add]
  | succ j => simp at hu

/-- Fresh numbers: a slice of the call's own that holds these; nothing that lay has turned. -/
def FreshInts (W : World) (xs : List Int) : Ending → World → Prop := fun e w' => ∃ v, e = .returned v ∧ w'.ownsRow W.heap.size 2 1 v xs.length (xs.map (Value.int .i64)) ∧ Below W.heap.size W w'

theorem grownBy_below {W w1 w2 : World} {B : Nat} {row : Option Nat} (h : Below B W w1) (hB : B ≤ w1.heap.size) (hg : w1.grownBy w2 row) (hr : ∀ k, row = some k → B ≤ k) : Below B W w2 :=
  h.grown hg hB (fun j e => hr j e)

theorem ownsRow_form {w : World} {base : Nat} {e : TypeId} {size : Nat} {v : Value} {n : Nat} {xs : List Value} (h : w.ownsRow base e size v n xs) : ∃ x cap, v = .slice x n cap := by
  rcases h.2 with ⟨rfl, rfl⟩ | ⟨g, cap, cur, rfl, _⟩
  · exact ⟨_, _, rfl⟩
  · exact ⟨_, _, rfl⟩

set_option maxHeartbeats 1000000 in
theorem placesOf_c (l : List Iv) (q : Int) (n : Nat) (hn : Hid (n = l.length)) (hm : n ≤ 1048576) (x : Option Addr) (cap : Nat) (w : World) (h : Ivs w.heap.size w x l) :
    Calls Tryz.prog 53 #[.slice x n cap, .int .i64 q] w (FreshInts w (placesOf l q)) := by
  obtain ⟨i0, hi, hz0, hz1, hz2⟩ := info_parts' infoInt
  have HI0 := Lib.hid hi
  have HZ0 := Lib.hid hz0
  have HZ1 := Lib.hid hz1
  have HZ2 := Lib.hid hz2
  clear hi hz0 hz1 hz2
  go_enter Tryz.func53, Tryz.ntmps53
  go_wp2
  go_loopw [5, 10] (fun o i wr => ∃ k : Nat, k ≤ n ∧ i = .int .i64 k ∧ wr.ownsRow w.heap.size 2 1 o (placesTo l q k).length ((placesTo l q k).map (Value.int .i64)) ∧ Below w.heap.size w wr) (fun _ i _ => n - (intOf i).toNat)
  case atStart => exact ⟨0, Nat.zero_le _, rfl, World.ownsRow_nil _ _ _ _, Below.refl _ _⟩
  case round =>
    obtain ⟨k, hk, rfl, hrow, hb⟩ := hrel
    by_cases hlt : k < n
    · obtain ⟨v, hv⟩ := get_at (l := l) (k := k) (by rw [← hn.out]; exact hlt)
      obtain ⟨b, off, rfl, hbB, c0, c1⟩ := (h.next hb).at_ hv
      have HH := Lib.hid (hasAt_of hv q)
      have HP := Lib.hid (placesTo_next l q k)
      clear hv
      have hg : Below w.heap.size w (wr.alloc (.cells #[.int .i64 v.lo, .int .i64 v.hi] 45)) := hb.alloc (by have := hb.size; omega) _
      have hrow1 := hrow.alloc (.cells #[.int .i64 v.lo, .int .i64 v.hi] 45)
      have hle := placesTo_le l q k
      cases ho : inB v.lo q v.hi with
      | false =>
        have HO := Lib.hid (fun w => within_dec ho w)
        have HF := Lib.hid (show placesTo l q (k + 1) = placesTo l q k by rw [HP.out, HH.out, ho]; simp)
        clear ho
        go_wp2_with fail
        refine (HO.out _).mono ?_
        rintro e w1 ⟨rfl, rfl⟩
        go_wp2_with fail
        go_roundw
        case rel => exact ⟨k + 1, by omega, by go_num, by rw [HF.out]; exact hrow1, hg⟩
        case measure => simp [intOf]; omega
      | true =>
        have HO := Lib.hid (fun w => within_dec ho w)
        have HF := Lib.hid (show placesTo l q (k + 1) = placesTo l q k ++ [(k : Int)] by rw [HP.out, HH.out, ho]; simp)
        clear ho
        go_wp2_with fail
        refine (HO.out _).mono ?_
        rintro e w1 ⟨rfl, rfl⟩
        go_wp2_with (at_builtin; refine wpList_append_own _ rfl _ _ 50 rfl w.heap.size 2 i0 (.int .i64 0) 1 8 Tryz.underlying50 HI0.out HZ0.out HZ1.out HZ2.out rfl (by decide) _ _ _ rfl (hrow1.alloc _) ⟨wr.heap.size + 1, 0, none⟩ 1 1 [.int .i64 k] rfl rfl (by simpa using cell_one_new' (wr.alloc (.cells #[.int .i64 v.lo, .int .i64 v.hi] 45)) (.int .i64 k) 2) (by simp [Value.oneCell']) (by unfold maxLen; omega) (by omega) (by have := hg.size; simp at this ⊢; omega) ?_; intro v' w4 hown' hgrow _)
        have hgrow' : ((wr.alloc (.cells #[.int .i64 v.lo, .int .i64 v.hi] 45)).alloc (.cells #[.int .i64 k] 2)).grownBy w4 u5.ownBlock := hgrow
        clear hgrow
        go_roundw
        case rel =>
          exact ⟨k + 1, by omega, by go_num, by rw [HF.out]; simpa using hown',
            grownBy_below (hg.alloc (by have := hg.size; omega) (.cells #[.int .i64 k] 2)) (by have := hg.size; simp at this ⊢; omega) hgrow' (fun g hg => (hrow.lt g hg).1)⟩
        case measure => simp [intOf]; omega
    · have e : k = n := by omega
      have HF := Lib.hid (show placesTo l q k = placesOf l q by rw [e, hn.out]; rfl)
      clear e
      go_wp2_with fail
      go_returns
      exact ⟨_, rfl, by rw [← HF.out]; exact hrow, hb⟩

theorem okI_dec {l : List Iv} {b : Bool} (hb : okIvs l = b) (n : Nat) (hn : Hid (n = l.length)) (hm : n ≤ maxLen) (x : Option Addr) (cap : Nat) (w : World) (h : Ivs w.heap.size w x l) :
    Calls Tryz.prog 82 #[.slice x n cap] w fun e w' => e = .returned (.bool b) ∧ Below w.heap.size w w' := hb ▸ intervalsOk_c l n hn hm x cap w h

end Go.Proofs.YtohcebiepekbeaaGreatDoor
