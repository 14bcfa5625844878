/- Who agrees: the program's Chimers and the reference's. -/
import Derived.Test.YtohcebiepekbeaaGreatDoorAgreedS
namespace Go.Proofs.YtohcebiepekbeaaGreatDoor
open Go.ChangeShapes Go.WideShapes Go.ChangeAt Go.RowKit
set_option linter.unusedVariables false
set_option linter.unusedSimpArgs false

/-- What Chimers tells. -/
def ChimIs (l : List Iv) (c : List Int) : Prop := ∃ lo hi M : Int, Agr l lo hi M ∧ c = (if M = 0 then [] else placesOf l lo)
theorem ChimIs.same {l : List Iv} {c c' : List Int} (h : ChimIs l c) (h' : ChimIs l c') : c = c' := by
  obtain ⟨lo, hi, M, hA, rfl⟩ := h
  obtain ⟨lo', hi', M', hA', rfl⟩ := h'
  obtain ⟨rfl, rfl, rfl⟩ := hA.same hA'
  rfl
theorem ChimIs.length {l : List Iv} {c : List Int} (h : ChimIs l c) : c.length ≤ l.length := by
  obtain ⟨lo, hi, M, hA, rfl⟩ := h
  split
  · simp
  · rw [placesOf_length]; exact depthOf_le l lo
def ChimPost (W : World) (l : List Iv) : Ending → World → Prop := fun r w' => ∃ c, ChimIs l c ∧ FreshInts W c r w'

theorem quiet_of_left0' {P : Program} {f : FuncId} {args : Array Value} {w : World} {n : Nat} {v : Value}
    (h : Calls P f args (w.drewN n) fun e w' => e = .returned v ∧ w.drewN n = w') : Calls P f args (w.drewN n) fun e w'' => e = .returned v ∧ ∃ m, w'' = w.drewN m := quiet_of_left h
theorem fresh_next {W w1 : World} {xs : List Int} {r : Ending} {w' : World} (hb : Below W.heap.size W w1) (h : FreshInts w1 xs r w') : FreshInts W xs r w' := by
  obtain ⟨v, rfl, ho, hb'⟩ := h
  refine ⟨v, rfl, ⟨ho.1, ?_⟩, grow_next hb hb'⟩
  rcases ho.2 with h | ⟨g, c, cur, e, hg, rest⟩
  · exact .inl h
  · exact .inr ⟨g, c, cur, e, Nat.le_trans hb.size hg, rest⟩

set_option maxRecDepth 100000 in
theorem chimers_impl (l : List Iv) (n : Nat) (hn : Hid (n = l.length)) (hm : n ≤ 1048576) (x : Option Addr) (cap : Nat) (W : World) (h : Ivs W.heap.size W x l) :
    Calls Tryz.prog 24 #[.slice x n cap] W (ChimPost W l) := by
  go_enter Tryz.func24, Tryz.ntmps24
  go_wp2_with fail
  refine (agreed_impl l n hn hm x cap _ h).mono ?_
  rintro e w1 ⟨lo, hi, M, rfl, hA, hb1⟩
  have HA := Lib.hid hA
  clear hA
  have V1 := blk_new w1 (.cells #[.int .i64 lo, .int .i64 hi] 45)
  have g1 : Below W.heap.size W (w1.alloc (.cells #[.int .i64 lo, .int .i64 hi] 45)) := hb1.alloc (by have := hb1.size; omega) _
  obtain ⟨v0, v1⟩ := iv_cells (q := ⟨lo, hi⟩) V1
  dsimp only at v0 v1
  by_cases hM : M = 0
  · have HC := Lib.hid (show ChimIs l [] from ⟨lo, hi, M, HA.out, by rw [if_pos hM]⟩)
    have e1 : (M == 0) = true := by simp [hM]
    clear hM
    go_wp2_with fail
    go_returns
    exact ⟨[], HC.out, _, rfl, World.ownsRow_nil _ _ _ _, g1⟩
  · have HC := Lib.hid (show ChimIs l (placesOf l lo) from ⟨lo, hi, M, HA.out, by rw [if_neg hM]⟩)
    have e1 : (M == 0) = false := by simp [hM]
    clear hM
    go_wp2_with fail
    refine (placesOf_c l lo n hn hm x cap _ (h.next g1)).mono ?_
    rintro e w2 hf
    obtain ⟨v, rfl, ho, hb2⟩ := fresh_next g1 hf
    clear hf
    go_wp2_with fail
    go_returns
    exact ⟨_, HC.out, v, rfl, ho, hb2⟩

set_option maxRecDepth 100000 in
set_option maxHeartbeats 1000000 in
theorem chimers_spec (l : List Iv) (n : Nat) (hn : Hid (n = l.length)) (hm : n ≤ 1048576) (x : Option Addr) (cap : Nat) (W : World) (h : Ivs W.heap.size W x l) :
    Calls Tryz.prog 39 #[.slice x n cap] W (ChimPost W l) := by
  obtain ⟨i0, hi, hz0, hz1, hz2⟩ := info_parts' infoInt
  have HI0 := Lib.hid hi
  have HZ0 := Lib.hid hz0
  have HZ1 := Lib.hid hz1
  have HZ2 := Lib.hid hz2
  clear hi hz0 hz1 hz2
  go_enter Tryz.func39, Tryz.ntmps39
  go_wp2_with fail
  have hrow0 := World.ownsRow_made (base := W.heap.size) (e := 2) (size := 1) W #[] 0 (Nat.le_refl _) (by simp [maxLen]) rfl
  have g0 := below_new W (.cells #[] 2)
  refine (agreed_spec l n hn hm x cap _ (h.next g0)).mono ?_
  rintro e w1 ⟨lo, hi, M, rfl, hA, hb1⟩
  obtain ⟨m0, m1⟩ := hA.bounds
  rw [← hn.out] at m1
  have HA := Lib.hid hA
  clear hA
  have hg1 := grow_next g0 hb1
  have hrow1 := hrow0.kept (row := none) ⟨hb1.os, hb1.tape, hb1.output, hb1.size, fun k hk _ => hb1.block k hk⟩ (.inr (by simp [Value.ownBlock]))
  have V1 := blk_new w1 (.cells #[.int .i64 lo, .int .i64 hi] 45)
  have g1 : Below W.heap.size W (w1.alloc (.cells #[.int .i64 lo, .int .i64 hi] 45)) := hg1.alloc (by have := hg1.size; omega) _
  have hrow2 := hrow1.alloc (.cells #[.int .i64 lo, .int .i64 hi] 45)
  clear hrow0 hrow1 hb1 hg1 g0
  by_cases hM : M = 0
  · have HC := Lib.hid (show ChimIs l [] from ⟨lo, hi, M, HA.out, by rw [if_pos hM]⟩)
    subst hM
    go_wp2_with fail
    go_loopw [3, 6] (fun o i wr => i = .int .i64 0 ∧ wr.ownsRow W.heap.size 2 1 o 0 [] ∧ Below W.heap.size W wr) (fun _ i _ => 0)
    case atStart => exact ⟨rfl, hrow2, g1⟩
    case round =>
      obtain ⟨rfl, hrow, hb⟩ := hrel
      go_wp2_with fail
      all_goals
        go_returns
        exact ⟨[], HC.out, _, rfl, hrow, hb⟩
  · have HC := Lib.hid (show ChimIs l (placesOf l lo) from ⟨lo, hi, M, HA.out, by rw [if_neg hM]⟩)
    have hpos : 0 < M := by omega
    clear hM
    go_wp2_with fail
    go_loopw [3, 6] (fun o i wr => ∃ k : Nat, k ≤ n ∧ i = .int .i64 k ∧ wr.ownsRow W.heap.size 2 1 o (placesTo l lo k).length ((placesTo l lo k).map (Value.int .i64)) ∧ wr.heap[w1.heap.size]? = some (.cells #[.int .i64 lo, .int .i64 hi] 45) ∧ Below W.heap.size W wr) (fun _ i _ => n - (intOf i).toNat)
    case atStart => exact ⟨0, Nat.zero_le _, rfl, hrow2, V1, g1⟩
    case round =>
      obtain ⟨k, hk, rfl, hrow, hbx, hb⟩ := hrel
      obtain ⟨v0, v1⟩ := iv_cells (q := ⟨lo, hi⟩) hbx
      dsimp only at v0 v1
      have hle := placesTo_le l lo k
      by_cases hlt : k < n
      · obtain ⟨v, hv⟩ := get_at (l := l) (k := k) (by rw [← hn.out]; exact hlt)
        obtain ⟨b, off, rfl, hbB, c0, c1⟩ := (h.next hb).at_ hv
        have HH := Lib.hid (hasAt_of hv lo)
        have HP := Lib.hid (placesTo_next l lo k)
        clear hv
        cases ho : inB v.lo lo v.hi with
        | false =>
          have HO := Lib.hid (fun w => l1In_dec ho w)
          have HF := Lib.hid (show placesTo l lo (k + 1) = placesTo l lo k by rw [HP.out, HH.out, ho]; simp)
          clear ho
          go_wp2_with fail
          go_quiet ((go_at_call 54; exact quiet_of_left0' (HO.out _)))
          go_wp2_with fail
          go_roundw
          case rel => exact ⟨k + 1, by omega, by go_num, by rw [HF.out]; exact hrow, hbx, grow_drew hb _⟩
          case measure => simp [intOf]; omega
        | true =>
          have HO := Lib.hid (fun w => l1In_dec ho w)
          have HF := Lib.hid (show placesTo l lo (k + 1) = placesTo l lo k ++ [(k : Int)] by rw [HP.out, HH.out, ho]; simp)
          clear ho
          have hbox : ∀ g, u3.ownBlock = some g → g ≠ w1.heap.size := fun g hg e => by
            subst e
            rcases hrow.2 with ⟨e, _⟩ | ⟨g', c, cur, e, _, hh, _⟩
            · rw [e] at hg; simp [Value.ownBlock] at hg
            · rw [e] at hg
              simp [Value.ownBlock] at hg
              subst hg
              have := hh.symm.trans hbx
              simp at this
          go_wp2_with fail
          go_quiet ((go_at_call 54; exact quiet_of_left0' (HO.out _)))
          have hrow3 : (wr.drewN nq).ownsRow W.heap.size 2 1 u3 (placesTo l lo k).length ((placesTo l lo k).map (Value.int .i64)) := hrow
          have hb3 := grow_drew hb nq
          have hbx3 : (wr.drewN nq).heap[w1.heap.size]? = some (.cells #[.int .i64 lo, .int .i64 hi] 45) := hbx
          obtain ⟨w3, hw3⟩ : ∃ w3, w3 = wr.drewN nq := ⟨_, rfl⟩
          rw [← hw3] at hrow3 hb3 hbx3 ⊢
          clear hw3 hrow hb hbx
          go_wp2_with (at_builtin; refine wpList_append_own _ rfl _ _ 50 rfl W.heap.size 2 i0 (.int .i64 0) 1 8 Tryz.underlying50 HI0.out HZ0.out HZ1.out HZ2.out rfl (by decide) _ _ _ rfl (hrow3.alloc _) ⟨w3.heap.size, 0, none⟩ 1 1 [.int .i64 k] rfl rfl (by simpa using cell_one_new' w3 (.int .i64 k) 2) (by simp [Value.oneCell']) (by unfold maxLen; omega) (by omega) (by have := hb3.size; simp at this ⊢; omega) ?_; intro v' w4 hown' hgrow _)
          have hgrow' : (w3.alloc (.cells #[.int .i64 k] 2)).grownBy w4 u3.ownBlock := hgrow
          clear hgrow
          go_roundw
          case rel =>
            exact ⟨k + 1, by omega, by go_num, by rw [HF.out]; simpa using hown',
              (hgrow'.block _ (by have := (Array.getElem?_eq_some_iff.1 hbx3).1; simp; omega) (fun e => hbox _ e.symm rfl)).trans (blk_alloc hbx3 _),
              grownBy_below (hb3.alloc (by have := hb3.size; omega) (.cells #[.int .i64 k] 2)) (by have := hb3.size; simp; omega) hgrow' (fun g hg => (hrow3.lt g hg).1)⟩
          case measure => simp [intOf]; omega
      · have e : k = n := by omega
        have HF := Lib.hid (show placesTo l lo k = placesOf l lo by rw [e, hn.out]; rfl)
        clear e
        go_wp2_with fail
        all_goals
          go_returns
          exact ⟨placesOf l lo, HC.out, _, rfl, by rw [← HF.out]; exact hrow, hb⟩
end Go.Proofs.YtohcebiepekbeaaGreatDoor
