/- Where most intervals agree: the reference's Agreed. -/
import Derived.Test.YtohcebiepekbeaaGreatDoorAgreedI
namespace Go.Proofs.YtohcebiepekbeaaGreatDoor
open Go.ChangeShapes Go.WideShapes Go.ChangeAt Go.RowKit
set_option linter.unusedVariables false
set_option linter.unusedSimpArgs false

/-- The best place of the first k. -/
def Top (l : List Iv) (k : Nat) (M lo hi : Int) : Prop :=
  (k = 0 ∧ M = 0 ∧ lo = 0 ∧ hi = 0) ∨ ((∃ v ∈ l, v.lo = lo ∧ v.hi = hi) ∧ 1 ≤ M ∧ (depthOf l lo : Int) = M ∧ ∀ (j : Nat) (v : Iv), j < k → l[j]? = some v → (depthOf l v.lo : Int) ≤ M ∧ ((depthOf l v.lo : Int) = M → lo ≤ v.lo))
theorem Top.take {l : List Iv} {k : Nat} {M lo hi : Int} {v : Iv} (h : Top l k M lo hi) (hv : l[k]? = some v) (hp : 1 ≤ depthOf l v.lo) (hm : M < depthOf l v.lo ∨ ((depthOf l v.lo : Int) = M ∧ v.lo < lo)) : Top l (k + 1) (depthOf l v.lo) v.lo v.hi := by
  refine .inr ⟨⟨v, List.mem_of_getElem? hv, rfl, rfl⟩, by omega, rfl, fun j u hj hu => ?_⟩
  rcases Nat.lt_or_ge j k with hlt | hge
  · rcases h with ⟨h0, _⟩ | ⟨_, _, _, h⟩
    · omega
    · have := h j u hlt hu
      omega
  · obtain rfl : j = k := by omega
    rw [hv] at hu
    rw [← Option.some.inj hu]
    omega
theorem Top.stay {l : List Iv} {k : Nat} {M lo hi : Int} {v : Iv} (h : Top l k M lo hi) (hv : l[k]? = some v) (hp : 1 ≤ depthOf l v.lo) (hm : (depthOf l v.lo : Int) < M ∨ ((depthOf l v.lo : Int) = M ∧ lo ≤ v.lo)) : Top l (k + 1) M lo hi := by
  rcases h with ⟨h0, h1, _⟩ | ⟨a, b, c, h⟩
  · omega
  · refine .inr ⟨a, b, c, fun j u hj hu => ?_⟩
    rcases Nat.lt_or_ge j k with hlt | hge
    · exact h j u hlt hu
    · obtain rfl : j = k := by omega
      rw [hv] at hu
      rw [← Option.some.inj hu]
      omega
/-- The first end of the first k that have the place. -/
def Ends (l : List Iv) (k : Nat) (lo hi : Int) : Prop := (∃ v ∈ l, inB v.lo lo v.hi = true ∧ v.hi = hi) ∧ ∀ (j : Nat) (v : Iv), j < k → l[j]? = some v → inB v.lo lo v.hi = true → hi ≤ v.hi
theorem Ends.skip {l : List Iv} {k : Nat} {lo hi : Int} {v : Iv} (h : Ends l k lo hi) (hv : l[k]? = some v) (hm : inB v.lo lo v.hi = true → hi ≤ v.hi) : Ends l (k + 1) lo hi := by
  refine ⟨h.1, fun j u hj hu hin => ?_⟩
  rcases Nat.lt_or_ge j k with hlt | hge
  · exact h.2 j u hlt hu hin
  · obtain rfl : j = k := by omega
    rw [hv] at hu
    obtain rfl := Option.some.inj hu
    exact hm hin
theorem Ends.take {l : List Iv} {k : Nat} {lo hi : Int} {v : Iv} (h : Ends l k lo hi) (hv : l[k]? = some v) (hin : inB v.lo lo v.hi = true) (hm : v.hi ≤ hi) : Ends l (k + 1) lo v.hi := by
  refine ⟨⟨v, List.mem_of_getElem? hv, hin, rfl⟩, fun j u hj hu hinu => ?_⟩
  rcases Nat.lt_or_ge j k with hlt | hge
  · have := h.2 j u hlt hu hinu
    omega
  · obtain rfl : j = k := by omega
    rw [hv] at hu
    obtain rfl := Option.some.inj hu
    exact Int.le_refl _

theorem Ends.least {l : List Iv} {k : Nat} {lo hi : Int} {v : Iv} (h : Ends l k lo hi) (hv : l[k]? = some v) (hin : inB v.lo lo v.hi = true) : Ends l (k + 1) lo (if v.hi < hi then v.hi else hi) := by
  by_cases hlt : v.hi < hi
  · rw [if_pos hlt]
    exact h.take hv hin (by omega)
  · rw [if_neg hlt]
    exact h.skip hv (fun _ => by omega)

def SpAt (W wr : World) (lo hi : Int) : Prop := wr.heap[W.heap.size]? = some (.cells #[.int .i64 0, .int .i64 0] 45) ∧ wr.heap[W.heap.size + 1]? = some (.cells #[.int .i64 lo, .int .i64 hi] 45) ∧ Below W.heap.size W wr
def SpA (W wr : World) (l : List Iv) (k : Nat) (M : Int) : Prop := ∃ lo hi : Int, Top l k M lo hi ∧ SpAt W wr lo hi
def SpB (W wr : World) (l : List Iv) (k : Nat) (lo : Int) : Prop := ∃ hi : Int, Ends l k lo hi ∧ SpAt W wr lo hi
def SpPost (W : World) (l : List Iv) : Ending → World → Prop := fun r w' =>
  ∃ lo hi M : Int, r = .returned (.tuple #[.agg #[.int .i64 lo, .int .i64 hi], .int .i64 M]) ∧ AgreedIs l lo hi M ∧ Below W.heap.size W w'

theorem SpAt.put {W wr : World} {lo hi : Int} (h : SpAt W wr lo hi) (u v : Int) : SpAt W ((wr.setCell ⟨W.heap.size + 1, 0, none⟩ (.int .i64 u)).setCell ⟨W.heap.size + 1, 1, none⟩ (.int .i64 v)) u v := by
  refine ⟨iv_other h.1 (by omega) _ _, iv_put (q := ⟨lo, hi⟩) h.2.1 ⟨u, v⟩, ?_⟩
  repeat (refine below_setCell ?_ (by omega) _ _)
  exact h.2.2
theorem SpAt.drewN {W wr : World} {lo hi : Int} (h : SpAt W wr lo hi) (n : Nat) : SpAt W (wr.drewN n) lo hi := ⟨h.1, h.2.1, grow_drew h.2.2 n⟩
theorem SpAt.drew {W wr : World} {lo hi : Int} (h : SpAt W wr lo hi) : SpAt W wr.drew lo hi := ⟨h.1, h.2.1, below_drewR h.2.2⟩
theorem SpAt.putHi {W wr : World} {lo hi : Int} (h : SpAt W wr lo hi) (v : Int) : SpAt W (wr.setCell ⟨W.heap.size + 1, 1, none⟩ (.int .i64 v)) lo v := by
  obtain ⟨h0, h1, h2⟩ := h
  refine ⟨?_, ?_, below_setCell h2 (by omega) _ _⟩
  · simp [World.setCell, Array.getElem?_modify, h0]
  · simp [World.setCell, Array.getElem?_modify, h1]

set_option maxHeartbeats 4000000 in
theorem l5Agreed_c (l : List Iv) (n : Nat) (hn : Hid (n = l.length)) (hm : n ≤ 20) (x : Option Addr) (cap : Nat) (W : World) (h : Ivs W.heap.size W x l) (hok : okAll l = true) (hne : 0 < n) :
    Calls Tryz.prog 99 #[.slice x n cap] W (SpPost W l) := by
  have HK := Lib.hid hok
  clear hok
  go_enter Tryz.func99, Tryz.ntmps99
  go_wp2
  go_loopw [5, 6] (fun m i wr => ∃ (k : Nat) (M : Int), k ≤ n ∧ i = .int .i64 k ∧ m = .int .i64 M ∧ 0 ≤ M ∧ M ≤ n ∧ SpA W wr l k M) (fun _ i _ => n - (intOf i).toNat)
  case atStart =>
    refine ⟨0, 0, Nat.zero_le _, rfl, rfl, by omega, by omega, 0, 0, .inl ⟨rfl, rfl, rfl, rfl⟩, ?_, ?_, by go_grown⟩
    · exact blk_alloc (blk_new W _) _
    · have := blk_new (W.alloc (.cells #[.int .i64 0, .int .i64 0] 45)) (.cells #[.int .i64 0, .int .i64 0] 45)
      simpa using this
  case round =>
    obtain ⟨k, M, hk, rfl, rfl, m0, m1, lo, hi, hT, hA⟩ := hrel
    have HT := Lib.hid hT
    have HAt := Lib.hid hA
    have hb := hA.2.2
    have z0 := hA.1
    have z1 := hA.2.1
    clear hT hA
    by_cases hlt : k < n
    · obtain ⟨v, hv⟩ := get_at (l := l) (k := k) (by rw [← hn.out]; exact hlt)
      have hr := h.next hb
      obtain ⟨b, off, rfl, hbB, c0, c1⟩ := hr.at_ hv
      have HV := Lib.hid hv
      have hvm := List.mem_of_getElem? hv
      have hp := depth_pos hvm (inB_yes (Int.le_refl _) (ok_of HK.out hvm))
      have hdl := depthOf_le l v.lo
      rw [← hn.out] at hdl
      obtain ⟨d, hd⟩ : ∃ d, depthOf l v.lo = d := ⟨_, rfl⟩
      have hD := fun w h => l5Depth_c l v.lo n hn (by unfold maxLen; omega) (some ⟨b, off, none⟩) cap w h
      rw [hd] at hD hp hdl
      have HD := Lib.hid hd
      have HC := Lib.hid hD
      clear hv hvm hd hD
      go_wp2_with fail
      refine (HC.out _ hr).mono ?_
      rintro e w1 ⟨rfl, q, rfl⟩
      have HA1 := Lib.hid (HAt.out.drewN q)
      have hr1 := hr.next (w' := wr.drewN q) (grow_drew (Below.refl _ _) q)
      obtain ⟨w1, hw1⟩ : ∃ w1, w1 = wr.drewN q := ⟨_, rfl⟩
      have c0' : w1.cell? ⟨b, off + k * 2, none⟩ = some (.int .i64 v.lo) := by rw [hw1]; exact c0
      have c1' : w1.cell? ⟨b, off + k * 2 + 1, none⟩ = some (.int .i64 v.hi) := by rw [hw1]; exact c1
      rw [← hw1] at HA1 ⊢
      have hb1 : b < w1.heap.size := by rw [hw1]; exact hbB
      clear hw1 c0 c1 z0 z1 hr hr1 hb
      obtain ⟨t0, t1⟩ := iv_cells (q := ⟨lo, hi⟩) HA1.out.2.1
      obtain ⟨f0, f1⟩ := iv_thaw (q := ⟨lo, hi⟩) HA1.out.2.1
      dsimp only at t0 t1
      rcases Int.lt_trichotomy M (d : Int) with hlt1 | heq | hgt
      · have e1 : decide (M < (d : Int)) = true := decide_eq_true hlt1
        go_wp2_with fail
        have HT3 := Lib.hid (show Top l (k + 1) d v.lo v.hi by have := HT.out.take HV.out (by rw [HD.out]; exact hp) (.inl (by rw [HD.out]; exact hlt1)); rwa [HD.out] at this)
        go_quiet (fail)
        go_wp2_with fail
        obtain ⟨w2, hw2⟩ : ∃ w2, w2 = w1.drewN nq := ⟨_, rfl⟩
        have HA2 : SpAt W w2 lo hi := by rw [hw2]; exact HA1.out.drewN nq
        have c0 : w2.cell? ⟨b, off + k * 2, none⟩ = some (.int .i64 v.lo) := by rw [hw2]; exact c0'
        have c1 : w2.cell? ⟨b, off + k * 2 + 1, none⟩ = some (.int .i64 v.hi) := by rw [hw2]; exact c1'
        have hb2 : b < w2.heap.size := by rw [hw2]; exact hb1
        rw [← hw2]
        clear hw2 c0' c1' t0 t1 f0 f1 hb1
        obtain ⟨t0, t1⟩ := iv_cells (q := ⟨lo, hi⟩) HA2.2.1
        obtain ⟨f0, f1⟩ := iv_thaw (q := ⟨lo, hi⟩) HA2.2.1
        dsimp only at t0 t1
        have HA3 := Lib.hid (HA2.put v.lo v.hi).drew
        have HA4 := Lib.hid (HA2.drew.put v.lo v.hi)
        clear HA2
        go_region_with fail
        all_goals
          go_wp2_with fail
          go_roundw
          case rel =>
            exact ⟨k + 1, d, by omega, by go_num, rfl, by omega, by omega, v.lo, v.hi, HT3.out, by first | exact HA3.out | exact HA4.out⟩
          case measure => simp [intOf]; omega
      · subst heq
        by_cases hlo : v.lo < lo
        · have HT3 := Lib.hid (show Top l (k + 1) d v.lo v.hi by have := HT.out.take HV.out (by rw [HD.out]; exact hp) (.inr ⟨by rw [HD.out], hlo⟩); rwa [HD.out] at this)
          have e3 : decide (v.lo < lo) = true := decide_eq_true hlo
          go_wp2_with fail
          go_quiet (fail)
          go_wp2_with fail
          obtain ⟨w2, hw2⟩ : ∃ w2, w2 = w1.drewN nq := ⟨_, rfl⟩
          have HA2 : SpAt W w2 lo hi := by rw [hw2]; exact HA1.out.drewN nq
          have c0 : w2.cell? ⟨b, off + k * 2, none⟩ = some (.int .i64 v.lo) := by rw [hw2]; exact c0'
          have c1 : w2.cell? ⟨b, off + k * 2 + 1, none⟩ = some (.int .i64 v.hi) := by rw [hw2]; exact c1'
          have hb2 : b < w2.heap.size := by rw [hw2]; exact hb1
          rw [← hw2]
          clear hw2 c0' c1' t0 t1 f0 f1 hb1
          obtain ⟨t0, t1⟩ := iv_cells (q := ⟨lo, hi⟩) HA2.2.1
          obtain ⟨f0, f1⟩ := iv_thaw (q := ⟨lo, hi⟩) HA2.2.1
          dsimp only at t0 t1
          have HA3 := Lib.hid (HA2.put v.lo v.hi).drew
          have HA4 := Lib.hid (HA2.drew.put v.lo v.hi)
          clear HA2
          go_region_with fail
          all_goals
            go_wp2_with fail
            go_roundw
            case rel =>
              exact ⟨k + 1, d, by omega, by go_num, rfl, by omega, by omega, v.lo, v.hi, HT3.out, by first | exact HA3.out | exact HA4.out⟩
            case measure => simp [intOf]; omega
        · have e3 : decide (v.lo < lo) = false := decide_eq_false hlo
          go_wp2_with fail
          go_quiet (fail)
          go_wp2_with fail
          go_roundw
          case rel =>
            refine ⟨k + 1, d, by omega, by go_num, rfl, m0, m1, lo, hi, HT.out.stay HV.out (by rw [HD.out]; exact hp) (.inr ⟨by rw [HD.out], by omega⟩), HA1.out.drewN _⟩
          case measure => simp [intOf]; omega
      · have e1 : decide (M < (d : Int)) = false := decide_eq_false (by omega)
        have e2 : ((d : Int) == M) = false := by simp; omega
        go_wp2_with fail
        go_quiet (fail)
        go_wp2_with fail
        go_roundw
        case rel =>
          refine ⟨k + 1, M, by omega, by go_num, rfl, m0, m1, lo, hi, HT.out.stay HV.out (by rw [HD.out]; exact hp) (by rw [HD.out]; omega), HA1.out.drewN _⟩
        case measure => simp [intOf]; omega
    · have e : k = n := by omega
      have hT := HT.out
      rw [e] at hT
      obtain ⟨⟨v0, hv0, hl0, hh0⟩, hM1, hMd, hall⟩ : (∃ v ∈ l, v.lo = lo ∧ v.hi = hi) ∧ 1 ≤ M ∧ (depthOf l lo : Int) = M ∧ ∀ (j : Nat) (v : Iv), j < n → l[j]? = some v → (depthOf l v.lo : Int) ≤ M ∧ ((depthOf l v.lo : Int) = M → lo ≤ v.lo) := by
        rcases hT with ⟨h0, _⟩ | h
        · omega
        · exact h
      have HQ := Lib.hid (show 1 ≤ M ∧ (depthOf l lo : Int) = M ∧ (∃ v ∈ l, v.lo = lo) ∧ ∀ v ∈ l, (depthOf l v.lo : Int) ≤ M ∧ ((depthOf l v.lo : Int) = M → lo ≤ v.lo) from ⟨hM1, hMd, ⟨v0, hv0, hl0⟩, fun v hv => by
        obtain ⟨j, hj⟩ := List.getElem?_of_mem hv
        exact hall j v (by rw [hn.out]; exact (List.getElem?_eq_some_iff.1 hj).1) hj⟩)
      have HE0 := Lib.hid (show Ends l 0 lo hi from ⟨⟨v0, hv0, inB_yes (by omega) (by rw [← hl0]; exact ok_of HK.out hv0), hh0⟩, fun j v hj => by omega⟩)
      clear hT hall hMd hv0 hl0 hh0 e v0 HT
      clear z0 z1 hb
      go_wp2_with fail
      go_loopw [8] (fun i w2 => ∃ k : Nat, k ≤ n ∧ i = .int .i64 k ∧ SpB W w2 l k lo) (fun i _ => n - (intOf i).toNat)
      case atStart => exact ⟨0, Nat.zero_le _, rfl, hi, HE0.out, HAt.out⟩
      case round =>
        obtain ⟨j, hj, rfl, hi', hE, hA⟩ := hrel
        have HE := Lib.hid hE
        have HA := Lib.hid hA
        have hb := hA.2.2
        obtain ⟨t0, t1⟩ := iv_cells (q := ⟨lo, hi'⟩) hA.2.1
        obtain ⟨f0, f1⟩ := iv_thaw (q := ⟨lo, hi'⟩) hA.2.1
        dsimp only at t0 t1
        by_cases hjl : j < n
        · obtain ⟨v, hv⟩ := get_at (l := l) (k := j) (by rw [← hn.out]; exact hjl)
          have hr := h.next hb
          obtain ⟨b, off, rfl, hbB, c0, c1⟩ := hr.at_ hv
          have HV := Lib.hid hv
          clear hv hE hA
          cases hin : inB v.lo lo v.hi with
          | false =>
            have HO := Lib.hid (fun w => l1In_dec hin w)
            have HI := Lib.hid hin
            clear hin
            go_wp2_with fail
            go_quiet ((go_at_call 54; exact quiet_of_left (HO.out _)))
            go_wp2_with fail
            go_roundw
            case rel => exact ⟨j + 1, by omega, by go_num, hi', HE.out.skip HV.out (fun h => by rw [HI.out] at h; cases h), HA.out.drewN _⟩
            case measure => simp [intOf]; omega
          | true =>
            have HO := Lib.hid (fun w => l1In_dec hin w)
            have HI := Lib.hid hin
            clear hin
            go_wp2_with fail
            go_quiet ((go_at_call 54; exact quiet_of_left (HO.out _)))
            go_wp2_with fail
            go_region_with fail
            all_goals
              go_wp2_with fail
              go_roundw
              case rel => exact ⟨j + 1, by omega, by go_num, _, HE.out.least HV.out HI.out, by first | exact (HA.out.drewN _).putHi _ | exact ((HA.out.drewN _).putHi _).drew⟩
              case measure => simp [intOf]; omega
        · have e : j = n := by omega
          have HE1 := Lib.hid (show Ends l n lo hi' by have := HE.out; rwa [e] at this)
          obtain ⟨s0, s1⟩ := iv_cells (q := ⟨0, 0⟩) hA.1
          obtain ⟨y0, y1⟩ := iv_thaw (q := ⟨0, 0⟩) hA.1
          obtain ⟨q0, q1⟩ := iv_cells (iv_put (q := ⟨0, 0⟩) hA.1 ⟨lo, hi'⟩)
          have G : ∀ wr : World, Below W.heap.size W wr → Below W.heap.size W ((wr.setCell ⟨W.heap.size, 0, none⟩ (.int .i64 lo)).setCell ⟨W.heap.size, 1, none⟩ (.int .i64 hi')) := fun wr h => by
            repeat (refine below_setCell ?_ (by omega) _ _)
            exact h
          have G := G _ hb
          dsimp only at s0 s1 q0 q1
          clear hE hA e
          go_wp2_with fail
          refine bodyPost_ret (by simp [results, Tryz.results99, go_sem, q0, q1]; try rfl) rfl ?_
          refine ⟨lo, hi', M, rfl, ⟨HQ.out.1, HQ.out.2.1, HQ.out.2.2.1, HQ.out.2.2.2, HE1.out.1, fun v hv hin => ?_⟩, G⟩
          obtain ⟨i, hi2⟩ := List.getElem?_of_mem hv
          exact HE1.out.2 i v (by rw [hn.out]; exact (List.getElem?_eq_some_iff.1 hi2).1) hi2 hin

theorem agreed_spec (l : List Iv) (n : Nat) (hn : Hid (n = l.length)) (hm : n ≤ 1048576) (x : Option Addr) (cap : Nat) (W : World) (h : Ivs W.heap.size W x l) :
    Calls Tryz.prog 70 #[.slice x n cap] W (AgrPost W l) := by
  have R := blk_new W (.cells #[.int .i64 0, .int .i64 0] 45)
  have g0 := below_new W (.cells #[.int .i64 0, .int .i64 0] 45)
  cases ho : okIvs l with
  | false =>
    have HO := Lib.hid (okIvs_dec ho n hn (by unfold maxLen; omega) x cap _ (h.next g0))
    have HA := Lib.hid (show Agr l 0 0 0 from .inr ⟨.inl ho, rfl, rfl, rfl⟩)
    clear ho
    go_enter Tryz.func70, Tryz.ntmps70
    go_wp2_with fail
    refine (HO.out).mono ?_
    rintro e w1 ⟨rfl, hb1⟩
    have R1 := blk_next hb1 R
    have g1 := grow_next g0 hb1
    obtain ⟨z0, z1⟩ := iv_cells (q := ⟨0, 0⟩) R1
    obtain ⟨y0, y1⟩ := iv_thaw (q := ⟨0, 0⟩) R1
    obtain ⟨q0, q1⟩ := iv_cells (iv_put (q := ⟨0, 0⟩) R1 ⟨0, 0⟩)
    have G : Below W.heap.size W ((w1.setCell ⟨W.heap.size, 0, none⟩ (.int .i64 0)).setCell ⟨W.heap.size, 1, none⟩ (.int .i64 0)) := by
      repeat (refine below_setCell ?_ (by omega) _ _)
      exact g1
    dsimp only at z0 z1 q0 q1
    go_wp2_with fail
    refine bodyPost_ret (by simp [results, Tryz.results70, go_sem, q0, q1]; try rfl) rfl ?_
    exact ⟨0, 0, 0, rfl, HA.out, G⟩
  | true =>
    obtain ⟨ha, hl⟩ := okIvs_parts ho
    have h20 : n ≤ 20 := by rw [hn.out]; exact hl
    have HO := Lib.hid (okIvs_dec ho n hn (by unfold maxLen; omega) x cap _ (h.next g0))
    have HK := Lib.hid ho
    have HL := Lib.hid ha
    clear ho ha hl
    rcases Nat.eq_zero_or_pos n with h0 | h0
    · have hnil : l = [] := List.eq_nil_of_length_eq_zero (by rw [← hn.out]; exact h0)
      have HA := Lib.hid (show Agr l 0 0 0 from .inr ⟨.inr hnil, rfl, rfl, rfl⟩)
      clear hnil
      subst h0
      go_enter Tryz.func70, Tryz.ntmps70
      go_wp2_with fail
      refine (HO.out).mono ?_
      rintro e w1 ⟨rfl, hb1⟩
      have R1 := blk_next hb1 R
      have g1 := grow_next g0 hb1
      obtain ⟨z0, z1⟩ := iv_cells (q := ⟨0, 0⟩) R1
      obtain ⟨y0, y1⟩ := iv_thaw (q := ⟨0, 0⟩) R1
      obtain ⟨q0, q1⟩ := iv_cells (iv_put (q := ⟨0, 0⟩) R1 ⟨0, 0⟩)
      have G : Below W.heap.size W ((w1.setCell ⟨W.heap.size, 0, none⟩ (.int .i64 0)).setCell ⟨W.heap.size, 1, none⟩ (.int .i64 0)) := by
        repeat (refine below_setCell ?_ (by omega) _ _)
        exact g1
      dsimp only at z0 z1 q0 q1
      go_wp2_with fail
      refine bodyPost_ret (by simp [results, Tryz.results70, go_sem, q0, q1]; try rfl) rfl ?_
      exact ⟨0, 0, 0, rfl, HA.out, G⟩
    · have hne : ((n : Int) == 0) = false := by simp; omega
      go_enter Tryz.func70, Tryz.ntmps70
      go_wp2_with fail
      refine (HO.out).mono ?_
      rintro e w1 ⟨rfl, hb1⟩
      have R1 := blk_next hb1 R
      have g1 := grow_next g0 hb1
      go_wp2_with fail
      refine (l5Agreed_c l n hn h20 x cap _ (h.next g1) HL.out h0).mono ?_
      rintro e w3 ⟨lo, hi, M, rfl, hB, hb3⟩
      have R3 := blk_next hb3 R1
      have g3 := grow_next g1 hb3
      have HA := Lib.hid (show Agr l lo hi M from .inl ⟨HK.out, fun e => by have := hn.out; rw [e] at this; simp at this; omega, hB⟩)
      clear hB
      obtain ⟨z0, z1⟩ := iv_cells (q := ⟨0, 0⟩) R3
      obtain ⟨y0, y1⟩ := iv_thaw (q := ⟨0, 0⟩) R3
      obtain ⟨q0, q1⟩ := iv_cells (iv_put (q := ⟨0, 0⟩) R3 ⟨lo, hi⟩)
      have G : Below W.heap.size W ((w3.setCell ⟨W.heap.size, 0, none⟩ (.int .i64 lo)).setCell ⟨W.heap.size, 1, none⟩ (.int .i64 hi)) := by
        repeat (refine below_setCell ?_ (by omega) _ _)
        exact g3
      dsimp only at z0 z1 q0 q1
      go_wp2_with fail
      refine bodyPost_ret (by simp [results, Tryz.results70, go_sem, q0, q1]; try rfl) rfl ?_
      exact ⟨lo, hi, M, rfl, HA.out, G⟩
end Go.Proofs.YtohcebiepekbeaaGreatDoor
