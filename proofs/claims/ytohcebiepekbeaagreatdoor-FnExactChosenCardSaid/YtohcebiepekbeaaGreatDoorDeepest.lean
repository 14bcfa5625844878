/- The sweep over sorted edges: the program's way. -/
import Derived.Test.YtohcebiepekbeaaGreatDoorAgreeMath
import Derived.StillTailTactics
namespace Go.Proofs.YtohcebiepekbeaaGreatDoor
open Go.ChangeShapes Go.WideShapes Go.ChangeAt Go.RowKit
set_option linter.unusedVariables false
set_option linter.unusedSimpArgs false

/-- What the sweep answers; nothing that lay has turned. -/
def DeepPost (W : World) (E : List Ed) : Ending → World → Prop := fun r w' =>
  ∃ M lo hi : Int, r = .returned (.tuple #[.agg #[.int .i64 lo, .int .i64 hi], .int .i64 M]) ∧ Best E E.length M lo hi ∧ 0 ≤ M ∧ M ≤ E.length ∧ Below W.heap.size W w'

def DeepAt (W wr : World) (E : List Ed) (k : Nat) (d M : Int) : Prop :=
  ∃ lo hi : Int, pre E k = d ∧ -(k : Int) ≤ d ∧ d ≤ k ∧ 0 ≤ M ∧ M ≤ k ∧ Best E k M lo hi ∧ wr.heap[W.heap.size]? = some (.cells #[.int .i64 0, .int .i64 0] 45) ∧ wr.heap[W.heap.size + 1]? = some (.cells #[.int .i64 lo, .int .i64 hi] 45) ∧ Below W.heap.size W wr

theorem deep_world {W wr : World} {a b lo hi : Int} {T : TypeId} (z0 : wr.heap[W.heap.size]? = some (.cells #[.int .i64 a, .int .i64 b] T)) (z1 : wr.heap[W.heap.size + 1]? = some (.cells #[.int .i64 lo, .int .i64 hi] T)) (hb : Below W.heap.size W wr) (u v : Int) (o : Obj) :
    (((wr.setCell ⟨W.heap.size + 1, 0, none⟩ (.int .i64 u)).setCell ⟨W.heap.size + 1, 1, none⟩ (.int .i64 v)).alloc o).drew.heap[W.heap.size]? = some (.cells #[.int .i64 a, .int .i64 b] T) ∧
    (((wr.setCell ⟨W.heap.size + 1, 0, none⟩ (.int .i64 u)).setCell ⟨W.heap.size + 1, 1, none⟩ (.int .i64 v)).alloc o).drew.heap[W.heap.size + 1]? = some (.cells #[.int .i64 u, .int .i64 v] T) ∧
    Below W.heap.size W (((wr.setCell ⟨W.heap.size + 1, 0, none⟩ (.int .i64 u)).setCell ⟨W.heap.size + 1, 1, none⟩ (.int .i64 v)).alloc o).drew := by
  refine ⟨blk_alloc (iv_other z0 (by omega) _ _) o, blk_alloc (iv_put (q := ⟨lo, hi⟩) z1 ⟨u, v⟩) o, below_drewR (Below.alloc ?_ ?_ o)⟩
  · repeat (refine below_setCell ?_ (by omega) _ _)
    exact hb
  · have := hb.size
    simpa [World.setCell] using this

set_option maxHeartbeats 4000000 in
theorem deepest_c (base : Nat) (E : List Ed) (n : Nat) (hn : Hid (n = E.length)) (hm : n ≤ 100) (x : Option Addr) (cap : Nat) (W : World) (hE : EdRow base W x cap E)
    (hone : ∀ (k : Nat) (e : Ed), E[k]? = some e → e.more = 1 ∨ e.more = -1) (hwh : pre E E.length = 0) :
    Calls Tryz.prog 83 #[.slice x n cap] W (DeepPost W E) := by
  have HW := Lib.hid hwh
  have HO := Lib.hid hone
  clear hwh hone
  go_enter Tryz.func83, Tryz.ntmps83
  go_wp2
  go_loopw [5, 6, 12] (fun d m i wr => ∃ (k : Nat) (dd M : Int), k ≤ n ∧ i = .int .i64 k ∧ d = .int .i64 dd ∧ m = .int .i64 M ∧ DeepAt W wr E k dd M) (fun _ _ i _ => n - (intOf i).toNat)
  case atStart =>
    refine ⟨0, 0, 0, Nat.zero_le _, rfl, rfl, rfl, 0, 0, rfl, by omega, by omega, by omega, by omega, Best.start E, ?_, ?_, by go_grown⟩
    · exact blk_alloc (blk_new W _) _
    · have := blk_new (W.alloc (.cells #[.int .i64 0, .int .i64 0] 45)) (.cells #[.int .i64 0, .int .i64 0] 45)
      simpa using this
  case round =>
    obtain ⟨k, d, M, hk, rfl, rfl, rfl, lo, hi, hp, d0, d1, m0, m1, hB, z0, z1, hb⟩ := hrel
    have HP := Lib.hid hp
    have HB := Lib.hid hB
    clear hp hB
    by_cases hlt : k < n
    · obtain ⟨e, he⟩ := get_at (l := E) (k := k) (by rw [← hn.out]; exact hlt)
      have hpn := pre_next he
      rw [HP.out] at hpn
      have hem := HO.out k e he
      have HPN := Lib.hid hpn
      have hE1 : EdRow base wr x cap E := hE.next hb
      obtain ⟨g, rfl, hbg, _, c0, c1⟩ := hE1.at_ he
      have hg : Below W.heap.size W (wr.alloc (.cells #[.int .i64 e.at_, .int .i64 e.more] 149)) := hb.alloc (by have := hb.size; omega) _
      have Z0 := blk_alloc z0 (.cells #[.int .i64 e.at_, .int .i64 e.more] 149)
      have Z1 := blk_alloc z1 (.cells #[.int .i64 e.at_, .int .i64 e.more] 149)
      have Y1 := blk_new wr (.cells #[.int .i64 e.at_, .int .i64 e.more] 149)
      have HE := Lib.hid he
      clear he hpn
      by_cases hmore : M < d + e.more
      · have hk1 : k + 1 < n := by
          rcases Nat.lt_or_ge (k + 1) n with h | h
          · exact h
          · exfalso
            have e1 : k + 1 = E.length := by rw [← hn.out]; omega
            have := HPN.out
            rw [e1, HW.out] at this
            omega
        obtain ⟨f, hf⟩ := get_at (l := E) (k := k + 1) (by rw [← hn.out]; exact hk1)
        obtain ⟨c2, c3⟩ := hE1.two hf
        have HF := Lib.hid hf
        clear hf
        have hk1' : ((k : Int) + 1) < (n : Int) := by omega
        have hw1 : IntKind.i64.wrap ((k : Int) + 1) = (k : Int) + 1 := IntWalk.i64_in _ (by omega)
        have hw2 : (0 : Int) ≤ (k : Int) + 1 := by omega
        have hw3 : ((k : Int) + 1).toNat = k + 1 := by omega
        obtain ⟨t0, t1⟩ := iv_cells (q := ⟨lo, hi⟩) Z1
        obtain ⟨f0, f1⟩ := iv_thaw (q := ⟨lo, hi⟩) Z1
        obtain ⟨y0, y1⟩ := ed_cells Y1
        have lg : g < wr.heap.size := by have := hE1.lt g rfl; exact this.2
        have lw : W.heap.size + 1 < wr.heap.size := (Array.getElem?_eq_some_iff.1 z1).1
        clear t0 t1 f0 f1
        obtain ⟨t0, t1⟩ := iv_cells (q := ⟨lo, hi⟩) z1
        obtain ⟨f0, f1⟩ := iv_thaw (q := ⟨lo, hi⟩) z1
        dsimp only at t0 t1
        obtain ⟨q0, q1, q2⟩ := deep_world (W := W) z0 z1 hb e.at_ f.at_ (.cells #[.int .i64 e.at_, .int .i64 e.more] 149)
        clear Z1 Z0 z0 z1
        go_wp2_with fail
        go_region_with fail
        all_goals
          go_wp2_with fail
          go_roundw
          case rel =>
            refine ⟨k + 1, d + e.more, d + e.more, by omega, by go_num, rfl, rfl, e.at_, f.at_, HPN.out, by omega, by omega, by omega, by omega, ?_, q0, q1, q2⟩
            have := HB.out.more (by rw [HPN.out]; exact hmore) HE.out HF.out
            rwa [HPN.out] at this
          case measure => simp [intOf]; omega
      · go_wp2_with fail
        go_roundw
        case rel =>
          refine ⟨k + 1, d + e.more, M, by omega, by go_num, rfl, rfl, lo, hi, HPN.out, by omega, by omega, m0, by omega, HB.out.stay (by rw [HPN.out]; omega), Z0, Z1, hg⟩
        case measure => simp [intOf]; omega
    · have e : k = n := by omega
      have HB' := Lib.hid (show Best E E.length M lo hi by
        have := HB.out
        rw [e, hn.out] at this
        exact this)
      have HM := Lib.hid (show M ≤ (E.length : Int) by rw [← hn.out, ← e]; exact m1)
      clear e
      obtain ⟨t0, t1⟩ := iv_cells (q := ⟨lo, hi⟩) z1
      obtain ⟨s0, s1⟩ := iv_cells (q := ⟨0, 0⟩) z0
      obtain ⟨y0, y1⟩ := iv_thaw (q := ⟨0, 0⟩) z0
      obtain ⟨q0, q1⟩ := iv_cells (iv_put (q := ⟨0, 0⟩) z0 ⟨lo, hi⟩)
      have G : Below W.heap.size W ((wr.setCell ⟨W.heap.size, 0, none⟩ (.int .i64 lo)).setCell ⟨W.heap.size, 1, none⟩ (.int .i64 hi)) := by
        repeat (refine below_setCell ?_ (by omega) _ _)
        exact hb
      dsimp only at t0 t1 s0 s1 q0 q1
      go_wp2_with fail
      refine bodyPost_ret (by simp [results, Tryz.results83, go_sem, q0, q1]; try rfl) rfl ?_
      exact ⟨M, lo, hi, rfl, HB'.out, m0, HM.out, G⟩
end Go.Proofs.YtohcebiepekbeaaGreatDoor
