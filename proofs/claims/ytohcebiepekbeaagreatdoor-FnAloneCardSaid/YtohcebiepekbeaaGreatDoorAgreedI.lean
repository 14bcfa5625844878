/- Where most intervals agree: the program's Agreed. -/
import Derived.Test.YtohcebiepekbeaaGreatDoorDeepest
namespace Go.Proofs.YtohcebiepekbeaaGreatDoor
open Go.ChangeShapes Go.WideShapes Go.ChangeAt Go.RowKit
set_option linter.unusedVariables false
set_option linter.unusedSimpArgs false

/-- What Agreed tells. -/
def Agr (l : List Iv) (lo hi M : Int) : Prop := (okIvs l = true ∧ l ≠ [] ∧ AgreedIs l lo hi M) ∨ ((okIvs l = false ∨ l = []) ∧ lo = 0 ∧ hi = 0 ∧ M = 0)
theorem Agr.same {l : List Iv} {lo hi M lo' hi' M' : Int} (h : Agr l lo hi M) (h' : Agr l lo' hi' M') : lo = lo' ∧ hi = hi' ∧ M = M' := by
  rcases h with ⟨a, b, c⟩ | ⟨a, b, c, d⟩ <;> rcases h' with ⟨a', b', c'⟩ | ⟨a', b', c', d'⟩
  · exact c.same c'
  · rcases a' with h | h
    · rw [a] at h; cases h
    · exact absurd h b
  · rcases a with h | h
    · rw [a'] at h; cases h
    · exact absurd h b'
  · subst b c d b' c' d'; exact ⟨rfl, rfl, rfl⟩
theorem Agr.bounds {l : List Iv} {lo hi M : Int} (h : Agr l lo hi M) : 0 ≤ M ∧ M ≤ l.length := by
  rcases h with ⟨_, _, c⟩ | ⟨_, _, _, d⟩
  · have := c.pos
    have := c.depth
    have := depthOf_le l lo
    omega
  · omega

def AgrPost (W : World) (l : List Iv) : Ending → World → Prop := fun r w' =>
  ∃ lo hi M : Int, r = .returned (.tuple #[.agg #[.int .i64 lo, .int .i64 hi], .int .i64 M]) ∧ Agr l lo hi M ∧ Below W.heap.size W w'

theorem okIvs_parts {l : List Iv} (h : okIvs l = true) : okAll l = true ∧ l.length ≤ 20 := by
  simpa [okIvs, Bool.and_eq_true] using h

theorem agreed_impl (l : List Iv) (n : Nat) (hn : Hid (n = l.length)) (hm : n ≤ 1048576) (x : Option Addr) (cap : Nat) (W : World) (h : Ivs W.heap.size W x l) :
    Calls Tryz.prog 52 #[.slice x n cap] W (AgrPost W l) := by
  have R := blk_new W (.cells #[.int .i64 0, .int .i64 0] 45)
  have g0 := below_new W (.cells #[.int .i64 0, .int .i64 0] 45)
  cases ho : okIvs l with
  | false =>
    have HO := Lib.hid (okI_dec ho n hn (by unfold maxLen; omega) x cap _ (h.next g0))
    have HA := Lib.hid (show Agr l 0 0 0 from .inr ⟨.inl ho, rfl, rfl, rfl⟩)
    clear ho
    go_enter Tryz.func52, Tryz.ntmps52
    go_wp2_with fail
    refine (HO.out).mono ?_
    rintro e w1 ⟨rfl, hb1⟩
    have R1 := blk_next hb1 R
    have g1 := grow_next g0 hb1
    obtain ⟨z0, z1⟩ := iv_cells (q := ⟨0, 0⟩) R1
    obtain ⟨y0, y1⟩ := iv_thaw (q := ⟨0, 0⟩) R1
    obtain ⟨q0, q1⟩ := iv_cells (iv_put (q := ⟨0, 0⟩) R1 ⟨0, 0⟩)
    have G : Below W.heap.size W ((w1.setCell ⟨W.heap.size, 0, none⟩ (.int .i64 0)).setCell ⟨W.heap.size, 1, none⟩ (.int .i64 0)) := by
      repeat (refine below_setCell ?_ (by omega) _ _)
      exact g1
    dsimp only at z0 z1 q0 q1
    go_wp2_with fail
    refine bodyPost_ret (by simp [results, Tryz.results52, go_sem, q0, q1]; try rfl) rfl ?_
    exact ⟨0, 0, 0, rfl, HA.out, G⟩
  | true =>
    obtain ⟨ha, hl⟩ := okIvs_parts ho
    have h20 : n ≤ 20 := by rw [hn.out]; exact hl
    have HO := Lib.hid (okI_dec ho n hn (by unfold maxLen; omega) x cap _ (h.next g0))
    have HK := Lib.hid ho
    have HL := Lib.hid ha
    clear ho ha hl
    go_enter Tryz.func52, Tryz.ntmps52
    go_wp2_with fail
    refine (HO.out).mono ?_
    rintro e w1 ⟨rfl, hb1⟩
    have R1 := blk_next hb1 R
    have g1 := grow_next g0 hb1
    go_wp2_with fail
    refine (edgesOf_c l n hn h20 x cap _ (h.next g1)).mono ?_
    rintro e w2 ⟨y, c, E, rfl, hE, hS, hP, hb2⟩
    have R2 := blk_next hb2 R1
    have g2 := grow_next g1 hb2
    have S : Swept l E := ⟨HL.out, hS, hP⟩
    obtain ⟨m, hm'⟩ : ∃ m, m = E.length := ⟨_, rfl⟩
    have hml : m ≤ 40 := by
      rw [hm', hP.length_eq, edgesIn_length, ← hn.out]
      omega
    have HM := Lib.hid hm'
    have HS := Lib.hid S
    rw [← hm']
    clear hm' hP S hS
    go_wp2_with fail
    refine (deepest_c _ E m HM (by omega) y c _ hE (fun k e h => HS.out.more h) HS.out.whole).mono ?_
    rintro e w3 ⟨M, lo, hi, rfl, hB, m0, m1, hb3⟩
    have R3 := blk_next hb3 R2
    have g3 := grow_next g2 hb3
    have HA : Agr l lo hi M := by
      by_cases hne : l = []
      · refine .inr ⟨.inr hne, ?_⟩
        have hE0 : E.length = 0 := by
          have := HS.out.perm.length_eq
          rw [hne] at this
          exact this
        rcases hB.2 with ⟨a, b, c⟩ | ⟨i, a, b, hi', _⟩
        · exact ⟨b, c, a⟩
        · omega
      · exact .inl ⟨HK.out, hne, HS.out.agreed hne hB⟩
    have HA := Lib.hid HA
    clear hB
    obtain ⟨z0, z1⟩ := iv_cells (q := ⟨0, 0⟩) R3
    obtain ⟨y0, y1⟩ := iv_thaw (q := ⟨0, 0⟩) R3
    obtain ⟨q0, q1⟩ := iv_cells (iv_put (q := ⟨0, 0⟩) R3 ⟨lo, hi⟩)
    have G : Below W.heap.size W ((w3.setCell ⟨W.heap.size, 0, none⟩ (.int .i64 lo)).setCell ⟨W.heap.size, 1, none⟩ (.int .i64 hi)) := by
      repeat (refine below_setCell ?_ (by omega) _ _)
      exact g3
    dsimp only at z0 z1 q0 q1
    go_wp2_with fail
    refine bodyPost_ret (by simp [results, Tryz.results52, go_sem, q0, q1]; try rfl) rfl ?_
    exact ⟨lo, hi, M, rfl, HA.out, G⟩
end Go.Proofs.YtohcebiepekbeaaGreatDoor
