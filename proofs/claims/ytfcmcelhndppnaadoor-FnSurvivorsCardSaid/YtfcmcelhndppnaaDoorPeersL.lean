/- Lists of peers in memory: what the exact laws do to them: copied, held against each other. -/
import Derived.Test.YtfcmcelhndppnaaDoorPeers
namespace Go.Proofs.YtfcmcelhndppnaaDoor
open Go.ChangeShapes Go.WideShapes Go.ChangeAt Go.RowKit
set_option linter.unusedVariables false
set_option linter.unusedSimpArgs false

def PrTab (m : Nat) (w : World) (g : Nat) (l : List Pr) : Prop := TabAt Pr.row 6 m 40 w g l
theorem PrTab.prs {m g : Nat} {w : World} {l : List Pr} (h : PrTab m w g l) : Prs w.heap.size w (some ⟨g, 0, none⟩) l := TabAt.rows h
theorem PrTab.next {m g : Nat} {w w' : World} {l : List Pr} (h : PrTab m w g l) (hb : Below w.heap.size w w') : PrTab m w' g l := TabAt.next h hb
theorem PrTab.room {m g : Nat} {w : World} {l : List Pr} (h : PrTab m w g l) {k : Nat} (hk : k < m) : ((∃ u, w.cell? ⟨g, k * 6, none⟩ = some u) ∧ (∃ u, w.cell? ⟨g, k * 6 + 1, none⟩ = some u) ∧ (∃ u, w.cell? ⟨g, k * 6 + 2, none⟩ = some u) ∧ (∃ u, w.cell? ⟨g, k * 6 + 3, none⟩ = some u) ∧ (∃ u, w.cell? ⟨g, k * 6 + 4, none⟩ = some u) ∧ (∃ u, w.cell? ⟨g, k * 6 + 5, none⟩ = some u)) ∧ w.frozen? ⟨g, k * 6, none⟩ = false ∧ w.frozen? ⟨g, k * 6 + 1, none⟩ = false ∧ w.frozen? ⟨g, k * 6 + 2, none⟩ = false ∧ w.frozen? ⟨g, k * 6 + 3, none⟩ = false ∧ w.frozen? ⟨g, k * 6 + 4, none⟩ = false ∧ w.frozen? ⟨g, k * 6 + 5, none⟩ = false :=
  ⟨⟨(TabAt.room h (by omega)).1, (TabAt.room h (by omega)).1, (TabAt.room h (by omega)).1, (TabAt.room h (by omega)).1, (TabAt.room h (by omega)).1, (TabAt.room h (by omega)).1⟩,
   (TabAt.room h (by omega)).2, (TabAt.room h (by omega)).2, (TabAt.room h (by omega)).2, (TabAt.room h (by omega)).2, (TabAt.room h (by omega)).2, (TabAt.room h (by omega)).2⟩
theorem PrTab.put {m g : Nat} {w : World} {l : List Pr} (h : PrTab m w g l) (hk : l.length < m) (v : Pr) :
    PrTab m ((((((w.setCell ⟨g, l.length * 6, none⟩ (.int .i64 v.id)).setCell ⟨g, l.length * 6 + 1, none⟩ (.int .i64 v.str)).setCell ⟨g, l.length * 6 + 2, none⟩ (.int .i64 v.s.off)).setCell ⟨g, l.length * 6 + 3, none⟩ (.int .i64 v.s.delay)).setCell ⟨g, l.length * 6 + 4, none⟩ (.int .i64 v.s.disp)).setCell ⟨g, l.length * 6 + 5, none⟩ (.int .i64 v.s.at_)) g (l ++ [v]) := by
  obtain ⟨cur, h1, h2, h3, h4⟩ := h
  refine ⟨_, heap_set (heap_set (heap_set (heap_set (heap_set (heap_set h1 _ _) _ _) _ _) _ _) _ _) _ _, by simp [h2], by simp; omega, fun i u j z hi hj => ?_⟩
  simp only [Array.getElem?_setIfInBounds, Array.size_setIfInBounds]
  rcases Nat.lt_or_ge i l.length with hl | hl
  · rw [List.getElem?_append_left hl] at hi
    have hj2 : j < 6 := (List.getElem?_eq_some_iff.1 hj).1
    rw [if_neg (by omega), if_neg (by omega), if_neg (by omega), if_neg (by omega), if_neg (by omega), if_neg (by omega)]
    exact h4 i u j z hi hj
  · have e : i = l.length := by
      have := (List.getElem?_eq_some_iff.1 hi).1
      simp at this
      omega
    subst e
    simp at hi
    subst hi
    match j, hj with
    | 0, hj =>
      simp [Pr.row] at hj
      subst hj
      rw [if_neg (by omega), if_neg (by omega), if_neg (by omega), if_neg (by omega), if_neg (by omega), if_pos (by omega), if_pos (by omega)]
    | 1, hj =>
      simp [Pr.row] at hj
      subst hj
      rw [if_neg (by omega), if_neg (by omega), if_neg (by omega), if_neg (by omega), if_pos (by omega), if_pos (by omega)]
    | 2, hj =>
      simp [Pr.row] at hj
      subst hj
      rw [if_neg (by omega), if_neg (by omega), if_neg (by omega), if_pos (by omega), if_pos (by omega)]
    | 3, hj =>
      simp [Pr.row] at hj
      subst hj
      rw [if_neg (by omega), if_neg (by omega), if_pos (by omega), if_pos (by omega)]
    | 4, hj =>
      simp [Pr.row] at hj
      subst hj
      rw [if_neg (by omega), if_pos (by omega), if_pos (by omega)]
    | 5, hj =>
      simp [Pr.row] at hj
      subst hj
      rw [if_pos (by omega), if_pos (by omega)]
    | j + 6, hj => simp [Pr.row] at hj

theorem szPeerS_c (n : Nat) (left : Int) (h0 : 0 ≤ left) (h1 : left ≤ 1048576) (hm : n ≤ maxLen) (x : Option Addr) (cap : Nat) (w : World) :
    Calls Tryd.prog 8 #[.slice x n cap, .int .i64 left] w fun e w' => e = .returned (.int .i64 (if (n : Int) ≤ left then left - n else -1)) ∧ w = w' := by
  unfold maxLen at hm
  by_cases hlt : (n : Int) ≤ left
  · rw [if_pos hlt]
    go_enter Tryd.func8, Tryd.ntmps8
    go_wp2
    go_returns
    exact ⟨rfl, rfl⟩
  · rw [if_neg hlt]
    go_enter Tryd.func8, Tryd.ntmps8
    go_wp2
    go_returns
    exact ⟨rfl, rfl⟩

theorem infoPr : (Tryd.prog.info? 40).map (fun i => (i.zero, i.size, i.bytes)) = some (some (.agg #[.int .i64 0, .int .i64 0, .int .i64 0, .int .i64 0, .int .i64 0, .int .i64 0]), 6, 48) := by kernel_rfl

/-- A block of six cells, at its cells. -/
theorem peer_cells {W : World} {b : Nat} {T : TypeId} {q : Pr} (h : W.heap[b]? = some (.cells #[.int .i64 q.id, .int .i64 q.str, .int .i64 q.s.off, .int .i64 q.s.delay, .int .i64 q.s.disp, .int .i64 q.s.at_] T)) : W.cell? ⟨b, 0, none⟩ = some (.int .i64 q.id) ∧ W.cell? ⟨b, 1, none⟩ = some (.int .i64 q.str) ∧ W.cell? ⟨b, 2, none⟩ = some (.int .i64 q.s.off) ∧ W.cell? ⟨b, 3, none⟩ = some (.int .i64 q.s.delay) ∧ W.cell? ⟨b, 4, none⟩ = some (.int .i64 q.s.disp) ∧ W.cell? ⟨b, 5, none⟩ = some (.int .i64 q.s.at_) := by
  simp [World.cell?, h]
theorem peer_thaw {W : World} {b : Nat} {T : TypeId} {q : Pr} (h : W.heap[b]? = some (.cells #[.int .i64 q.id, .int .i64 q.str, .int .i64 q.s.off, .int .i64 q.s.delay, .int .i64 q.s.disp, .int .i64 q.s.at_] T)) : W.frozen? ⟨b, 0, none⟩ = false ∧ W.frozen? ⟨b, 1, none⟩ = false ∧ W.frozen? ⟨b, 2, none⟩ = false ∧ W.frozen? ⟨b, 3, none⟩ = false ∧ W.frozen? ⟨b, 4, none⟩ = false ∧ W.frozen? ⟨b, 5, none⟩ = false := by
  refine ⟨?_, ?_, ?_, ?_, ?_, ?_⟩ <;> simp [World.frozen?, h]
theorem peer_put {W : World} {b : Nat} {T : TypeId} {q : Pr} (h : W.heap[b]? = some (.cells #[.int .i64 q.id, .int .i64 q.str, .int .i64 q.s.off, .int .i64 q.s.delay, .int .i64 q.s.disp, .int .i64 q.s.at_] T)) (r : Pr) : ((((((W.setCell ⟨b, 0, none⟩ (.int .i64 r.id)).setCell ⟨b, 1, none⟩ (.int .i64 r.str)).setCell ⟨b, 2, none⟩ (.int .i64 r.s.off)).setCell ⟨b, 3, none⟩ (.int .i64 r.s.delay)).setCell ⟨b, 4, none⟩ (.int .i64 r.s.disp)).setCell ⟨b, 5, none⟩ (.int .i64 r.s.at_)).heap[b]? = some (.cells #[.int .i64 r.id, .int .i64 r.str, .int .i64 r.s.off, .int .i64 r.s.delay, .int .i64 r.s.disp, .int .i64 r.s.at_] T) := by
  simp [World.setCell, Array.getElem?_modify, h]

theorem heap_other {w : World} {b g o : Nat} {v : Value} (hne : b ≠ g) : (w.setCell ⟨b, o, none⟩ v).heap[g]? = w.heap[g]? := by
  simp [World.setCell, Array.getElem?_modify, hne]

def Pr.zero : Pr := ⟨0, 0, ⟨0, 0, 0, 0⟩⟩
set_option maxHeartbeats 1000000 in
theorem toPeer_c (v : Pr) (w : World) :
    Calls Tryd.prog 27 #[.agg #[.int .i64 v.id, .int .i64 v.str, .int .i64 v.s.off, .int .i64 v.s.delay, .int .i64 v.s.disp, .int .i64 v.s.at_]] w fun e w' => e = .returned (.agg #[.int .i64 v.id, .int .i64 v.str, .int .i64 v.s.off, .int .i64 v.s.delay, .int .i64 v.s.disp, .int .i64 v.s.at_]) ∧ Below w.heap.size w w' := by
  have g0 : Below w.heap.size w (((w.alloc (.cells #[.int .i64 v.id, .int .i64 v.str, .int .i64 v.s.off, .int .i64 v.s.delay, .int .i64 v.s.disp, .int .i64 v.s.at_] 47)).alloc (.cells #[.int .i64 0, .int .i64 0, .int .i64 0, .int .i64 0, .int .i64 0, .int .i64 0] 40)).alloc (.cells #[.int .i64 v.id, .int .i64 v.str, .int .i64 0, .int .i64 0, .int .i64 0, .int .i64 0] 40)) := by go_grown
  have R := blk_alloc (blk_new (w.alloc (.cells #[.int .i64 v.id, .int .i64 v.str, .int .i64 v.s.off, .int .i64 v.s.delay, .int .i64 v.s.disp, .int .i64 v.s.at_] 47)) (.cells #[.int .i64 0, .int .i64 0, .int .i64 0, .int .i64 0, .int .i64 0, .int .i64 0] 40)) (.cells #[.int .i64 v.id, .int .i64 v.str, .int .i64 0, .int .i64 0, .int .i64 0, .int .i64 0] 40)
  have M := blk_new ((w.alloc (.cells #[.int .i64 v.id, .int .i64 v.str, .int .i64 v.s.off, .int .i64 v.s.delay, .int .i64 v.s.disp, .int .i64 v.s.at_] 47)).alloc (.cells #[.int .i64 0, .int .i64 0, .int .i64 0, .int .i64 0, .int .i64 0, .int .i64 0] 40)) (.cells #[.int .i64 v.id, .int .i64 v.str, .int .i64 0, .int .i64 0, .int .i64 0, .int .i64 0] 40)
  simp only [World.size_alloc] at R M
  go_enter Tryd.func27, Tryd.ntmps27
  go_wp2_with fail
  refine (toSample_c v.s _).mono ?_
  rintro e w1 ⟨rfl, hb1⟩
  have g1 := grow_next g0 hb1
  have R1 := blk_next hb1 R
  have M1 := blk_next hb1 M
  clear R M hb1 g0
  obtain ⟨r0, r1, r2, r3, r4, r5⟩ := peer_cells (q := Pr.zero) R1
  obtain ⟨t0, t1, t2, t3, t4, t5⟩ := peer_thaw (q := Pr.zero) R1
  obtain ⟨m0, m1, m2, m3, m4, m5⟩ := peer_cells (q := ⟨v.id, v.str, ⟨0, 0, 0, 0⟩⟩) M1
  obtain ⟨n0, n1, n2, n3, n4, n5⟩ := peer_thaw (q := ⟨v.id, v.str, ⟨0, 0, 0, 0⟩⟩) M1
  have hne : w.heap.size + 1 + 1 ≠ w.heap.size + 1 := by omega
  have R2 : ((((w1.setCell ⟨w.heap.size + 1 + 1, 2, none⟩ (.int .i64 v.s.off)).setCell ⟨w.heap.size + 1 + 1, 3, none⟩ (.int .i64 v.s.delay)).setCell ⟨w.heap.size + 1 + 1, 4, none⟩ (.int .i64 v.s.disp)).setCell ⟨w.heap.size + 1 + 1, 5, none⟩ (.int .i64 v.s.at_)).heap[w.heap.size + 1]? = some (.cells #[.int .i64 Pr.zero.id, .int .i64 Pr.zero.str, .int .i64 Pr.zero.s.off, .int .i64 Pr.zero.s.delay, .int .i64 Pr.zero.s.disp, .int .i64 Pr.zero.s.at_] 40) := by
    rw [heap_other hne, heap_other hne, heap_other hne, heap_other hne]
    exact R1
  have K := peer_put R2 v
  obtain ⟨q0, q1, q2, q3, q4, q5⟩ := peer_cells K
  have G : Below w.heap.size w ((((((((((w1.setCell ⟨w.heap.size + 1 + 1, 2, none⟩ (.int .i64 v.s.off)).setCell ⟨w.heap.size + 1 + 1, 3, none⟩ (.int .i64 v.s.delay)).setCell ⟨w.heap.size + 1 + 1, 4, none⟩ (.int .i64 v.s.disp)).setCell ⟨w.heap.size + 1 + 1, 5, none⟩ (.int .i64 v.s.at_)).setCell ⟨w.heap.size + 1, 0, none⟩ (.int .i64 v.id)).setCell ⟨w.heap.size + 1, 1, none⟩ (.int .i64 v.str)).setCell ⟨w.heap.size + 1, 2, none⟩ (.int .i64 v.s.off)).setCell ⟨w.heap.size + 1, 3, none⟩ (.int .i64 v.s.delay)).setCell ⟨w.heap.size + 1, 4, none⟩ (.int .i64 v.s.disp)).setCell ⟨w.heap.size + 1, 5, none⟩ (.int .i64 v.s.at_)) := by
    repeat (refine below_put ?_ (by omega) _ _)
    exact g1
  clear K R2 R1 M1 hne
  dsimp only [Pr.zero] at r0 r1 r2 r3 r4 r5 m0 m1 m2 m3 m4 m5
  go_wp2_with fail
  refine bodyPost_ret (by simp [results, Tryd.results27, go_sem, q0, q1, q2, q3, q4, q5]; try rfl) rfl ?_
  exact ⟨rfl, G⟩

theorem eqPeer_same (v : Pr) (w : World) :
    Calls Tryd.prog 31 #[.agg #[.int .i64 v.id, .int .i64 v.str, .int .i64 v.s.off, .int .i64 v.s.delay, .int .i64 v.s.disp, .int .i64 v.s.at_], .agg #[.int .i64 v.id, .int .i64 v.str, .int .i64 v.s.off, .int .i64 v.s.delay, .int .i64 v.s.disp, .int .i64 v.s.at_]] w fun e w' => e = .returned (.bool true) ∧ Below w.heap.size w w' := by
  have g0 : Below w.heap.size w ((w.alloc (.cells #[.int .i64 v.id, .int .i64 v.str, .int .i64 v.s.off, .int .i64 v.s.delay, .int .i64 v.s.disp, .int .i64 v.s.at_] 40)).alloc (.cells #[.int .i64 v.id, .int .i64 v.str, .int .i64 v.s.off, .int .i64 v.s.delay, .int .i64 v.s.disp, .int .i64 v.s.at_] 40)) := by go_grown
  go_enter Tryd.func31, Tryd.ntmps31
  go_wp2_with fail
  refine (eqSample_same v.s _).mono ?_
  rintro e w1 ⟨rfl, hb1⟩
  go_wp2_with fail
  go_returns
  exact ⟨rfl, grow_next g0 hb1⟩
end Go.Proofs.YtfcmcelhndppnaaDoor
