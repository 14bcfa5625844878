/- Lists of peers copied and held against each other. -/
import Derived.Test.YtfcmcelhndppnaaDoorPeersL
namespace Go.Proofs.YtfcmcelhndppnaaDoor
open Go.ChangeShapes Go.WideShapes Go.ChangeAt Go.RowKit
set_option linter.unusedVariables false
set_option linter.unusedSimpArgs false

theorem getP {α : Type} {l : List α} {k : Nat} (h : k < l.length) : ∃ v, l[k]? = some v := ⟨l[k], List.getElem?_eq_getElem h⟩
theorem takeP {α : Type} {l : List α} {k : Nat} {v : α} (h : l[k]? = some v) : l.take (k + 1) = l.take k ++ [v] := by
  rw [List.take_add_one, h]; rfl

/-- A copy of these: a slice of the call's own. -/
def FreshPrs (n : Nat) (W : World) (l : List Pr) : Ending → World → Prop := fun e w' => ∃ g, e = .returned (.slice (some ⟨g, 0, none⟩) n n) ∧ PrTab n w' g l ∧ W.heap.size ≤ g ∧ Below W.heap.size W w'

set_option maxHeartbeats 1000000 in
theorem toPeerS_c (l : List Pr) (n : Nat) (hn : Hid (n = l.length)) (hm : n ≤ 1048576) (x : Option Addr) (cap : Nat) (w : World) (h : Prs w.heap.size w x l) :
    Calls Tryd.prog 10 #[.slice x n cap] w (FreshPrs n w l) := by
  have hmk := run_make_tab (P := Tryd.prog) Tryd.underlying24 infoPr n (by omega) hm
  have hT : PrTab n (w.alloc (.cells (madeCells (Value.agg #[.int .i64 0, .int .i64 0, .int .i64 0, .int .i64 0, .int .i64 0, .int .i64 0]).cells (n * 6)) 40)) w.heap.size [] := TabAt.made _ rfl w (Nat.zero_le _)
  go_enter Tryd.func10, Tryd.ntmps10
  go_wp2
  go_loopw [4] (fun i wr => ∃ k : Nat, k ≤ n ∧ i = .int .i64 k ∧ PrTab n wr w.heap.size (l.take k) ∧ Below w.heap.size w wr) (fun i _ => n - (intOf i).toNat)
  case atStart => exact ⟨0, Nat.zero_le _, rfl, hT, by go_grown⟩
  case round =>
    obtain ⟨k, hk, rfl, ht, hb⟩ := hrel
    clear hmk
    by_cases hlt : k < n
    · obtain ⟨v, hv⟩ := getP (l := l) (k := k) (by rw [← hn.out]; exact hlt)
      obtain ⟨b, off, rfl, hbB, c0, c1, c2, c3, c4, c5⟩ := (h.next hb).at_ hv
      have HV := Lib.hid (takeP hv)
      have HK := Lib.hid (show (l.take k).length = k by have := hn.out; simp; omega)
      clear hv
      go_wp2_with fail
      refine (toPeer_c v _).mono ?_
      rintro e w1 ⟨rfl, hb1⟩
      have ht1 := ht.next hb1
      have g1 := grow_next hb hb1
      obtain ⟨⟨⟨u0, r0⟩, ⟨u1, r1⟩, ⟨u2, r2⟩, ⟨u3, r3⟩, ⟨u4, r4⟩, ⟨u5, r5⟩⟩, f0, f1, f2, f3, f4, f5⟩ := ht1.room hlt
      have hp := ht1.put (by rw [HK.out]; exact hlt) v
      rw [HK.out, ← HV.out] at hp
      have G : Below w.heap.size w ((((((w1.setCell ⟨w.heap.size, k * 6, none⟩ (.int .i64 v.id)).setCell ⟨w.heap.size, k * 6 + 1, none⟩ (.int .i64 v.str)).setCell ⟨w.heap.size, k * 6 + 2, none⟩ (.int .i64 v.s.off)).setCell ⟨w.heap.size, k * 6 + 3, none⟩ (.int .i64 v.s.delay)).setCell ⟨w.heap.size, k * 6 + 4, none⟩ (.int .i64 v.s.disp)).setCell ⟨w.heap.size, k * 6 + 5, none⟩ (.int .i64 v.s.at_)) := by
        repeat (refine below_setCell ?_ (by omega) _ _)
        exact g1
      go_wp2_with fail
      go_roundw
      case rel => exact ⟨k + 1, by omega, by go_num, hp, G⟩
      case measure => simp [intOf]; omega
    · have e : k = n := by omega
      have hT' : PrTab n wr w.heap.size l := by
        rw [e, hn.out, List.take_length] at ht
        rw [hn.out]
        exact ht
      clear e
      go_wp2_with fail
      go_returns
      exact ⟨_, rfl, hT', Nat.le_refl _, hb⟩

theorem prs_two {W : World} {B : Nat} {b off b' off' k : Nat} {l l' : List Pr} {u v : Pr} (h : Prs B W (some ⟨b, off, none⟩) l) (h' : Prs B W (some ⟨b', off', none⟩) l') (hu : l[k]? = some u) (hv : l'[k]? = some v) :
    (W.cell? ⟨b, off + k * 6, none⟩ = some (.int .i64 u.id) ∧ W.cell? ⟨b, off + k * 6 + 1, none⟩ = some (.int .i64 u.str) ∧ W.cell? ⟨b, off + k * 6 + 2, none⟩ = some (.int .i64 u.s.off) ∧ W.cell? ⟨b, off + k * 6 + 3, none⟩ = some (.int .i64 u.s.delay) ∧ W.cell? ⟨b, off + k * 6 + 4, none⟩ = some (.int .i64 u.s.disp) ∧ W.cell? ⟨b, off + k * 6 + 5, none⟩ = some (.int .i64 u.s.at_)) ∧ W.cell? ⟨b', off' + k * 6, none⟩ = some (.int .i64 v.id) ∧ W.cell? ⟨b', off' + k * 6 + 1, none⟩ = some (.int .i64 v.str) ∧ W.cell? ⟨b', off' + k * 6 + 2, none⟩ = some (.int .i64 v.s.off) ∧ W.cell? ⟨b', off' + k * 6 + 3, none⟩ = some (.int .i64 v.s.delay) ∧ W.cell? ⟨b', off' + k * 6 + 4, none⟩ = some (.int .i64 v.s.disp) ∧ W.cell? ⟨b', off' + k * 6 + 5, none⟩ = some (.int .i64 v.s.at_) := by
  obtain ⟨c, o, e, _, c0⟩ := h.at_ hu
  obtain ⟨c', o', e', _, c0'⟩ := h'.at_ hv
  simp only [Option.some.injEq, Addr.mk.injEq] at e e'
  obtain ⟨rfl, rfl, _⟩ := e
  obtain ⟨rfl, rfl, _⟩ := e'
  exact ⟨c0, c0'⟩

set_option maxHeartbeats 2000000 in
theorem eqPeerS_c (l : List Pr) (n : Nat) (hn : Hid (n = l.length)) (hm : n ≤ maxLen) (x y : Option Addr) (cap cap' : Nat) (w : World) (h : Prs w.heap.size w x l) (h' : Prs w.heap.size w y l) :
    Calls Tryd.prog 12 #[.slice x n cap, .slice y n cap'] w fun e w' => e = .returned (.bool true) ∧ Below w.heap.size w w' := by
  unfold maxLen at hm
  go_enter Tryd.func12, Tryd.ntmps12
  go_wp2
  go_loopw [5] (fun i wr => ∃ k : Nat, k ≤ n ∧ i = .int .i64 k ∧ Below w.heap.size w wr) (fun i _ => n - (intOf i).toNat)
  case atStart => exact ⟨0, Nat.zero_le _, rfl, Below.refl _ _⟩
  case round =>
    obtain ⟨k, hk, rfl, hb⟩ := hrel
    by_cases hlt : k < n
    · obtain ⟨v, hv⟩ := getP (l := l) (k := k) (by rw [← hn.out]; exact hlt)
      have hr := h.next hb
      have hr' := h'.next hb
      obtain ⟨b, off, rfl, hbB, c0, c1, c2, c3, c4, c5⟩ := hr.at_ hv
      obtain ⟨b', off', rfl, hbB', c0', c1', c2', c3', c4', c5'⟩ := hr'.at_ hv
      have HV := Lib.hid hv
      clear hv
      go_wp2_with fail
      go_region_held3 (fun w' => (w'.cell? ⟨b, off + k * 6, none⟩ = some (.int .i64 v.id) ∧ w'.cell? ⟨b, off + k * 6 + 1, none⟩ = some (.int .i64 v.str) ∧ w'.cell? ⟨b, off + k * 6 + 2, none⟩ = some (.int .i64 v.s.off) ∧ w'.cell? ⟨b, off + k * 6 + 3, none⟩ = some (.int .i64 v.s.delay) ∧ w'.cell? ⟨b, off + k * 6 + 4, none⟩ = some (.int .i64 v.s.disp) ∧ w'.cell? ⟨b, off + k * 6 + 5, none⟩ = some (.int .i64 v.s.at_)) ∧ w'.cell? ⟨b', off' + k * 6, none⟩ = some (.int .i64 v.id) ∧ w'.cell? ⟨b', off' + k * 6 + 1, none⟩ = some (.int .i64 v.str) ∧ w'.cell? ⟨b', off' + k * 6 + 2, none⟩ = some (.int .i64 v.s.off) ∧ w'.cell? ⟨b', off' + k * 6 + 3, none⟩ = some (.int .i64 v.s.delay) ∧ w'.cell? ⟨b', off' + k * 6 + 4, none⟩ = some (.int .i64 v.s.disp) ∧ w'.cell? ⟨b', off' + k * 6 + 5, none⟩ = some (.int .i64 v.s.at_)) (first | exact ⟨⟨c0, c1, c2, c3, c4, c5⟩, c0', c1', c2', c3', c4', c5'⟩ | assumption | exact prs_two (by assumption) (by assumption) HV.out HV.out)
        ((go_at_call 31; refine (eqPeer_same v _).mono ?_; rintro e wn ⟨rfl, hbn⟩; have A := prs_two (hr.next (w' := wn) (below_drewL hbn)) (hr'.next (below_drewL hbn)) HV.out HV.out; have G : Below w.heap.size w wn := grow_next hb (below_drewL hbn)))
      go_wp2_with fail
      go_roundw
      case rel => exact ⟨k + 1, by omega, by go_num, by assumption⟩
      case measure => simp [intOf]; omega
    · go_wp2_with fail
      go_returns
      exact ⟨rfl, hb⟩
end Go.Proofs.YtfcmcelhndppnaaDoor
