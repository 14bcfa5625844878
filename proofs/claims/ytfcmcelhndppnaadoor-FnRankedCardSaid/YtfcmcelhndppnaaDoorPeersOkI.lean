/- Right lists of peers: the program's way and the reference's. -/
import Derived.Test.YtfcmcelhndppnaaDoorPeersL
import Derived.Test.YtfcmcelhndppnaaDoorReachC
import Derived.Lib.QuietBelow
import Derived.IntWalk
namespace Go.Proofs.YtfcmcelhndppnaaDoor
open Go.ChangeShapes Go.WideShapes Go.ChangeAt Go.RowKit Go.Sort
set_option linter.unusedVariables false
set_option linter.unusedSimpArgs false

def Pr.ok (p : Pr) : Bool := inB 1 p.id 1000 && inB 1 p.str 15 && p.s.ok
/-- Right ones, behind this id, and rising. -/
def okFrom : Int → List Pr → Bool
  | _, [] => true
  | last, p :: l => p.ok && decide (last < p.id) && okFrom p.id l
def okPrs (l : List Pr) : Bool := okFrom 0 l && decide (l.length ≤ 20)
theorem okFrom_at {l : List Pr} {k : Nat} {v : Pr} (h : l[k]? = some v) (last : Int) : okFrom last (l.drop k) = (v.ok && decide (last < v.id) && okFrom v.id (l.drop (k + 1))) := by
  have hlt := (List.getElem?_eq_some_iff.1 h).1
  rw [List.drop_eq_getElem_cons hlt]
  have e : l[k] = v := by
    rw [List.getElem?_eq_getElem hlt] at h
    exact Option.some.inj h
  rw [e]
  rfl
theorem getQ {α : Type} {l : List α} {k : Nat} (h : k < l.length) : ∃ v, l[k]? = some v := ⟨l[k], List.getElem?_eq_getElem h⟩

theorem peerOk_c (v : Pr) (W : World) {ao an au : Addr} (L : Ld W ao an au) :
    Calls Tryd.prog 36 #[.agg #[.int .i64 v.id, .int .i64 v.str, .int .i64 v.s.off, .int .i64 v.s.delay, .int .i64 v.s.disp, .int .i64 v.s.at_]] W fun e w' => e = .returned (.bool v.ok) ∧ Below W.heap.size W w' := by
  have g0 : Below W.heap.size W (W.alloc (.cells #[.int .i64 v.id, .int .i64 v.str, .int .i64 v.s.off, .int .i64 v.s.delay, .int .i64 v.s.disp, .int .i64 v.s.at_] 40)) := by go_grown
  have L1 := L.next g0
  cases h1 : inB 1 v.id 1000 with
  | false =>
    have e : v.ok = false := by unfold Pr.ok; rw [h1]; rfl
    rw [e]
    clear e
    go_enter Tryd.func36, Tryd.ntmps36
    go_wp2_with (go_at_call 52; refine (within_c _ _ _ _).mono ?_; rintro e w1 ⟨rfl, rfl⟩)
    go_returns
    exact ⟨rfl, g0⟩
  | true =>
    cases h2 : inB 1 v.str 15 with
    | false =>
      have e : v.ok = false := by unfold Pr.ok; rw [h1, h2]; rfl
      rw [e]
      clear e
      go_enter Tryd.func36, Tryd.ntmps36
      go_wp2_with (go_at_call 52; refine (within_c _ _ _ _).mono ?_; rintro e w1 ⟨rfl, rfl⟩)
      go_returns
      exact ⟨rfl, g0⟩
    | true =>
      obtain ⟨b, hb⟩ : ∃ b, v.s.ok = b := ⟨_, rfl⟩
      have e : v.ok = b := by unfold Pr.ok; rw [h1, h2, hb]; rfl
      rw [e]
      have HS := Lib.hid (sampleOk_decI hb _ L1)
      clear e hb
      go_enter Tryd.func36, Tryd.ntmps36
      go_wp2_with (go_at_call 52; refine (within_c _ _ _ _).mono ?_; rintro e w1 ⟨rfl, rfl⟩)
      refine (HS.out).mono ?_
      rintro e w1 ⟨rfl, hb1⟩
      go_wp2_with fail
      go_returns
      exact ⟨rfl, grow_next g0 hb1⟩
theorem peerOk_dec {v : Pr} {b : Bool} (h : v.ok = b) (W : World) {ao an au : Addr} (L : Ld W ao an au) :
    Calls Tryd.prog 36 #[.agg #[.int .i64 v.id, .int .i64 v.str, .int .i64 v.s.off, .int .i64 v.s.delay, .int .i64 v.s.disp, .int .i64 v.s.at_]] W fun e w' => e = .returned (.bool b) ∧ Below W.heap.size W w' := h ▸ peerOk_c v W L

set_option maxHeartbeats 1000000 in
theorem peersOk_impl (l : List Pr) (n : Nat) (hn : Hid (n = l.length)) (hm : n ≤ maxLen) (x : Option Addr) (cap : Nat) (w : World) (h : Prs w.heap.size w x l) {ao an au : Addr} (L : Ld w ao an au) :
    Calls Tryd.prog 21 #[.slice x n cap] w fun e w' => e = .returned (.bool (okPrs l)) ∧ Below w.heap.size w w' := by
  unfold maxLen at hm
  by_cases hbig : 20 < n
  · have HF : okPrs l = false := by
      unfold okPrs
      rw [← hn.out, decide_eq_false (by omega), Bool.and_false]
    rw [HF]
    clear HF
    go_enter Tryd.func21, Tryd.ntmps21
    go_wp2
    go_returns
    exact ⟨rfl, Below.refl _ _⟩
  · have HN := Lib.hid (show okPrs l = okFrom 0 l by unfold okPrs; rw [← hn.out, decide_eq_true (show n ≤ 20 by omega), Bool.and_true])
    go_enter Tryd.func21, Tryd.ntmps21
    go_wp2
    go_loopw [3, 11] (fun la i wr => ∃ (k : Nat) (last : Int), k ≤ n ∧ la = .int .i64 last ∧ i = .int .i64 k ∧ okFrom 0 l = okFrom last (l.drop k) ∧ Below w.heap.size w wr) (fun _ i _ => n - (intOf i).toNat)
    case atStart => exact ⟨0, 0, Nat.zero_le _, rfl, rfl, rfl, Below.refl _ _⟩
    case round =>
      obtain ⟨k, last, hk, rfl, rfl, ha, hb⟩ := hrel
      have HA := Lib.hid ha
      clear ha
      by_cases hlt : k < n
      · obtain ⟨v, hv⟩ := getQ (l := l) (k := k) (by rw [← hn.out]; exact hlt)
        obtain ⟨b, off, rfl, hbB, c0, c1, c2, c3, c4, c5⟩ := (h.next hb).at_ hv
        have HV := Lib.hid (okFrom_at hv last)
        clear hv
        have hg : Below w.heap.size w (wr.alloc (.cells #[.int .i64 v.id, .int .i64 v.str, .int .i64 v.s.off, .int .i64 v.s.delay, .int .i64 v.s.disp, .int .i64 v.s.at_] 40)) := hb.alloc (by have := hb.size; omega) _
        have Q := blk_new wr (.cells #[.int .i64 v.id, .int .i64 v.str, .int .i64 v.s.off, .int .i64 v.s.delay, .int .i64 v.s.disp, .int .i64 v.s.at_] 40)
        have Lr := L.next hg
        cases ho : v.ok with
        | false =>
          have HO := Lib.hid (peerOk_dec ho _ Lr)
          have HF := Lib.hid (show okFrom 0 l = false by rw [HA.out, HV.out, ho]; rfl)
          clear ho
          go_wp2_with fail
          refine (HO.out).mono ?_
          rintro e w1 ⟨rfl, hb1⟩
          have g1 := grow_next hg hb1
          obtain ⟨q0, q1, q2, q3, q4, q5⟩ := peer_cells (blk_next hb1 Q)
          go_wp2_with fail
          go_returns
          exact ⟨by rw [HN.out, HF.out]; rfl, g1⟩
        | true =>
          have HO := Lib.hid (peerOk_dec ho _ Lr)
          by_cases hle : v.id ≤ last
          · have HF := Lib.hid (show okFrom 0 l = false by rw [HA.out, HV.out, ho, decide_eq_false (by omega)]; rfl)
            clear ho
            have hd : decide (v.id ≤ last) = true := decide_eq_true hle
            clear hle
            go_wp2_with fail
            refine (HO.out).mono ?_
            rintro e w1 ⟨rfl, hb1⟩
            have g1 := grow_next hg hb1
            obtain ⟨q0, q1, q2, q3, q4, q5⟩ := peer_cells (blk_next hb1 Q)
            go_wp2_with fail
            go_returns
            exact ⟨by rw [HN.out, HF.out]; rfl, g1⟩
          · have HF := Lib.hid (show okFrom 0 l = okFrom v.id (l.drop (k + 1)) by rw [HA.out, HV.out, ho, decide_eq_true (show last < v.id by omega)]; rfl)
            clear ho
            have hd : decide (v.id ≤ last) = false := decide_eq_false hle
            clear hle
            go_wp2_with fail
            refine (HO.out).mono ?_
            rintro e w1 ⟨rfl, hb1⟩
            have g1 := grow_next hg hb1
            obtain ⟨q0, q1, q2, q3, q4, q5⟩ := peer_cells (blk_next hb1 Q)
            go_wp2_with fail
            go_roundw
            case rel => exact ⟨k + 1, v.id, by omega, rfl, by go_num, HF.out, g1⟩
            case measure => simp [intOf]; omega
      · have e : k = n := by omega
        have HF := Lib.hid (show okFrom 0 l = true by rw [HA.out, e, hn.out, List.drop_length]; rfl)
        clear e
        go_wp2_with fail
        go_returns
        exact ⟨by rw [HN.out, HF.out]; rfl, hb⟩
end Go.Proofs.YtfcmcelhndppnaaDoor
