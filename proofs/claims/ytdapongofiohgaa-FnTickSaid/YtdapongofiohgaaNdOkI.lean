/- Which lists of nodes are right: of the program. -/
import Derived.Test.YtdapongofiohgaaNdOk
import Derived.Test.YtdapongofiohgaaNdTo
namespace Go.Proofs.Ytdapongofiohgaa
open Go.ChangeShapes Go.WideShapes Go.ChangeAt Go.RowKit Go.Sort
set_option linter.unusedVariables false
set_option linter.unusedSimpArgs false

theorem below_newNd (w : World) (v : Nd) (px : Option Addr) (pc : Nat) (T : TypeId) : Below w.heap.size w (w.alloc (.cells #[.bool v.src, .slice px v.peers.length pc, .int .i64 v.ref, .int .i64 v.str] T)) := below_new _ _
set_option maxRecDepth 100000 in
set_option maxHeartbeats 2000000 in
theorem standsRight_c (v : Nd) (px : Option Addr) (pc : Nat) (hp : v.peers.length ≤ maxLen) (w : World) (h : IntsAt w.heap.size w px v.peers) :
    Calls Try.prog 59 #[.agg #[.bool v.src, .slice px v.peers.length pc, .int .i64 v.ref, .int .i64 v.str]] w fun e w' => e = .returned (.bool (standsB v)) ∧ Below w.heap.size w w' := by
  have Q0 := blk_new w (.cells #[.bool v.src, .slice px v.peers.length pc, .int .i64 v.ref, .int .i64 v.str] 48)
  have B0 := below_newNd w v px pc 48
  obtain ⟨c0, c1, c2, c3⟩ := node_cells Q0
  have HC := Lib.hid (contains_c v.peers v.ref v.peers.length (Lib.hid rfl) hp px pc _ (h.next B0))
  go_enter Try.func59, Try.ntmps59
  cases hs : v.src with
  | true =>
    rw [hs] at Q0 B0 c0 c1 c2 c3 HC
    cases h1 : (v.ref == -1) with
    | false =>
      have hv : standsB v = false := by unfold standsB; rw [hs, h1]; rfl
      rw [hv]
      clear hs hv
      go_wp2_with fail
      go_returns
      exact ⟨rfl, B0⟩
    | true =>
      obtain ⟨b, hb⟩ : ∃ b, (v.str == 1) = b := ⟨_, rfl⟩
      have hv : standsB v = b := by unfold standsB; rw [hs, h1, hb]; rfl
      rw [hv]
      clear hs hv
      go_wp2_with fail
      go_returns
      exact ⟨rfl, B0⟩
  | false =>
    rw [hs] at Q0 B0 c0 c1 c2 c3 HC
    cases h1 : (v.ref == -1) with
    | true =>
      obtain ⟨b, hb⟩ : ∃ b, (v.str == 16) = b := ⟨_, rfl⟩
      have hv : standsB v = b := by unfold standsB; rw [hs, h1, hb]; rfl
      rw [hv]
      clear hs hv
      go_wp2_with fail
      go_returns
      exact ⟨rfl, B0⟩
    | false =>
      obtain ⟨c, hc⟩ : ∃ c, v.peers.contains v.ref = c := ⟨_, rfl⟩
      have hv : standsB v = (c && inB 2 v.str 15) := by unfold standsB; rw [hs, h1, hc]; rfl
      rw [hv]
      rw [hc] at HC
      have HW := Lib.hid (fun W => within_c v.str 2 15 W)
      obtain ⟨d, hd⟩ : ∃ d, inB 2 v.str 15 = d := ⟨_, rfl⟩
      rw [hd] at HW
      rw [hd]
      clear hc hv hd hs
      go_wp2_with fail
      refine HC.out.mono ?_
      rintro e w1 ⟨rfl, hb1⟩
      have b1 := grow_next B0 hb1
      obtain ⟨⟨c0, c1, c2, c3⟩, _⟩ := four_cells (blk_next hb1 Q0)
      cases c with
      | false =>
        go_wp2_with fail
        go_returns
        exact ⟨rfl, b1⟩
      | true =>
        go_wp2_with fail
        refine (HW.out _).mono ?_
        rintro e w2 ⟨rfl, rfl⟩
        go_wp2_with fail
        go_returns
        exact ⟨rfl, b1⟩
set_option maxRecDepth 100000 in
set_option maxHeartbeats 4000000 in
theorem nodesOk_impl (l : List Nd) (n : Nat) (hn : Hid (n = l.length)) (hm : n ≤ maxLen) (x : Option Addr) (cap : Nat) (w : World) (h : Nds w.heap.size w x l) :
    Calls Try.prog 28 #[.slice x n cap] w fun e w' => e = .returned (.bool (nodesOk l)) ∧ Below w.heap.size w w' := by
  unfold maxLen at hm
  go_enter Try.func28, Try.ntmps28
  by_cases h12 : 12 < n
  · have hd : decide ((12 : Int) < (n : Int)) = true := decide_eq_true (by omega)
    have hv : nodesOk l = false := by
      unfold nodesOk
      rw [decide_eq_false (by rw [← hn.out]; omega), Bool.and_false]
    rw [hv]
    go_wp2_with fail
    go_returns
    exact ⟨rfl, Below.refl _ _⟩
  · have hd : decide ((12 : Int) < (n : Int)) = false := decide_eq_false (by omega)
    have hn12 : n ≤ 12 := by omega
    clear h12
    go_wp2_with fail
    go_loopw [10] (fun i wr => ∃ k : Nat, k ≤ n ∧ i = .int .i64 k ∧ Hid (okTo l k = true) ∧ Below w.heap.size w wr) (fun i _ => n - (intOf i).toNat)
    case atStart => exact ⟨0, Nat.zero_le _, rfl, Lib.hid rfl, Below.refl _ _⟩
    case round =>
      obtain ⟨k, hk, rfl, HO, hb⟩ := hrel
      by_cases hlt : k < n
      · obtain ⟨v, hv⟩ := getN (l := l) (k := k) (by rw [← hn.out]; exact hlt)
        obtain ⟨b, off, px, pc, rfl, _, c0, c1, c2, c3, hp, p1, p2⟩ := (h.next hb).at_ hv
        have hnx := okTo_next hv
        rw [HO.out, Bool.true_and] at hnx
        have HNF := Lib.hid (fun hf => okTo_false hv hf)
        have hpl := Nat.le_trans p1 p2
        have N1 := blk_new wr (.cells #[.bool v.src, .slice px v.peers.length pc, .int .i64 v.ref, .int .i64 v.str] 48)
        have B1 := below_newNd wr v px pc 48
        have b1 := grow_next hb B1
        have hp1 := hp.next B1
        have HR := Lib.hid (fun W hh => placesRise_c n (by omega) v.peers v.peers.length (Lib.hid rfl) hpl px pc W hh)
        have HC := Lib.hid (fun W hh => contains_c v.peers (k : Int) v.peers.length (Lib.hid rfl) hpl px pc W hh)
        have HS := Lib.hid (fun W hh => standsRight_c v px pc hpl W hh)
        obtain ⟨r, hr⟩ : ∃ r, riseTo (n : Int) v.peers v.peers.length = r := ⟨_, rfl⟩
        obtain ⟨c, hc⟩ : ∃ c, v.peers.contains (k : Int) = c := ⟨_, rfl⟩
        obtain ⟨s, hs⟩ : ∃ s, standsB v = s := ⟨_, rfl⟩
        have HV : Hid (ndOk l.length k v = (r && !c && s)) := Lib.hid (by unfold ndOk; rw [← hn.out, hr, hc, hs])
        have HNX := Lib.hid hnx
        rw [hr] at HR
        rw [hc] at HC
        rw [hs] at HS
        generalize hW1 : wr.alloc (.cells #[.bool v.src, .slice px v.peers.length pc, .int .i64 v.ref, .int .i64 v.str] 48) = W1 at *
        obtain ⟨x0, x1, x2, x3⟩ := node_cells N1
        clear hv hnx hr hc hs hp p1
        go_wp2_with fail
        refine (HR.out _ hp1).mono ?_
        rintro e w2 ⟨rfl, hb2⟩
        have b2 := grow_next b1 hb2
        have N2 := blk_next hb2 N1
        have hp2 := hp1.next hb2
        obtain ⟨x0, x1, x2, x3⟩ := node_cells N2
        clear N1 hp1 hW1
        cases r with
        | false =>
          have HF := Lib.hid (HNF.out HV.out)
          go_wp2_with fail
          go_returns
          exact ⟨by rw [HF.out]; rfl, b2⟩
        | true =>
          go_wp2_with fail
          refine (HC.out _ hp2).mono ?_
          rintro e w3 ⟨rfl, hb3⟩
          have b3 := grow_next b2 hb3
          have N3 := blk_next hb3 N2
          have hp3 := hp2.next hb3
          obtain ⟨x0, x1, x2, x3⟩ := node_cells N3
          cases c with
          | true =>
            have HF := Lib.hid (HNF.out HV.out)
            go_wp2_with fail
            go_returns
            exact ⟨by rw [HF.out]; rfl, b3⟩
          | false =>
            go_wp2_with fail
            refine (HS.out _ hp3).mono ?_
            rintro e w4 ⟨rfl, hb4⟩
            have b4 := grow_next b3 hb4
            cases s with
            | false =>
              have HF := Lib.hid (HNF.out HV.out)
              go_wp2_with fail
              go_returns
              exact ⟨by rw [HF.out]; rfl, b4⟩
            | true =>
              have HO1 := Lib.hid (HNX.out.trans HV.out)
              go_wp2_with fail
              go_roundw
              case rel => exact ⟨k + 1, by omega, by go_num, HO1, b4⟩
              case measure => simp [intOf]; omega
      · have hv : nodesOk l = true := by
          unfold nodesOk
          rw [← hn.out, show n = k by omega, HO.out, decide_eq_true (by omega)]; rfl
        have HV := Lib.hid hv
        clear hv
        go_wp2_with fail
        go_returns
        exact ⟨by rw [HV.out]; rfl, hb⟩
end Go.Proofs.Ytdapongofiohgaa
