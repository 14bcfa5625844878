/- The reference's test of a disk. -/
import Derived.Test.YtgmjdalfbebgbaaDkDo
namespace Go.Proofs.Ytgmjdalfbebgbaa
open Go.ChangeShapes Go.WideShapes Go.ChangeAt Go.RowKit
set_option linter.unusedVariables false
set_option linter.unusedSimpArgs false
set_option maxRecDepth 100000

theorem doneV_mem {l : List Fl} {o : Dp} {f : Fl} (h : f ∈ doneV l o) : f.data.size ≤ bytesF (doneV l o) := bytesF_mem h
theorem small_done {l : List Fl} (h : filesOk l = true) {o : Dp} (ho : o.data.size ≤ 549755813888) : SmallF (doneV l o) := by
  obtain ⟨_, _, h3, h4⟩ := filesOk_iff.1 h
  have h5 := doneV_len l o
  have h6 := doneV_bytes l o
  exact ⟨by omega, fun f hf => by have := bytesF_mem hf; omega⟩
set_option maxHeartbeats 8000000 in
theorem diskOkS_c (d : Dk) (hs : SmallD d) (hods : ∀ o ∈ d.ops, o.data.size ≤ 549755813888) (x y z : Option Addr) (n m q cx cy cz : Nat) (hy : y = none → cy = 0) (w : World) (h : DkAt w.heap.size w x y z n m q d) :
    Calls Try.prog 13 #[.agg #[.slice x n cx, .slice y m cy, .slice z q cz]] w fun e w' => e = .returned (.bool (diskOk d)) ∧ Below w.heap.size w w' := by
  have Z0 := blk_new w (.cells #[.slice x n cx, .slice y m cy, .slice z q cz] 31)
  have B0 : Below w.heap.size w (w.alloc (.cells #[.slice x n cx, .slice y m cy, .slice z q cz] 31)) := below_new _ _
  have D0 := h.next B0
  have HS := Lib.hid hs
  have HM := Lib.hid h.hm
  have HQ := Lib.hid h.hq
  have HN := Lib.hid h.hn
  have HOD := Lib.hid hods
  have HY := Lib.hid hy
  clear hs h hods hy
  go_enter Try.func13, Try.ntmps13
  go_upto_region 1 with fail
  obtain ⟨W, hW⟩ : ∃ W, W = w.alloc (.cells #[.slice x n cx, .slice y m cy, .slice z q cz] 31) := ⟨_, rfl⟩
  rw [← hW] at Z0 B0 D0
  rw [← hW]
  clear hW
  obtain ⟨c0, c1, c2⟩ := three_cellsD Z0
  have HFL := Lib.hid (l10Files_c d.live n HN HS.out.live x cx W D0.live)
  cases hfl : filesOk d.live with
  | false =>
    have HR : Hid (diskOk d = false) := Lib.hid (by
      cases hd : diskOk d with
      | false => rfl
      | true => rw [diskOk_live hd] at hfl; cases hfl)
    rw [hfl] at HFL
    clear hfl
    go_wp2_with (go_at_call 41; (with_reducible refine HFL.out.mono ?_); rintro e w1 ⟨rfl, hb1⟩)
    go_returns
    exact ⟨by rw [HR.out]; rfl, grow_next B0 hb1⟩
  | true =>
    rw [hfl] at HFL
    clear hfl
    have HSF := Lib.hid (fun W h => l10Files_c d.safe m HM HS.out.safe y cy W h)
    cases hf : filesOk d.safe with
    | false =>
      have HR : Hid (diskOk d = false) := Lib.hid (by unfold diskOk; rw [hf]; rfl)
      rw [hf] at HSF
      clear hf
      go_wp2_with fail
      refine HFL.out.mono ?_
      rintro e w1 ⟨rfl, hb1⟩
      have D1 := D0.next hb1
      have B1 := grow_next B0 hb1
      obtain ⟨a0, a1, a2⟩ := three_cellsD (blk_next hb1 Z0)
      clear c0 c1 c2 HFL
      go_wp2_with (go_at_call 41; (with_reducible refine (HSF.out _ D1.safe).mono ?_); rintro e w2 ⟨rfl, hb2⟩)
      go_returns
      exact ⟨by rw [HR.out]; rfl, grow_next B1 hb2⟩
    | true =>
      have HF := Lib.hid hf
      rw [hf] at HSF
      clear hf
      go_wp2_with fail
      refine HFL.out.mono ?_
      rintro e w1 ⟨rfl, hb1⟩
      have D1 := D0.next hb1
      have B1 := grow_next B0 hb1
      have Z1 := blk_next hb1 Z0
      obtain ⟨a0, a1, a2⟩ := three_cellsD Z1
      clear c0 c1 c2 HFL hb1 D0 B0 Z0
      go_wp2_with fail
      refine (HSF.out _ D1.safe).mono ?_
      rintro e w2 ⟨rfl, hb2⟩
      have D2 := D1.next hb2
      have B2 := grow_next B1 hb2
      have Z2 := blk_next hb2 Z1
      clear a0 a1 a2 HSF hb2 D1 B1 Z1
      obtain ⟨c0, c1, c2⟩ := three_cellsD Z2
      by_cases h200 : q ≤ 200
      · have g200 : ¬ (200 : Int) < (q : Int) := by omega
        have d200 : decide ((200 : Int) < (q : Int)) = false := decide_eq_false g200
        go_wp2_with fail
        have HD2 := Lib.hid D2
        have HZ2 := Lib.hid Z2
        clear g200 d200 c0 c1 c2
        go_loopw [3, 4] (fun nw i wr => ∃ (k : Nat) (l : List Fl) (nn : Nat) (xa : Option Addr) (ca : Nat), k ≤ q ∧ i = .int .i64 k ∧ nw = .slice xa nn ca ∧ Hid (nn = l.length) ∧ Hid (xa = none → ca = 0) ∧ Hid (chainTo d.safe d.ops k = some l) ∧ GAt flC wr.heap.size wr xa l ∧ Below w2.heap.size w2 wr) (fun _ i _ => q - (RowKit.intOf i).toNat)
        case atStart => exact ⟨0, d.safe, m, y, cy, Nat.zero_le _, rfl, rfl, HM, HY, Lib.hid rfl, D2.safe, Below.refl _ _⟩
        case round =>
          obtain ⟨k, l, nn, xa, ca, hk, rfl, rfl, HNN, HXA, HC, hat, hbw⟩ := hrel
          clear D2 Z2
          have Zr := blk_next hbw HZ2.out
          have Dr := HD2.out.next hbw
          obtain ⟨c0, c1, c2⟩ := three_cellsD Zr
          have hokn : filesOk l = true := chainTo_ok HF.out _ _ _ HC.out
          obtain ⟨hrise, _, hl60, hbytes⟩ := filesOk_iff.1 hokn
          by_cases hlt : k < q
          · obtain ⟨o, ho⟩ := getG (l := d.ops) (k := k) (by rw [← HQ.out]; exact hlt)
            obtain ⟨g, off, rfl, hgB, d0, d1, d2, d3⟩ := Dr.ops.dp ho
            have hkn : (k : Int) < (q : Int) := by omega
            have hw1 : IntKind.i64.wrap ((k : Int) + 1) = (k : Int) + 1 := IntWalk.i64_in _ (by omega)
            have hod := HOD.out o (List.mem_of_getElem? ho)
            have hkq : k < d.ops.length := by rw [← HQ.out]; exact hlt
            have HG := Lib.hid ho
            have HST := Lib.hid (chainTo_succ HC.out ho)
            have HSM := Lib.hid (small_done hokn hod)
            have HDO := Lib.hid (l10Do_c l hrise o nn HNN (by have := HNN.out; omega) xa ca HXA.out wr hat (by omega) (fun f hf => by have := bytesF_mem hf; omega))
            have HFO := Lib.hid (fun W => l10Form_c o W)
            obtain ⟨td, htd⟩ : ∃ t, toldV l o = t := ⟨_, rfl⟩
            obtain ⟨nx, hnx⟩ : ∃ t, doneV l o = t := ⟨_, rfl⟩
            have HTD := Lib.hid htd
            have HNX := Lib.hid hnx
            unfold OwnFT at HDO
            rw [htd, hnx] at HDO
            rw [hnx] at HSM
            have HFN := Lib.hid (fun xx cc W h => l10Files_c nx nx.length (Lib.hid rfl) HSM.out xx cc W h)
            clear ho htd hnx hrise hl60 hbytes hokn hod
            go_upto_region 8 with (go_at_call 42; (with_reducible refine HDO.out.mono ?_); rintro e w3 ⟨y3, cy3, rfl, hR3, hb3⟩)
            have B3 := grow_next hbw hb3
            have Z3 := blk_next hb3 Zr
            have A3 := hR3.at
            have N3 := Lib.hid hR3.nil_
            have D3 := Dr.next hb3
            obtain ⟨c0', c1', c2'⟩ := three_cellsD Z3
            obtain ⟨g', off', e', _, d0', d1', d2', d3'⟩ := D3.ops.dp HG.out
            simp only [Option.some.injEq, Addr.mk.injEq] at e'
            obtain ⟨rfl, rfl, _⟩ := e'
            clear c0 c1 c2 d0 d1 d2 d3 HDO hat Dr Zr hb3 hR3
            cases td with
            | false =>
              have HR : Hid (diskOk d = false) := Lib.hid (diskOk_step hkq (HST.out.trans (stepV_bad (by rw [HTD.out, Bool.and_false]; rfl))))
              go_wp2_with fail
              go_returns
              exact ⟨by rw [HR.out]; rfl, grow_next B2 B3⟩
            | true =>
              cases hform : formV o with
              | false =>
                have HR : Hid (diskOk d = false) := Lib.hid (diskOk_step hkq (HST.out.trans (stepV_bad (by rw [hform]; rfl))))
                rw [hform] at HFO
                clear hform
                go_wp2_with (go_at_call 43; (with_reducible refine (HFO.out _).mono ?_); rintro e w4 ⟨rfl, hb4⟩)
                go_returns
                exact ⟨by rw [HR.out]; rfl, grow_next B2 (grow_next B3 hb4)⟩
              | true =>
                have HFR := Lib.hid hform
                rw [hform] at HFO
                clear hform
                cases hfx : filesOk nx with
                | false =>
                  have HR : Hid (diskOk d = false) := Lib.hid (diskOk_step hkq (HST.out.trans (stepV_bad (by rw [HNX.out, hfx, Bool.and_false]))))
                  rw [hfx] at HFN
                  clear hfx
                  go_wp2_with (go_at_call 43; (with_reducible refine (HFO.out _).mono ?_); rintro e w4 ⟨rfl, hb4⟩; have A4 := A3.next hb4)
                  refine (HFN.out _ _ _ A4).mono ?_
                  rintro e w5 ⟨rfl, hb5⟩
                  go_wp2_with fail
                  go_returns
                  exact ⟨by rw [HR.out]; rfl, grow_next B2 (grow_next (grow_next B3 hb4) hb5)⟩
                | true =>
                  have HC2 : Hid (chainTo d.safe d.ops (k + 1) = some nx) := Lib.hid (by rw [HST.out, stepV_good (by rw [HFR.out, HTD.out, HNX.out, hfx]; rfl), HNX.out])
                  rw [hfx] at HFN
                  clear hfx
                  go_wp2_with (go_at_call 43; (with_reducible refine (HFO.out _).mono ?_); rintro e w4 ⟨rfl, hb4⟩; have A4 := A3.next hb4)
                  refine (HFN.out _ _ _ A4).mono ?_
                  rintro e w5 ⟨rfl, hb5⟩
                  have A5 := A4.next hb5
                  have B5 := grow_next (grow_next B3 hb4) hb5
                  go_wp2_with fail
                  go_roundw
                  case rel => exact ⟨k + 1, nx, nx.length, y3, cy3, by omega, by go_num, rfl, Lib.hid rfl, N3, HC2, A5, B5⟩
                  case measure => simp [RowKit.intOf]; omega
          · have e : k = q := by omega
            have hkn : ¬ (k : Int) < (q : Int) := by omega
            have HR : Hid (diskOk d = sameF l d.live) := Lib.hid (by
              have h1 := HC.out
              rw [e, HQ.out] at h1
              unfold diskOk
              rw [HF.out, h1, decide_eq_true (by rw [← HQ.out]; exact h200)]
              rfl)
            have hnl : n ≤ 1099511627776 := by have := HS.out.live.1; have := HN.out; omega
            have HEQ := Lib.hid (l10Same_c l d.live nn n HNN HN (by have := HNN.out; omega) hnl xa x ca cx wr hat Dr.live)
            clear e hokn hrise hl60 hbytes hnl hlt
            go_wp2_with (go_at_call 44; (with_reducible refine HEQ.out.mono ?_); rintro e w4 ⟨rfl, hb4⟩)
            go_returns
            exact ⟨by rw [HR.out]; rfl, grow_next B2 (grow_next hbw hb4)⟩
      · have g200 : (200 : Int) < (q : Int) := by omega
        have d200 : decide ((200 : Int) < (q : Int)) = true := decide_eq_true g200
        have HR : Hid (diskOk d = false) := Lib.hid (by unfold diskOk; rw [decide_eq_false (by rw [← HQ.out]; exact h200), Bool.false_and, Bool.and_false])
        go_wp2_with fail
        go_returns
        exact ⟨by rw [HR.out]; rfl, B2⟩
end Go.Proofs.Ytgmjdalfbebgbaa
