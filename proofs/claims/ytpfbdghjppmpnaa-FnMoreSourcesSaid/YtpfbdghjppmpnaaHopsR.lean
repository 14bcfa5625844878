/- The reference's HopsOf, walked. -/
import Derived.Test.YtpfbdghjppmpnaaHopsS
namespace Go.Proofs.Ytpfbdghjppmpnaa
open Go.ChangeShapes Go.WideShapes Go.ChangeAt Go.RowKit
set_option linter.unusedVariables false
set_option linter.unusedSimpArgs false

set_option maxRecDepth 100000 in
set_option maxHeartbeats 8000000 in
theorem hopsOf_spec (l : List Nd) (n : Nat) (hn : Hid (n = l.length)) (hm : n ≤ maxLen) (x : Option Addr) (cap : Nat) (w : World) (h : Nds w.heap.size w x l) :
    Calls Try.prog 8 #[.slice x n cap] w (HopsPost w l (hopsV l).length) := by
  obtain ⟨i0, hi, hz0, hz1, hz2⟩ := info_partsT infoInt'
  have HI0 := Lib.hid hi
  have HZ0 := Lib.hid hz0
  have HZ1 := Lib.hid hz1
  have HZ2 := Lib.hid hz2
  clear hi hz0 hz1 hz2
  have B0 : Below w.heap.size w (w.alloc (.cells #[] 2)) := below_new _ _
  have O0 : (w.alloc (.cells #[] 2)).ownsRow w.heap.size 2 1 (.slice (some ⟨w.heap.size, 0, none⟩) 0 0) 0 ((firstH l 0).map (Value.int .i64)) := World.ownsRow_made (base := w.heap.size) (e := 2) (size := 1) w #[] 0 (Nat.le_refl _) (by simp [maxLen]) rfl
  have h0 := h.next B0
  have HO := Lib.hid (nodesOk_spec l n hn hm x cap _ h0)
  go_enter Try.func8, Try.ntmps8
  go_upto_region 2 with (fail)
  generalize w.alloc (.cells #[] 2) = w0 at *
  cases hok : nodesOk l with
  | false =>
    rw [hok] at HO
    have HV : Hid (hopsV l = []) := Lib.hid (by unfold hopsV; rw [hok]; rfl)
    have HO0 := Lib.hid O0
    clear hok O0
    go_wp2_with fail
    refine HO.out.mono ?_
    rintro e w1 ⟨rfl, hb1⟩
    go_wp2_with fail
    go_returns
    exact ⟨some ⟨w.heap.size, 0, none⟩, 0, by rw [HV.out]; rfl, by rw [HV.out]; exact ownsRow_next HO0.out hb1, grow_next B0 hb1⟩
  | true =>
    rw [hok] at HO
    have HK := Lib.hid hok
    have hl12 := nodesOk_len hok
    have hn12 : n ≤ 12 := by rw [hn.out]; exact hl12
    have HO0 := Lib.hid O0
    clear hok hl12 O0
    go_wp2_with fail
    refine HO.out.mono ?_
    rintro e w1 ⟨rfl, hb1⟩
    have b1 := grow_next B0 hb1
    have O1 := ownsRow_next HO0.out hb1
    clear HO HO0 h0
    go_wp2_with fail
    go_loopw [3, 4] (fun o i wr => ∃ k : Nat, k ≤ n ∧ i = .int .i64 k ∧ wr.ownsRow w.heap.size 2 1 o k ((firstH l k).map (Value.int .i64)) ∧ Below w.heap.size w wr) (fun _ i _ => n - (intOf i).toNat)
    case atStart => exact ⟨0, Nat.zero_le _, rfl, O1, b1⟩
    case round =>
      obtain ⟨k, hk, rfl, hrow, hb⟩ := hrel
      by_cases hlt : k < n
      · obtain ⟨v, hv⟩ := getN (l := l) (k := k) (by rw [← hn.out]; exact hlt)
        have HZV := Lib.hid (hopsAt_zero hv)
        have HVV := Lib.hid hv
        have HFN := Lib.hid (firstH_next l k)
        have hsw := hb.size
        have O2 := Lib.hid (hrow.alloc (.cells #[.int .i64 (-1)] 2))
        have B2 : Below wr.heap.size wr (wr.alloc (.cells #[.int .i64 (-1)] 2)) := below_new _ _
        have NS := Lib.hid (cell_one_new wr (.int .i64 (-1)) 2)
        have b2 := grow_next hb B2
        clear hrow hv
        go_upto_region 8 with (at_builtin; go_loud (refine wpList_append_own _ rfl _ _ 26 rfl w.heap.size 2 i0 (.int .i64 0) 1 8 Try.underlying26 HI0.out HZ0.out HZ1.out HZ2.out rfl (by decide) _ _ _ rfl O2.out ⟨wr.heap.size, 0, none⟩ 1 1 [.int .i64 (-1)] rfl rfl NS.out (by intro v hv; simp at hv; subst hv; rfl) (by unfold maxLen; omega) (by omega) (by simp; omega) ?_); intro v3 w3 hown3 hgrow3 _)
        have b3 := b2.grown hgrow3 b2.size (fun g hg => (O2.out.lt g hg).1)
        have hown3' : w3.ownsRow w.heap.size 2 1 v3 (k + 1) ((firstH l k ++ [-1]).map (Value.int .i64)) := by
          rw [List.map_append]; exact hown3
        obtain ⟨g, cy, rfl, hO3⟩ := own_intsForm hown3' (by rw [List.length_append, firstH_len]; rfl) (Nat.succ_pos _)
        obtain ⟨b, off, px, pc, rfl, _, c0, c1, c2, c3, hp, p1, p2⟩ := (h.next b3).at_ HVV.out
        clear hown3 hgrow3 hown3' O2 NS hp p1
        cases hs : v.src with
        | false =>
          rw [hs] at c0
          have HR : Hid (w3.ownsRow w.heap.size 2 1 (.slice (some ⟨g, 0, none⟩) (k + 1) cy) (k + 1) ((firstH l (k + 1)).map (Value.int .i64))) := Lib.hid (by
            have hz := HZV.out
            rw [hs] at hz
            simp only [Bool.false_eq_true, if_false] at hz
            rw [HFN.out, hz]
            have := hO3
            unfold OwnInts at this
            have hlen : (firstH l k ++ [(-1 : Int)]).length = k + 1 := by rw [List.length_append, firstH_len]; rfl
            rw [hlen] at this
            exact this)
          clear hs hO3
          go_wp2_with fail
          go_roundw
          case rel => exact ⟨k + 1, by omega, by go_num, HR.out, b3⟩
          case measure => simp [intOf]; omega
        | true =>
          rw [hs] at c0
          have hcell := hO3.cell (i := k) (k := -1) (by rw [List.getElem?_append_right (by rw [firstH_len]; exact Nat.le_refl _), firstH_len]; simp)
          have hfz := hO3.thaw k
          have hO4 := hO3.put k 0
          have hset : (firstH l k ++ [-1]).set k 0 = firstH l (k + 1) := by
            have hz := HZV.out
            rw [hs] at hz
            simp only [if_true] at hz
            rw [HFN.out, hz, List.set_append_right _ _ (by rw [firstH_len]; exact Nat.le_refl _), firstH_len]
            simp
          rw [hset] at hO4
          have hgw : w.heap.size ≤ g := (World.ownsRow.lt hO3 g rfl).1
          have HR : Hid ((w3.setCell ⟨g, k, none⟩ (.int .i64 0)).ownsRow w.heap.size 2 1 (.slice (some ⟨g, 0, none⟩) (k + 1) cy) (k + 1) ((firstH l (k + 1)).map (Value.int .i64))) := Lib.hid (by
            have := hO4
            unfold OwnInts at this
            rw [firstH_len] at this
            exact this)
          have G4 := below_setP b3 hgw k (.int .i64 0)
          have hk1 : k < k + 1 := by omega
          have hk2 : (k : Int) < (k : Int) + 1 := by omega
          clear hs hO3 hO4 hset
          go_wp2_with fail
          go_roundw
          case rel => exact ⟨k + 1, by omega, by go_num, HR.out, G4⟩
          case measure => simp [intOf]; omega
      · obtain ⟨y, cy, rfl⟩ := ownsRow_formT hrow
        have hkn : k = n := by omega
        have hVe : hopsV l = hopsL l := by unfold hopsV; rw [HK.out]; rfl
        have HL : Hid (n = (hopsV l).length) := Lib.hid (by rw [hVe, hopsL_len]; exact hn.out)
        have HVE := Lib.hid hVe
        clear hVe
        rcases Nat.eq_zero_or_pos n with hz | hpos
        · have HR : Hid (wr.ownsRow w.heap.size 2 1 (.slice y k cy) k ((hopsV l).map (Value.int .i64))) := Lib.hid (by
            have e1 : hopsV l = [] := List.eq_nil_of_length_eq_zero (by rw [← HL.out]; exact hz)
            have e2 : k = 0 := by omega
            subst e2
            rw [e1]
            exact hrow)
          have HKN := Lib.hid hkn
          have hd : decide ((0 : Int) < (n : Int)) = false := decide_eq_false (by omega)
          have hd2 : ¬ 0 < n := by omega
          clear hrow hkn hz
          go_wp2_with fail
          go_loopw [5] (fun i wr' => i = .int .i64 0 ∧ wr = wr') (fun _ _ => 0)
          case atStart => exact ⟨rfl, rfl⟩
          case round =>
            obtain ⟨rfl, rfl⟩ := hrel
            go_wp2_with fail
            go_returns
            exact ⟨y, cy, by rw [← HL.out, HKN.out]; rfl, by rw [← HL.out, ← HKN.out]; exact HR.out, hb⟩
        · obtain ⟨g, cy', e, hOI⟩ := own_intsForm hrow (by rw [firstH_len]) (by omega)
          simp only [Value.slice.injEq] at e
          obtain ⟨rfl, _, rfl⟩ := e
          have hgw : w.heap.size ≤ g := (World.ownsRow.lt hOI g rfl).1
          have HSP : Hid (Sp l 0 0 (firstH l k)) := Lib.hid (by rw [hkn, hn.out]; exact firstH_sp l)
          have HOI := Lib.hid hOI
          have hkpos : 0 < k := by omega
          have hk12 : k ≤ 12 := by omega
          have HKN := Lib.hid hkn
          clear hrow hkn hOI
          go_wp2_with fail
          go_loopw [5] (fun i wr' => ∃ (hop : Nat) (K : List Int), hop ≤ n ∧ i = .int .i64 hop ∧ Hid (Sp l hop 0 K) ∧ Hid (OwnInts w.heap.size wr' g cy K) ∧ Below w.heap.size w wr') (fun i _ => n - (intOf i).toNat)
          case atStart => exact ⟨0, _, Nat.zero_le _, rfl, HSP, HOI, hb⟩
          case round =>
            obtain ⟨hop, K, hhn, rfl, HS2, HO2, hb2⟩ := hrel
            by_cases hhlt : hop < n
            · go_wp2_with fail
              go_loopw [6] (fun i wr' => ∃ (j : Nat) (K : List Int), j ≤ n ∧ i = .int .i64 j ∧ Hid (Sp l hop j K) ∧ Hid (OwnInts w.heap.size wr' g cy K) ∧ Below w.heap.size w wr') (fun i _ => n - (intOf i).toNat)
              case atStart => exact ⟨0, K, Nat.zero_le _, rfl, HS2, HO2, hb2⟩
              case round =>
                obtain ⟨j, K3, hjn, rfl, HS3, HO3, hb3⟩ := hrel
                by_cases hjlt : j < n
                · obtain ⟨v, hv⟩ := getN (l := l) (k := j) (by rw [← hn.out]; exact hjlt)
                  obtain ⟨m, hm2⟩ : ∃ m, v.peers.length = m := ⟨_, rfl⟩
                  have HVV := Lib.hid hv
                  have HM := Lib.hid hm2
                  have hm12 : m ≤ 12 := by rw [← hm2]; exact l_peers_short' HK.out (List.mem_of_getElem? hv)
                  have hKl := HS3.out.1
                  obtain ⟨z0, hz0⟩ := getI (l := K3) (k := j) (by rw [hKl, ← hn.out]; exact hjlt)
                  have hz0' := HS3.out.2 _ _ hz0
                  rw [if_neg (by omega)] at hz0'
                  have HSET : Hid (K3.set j (innerV l hop j v 0) = K3) := Lib.hid (by
                    rw [innerV_zero, ← hz0']
                    apply List.ext_getElem?
                    intro q
                    rw [List.getElem?_set]
                    split
                    · rename_i hq
                      subst hq
                      first | exact hz0.symm | (rw [if_pos (by rw [hKl, ← hn.out]; exact hjlt)]; exact hz0.symm)
                    · rfl)
                  have HO4 : Hid (OwnInts w.heap.size wr g cy (K3.set j (innerV l hop j v 0))) := Lib.hid (by rw [HSET.out]; exact HO3.out)
                  have HKL := Lib.hid hKl
                  clear hv hm2 hKl hz0 hz0' HSET HO3
                  go_wp2_with fail
                  go_loopw [7] (fun i wr' => ∃ q : Nat, q ≤ m ∧ i = .int .i64 q ∧ Hid (OwnInts w.heap.size wr' g cy (K3.set j (innerV l hop j v q))) ∧ Below w.heap.size w wr') (fun i _ => m - (intOf i).toNat)
                  case atStart => exact ⟨0, Nat.zero_le _, rfl, HO4, hb3⟩
                  case round =>
                    obtain ⟨q, hqm, rfl, HOq, hbq⟩ := hrel
                    obtain ⟨b, off, px, pc, rfl, _, c0, c1, c2, c3, hp, p1, p2⟩ := (h.next hbq).at_ HVV.out
                    rw [HM.out] at c1
                    have hcj := HOq.out.cell (i := j) (k := innerV l hop j v q) (by rw [List.getElem?_set_self (by rw [HKL.out, ← hn.out]; exact hjlt)])
                    have hfj := HOq.out.thaw j
                    have hin := innerV_in l hop j v q (by omega)
                    by_cases hqlt : q < m
                    · obtain ⟨p, hpp⟩ := getI (l := v.peers) (k := q) (by rw [HM.out]; exact hqlt)
                      obtain ⟨b', off', rfl, _, d0⟩ := hp.at_ hpp
                      have hpin := peer_in (nodesOk_at HK.out HVV.out) (List.mem_of_getElem? hpp)
                      have hpj : p ≠ (j : Int) := fun e => by
                        have := (nd_parts (nodesOk_at HK.out HVV.out)).2.1
                        rw [← e, has_hit hpp] at this
                        cases this
                      obtain ⟨jp, rfl⟩ : ∃ jp : Nat, p = (jp : Int) := ⟨p.toNat, by omega⟩
                      have hnl := hn.out
                      obtain ⟨c, hc⟩ := getI (l := K3) (k := jp) (by rw [HKL.out]; omega)
                      have hcp := HOq.out.cell (i := jp) (k := c) (by rw [List.getElem?_set_ne (by omega)]; exact hc)
                      have hjp : jp < k := by have := HKN.out; omega
                      have hnx := innerV_next HK.out HS3.out HVV.out hpp (by rw [Int.toNat_natCast]; exact hc)
                      have hwh : IntKind.i64.wrap ((hop : Int) + 1) = (hop : Int) + 1 := IntWalk.i64_in _ (by omega)
                      have hjk : j < k := by have := HKN.out; omega
                      obtain ⟨u, hu⟩ : ∃ u, innerV l hop j v q = u := ⟨_, rfl⟩
                      rw [hu] at hcj hin hnx
                      have HU := Lib.hid hu
                      clear hpp hc hpj hpin hp p1 hu hnl
                      by_cases hu0 : u < 0
                      · have hd1 : decide (u < 0) = true := decide_eq_true hu0
                        cases hce : (c == (hop : Int)) with
                        | true =>
                          rw [if_pos ⟨hu0, by simpa using hce⟩] at hnx
                          have hOn := HOq.out.put j ((hop : Int) + 1)
                          rw [List.set_set, ← hnx] at hOn
                          have HOn := Lib.hid hOn
                          have G5 := below_setP hbq hgw j (.int .i64 ((hop : Int) + 1))
                          rw [hnx] at HOn
                          have HNX := Lib.hid hnx
                          clear hnx hOn HOq hu0
                          go_wp2_with fail
                          go_roundw
                          case rel => exact ⟨q + 1, by omega, by go_num, by rw [HNX.out]; exact HOn, G5⟩
                          case measure => simp [intOf]; omega
                        | false =>
                          rw [if_neg (fun h => by have h2 : c ≠ (hop : Int) := by simpa using hce
                                                  exact h2 h.2)] at hnx
                          have HON : Hid (OwnInts w.heap.size wr g cy (K3.set j (innerV l hop j v (q + 1)))) := Lib.hid (by rw [hnx, ← HU.out]; exact HOq.out)
                          clear hnx HOq hu0
                          go_wp2_with fail
                          go_roundw
                          case rel => exact ⟨q + 1, by omega, by go_num, HON, hbq⟩
                          case measure => simp [intOf]; omega
                      · have hd1 : decide (u < 0) = false := decide_eq_false hu0
                        rw [if_neg (fun h => hu0 h.1)] at hnx
                        have HON : Hid (OwnInts w.heap.size wr g cy (K3.set j (innerV l hop j v (q + 1)))) := Lib.hid (by rw [hnx, ← HU.out]; exact HOq.out)
                        clear hnx HOq hu0
                        go_wp2_with fail
                        go_roundw
                        case rel => exact ⟨q + 1, by omega, by go_num, HON, hbq⟩
                        case measure => simp [intOf]; omega
                    · have hall : innerV l hop j v q = hopsAt l (hop + 1) j := innerV_all HVV.out (by rw [HM.out]; omega)
                      have HSn := Lib.hid (HS3.out.step)
                      have HOn : Hid (OwnInts w.heap.size wr g cy (K3.set j (hopsAt l (hop + 1) j))) := Lib.hid (by rw [← hall]; exact HOq.out)
                      clear hall HOq hcj hfj hin hp p1
                      go_wp2_with fail
                      go_roundw
                      case rel => exact ⟨j + 1, _, by omega, by go_num, HSn, HOn, hbq⟩
                      case measure => simp [intOf]; omega
                · have hjl : j = l.length := by rw [← hn.out]; omega
                  have HSn : Hid (Sp l (hop + 1) 0 K3) := Lib.hid (Sp.pass (hjl ▸ HS3.out))
                  clear hjl HS3
                  go_wp2_with fail
                  go_roundw
                  case rel => exact ⟨hop + 1, K3, by omega, by go_num, HSn, HO3, hb3⟩
                  case measure => simp [intOf]; omega
            · have hhl : hop = l.length := by rw [← hn.out]; omega
              have hKe : K = hopsL l := Sp.end_ (hhl ▸ HS2.out)
              have hO := HO2.out
              unfold OwnInts at hO
              rw [hKe, ← HVE.out, ← HL.out] at hO
              have HOE := Lib.hid hO
              clear hhl hKe hO HS2 HO2
              go_wp2_with fail
              go_returns
              exact ⟨some ⟨g, 0, none⟩, cy, by rw [← HL.out, ← HKN.out]; rfl, by rw [← HL.out]; exact HOE.out, hb2⟩
end Go.Proofs.Ytpfbdghjppmpnaa
