/- The reference's tick, and its TickOf. -/
import Derived.Test.YtdapongofiohgaaTickP
import Derived.Test.YtdapongofiohgaaNdOkS
namespace Go.Proofs.Ytdapongofiohgaa
open Go.ChangeShapes Go.WideShapes Go.ChangeAt Go.RowKit
set_option linter.unusedVariables false
set_option linter.unusedSimpArgs false

/-- The node at this place holds a list of peers that is not nil. -/
def PSome (w : World) (x : Option Addr) (i : Nat) : Prop := ∀ b off, x = some ⟨b, off, none⟩ → ∃ ad m pc, w.cell? ⟨b, off + i * 4 + 1, none⟩ = some (.slice (some ad) m pc)
theorem NdTab.psome {m g : Nat} {w : World} {l : List Nd} (h : NdTab m w g l) {i : Nat} (hi : i < l.length) : PSome w (some ⟨g, 0, none⟩) i := by
  obtain ⟨cur, h1, h2, h3, h4⟩ := h
  obtain ⟨v, hv⟩ := getN hi
  obtain ⟨p, hp, c0, c1, _⟩ := h4 i v hv
  intro b off e
  simp only [Option.some.injEq, Addr.mk.injEq] at e
  obtain ⟨rfl, rfl, _⟩ := e
  exact ⟨⟨p, 0, none⟩, _, _, by rw [Nat.zero_add]; simp only [World.cell?, h1]; exact c1⟩
theorem PSome.next {w w' : World} {x : Option Addr} {i : Nat} (h : PSome w x i) (hb : Below w.heap.size w w') (hx : ∀ b off, x = some ⟨b, off, none⟩ → b < w.heap.size) : PSome w' x i := fun b off e => by
  obtain ⟨ad, m, pc, hc⟩ := h b off e
  exact ⟨ad, m, pc, (hb.cell (p := ⟨b, off + i * 4 + 1, none⟩) (hx b off e)).trans hc⟩
theorem ints_cells (l : List Int) : ∀ v ∈ l.map (Value.int .i64), v.oneCell' = true := by
  intro v hv
  obtain ⟨z, _, rfl⟩ := List.mem_map.1 hv
  rfl
theorem IntsAt.news {B : Nat} {w : World} {ad : Addr} {l : List Int} (h : IntsAt B w (some ad) l) : ∀ i u, (l.map (Value.int .i64))[i]? = some u → w.cell? (ad.add i) = some u := fun i u hu => by
  rw [List.getElem?_map] at hu
  cases hz : l[i]? with
  | none => rw [hz] at hu; cases hu
  | some z =>
    rw [hz] at hu
    simp only [Option.map_some, Option.some.injEq] at hu
    subst hu
    obtain ⟨b, off, e, _, hc⟩ := h.at_ hz
    simp only [Option.some.injEq] at e
    subst e
    rw [show (⟨b, off, none⟩ : Addr).add i = ⟨b, off + i, none⟩ by unfold Addr.add; split <;> simp_all]
    exact hc
theorem PeersOwn.setAt {base : Nat} {w : World} {e : Np} (h : PeersOwn base w e) {b : Nat} (hb : ∀ p, (Value.slice e.px e.v.peers.length e.pc).ownBlock = some p → b ≠ p) (o : Nat) (u : Value) : PeersOwn base (w.setCell ⟨b, o, none⟩ u) e :=
  h.kept (grownSet w b o u) (fun p hp e2 => hb p hp (by simpa using e2))
/-- One whose numbers are others, its peers the same. -/
theorem PeersOwn.as_ {base : Nat} {w : World} {v u : Nd} {px : Option Addr} {pc : Nat} (h : PeersOwn base w ⟨v, px, pc⟩) (e : u.peers = v.peers) : PeersOwn base w ⟨u, px, pc⟩ := by
  unfold PeersOwn at *
  dsimp only at *
  rw [e]; exact h
set_option maxRecDepth 100000 in
set_option maxHeartbeats 8000000 in
theorem l8Tick_c (l : List Nd) (hS : StrOk l) (i : Nat) (v : Nd) (hv : l[i]? = some v) (hin : ∀ p ∈ v.peers, 0 ≤ p ∧ p < l.length) (hm1 : v.peers.length ≤ 1048576) (n : Nat) (hn : Hid (n = l.length)) (hl : n ≤ 1000) (x : Option Addr) (cap : Nat) (w : World) (h : Nds w.heap.size w x l) (hps : PSome w x i) :
    Calls Try.prog 55 #[.slice x n cap, .int .i64 i] w fun e w' => ∃ (u : Nd) (px : Option Addr) (pc : Nat), e = .returned (.agg #[.bool u.src, .slice px u.peers.length pc, .int .i64 u.ref, .int .i64 u.str]) ∧ u = tickNd l v ∧ PeersOwn w.heap.size w' ⟨u, px, pc⟩ ∧ Below w.heap.size w w' := by
  obtain ⟨i0, hi, hz0, hz1, hz2⟩ := info_partsT infoInt'
  have HI0 := Lib.hid hi
  have HZ0 := Lib.hid hz0
  have HZ1 := Lib.hid hz1
  have HZ2 := Lib.hid hz2
  clear hi hz0 hz1 hz2
  obtain ⟨b, off, px, pc, rfl, hbl, c0, c1, c2, c3, hp, p1, p2⟩ := h.at_ hv
  obtain ⟨ad, m0, pc0, e1⟩ := hps b off rfl
  rw [c1] at e1
  simp only [Option.some.injEq, Value.slice.injEq] at e1
  obtain ⟨rfl, em1, em2⟩ := e1
  clear em1 em2
  have hil : i < n := by rw [hn.out]; exact (List.getElem?_eq_some_iff.1 hv).1
  have hil2 : (i : Int) < (n : Int) := by omega
  have HH := Lib.hid h
  obtain ⟨m, hm⟩ : ∃ m, v.peers.length = m := ⟨_, rfl⟩
  have HM := Lib.hid hm
  have Z0 := blk_alloc (blk_new w (.cells #[.bool false, .slice none 0 0, .int .i64 0, .int .i64 0] 48)) (.cells #[.bool v.src, .slice (some ad) m pc, .int .i64 v.ref, .int .i64 v.str] 48)
  have Z1 := blk_new (w.alloc (.cells #[.bool false, .slice none 0 0, .int .i64 0, .int .i64 0] 48)) (.cells #[.bool v.src, .slice (some ad) m pc, .int .i64 v.ref, .int .i64 v.str] 48)
  rw [World.size_alloc] at Z1
  have g2 : Below w.heap.size w ((w.alloc (.cells #[.bool false, .slice none 0 0, .int .i64 0, .int .i64 0] 48)).alloc (.cells #[.bool v.src, .slice (some ad) m pc, .int .i64 v.ref, .int .i64 v.str] 48)) := by go_grown
  have s2 : ((w.alloc (.cells #[.bool false, .slice none 0 0, .int .i64 0, .int .i64 0] 48)).alloc (.cells #[.bool v.src, .slice (some ad) m pc, .int .i64 v.ref, .int .i64 v.str] 48)).heap.size = w.heap.size + 1 + 1 := by simp
  rw [hm] at c1 hm1
  clear hps p1 hm h
  go_enter Try.func55, Try.ntmps55
  go_upto_region 2 with (fail)
  generalize (w.alloc (.cells #[.bool false, .slice none 0 0, .int .i64 0, .int .i64 0] 48)).alloc (.cells #[.bool v.src, .slice (some ad) m pc, .int .i64 v.ref, .int .i64 v.str] 48) = W2 at *
  obtain ⟨⟨x0, x1, x2, x3⟩, _⟩ := four_cells Z1
  have HO := Lib.hid (World.ownsRow_made (base := W2.heap.size) (e := 2) (size := 1) W2 #[] 0 (Nat.le_refl _) (by simp [maxLen]) rfl)
  have B3 : Below W2.heap.size W2 (W2.alloc (.cells #[] 2)) := below_new _ _
  have hp3 := (hp.next g2).next B3
  have HS2 := Lib.hid s2
  have HNW := Lib.hid hp3.news
  have HLW : Hid ((v.peers.map (Value.int .i64)).length = m * 1) := Lib.hid (by rw [List.length_map, HM.out, Nat.mul_one])
  have hZ3 := blk_next B3 Z1
  obtain ⟨⟨z0, z1, z2, z3⟩, _⟩ := four_cells hZ3
  have hfz3 : (W2.alloc (.cells #[] 2)).frozen? ⟨w.heap.size + 1, 1, none⟩ = false := by simp [World.frozen?, hZ3]
  clear s2 c0 c1 c2 c3 hp hp3
  go_upto_region 3 with (at_builtin; go_loud (refine wpList_append_own _ rfl _ _ 46 rfl W2.heap.size 2 i0 (.int .i64 0) 1 8 Try.underlying46 HI0.out HZ0.out HZ1.out HZ2.out rfl (by decide) _ _ _ rfl HO.out ad m pc (v.peers.map (Value.int .i64)) rfl HLW.out HNW.out (ints_cells _) (by unfold maxLen; omega) (by omega) (by simp) ?_); intro v3 w3 hown3 hgrow3 _; rw [Nat.zero_add, List.nil_append] at hown3; obtain ⟨qx, qc, rfl⟩ := ownsRow_formT hown3; have b3 := B3.grown hgrow3 B3.size (fun g hg => (HO.out.lt g hg).1); have Y1 := blk_next b3 Z1; obtain ⟨⟨x0, x1, x2, x3⟩, f0, f1, f2, f3⟩ := four_cells Y1)
  have Y0 := blk_next b3 Z0
  have hs3 := b3.size
  have X1 : (w3.setCell ⟨w.heap.size + 1, 1, none⟩ (.slice qx m qc)).heap[w.heap.size + 1]? = some (.cells #[.bool v.src, .slice qx m qc, .int .i64 v.ref, .int .i64 v.str] 48) := heap_set Y1 1 _
  have X0 := blk_other Y0 (b' := w.heap.size + 1) (by omega) 1 (.slice qx m qc)
  have g3 := below_setCell (grow_next g2 b3) (b := w.heap.size + 1) (by omega) 1 (.slice qx m qc)
  have hqb : ∀ p, (Value.slice qx m qc).ownBlock = some p → w.heap.size + 1 < p := fun p hp => by
    have := (hown3.lt p hp).1
    have := HS2.out
    omega
  have hP0 : PeersOwn w.heap.size w3 ⟨v, qx, qc⟩ := by
    unfold PeersOwn
    dsimp only
    rw [HM.out]
    exact own_lowerN hown3 (by have := HS2.out; omega)
  have hqb' : ∀ p, (Value.slice qx v.peers.length qc).ownBlock = some p → w.heap.size + 1 ≠ p := fun p hp => by
    rw [HM.out] at hp
    have := hqb p hp
    omega
  have hqb0 : ∀ p, (Value.slice qx v.peers.length qc).ownBlock = some p → w.heap.size ≠ p := fun p hp => by
    rw [HM.out] at hp
    have := hqb p hp
    omega
  have hP1 := hP0.setAt (b := w.heap.size + 1) hqb' 1 (.slice qx m qc)
  clear x0 x1 x2 x3 f0 f1 f2 f3 z0 z1 z2 z3 Y1 Y0 hown3 hgrow3 hP0 HO hZ3 hfz3 B3 Z0 Z1 hqb
  generalize hW4 : w3.setCell ⟨w.heap.size + 1, 1, none⟩ (.slice qx m qc) = W4 at *
  clear hW4 b3 hs3
  obtain ⟨⟨x0, x1, x2, x3⟩, f0, f1, f2, f3⟩ := four_cells X1
  cases hsr : v.src with
  | true =>
    rw [hsr] at x0 X1
    have HV : Hid (v = tickNd l v) := Lib.hid (by unfold tickNd; rw [hsr]; rfl)
    have HSR := Lib.hid hsr
    obtain ⟨⟨y0, y1, y2, y3⟩, e0, e1, e2, e3⟩ := four_cells X0
    have V := four_put X0 (.bool true) (.slice qx m qc) (.int .i64 v.ref) (.int .i64 v.str)
    obtain ⟨⟨q0, q1, q2, q3⟩, _⟩ := four_cells V
    have HP4 := Lib.hid ((((hP1.setAt (b := w.heap.size) hqb0 0 (.bool true)).setAt (b := w.heap.size) hqb0 1 (.slice qx m qc)).setAt (b := w.heap.size) hqb0 2 (.int .i64 v.ref)).setAt (b := w.heap.size) hqb0 3 (.int .i64 v.str))
    have G := below_setCell (below_setCell (below_setCell (below_setCell g3 (Nat.le_refl w.heap.size) 0 (.bool true)) (Nat.le_refl w.heap.size) 1 (.slice qx m qc)) (Nat.le_refl w.heap.size) 2 (.int .i64 v.ref)) (Nat.le_refl w.heap.size) 3 (.int .i64 v.str)
    clear hsr hP1 hqb0 hqb'
    go_wp2_with fail
    try simp only [Exit.inBlock, Exit.then]
    refine bodyPost_ret (by simp [results, Try.results55, go_sem, q0, q1, q2, q3]; try rfl) rfl ?_
    exact ⟨v, qx, qc, by rw [HSR.out, HM.out], HV.out, HP4.out, G⟩
  | false =>
    rw [hsr] at x0 X1
    have HSR := Lib.hid hsr
    have X5 : ((W4.setCell ⟨w.heap.size + 1, 2, none⟩ (.int .i64 (-1))).setCell ⟨w.heap.size + 1, 3, none⟩ (.int .i64 16)).heap[w.heap.size + 1]? = some (.cells #[.bool false, .slice qx m qc, .int .i64 (-1), .int .i64 16] 48) := heap_set (heap_set X1 2 _) 3 _
    have Y5 := blk_other (blk_other X0 (b' := w.heap.size + 1) (by omega) 2 (.int .i64 (-1))) (b' := w.heap.size + 1) (by omega) 3 (.int .i64 16)
    have P5 := (hP1.setAt (b := w.heap.size + 1) hqb' 2 (.int .i64 (-1))).setAt (b := w.heap.size + 1) hqb' 3 (.int .i64 16)
    have G5 := below_setCell (below_setCell g3 (b := w.heap.size + 1) (by omega) 2 (.int .i64 (-1))) (b := w.heap.size + 1) (by omega) 3 (.int .i64 16)
    clear hsr hP1 X0 X1
    go_upto_region 8 with (fail)
    generalize (W4.setCell ⟨w.heap.size + 1, 2, none⟩ (.int .i64 (-1))).setCell ⟨w.heap.size + 1, 3, none⟩ (.int .i64 16) = W5 at *
    clear x0 x1 x2 x3 f0 f1 f2 f3 g3
    have hmp : m ≤ 1048576 := hm1
    go_loopw [6] (fun i wr => ∃ (k : Nat) (q : Int × Int), k ≤ m ∧ i = .int .i64 k ∧ Hid (q = bestP l (v.peers.take k)) ∧ wr.heap[w.heap.size + 1]? = some (.cells #[.bool false, .slice qx m qc, .int .i64 q.1, .int .i64 q.2] 48) ∧ wr.heap[w.heap.size]? = some (.cells #[.bool false, .slice none 0 0, .int .i64 0, .int .i64 0] 48) ∧ PeersOwn w.heap.size wr ⟨v, qx, qc⟩ ∧ Below w.heap.size w wr) (fun i _ => m - (intOf i).toNat)
    case atStart => exact ⟨0, (-1, 16), Nat.zero_le _, rfl, Lib.hid rfl, X5, Y5, P5, G5⟩
    case round =>
      obtain ⟨k, q, hk, rfl, HQ, X, Y, P, hb⟩ := hrel
      obtain ⟨⟨x0, x1, x2, x3⟩, f0, f1, f2, f3⟩ := four_cells X
      by_cases hlt : k < m
      · obtain ⟨p, hp'⟩ := getI (l := v.peers) (k := k) (by rw [HM.out]; exact hlt)
        obtain ⟨b', off', rfl, _, d0⟩ := (P.ints).1.at_ hp'
        try dsimp only at d0
        obtain ⟨pp0, pp1⟩ := hin p (List.mem_of_getElem? hp')
        obtain ⟨j, rfl⟩ : ∃ j : Nat, p = (j : Int) := ⟨p.toNat, by omega⟩
        obtain ⟨u, hu⟩ := getN (l := l) (k := j) (by omega)
        obtain ⟨b2, off2, pu, cu, e2, _, _, _, _, d3, _⟩ := (HH.out.next hb).at_ hu
        simp only [Option.some.injEq, Addr.mk.injEq] at e2
        obtain ⟨rfl, rfl, _⟩ := e2
        have hjn : j < n := by rw [hn.out]; omega
        have hev : strAt l (j : Int) = u.str := strAt_of (by rw [Int.toNat_natCast]; exact hu)
        have hsu := strAt_in hS pp0 pp1
        rw [hev] at hsu
        have hw : IntKind.i64.wrap (u.str + 1) = u.str + 1 := IntWalk.i64_in _ (by omega)
        have hnx := bestP_next l hp'
        rw [← HQ.out] at hnx
        unfold bestStepP at hnx
        rw [hev] at hnx
        by_cases hlo : u.str + 1 < q.2
        · rw [if_pos hlo] at hnx
          have hd : decide (u.str + 1 < q.2) = true := decide_eq_true hlo
          have HNX := Lib.hid hnx.symm
          have X' : (wr.setCell ⟨w.heap.size + 1, 3, none⟩ (.int .i64 (u.str + 1))).heap[w.heap.size + 1]? = some (.cells #[.bool false, .slice (some ⟨b', off', none⟩) m qc, .int .i64 q.1, .int .i64 (u.str + 1)] 48) := heap_set X 3 _
          have Y' := blk_other Y (b' := w.heap.size + 1) (by omega) 3 (.int .i64 (u.str + 1))
          have P' := P.setAt (b := w.heap.size + 1) hqb' 3 (.int .i64 (u.str + 1))
          have G' := below_setCell hb (b := w.heap.size + 1) (by omega) 3 (.int .i64 (u.str + 1))
          have HP' := Lib.hid hp'
          clear hnx hlo hp' hu hev X Y P
          go_upto_region 13 with (fail)
          generalize wr.setCell ⟨w.heap.size + 1, 3, none⟩ (.int .i64 (u.str + 1)) = W6 at *
          clear x0 x1 x2 x3 f0 f1 f2 f3 d0 d3
          obtain ⟨⟨x0, x1, x2, x3⟩, f0, f1, f2, f3⟩ := four_cells X'
          obtain ⟨b3, off3, e3, _, d0⟩ := (P'.ints).1.at_ HP'.out
          simp only [Option.some.injEq, Addr.mk.injEq] at e3
          obtain ⟨rfl, rfl, _⟩ := e3
          try dsimp only at d0
          have X'' : (W6.setCell ⟨w.heap.size + 1, 2, none⟩ (.int .i64 (j : Int))).heap[w.heap.size + 1]? = some (.cells #[.bool false, .slice (some ⟨b', off', none⟩) m qc, .int .i64 (j : Int), .int .i64 (u.str + 1)] 48) := heap_set X' 2 _
          have Y'' := blk_other Y' (b' := w.heap.size + 1) (by omega) 2 (.int .i64 (j : Int))
          have P'' := P'.setAt (b := w.heap.size + 1) hqb' 2 (.int .i64 (j : Int))
          have G'' := below_setCell G' (b := w.heap.size + 1) (by omega) 2 (.int .i64 (j : Int))
          clear X' Y' P' G'
          go_wp2_with fail
          go_roundw
          case rel => exact ⟨k + 1, ((j : Int), u.str + 1), by omega, by go_num, HNX, X'', Y'', P'', G''⟩
          case measure => simp [intOf]; omega
        · rw [if_neg hlo] at hnx
          have hd : decide (u.str + 1 < q.2) = false := decide_eq_false hlo
          have HNX := Lib.hid hnx.symm
          clear hnx hlo hp' hu hev
          go_wp2_with fail
          go_roundw
          case rel => exact ⟨k + 1, q, by omega, by go_num, HNX, X, Y, P, hb⟩
          case measure => simp [intOf]; omega
      · have HE : Hid (q = bestP l v.peers) := Lib.hid (by rw [HQ.out, show k = m by omega, ← HM.out, List.take_length])
        have HV : Hid ((⟨false, v.peers, q.1, q.2⟩ : Nd) = tickNd l v) := Lib.hid (by unfold tickNd; rw [HSR.out, HE.out]; rfl)
        obtain ⟨⟨y0, y1, y2, y3⟩, e0, e1, e2, e3⟩ := four_cells Y
        have V := four_put Y (.bool false) (.slice qx m qc) (.int .i64 q.1) (.int .i64 q.2)
        obtain ⟨⟨q0, q1, q2, q3⟩, _⟩ := four_cells V
        have HP4 := Lib.hid (((((P.setAt (b := w.heap.size) hqb0 0 (.bool false)).setAt (b := w.heap.size) hqb0 1 (.slice qx m qc)).setAt (b := w.heap.size) hqb0 2 (.int .i64 q.1)).setAt (b := w.heap.size) hqb0 3 (.int .i64 q.2)).as_ (u := ⟨false, v.peers, q.1, q.2⟩) rfl)
        have G := below_setCell (below_setCell (below_setCell (below_setCell hb (Nat.le_refl w.heap.size) 0 (.bool false)) (Nat.le_refl w.heap.size) 1 (.slice qx m qc)) (Nat.le_refl w.heap.size) 2 (.int .i64 q.1)) (Nat.le_refl w.heap.size) 3 (.int .i64 q.2)
        clear P X Y
        go_wp2_with fail
        try simp only [Exit.inBlock, Exit.then]
        refine bodyPost_ret (by simp [results, Try.results55, go_sem, q0, q1, q2, q3]; try rfl) rfl ?_
        exact ⟨⟨false, v.peers, q.1, q.2⟩, qx, qc, by rw [← HM.out], HV.out, HP4.out, G⟩
set_option maxRecDepth 100000 in
set_option maxHeartbeats 8000000 in
theorem tickOf_spec (l : List Nd) (a : Int) (n : Nat) (hn : Hid (n = l.length)) (hm : n ≤ maxLen) (x : Option Addr) (cap : Nat) (w : World) (h : Nds w.heap.size w x l) (hps : ∀ i, i < l.length → PSome w x i) (hx : ∀ b off, x = some ⟨b, off, none⟩ → b < w.heap.size) :
    Calls Try.prog 25 #[.slice x n cap, .int .i64 a] w (TickPost w l a) := by
  have hmm := hm
  unfold maxLen at hm
  have B0 : Below w.heap.size w (w.alloc (.cells #[.bool false, .slice none 0 0, .int .i64 0, .int .i64 0] 48)) := below_new _ _
  have Q0 := blk_new w (.cells #[.bool false, .slice none 0 0, .int .i64 0, .int .i64 0] 48)
  have h0 := h.next B0
  have HPS0 := Lib.hid (fun i hi => (hps i hi).next B0 hx)
  have HX0 := Lib.hid (fun b off e => Nat.lt_of_lt_of_le (hx b off e) B0.size)
  have HO := Lib.hid (nodesOk_spec l n hn hmm x cap _ h0)
  have hw1 : IntKind.i64.wrap ((n : Int) - 1) = (n : Int) - 1 := IntWalk.i64_in _ (by omega)
  go_enter Try.func25, Try.ntmps25
  go_upto_region 1 with (fail)
  generalize w.alloc (.cells #[.bool false, .slice none 0 0, .int .i64 0, .int .i64 0] 48) = w0 at *
  clear h hps hx
  cases hok : nodesOk l with
  | false =>
    rw [hok] at HO
    have HV : Hid (tickOk l a = false ∧ tickR l a = zeroNd) := Lib.hid (by
      have : tickOk l a = false := by unfold tickOk; rw [hok]; rfl
      exact ⟨this, by unfold tickR; rw [this]; rfl⟩)
    clear hok
    go_wp2_with fail
    refine HO.out.mono ?_
    rintro e w1 ⟨rfl, hb1⟩
    have Q1 := blk_next hb1 Q0
    have b1 := grow_next B0 hb1
    obtain ⟨⟨x0, x1, x2, x3⟩, f0, f1, f2, f3⟩ := four_cells Q1
    have V := four_put Q1 (.bool false) (.slice none 0 0) (.int .i64 0) (.int .i64 0)
    obtain ⟨⟨q0, q1, q2, q3⟩, _⟩ := four_cells V
    have G := below_setCell (below_setCell (below_setCell (below_setCell b1 (Nat.le_refl w.heap.size) 0 (.bool false)) (Nat.le_refl w.heap.size) 1 (.slice none 0 0)) (Nat.le_refl w.heap.size) 2 (.int .i64 0)) (Nat.le_refl w.heap.size) 3 (.int .i64 0)
    go_wp2_with fail
    try simp only [Exit.inBlock, Exit.then]
    refine bodyPost_ret (by simp [results, Try.results25, go_sem, q0, q1, q2, q3]; try rfl) rfl ?_
    exact ⟨zeroNd, none, 0, by rw [HV.out.1]; rfl, HV.out.2.symm, World.ownsRow_nil _ _ _ _, G⟩
  | true =>
    rw [hok] at HO
    cases hin : inB 0 a ((l.length : Int) - 1) with
    | false =>
      have HV : Hid (tickOk l a = false ∧ tickR l a = zeroNd) := Lib.hid (by
        have : tickOk l a = false := by unfold tickOk; rw [hok, hin]; rfl
        exact ⟨this, by unfold tickR; rw [this]; rfl⟩)
      rw [← hn.out] at hin
      have HW := Lib.hid (fun W => (hin ▸ l1In_c a 0 ((n : Int) - 1) W : Calls Try.prog 43 #[.int .i64 a, .int .i64 0, .int .i64 ((n : Int) - 1)] W fun e w' => e = .returned (.bool false) ∧ W = w'))
      clear hok hin
      go_wp2_with fail
      refine HO.out.mono ?_
      rintro e w1 ⟨rfl, hb1⟩
      have Q1 := blk_next hb1 Q0
      have b1 := grow_next B0 hb1
      obtain ⟨⟨x0, x1, x2, x3⟩, f0, f1, f2, f3⟩ := four_cells Q1
      have V := four_put Q1 (.bool false) (.slice none 0 0) (.int .i64 0) (.int .i64 0)
      obtain ⟨⟨q0, q1, q2, q3⟩, _⟩ := four_cells V
      have G := below_setCell (below_setCell (below_setCell (below_setCell b1 (Nat.le_refl w.heap.size) 0 (.bool false)) (Nat.le_refl w.heap.size) 1 (.slice none 0 0)) (Nat.le_refl w.heap.size) 2 (.int .i64 0)) (Nat.le_refl w.heap.size) 3 (.int .i64 0)
      go_wp2_with fail
      refine (HW.out _).mono ?_
      rintro e w2 ⟨rfl, rfl⟩
      go_wp2_with fail
      try simp only [Exit.inBlock, Exit.then]
      refine bodyPost_ret (by simp [results, Try.results25, go_sem, q0, q1, q2, q3]; try rfl) rfl ?_
      exact ⟨zeroNd, none, 0, by rw [HV.out.1]; rfl, HV.out.2.symm, World.ownsRow_nil _ _ _ _, G⟩
    | true =>
      obtain ⟨ha0, ha1⟩ := inB_iff.1 hin
      obtain ⟨i, rfl⟩ : ∃ i : Nat, a = (i : Int) := ⟨a.toNat, by omega⟩
      have hil : i < l.length := by omega
      obtain ⟨v, hv⟩ := getN hil
      have HV : Hid (tickOk l i = true ∧ tickR l i = tickNd l v) := Lib.hid (by
        have : tickOk l i = true := by unfold tickOk; rw [hok, hin]; rfl
        refine ⟨this, ?_⟩
        unfold tickR
        rw [this, Int.toNat_natCast, hv]
        rfl)
      have hl12 := nodesOk_len hok
      have hin' := hin
      rw [← hn.out] at hin'
      have HW := Lib.hid (fun W => (hin' ▸ l1In_c i 0 ((n : Int) - 1) W : Calls Try.prog 43 #[.int .i64 i, .int .i64 0, .int .i64 ((n : Int) - 1)] W fun e w' => e = .returned (.bool true) ∧ W = w'))
      have HK := Lib.hid hok
      have HVV := Lib.hid hv
      have hn12 : n ≤ 12 := by rw [hn.out]; exact hl12
      have HIL := Lib.hid hil
      clear hok hin hin' hv ha0 ha1 hil hl12
      go_wp2_with fail
      refine HO.out.mono ?_
      rintro e w1 ⟨rfl, hb1⟩
      have Q1 := blk_next hb1 Q0
      have b1 := grow_next B0 hb1
      have h1 := h0.next hb1
      have hp1 := (HPS0.out i HIL.out).next hb1 HX0.out
      clear Q0 h0
      go_wp2_with fail
      refine (HW.out _).mono ?_
      rintro e w2 ⟨rfl, rfl⟩
      have HT := Lib.hid (l8Tick_c l (strOk_of HK.out) i v HVV.out (peers_in HK.out HVV.out) (by have := l_peers_short HK.out (List.mem_of_getElem? HVV.out); omega) n hn (by omega) x cap w1 h1 hp1)
      clear hp1 h1
      go_wp2_with fail
      refine HT.out.mono ?_
      rintro e w3 ⟨u, px, pc, rfl, hu, hpo, hb3⟩
      have Q3 := blk_next hb3 Q1
      have b3 := grow_next b1 hb3
      have hng := (Array.getElem?_eq_some_iff.1 Q1).1
      obtain ⟨⟨x0, x1, x2, x3⟩, f0, f1, f2, f3⟩ := four_cells Q3
      have V := four_put Q3 (.bool u.src) (.slice px u.peers.length pc) (.int .i64 u.ref) (.int .i64 u.str)
      obtain ⟨⟨q0, q1, q2, q3⟩, _⟩ := four_cells V
      have hk : ∀ p, (Value.slice px u.peers.length pc).ownBlock = some p → w.heap.size ≠ p := fun p hp e2 => by
        have := (hpo.lt p hp).1
        omega
      have hpo2 := ((((hpo.setAt (b := w.heap.size) hk 0 (.bool u.src)).setAt (b := w.heap.size) hk 1 (.slice px u.peers.length pc)).setAt (b := w.heap.size) hk 2 (.int .i64 u.ref)).setAt (b := w.heap.size) hk 3 (.int .i64 u.str))
      have HPO := Lib.hid (own_lowerN hpo2 (Nat.le_of_lt hng))
      have HU := Lib.hid hu
      have G := below_setCell (below_setCell (below_setCell (below_setCell b3 (Nat.le_refl w.heap.size) 0 (.bool u.src)) (Nat.le_refl w.heap.size) 1 (.slice px u.peers.length pc)) (Nat.le_refl w.heap.size) 2 (.int .i64 u.ref)) (Nat.le_refl w.heap.size) 3 (.int .i64 u.str)
      clear hpo hpo2 hk hu HT
      go_wp2_with fail
      try simp only [Exit.inBlock, Exit.then]
      refine bodyPost_ret (by simp [results, Try.results25, go_sem, q0, q1, q2, q3]; try rfl) rfl ?_
      exact ⟨u, px, pc, by rw [HV.out.1], by rw [HV.out.2, HU.out], HPO.out, G⟩
end Go.Proofs.Ytdapongofiohgaa
