/- For every list of nodes and every place the program's TickOf answers as the reference; its argument stays as it was; its answer owns its memory. -/
import Derived.Test.YtnnhcgnagmdheaaTickS
import Derived.Test.YtnnhcgnagmdheaaNdOpen
namespace Go.Proofs.Ytnnhcgnagmdheaa
open Go.ChangeShapes Go.WideShapes Go.ChangeAt Go.RowKit
set_option linter.unusedVariables false
set_option linter.unusedSimpArgs false

theorem PeersOwn.turn {base g hi : Nat} {w w' : World} {e : Np} (h : PeersOwn base w e) (T : TurnIn g hi w w') (hout : ∀ p, (Value.slice e.px e.v.peers.length e.pc).ownBlock = some p → p < g ∨ hi ≤ p) : PeersOwn base w' e := by
  refine ⟨h.1, ?_⟩
  rcases h.2 with e1 | ⟨p, c, cur, e1, hb', hg, r⟩
  · exact .inl e1
  · exact .inr ⟨p, c, cur, e1, hb', (T.block p (Array.getElem?_eq_some_iff.1 hg).1 (hout p (by rw [e1]; rfl))).trans hg, r⟩
theorem PeersOwn.next {base : Nat} {w w' : World} {e : Np} (h : PeersOwn base w e) (hb : Below w.heap.size w w') : PeersOwn base w' e := h.kept (grown_below hb) (fun _ _ => by simp)
theorem PeersOwn.row {base : Nat} {w : World} {e : Np} (h : PeersOwn base w e) : ∃ row sz, RowIn w e.px e.v.peers.length row sz ∧ ∀ p, row = some p → (Value.slice e.px e.v.peers.length e.pc).ownBlock = some p := by
  rcases h.2 with ⟨e1, e0⟩ | ⟨p, c, cur, e1, hb', hg, hc, _, hz, _⟩
  · exact ⟨none, 0, .inl e0, fun p hp => by cases hp⟩
  · simp only [Value.slice.injEq] at e1
    refine ⟨some p, cur.size, .inr ⟨p, cur, e1.1, rfl, hg, by omega, rfl⟩, fun q hq => ?_⟩
    rw [e1.1, ← hq]
    rfl
theorem tickR_short (l : List Nd) (a : Int) : (tickR l a).peers.length ≤ 12 := by
  unfold tickR
  cases hk : tickOk l a with
  | false => simp [zeroNd]
  | true =>
    have hok : nodesOk l = true := by
      unfold tickOk at hk
      rw [Bool.and_eq_true] at hk
      exact hk.1
    simp only [if_true]
    cases hv : l[a.toNat]? with
    | none => simp [zeroNd]
    | some v =>
      have := l_peers_short hok (List.mem_of_getElem? hv)
      dsimp only
      unfold tickNd
      split <;> exact this
set_option maxHeartbeats 1000000 in
theorem markNode_c (v : Nd) (px : Option Addr) (pc : Nat) (hn : v.peers.length ≤ 1048576) (row : Option Nat) (sz : Nat) (w : World) (h : RowIn w px v.peers.length row sz) (hr : ∀ p, row = some p → p < w.heap.size) :
    Calls Try.prog 22 #[.agg #[.bool v.src, .slice px v.peers.length pc, .int .i64 v.ref, .int .i64 v.str], .int .i64 1] w fun e w' => e = .returned (.int .i64 (1 + v.peers.length)) ∧ RowHas w' px v.peers.length 1 ∧ w.grownBy w' row := by
  have Q0 := blk_new w (.cells #[.bool v.src, .slice px v.peers.length pc, .int .i64 v.ref, .int .i64 v.str] 31)
  have B0 : Below w.heap.size w (w.alloc (.cells #[.bool v.src, .slice px v.peers.length pc, .int .i64 v.ref, .int .i64 v.str] 31)) := below_new _ _
  obtain ⟨c0, c1, c2, c3⟩ := node_cells Q0
  have h0 : RowIn (w.alloc (.cells #[.bool v.src, .slice px v.peers.length pc, .int .i64 v.ref, .int .i64 v.str] 31)) px v.peers.length row sz := by
    rcases h with h | ⟨p, c, e, er, hp, hs⟩
    · exact .inl h
    · exact .inr ⟨p, c, e, er, blk_next B0 hp, hs⟩
  have HM := Lib.hid (markInts_c v.peers.length hn 1 (by omega) (by omega) px pc row sz _ h0)
  go_enter Try.func22, Try.ntmps22
  go_wp2_with fail
  refine HM.out.mono ?_
  rintro e w2 ⟨rfl, hh, _, hg⟩
  go_wp2_with fail
  go_returns
  exact ⟨rfl, hh, ⟨hg.os.trans B0.os, hg.tape.trans B0.tape, hg.output.trans B0.output, Nat.le_trans B0.size hg.size, fun k hk hne => (hg.block k (Nat.lt_of_lt_of_le hk B0.size) hne).trans (B0.block k hk)⟩⟩
set_option maxHeartbeats 1000000 in
theorem heldNode_c (v : Nd) (px : Option Addr) (pc : Nat) (hn : v.peers.length ≤ 1048576) (w : World) (h : RowHas w px v.peers.length 1) :
    Calls Try.prog 23 #[.agg #[.bool v.src, .slice px v.peers.length pc, .int .i64 v.ref, .int .i64 v.str], .int .i64 1] w fun e w' => e = .returned (.int .i64 (1 + v.peers.length)) ∧ Below w.heap.size w w' := by
  have Q0 := blk_new w (.cells #[.bool v.src, .slice px v.peers.length pc, .int .i64 v.ref, .int .i64 v.str] 31)
  have B0 : Below w.heap.size w (w.alloc (.cells #[.bool v.src, .slice px v.peers.length pc, .int .i64 v.ref, .int .i64 v.str] 31)) := below_new _ _
  obtain ⟨c0, c1, c2, c3⟩ := node_cells Q0
  have HM := Lib.hid (heldInts_c v.peers.length hn 1 (by omega) (by omega) px pc _ (h.next B0))
  have hd : decide ((1 : Int) + (v.peers.length : Int) < 0) = false := decide_eq_false (by omega)
  go_enter Try.func23, Try.ntmps23
  go_wp2_with fail
  refine HM.out.mono ?_
  rintro e w2 ⟨rfl, hb⟩
  go_wp2_with fail
  go_returns
  exact ⟨rfl, grow_next B0 hb⟩
theorem sumNs_all (l : List Nd) (hl : l.length ≤ 1048576) (hs : peersSum l ≤ 1048576) : sumNs (l.map fun v => v.peers.length) (l.map fun v => v.peers.length).length ≤ 8388000 := by
  have key : ∀ l : List Nd, sumNs (l.map fun v => v.peers.length) (l.map fun v => v.peers.length).length = peersSum l + 3 * l.length := by
    intro l
    unfold sumNs peersSum
    rw [List.take_length]
    induction l with
    | nil => rfl
    | cons a l ih =>
      simp only [List.map_cons, List.sum_cons, List.length_cons] at ih ⊢
      omega
  rw [key]
  omega
set_option maxRecDepth 100000 in
set_option maxHeartbeats 8000000 in
theorem to_walk (W : World) (x : Option Addr) (n cap : Nat) (l : List Nd) (h : Hid (n = l.length) ∧ n ≤ cap ∧ cap ≤ maxLen ∧ Nds W.heap.size W x l) (a : Int) (ha : (Lit.int .i64 a).wf = true) :
    Calls Try.prog 4 #[.slice x n cap, .int .i64 a] W fun e w' => e = .returned (.bool true) ∧ Below W.heap.size W w' := by
  obtain ⟨hn, hnc, hcm, hr⟩ := h
  have hnm : n ≤ maxLen := Nat.le_trans hnc hcm
  have HZ := Lib.hid (szNodeS_c l n hn hnm x cap W hr)
  obtain ⟨R, hR⟩ : ∃ R, tickR l a = R := ⟨_, rfl⟩
  obtain ⟨k, hk⟩ : ∃ k, tickOk l a = k := ⟨_, rfl⟩
  have hR12 : R.peers.length ≤ 12 := by rw [← hR]; exact tickR_short l a
  have hRm : R.peers.length ≤ maxLen := by unfold maxLen; omega
  have HS := Lib.hid (fun g cap (W : World) (t : NdTab n W g l) => (show Calls Try.prog 18 #[.slice (some ⟨g, 0, none⟩) n cap, .int .i64 a] W fun e w' => ∃ px pc, e = .returned (.tuple #[.agg #[.bool R.src, .slice px R.peers.length pc, .int .i64 R.ref, .int .i64 R.str], .bool k]) ∧ PeersOwn W.heap.size w' ⟨R, px, pc⟩ ∧ Below W.heap.size W w' from (tickOf_spec l a n hn hnm (some ⟨g, 0, none⟩) cap W t.nds (fun i hi => t.psome hi) (fun b off e => by simp only [Option.some.injEq, Addr.mk.injEq] at e; rw [← e.1]; exact t.lt)).mono (by
    rintro e w' ⟨v, px, pc, rfl, rfl, hp, hb⟩
    rw [hR] at hp ⊢
    exact ⟨px, pc, by rw [hk], hp, hb⟩)))
  have HI := Lib.hid (fun g cap (W : World) (t : NdTab n W g l) => (show Calls Try.prog 19 #[.slice (some ⟨g, 0, none⟩) n cap, .int .i64 a] W fun e w' => ∃ px pc, e = .returned (.tuple #[.agg #[.bool R.src, .slice px R.peers.length pc, .int .i64 R.ref, .int .i64 R.str], .bool k]) ∧ PeersOwn W.heap.size w' ⟨R, px, pc⟩ ∧ Below W.heap.size W w' from (tickOf_impl l a n hn hnm (some ⟨g, 0, none⟩) cap W t.nds).mono (by
    rintro e w' ⟨v, px, pc, rfl, rfl, hp, hb⟩
    rw [hR] at hp ⊢
    exact ⟨px, pc, by rw [hk], hp, hb⟩)))
  have HE := Lib.hid (fun x y cap cap' w h h' => eqNodeS_c l n hn hnm x y cap cap' w h h')
  have HN := Lib.hid (fun px py pc pd (w : World) b b' (h : PeersOwn b w ⟨R, px, pc⟩) (h' : PeersOwn b' w ⟨R, py, pd⟩) => eqNode_c R px py pc pd hRm w h.ints.1 h'.ints.1)
  have hkk : (k != k) = false := by cases k <;> rfl
  clear hnc hcm hnm hR hk
  go_enter Try.func4, Try.ntmps4
  go_wp2_with fail
  refine HZ.out.mono ?_
  rintro e w0 ⟨r, rfl, hz, b0⟩
  rcases hz with hz | ⟨hz, hn1, hs1⟩
  · have hd : decide (r < 0) = true := decide_eq_true hz
    go_wp2_with fail
    go_returns
    exact ⟨rfl, b0⟩
  · have hd : decide (r < 0) = false := decide_eq_false (by omega)
    have HT := Lib.hid (fun w h => toNodeS_c l n hn hn1 hs1 x cap w h)
    have HMK := Lib.hid (fun hi g cap w h => markNodeS_c (l.map fun v => v.peers.length) n (Lib.hid (by rw [List.length_map]; exact hn.out)) hn1 (sumNs_all l (by rw [← hn.out]; exact hn1) hs1) (fun q hq => by
      obtain ⟨v, hv, rfl⟩ := List.mem_map.1 hq
      obtain ⟨j, hj⟩ := List.getElem?_of_mem hv
      exact Nat.le_trans (peersSum_le hj) hs1) hi g cap w h)
    clear hz HZ
    go_wp2_with fail
    refine (HT.out _ (hr.next b0)).mono ?_
    rintro e w1 ⟨g1, rfl, t1, hg1, hb1⟩
    have b1 := grow_next b0 hb1
    go_wp2_with fail
    refine (HS.out _ _ _ t1).mono ?_
    rintro e w2 ⟨p0, c0, rfl, P0, hb2⟩
    have b2' := grow_next b1 hb2
    have B2 : Below w2.heap.size w2 (w2.alloc (.cells #[.bool R.src, .slice p0 R.peers.length c0, .int .i64 R.ref, .int .i64 R.str] 31)) := below_new _ _
    have b2 := grow_next b2' B2
    have Q2 := blk_new w2 (.cells #[.bool R.src, .slice p0 R.peers.length c0, .int .i64 R.ref, .int .i64 R.str] 31)
    have P0 := P0.next B2
    have hz2 : (w2.alloc (.cells #[.bool R.src, .slice p0 R.peers.length c0, .int .i64 R.ref, .int .i64 R.str] 31)).heap.size = w2.heap.size + 1 := World.size_alloc _ _
    have HZ2 := Lib.hid hz2
    clear hz2 t1 hb1 hb2 B2
    generalize hW2 : w2.alloc (.cells #[.bool R.src, .slice p0 R.peers.length c0, .int .i64 R.ref, .int .i64 R.str] 31) = W2 at *
    go_wp2_with fail
    refine (HT.out _ (hr.next b2)).mono ?_
    rintro e w3 ⟨g3, rfl, t3, hg3, hb3⟩
    have b3 := grow_next b2 hb3
    have Q3 := blk_next hb3 Q2
    have P03 := P0.next hb3
    have M3 := t3.mark
    have hg3l := t3.lt
    have hP0lt : ∀ p, (Value.slice p0 R.peers.length c0).ownBlock = some p → p < g3 := fun p hp => by
      have := (P0.lt p hp).2
      omega
    clear hW2 Q2 P0
    go_wp2_with fail
    refine (HI.out _ _ _ t3).mono ?_
    rintro e w4 ⟨p4, c4, rfl, P4, hb4⟩
    have b4' := grow_next b3 hb4
    have B4 : Below w4.heap.size w4 (w4.alloc (.cells #[.bool R.src, .slice p4 R.peers.length c4, .int .i64 R.ref, .int .i64 R.str] 31)) := below_new _ _
    have B34 := grow_next hb4 B4
    have b4 := grow_next b4' B4
    have Q4 := blk_next B34 Q3
    have N4 := blk_new w4 (.cells #[.bool R.src, .slice p4 R.peers.length c4, .int .i64 R.ref, .int .i64 R.str] 31)
    have P04 := P03.next B34
    have P44 := P4.next B4
    have t4 := t3.next B34
    have hP4ge : ∀ p, (Value.slice p4 R.peers.length c4).ownBlock = some p → w3.heap.size ≤ p ∧ p < w4.heap.size := fun p hp => P4.lt p hp
    have hs34 := hb4.size
    clear Q3 P03 P4 t3
    generalize hW4 : w4.alloc (.cells #[.bool R.src, .slice p4 R.peers.length c4, .int .i64 R.ref, .int .i64 R.str] 31) = W4 at *
    obtain ⟨x0, x1, x2, x3⟩ := node_cells Q4
    obtain ⟨y0, y1, y2, y3⟩ := node_cells N4
    go_wp2_with fail
    refine (HN.out _ _ _ _ _ _ _ P44 P04).mono ?_
    rintro e w5 ⟨rfl, hb5⟩
    have b5 := grow_next b4 hb5
    have B35 := grow_next B34 hb5
    have Q5 := blk_next hb5 Q4
    have N5 := blk_next hb5 N4
    have P05 := P04.next hb5
    have P45 := P44.next hb5
    have t5 := t4.next hb5
    clear hW4 x0 x1 x2 x3 y0 y1 y2 y3 Q4 N4 P04 P44 t4 B34 B4 hb4 b4'
    go_wp2_with fail
    refine (HT.out _ (hr.next b5)).mono ?_
    rintro e w6 ⟨g6, rfl, t6, _, hb6⟩
    have b6 := grow_next b5 hb6
    have t5' := t5.next hb6
    go_wp2_with fail
    refine (HE.out _ _ _ _ _ t5'.nds t6.nds).mono ?_
    rintro e w7 ⟨rfl, hb7⟩
    have b7 := grow_next b6 hb7
    have B57 := grow_next hb6 hb7
    have B37 := grow_next B35 B57
    have Q7 := blk_next B57 Q5
    have N7 := blk_next B57 N5
    have P07 := P05.next B57
    have P47 := P45.next B57
    have M7 := M3.keep (fun b _ hlt => B37.block b hlt)
    clear t5 t5' t6 Q5 N5 P05 P45 M3
    go_wp2_with fail
    refine (HMK.out _ _ _ _ M7).mono ?_
    rintro e w8 ⟨km, rfl, hkm, T8⟩
    have hW3 : W.heap.size ≤ g3 := Nat.le_trans b2.size hg3
    have b8 := TurnIn.below b7 T8 hW3 b7.size
    have Q8 := (T8.block w2.heap.size (Array.getElem?_eq_some_iff.1 Q7).1 (.inl (by have := HZ2.out; omega))).trans Q7
    have N8 := (T8.block w4.heap.size (Array.getElem?_eq_some_iff.1 N7).1 (.inr hs34)).trans N7
    have P08 := P07.turn T8 (fun p hp => .inl (hP0lt p hp))
    have P48 := P47.turn T8 (fun p hp => .inr (hP4ge p hp).1)
    obtain ⟨x0, x1, x2, x3⟩ := node_cells Q8
    obtain ⟨y0, y1, y2, y3⟩ := node_cells N8
    have hdk : decide (km < 0) = false := decide_eq_false (by omega)
    clear Q7 N7 P07 P47 M7
    go_wp2_with fail
    refine (HN.out _ _ _ _ _ _ _ P48 P08).mono ?_
    rintro e w9 ⟨rfl, hb9⟩
    have b9 := grow_next b8 hb9
    have Q9 := blk_next hb9 Q8
    have N9 := blk_next hb9 N8
    have P09 := P08.next hb9
    have P49 := P48.next hb9
    obtain ⟨y0, y1, y2, y3⟩ := node_cells N9
    obtain ⟨row, sz, hrow, hrl⟩ := P49.row
    have HMN := Lib.hid (markNode_c R p4 c4 (by omega) row sz w9 hrow (fun p hp => (P49.lt p (hrl p hp)).2))
    have hrow3 : ∀ p, row = some p → w3.heap.size ≤ p := fun p hp => (hP4ge p (hrl p hp)).1
    clear x0 x1 x2 x3 Q8 N8 P08 P48 hrow
    go_wp2_with fail
    refine HMN.out.mono ?_
    rintro e wA ⟨rfl, hA, hgA⟩
    have hg3' : W.heap.size ≤ w3.heap.size := b3.size
    have bA : Below W.heap.size W wA := b9.grown hgA b9.size (fun p hp => Nat.le_trans hg3' (hrow3 p hp))
    have hq6 : (some w2.heap.size : Option Nat) ≠ row := fun e2 => by
      have := hrow3 _ e2.symm
      have := HZ2.out
      omega
    have QA := (hgA.block w2.heap.size (Array.getElem?_eq_some_iff.1 Q9).1 hq6).trans Q9
    have hn9 : (some w4.heap.size : Option Nat) ≠ row := fun e2 => by
      have := (hP4ge _ (hrl _ e2.symm)).2
      omega
    have NA := (hgA.block w4.heap.size (Array.getElem?_eq_some_iff.1 N9).1 hn9).trans N9
    have P0A := P09.kept hgA (fun p hp e2 => by
      have h1 := hP0lt p hp
      have h2 := hrow3 p e2
      omega)
    obtain ⟨y0, y1, y2, y3⟩ := node_cells NA
    have HHD := Lib.hid (fun (w : World) h => heldNode_c R p4 c4 (by omega) w h)
    have hd1 : decide ((1 : Int) + (R.peers.length : Int) < 0) = false := decide_eq_false (by omega)
    have hle : (1 : Int) ≤ 1048576 := by omega
    clear Q9 N9 P09 P49 hgA hrl hrow3 hq6 hn9 HMN
    go_wp2_with fail
    refine (HHD.out _ hA).mono ?_
    rintro e wB ⟨rfl, hbB⟩
    have bB := grow_next bA hbB
    have HHB := Lib.hid (hA.next hbB)
    have QB := blk_next hbB QA
    have NB := blk_next hbB NA
    have P0B := P0A.next hbB
    clear QA NA P0A y0 y1 y2 y3 hA
    go_wp2_with fail
    refine (HT.out _ (hr.next bB)).mono ?_
    rintro e wC ⟨gC, rfl, tC, _, hbC⟩
    have bC := grow_next bB hbC
    go_wp2_with fail
    refine (HI.out _ _ _ tC).mono ?_
    rintro e wD ⟨pD, cD, rfl, PD, hbD⟩
    have BD : Below wD.heap.size wD (wD.alloc (.cells #[.bool R.src, .slice pD R.peers.length cD, .int .i64 R.ref, .int .i64 R.str] 31)) := below_new _ _
    have BBD := grow_next (grow_next hbC hbD) BD
    have bD := grow_next bB BBD
    have QD := blk_next BBD QB
    have ND := blk_next BBD NB
    have OD := blk_new wD (.cells #[.bool R.src, .slice pD R.peers.length cD, .int .i64 R.ref, .int .i64 R.str] 31)
    have P0D := P0B.next BBD
    have PDD := PD.next BD
    have HHDD := Lib.hid (HHB.out.next BBD)
    clear QB NB P0B PD tC HHB BD hbC hbD
    generalize hWD : wD.alloc (.cells #[.bool R.src, .slice pD R.peers.length cD, .int .i64 R.ref, .int .i64 R.str] 31) = WD at *
    obtain ⟨x0, x1, x2, x3⟩ := node_cells QD
    obtain ⟨z0, z1, z2, z3⟩ := node_cells OD
    go_wp2_with fail
    refine (HN.out _ _ _ _ _ _ _ PDD P0D).mono ?_
    rintro e wE ⟨rfl, hbE⟩
    have bE := grow_next bD hbE
    obtain ⟨y0, y1, y2, y3⟩ := node_cells (blk_next hbE ND)
    have HHE := Lib.hid (HHDD.out.next hbE)
    clear QD ND OD P0D PDD HHDD x0 x1 x2 x3 z0 z1 z2 z3 hWD
    go_wp2_with fail
    refine (HHD.out _ HHE.out).mono ?_
    rintro e wF ⟨rfl, hbF⟩
    have bF := grow_next bE hbF
    go_wp2_with fail
    go_returns
    exact ⟨rfl, bF⟩

set_option maxRecDepth 100000 in
theorem to_lifted (os : Os) (started : os.Started) (H : Type) (enc : TypeId × Value → H) :
    ReturnsInHanded {} Try.checked os 4 .any (Rows.fnExactTickOfSpec.pre6 enc Try.prog Try.f4 Rows.fnExactTickOfRow.domain false) (Rows.fnExactTickOfSpec.post enc Try.prog Try.f4 false true false false) := by
  refine lifted_of_walk (C := Try.checked) own started (by as_aux_lemma => kernel_rfl) Try.func4
    (ChangeSpec.witness6 (enc := enc) (C := Try.checked) false ⟨#[], #[.slice none 0 0, .int .i64 0], []⟩ 8 (by as_aux_lemma => kernel_rfl) (by as_aux_lemma => kernel_rfl) (by as_aux_lemma => kernel_rfl) (by as_aux_lemma => kernel_rfl) (by as_aux_lemma => kernel_rfl))
    laidOut rfl (by as_aux_lemma => kernel_rfl) (by as_aux_lemma => kernel_rfl) boolType
    (fun ds h => by
      match ds, h with
      | [_, _], _ => rfl)
    ?_
  intro W base args ds q hval hA
  rw [Try.params4] at hA hval
  obtain ⟨v0, vs0, d0, ds0, p0, q0, hargs, rfl, rfl, h0, r0⟩ := trodAll_cons hA
  obtain ⟨v1, vs1, d1, ds1, p1, q1, rfl, rfl, rfl, h1, r1⟩ := trodAll_cons r0
  obtain ⟨rfl, rfl, rfl⟩ := trodAll_nil r1
  obtain rfl : args = #[v0, v1] := by cases args; simp_all
  obtain ⟨a0, len0, cap0, z0, rfl, w0⟩ := open_nds (hval 0 22 v0 rfl rfl) h0
  obtain ⟨a1, rfl, rfl, rfl, w1⟩ := open_int Try.underlying2 (hval 1 2 v1 rfl rfl) h1
  exact to_walk W a0 len0 cap0 z0 w0 a1 w1

theorem to_facts : joinedFacts Try.pinned.checked.prog 4 Try.f4 Rows.fnExactTickOfSpec Rows.fnExactTickOfRow = true :=
  facts_of (P := Try.prog) (by as_aux_lemma => kernel_rfl) laidOut mapsRow (by as_aux_lemma => kernel_rfl) (by as_aux_lemma => kernel_rfl) rfl noStops rfl noKnobs (by as_aux_lemma => kernel_rfl) (by as_aux_lemma => kernel_rfl) (by as_aux_lemma => kernel_rfl) (by as_aux_lemma => kernel_rfl) (by as_aux_lemma => kernel_rfl) (by as_aux_lemma => kernel_rfl) (by as_aux_lemma => kernel_rfl) (by as_aux_lemma => kernel_rfl) (by as_aux_lemma => kernel_rfl) rfl (by as_aux_lemma => kernel_rfl) (by as_aux_lemma => kernel_rfl) (by as_aux_lemma => kernel_rfl) keysPlain rfl heard enters finals isMake rfl rfl rfl (by as_aux_lemma => kernel_rfl) (by as_aux_lemma => kernel_rfl)

/-- The given statement. -/
theorem to_holds : Rows.FnExactTickOfSaid :=
  OpenClaim.holds_of_wide 4 Try.f4 rfl rfl rfl rfl rfl rfl rfl ⟨rfl, rfl, rfl, rfl, rfl⟩ rfl rfl rfl rfl rfl (by as_aux_lemma => kernel_rfl) Try.func4 to_facts
    (of_decide_eq_true (by as_aux_lemma => kernel_rfl)) (by unfold Func.isWrapper; first | (rw [if_pos (by decide +kernel)]; kernel_rfl) | (rw [if_neg (by decide +kernel)]; exact ⟨rfl, rfl⟩))
    (fun os started H enc _ => to_lifted os started H enc)
#print axioms to_holds
end Go.Proofs.Ytnnhcgnagmdheaa
