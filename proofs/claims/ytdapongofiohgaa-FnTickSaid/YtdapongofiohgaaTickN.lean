/- The reference's tick at nodes whose peers may be nil; its TickOf there. -/
import Derived.Test.YtdapongofiohgaaTickS
import Derived.Laws.AppendOwnNone
namespace Go.Proofs.Ytdapongofiohgaa
open Go.ChangeShapes Go.WideShapes Go.ChangeAt Go.RowKit
set_option linter.unusedVariables false
set_option linter.unusedSimpArgs false

/-- The node at this place holds no list of peers. -/
def PNil (w : World) (x : Option Addr) (i : Nat) : Prop := ∀ b off, x = some ⟨b, off, none⟩ → w.cell? ⟨b, off + i * 4 + 1, none⟩ = some (.slice none 0 0)
theorem pany_next {w w' : World} {x : Option Addr} {i : Nat} (h : PSome w x i ∨ PNil w x i) (hb : Below w.heap.size w w') (hx : ∀ b off, x = some ⟨b, off, none⟩ → b < w.heap.size) : PSome w' x i ∨ PNil w' x i :=
  h.elim (fun h => .inl (h.next hb hx)) (fun h => .inr (fun b off e => (hb.cell (p := ⟨b, off + i * 4 + 1, none⟩) (hx b off e)).trans (h b off e)))
set_option maxRecDepth 100000 in
set_option maxHeartbeats 4000000 in
theorem l8Tick_n (l : List Nd) (i : Nat) (v : Nd) (hv : l[i]? = some v) (n : Nat) (hn : Hid (n = l.length)) (hl : n ≤ 1000) (x : Option Addr) (cap : Nat) (w : World) (h : Nds w.heap.size w x l) (hpn : PNil w x i) :
    Calls Try.prog 55 #[.slice x n cap, .int .i64 i] w fun e w' => ∃ (u : Nd) (px : Option Addr) (pc : Nat), e = .returned (.agg #[.bool u.src, .slice px u.peers.length pc, .int .i64 u.ref, .int .i64 u.str]) ∧ u = tickNd l v ∧ PeersOwn w.heap.size w' ⟨u, px, pc⟩ ∧ Below w.heap.size w w' := by
  obtain ⟨i0, hi, hz0, hz1, hz2⟩ := info_partsT infoInt'
  have HI0 := Lib.hid hi
  have HZ1 := Lib.hid hz1
  clear hi hz0 hz1 hz2
  obtain ⟨b, off, px, pc, rfl, hbl, c0, c1, c2, c3, hp, p1, p2⟩ := h.at_ hv
  have e1 := hpn b off rfl
  rw [c1] at e1
  simp only [Option.some.injEq, Value.slice.injEq] at e1
  obtain ⟨rfl, em1, rfl⟩ := e1
  have hpe : v.peers = [] := List.eq_nil_of_length_eq_zero em1
  rw [em1] at c1
  have hil : i < n := by rw [hn.out]; exact (List.getElem?_eq_some_iff.1 hv).1
  have hil2 : (i : Int) < (n : Int) := by omega
  have HPE := Lib.hid hpe
  have Z0 := blk_alloc (blk_new w (.cells #[.bool false, .slice none 0 0, .int .i64 0, .int .i64 0] 48)) (.cells #[.bool v.src, .slice none 0 0, .int .i64 v.ref, .int .i64 v.str] 48)
  have Z1 := blk_new (w.alloc (.cells #[.bool false, .slice none 0 0, .int .i64 0, .int .i64 0] 48)) (.cells #[.bool v.src, .slice none 0 0, .int .i64 v.ref, .int .i64 v.str] 48)
  rw [World.size_alloc] at Z1
  have g2 : Below w.heap.size w ((w.alloc (.cells #[.bool false, .slice none 0 0, .int .i64 0, .int .i64 0] 48)).alloc (.cells #[.bool v.src, .slice none 0 0, .int .i64 v.ref, .int .i64 v.str] 48)) := by go_grown
  have s2 : ((w.alloc (.cells #[.bool false, .slice none 0 0, .int .i64 0, .int .i64 0] 48)).alloc (.cells #[.bool v.src, .slice none 0 0, .int .i64 v.ref, .int .i64 v.str] 48)).heap.size = w.heap.size + 1 + 1 := by simp
  clear hpn p1 h em1 hpe
  go_enter Try.func55, Try.ntmps55
  go_upto_region 2 with (fail)
  generalize (w.alloc (.cells #[.bool false, .slice none 0 0, .int .i64 0, .int .i64 0] 48)).alloc (.cells #[.bool v.src, .slice none 0 0, .int .i64 v.ref, .int .i64 v.str] 48) = W2 at *
  obtain ⟨⟨x0, x1, x2, x3⟩, _⟩ := four_cells Z1
  have HO := Lib.hid (World.ownsRow_made (base := w.heap.size) (e := 2) (size := 1) W2 #[] 0 (by omega) (by simp [maxLen]) rfl)
  have B3 : Below W2.heap.size W2 (W2.alloc (.cells #[] 2)) := below_new _ _
  have hZ3 := blk_next B3 Z1
  have hY3 := blk_next B3 Z0
  obtain ⟨⟨z0, z1, z2, z3⟩, f0, f1, f2, f3⟩ := four_cells hZ3
  have G3 := grow_next g2 B3
  have HS2 := Lib.hid s2
  clear c0 c1 c2 c3 hp g2 Z0 Z1 B3 s2
  go_upto_region 3 with (at_builtin; refine wpList_append_own_none rfl _ _ 46 rfl w.heap.size 2 i0 1 Try.underlying46 HI0.out _ _ _ rfl HO.out rfl ?_)
  have X1 : ((W2.alloc (.cells #[] 2)).setCell ⟨w.heap.size + 1, 1, none⟩ (.slice (some ⟨W2.heap.size, 0, none⟩) 0 0)).heap[w.heap.size + 1]? = some (.cells #[.bool v.src, .slice (some ⟨W2.heap.size, 0, none⟩) 0 0, .int .i64 v.ref, .int .i64 v.str] 48) := heap_set hZ3 1 _
  have X0 := blk_other hY3 (b' := w.heap.size + 1) (by omega) 1 (.slice (some ⟨W2.heap.size, 0, none⟩) 0 0)
  have g3 := below_setCell G3 (b := w.heap.size + 1) (by omega) 1 (.slice (some ⟨W2.heap.size, 0, none⟩) 0 0)
  have hown : PeersOwn w.heap.size (W2.alloc (.cells #[] 2)) ⟨v, some ⟨W2.heap.size, 0, none⟩, 0⟩ := by
    unfold PeersOwn
    dsimp only
    rw [HPE.out]
    exact HO.out
  have hqb' : ∀ p, (Value.slice (some ⟨W2.heap.size, 0, none⟩) v.peers.length 0).ownBlock = some p → w.heap.size + 1 ≠ p := fun p hp => by
    simp only [Value.ownBlock, Option.some.injEq] at hp
    have := HS2.out
    omega
  have hqb0 : ∀ p, (Value.slice (some ⟨W2.heap.size, 0, none⟩) v.peers.length 0).ownBlock = some p → w.heap.size ≠ p := fun p hp => by
    simp only [Value.ownBlock, Option.some.injEq] at hp
    have := HS2.out
    omega
  have hP1 := hown.setAt (b := w.heap.size + 1) hqb' 1 (.slice (some ⟨W2.heap.size, 0, none⟩) 0 0)
  have hlen0 : v.peers.length = 0 := by rw [HPE.out]; rfl
  clear x0 x1 x2 x3 f0 f1 f2 f3 z0 z1 z2 z3 hZ3 hY3 HO G3 hown
  have HL0 := Lib.hid hlen0
  clear hlen0
  generalize hqx : (some ⟨W2.heap.size, 0, none⟩ : Option Addr) = qx at *
  generalize hW4 : (W2.alloc (.cells #[] 2)).setCell ⟨w.heap.size + 1, 1, none⟩ (.slice qx 0 0) = W4 at *
  clear hW4 HS2 hqx
  obtain ⟨⟨x0, x1, x2, x3⟩, f0, f1, f2, f3⟩ := four_cells X1
  cases hsr : v.src with
  | true =>
    rw [hsr] at x0 X1
    have HV : Hid (v = tickNd l v) := Lib.hid (by unfold tickNd; rw [hsr]; rfl)
    have HSR := Lib.hid hsr
    obtain ⟨⟨y0, y1, y2, y3⟩, e0, e1, e2, e3⟩ := four_cells X0
    have V := four_put X0 (.bool true) (.slice qx 0 0) (.int .i64 v.ref) (.int .i64 v.str)
    obtain ⟨⟨q0, q1, q2, q3⟩, _⟩ := four_cells V
    have HP4 := Lib.hid ((((hP1.setAt (b := w.heap.size) hqb0 0 (.bool true)).setAt (b := w.heap.size) hqb0 1 (.slice qx 0 0)).setAt (b := w.heap.size) hqb0 2 (.int .i64 v.ref)).setAt (b := w.heap.size) hqb0 3 (.int .i64 v.str))
    have G := below_setCell (below_setCell (below_setCell (below_setCell g3 (Nat.le_refl w.heap.size) 0 (.bool true)) (Nat.le_refl w.heap.size) 1 (.slice qx 0 0)) (Nat.le_refl w.heap.size) 2 (.int .i64 v.ref)) (Nat.le_refl w.heap.size) 3 (.int .i64 v.str)
    clear hsr hP1 hqb0 hqb'
    go_wp2_with fail
    try simp only [Exit.inBlock, Exit.then]
    refine bodyPost_ret (by simp [results, Try.results55, go_sem, q0, q1, q2, q3]; try rfl) rfl ?_
    exact ⟨v, qx, 0, by rw [HSR.out, HL0.out], HV.out, HP4.out, G⟩
  | false =>
    rw [hsr] at x0 X1
    have HV : Hid ((⟨false, v.peers, -1, 16⟩ : Nd) = tickNd l v) := Lib.hid (by unfold tickNd; rw [hsr, HPE.out]; rfl)
    have X5 : ((W4.setCell ⟨w.heap.size + 1, 2, none⟩ (.int .i64 (-1))).setCell ⟨w.heap.size + 1, 3, none⟩ (.int .i64 16)).heap[w.heap.size + 1]? = some (.cells #[.bool false, .slice qx 0 0, .int .i64 (-1), .int .i64 16] 48) := heap_set (heap_set X1 2 _) 3 _
    have Y5 := blk_other (blk_other X0 (b' := w.heap.size + 1) (by omega) 2 (.int .i64 (-1))) (b' := w.heap.size + 1) (by omega) 3 (.int .i64 16)
    have P5 := (hP1.setAt (b := w.heap.size + 1) hqb' 2 (.int .i64 (-1))).setAt (b := w.heap.size + 1) hqb' 3 (.int .i64 16)
    have G5 := below_setCell (below_setCell g3 (b := w.heap.size + 1) (by omega) 2 (.int .i64 (-1))) (b := w.heap.size + 1) (by omega) 3 (.int .i64 16)
    clear hsr hP1 X0 X1
    go_upto_region 8 with (fail)
    generalize (W4.setCell ⟨w.heap.size + 1, 2, none⟩ (.int .i64 (-1))).setCell ⟨w.heap.size + 1, 3, none⟩ (.int .i64 16) = W5 at *
    clear x0 x1 x2 x3 f0 f1 f2 f3 g3
    obtain ⟨⟨x0, x1, x2, x3⟩, f0, f1, f2, f3⟩ := four_cells X5
    obtain ⟨⟨y0, y1, y2, y3⟩, e0, e1, e2, e3⟩ := four_cells Y5
    have V := four_put Y5 (.bool false) (.slice qx 0 0) (.int .i64 (-1)) (.int .i64 16)
    obtain ⟨⟨q0, q1, q2, q3⟩, _⟩ := four_cells V
    have HP4 := Lib.hid (((((P5.setAt (b := w.heap.size) hqb0 0 (.bool false)).setAt (b := w.heap.size) hqb0 1 (.slice qx 0 0)).setAt (b := w.heap.size) hqb0 2 (.int .i64 (-1))).setAt (b := w.heap.size) hqb0 3 (.int .i64 16)).as_ (u := ⟨false, v.peers, -1, 16⟩) rfl)
    have G := below_setCell (below_setCell (below_setCell (below_setCell G5 (Nat.le_refl w.heap.size) 0 (.bool false)) (Nat.le_refl w.heap.size) 1 (.slice qx 0 0)) (Nat.le_refl w.heap.size) 2 (.int .i64 (-1))) (Nat.le_refl w.heap.size) 3 (.int .i64 16)
    clear P5 X5 Y5 hqb0 hqb'
    go_rounds 1
    go_wp2_with fail
    try simp only [Exit.inBlock, Exit.then]
    refine bodyPost_ret (by simp [results, Try.results55, go_sem, q0, q1, q2, q3]; try rfl) rfl ?_
    exact ⟨⟨false, v.peers, -1, 16⟩, qx, 0, by rw [HL0.out], HV.out, HP4.out, G⟩
theorem l8Tick_any (l : List Nd) (hS : StrOk l) (i : Nat) (v : Nd) (hv : l[i]? = some v) (hin : ∀ p ∈ v.peers, 0 ≤ p ∧ p < l.length) (hm1 : v.peers.length ≤ 1048576) (n : Nat) (hn : Hid (n = l.length)) (hl : n ≤ 1000) (x : Option Addr) (cap : Nat) (w : World) (h : Nds w.heap.size w x l) (hps : PSome w x i ∨ PNil w x i) :
    Calls Try.prog 55 #[.slice x n cap, .int .i64 i] w fun e w' => ∃ (u : Nd) (px : Option Addr) (pc : Nat), e = .returned (.agg #[.bool u.src, .slice px u.peers.length pc, .int .i64 u.ref, .int .i64 u.str]) ∧ u = tickNd l v ∧ PeersOwn w.heap.size w' ⟨u, px, pc⟩ ∧ Below w.heap.size w w' := by
  rcases hps with hps | hps
  · exact l8Tick_c l hS i v hv hin hm1 n hn hl x cap w h hps
  · exact l8Tick_n l i v hv n hn hl x cap w h hps
set_option maxRecDepth 100000 in
set_option maxHeartbeats 8000000 in
theorem tickOf_spec2 (l : List Nd) (a : Int) (n : Nat) (hn : Hid (n = l.length)) (hm : n ≤ maxLen) (x : Option Addr) (cap : Nat) (w : World) (h : Nds w.heap.size w x l) (hps : ∀ i, i < l.length → PSome w x i ∨ PNil w x i) (hx : ∀ b off, x = some ⟨b, off, none⟩ → b < w.heap.size) :
    Calls Try.prog 25 #[.slice x n cap, .int .i64 a] w (TickPost w l a) := by
  have hmm := hm
  unfold maxLen at hm
  have B0 : Below w.heap.size w (w.alloc (.cells #[.bool false, .slice none 0 0, .int .i64 0, .int .i64 0] 48)) := below_new _ _
  have Q0 := blk_new w (.cells #[.bool false, .slice none 0 0, .int .i64 0, .int .i64 0] 48)
  have h0 := h.next B0
  have HPS0 := Lib.hid (fun i hi => pany_next (hps i hi) B0 hx)
  have HX0 := Lib.hid (fun b off e => Nat.lt_of_lt_of_le (hx b off e) B0.size)
  have HO := Lib.hid (nodesOk_spec l n hn hmm x cap _ h0)
  have hw1 : IntKind.i64.wrap ((n : Int) - 1) = (n : Int) - 1 := IntWalk.i64_in _ (by omega)
  go_enter Try.func25, Try.ntmps25
  go_upto_region 1 with (fail)
  generalize w.alloc (.cells #[.bool false, .slice none 0 0, .int .i64 0, .int .i64 0] 48) = w0 at *
  clear h hps hx
  cases hok : nodesOk l with
  | false =>
    rw [hok] at HO
    have HV : Hid (tickOk l a = false ∧ tickR l a = zeroNd) := Lib.hid (by
      have : tickOk l a = false := by unfold tickOk; rw [hok]; rfl
      exact ⟨this, by unfold tickR; rw [this]; rfl⟩)
    clear hok
    go_wp2_with fail
    refine HO.out.mono ?_
    rintro e w1 ⟨rfl, hb1⟩
    have Q1 := blk_next hb1 Q0
    have b1 := grow_next B0 hb1
    obtain ⟨⟨x0, x1, x2, x3⟩, f0, f1, f2, f3⟩ := four_cells Q1
    have V := four_put Q1 (.bool false) (.slice none 0 0) (.int .i64 0) (.int .i64 0)
    obtain ⟨⟨q0, q1, q2, q3⟩, _⟩ := four_cells V
    have G := below_setCell (below_setCell (below_setCell (below_setCell b1 (Nat.le_refl w.heap.size) 0 (.bool false)) (Nat.le_refl w.heap.size) 1 (.slice none 0 0)) (Nat.le_refl w.heap.size) 2 (.int .i64 0)) (Nat.le_refl w.heap.size) 3 (.int .i64 0)
    go_wp2_with fail
    try simp only [Exit.inBlock, Exit.then]
    refine bodyPost_ret (by simp [results, Try.results25, go_sem, q0, q1, q2, q3]; try rfl) rfl ?_
    exact ⟨zeroNd, none, 0, by rw [HV.out.1]; rfl, HV.out.2.symm, World.ownsRow_nil _ _ _ _, G⟩
  | true =>
    rw [hok] at HO
    cases hin : inB 0 a ((l.length : Int) - 1) with
    | false =>
      have HV : Hid (tickOk l a = false ∧ tickR l a = zeroNd) := Lib.hid (by
        have : tickOk l a = false := by unfold tickOk; rw [hok, hin]; rfl
        exact ⟨this, by unfold tickR; rw [this]; rfl⟩)
      rw [← hn.out] at hin
      have HW := Lib.hid (fun W => (hin ▸ l1In_c a 0 ((n : Int) - 1) W : Calls Try.prog 43 #[.int .i64 a, .int .i64 0, .int .i64 ((n : Int) - 1)] W fun e w' => e = .returned (.bool false) ∧ W = w'))
      clear hok hin
      go_wp2_with fail
      refine HO.out.mono ?_
      rintro e w1 ⟨rfl, hb1⟩
      have Q1 := blk_next hb1 Q0
      have b1 := grow_next B0 hb1
      obtain ⟨⟨x0, x1, x2, x3⟩, f0, f1, f2, f3⟩ := four_cells Q1
      have V := four_put Q1 (.bool false) (.slice none 0 0) (.int .i64 0) (.int .i64 0)
      obtain ⟨⟨q0, q1, q2, q3⟩, _⟩ := four_cells V
      have G := below_setCell (below_setCell (below_setCell (below_setCell b1 (Nat.le_refl w.heap.size) 0 (.bool false)) (Nat.le_refl w.heap.size) 1 (.slice none 0 0)) (Nat.le_refl w.heap.size) 2 (.int .i64 0)) (Nat.le_refl w.heap.size) 3 (.int .i64 0)
      go_wp2_with fail
      refine (HW.out _).mono ?_
      rintro e w2 ⟨rfl, rfl⟩
      go_wp2_with fail
      try simp only [Exit.inBlock, Exit.then]
      refine bodyPost_ret (by simp [results, Try.results25, go_sem, q0, q1, q2, q3]; try rfl) rfl ?_
      exact ⟨zeroNd, none, 0, by rw [HV.out.1]; rfl, HV.out.2.symm, World.ownsRow_nil _ _ _ _, G⟩
    | true =>
      obtain ⟨ha0, ha1⟩ := inB_iff.1 hin
      obtain ⟨i, rfl⟩ : ∃ i : Nat, a = (i : Int) := ⟨a.toNat, by omega⟩
      have hil : i < l.length := by omega
      obtain ⟨v, hv⟩ := getN hil
      have HV : Hid (tickOk l i = true ∧ tickR l i = tickNd l v) := Lib.hid (by
        have : tickOk l i = true := by unfold tickOk; rw [hok, hin]; rfl
        refine ⟨this, ?_⟩
        unfold tickR
        rw [this, Int.toNat_natCast, hv]
        rfl)
      have hl12 := nodesOk_len hok
      have hin' := hin
      rw [← hn.out] at hin'
      have HW := Lib.hid (fun W => (hin' ▸ l1In_c i 0 ((n : Int) - 1) W : Calls Try.prog 43 #[.int .i64 i, .int .i64 0, .int .i64 ((n : Int) - 1)] W fun e w' => e = .returned (.bool true) ∧ W = w'))
      have HK := Lib.hid hok
      have HVV := Lib.hid hv
      have hn12 : n ≤ 12 := by rw [hn.out]; exact hl12
      have HIL := Lib.hid hil
      clear hok hin hin' hv ha0 ha1 hil hl12
      go_wp2_with fail
      refine HO.out.mono ?_
      rintro e w1 ⟨rfl, hb1⟩
      have Q1 := blk_next hb1 Q0
      have b1 := grow_next B0 hb1
      have h1 := h0.next hb1
      have hp1 := pany_next (HPS0.out i HIL.out) hb1 HX0.out
      clear Q0 h0
      go_wp2_with fail
      refine (HW.out _).mono ?_
      rintro e w2 ⟨rfl, rfl⟩
      have HT := Lib.hid (l8Tick_any l (strOk_of HK.out) i v HVV.out (peers_in HK.out HVV.out) (by have := l_peers_short HK.out (List.mem_of_getElem? HVV.out); omega) n hn (by omega) x cap w1 h1 hp1)
      clear hp1 h1
      go_wp2_with fail
      refine HT.out.mono ?_
      rintro e w3 ⟨u, px, pc, rfl, hu, hpo, hb3⟩
      have Q3 := blk_next hb3 Q1
      have b3 := grow_next b1 hb3
      have hng := (Array.getElem?_eq_some_iff.1 Q1).1
      obtain ⟨⟨x0, x1, x2, x3⟩, f0, f1, f2, f3⟩ := four_cells Q3
      have V := four_put Q3 (.bool u.src) (.slice px u.peers.length pc) (.int .i64 u.ref) (.int .i64 u.str)
      obtain ⟨⟨q0, q1, q2, q3⟩, _⟩ := four_cells V
      have hk : ∀ p, (Value.slice px u.peers.length pc).ownBlock = some p → w.heap.size ≠ p := fun p hp e2 => by
        have := (hpo.lt p hp).1
        omega
      have hpo2 := ((((hpo.setAt (b := w.heap.size) hk 0 (.bool u.src)).setAt (b := w.heap.size) hk 1 (.slice px u.peers.length pc)).setAt (b := w.heap.size) hk 2 (.int .i64 u.ref)).setAt (b := w.heap.size) hk 3 (.int .i64 u.str))
      have HPO := Lib.hid (own_lowerN hpo2 (Nat.le_of_lt hng))
      have HU := Lib.hid hu
      have G := below_setCell (below_setCell (below_setCell (below_setCell b3 (Nat.le_refl w.heap.size) 0 (.bool u.src)) (Nat.le_refl w.heap.size) 1 (.slice px u.peers.length pc)) (Nat.le_refl w.heap.size) 2 (.int .i64 u.ref)) (Nat.le_refl w.heap.size) 3 (.int .i64 u.str)
      clear hpo hpo2 hk hu HT
      go_wp2_with fail
      try simp only [Exit.inBlock, Exit.then]
      refine bodyPost_ret (by simp [results, Try.results25, go_sem, q0, q1, q2, q3]; try rfl) rfl ?_
      exact ⟨u, px, pc, by rw [HV.out.1], by rw [HV.out.2, HU.out], HPO.out, G⟩
end Go.Proofs.Ytdapongofiohgaa
