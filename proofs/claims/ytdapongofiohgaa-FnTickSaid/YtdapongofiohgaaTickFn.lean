/- A node follows one of its peers, of the least stratum, and stands one below it; one that is a source stays: at all drawn nodes. -/
import Derived.Test.YtdapongofiohgaaTickN
import Derived.Test.YtdapongofiohgaaSameNd
import Derived.Test.YtdapongofiohgaaNdDraws
namespace Go.Proofs.Ytdapongofiohgaa
open Go.ChangeShapes Go.WideShapes Go.ChangeAt Go.RowKit Go.Sort
set_option linter.unusedVariables false
set_option linter.unusedSimpArgs false

/-! ### What the best peer tells -/
def BestIs (l : List Nd) (S : List Int) (q : Int × Int) : Prop := (q = (-1, 16) ∨ (q.1 ∈ S ∧ q.2 = strAt l q.1 + 1 ∧ q.2 < 16)) ∧ ∀ p ∈ S, q.2 ≤ strAt l p + 1
theorem bestP_is (l : List Nd) (hS : StrOk l) (ps : List Int) : ∀ k, k ≤ ps.length → BestIs l (ps.take k) (bestP l (ps.take k)) := by
  intro k
  induction k with
  | zero => intro _; exact ⟨.inl rfl, fun p hp => by simp at hp⟩
  | succ k ih =>
    intro hk
    obtain ⟨h1, h2⟩ := ih (by omega)
    obtain ⟨p, hp⟩ := getI (l := ps) (k := k) (by omega)
    rw [bestP_next l hp]
    have e : ps.take (k + 1) = ps.take k ++ [p] := by rw [List.take_add_one, hp]; rfl
    rw [e]
    obtain ⟨q, hq⟩ : ∃ q, bestP l (ps.take k) = q := ⟨_, rfl⟩
    rw [hq] at h1 h2 ⊢
    have hq16 : q.2 ≤ 16 := by
      rcases h1 with rfl | ⟨_, _, h⟩
      · exact Int.le_refl _
      · omega
    unfold bestStepP
    split
    · rename_i hlt
      refine ⟨.inr ⟨by simp, rfl, by dsimp only; omega⟩, fun z hz => ?_⟩
      dsimp only
      rcases List.mem_append.1 hz with h | h
      · have := h2 z h; omega
      · rw [List.mem_singleton.1 h]; omega
    · rename_i hlt
      refine ⟨?_, fun z hz => ?_⟩
      · rcases h1 with h | ⟨h, h3⟩
        · exact .inl h
        · exact .inr ⟨List.mem_append_left _ h, h3⟩
      · rcases List.mem_append.1 hz with h | h
        · exact h2 z h
        · rw [List.mem_singleton.1 h]; omega
theorem bestP_all (l : List Nd) (hS : StrOk l) (ps : List Int) : BestIs l ps (bestP l ps) := by
  have := bestP_is l hS ps ps.length (Nat.le_refl _)
  rwa [List.take_length] at this
theorem np_any {base m c : Nat} {w : World} {y : Option Addr} {E : List Np} (h : w.ownsRow base 48 4 (.slice y m c) m (flatNp E)) (hm : m = E.length) (hp : PeersAll base w (.slice y m c) E) : ∀ i, i < E.length → PSome w y i ∨ PNil w y i := fun i hi => by
  obtain ⟨e, he⟩ : ∃ e, E[i]? = some e := ⟨_, List.getElem?_eq_getElem hi⟩
  rcases id h.2 with ⟨_, e0⟩ | ⟨g, c', cur, e1, hb, hg, _⟩
  · omega
  · simp only [Value.slice.injEq] at e1
    obtain ⟨rfl, _, rfl⟩ := e1
    have hc : w.cell? ⟨g, i * 4 + 1, none⟩ = some (.slice e.px e.v.peers.length e.pc) := by
      rw [World.ownsRow.cellAt h _ (by omega)]
      exact flatNp_at he rfl
    have ho := (hp e (List.mem_of_getElem? he)).1
    cases hx : e.px with
    | some ad =>
      rw [hx] at hc
      left
      intro b off e2
      simp only [Option.some.injEq, Addr.mk.injEq] at e2
      obtain ⟨rfl, rfl, _⟩ := e2
      exact ⟨ad, _, _, by rw [Nat.zero_add]; exact hc⟩
    | none =>
      right
      intro b off e2
      simp only [Option.some.injEq, Addr.mk.injEq] at e2
      obtain ⟨rfl, rfl, _⟩ := e2
      rw [Nat.zero_add, hc]
      unfold PeersOwn at ho
      rcases ho.2 with ⟨e3, _⟩ | ⟨_, _, _, e3, _⟩
      · rw [e3]
      · rw [hx] at e3
        simp at e3
theorem nds_box {w : World} {g : Nat} {u : Nd} {px : Option Addr} {pc : Nat} {T : TypeId} (h : w.heap[g]? = some (.cells #[.bool u.src, .slice px u.peers.length pc, .int .i64 u.ref, .int .i64 u.str] T)) (hp : IntsAt w.heap.size w px u.peers) (h1 : u.peers.length ≤ pc) (h2 : pc ≤ maxLen) : Nds w.heap.size w (some ⟨g, 0, none⟩) [u] := by
  obtain ⟨⟨c0, c1, c2, c3⟩, _⟩ := four_cells h
  refine .inr ⟨g, 0, rfl, (Array.getElem?_eq_some_iff.1 h).1, fun i v hi => ?_⟩
  cases i with
  | zero =>
    simp at hi
    subst hi
    exact ⟨px, pc, c0, c1, c2, c3, hp, h1, h2⟩
  | succ i => simp at hi
theorem nds_drop {B : Nat} {w : World} {b off : Nat} {l : List Nd} {a : Nat} {v : Nd} (h : Nds B w (some ⟨b, off, none⟩) l) (hv : l[a]? = some v) : Nds B w (some ⟨b, off + a * 4, none⟩) [v] := by
  obtain ⟨b2, off2, px, pc, e, hb, c⟩ := h.at_ hv
  simp only [Option.some.injEq, Addr.mk.injEq] at e
  obtain ⟨rfl, rfl, _⟩ := e
  refine .inr ⟨b, off + a * 4, rfl, hb, fun i z hi => ?_⟩
  cases i with
  | zero =>
    simp at hi
    subst hi
    exact ⟨px, pc, by simpa using c⟩
  | succ i => simp at hi
set_option maxHeartbeats 1000000 in
theorem has_c (l : List Int) (z : Int) (hz : z ∈ l) (n : Nat) (hn : Hid (n = l.length)) (hm : n ≤ 1048576) (x : Option Addr) (cap : Nat) (w : World) (h : IntsAt w.heap.size w x l) :
    Calls Try.prog 30 #[.slice x n cap, .int .i64 z] w fun e w' => e = .returned (.bool true) ∧ Below w.heap.size w w' := by
  go_enter Try.func30, Try.ntmps30
  go_wp2
  go_loop [5] (fun i => ∃ k : Nat, k ≤ n ∧ i = .int .i64 k ∧ Hid (z ∉ l.take k)) (fun i => n - (intOf i).toNat)
  case atStart => exact ⟨0, Nat.zero_le _, rfl, Lib.hid (by simp)⟩
  case round =>
    obtain ⟨k, hk, rfl, HK⟩ := hrel
    by_cases hlt : k < n
    · obtain ⟨v, hv⟩ := getI (l := l) (k := k) (by rw [← hn.out]; exact hlt)
      obtain ⟨g, off, rfl, _, c0⟩ := h.at_ hv
      have HN := Lib.hid (show v ≠ z → z ∉ l.take (k + 1) from fun hne hin => by
        rw [List.take_add_one, hv] at hin
        rcases List.mem_append.1 hin with h | h
        · exact HK.out h
        · simp at h; exact hne h.symm)
      clear hv
      by_cases he : v = z
      · have hb : (v == z) = true := by simp [he]
        clear he
        go_wp2_with fail
        go_returns
        exact ⟨rfl, Below.refl _ _⟩
      · have hb : (v == z) = false := by simp [he]
        have HN' := Lib.hid (HN.out he)
        clear he
        go_wp2_with fail
        go_round
        case rel => exact ⟨k + 1, by omega, by go_num, HN'⟩
        case measure => simp [intOf]; omega
    · exact absurd hz (by
        have := HK.out
        rwa [show k = l.length by rw [← hn.out]; omega, List.take_length] at this)
/-- A drawn list of nodes, and a number. -/
def AnyTick (w : World) : Ending → World → Prop := fun e w' =>
  ∃ (y : Option Addr) (m cap a : Nat) (E : List Np), e = .returned (.tuple #[.slice y m cap, .int .i64 a]) ∧ Hid (m = E.length) ∧ 1 ≤ m ∧ m ≤ 8 ∧ a ≤ m ∧ w'.ownsRow w.heap.size 48 4 (.slice y m cap) m (flatNp E) ∧ PeersAll w.heap.size w' (.slice y m cap) E ∧ Below w.heap.size w w'
set_option maxHeartbeats 1000000 in
theorem drawTickOf_c (x : Option Addr) (n cap : Nat) (w : World) (hc : Code w.heap.size w (.slice x n cap) n) (hn : n ≤ 1048576) : Calls Try.prog 23 #[.slice x n cap] w (AnyTick w) := by
  go_enter Try.func23, Try.ntmps23
  go_wp2_with fail
  refine (open_c x n cap _).mono ?_
  rintro e w1 ⟨rfl, rfl⟩
  go_wp2_with fail
  refine (nodes_c _ _ (rd_open hc hn)).mono ?_
  rintro e w2 ⟨y, m, c, E, rfl, hm, hm1, hm8, hr, hp, hrd, hg⟩
  have HM := Lib.hid hm
  have hsz : (w.alloc (.cells #[.slice x n cap, .int .i64 0] 89)).heap.size = w.heap.size + 1 := World.size_alloc _ _
  rw [hsz] at hr hp
  have HR := Lib.hid hr
  have HP := Lib.hid hp
  clear hm hr hp hsz
  go_wp2_with fail
  refine (below_c _ ((m : Int) + 1) m (by omega) (by omega) (by omega) _ hrd).mono ?_
  rintro e w3 ⟨a, a0, a1, rfl, hrd3, hg3⟩
  obtain ⟨a, rfl⟩ := Int.eq_ofNat_of_zero_le a0
  have hr3 := World.ownsRow.kept HR.out hg3 (by
    cases hx : (Value.slice y m c).ownBlock with
    | none => exact .inl rfl
    | some p => exact .inr (fun e2 => by
        have := (World.ownsRow.lt HR.out p hx).1
        simp only [Option.some.injEq] at e2
        omega))
  have hp3 : PeersAll (w.heap.size + 1) w3 (.slice y m c) E := fun e he => ⟨(HP.out e he).1.kept hg3 (fun p hp e2 => by
    have := ((HP.out e he).1.lt p hp).1
    simp only [Option.some.injEq] at e2
    omega), (HP.out e he).2⟩
  have HR3 := Lib.hid (own_lowerN hr3 (base' := w.heap.size) (by omega))
  have HP3 := Lib.hid (hp3.low (base' := w.heap.size) (by omega))
  clear hr3 hp3
  go_wp2_with fail
  go_returns
  exact ⟨y, m, c, a, E, rfl, HM, hm1, hm8, by omega, HR3.out, HP3.out, grown_below (below_new w _) (grown_trans hg hg3) (Nat.le_refl _)⟩
theorem tickR_short (l : List Nd) (a : Int) : (tickR l a).peers.length ≤ 12 := by
  unfold tickR
  split
  · rename_i h
    unfold tickOk at h
    rw [Bool.and_eq_true] at h
    cases hv : l[a.toNat]? with
    | none => exact Nat.zero_le _
    | some v =>
      have := l_peers_short h.1 (List.mem_of_getElem? hv)
      show (tickNd l v).peers.length ≤ 12
      unfold tickNd
      split <;> exact this
  · exact Nat.zero_le _
theorem tick_parts {l : List Nd} {a : Nat} (h : tickOk l a = true) : nodesOk l = true ∧ ∃ v, l[a]? = some v ∧ tickR l a = tickNd l v := by
  have h' := h
  unfold tickOk at h'
  rw [Bool.and_eq_true] at h'
  have hb := inB_iff.1 h'.2
  obtain ⟨v, hv⟩ := getN (l := l) (k := a) (by omega)
  refine ⟨h'.1, v, hv, ?_⟩
  unfold tickR
  rw [h, Int.toNat_natCast, hv]
  rfl
set_option maxRecDepth 100000 in
set_option maxHeartbeats 8000000 in
theorem tick_walk (w : World) (x : Option Addr) (n cap z : Nat) (hz : z = n ∧ Code w.heap.size w (.slice x n cap) n) :
    Calls Try.prog 7 #[.slice x n cap] w fun e w' => e = .returned (.bool true) ∧ Below w.heap.size w w' := by
  obtain ⟨_, hc⟩ := hz
  by_cases hbig : n ≤ 1048576
  · go_enter Try.func7, Try.ntmps7
    go_wp2_with (go_at_call 8; go_in)
    refine (drawTickOf_c x n cap _ hc hbig).mono ?_
    rintro e w1 ⟨y, m, c, a, E, rfl, hmE, hm1, hm8, ham, hrow, hpa, hb1⟩
    obtain ⟨l, hl⟩ : ∃ l, E.map Np.v = l := ⟨_, rfl⟩
    have hEl : E.length = l.length := by rw [← hl, List.length_map]
    have hm : Hid (m = l.length) := Lib.hid (by rw [← hEl]; exact hmE.out)
    have hnd : Nds w1.heap.size w1 y l := by rw [← hl]; exact nds_own hrow hmE.out hpa
    have hps : ∀ i, i < l.length → PSome w1 y i ∨ PNil w1 y i := by rw [← hEl]; exact np_any hrow hmE.out hpa
    have hx : ∀ b off, y = some ⟨b, off, none⟩ → b < w1.heap.size := fun b off e => (hrow.lt b (by rw [e]; rfl)).2
    have hmm : m ≤ maxLen := by unfold maxLen; omega
    have HPS := Lib.hid hps
    have HX := Lib.hid hx
    have HCAP := Lib.hid (show m ≤ c ∧ c ≤ maxLen by
      rcases hrow.2 with ⟨e1, e2⟩ | ⟨g, c', cur, e1, _, _, h1, h2, _⟩
      · omega
      · simp only [Value.slice.injEq] at e1
        obtain ⟨_, _, rfl⟩ := e1
        exact ⟨h1, h2⟩)
    clear hl hEl hrow hpa hps hx hmE
    go_wp2_with fail
    refine (tickOf_impl l a m hm hmm y c _ hnd).mono ?_
    rintro e w2 ⟨u, pu, cu, rfl, hu, hpo, hb2⟩
    have n2 := hnd.next hb2
    have g2 := grow_next hb1 hb2
    have HI2 := Lib.hid hpo.ints
    have ps2 := fun i hi => pany_next (HPS.out i hi) hb2 HX.out
    have hx2 : ∀ b off, y = some ⟨b, off, none⟩ → b < w2.heap.size := fun b off e => Nat.lt_of_lt_of_le (HX.out b off e) hb2.size
    clear hpo hnd HPS HX hb1 hb2
    have Z3 := blk_new w2 (.cells #[.bool u.src, .slice pu u.peers.length cu, .int .i64 u.ref, .int .i64 u.str] 48)
    have B2 := below_new w2 (.cells #[.bool u.src, .slice pu u.peers.length cu, .int .i64 u.ref, .int .i64 u.str] 48)
    obtain ⟨o, ho⟩ : ∃ o, tickOk l a = o := ⟨_, rfl⟩
    have HO := Lib.hid ho
    have HU := Lib.hid hu
    have HTS := Lib.hid (tickOf_spec2 l a m hm hmm y c _ (n2.next B2) (fun i hi => pany_next (ps2 i hi) B2 hx2) (fun b off e => Nat.lt_of_lt_of_le (hx2 b off e) B2.size))
    unfold TickPost at HTS
    rw [ho] at HTS ⊢
    have i3 := HI2.out.1.next B2
    have n3 := n2.next B2
    have g3 := grow_next g2 B2
    clear ho hu ps2 hx2 n2 g2
    go_wp2_with fail
    generalize w2.alloc (.cells #[.bool u.src, .slice pu u.peers.length cu, .int .i64 u.ref, .int .i64 u.str] 48) = w3 at *
    refine HTS.out.mono ?_
    rintro e w4 ⟨u', pv, cv, rfl, hu', hpo, hb4⟩
    obtain rfl : u' = u := by rw [hu', HU.out]
    clear hu'
    have Z4 := blk_next hb4 Z3
    have i4 := i3.next hb4
    have n4 := n3.next hb4
    have g4 := grow_next g3 hb4
    have HJ4 := Lib.hid hpo.ints
    clear hpo i3 n3 g3 Z3 hb4 B2
    have Y5 := blk_new w4 (.cells #[.bool u'.src, .slice pv u'.peers.length cv, .int .i64 u'.ref, .int .i64 u'.str] 48)
    have B4 := below_new w4 (.cells #[.bool u'.src, .slice pv u'.peers.length cv, .int .i64 u'.ref, .int .i64 u'.str] 48)
    have Z5 := blk_next B4 Z4
    have i5 := i4.next B4
    have j5 := HJ4.out.1.next B4
    have n5 := n4.next B4
    have g5 := grow_next g4 B4
    clear Z4 i4 n4 g4
    go_wp2_with fail
    generalize w4.alloc (.cells #[.bool u'.src, .slice pv u'.peers.length cv, .int .i64 u'.ref, .int .i64 u'.str] 48) = w5 at *
    refine (drawNodesOk_c x n cap _ (hc.next g5) hbig).mono ?_
    rintro e w6 ⟨yx, mx, cx, lx, rfl, hmx, hmx8, hndx, hb6⟩
    have Z6 := blk_next hb6 Z5
    have Y6 := blk_next hb6 Y5
    have i6 := i5.next hb6
    have j6 := j5.next hb6
    have n6 := n5.next hb6
    have g6 := grow_next g5 hb6
    obtain ⟨q, hq⟩ : ∃ q, nodesOk lx = q := ⟨_, rfl⟩
    have hmmx : mx ≤ maxLen := by unfold maxLen; omega
    have HA := Lib.hid (fun W h => (hq ▸ nodesOk_impl lx mx hmx hmmx yx cx W h : Calls Try.prog 28 #[.slice yx mx cx] W fun e w' => e = .returned (.bool q) ∧ Below W.heap.size W w'))
    have HB := Lib.hid (fun W h => (hq ▸ nodesOk_spec lx mx hmx hmmx yx cx W h : Calls Try.prog 29 #[.slice yx mx cx] W fun e w' => e = .returned (.bool q) ∧ Below W.heap.size W w'))
    have hqq : (q != q) = false := by cases q <;> rfl
    have hqq2 : (q == q) = true := by cases q <;> rfl
    have hpl : u'.peers.length ≤ 1048576 := by have := tickR_short l a; rw [← HU.out] at this; omega
    have HSN := Lib.hid (fun (W : World) (x y : Option Addr) (c1 c2 : Nat) (h : Nds W.heap.size W x [u']) (h' : Nds W.heap.size W y [u']) => sameNodes_c [u'] 1 (Lib.hid rfl) (by omega) (fun v hv => by rw [List.mem_singleton.1 hv]; exact hpl) x y c1 c2 W h h')
    clear hq Z5 Y5 i5 j5 n5 g5 hb6 hmmx
    obtain ⟨⟨z0, z1, z2, z3⟩, _⟩ := four_cells Z6
    obtain ⟨⟨y0, y1, y2, y3⟩, _⟩ := four_cells Y6
    have lt1 : w2.heap.size < w6.heap.size := (Array.getElem?_eq_some_iff.1 Z6).1
    have lt2 : w4.heap.size < w6.heap.size := (Array.getElem?_eq_some_iff.1 Y6).1
    have B6 : Below w6.heap.size w6 ((w6.alloc (.cells #[.bool u'.src, .slice pu u'.peers.length cu, .int .i64 u'.ref, .int .i64 u'.str] 48)).alloc (.cells #[.bool u'.src, .slice pv u'.peers.length cv, .int .i64 u'.ref, .int .i64 u'.str] 48)) := by go_grown
    have P7 := blk_alloc (blk_new w6 (.cells #[.bool u'.src, .slice pu u'.peers.length cu, .int .i64 u'.ref, .int .i64 u'.str] 48)) (.cells #[.bool u'.src, .slice pv u'.peers.length cv, .int .i64 u'.ref, .int .i64 u'.str] 48)
    have Q7 := blk_new (w6.alloc (.cells #[.bool u'.src, .slice pu u'.peers.length cu, .int .i64 u'.ref, .int .i64 u'.str] 48)) (.cells #[.bool u'.src, .slice pv u'.peers.length cv, .int .i64 u'.ref, .int .i64 u'.str] 48)
    rw [World.size_alloc] at Q7
    have D7 := nds_box P7 (i6.next B6) HI2.out.2.1 HI2.out.2.2
    have E7 := nds_box Q7 (j6.next B6) HJ4.out.2.1 HJ4.out.2.2
    have HS7 := Lib.hid (HSN.out _ _ _ 1 1 D7 E7)
    clear P7 Q7 D7 E7
    have n7 := n6.next B6
    have g7 := grow_next g6 B6
    have hndx7 := hndx.next B6
    have Z7 := blk_next B6 Z6
    have Y7 := blk_next B6 Y6
    have i7 := i6.next B6
    have j7 := j6.next B6
    have hoo : (o != o) = false := by cases o <;> rfl
    have hoo2 : (o == o) = true := by cases o <;> rfl
    go_wp2_with fail
    generalize (w6.alloc (.cells #[.bool u'.src, .slice pu u'.peers.length cu, .int .i64 u'.ref, .int .i64 u'.str] 48)).alloc (.cells #[.bool u'.src, .slice pv u'.peers.length cv, .int .i64 u'.ref, .int .i64 u'.str] 48) = w7 at *
    clear z0 z1 z2 z3 y0 y1 y2 y3 Z6 Y6 n6 g6 hndx lt1 lt2
    refine HS7.out.mono ?_
    rintro e w8 ⟨rfl, hb8⟩
    go_wp2_with fail
    refine (HA.out _ (hndx7.next hb8)).mono ?_
    rintro e w9 ⟨rfl, hb9⟩
    have b79 := grow_next hb8 hb9
    go_wp2_with fail
    refine (HB.out _ (hndx7.next b79)).mono ?_
    rintro e w10 ⟨rfl, hb10⟩
    have bT := grow_next b79 hb10
    have nT := n7.next bT
    have gT := grow_next g7 bT
    have ZT := blk_next bT Z7
    have YT := blk_next bT Y7
    have iT := i7.next bT
    have jT := j7.next bT
    have ndxT := hndx7.next bT
    clear hb8 hb9 hb10 b79 bT n7 g7 Z7 Y7 i7 j7 hndx7 HS7 B6
    obtain ⟨⟨z0, z1, z2, z3⟩, _⟩ := four_cells ZT
    obtain ⟨⟨y0, y1, y2, y3⟩, _⟩ := four_cells YT
    have lt1 : w2.heap.size < w10.heap.size := (Array.getElem?_eq_some_iff.1 ZT).1
    have lt2 : w4.heap.size < w10.heap.size := (Array.getElem?_eq_some_iff.1 YT).1
    cases o with
    | false =>
      have B6 : Below w10.heap.size w10 ((w10.alloc (.cells #[.bool u'.src, .slice pu u'.peers.length cu, .int .i64 u'.ref, .int .i64 u'.str] 48)).alloc (.cells #[.bool u'.src, .slice pv u'.peers.length cv, .int .i64 u'.ref, .int .i64 u'.str] 48)) := by go_grown
      have P7 := blk_alloc (blk_new w10 (.cells #[.bool u'.src, .slice pu u'.peers.length cu, .int .i64 u'.ref, .int .i64 u'.str] 48)) (.cells #[.bool u'.src, .slice pv u'.peers.length cv, .int .i64 u'.ref, .int .i64 u'.str] 48)
      have Q7 := blk_new (w10.alloc (.cells #[.bool u'.src, .slice pu u'.peers.length cu, .int .i64 u'.ref, .int .i64 u'.str] 48)) (.cells #[.bool u'.src, .slice pv u'.peers.length cv, .int .i64 u'.ref, .int .i64 u'.str] 48)
      rw [World.size_alloc] at Q7
      have D7 := nds_box P7 (iT.next B6) HI2.out.2.1 HI2.out.2.2
      have E7 := nds_box Q7 (jT.next B6) HJ4.out.2.1 HJ4.out.2.2
      have HS7 := Lib.hid (HSN.out _ _ _ 1 1 D7 E7)
      have x7 := ndxT.next B6
      have g7 := grow_next gT B6
      clear P7 Q7 D7 E7
      go_wp2_with fail
      refine HS7.out.mono ?_
      rintro e w11 ⟨rfl, hb11⟩
      go_wp2_with fail
      refine (HA.out _ (x7.next hb11)).mono ?_
      rintro e w12 ⟨rfl, hb12⟩
      have b12 := grow_next hb11 hb12
      go_wp2_with fail
      refine (HB.out _ (x7.next b12)).mono ?_
      rintro e w13 ⟨rfl, hb13⟩
      go_wp2_with fail
      go_returns
      exact ⟨rfl, grow_next g7 (grow_next b12 hb13)⟩
    | true =>
      obtain ⟨hok, v, hv, htr⟩ := tick_parts HO.out
      have hut : u' = tickNd l v := by rw [HU.out, htr]
      have hal : a < m := by rw [hm.out]; exact (List.getElem?_eq_some_iff.1 hv).1
      have hai : (a : Int) < (m : Int) := by omega
      obtain ⟨b, off, px, pc, rfl, hbl, d0, d1, d2, d3, _⟩ := nT.at_ hv
      have ND := Lib.hid (fun (W : World) (h : Nds W.heap.size W (some ⟨b, off, none⟩) l) => nds_drop h hv)
      obtain ⟨hcap1, hcap2⟩ := HCAP.out
      unfold maxLen at hcap2
      have hac : a + 1 ≤ c := by omega
      have e1 : IntKind.i64.wrap ((a : Int) + 1) = (a : Int) + 1 := IntWalk.i64_in _ (by omega)
      have HOK := Lib.hid hok
      have HV := Lib.hid hv
      have HUT := Lib.hid hut
      clear hok hv htr hut d1 d2 d3
      cases hs : v.src with
      | true =>
        rw [hs] at d0
        have huv : u' = v := by rw [HUT.out]; unfold tickNd; rw [hs]; rfl
        have B6 : Below w10.heap.size w10 (w10.alloc (.cells #[.bool u'.src, .slice pu u'.peers.length cu, .int .i64 u'.ref, .int .i64 u'.str] 48)).drew := below_newd _ _
        have P7 := blk_newd w10 (.cells #[.bool u'.src, .slice pu u'.peers.length cu, .int .i64 u'.ref, .int .i64 u'.str] 48)
        have D7 := nds_box P7 (iT.next B6) HI2.out.2.1 HI2.out.2.2
        have E7 := ND.out _ (nT.next B6)
        rw [← huv] at E7
        have HS7 := Lib.hid (HSN.out _ _ _ 1 (c - a) D7 E7)
        have g7 := grow_next gT B6
        clear P7 D7 E7 hs huv
        go_wp2_with fail
        have s1 : (0 : Int) ≤ (a : Int) := by omega
        have s2 : (a : Int) ≤ (a : Int) + 1 := by omega
        have s3 : (a : Int) + 1 ≤ (c : Int) := by omega
        have t1 : ((a : Int) + 1).toNat = a + 1 := by omega
        have t2 : a + 1 - a = 1 := by omega
        go_region_with (go_at_call 27; (with_reducible refine HS7.out.mono ?_); rintro e w11 ⟨rfl, hb11⟩)
        all_goals
          go_wp2_with fail
          go_returns
          exact ⟨rfl, grow_next g7 hb11⟩
      | false =>
        rw [hs] at d0
        have hub : u' = ⟨v.src, v.peers, (bestP l v.peers).1, (bestP l v.peers).2⟩ := by rw [HUT.out]; unfold tickNd; rw [hs]; rfl
        have hB : BestIs l u'.peers (u'.ref, u'.str) := by rw [hub]; exact bestP_all l (strOk_of HOK.out) v.peers
        have hin : ∀ p ∈ u'.peers, 0 ≤ p ∧ p < l.length := by rw [show u'.peers = v.peers by rw [hub]]; exact peers_in HOK.out HV.out
        have HB' := Lib.hid hB
        have HIN := Lib.hid hin
        clear hub hB hin hs
        obtain ⟨k, hk⟩ : ∃ k, u'.peers.length = k := ⟨_, rfl⟩
        have HK := Lib.hid hk
        rw [hk] at ZT z1 hpl
        clear hk y0 y1 y2 y3 YT jT lt1 lt2 ndxT
        go_wp2_with fail
        go_loopw [10] (fun i wr => ∃ j : Nat, j ≤ k ∧ i = .int .i64 j ∧ Below w10.heap.size w10 wr) (fun i _ => k - (intOf i).toNat)
        case atStart => exact ⟨0, Nat.zero_le _, rfl, Below.refl _ _⟩
        case round =>
          obtain ⟨j, hj, rfl, hb⟩ := hrel
          have Zr := blk_next hb ZT
          obtain ⟨⟨x0, x1, x2, x3⟩, _⟩ := four_cells Zr
          have nr := nT.next hb
          have ir := iT.next hb
          have gr := grow_next gT hb
          clear z0 z1 z2 z3
          by_cases hlt : j < k
          · obtain ⟨p, hp⟩ := getI (l := u'.peers) (k := j) (by rw [HK.out]; exact hlt)
            obtain ⟨b', off', rfl, _, c0⟩ := ir.at_ hp
            have hpm := List.mem_of_getElem? hp
            obtain ⟨pp0, pp1⟩ := HIN.out p hpm
            have hle := HB'.out.2 p hpm
            obtain ⟨t, rfl⟩ : ∃ t : Nat, p = (t : Int) := ⟨p.toNat, by omega⟩
            obtain ⟨s, hss⟩ := getN (l := l) (k := t) (by omega)
            obtain ⟨b2, off2, ps, cs, e2, _, _, _, _, f3, _⟩ := nr.at_ hss
            simp only [Option.some.injEq, Addr.mk.injEq] at e2
            obtain ⟨rfl, rfl, _⟩ := e2
            have hst := strAt_in (strOk_of HOK.out) pp0 pp1
            have hev : strAt l (t : Int) = s.str := strAt_of (by rw [Int.toNat_natCast]; exact hss)
            rw [hev] at hle hst
            have htm : t < m := by rw [hm.out]; omega
            have htm2 : (t : Int) < (m : Int) := by omega
            have hw : IntKind.i64.wrap (s.str + 1) = s.str + 1 := IntWalk.i64_in _ (by omega)
            have hd : decide (s.str + 1 < u'.str) = false := decide_eq_false (by dsimp only at hle; omega)
            have hjk : decide ((j : Int) < (k : Int)) = true := decide_eq_true (by omega)
            clear hp hpm hss hev hle
            go_wp2_with fail
            go_quiet (fail)
            go_wp2_with fail
            go_roundw
            case rel => exact ⟨j + 1, by omega, by go_num, grow_drew hb _⟩
            case measure => simp [intOf]; omega
          · have hjk : decide ((j : Int) < (k : Int)) = false := decide_eq_false (by omega)
            have k1 := cell_regrown x1
            have k2 := cell_regrown x2
            have k3 := cell_regrown x3
            rcases HB'.out.1 with he | ⟨hmem, hstr, h16⟩
            · simp only [Prod.mk.injEq] at he
              have q1 : decide (u'.ref < 0) = true := decide_eq_true (by omega)
              have q2 : (u'.str == 16) = true := by simp [he.2]
              clear he
              go_wp2_with fail
              refine wp_region_quiet_below (by kernel_rfl) (by kernel_rfl) ?_
              repeat ((with_reducible refine wpQuiet_step (fun K hK => ?_)); go_simp; first | ((with_reducible refine hK _ ?_); clear hK K) | (rw [if_neg (by intro h; exact nomatch h)]; (with_reducible refine hK _ ?_); clear hK K) | (apply Exists.intro; (with_reducible refine ⟨fun _ => ?_, hK _ ?_⟩); (fail); clear hK K))
              with_reducible refine wpQuiet_nil ?_
              intro _ hw'
              obtain ⟨⟨dq, osq⟩, hw''⟩ := hw'
              subst hw''
              have g1 := grow_next gr (below_regrown wr dq osq)
              go_wp2_with fail
              go_returns
              exact ⟨rfl, g1⟩
            · dsimp only at hmem hstr h16
              obtain ⟨pp0, pp1⟩ := HIN.out _ hmem
              have HH := Lib.hid (fun W h => has_c u'.peers u'.ref hmem k (Lib.hid HK.out.symm) (by omega) pu cu W h)
              obtain ⟨t, ht⟩ : ∃ t : Nat, u'.ref = (t : Int) := ⟨u'.ref.toNat, by omega⟩
              obtain ⟨s, hss⟩ := getN (l := l) (k := t) (by omega)
              obtain ⟨b2, off2, ps, cs, e2, _, _, _, _, f3, _⟩ := nr.at_ hss
              simp only [Option.some.injEq, Addr.mk.injEq] at e2
              obtain ⟨rfl, rfl, _⟩ := e2
              have hst := strAt_in (strOk_of HOK.out) pp0 pp1
              have hev : strAt l u'.ref = s.str := strAt_of (by rw [ht, Int.toNat_natCast]; exact hss)
              rw [hev] at hstr hst
              have htm : t < m := by rw [hm.out]; omega
              have htm2 : (t : Int) < (m : Int) := by omega
              have hw : IntKind.i64.wrap (s.str + 1) = s.str + 1 := IntWalk.i64_in _ (by omega)
              rw [ht] at HH x2 k2
              have C1 := Lib.hid (fun d os => Calls.regrown_of (HH.out (grow (redrawn wr d) os) (ir.next (below_regrown wr d os))))
              have q1 : decide ((t : Int) < 0) = false := decide_eq_false (by omega)
              have q2 : decide ((0 : Int) ≤ (t : Int)) = true := decide_eq_true (by omega)
              have q3 : (u'.str == s.str + 1) = true := by simp [hstr]
              have q4 : decide (u'.str < 16) = true := decide_eq_true h16
              have k4 := cell_regrown f3
              clear hmem hstr h16 hev hss ht HH
              go_wp2_with fail
              refine wp_region_quiet_below (by kernel_rfl) (by kernel_rfl) ?_
              repeat ((with_reducible refine wpQuiet_step (fun K hK => ?_)); go_simp; first | ((with_reducible refine hK _ ?_); clear hK K) | (rw [if_neg (by intro h; exact nomatch h)]; (with_reducible refine hK _ ?_); clear hK K) | (apply Exists.intro; (with_reducible refine ⟨fun _ => ?_, hK _ ?_⟩); (first | with_reducible exact C1.out _ _); clear hK K))
              with_reducible refine wpQuiet_nil ?_
              intro _ hw'
              obtain ⟨⟨dq, osq⟩, hw''⟩ := hw'
              subst hw''
              have g1 := grow_next gr (below_regrown wr dq osq)
              go_wp2_with fail
              go_returns
              exact ⟨rfl, g1⟩
  · go_enter Try.func7, Try.ntmps7
    go_wp2_with (go_at_call 8; go_in)
    go_returns
    exact ⟨rfl, Below.refl _ _⟩
set_option maxRecDepth 100000 in
theorem tick_lifted (os : Os) (started : os.Started) (H : Type) (enc : TypeId × Value → H) :
    ReturnsInHanded {} Try.checked os 7 .any (Rows.fnTickSpec.pre6 enc Try.prog Try.f7 Rows.fnTickRow.domain false) (Rows.fnTickSpec.post enc Try.prog Try.f7 false true false false) := by
  refine lifted_of_walk (C := Try.checked) own started (by as_aux_lemma => kernel_rfl) Try.func7
    (ChangeSpec.witness6 (enc := enc) (C := Try.checked) false ⟨#[], #[.slice none 0 0], []⟩ 8 (by as_aux_lemma => kernel_rfl) (by as_aux_lemma => kernel_rfl) (by as_aux_lemma => kernel_rfl) (by as_aux_lemma => kernel_rfl) (by as_aux_lemma => kernel_rfl))
    laidOut rfl (by as_aux_lemma => kernel_rfl) (by as_aux_lemma => kernel_rfl) boolType
    (fun ds h => by
      match ds, h with
      | [_], _ => rfl)
    ?_
  intro W base args ds q hval hA
  rw [Try.params7] at hA hval
  obtain ⟨v0, vs0, d0, ds0, p0, q0, hargs, rfl, rfl, h0, r0⟩ := trodAll_cons hA
  obtain ⟨rfl, rfl, rfl⟩ := trodAll_nil r0
  obtain rfl : args = #[v0] := by cases args; simp_all
  obtain ⟨a0, len0, cap0, z0, rfl, w0⟩ := open_bytes Try.underlying22 Try.underlying5 (by as_aux_lemma => kernel_rfl) (hval 0 22 v0 rfl rfl) h0
  exact tick_walk W a0 len0 cap0 z0 w0

theorem tick_facts : joinedFacts Try.pinned.checked.prog 7 Try.f7 Rows.fnTickSpec Rows.fnTickRow = true :=
  facts_of (P := Try.prog) (by as_aux_lemma => kernel_rfl) laidOut mapsRow (by as_aux_lemma => kernel_rfl) (by as_aux_lemma => kernel_rfl) rfl noStops rfl noKnobs (by as_aux_lemma => kernel_rfl) (by as_aux_lemma => kernel_rfl) (by as_aux_lemma => kernel_rfl) (by as_aux_lemma => kernel_rfl) (by as_aux_lemma => kernel_rfl) (by as_aux_lemma => kernel_rfl) (by as_aux_lemma => kernel_rfl) (by as_aux_lemma => kernel_rfl) (by as_aux_lemma => kernel_rfl) rfl (by as_aux_lemma => kernel_rfl) (by as_aux_lemma => kernel_rfl) (by as_aux_lemma => kernel_rfl) keysPlain rfl heard enters finals isMake rfl rfl rfl (by as_aux_lemma => kernel_rfl) (by as_aux_lemma => kernel_rfl)

/-- The given statement. -/
theorem tick_holds : Rows.FnTickSaid :=
  OpenClaim.holds_of_wide 7 Try.f7 rfl rfl rfl rfl rfl rfl rfl ⟨rfl, rfl, rfl, rfl, rfl⟩ rfl rfl rfl rfl rfl (by as_aux_lemma => kernel_rfl) Try.func7 tick_facts
    (of_decide_eq_true (by as_aux_lemma => kernel_rfl)) (by unfold Func.isWrapper; first | (rw [if_pos (by decide +kernel)]; kernel_rfl) | (rw [if_neg (by decide +kernel)]; exact ⟨rfl, rfl⟩))
    (fun os started H enc _ => tick_lifted os started H enc)
#print axioms tick_holds
end Go.Proofs.Ytdapongofiohgaa
