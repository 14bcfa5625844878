/- The program's tick, and its TickOf. -/
import Derived.Test.YtdapongofiohgaaTickI
namespace Go.Proofs.Ytdapongofiohgaa
open Go.ChangeShapes Go.WideShapes Go.ChangeAt Go.RowKit
set_option linter.unusedVariables false
set_option linter.unusedSimpArgs false

theorem flatNp_set2 {E : List Np} {k : Nat} {e : Np} (h : E[k]? = some e) (r s : Int) :
    ((flatNp E).set (k * 4 + 2) (.int .i64 r)).set (k * 4 + 3) (.int .i64 s) = flatNp (E.set k ⟨⟨e.v.src, e.v.peers, r, s⟩, e.px, e.pc⟩) := by
  induction E generalizing k with
  | nil => simp at h
  | cons a E ih =>
    have e1 : flatNp (a :: E) = .bool a.v.src :: .slice a.px a.v.peers.length a.pc :: .int .i64 a.v.ref :: .int .i64 a.v.str :: flatNp E := rfl
    cases k with
    | zero =>
      simp at h
      subst h
      rw [e1]
      rfl
    | succ k =>
      rw [List.getElem?_cons_succ] at h
      have e2 : flatNp (a :: E.set k ⟨⟨e.v.src, e.v.peers, r, s⟩, e.px, e.pc⟩) = .bool a.v.src :: .slice a.px a.v.peers.length a.pc :: .int .i64 a.v.ref :: .int .i64 a.v.str :: flatNp (E.set k ⟨⟨e.v.src, e.v.peers, r, s⟩, e.px, e.pc⟩) := rfl
      rw [List.set_cons_succ, e2, ← ih h, e1]
      have a2 : (k + 1) * 4 + 2 = (k * 4 + 2) + 1 + 1 + 1 + 1 := by omega
      have a3 : (k + 1) * 4 + 3 = (k * 4 + 3) + 1 + 1 + 1 + 1 := by omega
      rw [a2, a3]
      simp only [List.set_cons_succ]
theorem below_setB {B : Nat} {w W : World} {b : Nat} (h : Below B w W) (hb : B ≤ b) (o : Nat) (v : Value) : Below B w (W.setCell ⟨b, o, none⟩ v) := h.setCell hb v
/-- Did the tick change something? -/
def changedNd (l : List Nd) (v : Nd) : Bool := if v.src then false else ((bestP l v.peers).1 != v.ref || (bestP l v.peers).2 != v.str)
set_option maxRecDepth 100000 in
set_option maxHeartbeats 8000000 in
theorem tickS_c (l : List Nd) (hS : StrOk l) (i : Nat) (v : Nd) (hv : l[i]? = some v) (hin : ∀ p ∈ v.peers, 0 ≤ p ∧ p < l.length) (hm1 : v.peers.length ≤ 1048576) (base s : Nat) (E : List Np) (hE : E.map Np.v = l) (hl : l.length ≤ 1000) (w : World) (h : StageAt base w s E) :
    Calls Try.prog 54 #[.pointer (some ⟨s, 0, none⟩), .int .i64 i] w fun e w' => ∃ E', e = .returned (.bool (changedNd l v)) ∧ StageAt base w' s E' ∧ E'.map Np.v = l.set i (tickNd l v) ∧ Below base w w' := by
  have hEl : E.length = l.length := by rw [← hE, List.length_map]
  have hil := (List.getElem?_eq_some_iff.1 hv).1
  obtain ⟨g, cy, hN, hg, hs, hgs, hgw, hrow, hpe⟩ := h.open_ (by omega)
  obtain ⟨e, he⟩ : ∃ e, E[i]? = some e := ⟨E[i]'(by omega), List.getElem?_eq_getElem _⟩
  have hev : e.v = v := by
    have : (E.map Np.v)[i]? = some e.v := by rw [List.getElem?_map, he]; rfl
    rw [hE, hv] at this
    exact (Option.some.inj this).symm
  obtain ⟨⟨c0, c1, c2, c3⟩, hfz⟩ := np_cells hrow he
  obtain ⟨cs, _⟩ := one_cell' hN
  have hpo := (hpe e (List.mem_of_getElem? he)).1.ints
  rw [hev] at c0 c1 c2 c3 hpo
  have hie : i < E.length := by omega
  have hie2 : (i : Int) < (E.length : Int) := by omega
  have hE1000 : E.length ≤ 1000 := by omega
  have HB := Lib.hid (bestS_c l hS v.peers hin v.peers.length (Lib.hid rfl) hm1 e.px e.pc base s E hE w h hpo.1)
  have f2 := hfz (i * 4 + 2)
  have f3 := hfz (i * 4 + 3)
  have HH := Lib.hid h
  cases hsr : v.src with
  | true =>
    rw [hsr] at c0
    have HV : Hid (changedNd l v = false ∧ tickNd l v = v) := Lib.hid ⟨by unfold changedNd; rw [hsr]; rfl, by unfold tickNd; rw [hsr]; rfl⟩
    have HS : Hid (l.set i v = l) := Lib.hid (by
      apply List.ext_getElem?
      intro j
      rw [List.getElem?_set]
      split
      · rename_i hij
        subst hij
        first | exact hv.symm | (rw [if_pos hil, hv])
      · rfl)
    clear hsr HB hN hrow hpe he hev hfz h hpo
    go_enter Try.func54, Try.ntmps54
    go_wp2_with fail
    go_returns
    exact ⟨E, by rw [HV.out.1]; rfl, HH.out, by rw [HV.out.2, HS.out]; exact hE, Below.refl _ _⟩
  | false =>
    rw [hsr] at c0
    obtain ⟨q, hq⟩ : ∃ q, bestP l v.peers = q := ⟨_, rfl⟩
    obtain ⟨b1, hb1⟩ : ∃ b, (q.1 != v.ref) = b := ⟨_, rfl⟩
    obtain ⟨b2, hb2⟩ : ∃ b, (q.2 != v.str) = b := ⟨_, rfl⟩
    have HV : Hid (changedNd l v = (b1 || b2) ∧ tickNd l v = ⟨v.src, v.peers, q.1, q.2⟩) := Lib.hid ⟨by unfold changedNd; rw [hsr, hq, hb1, hb2]; rfl, by unfold tickNd; rw [hsr, hq]; rfl⟩
    rw [hq] at HB
    have hSt : StageAt base ((w.setCell ⟨g, i * 4 + 2, none⟩ (.int .i64 q.1)).setCell ⟨g, i * 4 + 3, none⟩ (.int .i64 q.2)) s (E.set i ⟨⟨e.v.src, e.v.peers, q.1, q.2⟩, e.px, e.pc⟩) := by
      have hg1 := grownSet w g (i * 4 + 2) (.int .i64 q.1)
      have hg2 := grownSet (w.setCell ⟨g, i * 4 + 2, none⟩ (.int .i64 q.1)) g (i * 4 + 3) (.int .i64 q.2)
      refine ⟨.slice (some ⟨g, 0, none⟩) E.length cy, blk_other (blk_other hN hgs _ _) hgs _ _, hs, ?_, ?_, ?_⟩
      · have h1 := ((World.ownsRow.stored hrow (i * 4 + 2) (.int .i64 q.1)).1.stored (i * 4 + 3) (.int .i64 q.2)).1
        rw [flatNp_set2 he] at h1
        rw [List.length_set]
        exact h1
      · have hold : ∀ e0 ∈ E, PeersOwn base ((w.setCell ⟨g, i * 4 + 2, none⟩ (.int .i64 q.1)).setCell ⟨g, i * 4 + 3, none⟩ (.int .i64 q.2)) e0 ∧ ∀ p, (Value.slice e0.px e0.v.peers.length e0.pc).ownBlock = some p → (Value.slice (some ⟨g, 0, none⟩) E.length cy).ownBlock ≠ some p := fun e0 h0 => by
          have h1 := hpe e0 h0
          exact ⟨(h1.1.kept hg1 (fun p hp => h1.2 p hp)).kept hg2 (fun p hp => h1.2 p hp), h1.2⟩
        intro e0 h0
        rcases List.mem_or_eq_of_mem_set h0 with h0 | h0
        · exact hold e0 h0
        · subst h0
          exact hold e (List.mem_of_getElem? he)
      · simpa [Value.ownBlock] using hgs
    have HSt := Lib.hid hSt
    have HMap : Hid ((E.set i ⟨⟨e.v.src, e.v.peers, q.1, q.2⟩, e.px, e.pc⟩).map Np.v = l.set i ⟨v.src, v.peers, q.1, q.2⟩) := Lib.hid (by
      rw [List.map_set, hE, hev])
    have HBl : Hid (Below base w ((w.setCell ⟨g, i * 4 + 2, none⟩ (.int .i64 q.1)).setCell ⟨g, i * 4 + 3, none⟩ (.int .i64 q.2))) := Lib.hid (below_setB (below_setB (Below.refl base w) hg _ _) hg _ _)
    clear hsr hN hrow hpe he hfz h hpo hq hSt HH
    go_enter Try.func54, Try.ntmps54
    go_wp2_with fail
    refine HB.out.mono ?_
    rintro e2 w2 ⟨rfl, rfl⟩
    cases b1 with
    | true =>
      go_wp2_with fail
      go_returns
      exact ⟨_, by rw [HV.out.1]; rfl, HSt.out, by rw [HV.out.2]; exact HMap.out, HBl.out⟩
    | false =>
      go_wp2_with fail
      go_returns
      exact ⟨_, by rw [HV.out.1]; rfl, HSt.out, by rw [HV.out.2]; exact HMap.out, HBl.out⟩
def TickPost (w : World) (l : List Nd) (a : Int) : Ending → World → Prop := fun e w' => ∃ (v : Nd) (px : Option Addr) (pc : Nat), e = .returned (.tuple #[.agg #[.bool v.src, .slice px v.peers.length pc, .int .i64 v.ref, .int .i64 v.str], .bool (tickOk l a)]) ∧ v = tickR l a ∧ PeersOwn w.heap.size w' ⟨v, px, pc⟩ ∧ Below w.heap.size w w'
theorem l_peers_short {l : List Nd} (h : nodesOk l = true) {v : Nd} (hv : v ∈ l) : v.peers.length ≤ 12 := by
  obtain ⟨j, hj⟩ := List.getElem?_of_mem hv
  have hr := (nd_parts (nodesOk_at h hj)).1
  have hl := nodesOk_len h
  have key : ∀ k, k ≤ v.peers.length → (k : Int) ≤ prevOf v.peers k + 1 := by
    intro k
    induction k with
    | zero => intro _; rw [prevOf_zero]; omega
    | succ k ih =>
      intro hk
      obtain ⟨z, hz⟩ := getI (l := v.peers) (k := k) (by omega)
      have h1 := riseTo_at hr (by omega) hz
      unfold riseAt at h1
      rw [Bool.and_eq_true, decide_eq_true_eq] at h1
      rw [prevOf_next hz]
      have := ih (by omega)
      omega
  rcases Nat.eq_zero_or_pos v.peers.length with h0 | h0
  · omega
  · obtain ⟨z, hz⟩ := getI (l := v.peers) (k := v.peers.length - 1) (by omega)
    have h1 := riseTo_at hr (by omega) hz
    unfold riseAt at h1
    rw [Bool.and_eq_true, inB_iff] at h1
    have h2 := key v.peers.length (Nat.le_refl _)
    have h3 := prevOf_next hz
    rw [Nat.sub_add_cancel h0] at h3
    omega
theorem peers_in {l : List Nd} (h : nodesOk l = true) {j : Nat} {v : Nd} (hj : l[j]? = some v) : ∀ p ∈ v.peers, 0 ≤ p ∧ p < l.length := fun p hp => by
  have := peer_in (nodesOk_at h hj) hp
  omega
set_option maxRecDepth 100000 in
set_option maxHeartbeats 8000000 in
theorem tickOf_impl (l : List Nd) (a : Int) (n : Nat) (hn : Hid (n = l.length)) (hm : n ≤ maxLen) (x : Option Addr) (cap : Nat) (w : World) (h : Nds w.heap.size w x l) :
    Calls Try.prog 24 #[.slice x n cap, .int .i64 a] w (TickPost w l a) := by
  have hmm := hm
  unfold maxLen at hm
  have B0 : Below w.heap.size w (w.alloc (.cells #[.bool false, .slice none 0 0, .int .i64 0, .int .i64 0] 48)) := below_new _ _
  have Q0 := blk_new w (.cells #[.bool false, .slice none 0 0, .int .i64 0, .int .i64 0] 48)
  have h0 := h.next B0
  have HO := Lib.hid (nodesOk_impl l n hn hmm x cap _ h0)
  have hw1 : IntKind.i64.wrap ((n : Int) - 1) = (n : Int) - 1 := IntWalk.i64_in _ (by omega)
  go_enter Try.func24, Try.ntmps24
  go_upto_region 1 with (fail)
  generalize w.alloc (.cells #[.bool false, .slice none 0 0, .int .i64 0, .int .i64 0] 48) = w0 at *
  clear h
  cases hok : nodesOk l with
  | false =>
    rw [hok] at HO
    have HV : Hid (tickOk l a = false ∧ tickR l a = zeroNd) := Lib.hid (by
      have : tickOk l a = false := by unfold tickOk; rw [hok]; rfl
      exact ⟨this, by unfold tickR; rw [this]; rfl⟩)
    clear hok
    go_wp2_with fail
    refine HO.out.mono ?_
    rintro e w1 ⟨rfl, hb1⟩
    have Q1 := blk_next hb1 Q0
    have b1 := grow_next B0 hb1
    obtain ⟨⟨x0, x1, x2, x3⟩, f0, f1, f2, f3⟩ := four_cells Q1
    have V := four_put Q1 (.bool false) (.slice none 0 0) (.int .i64 0) (.int .i64 0)
    obtain ⟨⟨q0, q1, q2, q3⟩, _⟩ := four_cells V
    have G := below_setCell (below_setCell (below_setCell (below_setCell b1 (Nat.le_refl w.heap.size) 0 (.bool false)) (Nat.le_refl w.heap.size) 1 (.slice none 0 0)) (Nat.le_refl w.heap.size) 2 (.int .i64 0)) (Nat.le_refl w.heap.size) 3 (.int .i64 0)
    go_wp2_with fail
    try simp only [Exit.inBlock, Exit.then]
    refine bodyPost_ret (by simp [results, Try.results24, go_sem, q0, q1, q2, q3]; try rfl) rfl ?_
    exact ⟨zeroNd, none, 0, by rw [HV.out.1]; rfl, HV.out.2.symm, World.ownsRow_nil _ _ _ _, G⟩
  | true =>
    rw [hok] at HO
    cases hin : inB 0 a ((l.length : Int) - 1) with
    | false =>
      have HV : Hid (tickOk l a = false ∧ tickR l a = zeroNd) := Lib.hid (by
        have : tickOk l a = false := by unfold tickOk; rw [hok, hin]; rfl
        exact ⟨this, by unfold tickR; rw [this]; rfl⟩)
      rw [← hn.out] at hin
      have HW := Lib.hid (fun W => (hin ▸ within_c a 0 ((n : Int) - 1) W : Calls Try.prog 41 #[.int .i64 a, .int .i64 0, .int .i64 ((n : Int) - 1)] W fun e w' => e = .returned (.bool false) ∧ W = w'))
      clear hok hin
      go_wp2_with fail
      refine HO.out.mono ?_
      rintro e w1 ⟨rfl, hb1⟩
      have Q1 := blk_next hb1 Q0
      have b1 := grow_next B0 hb1
      obtain ⟨⟨x0, x1, x2, x3⟩, f0, f1, f2, f3⟩ := four_cells Q1
      have V := four_put Q1 (.bool false) (.slice none 0 0) (.int .i64 0) (.int .i64 0)
      obtain ⟨⟨q0, q1, q2, q3⟩, _⟩ := four_cells V
      have G := below_setCell (below_setCell (below_setCell (below_setCell b1 (Nat.le_refl w.heap.size) 0 (.bool false)) (Nat.le_refl w.heap.size) 1 (.slice none 0 0)) (Nat.le_refl w.heap.size) 2 (.int .i64 0)) (Nat.le_refl w.heap.size) 3 (.int .i64 0)
      go_wp2_with fail
      refine (HW.out _).mono ?_
      rintro e w2 ⟨rfl, rfl⟩
      go_wp2_with fail
      try simp only [Exit.inBlock, Exit.then]
      refine bodyPost_ret (by simp [results, Try.results24, go_sem, q0, q1, q2, q3]; try rfl) rfl ?_
      exact ⟨zeroNd, none, 0, by rw [HV.out.1]; rfl, HV.out.2.symm, World.ownsRow_nil _ _ _ _, G⟩
    | true =>
      obtain ⟨ha0, ha1⟩ := inB_iff.1 hin
      obtain ⟨i, rfl⟩ : ∃ i : Nat, a = (i : Int) := ⟨a.toNat, by omega⟩
      have hil : i < l.length := by omega
      obtain ⟨v, hv⟩ := getN hil
      have HV : Hid (tickOk l i = true ∧ tickR l i = tickNd l v) := Lib.hid (by
        have : tickOk l i = true := by unfold tickOk; rw [hok, hin]; rfl
        refine ⟨this, ?_⟩
        unfold tickR
        rw [this, Int.toNat_natCast, hv]
        rfl)
      have hl12 := nodesOk_len hok
      have hin' := hin
      rw [← hn.out] at hin'
      have HW := Lib.hid (fun W => (hin' ▸ within_c i 0 ((n : Int) - 1) W : Calls Try.prog 41 #[.int .i64 i, .int .i64 0, .int .i64 ((n : Int) - 1)] W fun e w' => e = .returned (.bool true) ∧ W = w'))
      have HK := Lib.hid hok
      have HVV := Lib.hid hv
      have hn12 : n ≤ 12 := by rw [hn.out]; exact hl12
      have hin2 : i < n := by rw [hn.out]; exact hil
      clear hok hin hin' hv ha0 ha1 hil hl12
      go_wp2_with fail
      refine HO.out.mono ?_
      rintro e w1 ⟨rfl, hb1⟩
      have Q1 := blk_next hb1 Q0
      have b1 := grow_next B0 hb1
      have h1 := h0.next hb1
      clear Q0 h0
      go_wp2_with fail
      refine (HW.out _).mono ?_
      rintro e w2 ⟨rfl, rfl⟩
      have HSO := Lib.hid (stageOf_c l n hn (by omega) (fun v hv => by have := l_peers_short HK.out hv; omega) x cap w1 h1)
      go_wp2_with fail
      refine HSO.out.mono ?_
      rintro e w2 ⟨s, E, rfl, hE, hSt, hb2⟩
      have Q2 := blk_next hb2 Q1
      have b2 := grow_next b1 hb2
      have HT := Lib.hid (tickS_c l (strOk_of HK.out) i v HVV.out (peers_in HK.out HVV.out) (by have := l_peers_short HK.out (List.mem_of_getElem? HVV.out); omega) w1.heap.size s E hE (by rw [← hn.out]; omega) w2 hSt)
      have hs1 := hb1.size
      have hQl := (Array.getElem?_eq_some_iff.1 Q1).1
      clear Q1 hSt HSO
      go_wp2_with fail
      refine HT.out.mono ?_
      rintro e w3 ⟨E', rfl, hSt', hE', hb3⟩
      have Q3 : w3.heap[w.heap.size]? = some (.cells #[.bool false, .slice none 0 0, .int .i64 0, .int .i64 0] 48) := (hb3.block w.heap.size hQl).trans Q2
      have b3 : Below w.heap.size w w3 := b2.trans (hb3.mono (by have := b1.size; omega))
      have hEl' : E'.length = n := by rw [hn.out]; have := congrArg List.length hE'; simpa using this
      obtain ⟨g, cy, hN, hg, _, _, _, hrow, hpe⟩ := hSt'.open_ (by omega)
      obtain ⟨e0, he0⟩ : ∃ e, E'[i]? = some e := ⟨E'[i]'(by omega), List.getElem?_eq_getElem _⟩
      have hev : e0.v = tickNd l v := by
        have : (E'.map Np.v)[i]? = some e0.v := by rw [List.getElem?_map, he0]; rfl
        rw [hE', List.getElem?_set_self (by rw [← hn.out]; exact hin2)] at this
        exact (Option.some.inj this).symm
      obtain ⟨⟨c0, c1, c2, c3⟩, _⟩ := np_cells hrow he0
      obtain ⟨cs, _⟩ := one_cell' hN
      rw [hEl'] at cs
      have hpo := (hpe e0 (List.mem_of_getElem? he0)).1
      have hng : w.heap.size < w1.heap.size := hQl
      obtain ⟨⟨x0, x1, x2, x3⟩, f0, f1, f2, f3⟩ := four_cells Q3
      have V := four_put Q3 (.bool e0.v.src) (.slice e0.px e0.v.peers.length e0.pc) (.int .i64 e0.v.ref) (.int .i64 e0.v.str)
      obtain ⟨⟨q0, q1, q2, q3⟩, _⟩ := four_cells V
      have hk : ∀ p, (Value.slice e0.px e0.v.peers.length e0.pc).ownBlock = some p → (some w.heap.size : Option Nat) ≠ some p := fun p hp e2 => by
        have := (hpo.lt p hp).1
        simp only [Option.some.injEq] at e2
        omega
      have hpo2 := ((((hpo.kept (grownSet w3 w.heap.size 0 (.bool e0.v.src)) hk).kept (grownSet _ w.heap.size 1 (.slice e0.px e0.v.peers.length e0.pc)) hk).kept (grownSet _ w.heap.size 2 (.int .i64 e0.v.ref)) hk).kept (grownSet _ w.heap.size 3 (.int .i64 e0.v.str)) hk)
      have HPO := Lib.hid (own_lowerN hpo2 (Nat.le_of_lt hng))
      have HEV := Lib.hid hev
      have G := below_setCell (below_setCell (below_setCell (below_setCell b3 (Nat.le_refl w.heap.size) 0 (.bool e0.v.src)) (Nat.le_refl w.heap.size) 1 (.slice e0.px e0.v.peers.length e0.pc)) (Nat.le_refl w.heap.size) 2 (.int .i64 e0.v.ref)) (Nat.le_refl w.heap.size) 3 (.int .i64 e0.v.str)
      clear hpo hpo2 hk hev he0 hpe hrow hN hSt' hE' hE HT
      go_wp2_with fail
      try simp only [Exit.inBlock, Exit.then]
      refine bodyPost_ret (by simp [results, Try.results24, go_sem, q0, q1, q2, q3]; try rfl) rfl ?_
      exact ⟨e0.v, e0.px, e0.pc, by rw [HV.out.1], by rw [HV.out.2, HEV.out], HPO.out, G⟩
end Go.Proofs.Ytdapongofiohgaa
