/- The reference's FilterAdd. -/
import Derived.Test.YthgamidodkkpbaaDoorFilS
import Derived.Deep.RegionLaw
namespace Go.Proofs.YthgamidodkkpbaaDoor
open Go.ChangeShapes Go.WideShapes Go.ChangeAt Go.RowKit Go.Sort
set_option linter.unusedVariables false
set_option linter.unusedSimpArgs false

theorem step_append_ownS {P : Program} {ops : Array Oper} {o : Oper} {a : Act} {w : World} {K : Act → World → Prop} {Q : Exit → Act → World → Prop} {E : Prop} (hgd : o.guard = none) (s x : Operand) (t : TypeId)
    (ho : o.op = .call { callee := .builtin .append, args := #[s, x], argTypes := #[t, t] })
    (base : Nat) (e : TypeId) (i : TypeInfo) (z : Value) (size bytes : Nat) (ht : P.underlying t = some (.slice e)) (hi : P.info? e = some i) (hz : i.zero = some z)
    (hsize : i.size = size) (hby : i.bytes = bytes) (hzs : z.cells.size = size) (hsz : 0 < size)
    (v : Value) (n : Nat) (xs : List Value) (hs : a.eval s = v) (hown : w.ownsRow base e size v n xs)
    (ad : Addr) (m c : Nat) (news : List Value) (hx : a.eval x = .slice (some ad) m c) (hl : news.length = m * size) (hnews : ∀ j u, news[j]? = some u → w.cell? (ad.add j) = some u) (h1 : ∀ u ∈ news, u.oneCell' = true)
    (h63 : n + m ≤ maxLen) (hbytes : (n + m) * bytes ≤ 140737488355328) (hbase : base ≤ w.heap.size)
    (h : ∀ v' w', w'.ownsRow base e size v' (n + m) (xs ++ news) → w.grownBy w' v.ownBlock → (v' = .slice none 0 0 ↔ v = .slice none 0 0 ∧ m = 0) → K (a.put o.dst v') w') :
    if Region.wanted o (yielded ops a.tmps) = true then Oper.wp P o a w K Q else E := by
  have hw : Region.wanted o (yielded ops a.tmps) = true := by simp [Region.wanted, hgd]
  rw [if_pos hw]
  exact wp_append_own w s x t ho base e i z size bytes ht hi hz hsize hby hzs hsz v n xs hs hown ad m c news hx hl hnews h1 h63 hbytes hbase h
theorem sms_drop {B : Nat} {W : World} {b off : Nat} {l : List Sm} (h : Sms B W (some ⟨b, off, none⟩) l) (j : Nat) : Sms B W (some ⟨b, off + j * 4, none⟩) (l.drop j) := by
  rcases h with h | ⟨b', off', e', hlt, hc⟩
  · subst h; exact .inl (by simp)
  · simp only [Option.some.injEq, Addr.mk.injEq] at e'
    obtain ⟨rfl, rfl, _⟩ := e'
    refine .inr ⟨b, off + j * 4, rfl, hlt, fun i v q z hi hq => ?_⟩
    rw [List.getElem?_drop] at hi
    have := hc (j + i) v q z hi hq
    rw [show off + j * 4 + i * 4 + q = off + (j + i) * 4 + q by omega]
    exact this
def AddPostS (w : World) (l : List Sm) (s : Sm) : Ending → World → Prop := fun e w' =>
  ∃ (y : Option Addr) (c : Nat), e = .returned (.tuple #[.slice y (addR l s).length c, .bool (addOk l s)]) ∧ (addR l s).length ≤ c ∧ c ≤ maxLen ∧ Sms w'.heap.size w' y (addR l s) ∧ (addOk l s = true → ∃ g o, y = some ⟨g, o, none⟩ ∧ w.heap.size ≤ g ∧ ∀ i, w'.frozen? ⟨g, i, none⟩ = false) ∧ Below w.heap.size w w'
theorem addR_no {l : List Sm} {s : Sm} (h : addOk l s = false) : addR l s = [] := by unfold addR; rw [h]; rfl
theorem addR_yes {l : List Sm} {s : Sm} (h : addOk l s = true) : addR l s = addV l s := by unfold addR; rw [h]; rfl
theorem cells_four {w : World} {b : Nat} {s : Sm} {T : TypeId} (h : w.heap[b]? = some (.cells #[.int .i64 s.off, .int .i64 s.delay, .int .i64 s.disp, .int .i64 s.at_] T)) : ∀ j z, s.cells[j]? = some z → w.cell? ((⟨b, 0, none⟩ : Addr).add j) = some z := by
  obtain ⟨c0, c1, c2, c3⟩ := sample_cells h
  intro j z hz
  match j, hz with
  | 0, hz => simp [Sm.cells, Sm.row] at hz; subst hz; simpa [Addr.add] using c0
  | 1, hz => simp [Sm.cells, Sm.row] at hz; subst hz; simpa [Addr.add] using c1
  | 2, hz => simp [Sm.cells, Sm.row] at hz; subst hz; simpa [Addr.add] using c2
  | 3, hz => simp [Sm.cells, Sm.row] at hz; subst hz; simpa [Addr.add] using c3
  | j + 4, hz => simp [Sm.cells, Sm.row] at hz

set_option maxRecDepth 100000 in
set_option maxHeartbeats 4000000 in
theorem filterAdd_spec (l : List Sm) (s : Sm) (n : Nat) (hn : Hid (n = l.length)) (hm : n ≤ maxLen) (b off cap : Nat) (w : World) (h : Sms w.heap.size w (some ⟨b, off, none⟩) l) :
    Calls Tryd.prog 10 #[.slice (some ⟨b, off, none⟩) n cap, .agg #[.int .i64 s.off, .int .i64 s.delay, .int .i64 s.disp, .int .i64 s.at_]] w (AddPostS w l s) := by
  have Q0 := blk_new w (.cells #[.int .i64 s.off, .int .i64 s.delay, .int .i64 s.disp, .int .i64 s.at_] 26)
  have B0 : Below w.heap.size w (w.alloc (.cells #[.int .i64 s.off, .int .i64 s.delay, .int .i64 s.disp, .int .i64 s.at_] 26)) := below_new _ _
  have h0 := h.next B0
  obtain ⟨W, hW⟩ : ∃ W, w.alloc (.cells #[.int .i64 s.off, .int .i64 s.delay, .int .i64 s.disp, .int .i64 s.at_] 26) = W := ⟨_, rfl⟩
  rw [hW] at Q0 B0 h0
  obtain ⟨c0, c1, c2, c3⟩ := sample_cells Q0
  have k0 := cell_regrown c0
  have k1 := cell_regrown c1
  have k2 := cell_regrown c2
  have k3 := cell_regrown c3
  have hFO := fun W h => filterOk_spec l n hn hm (some ⟨b, off, none⟩) cap W h
  have hno : Hid (addOk l s = false → ∀ (W : World), Below w.heap.size w W → AddPostS w l s (.returned (.tuple #[.slice none 0 0, .bool false])) W) := Lib.hid (fun h W hb => ⟨none, 0, by rw [addR_no h, h]; rfl, by rw [addR_no h]; exact Nat.le_refl _, Nat.zero_le _, by rw [addR_no h]; exact RowsAt.none_, fun h' => (by rw [h] at h'; cases h'), hb⟩)
  cases ho : okSms l with
  | false =>
    have HK := Lib.hid (show addOk l s = false by unfold addOk; rw [ho]; rfl)
    rw [ho] at hFO
    have KF := Lib.hid (fun d os => Calls.regrown_of (hFO (grow (redrawn W d) os) (h0.next (below_regrown W d os))))
    clear ho hFO c0 c1 c2 c3 Q0
    go_enter Tryd.func10, Tryd.ntmps10
    go_wp2_with fail
    refine wp_region_quiet_below (by kernel_rfl) (by kernel_rfl) ?_
    repeat ((with_reducible refine wpQuiet_step (fun K hK => ?_)); go_simp; first | ((with_reducible refine hK _ ?_); clear hK K) | (rw [if_neg (by intro h; exact nomatch h)]; (with_reducible refine hK _ ?_); clear hK K) | (apply Exists.intro; (with_reducible refine ⟨fun _ => ?_, hK _ ?_⟩); (first | with_reducible exact KF.out _ _); clear hK K))
    with_reducible refine wpQuiet_nil ?_
    intro _ hw'
    obtain ⟨⟨dq, osq⟩, hw''⟩ := hw'
    subst hw''
    have g1 := grow_next B0 (below_regrown W dq osq)
    generalize hW1 : grow (redrawn W dq) osq = W1 at *
    go_wp2_with fail
    go_returns
    exact hno.out HK.out _ g1
  | true =>
    have hle := (okSms_all ho).2
    rw [← hn.out] at hle
    rw [ho] at hFO
    have KF := Lib.hid (fun d os => Calls.regrown_of (hFO (grow (redrawn W d) os) (h0.next (below_regrown W d os))))
    clear hFO
    cases hs : s.ok with
    | false =>
      have HK := Lib.hid (show addOk l s = false by unfold addOk; rw [takesV_no hs, Bool.and_false])
      have KS := Lib.hid (fun d os => Calls.regrown_of (sampleOk_decS hs (grow (redrawn W d) os)))
      clear ho hs c0 c1 c2 c3 Q0
      go_enter Tryd.func10, Tryd.ntmps10
      go_wp2_with fail
      refine wp_region_quiet_below (by kernel_rfl) (by kernel_rfl) ?_
      repeat ((with_reducible refine wpQuiet_step (fun K hK => ?_)); go_simp; first | ((with_reducible refine hK _ ?_); clear hK K) | (rw [if_neg (by intro h; exact nomatch h)]; (with_reducible refine hK _ ?_); clear hK K) | (apply Exists.intro; (with_reducible refine ⟨fun _ => ?_, hK _ ?_⟩); (first | with_reducible exact KF.out _ _ | with_reducible exact KS.out _ _); clear hK K))
      with_reducible refine wpQuiet_nil ?_
      intro _ hw'
      obtain ⟨⟨dq, osq⟩, hw''⟩ := hw'
      subst hw''
      have g1 := grow_next B0 (below_regrown W dq osq)
      generalize hW1 : grow (redrawn W dq) osq = W1 at *
      go_wp2_with fail
      go_returns
      exact hno.out HK.out _ g1
    | true =>
      have KS := Lib.hid (fun d os => Calls.regrown_of (sampleOk_decS hs (grow (redrawn W d) os)))
      rcases Nat.eq_zero_or_pos n with hn0 | hn0
      · have hl0 : l = [] := List.eq_nil_of_length_eq_zero (by rw [← hn.out]; exact hn0)
        have hk2 : decide ((0 : Int) < (n : Int)) = false := decide_eq_false (by omega)
        have hk3 : ¬ 0 < n := by omega
        have HK := Lib.hid (show addOk l s = true by unfold addOk; rw [hl0, takesV_nil hs, ← hl0, ho]; rfl)
        have HQ0 := Lib.hid Q0
        clear ho hs c0 c1 c2 c3 Q0 hno hn0 hl0
        go_enter Tryd.func10, Tryd.ntmps10
        go_wp2_with fail
        refine wp_region_quiet_below (by kernel_rfl) (by kernel_rfl) ?_
        repeat ((with_reducible refine wpQuiet_step (fun K hK => ?_)); go_simp; first | ((with_reducible refine hK _ ?_); clear hK K) | (rw [if_neg (by intro h; exact nomatch h)]; (with_reducible refine hK _ ?_); clear hK K) | (apply Exists.intro; (with_reducible refine ⟨fun _ => ?_, hK _ ?_⟩); (first | with_reducible exact KF.out _ _ | with_reducible exact KS.out _ _); clear hK K))
        with_reducible refine wpQuiet_nil ?_
        intro _ hw'
        obtain ⟨⟨dq, osq⟩, hw''⟩ := hw'
        subst hw''
        have gW := below_regrown W dq osq
        have g1 := grow_next B0 gW
        have Q1 := blk_next gW HQ0.out
        have h1 := h0.next gW
        generalize hW1 : grow (redrawn W dq) osq = W1 at *
        clear hW1 k0 k1 k2 k3 KF KS HQ0 h0 hW
        go_wp2_with fail
        obtain ⟨i0, hi, hz0, hz1, hz2⟩ := info_partsT infoSm'
        have HI0 := Lib.hid hi
        have HZ0 := Lib.hid hz0
        have HZ1 := Lib.hid hz1
        have HZ2 := Lib.hid hz2
        clear hi hz0 hz1 hz2
        have hsz : w.heap.size ≤ W1.heap.size := g1.size
        have hwl : w.heap.size < W1.heap.size := (Array.getElem?_eq_some_iff.1 Q1).1
        have HL : Hid ((flatSm l).length = n * 4) := Lib.hid (by rw [flatSm_len, ← hn.out])
        have bA : Below W1.heap.size W1 (W1.alloc (.cells #[] 26)).drew := below_drewS (below_new _ _)
        have bB : Below W1.heap.size W1 ((W1.alloc (.cells #[] 26)).alloc (.cells #[.int .i64 s.off, .int .i64 s.delay, .int .i64 s.disp, .int .i64 s.at_] 26)).drew := below_drewS ((below_new W1 (.cells #[] 26)).alloc (below_new W1 (.cells #[] 26)).size _)
        have bC : Below W1.heap.size W1 ((W1.alloc (.cells #[.int .i64 s.off, .int .i64 s.delay, .int .i64 s.disp, .int .i64 s.at_] 26)).alloc (.cells #[] 26)).drew := below_drewS ((below_new W1 (.cells #[.int .i64 s.off, .int .i64 s.delay, .int .i64 s.disp, .int .i64 s.at_] 26)).alloc (below_new W1 (.cells #[.int .i64 s.off, .int .i64 s.delay, .int .i64 s.disp, .int .i64 s.at_] 26)).size _)
        have M0 := World.ownsRow_made (base := w.heap.size) (e := 26) (size := 4) W1 #[] 0 hsz (by simp [maxLen]) rfl
        have MA := Lib.hid M0.drew
        have MB := Lib.hid (M0.alloc (.cells #[.int .i64 s.off, .int .i64 s.delay, .int .i64 s.disp, .int .i64 s.at_] 26)).drew
        have M1 := World.ownsRow_made (base := w.heap.size) (e := 26) (size := 4) (W1.alloc (.cells #[.int .i64 s.off, .int .i64 s.delay, .int .i64 s.disp, .int .i64 s.at_] 26)) #[] 0 (by simp; omega) (by simp [maxLen]) rfl
        rw [World.size_alloc] at M1
        have MC := Lib.hid M1.drew
        have HBn : Hid (((W1.alloc (.cells #[] 26)).alloc (.cells #[.int .i64 s.off, .int .i64 s.delay, .int .i64 s.disp, .int .i64 s.at_] 26)).drew.heap[W1.heap.size + 1]? = some (.cells #[.int .i64 s.off, .int .i64 s.delay, .int .i64 s.disp, .int .i64 s.at_] 26)) := Lib.hid (by
          have := blk_new (W1.alloc (.cells #[] 26)) (.cells #[.int .i64 s.off, .int .i64 s.delay, .int .i64 s.disp, .int .i64 s.at_] 26)
          rw [World.size_alloc] at this
          exact this)
        have HCn : Hid (((W1.alloc (.cells #[.int .i64 s.off, .int .i64 s.delay, .int .i64 s.disp, .int .i64 s.at_] 26)).alloc (.cells #[] 26)).drew.heap[W1.heap.size]? = some (.cells #[.int .i64 s.off, .int .i64 s.delay, .int .i64 s.disp, .int .i64 s.at_] 26)) := Lib.hid (blk_alloc (blk_new W1 (.cells #[.int .i64 s.off, .int .i64 s.delay, .int .i64 s.disp, .int .i64 s.at_] 26)) (.cells #[] 26))
        have NA := Lib.hid (sms_news (h1.next bA))
        have NB := Lib.hid (sms_news (h1.next bB))
        have NC := Lib.hid (sms_news (h1.next bC))
        have sB : W1.heap.size + 1 < ((W1.alloc (.cells #[] 26)).alloc (.cells #[.int .i64 s.off, .int .i64 s.delay, .int .i64 s.disp, .int .i64 s.at_] 26)).drew.heap.size := by show _ < ((W1.alloc (.cells #[] 26)).alloc (.cells #[.int .i64 s.off, .int .i64 s.delay, .int .i64 s.disp, .int .i64 s.at_] 26)).heap.size; rw [World.size_alloc, World.size_alloc]; exact Nat.lt_succ_self _
        have sC : W1.heap.size < ((W1.alloc (.cells #[.int .i64 s.off, .int .i64 s.delay, .int .i64 s.disp, .int .i64 s.at_] 26)).alloc (.cells #[] 26)).drew.heap.size := by show _ < ((W1.alloc (.cells #[.int .i64 s.off, .int .i64 s.delay, .int .i64 s.disp, .int .i64 s.at_] 26)).alloc (.cells #[] 26)).heap.size; rw [World.size_alloc, World.size_alloc]; omega
        clear M0 M1
        obtain ⟨x0, x1, x2, x3⟩ := sample_cells Q1
        have HQ1 := Lib.hid Q1
        clear Q1
        go_region_law (first
          | (refine step_append_ownS rfl _ _ 24 rfl w.heap.size 26 i0 (.agg #[.int .i64 0, .int .i64 0, .int .i64 0, .int .i64 0]) 4 32 Tryd.underlying24 HI0.out HZ0.out HZ1.out HZ2.out rfl (by decide) v1 (0 + n) ([] ++ flatSm l) (by simp [Act.eval, Act.put]) (hown1.alloc _) ⟨w2.heap.size, 0, none⟩ 1 1 s.cells (by simp [Act.eval, Act.put]) rfl (cell_four_new w2 s _) (by simp [Sm.cells, Value.oneCell', Sm.row]) (by unfold maxLen; omega) (by omega) (by have := B2.size; simp; omega) ?_; intro v2 w3 hown2 hgr2 hno2)
          | (refine step_append_ownS rfl _ _ 24 rfl w.heap.size 26 i0 (.agg #[.int .i64 0, .int .i64 0, .int .i64 0, .int .i64 0]) 4 32 Tryd.underlying24 HI0.out HZ0.out HZ1.out HZ2.out rfl (by decide) v1 (0 + n) ([] ++ flatSm l) (by simp [Act.eval, Act.put]) hown1 ⟨W1.heap.size + 1, 0, none⟩ 1 1 s.cells (by simp [Act.eval, Act.put]) rfl NS (by simp [Sm.cells, Value.oneCell', Sm.row]) (by unfold maxLen; omega) (by omega) (by have := B2.size; simp; omega) ?_; intro v2 w3 hown2 hgr2 hno2)
          | (refine step_append_ownS rfl _ _ 24 rfl w.heap.size 26 i0 (.agg #[.int .i64 0, .int .i64 0, .int .i64 0, .int .i64 0]) 4 32 Tryd.underlying24 HI0.out HZ0.out HZ1.out HZ2.out rfl (by decide) v1 (0 + n) ([] ++ flatSm l) (by simp [Act.eval, Act.put]) hown1 ⟨W1.heap.size, 0, none⟩ 1 1 s.cells (by simp [Act.eval, Act.put]) rfl NS (by simp [Sm.cells, Value.oneCell', Sm.row]) (by unfold maxLen; omega) (by omega) (by have := B2.size; simp; omega) ?_; intro v2 w3 hown2 hgr2 hno2)
          | (refine step_append_ownS rfl _ _ 24 rfl w.heap.size 26 i0 (.agg #[.int .i64 0, .int .i64 0, .int .i64 0, .int .i64 0]) 4 32 Tryd.underlying24 HI0.out HZ0.out HZ1.out HZ2.out rfl (by decide) (.slice (some ⟨W1.heap.size, 0, none⟩) 0 0) 0 [] (by simp [Act.eval, Act.put]) MA.out ⟨b, off, none⟩ n cap (flatSm l) (by simp [Act.eval, Act.put]) HL.out NA.out flatSm_one (by unfold maxLen; omega) (by omega) (Nat.le_trans hsz bA.size) ?_; intro v1 w2 hown1 hgr1 hno1; have B2 := bA.grown hgr1 bA.size (fun k e => by simp only [Value.ownBlock, Option.some.injEq] at e; omega); obtain ⟨x0, x1, x2, x3⟩ := sample_cells (blk_next B2 HQ1.out))
          | (refine step_append_ownS rfl _ _ 24 rfl w.heap.size 26 i0 (.agg #[.int .i64 0, .int .i64 0, .int .i64 0, .int .i64 0]) 4 32 Tryd.underlying24 HI0.out HZ0.out HZ1.out HZ2.out rfl (by decide) (.slice (some ⟨W1.heap.size, 0, none⟩) 0 0) 0 [] (by simp [Act.eval, Act.put]) MB.out ⟨b, off, none⟩ n cap (flatSm l) (by simp [Act.eval, Act.put]) HL.out NB.out flatSm_one (by unfold maxLen; omega) (by omega) (Nat.le_trans hsz bB.size) ?_; intro v1 w2 hown1 hgr1 hno1; have B2 := bB.grown hgr1 bB.size (fun k e => by simp only [Value.ownBlock, Option.some.injEq] at e; omega); have NS := cells_four ((hgr1.block (W1.heap.size + 1) sB (by simp [Value.ownBlock])).trans HBn.out))
          | (refine step_append_ownS rfl _ _ 24 rfl w.heap.size 26 i0 (.agg #[.int .i64 0, .int .i64 0, .int .i64 0, .int .i64 0]) 4 32 Tryd.underlying24 HI0.out HZ0.out HZ1.out HZ2.out rfl (by decide) (.slice (some ⟨W1.heap.size + 1, 0, none⟩) 0 0) 0 [] (by simp [Act.eval, Act.put]) MC.out ⟨b, off, none⟩ n cap (flatSm l) (by simp [Act.eval, Act.put]) HL.out NC.out flatSm_one (by unfold maxLen; omega) (by omega) (Nat.le_trans hsz bC.size) ?_; intro v1 w2 hown1 hgr1 hno1; have B2 := bC.grown hgr1 bC.size (fun k e => by simp only [Value.ownBlock, Option.some.injEq] at e; omega); have NS := cells_four ((hgr1.block W1.heap.size sC (by simp [Value.ownBlock])).trans HCn.out)))
        all_goals
          have b2 := grow_next g1 B2
          have b3 : Below w.heap.size w w3 := by
            first
              | exact b2.grown hgr2 b2.size (fun k e => (hown1.lt k e).1)
              | exact (b2.alloc b2.size _).grown hgr2 (b2.alloc b2.size _).size (fun k e => (hown1.lt k e).1)
          have hne : v2 ≠ .slice none 0 0 := fun e3 => by
            have := (hno2.1 e3).2
            omega
          have hfl : [] ++ flatSm l ++ s.cells = flatSm (l ++ [s]) := by rw [flatSm_append, List.nil_append]; simp [flatSm]
          rw [hfl] at hown2
          have hq : 0 + n + 1 = (l ++ [s]).length := by rw [List.length_append, ← hn.out, Nat.zero_add]; rfl
          obtain ⟨y3, c3, rfl, hrow⟩ := smRow_form hown2 hq
          obtain ⟨g3, rfl⟩ : ∃ g, y3 = some ⟨g, 0, none⟩ := by
            rcases hrow.2 with ⟨e3, e0⟩ | ⟨g, c', cur, e3, _⟩
            · exact absurd (by rw [← hq] at e3; exact e3) hne
            · simp only [Value.slice.injEq] at e3
              exact ⟨g, e3.1⟩
          have hcap := hrow.cap_
          rw [← hq] at hcap
          have HP := Lib.hid hrow.sms
          have HFR := Lib.hid (show w.heap.size ≤ g3 ∧ ∀ i, w3.frozen? ⟨g3, i, none⟩ = false from ⟨hrow.lt.1, fun i => World.ownsRow.frozenAt hrow i⟩)
          rw [Nat.zero_add] at hcap ⊢
          have e9 : ((n + 1 : Nat) : Int) = (n : Int) + 1 := by omega
          have HLE := Lib.hid hle
          clear hown2 hown1 hgr1 hgr2 hno1 hno2 hne hfl hq hrow MA MB MC NA NB NC HBn HCn HQ1 x0 x1 x2 x3
          by_cases hn8 : n = 8
          · have HR : Hid (addR l s = (l ++ [s]).drop 1) := Lib.hid (by
              rw [addR_yes HK.out]
              unfold addV
              rw [if_pos (by rw [← hn.out]; exact hn8), List.drop_append, show 1 - l.length = 0 by rw [← hn.out]; omega]
              rfl)
            have HD := Lib.hid (sms_drop HP.out 1)
            have HLN : Hid ((addR l s).length = 8) := Lib.hid (by rw [HR.out, List.length_drop, List.length_append, ← hn.out, hn8]; rfl)
            subst hn8
            have hcc : ¬ c3 = 1 := by omega
            have hcc' : 1 ≤ c3 := by omega
            go_wp2_with fail
            go_returns
            exact ⟨some ⟨g3, 4, none⟩, c3 - 1, by rw [HLN.out, HK.out]; rfl, by rw [HLN.out]; omega, by omega, by rw [HR.out]; exact HD.out, fun _ => ⟨g3, 4, rfl, HFR.out.1, HFR.out.2⟩, b3⟩
          · have HR : Hid (addR l s = l ++ [s]) := Lib.hid (by
              rw [addR_yes HK.out]
              unfold addV
              rw [if_neg (by rw [← hn.out]; exact hn8)])
            have HLN : Hid ((addR l s).length = n + 1) := Lib.hid (by rw [HR.out, List.length_append, ← hn.out]; rfl)
            have hd8 : decide (8 < (n : Int) + 1) = false := decide_eq_false (by omega)
            have hd9 : ¬ 8 < (n : Int) + 1 := by omega
            go_wp2_with fail
            go_returns
            exact ⟨some ⟨g3, 0, none⟩, c3, by rw [HLN.out, HK.out]; rfl, by rw [HLN.out]; exact hcap.1, hcap.2, by rw [HR.out]; exact HP.out, fun _ => ⟨g3, 0, rfl, HFR.out.1, HFR.out.2⟩, b3⟩
      · obtain ⟨u, hu⟩ := getS (l := l) (k := n - 1) (by rw [← hn.out]; omega)
        have hT : takesV l s = decide (u.at_ < s.at_) := takesV_some hs (by rw [← hn.out]; exact hu)
        obtain ⟨b', off', e', hbB, _, _, _, y3⟩ := h0.at_ hu
        simp only [Option.some.injEq, Addr.mk.injEq] at e'
        obtain ⟨rfl, rfl, _⟩ := e'
        have ky := cell_regrown y3
        have hki : ((n - 1 : Nat) : Int) = (n : Int) - 1 := by omega
        have hk1 : IntKind.i64.wrap ((n : Int) - 1) = ((n - 1 : Nat) : Int) := by rw [hki]; exact IntWalk.i64_in _ (by omega)
        have hk2 : decide ((0 : Int) < (n : Int)) = true := decide_eq_true (by omega)
        have hk3 : n - 1 < n := by omega
        by_cases hau : s.at_ ≤ u.at_
        · have HK := Lib.hid (show addOk l s = false by unfold addOk; rw [hT, decide_eq_false (by omega), Bool.and_false])
          have hd : decide (s.at_ ≤ u.at_) = true := decide_eq_true hau
          clear ho hs hT hu y3 hki hau c0 c1 c2 c3 Q0
          go_enter Tryd.func10, Tryd.ntmps10
          go_wp2_with fail
          refine wp_region_quiet_below (by kernel_rfl) (by kernel_rfl) ?_
          repeat ((with_reducible refine wpQuiet_step (fun K hK => ?_)); go_simp; first | ((with_reducible refine hK _ ?_); clear hK K) | (rw [if_neg (by intro h; exact nomatch h)]; (with_reducible refine hK _ ?_); clear hK K) | (apply Exists.intro; (with_reducible refine ⟨fun _ => ?_, hK _ ?_⟩); (first | with_reducible exact KF.out _ _ | with_reducible exact KS.out _ _); clear hK K))
          with_reducible refine wpQuiet_nil ?_
          intro _ hw'
          obtain ⟨⟨dq, osq⟩, hw''⟩ := hw'
          subst hw''
          have g1 := grow_next B0 (below_regrown W dq osq)
          generalize hW1 : grow (redrawn W dq) osq = W1 at *
          go_wp2_with fail
          go_returns
          exact hno.out HK.out _ g1
        · have HK := Lib.hid (show addOk l s = true by unfold addOk; rw [hT, decide_eq_true (by omega), ho]; rfl)
          have hd : decide (s.at_ ≤ u.at_) = false := decide_eq_false hau
          have HQ0 := Lib.hid Q0
          clear ho hs hT hu y3 hki hau c0 c1 c2 c3 Q0 hno
          go_enter Tryd.func10, Tryd.ntmps10
          go_wp2_with fail
          refine wp_region_quiet_below (by kernel_rfl) (by kernel_rfl) ?_
          repeat ((with_reducible refine wpQuiet_step (fun K hK => ?_)); go_simp; first | ((with_reducible refine hK _ ?_); clear hK K) | (rw [if_neg (by intro h; exact nomatch h)]; (with_reducible refine hK _ ?_); clear hK K) | (apply Exists.intro; (with_reducible refine ⟨fun _ => ?_, hK _ ?_⟩); (first | with_reducible exact KF.out _ _ | with_reducible exact KS.out _ _); clear hK K))
          with_reducible refine wpQuiet_nil ?_
          intro _ hw'
          obtain ⟨⟨dq, osq⟩, hw''⟩ := hw'
          subst hw''
          have gW := below_regrown W dq osq
          have g1 := grow_next B0 gW
          have Q1 := blk_next gW HQ0.out
          have h1 := h0.next gW
          generalize hW1 : grow (redrawn W dq) osq = W1 at *
          clear hW1 k0 k1 k2 k3 ky KF KS HQ0 h0 hW
          go_wp2_with fail
          obtain ⟨i0, hi, hz0, hz1, hz2⟩ := info_partsT infoSm'
          have HI0 := Lib.hid hi
          have HZ0 := Lib.hid hz0
          have HZ1 := Lib.hid hz1
          have HZ2 := Lib.hid hz2
          clear hi hz0 hz1 hz2
          have hsz : w.heap.size ≤ W1.heap.size := g1.size
          have hwl : w.heap.size < W1.heap.size := (Array.getElem?_eq_some_iff.1 Q1).1
          have HL : Hid ((flatSm l).length = n * 4) := Lib.hid (by rw [flatSm_len, ← hn.out])
          have bA : Below W1.heap.size W1 (W1.alloc (.cells #[] 26)).drew := below_drewS (below_new _ _)
          have bB : Below W1.heap.size W1 ((W1.alloc (.cells #[] 26)).alloc (.cells #[.int .i64 s.off, .int .i64 s.delay, .int .i64 s.disp, .int .i64 s.at_] 26)).drew := below_drewS ((below_new W1 (.cells #[] 26)).alloc (below_new W1 (.cells #[] 26)).size _)
          have bC : Below W1.heap.size W1 ((W1.alloc (.cells #[.int .i64 s.off, .int .i64 s.delay, .int .i64 s.disp, .int .i64 s.at_] 26)).alloc (.cells #[] 26)).drew := below_drewS ((below_new W1 (.cells #[.int .i64 s.off, .int .i64 s.delay, .int .i64 s.disp, .int .i64 s.at_] 26)).alloc (below_new W1 (.cells #[.int .i64 s.off, .int .i64 s.delay, .int .i64 s.disp, .int .i64 s.at_] 26)).size _)
          have M0 := World.ownsRow_made (base := w.heap.size) (e := 26) (size := 4) W1 #[] 0 hsz (by simp [maxLen]) rfl
          have MA := Lib.hid M0.drew
          have MB := Lib.hid (M0.alloc (.cells #[.int .i64 s.off, .int .i64 s.delay, .int .i64 s.disp, .int .i64 s.at_] 26)).drew
          have M1 := World.ownsRow_made (base := w.heap.size) (e := 26) (size := 4) (W1.alloc (.cells #[.int .i64 s.off, .int .i64 s.delay, .int .i64 s.disp, .int .i64 s.at_] 26)) #[] 0 (by simp; omega) (by simp [maxLen]) rfl
          rw [World.size_alloc] at M1
          have MC := Lib.hid M1.drew
          have HBn : Hid (((W1.alloc (.cells #[] 26)).alloc (.cells #[.int .i64 s.off, .int .i64 s.delay, .int .i64 s.disp, .int .i64 s.at_] 26)).drew.heap[W1.heap.size + 1]? = some (.cells #[.int .i64 s.off, .int .i64 s.delay, .int .i64 s.disp, .int .i64 s.at_] 26)) := Lib.hid (by
            have := blk_new (W1.alloc (.cells #[] 26)) (.cells #[.int .i64 s.off, .int .i64 s.delay, .int .i64 s.disp, .int .i64 s.at_] 26)
            rw [World.size_alloc] at this
            exact this)
          have HCn : Hid (((W1.alloc (.cells #[.int .i64 s.off, .int .i64 s.delay, .int .i64 s.disp, .int .i64 s.at_] 26)).alloc (.cells #[] 26)).drew.heap[W1.heap.size]? = some (.cells #[.int .i64 s.off, .int .i64 s.delay, .int .i64 s.disp, .int .i64 s.at_] 26)) := Lib.hid (blk_alloc (blk_new W1 (.cells #[.int .i64 s.off, .int .i64 s.delay, .int .i64 s.disp, .int .i64 s.at_] 26)) (.cells #[] 26))
          have NA := Lib.hid (sms_news (h1.next bA))
          have NB := Lib.hid (sms_news (h1.next bB))
          have NC := Lib.hid (sms_news (h1.next bC))
          have sB : W1.heap.size + 1 < ((W1.alloc (.cells #[] 26)).alloc (.cells #[.int .i64 s.off, .int .i64 s.delay, .int .i64 s.disp, .int .i64 s.at_] 26)).drew.heap.size := by show _ < ((W1.alloc (.cells #[] 26)).alloc (.cells #[.int .i64 s.off, .int .i64 s.delay, .int .i64 s.disp, .int .i64 s.at_] 26)).heap.size; rw [World.size_alloc, World.size_alloc]; exact Nat.lt_succ_self _
          have sC : W1.heap.size < ((W1.alloc (.cells #[.int .i64 s.off, .int .i64 s.delay, .int .i64 s.disp, .int .i64 s.at_] 26)).alloc (.cells #[] 26)).drew.heap.size := by show _ < ((W1.alloc (.cells #[.int .i64 s.off, .int .i64 s.delay, .int .i64 s.disp, .int .i64 s.at_] 26)).alloc (.cells #[] 26)).heap.size; rw [World.size_alloc, World.size_alloc]; omega
          clear M0 M1
          obtain ⟨x0, x1, x2, x3⟩ := sample_cells Q1
          have HQ1 := Lib.hid Q1
          clear Q1
          go_region_law (first
            | (refine step_append_ownS rfl _ _ 24 rfl w.heap.size 26 i0 (.agg #[.int .i64 0, .int .i64 0, .int .i64 0, .int .i64 0]) 4 32 Tryd.underlying24 HI0.out HZ0.out HZ1.out HZ2.out rfl (by decide) v1 (0 + n) ([] ++ flatSm l) (by simp [Act.eval, Act.put]) (hown1.alloc _) ⟨w2.heap.size, 0, none⟩ 1 1 s.cells (by simp [Act.eval, Act.put]) rfl (cell_four_new w2 s _) (by simp [Sm.cells, Value.oneCell', Sm.row]) (by unfold maxLen; omega) (by omega) (by have := B2.size; simp; omega) ?_; intro v2 w3 hown2 hgr2 hno2)
            | (refine step_append_ownS rfl _ _ 24 rfl w.heap.size 26 i0 (.agg #[.int .i64 0, .int .i64 0, .int .i64 0, .int .i64 0]) 4 32 Tryd.underlying24 HI0.out HZ0.out HZ1.out HZ2.out rfl (by decide) v1 (0 + n) ([] ++ flatSm l) (by simp [Act.eval, Act.put]) hown1 ⟨W1.heap.size + 1, 0, none⟩ 1 1 s.cells (by simp [Act.eval, Act.put]) rfl NS (by simp [Sm.cells, Value.oneCell', Sm.row]) (by unfold maxLen; omega) (by omega) (by have := B2.size; simp; omega) ?_; intro v2 w3 hown2 hgr2 hno2)
            | (refine step_append_ownS rfl _ _ 24 rfl w.heap.size 26 i0 (.agg #[.int .i64 0, .int .i64 0, .int .i64 0, .int .i64 0]) 4 32 Tryd.underlying24 HI0.out HZ0.out HZ1.out HZ2.out rfl (by decide) v1 (0 + n) ([] ++ flatSm l) (by simp [Act.eval, Act.put]) hown1 ⟨W1.heap.size, 0, none⟩ 1 1 s.cells (by simp [Act.eval, Act.put]) rfl NS (by simp [Sm.cells, Value.oneCell', Sm.row]) (by unfold maxLen; omega) (by omega) (by have := B2.size; simp; omega) ?_; intro v2 w3 hown2 hgr2 hno2)
            | (refine step_append_ownS rfl _ _ 24 rfl w.heap.size 26 i0 (.agg #[.int .i64 0, .int .i64 0, .int .i64 0, .int .i64 0]) 4 32 Tryd.underlying24 HI0.out HZ0.out HZ1.out HZ2.out rfl (by decide) (.slice (some ⟨W1.heap.size, 0, none⟩) 0 0) 0 [] (by simp [Act.eval, Act.put]) MA.out ⟨b, off, none⟩ n cap (flatSm l) (by simp [Act.eval, Act.put]) HL.out NA.out flatSm_one (by unfold maxLen; omega) (by omega) (Nat.le_trans hsz bA.size) ?_; intro v1 w2 hown1 hgr1 hno1; have B2 := bA.grown hgr1 bA.size (fun k e => by simp only [Value.ownBlock, Option.some.injEq] at e; omega); obtain ⟨x0, x1, x2, x3⟩ := sample_cells (blk_next B2 HQ1.out))
            | (refine step_append_ownS rfl _ _ 24 rfl w.heap.size 26 i0 (.agg #[.int .i64 0, .int .i64 0, .int .i64 0, .int .i64 0]) 4 32 Tryd.underlying24 HI0.out HZ0.out HZ1.out HZ2.out rfl (by decide) (.slice (some ⟨W1.heap.size, 0, none⟩) 0 0) 0 [] (by simp [Act.eval, Act.put]) MB.out ⟨b, off, none⟩ n cap (flatSm l) (by simp [Act.eval, Act.put]) HL.out NB.out flatSm_one (by unfold maxLen; omega) (by omega) (Nat.le_trans hsz bB.size) ?_; intro v1 w2 hown1 hgr1 hno1; have B2 := bB.grown hgr1 bB.size (fun k e => by simp only [Value.ownBlock, Option.some.injEq] at e; omega); have NS := cells_four ((hgr1.block (W1.heap.size + 1) sB (by simp [Value.ownBlock])).trans HBn.out))
            | (refine step_append_ownS rfl _ _ 24 rfl w.heap.size 26 i0 (.agg #[.int .i64 0, .int .i64 0, .int .i64 0, .int .i64 0]) 4 32 Tryd.underlying24 HI0.out HZ0.out HZ1.out HZ2.out rfl (by decide) (.slice (some ⟨W1.heap.size + 1, 0, none⟩) 0 0) 0 [] (by simp [Act.eval, Act.put]) MC.out ⟨b, off, none⟩ n cap (flatSm l) (by simp [Act.eval, Act.put]) HL.out NC.out flatSm_one (by unfold maxLen; omega) (by omega) (Nat.le_trans hsz bC.size) ?_; intro v1 w2 hown1 hgr1 hno1; have B2 := bC.grown hgr1 bC.size (fun k e => by simp only [Value.ownBlock, Option.some.injEq] at e; omega); have NS := cells_four ((hgr1.block W1.heap.size sC (by simp [Value.ownBlock])).trans HCn.out)))
          all_goals
            have b2 := grow_next g1 B2
            have b3 : Below w.heap.size w w3 := by
              first
                | exact b2.grown hgr2 b2.size (fun k e => (hown1.lt k e).1)
                | exact (b2.alloc b2.size _).grown hgr2 (b2.alloc b2.size _).size (fun k e => (hown1.lt k e).1)
            have hne : v2 ≠ .slice none 0 0 := fun e3 => by
              have := (hno2.1 e3).2
              omega
            have hfl : [] ++ flatSm l ++ s.cells = flatSm (l ++ [s]) := by rw [flatSm_append, List.nil_append]; simp [flatSm]
            rw [hfl] at hown2
            have hq : 0 + n + 1 = (l ++ [s]).length := by rw [List.length_append, ← hn.out, Nat.zero_add]; rfl
            obtain ⟨y3, c3, rfl, hrow⟩ := smRow_form hown2 hq
            obtain ⟨g3, rfl⟩ : ∃ g, y3 = some ⟨g, 0, none⟩ := by
              rcases hrow.2 with ⟨e3, e0⟩ | ⟨g, c', cur, e3, _⟩
              · exact absurd (by rw [← hq] at e3; exact e3) hne
              · simp only [Value.slice.injEq] at e3
                exact ⟨g, e3.1⟩
            have hcap := hrow.cap_
            rw [← hq] at hcap
            have HP := Lib.hid hrow.sms
            have HFR := Lib.hid (show w.heap.size ≤ g3 ∧ ∀ i, w3.frozen? ⟨g3, i, none⟩ = false from ⟨hrow.lt.1, fun i => World.ownsRow.frozenAt hrow i⟩)
            rw [Nat.zero_add] at hcap ⊢
            have e9 : ((n + 1 : Nat) : Int) = (n : Int) + 1 := by omega
            have HLE := Lib.hid hle
            clear hown2 hown1 hgr1 hgr2 hno1 hno2 hne hfl hq hrow MA MB MC NA NB NC HBn HCn HQ1 x0 x1 x2 x3
            by_cases hn8 : n = 8
            · have HR : Hid (addR l s = (l ++ [s]).drop 1) := Lib.hid (by
                rw [addR_yes HK.out]
                unfold addV
                rw [if_pos (by rw [← hn.out]; exact hn8), List.drop_append, show 1 - l.length = 0 by rw [← hn.out]; omega]
                rfl)
              have HD := Lib.hid (sms_drop HP.out 1)
              have HLN : Hid ((addR l s).length = 8) := Lib.hid (by rw [HR.out, List.length_drop, List.length_append, ← hn.out, hn8]; rfl)
              subst hn8
              have hcc : ¬ c3 = 1 := by omega
              have hcc' : 1 ≤ c3 := by omega
              go_wp2_with fail
              go_returns
              exact ⟨some ⟨g3, 4, none⟩, c3 - 1, by rw [HLN.out, HK.out]; rfl, by rw [HLN.out]; omega, by omega, by rw [HR.out]; exact HD.out, fun _ => ⟨g3, 4, rfl, HFR.out.1, HFR.out.2⟩, b3⟩
            · have HR : Hid (addR l s = l ++ [s]) := Lib.hid (by
                rw [addR_yes HK.out]
                unfold addV
                rw [if_neg (by rw [← hn.out]; exact hn8)])
              have HLN : Hid ((addR l s).length = n + 1) := Lib.hid (by rw [HR.out, List.length_append, ← hn.out]; rfl)
              have hd8 : decide (8 < (n : Int) + 1) = false := decide_eq_false (by omega)
              have hd9 : ¬ 8 < (n : Int) + 1 := by omega
              go_wp2_with fail
              go_returns
              exact ⟨some ⟨g3, 0, none⟩, c3, by rw [HLN.out, HK.out]; rfl, by rw [HLN.out]; exact hcap.1, hcap.2, by rw [HR.out]; exact HP.out, fun _ => ⟨g3, 0, rfl, HFR.out.1, HFR.out.2⟩, b3⟩
end Go.Proofs.YthgamidodkkpbaaDoor
