/- Peers in their ranks: the reference's way. -/
import Derived.Test.YtfcmcelhndppnaaDoorRankS
import Derived.Test.YtfcmcelhndppnaaDoorRankMath
import Derived.Test.YtfcmcelhndppnaaDoorPrRow
import Derived.Test.YtfcmcelhndppnaaDoorPeersS
namespace Go.Proofs.YtfcmcelhndppnaaDoor
open Go.ChangeShapes Go.WideShapes Go.ChangeAt Go.RowKit Go.Sort
set_option linter.unusedVariables false
set_option linter.unusedSimpArgs false

theorem add_at (b o j : Nat) : (⟨b, o, none⟩ : Addr).add j = ⟨b, o + j, none⟩ := by unfold Addr.add; split <;> simp_all
theorem PrRow.news_take {base g c : Nat} {W : World} {R : List Pr} (h : PrRow base W (some ⟨g, 0, none⟩) c R) (j : Nat) : ∀ i u, (flatPr (R.take j))[i]? = some u → W.cell? ((⟨g, 0, none⟩ : Addr).add i) = some u := by
  intro i u hi
  rw [← flatPr_take, List.getElem?_take] at hi
  split at hi
  · exact World.ownsRow.cells h rfl i u hi
  · cases hi
theorem PrRow.news_drop {base g c : Nat} {W : World} {R : List Pr} (h : PrRow base W (some ⟨g, 0, none⟩) c R) (j : Nat) : ∀ i u, (flatPr (R.drop j))[i]? = some u → W.cell? ((⟨g, j * 6, none⟩ : Addr).add i) = some u := by
  intro i u hi
  rw [← flatPr_drop, List.getElem?_drop] at hi
  have := World.ownsRow.cells h rfl (j * 6 + i) u hi
  rw [add_at] at this ⊢
  rwa [Nat.zero_add] at this
theorem grown_belowN {B : Nat} {W w1 w2 : World} {row : Option Nat} (h : Below B W w1) (hB : B ≤ w1.heap.size) (hg : w1.grownBy w2 row) (hr : ∀ k, row = some k → B ≤ k) : Below B W w2 := h.grown hg hB (fun j e => hr j e)
theorem prs_cell {B : Nat} {W : World} {b off k : Nat} {l : List Pr} {u : Pr} (h : Prs B W (some ⟨b, off, none⟩) l) (hu : l[k]? = some u) : W.cell? ⟨b, off + k * 6, none⟩ = some (.int .i64 u.id) ∧ W.cell? ⟨b, off + k * 6 + 1, none⟩ = some (.int .i64 u.str) ∧ W.cell? ⟨b, off + k * 6 + 2, none⟩ = some (.int .i64 u.s.off) ∧ W.cell? ⟨b, off + k * 6 + 3, none⟩ = some (.int .i64 u.s.delay) ∧ W.cell? ⟨b, off + k * 6 + 4, none⟩ = some (.int .i64 u.s.disp) ∧ W.cell? ⟨b, off + k * 6 + 5, none⟩ = some (.int .i64 u.s.at_) := by
  obtain ⟨c, o, e, _, c0⟩ := h.at_ hu
  simp only [Option.some.injEq, Addr.mk.injEq] at e
  obtain ⟨rfl, rfl, _⟩ := e
  exact c0
theorem own_some {w : World} {base : Nat} {e : TypeId} {size : Nat} {v : Value} {n : Nat} {xs : List Value} (h : w.ownsRow base e size v n xs) (hne : v ≠ .slice none 0 0) : ∃ g c, v = .slice (some ⟨g, 0, none⟩) n c := by
  rcases h.2 with ⟨e, _⟩ | ⟨g, c, cur, e, _⟩
  · exact absurd e hne
  · exact ⟨g, c, e⟩
theorem own_lower {w : World} {base base' : Nat} {e : TypeId} {size : Nat} {v : Value} {n : Nat} {xs : List Value} (h : w.ownsRow base e size v n xs) (hb : base' ≤ base) : w.ownsRow base' e size v n xs := by
  refine ⟨h.1, ?_⟩
  rcases h.2 with h | ⟨g, c, cur, h, h1, r⟩
  · exact .inl h
  · exact .inr ⟨g, c, cur, h, by omega, r⟩

/-- The ranked list, in a row of the call's own. -/
def RankRef (w : World) (l : List Pr) (n : Nat) : Ending → World → Prop := fun e w' =>
  ∃ g c, e = .returned (.slice (some ⟨g, 0, none⟩) n c) ∧ PrRow w.heap.size w' (some ⟨g, 0, none⟩) c (rkV l) ∧ Below w.heap.size w w'

theorem ref_done (w wt w3 : World) (l : List Pr) (hI : IdsApart l) (k n j : Nat) (hk : k < n) (hn : Hid (n = l.length)) (e : Pr) (he : Hid (l[k]? = some e)) (R : List Pr) (hR : Hid (R = rkV (l.take k))) (hj : j ≤ k)
    (ha : ∀ i v, i < j → R[i]? = some v → aheadV v e = true) (hstop : j = k ∨ ∃ v, R[j]? = some v ∧ aheadV v e = false) (v3 : Value)
    (hown : w3.ownsRow wt.heap.size 40 6 v3 (0 + j + 1 + (k - j)) (([] ++ flatPr (R.take j)) ++ e.cells ++ flatPr (R.drop j))) (hne : v3 ≠ .slice none 0 0) (hwt : w.heap.size ≤ wt.heap.size) :
    ∃ (g c : Nat) (R' : List Pr), v3 = .slice (some ⟨g, 0, none⟩) (k + 1) c ∧ Hid (k + 1 = R'.length) ∧ PrRow w.heap.size w3 (some ⟨g, 0, none⟩) c R' ∧ Hid (R' = rkV (l.take (k + 1))) := by
  have hRl : R.length = k := by rw [hR.out, rkV_length, List.length_take]; have := hn.out; omega
  have hlt : l.take (k + 1) = l.take k ++ [e] := takeP he.out
  have hI' : IdsApart (l.take (k + 1)) := List.Pairwise.sublist (List.take_sublist _ _) hI
  have hIk : IdsApart (l.take k) := List.Pairwise.sublist (List.take_sublist _ _) hI
  have hid : ∀ x ∈ R, e.id ≠ x.id := fun x hx => by
    rw [hR.out, rkV_mem] at hx
    rw [hlt] at hI'
    exact ((List.pairwise_append.1 hI').2.2 x hx e (by simp)).symm
  have hsort : RankS R := by rw [hR.out]; exact rkV_sorted _ hIk
  have hs := rank_put' hsort e hid j (by omega) ha (hstop.imp (fun h => by omega) id)
  have hp : (R.take j ++ e :: R.drop j).Perm (l.take (k + 1)) := by
    refine (perm_putP R e j).trans ?_
    rw [hlt]
    refine (List.Perm.cons e ((by rw [hR.out]; exact rkV_perm _ : R.Perm (l.take k)))).trans ?_
    exact List.perm_append_comm (l₁ := [e])
  obtain ⟨g, c, rfl⟩ := own_some hown hne
  have e0 : 0 + j + 1 + (k - j) = k + 1 := by omega
  have hlen : (R.take j ++ e :: R.drop j).length = k + 1 := by simp; omega
  refine ⟨g, c, R.take j ++ e :: R.drop j, by rw [e0], Lib.hid hlen.symm, ?_, Lib.hid (rank_is hI' hs hp)⟩
  unfold PrRow
  rw [hlen, ← e0]
  have e1 : flatPr (R.take j ++ e :: R.drop j) = ([] ++ flatPr (R.take j)) ++ e.cells ++ flatPr (R.drop j) := by
    rw [flatPr_append, List.nil_append, List.append_assoc]
    rfl
  rw [e1]
  exact own_lower hown hwt

set_option maxRecDepth 100000 in
set_option maxHeartbeats 8000000 in
theorem l6Rank_c (l : List Pr) (hA : AllSm l) (hI : IdsApart l) (n : Nat) (hn : Hid (n = l.length)) (hm : n ≤ 100) (x : Option Addr) (cap : Nat) (w : World) (h : Prs w.heap.size w x l) :
    Calls Tryd.prog 26 #[.slice x n cap] w (RankRef w l n) := by
  obtain ⟨i0, hi, hz0, hz1, hz2⟩ := info_partsT infoPr'
  have HI0 := Lib.hid hi
  have HZ0 := Lib.hid hz0
  have HZ1 := Lib.hid hz1
  have HZ2 := Lib.hid hz2
  clear hi hz0 hz1 hz2
  go_enter Tryd.func26, Tryd.ntmps26
  go_wp2
  go_loopw [3, 4] (fun o i wr => ∃ (k g c : Nat) (R : List Pr), k ≤ n ∧ i = .int .i64 k ∧ o = .slice (some ⟨g, 0, none⟩) k c ∧ Hid (k = R.length) ∧ PrRow w.heap.size wr (some ⟨g, 0, none⟩) c R ∧ Hid (R = rkV (l.take k)) ∧ Below w.heap.size w wr) (fun _ i _ => n - (intOf i).toNat)
  case atStart => exact ⟨0, w.heap.size, 0, [], Nat.zero_le _, rfl, rfl, Lib.hid rfl, World.ownsRow_made (base := w.heap.size) (e := 40) (size := 6) w #[] 0 (Nat.le_refl _) (by simp [maxLen]) rfl, Lib.hid rfl, by go_grown⟩
  case round =>
    obtain ⟨k, g, c, R, hk, rfl, rfl, hRl, hrow, hR, hb⟩ := hrel
    have hkc : k ≤ c := by have := (hrow.cap_).1; have := hRl.out; omega
    by_cases hlt : k < n
    · obtain ⟨e, he⟩ := getP (l := l) (k := k) (by rw [← hn.out]; exact hlt)
      have heok := hA.at_ he
      obtain ⟨b, off, rfl, _⟩ := h.at_ he
      have HE := Lib.hid he
      have hRA : AllSm R := by rw [hR.out]; exact rkV_all (hA.take k)
      clear he
      go_wp2_with fail
      obtain ⟨wo, rfl⟩ : ∃ wo, wo = wr := ⟨_, rfl⟩
      go_loopw [5] (fun a wi => ∃ j : Nat, j ≤ k ∧ a = .int .i64 j ∧ Hid (∀ i v, i < j → R[i]? = some v → aheadV v e = true) ∧ Below wo.heap.size wo wi) (fun a _ => k - (intOf a).toNat)
      case atStart => exact ⟨0, Nat.zero_le _, rfl, Lib.hid (fun i v hi => by omega), Below.refl _ _⟩
      case round =>
        obtain ⟨j, hj, rfl, HA, hbi⟩ := hrel
        rcases Nat.lt_or_ge j k with hjk | hjk
        · obtain ⟨y, hy⟩ := getP (l := R) (k := j) (by rw [← hRl.out]; exact hjk)
          have hyok := hRA.at_ hy
          have hB := grow_next hb hbi
          obtain ⟨cx0, cx1, cx2, cx3, cx4, cx5⟩ := (hrow.next hbi).cell hy
          obtain ⟨cy0, cy1, cy2, cy3, cy4, cy5⟩ := prs_cell (h.next hB) HE.out
          have kx0 := cell_regrown cx0
          have kx1 := cell_regrown cx1
          have kx2 := cell_regrown cx2
          have kx3 := cell_regrown cx3
          have kx4 := cell_regrown cx4
          have kx5 := cell_regrown cx5
          have ky0 := cell_regrown cy0
          have ky1 := cell_regrown cy1
          have ky2 := cell_regrown cy2
          have ky3 := cell_regrown cy3
          have ky4 := cell_regrown cy4
          have ky5 := cell_regrown cy5
          clear cx0 cx1 cx2 cx3 cx4 cx5 cy0 cy1 cy2 cy3 cy4 cy5
          have HY := Lib.hid hy
          clear hy
          have hji : ((j : Int) < (k : Int)) := by omega
          have hjd : decide ((j : Int) < (k : Int)) = true := decide_eq_true hji
          have hki : ((k : Int) < (n : Int)) := by omega
          have hC := fun W => l6Ahead_c y e hyok heok W
          cases ho : aheadV y e with
          | true =>
            have HO := Lib.hid ho
            rw [ho] at hC
            have KA := Lib.hid (fun d os => Calls.regrown_of (hC (grow (redrawn wr d) os)))
            clear ho hC
            go_wp2_with fail
            refine wp_region_quiet_below (by kernel_rfl) (by kernel_rfl) ?_
            repeat ((with_reducible refine wpQuiet_step (fun K hK => ?_)); go_simp; first | ((with_reducible refine hK _ ?_); clear hK K) | (rw [if_neg (by intro h; exact nomatch h)]; (with_reducible refine hK _ ?_); clear hK K) | (apply Exists.intro; (with_reducible refine ⟨fun _ => ?_, hK _ ?_⟩); (with_reducible exact KA.out _ _); clear hK K))
            with_reducible refine wpQuiet_nil ?_
            intro _ hw'
            obtain ⟨⟨dq1, osq1⟩, hw''⟩ := hw'
            subst hw''
            have g1 := below_regrown wr dq1 osq1
            generalize hW1 : grow (redrawn wr dq1) osq1 = W1 at *
            clear hW1 kx0 kx1 kx2 kx3 kx4 kx5 ky0 ky1 ky2 ky3 ky4 ky5 KA
            go_wp2_with fail
            go_roundw
            case rel =>
              refine ⟨j + 1, by omega, by go_num, Lib.hid (fun i v hi hv => ?_), grow_next hbi g1⟩
              rcases Nat.lt_or_ge i j with hij | hij
              · exact HA.out i v hij hv
              · obtain rfl : i = j := by omega
                rw [HY.out] at hv
                simp only [Option.some.injEq] at hv
                rw [← hv]
                exact HO.out
            case measure => simp [intOf]; omega
          | false =>
            have HO := Lib.hid ho
            rw [ho] at hC
            have KA := Lib.hid (fun d os => Calls.regrown_of (hC (grow (redrawn wr d) os)))
            clear ho hC
            go_wp2_with fail
            refine wp_region_quiet_below (by kernel_rfl) (by kernel_rfl) ?_
            repeat ((with_reducible refine wpQuiet_step (fun K hK => ?_)); go_simp; first | ((with_reducible refine hK _ ?_); clear hK K) | (rw [if_neg (by intro h; exact nomatch h)]; (with_reducible refine hK _ ?_); clear hK K) | (apply Exists.intro; (with_reducible refine ⟨fun _ => ?_, hK _ ?_⟩); (with_reducible exact KA.out _ _); clear hK K))
            with_reducible refine wpQuiet_nil ?_
            intro _ hw'
            obtain ⟨⟨dq1, osq1⟩, hw''⟩ := hw'
            subst hw''
            have g1 := below_regrown wr dq1 osq1
            generalize hW1 : grow (redrawn wr dq1) osq1 = wt at *
            clear hW1 kx0 kx1 kx2 kx3 kx4 kx5 ky0 ky1 ky2 ky3 ky4 ky5 KA
            have hst : Hid (j = k ∨ ∃ v, R[j]? = some v ∧ aheadV v e = false) := Lib.hid (.inr ⟨y, HY.out, HO.out⟩)
            have hcj : ¬ c = j := by omega
            have hcj' : ¬ j = c := by omega
            have hbt := grow_next hbi g1
            have hB := grow_next hb hbt
            have row3 := hrow.next hbt
            have hsz : w.heap.size ≤ wt.heap.size := hB.size
            have made := World.ownsRow_made (base := wt.heap.size) (e := 40) (size := 6) wt #[] 0 (Nat.le_refl _) (by simp [maxLen]) rfl
            have bn : Below wt.heap.size wt (wt.alloc (.cells #[] 40)) := below_new wt _
            have row4 := (row3.next bn).news_take j
            have hl1 : (flatPr (R.take j)).length = j * 6 := by rw [flatPr_len, List.length_take, ← hRl.out, Nat.min_eq_left hj]
            have hl2 : (flatPr (R.drop j)).length = (k - j) * 6 := by rw [flatPr_len, List.length_drop, ← hRl.out]
            have HM := Lib.hid made
            have HL1 := Lib.hid hl1
            have HL2 := Lib.hid hl2
            have H4 := Lib.hid row4
            clear made hl1 hl2 row4
            go_wp2_with (at_builtin; go_loud (first
              | (refine wpList_append_own _ rfl _ _ 24 rfl wt.heap.size 40 i0 (.agg #[.int .i64 0, .int .i64 0, .int .i64 0, .int .i64 0, .int .i64 0, .int .i64 0]) 6 48 Tryd.underlying24 HI0.out HZ0.out HZ1.out HZ2.out rfl (by decide) _ _ _ rfl hown2 ⟨g, j * 6, none⟩ (k - j) _ (flatPr (R.drop j)) rfl HL2.out ((row3.next B2).news_drop j) flatPr_one (by unfold maxLen; omega) (by omega) B2.size ?_; intro v3 w3 hown3 hgr3 hno3)
              | (refine wpList_append_own _ rfl _ _ 24 rfl wt.heap.size 40 i0 (.agg #[.int .i64 0, .int .i64 0, .int .i64 0, .int .i64 0, .int .i64 0, .int .i64 0]) 6 48 Tryd.underlying24 HI0.out HZ0.out HZ1.out HZ2.out rfl (by decide) _ _ _ rfl (hown1.alloc _) ⟨w1.heap.size, 0, none⟩ 1 1 e.cells rfl rfl (cell_six_new w1 e _) (by simp [Pr.cells, Value.oneCell']) (by unfold maxLen; omega) (by omega) (by have := B1.size; simp; omega) ?_; intro v2 w2 hown2 hgr2 hno2; have B2 := grown_belowN (B1.alloc (by have := B1.size; omega) _) (by have := B1.size; simp; omega) hgr2 (fun k e => (hown1.lt k e).1))
              | (refine wpList_append_own _ rfl _ _ 24 rfl wt.heap.size 40 i0 (.agg #[.int .i64 0, .int .i64 0, .int .i64 0, .int .i64 0, .int .i64 0, .int .i64 0]) 6 48 Tryd.underlying24 HI0.out HZ0.out HZ1.out HZ2.out rfl (by decide) _ _ _ rfl HM.out ⟨g, 0, none⟩ j _ (flatPr (R.take j)) rfl HL1.out H4.out flatPr_one (by unfold maxLen; omega) (by omega) bn.size ?_; intro v1 w1 hown1 hgr1 hno1; have B1 := grown_belowN bn bn.size hgr1 (fun k e => (HM.out.lt k e).1); obtain ⟨d0, d1, d2, d3, d4, d5⟩ := prs_cell (h.next (hB.trans (B1.mono hsz))) HE.out)))
            have B3 := grown_belowN B2 B2.size hgr3 (fun k e => (hown2.lt k e).1)
            have hne : v3 ≠ .slice none 0 0 := fun e3 => by
              have := (hno2.1 (hno3.1 e3).1).2
              omega
            obtain ⟨g3, c3, R3, hv3, hR3, row5, hRk⟩ := ref_done w wt w3 l hI k n j hlt hn e HE R hR hj HA.out hst.out v3 hown3 hne hsz
            go_roundw
            case rel => exact ⟨k + 1, g3, c3, R3, by omega, by go_num, hv3, hR3, row5, hRk, hB.trans (B3.mono hsz)⟩
            case measure => simp [intOf]; omega
        · obtain rfl : j = k := by omega
          have hjd : decide ((j : Int) < (j : Int)) = false := decide_eq_false (by omega)
          have hji : ¬ ((j : Int) < (j : Int)) := by omega
          go_wp2_with fail
          refine wp_region_quiet_below (by kernel_rfl) (by kernel_rfl) ?_
          repeat ((with_reducible refine wpQuiet_step (fun K hK => ?_)); go_simp; first | ((with_reducible refine hK _ ?_); clear hK K) | (rw [if_neg (by intro h; exact nomatch h)]; (with_reducible refine hK _ ?_); clear hK K) | (apply Exists.intro; (with_reducible refine ⟨fun _ => ?_, hK _ ?_⟩); (fail); clear hK K))
          with_reducible refine wpQuiet_nil ?_
          intro _ hw'
          obtain ⟨⟨dq1, osq1⟩, hw''⟩ := hw'
          subst hw''
          have g1 := below_regrown wr dq1 osq1
          generalize hW1 : grow (redrawn wr dq1) osq1 = wt at *
          clear hW1
          have hst : Hid (j = j ∨ ∃ v, R[j]? = some v ∧ aheadV v e = false) := Lib.hid (.inl rfl)
          by_cases hcj : c = j
          · subst hcj
            have hbt := grow_next hbi g1
            have hB := grow_next hb hbt
            have row3 := hrow.next hbt
            have hsz : w.heap.size ≤ wt.heap.size := hB.size
            have made := World.ownsRow_made (base := wt.heap.size) (e := 40) (size := 6) wt #[] 0 (Nat.le_refl _) (by simp [maxLen]) rfl
            have bn : Below wt.heap.size wt (wt.alloc (.cells #[] 40)) := below_new wt _
            have row4 := (row3.next bn).news_take c
            have hl1 : (flatPr (R.take c)).length = c * 6 := by rw [flatPr_len, List.length_take, ← hRl.out, Nat.min_eq_left hj]
            have hl2 : (flatPr (R.drop c)).length = 0 * 6 := by rw [flatPr_len, List.length_drop, ← hRl.out]; omega
            have HM := Lib.hid made
            have HL1 := Lib.hid hl1
            have HL2 := Lib.hid hl2
            have H4 := Lib.hid row4
            clear made hl1 hl2 row4
            go_wp2_with (at_builtin; go_loud (first
              | (refine wpList_append_own _ rfl _ _ 24 rfl wt.heap.size 40 i0 (.agg #[.int .i64 0, .int .i64 0, .int .i64 0, .int .i64 0, .int .i64 0, .int .i64 0]) 6 48 Tryd.underlying24 HI0.out HZ0.out HZ1.out HZ2.out rfl (by decide) _ _ _ rfl hown2 _ 0 _ (flatPr (R.drop c)) rfl HL2.out (fun i u hi => by rw [List.drop_of_length_le (by rw [← hRl.out]; exact Nat.le_refl _)] at hi; simp [flatPr] at hi) flatPr_one (by unfold maxLen; omega) (by omega) B2.size ?_; intro v3 w3 hown3 hgr3 hno3)
              | (refine wpList_append_own _ rfl _ _ 24 rfl wt.heap.size 40 i0 (.agg #[.int .i64 0, .int .i64 0, .int .i64 0, .int .i64 0, .int .i64 0, .int .i64 0]) 6 48 Tryd.underlying24 HI0.out HZ0.out HZ1.out HZ2.out rfl (by decide) _ _ _ rfl (hown1.alloc _) ⟨w1.heap.size, 0, none⟩ 1 1 e.cells rfl rfl (cell_six_new w1 e _) (by simp [Pr.cells, Value.oneCell']) (by unfold maxLen; omega) (by omega) (by have := B1.size; simp; omega) ?_; intro v2 w2 hown2 hgr2 hno2; have B2 := grown_belowN (B1.alloc (by have := B1.size; omega) _) (by have := B1.size; simp; omega) hgr2 (fun k e => (hown1.lt k e).1))
              | (refine wpList_append_own _ rfl _ _ 24 rfl wt.heap.size 40 i0 (.agg #[.int .i64 0, .int .i64 0, .int .i64 0, .int .i64 0, .int .i64 0, .int .i64 0]) 6 48 Tryd.underlying24 HI0.out HZ0.out HZ1.out HZ2.out rfl (by decide) _ _ _ rfl HM.out ⟨g, 0, none⟩ c _ (flatPr (R.take c)) rfl HL1.out H4.out flatPr_one (by unfold maxLen; omega) (by omega) bn.size ?_; intro v1 w1 hown1 hgr1 hno1; have B1 := grown_belowN bn bn.size hgr1 (fun k e => (HM.out.lt k e).1); obtain ⟨d0, d1, d2, d3, d4, d5⟩ := prs_cell (h.next (hB.trans (B1.mono hsz))) HE.out)))
            have B3 := grown_belowN B2 B2.size hgr3 (fun k e => (hown2.lt k e).1)
            have hne : v3 ≠ .slice none 0 0 := fun e3 => by
              have := (hno2.1 (hno3.1 e3).1).2
              omega
            obtain ⟨g3, c3, R3, hv3, hR3, row5, hRk⟩ := ref_done w wt w3 l hI c n c hlt hn e HE R hR hj HA.out hst.out v3 (by rw [Nat.sub_self]; exact hown3) hne hsz
            go_roundw
            case rel => exact ⟨c + 1, g3, c3, R3, by omega, by go_num, hv3, hR3, row5, hRk, hB.trans (B3.mono hsz)⟩
            case measure => simp [intOf]; omega
          · have hcj' : ¬ j = c := by omega
            have hbt := grow_next hbi g1
            have hB := grow_next hb hbt
            have row3 := hrow.next hbt
            have hsz : w.heap.size ≤ wt.heap.size := hB.size
            have made := World.ownsRow_made (base := wt.heap.size) (e := 40) (size := 6) wt #[] 0 (Nat.le_refl _) (by simp [maxLen]) rfl
            have bn : Below wt.heap.size wt (wt.alloc (.cells #[] 40)) := below_new wt _
            have row4 := (row3.next bn).news_take j
            have hl1 : (flatPr (R.take j)).length = j * 6 := by rw [flatPr_len, List.length_take, ← hRl.out, Nat.min_eq_left hj]
            have hl2 : (flatPr (R.drop j)).length = 0 * 6 := by rw [flatPr_len, List.length_drop, ← hRl.out]; omega
            have HM := Lib.hid made
            have HL1 := Lib.hid hl1
            have HL2 := Lib.hid hl2
            have H4 := Lib.hid row4
            clear made hl1 hl2 row4
            go_wp2_with (at_builtin; go_loud (first
              | (refine wpList_append_own _ rfl _ _ 24 rfl wt.heap.size 40 i0 (.agg #[.int .i64 0, .int .i64 0, .int .i64 0, .int .i64 0, .int .i64 0, .int .i64 0]) 6 48 Tryd.underlying24 HI0.out HZ0.out HZ1.out HZ2.out rfl (by decide) _ _ _ rfl hown2 ⟨g, j * 6, none⟩ 0 _ (flatPr (R.drop j)) rfl HL2.out ((row3.next B2).news_drop j) flatPr_one (by unfold maxLen; omega) (by omega) B2.size ?_; intro v3 w3 hown3 hgr3 hno3)
              | (refine wpList_append_own _ rfl _ _ 24 rfl wt.heap.size 40 i0 (.agg #[.int .i64 0, .int .i64 0, .int .i64 0, .int .i64 0, .int .i64 0, .int .i64 0]) 6 48 Tryd.underlying24 HI0.out HZ0.out HZ1.out HZ2.out rfl (by decide) _ _ _ rfl (hown1.alloc _) ⟨w1.heap.size, 0, none⟩ 1 1 e.cells rfl rfl (cell_six_new w1 e _) (by simp [Pr.cells, Value.oneCell']) (by unfold maxLen; omega) (by omega) (by have := B1.size; simp; omega) ?_; intro v2 w2 hown2 hgr2 hno2; have B2 := grown_belowN (B1.alloc (by have := B1.size; omega) _) (by have := B1.size; simp; omega) hgr2 (fun k e => (hown1.lt k e).1))
              | (refine wpList_append_own _ rfl _ _ 24 rfl wt.heap.size 40 i0 (.agg #[.int .i64 0, .int .i64 0, .int .i64 0, .int .i64 0, .int .i64 0, .int .i64 0]) 6 48 Tryd.underlying24 HI0.out HZ0.out HZ1.out HZ2.out rfl (by decide) _ _ _ rfl HM.out ⟨g, 0, none⟩ j _ (flatPr (R.take j)) rfl HL1.out H4.out flatPr_one (by unfold maxLen; omega) (by omega) bn.size ?_; intro v1 w1 hown1 hgr1 hno1; have B1 := grown_belowN bn bn.size hgr1 (fun k e => (HM.out.lt k e).1); obtain ⟨d0, d1, d2, d3, d4, d5⟩ := prs_cell (h.next (hB.trans (B1.mono hsz))) HE.out)))
            have B3 := grown_belowN B2 B2.size hgr3 (fun k e => (hown2.lt k e).1)
            have hne : v3 ≠ .slice none 0 0 := fun e3 => by
              have := (hno2.1 (hno3.1 e3).1).2
              omega
            obtain ⟨g3, c3, R3, hv3, hR3, row5, hRk⟩ := ref_done w wt w3 l hI j n j hlt hn e HE R hR hj HA.out hst.out v3 (by rw [Nat.sub_self]; exact hown3) hne hsz
            go_roundw
            case rel => exact ⟨j + 1, g3, c3, R3, by omega, by go_num, hv3, hR3, row5, hRk, hB.trans (B3.mono hsz)⟩
            case measure => simp [intOf]; omega
    · have ek : k = n := by omega
      have HR : Hid (R = rkV l) := by
        have := hR.out
        rw [ek, hn.out, List.take_length] at this
        exact Lib.hid this
      rw [HR.out] at hrow
      clear hR
      subst ek
      go_wp2_with fail
      go_returns
      exact ⟨g, c, rfl, hrow, hb⟩
end Go.Proofs.YtfcmcelhndppnaaDoor
