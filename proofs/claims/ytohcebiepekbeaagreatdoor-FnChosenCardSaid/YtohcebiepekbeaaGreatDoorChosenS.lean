/- Who is chosen: the reference's way. -/
import Derived.Test.YtohcebiepekbeaaGreatDoorChosenM
import Derived.Test.YtohcebiepekbeaaGreatDoorSurvS
import Derived.Test.YtohcebiepekbeaaGreatDoorCombS
import Derived.Test.YtohcebiepekbeaaGreatDoorIvRow
namespace Go.Proofs.YtohcebiepekbeaaGreatDoor
open Go.ChangeShapes Go.WideShapes Go.ChangeAt Go.RowKit Go.Sort
set_option linter.unusedVariables false
set_option linter.unusedSimpArgs false

theorem ivRow_formS {base n : Nat} {W : World} {v : Value} {l : List Iv} (h : W.ownsRow base 45 2 v n (flatIv l)) (hn : n = l.length) : ∃ x cap, v = .slice x n cap ∧ IvRow base W x cap l := by
  subst hn
  obtain ⟨x, cap, rfl⟩ := ownsRow_formT h
  exact ⟨x, cap, rfl, h⟩

theorem tag_apart {w : World} {b1 b2 : Nat} {e1 e2 : TypeId} {s1 s2 : Nat} {v1 v2 : Value} {n1 n2 : Nat} {xs1 xs2 : List Value} (h1 : w.ownsRow b1 e1 s1 v1 n1 xs1) (h2 : w.ownsRow b2 e2 s2 v2 n2 xs2) (hne : e1 ≠ e2) : v1.ownBlock = none ∨ v1.ownBlock ≠ v2.ownBlock := by
  rcases h1.2 with ⟨e, _⟩ | ⟨g, c, cur, e, _, hg, _⟩
  · left; rw [e]; rfl
  · right
    rw [e]
    rcases h2.2 with ⟨e', _⟩ | ⟨g', c', cur', e', _, hg', _⟩
    · rw [e']; simp [Value.ownBlock]
    · rw [e']
      intro hb
      simp [Value.ownBlock] at hb
      subst hb
      rw [hg] at hg'
      simp at hg'
      exact hne hg'.2

set_option maxRecDepth 100000 in
set_option maxHeartbeats 8000000 in
theorem chosen_spec (l : List Pr) (n : Nat) (hn : Hid (n = l.length)) (hm : n ≤ maxLen) (x : Option Addr) (cap : Nat) (w : World) (h : Prs w.heap.size w x l) :
    Calls Tryz.prog 18 #[.slice x n cap] w (ChoPost w l) := by
  cases ho : okPrs l with
  | false =>
    have HO := Lib.hid (show Calls Tryz.prog 25 #[.slice x n cap] w fun e w' => e = .returned (.bool false) ∧ Below w.heap.size w w' from ho ▸ peersOk_spec l n hn hm x cap w h)
    have HZ : Hid (ChoIs l 0 0 false) := Lib.hid (.inl ⟨ho, rfl, rfl, rfl⟩)
    clear ho
    go_enter Tryz.func18, Tryz.ntmps18
    go_wp2_with fail
    refine (HO.out).mono ?_
    rintro e w1 ⟨rfl, hb1⟩
    go_wp2_with fail
    go_returns
    exact ⟨0, 0, false, rfl, HZ.out, hb1⟩
  | true =>
    have HO := Lib.hid (show Calls Tryz.prog 25 #[.slice x n cap] w fun e w' => e = .returned (.bool true) ∧ Below w.heap.size w w' from ho ▸ peersOk_spec l n hn hm x cap w h)
    obtain ⟨hA, hl⟩ := okPrs_all ho
    have hI := okPrs_ids ho
    have hn20 : n ≤ 20 := by have := hn.out; omega
    have HK := Lib.hid ho
    have HIL : Hid (n = (ivsOf l).length) := Lib.hid (by rw [ivsOf_length]; exact hn.out)
    clear ho hl
    rcases Nat.eq_zero_or_pos n with hz | hnp
    · -- none at all: no more than half agree
      have hl0 : l = [] := List.eq_nil_of_length_eq_zero (by rw [← hn.out]; exact hz)
      have HZ : Hid (ChoIs l 0 0 false) := by
        subst hl0
        exact Lib.hid (.inr ⟨HK.out, 0, 0, false, ⟨0, 0, 0, .inr ⟨.inr rfl, rfl, rfl, rfl⟩, by simp [ivsOf], by simp [ivsOf], by simp [ivsOf]⟩, .inl ⟨rfl, rfl, rfl, rfl⟩⟩)
      have hzz : ((n : Int) == 0) = true := by rw [hz]; rfl
      have hzz' : (n : Int) = 0 := by omega
      clear hl0
      subst hz
      go_enter Tryz.func18, Tryz.ntmps18
      go_wp2_with fail
      refine (HO.out).mono ?_
      rintro e w1 ⟨rfl, hb1⟩
      go_wp2_with fail
      go_returns
      exact ⟨0, 0, false, rfl, HZ.out, hb1⟩
    · have hzz : ((n : Int) == 0) = false := by simp; omega
      have hzz' : ¬ (n : Int) = 0 := by omega
      obtain ⟨b, off, rfl⟩ : ∃ b off, x = some ⟨b, off, none⟩ := by
        obtain ⟨u, hu⟩ := getP (l := l) (k := 0) (by rw [← hn.out]; omega)
        obtain ⟨b, off, e, _⟩ := h.at_ hu
        exact ⟨b, off, e⟩
      obtain ⟨j0, hj0, hy0, hy1, hy2⟩ := info_partsT infoIv'
      have HJ0 := Lib.hid hj0
      have HY0 := Lib.hid hy0
      have HY1 := Lib.hid hy1
      have HY2 := Lib.hid hy2
      obtain ⟨i0, hi, hz0, hz1, hz2⟩ := info_partsT infoPr'
      have HI0 := Lib.hid hi
      have HZ0 := Lib.hid hz0
      have HZ1 := Lib.hid hz1
      have HZ2 := Lib.hid hz2
      clear hi hz0 hz1 hz2 hj0 hy0 hy1 hy2
      go_enter Tryz.func18, Tryz.ntmps18
      go_wp2_with fail
      refine (HO.out).mono ?_
      rintro e w1 ⟨rfl, hb1⟩
      have hs1 : w.heap.size ≤ w1.heap.size := hb1.size
      go_wp2_with fail
      go_loopw [5, 6] (fun o i wr => ∃ k : Nat, k ≤ n ∧ i = .int .i64 k ∧ wr.ownsRow w.heap.size 45 2 o k (flatIv (ivsOf (l.take k))) ∧ Below w.heap.size w wr) (fun _ i _ => n - (intOf i).toNat)
      case atStart => exact ⟨0, Nat.zero_le _, rfl, World.ownsRow_made (base := w.heap.size) (e := 45) (size := 2) w1 #[] 0 hs1 (by simp [maxLen]) rfl, hb1.alloc hs1 _⟩
      case round =>
        obtain ⟨k, hk, rfl, hrow, hb⟩ := hrel
        by_cases hlt : k < n
        · obtain ⟨v, hv⟩ := getP (l := l) (k := k) (by rw [← hn.out]; exact hlt)
          obtain ⟨c0, c1, c2, c3, c4, c5⟩ := prs_cell (h.next hb) hv
          have hC := fun W => intervalOf_spec v.s W
          rw [ivV_yes (hA.at_ hv)] at hC
          have hF : flatIv (ivsOf (l.take (k + 1))) = flatIv (ivsOf (l.take k)) ++ (ivOf v.s).cells := by rw [ivsOf_next hv, flatIv_append]; simp [flatIv]
          obtain ⟨q, hq⟩ : ∃ q, ivOf v.s = q := ⟨_, rfl⟩
          rw [hq] at hC hF
          have HF := Lib.hid hF
          have HC := Lib.hid hC
          clear hv hC hF hq
          go_wp2_with fail
          refine (HC.out _).mono ?_
          rintro e w2 ⟨rfl, hb2⟩
          have hs2 : wr.heap.size ≤ w2.heap.size := hb2.size
          have B3 := hb2.alloc hs2 (.cells #[.int .i64 q.lo, .int .i64 q.hi] 45)
          have hrow3 := Lib.hid (own_next hrow B3)
          have B4 := (hb.trans (B3.mono hb.size))
          have HN5 := Lib.hid (show ∀ j z, q.cells[j]? = some z → ((w2.alloc (.cells #[.int .i64 q.lo, .int .i64 q.hi] 45)).alloc (.cells #[.int .i64 q.lo, .int .i64 q.hi] 45)).cell? ((⟨w2.heap.size + 1, 0, none⟩ : Addr).add j) = some z by have := cell_two_new (w2.alloc (.cells #[.int .i64 q.lo, .int .i64 q.hi] 45)) (.int .i64 q.lo) (.int .i64 q.hi) 45; rw [World.size_alloc] at this; exact this)
          clear hrow
          go_wp2_with (at_builtin; go_loud (refine wpList_append_own _ rfl _ _ 43 rfl w.heap.size 45 j0 (.agg #[.int .i64 0, .int .i64 0]) 2 16 Tryz.underlying43 HJ0.out HY0.out HY1.out HY2.out rfl (by decide) _ _ _ rfl (hrow3.out.alloc _) ⟨w2.heap.size + 1, 0, none⟩ 1 1 q.cells rfl rfl HN5.out (by simp [Iv.cells, Value.oneCell']) (by unfold maxLen; omega) (by omega) (by have := B4.size; simp at this ⊢; omega) ?_); intro v' w4 hown' hgrow _)
          have B5 := (B4.alloc B4.size (.cells #[.int .i64 q.lo, .int .i64 q.hi] 45)).grown hgrow (by have := B4.size; simp at this ⊢; omega) (fun g hg => (hrow3.out.lt g hg).1)
          go_roundw
          case rel => exact ⟨k + 1, by omega, by go_num, by rw [HF.out]; exact hown', B5⟩
          case measure => simp [intOf]; omega
        · have e : k = n := by omega
          have hr' : wr.ownsRow w.heap.size 45 2 u5 n (flatIv (ivsOf l)) := by
            have : l.take k = l := by rw [e, hn.out, List.take_length]
            rw [this, e] at hrow
            exact hrow
          obtain ⟨y, cy, rfl, r2⟩ := ivRow_formS hr' HIL.out
          clear e hrow hr'
          obtain ⟨w2, rfl⟩ : ∃ w2, w2 = wr := ⟨_, rfl⟩
          have g2 := hb
          clear hb
          go_wp2_with fail
          refine ((majority_spec (ivsOf l) n HIL (by omega) y cy _ r2.ivs).mono fun _ _ h => maj_told h).mono ?_
          rintro e w3 ⟨u, v, m, rfl, hM, hb3⟩
          have g3 := grow_next g2 hb3
          have hsz3 : w.heap.size ≤ w3.heap.size := g3.size
          have HM := Lib.hid hM
          clear hM
          cases m with
          | false =>
            have HZ : Hid (ChoIs l 0 0 false) := Lib.hid (.inr ⟨HK.out, u, v, false, HM.out, .inl ⟨rfl, rfl, rfl, rfl⟩⟩)
            go_wp2_with fail
            go_returns
            exact ⟨0, 0, false, rfl, HZ.out, g3.alloc hsz3 _⟩
          | true =>
            have B4 : Below w.heap.size w (w3.alloc (.cells #[.int .i64 u, .int .i64 v] 45)) := g3.alloc hsz3 _
            obtain ⟨w4, hw4⟩ : ∃ w4, w4 = (w3.alloc (.cells #[.int .i64 u, .int .i64 v] 45)).alloc (.cells #[] 49) := ⟨_, rfl⟩
            have B4' : Below w.heap.size w ((w3.alloc (.cells #[.int .i64 u, .int .i64 v] 45)).alloc (.cells #[] 49)) := B4.alloc B4.size _
            have r4 := Lib.hid (((r2.next hb3).next (below_new w3 (.cells #[.int .i64 u, .int .i64 v] 45))).next (below_new (w3.alloc (.cells #[.int .i64 u, .int .i64 v] 45)) (.cells #[] 49))).ivs
            have HM0 := Lib.hid (World.ownsRow_made (base := w3.heap.size) (e := 49) (size := 6) (w3.alloc (.cells #[.int .i64 u, .int .i64 v] 45)) #[] 0 (by simp) (by simp [maxLen]) rfl)
            clear r2 hw4
            go_wp2_with fail
            refine (chimers_spec (ivsOf l) n HIL (by omega) y cy _ r4.out).mono ?_
            rintro e w5 ⟨c, hC, vc, rfl, hoc, hb5⟩
            obtain ⟨yc, cc, rfl⟩ := ownsRow_formT hoc
            have hP := places_of HM.out hC
            have HC := Lib.hid hC
            have B5 := grow_next B4' hb5
            have HM5 := Lib.hid (own_next HM0.out hb5)
            obtain ⟨q, hq⟩ : ∃ q, q = c.length := ⟨_, rfl⟩
            have hq0 : 0 < q := by rw [hq]; exact hP.pos
            have hqn : q ≤ n := by rw [hq, hn.out]; exact hP.le
            have HQ := Lib.hid hq
            rw [← hq] at hoc ⊢
            have HOC := Lib.hid hoc
            have HP := Lib.hid hP
            clear hoc hC hP hq
            have HM6 := Lib.hid (show w5.ownsRow w.heap.size 49 6 (.slice (some ⟨w3.heap.size + 1, 0, none⟩) 0 0) 0 [] by have := own_lower HM5.out hsz3; rw [World.size_alloc] at this; exact this)
            go_wp2_with fail
            go_loopw [11, 13] (fun o i wr => ∃ k : Nat, k ≤ q ∧ i = .int .i64 k ∧ wr.ownsRow w.heap.size 49 6 o k (flatPr (goodL l (c.take k))) ∧ wr.ownsRow 0 2 1 (.slice yc q cc) q (c.map (Value.int .i64)) ∧ Below w.heap.size w wr) (fun _ i _ => q - (intOf i).toNat)
            case atStart => exact ⟨0, Nat.zero_le _, rfl, HM6.out, own_lower HOC.out (Nat.zero_le _), B5⟩
            case round =>
              obtain ⟨k, hk, rfl, hrow, hoc', hb⟩ := hrel
              have hsw : w.heap.size ≤ wr.heap.size := hb.size
              by_cases hlt : k < q
              · obtain ⟨i, hi⟩ := getP (l := c) (k := k) (by rw [← HQ.out]; exact hlt)
                obtain ⟨i0', i1'⟩ := HP.out.in_ i (List.mem_of_getElem? hi)
                obtain ⟨j, rfl⟩ := Int.eq_ofNat_of_zero_le i0'
                have hjn : j < n := by rw [hn.out]; simpa using i1'
                obtain ⟨v', hv'⟩ := getP (l := l) (k := j) (by rw [← hn.out]; exact hjn)
                obtain ⟨c0, c1, c2, c3, c4, c5⟩ := prs_cell (h.next hb) hv'
                obtain ⟨g, hg⟩ : ∃ g, yc = some ⟨g, 0, none⟩ := by
                  rcases hoc'.2 with ⟨e, e0⟩ | ⟨g, c', cur, e, _⟩
                  · omega
                  · simp only [Value.slice.injEq] at e
                    exact ⟨g, e.1⟩
                subst hg
                have ci := World.ownsRow.cellAt hoc' k (by omega)
                rw [List.getElem?_map, hi] at ci
                simp only [Option.map_some] at ci
                have hN := goodL_next (l := l) hi (by simpa using hv')
                have HF := Lib.hid (show flatPr (goodL l (c.take (k + 1))) = flatPr (goodL l (c.take k)) ++ v'.cells by rw [hN, flatPr_append]; simp [flatPr])
                have hjz : ((j : Int) < (n : Int)) := by omega
                have HO9 := Lib.hid hrow
                have HC9 := Lib.hid hoc'
                have HT9 := Lib.hid (tag_apart hoc' hrow (by decide))
                clear hi hv' hN hrow i1' i0' hoc'
                go_wp2_with (at_builtin; go_loud (refine wpList_append_own _ rfl _ _ 38 rfl w.heap.size 49 i0 (.agg #[.int .i64 0, .int .i64 0, .int .i64 0, .int .i64 0, .int .i64 0, .int .i64 0]) 6 48 Tryz.underlying38 HI0.out HZ0.out HZ1.out HZ2.out rfl (by decide) _ _ _ rfl (HO9.out.alloc _) ⟨wr.heap.size, 0, none⟩ 1 1 v'.cells rfl rfl (cell_six_new wr v' _) (by simp [Pr.cells, Value.oneCell']) (by unfold maxLen; omega) (by omega) (by simp; omega) ?_); intro v9 w9 hown9 hgr9 hno9)
                have B9 : Below w.heap.size w w9 := (hb.alloc hsw (.cells #[.int .i64 v'.id, .int .i64 v'.str, .int .i64 v'.s.off, .int .i64 v'.s.delay, .int .i64 v'.s.disp, .int .i64 v'.s.at_] 49)).grown hgr9 (by simp; omega) (fun g hg => (HO9.out.lt g hg).1)
                have hc9 := World.ownsRow.kept (HC9.out.alloc (.cells #[.int .i64 v'.id, .int .i64 v'.str, .int .i64 v'.s.off, .int .i64 v'.s.delay, .int .i64 v'.s.disp, .int .i64 v'.s.at_] 49)) hgr9 HT9.out
                go_roundw
                case rel => exact ⟨k + 1, by omega, by go_num, by rw [HF.out]; exact hown9, hc9, B9⟩
                case measure => simp [intOf]; omega
              · have e : k = q := by omega
                subst e
                have e1 : c.take k = c := by rw [HQ.out, List.take_length]
                rw [e1] at hrow
                have HG : Hid (k = (goodL l c).length) := Lib.hid (by rw [HP.out.length]; exact HQ.out)
                obtain ⟨yg, cg, rfl, hpr⟩ := prRow_form hrow HG.out
                have HPR := Lib.hid hpr
                have HRL : Hid (k = (rkV (goodL l c)).length) := Lib.hid (by rw [rkV_length]; exact HG.out)
                obtain ⟨m6, hm6⟩ : ∃ m, m = (choL l c).length := ⟨_, rfl⟩
                have hpos6 : 0 < m6 := by rw [hm6]; exact choL_pos HP.out
                have hm620 : m6 ≤ 20 := by have := choL_le HP.out; have := hn.out; omega
                have HM7 := Lib.hid hm6
                clear hrow hpr e1 hoc' hm6
                go_wp2_with fail
                refine (l6Rank_c (goodL l c) (HP.out.all hA) (HP.out.ids hI) k HG (by omega) yg cg _ HPR.out.prs).mono ?_
                rintro e w6 ⟨g6, c6, rfl, hr6, hb6⟩
                have B6 := grow_next hb hb6
                have hc6 := hr6.cap_
                rw [← HRL.out] at hc6
                have HR6 := Lib.hid hr6.prs
                clear hr6
                go_wp2_with fail
                refine (l6Left_c (rkV (goodL l c)) (rkV_all (HP.out.all hA)) k HRL (by omega) 3 (by omega) g6 0 c6 hc6.1 hc6.2 _ HR6.out m6 HM7).mono ?_
                rintro e w7 ⟨b7, o7, c7, rfl, hp7, hb7⟩
                have B7 := grow_next B6 hb7
                obtain ⟨z, hz⟩ := getP (l := choL l c) (k := 0) (by rw [← HM7.out]; exact hpos6)
                obtain ⟨d0, _⟩ := prs_cell hp7 hz
                have hhd := headId_at hz
                simp only [Nat.zero_mul, Nat.add_zero] at d0
                have hC7 := fun W h => combined_spec (choL l c) (choL_all HP.out hA) m6 HM7 hpos6 hm620 (some ⟨b7, o7, none⟩) c7 W h
                have KA := Lib.hid (fun d os => Calls.regrown_of (hC7 (grow (redrawn w7 d) os) (Prs.next hp7 (below_regrown w7 d os))))
                have ky := cell_regrown d0
                have HH := Lib.hid hhd
                have hpz : (0 : Int) < (m6 : Int) := by omega
                clear hhd hz d0 hC7
                go_wp2_with fail
                refine wp_region_quiet_below (by kernel_rfl) (by kernel_rfl) ?_
                repeat ((with_reducible refine wpQuiet_step (fun K hK => ?_)); go_simp; first | ((with_reducible refine hK _ ?_); clear hK K) | (rw [if_neg (by intro h; exact nomatch h)]; (with_reducible refine hK _ ?_); clear hK K) | (apply Exists.intro; (with_reducible refine ⟨fun _ => ?_, hK _ ?_⟩); (with_reducible exact KA.out _ _); clear hK K))
                with_reducible refine wpQuiet_nil ?_
                intro _ hw'
                obtain ⟨⟨dq1, osq1⟩, hw''⟩ := hw'
                subst hw''
                have g7 := below_regrown w7 dq1 osq1
                generalize hW1 : grow (redrawn w7 dq1) osq1 = W7 at *
                clear hW1 ky KA
                go_wp2_with fail
                go_returns
                exact ⟨combV (choL l c), z.id, true, rfl, .inr ⟨HK.out, u, v, true, HM.out, .inr ⟨rfl, rfl, c, HC.out, rfl, HH.out.symm⟩⟩, grow_next B7 g7⟩
end Go.Proofs.YtohcebiepekbeaaGreatDoor
