/- Who is chosen: the program's way. -/
import Derived.Test.YtohcebiepekbeaaGreatDoorChosenM
import Derived.Test.YtohcebiepekbeaaGreatDoorSurvI
import Derived.Test.YtohcebiepekbeaaGreatDoorIvRow
namespace Go.Proofs.YtohcebiepekbeaaGreatDoor
open Go.ChangeShapes Go.WideShapes Go.ChangeAt Go.RowKit Go.Sort
set_option linter.unusedVariables false
set_option linter.unusedSimpArgs false

/-- Their intervals, in a row of the call's own. -/
def IvsPost (w : World) (l : List Pr) (n : Nat) : Ending → World → Prop := fun e w' => ∃ v, e = .returned v ∧ w'.ownsRow w.heap.size 45 2 v n (flatIv (ivsOf l)) ∧ Below w.heap.size w w'

set_option maxRecDepth 100000 in
set_option maxHeartbeats 2000000 in
theorem intervalsOf_c (l : List Pr) (hA : AllSm l) (n : Nat) (hn : Hid (n = l.length)) (hm : n ≤ 100) (x : Option Addr) (cap : Nat) (w : World) (h : Prs w.heap.size w x l) {ao an au : Addr} (L : Ld w ao an au) :
    Calls Tryz.prog 45 #[.slice x n cap] w (IvsPost w l n) := by
  obtain ⟨i0, hi, hz0, hz1, hz2⟩ := info_partsT infoIv'
  have HI0 := Lib.hid hi
  have HZ0 := Lib.hid hz0
  have HZ1 := Lib.hid hz1
  have HZ2 := Lib.hid hz2
  clear hi hz0 hz1 hz2
  go_enter Tryz.func45, Tryz.ntmps45
  go_wp2
  go_loopw [3, 10] (fun o i wr => ∃ k : Nat, k ≤ n ∧ i = .int .i64 k ∧ wr.ownsRow w.heap.size 45 2 o k (flatIv (ivsOf (l.take k))) ∧ Below w.heap.size w wr) (fun _ i _ => n - (intOf i).toNat)
  case atStart => exact ⟨0, Nat.zero_le _, rfl, World.ownsRow_nil _ _ _ _, Below.refl _ _⟩
  case round =>
    obtain ⟨k, hk, rfl, hrow, hb⟩ := hrel
    by_cases hlt : k < n
    · obtain ⟨v, hv⟩ := getP (l := l) (k := k) (by rw [← hn.out]; exact hlt)
      obtain ⟨b, off, rfl, hbB, c0, c1, c2, c3, c4, c5⟩ := (h.next hb).at_ hv
      have hC := fun W {ao an au} L => @intervalOf_impl v.s W ao an au L
      rw [ivV_yes (hA.at_ hv)] at hC
      have hF : flatIv (ivsOf (l.take (k + 1))) = flatIv (ivsOf (l.take k)) ++ (ivOf v.s).cells := by rw [ivsOf_next hv, flatIv_append]; simp [flatIv]
      obtain ⟨q, hq⟩ : ∃ q, ivOf v.s = q := ⟨_, rfl⟩
      rw [hq] at hC hF
      have HF := Lib.hid hF
      have HC := Lib.hid hC
      have B1 : Below wr.heap.size wr (wr.alloc (.cells #[.int .i64 v.id, .int .i64 v.str, .int .i64 v.s.off, .int .i64 v.s.delay, .int .i64 v.s.disp, .int .i64 v.s.at_] 49)) := below_new _ _
      clear hv hC hF hq
      go_wp2_with fail
      refine (HC.out _ ((L.next hb).next B1)).mono ?_
      rintro e w1 ⟨rfl, hb1⟩
      have B2 := grow_next B1 hb1
      have hs2 : wr.heap.size ≤ w1.heap.size := B2.size
      have B3 := B2.alloc hs2 (.cells #[.int .i64 q.lo, .int .i64 q.hi] 45)
      have hrow3 := Lib.hid (own_next hrow B3)
      have hbw := hb.size
      have B4 := (hb.trans (B3.mono hbw))
      have HN5 := Lib.hid (show ∀ j z, q.cells[j]? = some z → ((w1.alloc (.cells #[.int .i64 q.lo, .int .i64 q.hi] 45)).alloc (.cells #[.int .i64 q.lo, .int .i64 q.hi] 45)).cell? ((⟨w1.heap.size + 1, 0, none⟩ : Addr).add j) = some z by have := cell_two_new (w1.alloc (.cells #[.int .i64 q.lo, .int .i64 q.hi] 45)) (.int .i64 q.lo) (.int .i64 q.hi) 45; rw [World.size_alloc] at this; exact this)
      clear hrow
      go_wp2_with (at_builtin; go_loud (refine wpList_append_own _ rfl _ _ 43 rfl w.heap.size 45 i0 (.agg #[.int .i64 0, .int .i64 0]) 2 16 Tryz.underlying43 HI0.out HZ0.out HZ1.out HZ2.out rfl (by decide) _ _ _ rfl (hrow3.out.alloc _) ⟨w1.heap.size + 1, 0, none⟩ 1 1 q.cells rfl rfl HN5.out (by simp [Iv.cells, Value.oneCell']) (by unfold maxLen; omega) (by omega) (by have := B4.size; simp at this ⊢; omega) ?_); intro v' w4 hown' hgrow _)
      have B5 := (B4.alloc B4.size (.cells #[.int .i64 q.lo, .int .i64 q.hi] 45)).grown hgrow (by have := B4.size; simp at this ⊢; omega) (fun g hg => (hrow3.out.lt g hg).1)
      go_roundw
      case rel => exact ⟨k + 1, by omega, by go_num, by rw [HF.out]; exact hown', B5⟩
      case measure => simp [intOf]; omega
    · have e : k = n := by omega
      have hr' : wr.ownsRow w.heap.size 45 2 u3 n (flatIv (ivsOf l)) := by
        have : l.take k = l := by rw [e, hn.out, List.take_length]
        rw [this, e] at hrow
        exact hrow
      clear e hrow
      go_wp2_with fail
      go_returns
      exact ⟨_, rfl, hr', hb⟩

theorem ivRow_form {base n : Nat} {W : World} {v : Value} {l : List Iv} (h : W.ownsRow base 45 2 v n (flatIv l)) (hn : n = l.length) : ∃ x cap, v = .slice x n cap ∧ IvRow base W x cap l := by
  subst hn
  obtain ⟨x, cap, rfl⟩ := ownsRow_formT h
  exact ⟨x, cap, rfl, h⟩

/-- Pointers to those at the places. -/
def ChimAt (B : Nat) (wr : World) (l : List Pr) (c : List Int) (o : Value) (k : Nat) : Prop :=
  ∃ (y : Option Addr) (cy : Nat) (E : List Pt), o = .slice y k cy ∧ Hid (k = E.length) ∧ PtRow B wr y cy E ∧ Held B wr E ∧ Hid (valsP E = goodL l (c.take k))
theorem ptRow_form {base n : Nat} {W : World} {v : Value} {E : List Pt} (h : W.ownsRow base 75 1 v n (ptC E)) (hn : n = E.length) : ∃ x cap, v = .slice x n cap ∧ PtRow base W x cap E := by
  subst hn
  obtain ⟨x, cap, rfl⟩ := ownsRow_formT h
  exact ⟨x, cap, rfl, h⟩

set_option maxRecDepth 100000 in
set_option maxHeartbeats 4000000 in
theorem chosen_impl (l : List Pr) (n : Nat) (hn : Hid (n = l.length)) (hm : n ≤ maxLen) (x : Option Addr) (cap : Nat) (w : World) (h : Prs w.heap.size w x l) {ao an au : Addr} (L : Ld w ao an au) :
    Calls Tryz.prog 20 #[.slice x n cap] w (ChoPost w l) := by
  cases ho : okPrs l with
  | false =>
    have HO := Lib.hid (show Calls Tryz.prog 44 #[.slice x n cap] w fun e w' => e = .returned (.bool false) ∧ Below w.heap.size w w' from ho ▸ peersOk_impl l n hn hm x cap w h L)
    have HZ : Hid (ChoIs l 0 0 false) := Lib.hid (.inl ⟨ho, rfl, rfl, rfl⟩)
    clear ho
    go_enter Tryz.func20, Tryz.ntmps20
    go_wp2_with fail
    refine (HO.out).mono ?_
    rintro e w1 ⟨rfl, hb1⟩
    go_wp2_with fail
    go_returns
    exact ⟨0, 0, false, rfl, HZ.out, hb1⟩
  | true =>
    have HO := Lib.hid (show Calls Tryz.prog 44 #[.slice x n cap] w fun e w' => e = .returned (.bool true) ∧ Below w.heap.size w w' from ho ▸ peersOk_impl l n hn hm x cap w h L)
    obtain ⟨hA, hl⟩ := okPrs_all ho
    have hI := okPrs_ids ho
    have hn20 : n ≤ 20 := by have := hn.out; omega
    have HK := Lib.hid ho
    have HIL : Hid (n = (ivsOf l).length) := Lib.hid (by rw [ivsOf_length]; exact hn.out)
    obtain ⟨i0, hi, hz0, hz1, hz2⟩ := info_partsT infoPtr
    have HI0 := Lib.hid hi
    have HZ0 := Lib.hid hz0
    have HZ1 := Lib.hid hz1
    have HZ2 := Lib.hid hz2
    clear ho hl hi hz0 hz1 hz2
    go_enter Tryz.func20, Tryz.ntmps20
    go_wp2_with fail
    refine (HO.out).mono ?_
    rintro e w1 ⟨rfl, hb1⟩
    go_wp2_with fail
    refine (intervalsOf_c l hA n hn (by omega) x cap _ (h.next hb1) (L.next hb1)).mono ?_
    rintro e w2 ⟨v, rfl, ho2, hb2⟩
    obtain ⟨y, cy, rfl, r2⟩ := ivRow_form ho2 HIL.out
    have g2 := grow_next hb1 hb2
    clear ho2
    go_wp2_with fail
    refine ((majority_impl (ivsOf l) n HIL (by omega) y cy _ r2.ivs).mono fun _ _ h => maj_told h).mono ?_
    rintro e w3 ⟨u, v, m, rfl, hM, hb3⟩
    have g3 := grow_next g2 hb3
    have hsz3 : w.heap.size ≤ w3.heap.size := g3.size
    have HM := Lib.hid hM
    clear hM
    cases m with
    | false =>
      have HZ : Hid (ChoIs l 0 0 false) := Lib.hid (.inr ⟨HK.out, u, v, false, HM.out, .inl ⟨rfl, rfl, rfl, rfl⟩⟩)
      go_wp2_with fail
      go_returns
      exact ⟨0, 0, false, rfl, HZ.out, g3.alloc hsz3 _⟩
    | true =>
      have B4 : Below w.heap.size w (w3.alloc (.cells #[.int .i64 u, .int .i64 v] 45)) := g3.alloc hsz3 _
      have r4 := Lib.hid ((r2.next hb3).next (below_new w3 (.cells #[.int .i64 u, .int .i64 v] 45))).ivs
      clear r2
      go_wp2_with fail
      refine (chimers_impl (ivsOf l) n HIL (by omega) y cy _ r4.out).mono ?_
      rintro e w5 ⟨c, hC, vc, rfl, hoc, hb5⟩
      obtain ⟨yc, cc, rfl⟩ := ownsRow_formT hoc
      have hP := places_of HM.out hC
      have HC := Lib.hid hC
      have B5 := grow_next B4 hb5
      obtain ⟨q, hq⟩ : ∃ q, q = c.length := ⟨_, rfl⟩
      have hq0 : 0 < q := by rw [hq]; exact hP.pos
      have hqn : q ≤ n := by rw [hq, hn.out]; exact hP.le
      have HQ := Lib.hid hq
      rw [← hq] at hoc ⊢
      have HOC := Lib.hid hoc
      have HP := Lib.hid hP
      clear hoc hC hP hq
      obtain ⟨b, off, rfl⟩ : ∃ b off, x = some ⟨b, off, none⟩ := by
        obtain ⟨u, hu⟩ := getP (l := l) (k := 0) (by rw [← hn.out]; omega)
        obtain ⟨b, off, e, _⟩ := h.at_ hu
        exact ⟨b, off, e⟩
      go_wp2_with fail
      go_loopw [8, 27] (fun o i wr => ∃ k : Nat, k ≤ q ∧ i = .int .i64 k ∧ ChimAt w5.heap.size wr l c o k ∧ Below w5.heap.size w5 wr) (fun _ i _ => q - (intOf i).toNat)
      case atStart => exact ⟨0, Nat.zero_le _, rfl, ⟨none, 0, [], rfl, Lib.hid rfl, World.ownsRow_nil _ _ _ _, fun z hz => by simp at hz, Lib.hid rfl⟩, Below.refl _ _⟩
      case round =>
        obtain ⟨k, hk, rfl, ⟨ye, ce, E, rfl, hE, hrow, hheld, hV⟩, hb⟩ := hrel
        have hsw : w5.heap.size ≤ wr.heap.size := hb.size
        by_cases hlt : k < q
        · obtain ⟨i, hi⟩ := getP (l := c) (k := k) (by rw [← HQ.out]; exact hlt)
          obtain ⟨i0', i1'⟩ := HP.out.in_ i (List.mem_of_getElem? hi)
          obtain ⟨j, rfl⟩ := Int.eq_ofNat_of_zero_le i0'
          have hjn : j < n := by rw [hn.out]; simpa using i1'
          obtain ⟨v', hv'⟩ := getP (l := l) (k := j) (by rw [← hn.out]; exact hjn)
          have hpa := (h.next B5).to_at hv'
          have hoc' := own_next HOC.out hb
          obtain ⟨g, hg⟩ : ∃ g, yc = some ⟨g, 0, none⟩ := by
            rcases hoc'.2 with ⟨e, e0⟩ | ⟨g, c', cur, e, _⟩
            · omega
            · simp only [Value.slice.injEq] at e
              exact ⟨g, e.1⟩
          subst hg
          have ci := World.ownsRow.cellAt hoc' k (by omega)
          rw [List.getElem?_map, hi] at ci
          simp only [Option.map_some] at ci
          have hN := goodL_next (l := l) hi (by simpa using hv')
          have HE' : Hid (k + 1 = (E ++ [(⟨⟨b, off + j * 6, none⟩, v'⟩ : Pt)]).length) := Lib.hid (by simp [← hE.out])
          have HV' : Hid (valsP (E ++ [(⟨⟨b, off + j * 6, none⟩, v'⟩ : Pt)]) = goodL l (c.take (k + 1))) := Lib.hid (by rw [hN, ← hV.out]; simp [valsP])
          have HA' := Lib.hid (show PrAt w5.heap.size wr ⟨b, off + j * 6, none⟩ v' ∧ v'.s.ok = true from ⟨hpa.below hb, hA.at_ hv'⟩)
          have hjz : ((j : Int) < (n : Int)) := by omega
          have HO9 : Hid (wr.ownsRow w5.heap.size 75 1 (.slice ye k ce) k (ptC E)) := Lib.hid (by have := hrow; unfold PtRow at this; rwa [← hE.out] at this)
          clear hi hv' hpa hoc' hN hrow i1' i0'
          go_wp2_with (at_builtin; go_loud (refine wpList_append_own _ rfl _ _ 74 rfl w5.heap.size 75 i0 (.pointer none) 1 8 Tryz.underlying74 HI0.out HZ0.out HZ1.out HZ2.out rfl (by decide) _ _ _ rfl (HO9.out.alloc _) ⟨wr.heap.size, 0, none⟩ 1 1 [.pointer (some ⟨b, off + j * 6, none⟩)] rfl rfl (by simpa using cell_one_ptr wr (.pointer (some ⟨b, off + j * 6, none⟩)) 75) (by simp [Value.oneCell']) (by unfold maxLen; omega) (by omega) (by simp; omega) ?_); intro v9 w9 hown9 hgr9 hno9)
          have B9 : Below w5.heap.size w5 w9 := (hb.alloc hsw (.cells #[.pointer (some ⟨b, off + j * 6, none⟩)] 75)).grown hgr9 (by simp; omega) (fun g hg => (HO9.out.lt g hg).1)
          have B8 : Below w5.heap.size wr w9 := ((Below.refl _ _).alloc hsw (.cells #[.pointer (some ⟨b, off + j * 6, none⟩)] 75)).grown hgr9 (by simp; omega) (fun g hg => (HO9.out.lt g hg).1)
          have hown9' : w9.ownsRow w5.heap.size 75 1 v9 (k + 1) (ptC (E ++ [(⟨⟨b, off + j * 6, none⟩, v'⟩ : Pt)])) := by rw [ptC_append]; exact hown9
          obtain ⟨y9, c9, hv9, hrow9⟩ := ptRow_form hown9' HE'.out
          have hheld9 : Held w5.heap.size w9 (E ++ [(⟨⟨b, off + j * 6, none⟩, v'⟩ : Pt)]) := fun z hz => by
            rcases List.mem_append.1 hz with hz | hz
            · exact ⟨(hheld z hz).1.below B8, (hheld z hz).2⟩
            · simp at hz
              subst hz
              exact ⟨HA'.out.1.below B8, HA'.out.2⟩
          go_roundw
          case rel => exact ⟨k + 1, by omega, by go_num, ⟨y9, c9, _, hv9, HE', hrow9, hheld9, HV'⟩, B9⟩
          case measure => simp [intOf]; omega
        · have e : k = q := by omega
          subst e
          have hV' : valsP E = goodL l c := by rw [hV.out, HQ.out, List.take_length]
          have hPt := hrow.ptrs hheld hsw
          rw [hV'] at hPt
          have HG : Hid (k = (goodL l c).length) := Lib.hid (by rw [HP.out.length]; exact HQ.out)
          have hbw := B5.trans (hb.mono B5.size)
          have HPT := Lib.hid hPt
          clear hV' hV hrow hheld hPt
          go_wp2_with fail
          refine (survI_c (goodL l c) (HP.out.all hA) (HP.out.ids hI) k HG (by omega) 3 (by omega) ye ce _ HPT.out (L.next hbw)).mono ?_
          rintro e w6 ⟨y6, c6, m6, E6, rfl, hE6, hO6, hV6, hb6⟩
          have B6 := grow_next hbw hb6
          have hlen6 : m6 = (choL l c).length := by rw [hE6.out, ← valsP_len, hV6.out]; rfl
          have hpos6 : 0 < m6 := by rw [hlen6]; exact choL_pos HP.out
          have hm6 : m6 ≤ 20 := by have := choL_le HP.out; have := hn.out; omega
          obtain ⟨z, hz⟩ := getP (l := E6) (k := 0) (by rw [← hE6.out]; exact hpos6)
          obtain ⟨g6, rfl, _, cz⟩ := hO6.row.at_ hz
          obtain ⟨zb, zo, hza, hzB, d0, _⟩ := (hO6.held.at_ hz).1
          have hhd : headId (choL l c) = z.v.id := by
            have := valsP_at hz
            rw [hV6.out] at this
            exact headId_at this
          have hP6 := hO6.row.ptrs hO6.held hb6.size
          rw [hV6.out] at hP6
          have HM6 := Lib.hid hlen6
          have hC6 := fun W h {ao an au} L => @combined_impl (choL l c) (choL_all HP.out hA) m6 HM6 hpos6 hm6 (some ⟨g6, 0, none⟩) c6 W h ao an au L
          have KA := Lib.hid (fun d os => Calls.regrown_of (hC6 (grow (redrawn w6 d) os) (hP6.next (below_regrown w6 d os)) ((L.next B6).next (below_regrown w6 d os))))
          have kx := cell_regrown cz
          rw [hza] at kx
          have ky := cell_regrown d0
          have HH := Lib.hid hhd
          have hpz : (0 : Int) < (m6 : Int) := by omega
          clear hhd hz hza cz d0 hC6 hP6 hlen6
          go_wp2_with fail
          refine wp_region_quiet_below (by kernel_rfl) (by kernel_rfl) ?_
          repeat ((with_reducible refine wpQuiet_step (fun K hK => ?_)); go_simp; first | ((with_reducible refine hK _ ?_); clear hK K) | (rw [if_neg (by intro h; exact nomatch h)]; (with_reducible refine hK _ ?_); clear hK K) | (apply Exists.intro; (with_reducible refine ⟨fun _ => ?_, hK _ ?_⟩); (with_reducible exact KA.out _ _); clear hK K))
          with_reducible refine wpQuiet_nil ?_
          intro _ hw'
          obtain ⟨⟨dq1, osq1⟩, hw''⟩ := hw'
          subst hw''
          have g7 := below_regrown w6 dq1 osq1
          generalize hW1 : grow (redrawn w6 dq1) osq1 = W7 at *
          clear hW1 kx ky KA
          go_wp2_with fail
          go_returns
          exact ⟨combV (choL l c), z.v.id, true, rfl, .inr ⟨HK.out, u, v, true, HM.out, .inr ⟨rfl, rfl, c, HC.out, rfl, HH.out.symm⟩⟩, grow_next B6 g7⟩
end Go.Proofs.YtohcebiepekbeaaGreatDoor
