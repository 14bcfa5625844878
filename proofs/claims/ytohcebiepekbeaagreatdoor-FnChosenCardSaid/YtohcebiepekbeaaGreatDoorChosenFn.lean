/- Who is chosen is one of those that agree; what is told lies between the offsets of these: at all drawn peers. -/
import Derived.Test.YtohcebiepekbeaaGreatDoorChosenI
import Derived.Test.YtohcebiepekbeaaGreatDoorChosenS
import Derived.Test.YtohcebiepekbeaaGreatDoorMgb
import Derived.Test.YtohcebiepekbeaaGreatDoorCombBt
import Derived.Test.YtohcebiepekbeaaGreatDoorTie
import Derived.Test.YtohcebiepekbeaaGreatDoorCards
namespace Go.Proofs.YtohcebiepekbeaaGreatDoor
open Go.ChangeShapes Go.WideShapes Go.ChangeAt Go.RowKit
set_option linter.unusedVariables false
set_option linter.unusedSimpArgs false

theorem places_more {l : List Pr} {u v : Int} {c : List Int} (hM : MajIs (ivsOf l) u v true) (hC : ChimIs (ivsOf l) c) : (l.length : Int) < 2 * (c.length : Int) := by
  obtain ⟨lo, hi, M, hA, _, _, hb⟩ := hM
  obtain ⟨lo', hi', M', hA', rfl⟩ := hC
  obtain ⟨rfl, rfl, rfl⟩ := hA.same hA'
  have hb' : ¬ (2 * M ≤ ((ivsOf l).length : Int)) := by simpa using hb.symm
  have hM0 : M ≠ 0 := by omega
  rw [if_neg hM0]
  have hd : (depthOf (ivsOf l) lo : Int) = M := by
    rcases hA with ⟨_, _, h⟩ | ⟨_, _, _, h⟩
    · exact h.depth
    · omega
  rw [ivsOf_length] at hb'
  have hl : ((placesOf (ivsOf l) lo).length : Int) = M := by rw [placesOf_length]; exact hd
  omega
theorem choL_in {l : List Pr} {c : List Int} {v : Pr} (h : v ∈ choL l c) : v ∈ goodL l c := rkV_mem.1 ((leftN_sub _ _).subset h)
/-- One that is among those at the places. -/
theorem goodL_in {l : List Pr} {c : List Int} {v : Pr} (h : v ∈ goodL l c) : ∃ (k : Nat) (i : Int), c[k]? = some i ∧ l[i.toNat]? = some v := by
  obtain ⟨i, hi, hv⟩ := List.mem_filterMap.1 h
  obtain ⟨k, hk, e⟩ := List.mem_iff_getElem.1 hi
  exact ⟨k, i, by rw [List.getElem?_eq_getElem hk, e], hv⟩
/-- What is needed of what is told. -/
structure Told (l : List Pr) (c : List Int) (o id : Int) : Prop where
  who : ∃ (k : Nat) (i : Int) (v : Pr), c[k]? = some i ∧ l[i.toNat]? = some v ∧ v.id = id
  bt : ∀ p q : Int, (∀ (k : Nat) (i : Int) (v : Pr), c[k]? = some i → l[i.toNat]? = some v → p ≤ v.s.off ∧ v.s.off ≤ q) → p ≤ o ∧ o ≤ q
  more : (l.length : Int) < 2 * (c.length : Int)
theorem told_of {l : List Pr} {u v : Int} {c : List Int} (hA : AllSm l) (hM : MajIs (ivsOf l) u v true) (hC : ChimIs (ivsOf l) c) : Told l c (combV (choL l c)) (headId (choL l c)) := by
  have hP := places_of hM hC
  have hpos := choL_pos hP
  refine ⟨?_, fun p q hpq => ?_, places_more hM hC⟩
  · obtain ⟨v, hv⟩ := getP (l := choL l c) (k := 0) hpos
    obtain ⟨k, i, hk, hi⟩ := goodL_in (choL_in (List.mem_of_getElem? hv))
    exact ⟨k, i, v, hk, hi, (headId_at hv).symm⟩
  · exact combV_in (choL_all hP hA) hpos fun v hv => by
      obtain ⟨k, i, hk, hi⟩ := goodL_in (choL_in hv)
      exact hpq k i v hk hi
theorem cho_no {l : List Pr} {o id : Int} (h : ChoIs l o id false) : o = 0 ∧ id = 0 := by
  rcases h with ⟨_, rfl, rfl, _⟩ | ⟨_, u, v, m, _, ⟨_, rfl, rfl, _⟩ | ⟨_, h, _⟩⟩
  · exact ⟨rfl, rfl⟩
  · exact ⟨rfl, rfl⟩
  · cases h
theorem cho_yes {l : List Pr} {o id : Int} (h : ChoIs l o id true) : okPrs l = true ∧ ∀ c, ChimIs (ivsOf l) c → Places l c ∧ Told l c o id := by
  rcases h with ⟨_, _, _, h⟩ | ⟨ho, u, v, m, hM, ⟨_, _, _, h⟩ | ⟨rfl, _, c, hC, rfl, rfl⟩⟩
  · cases h
  · cases h
  · refine ⟨ho, fun c' hC' => ?_⟩
    obtain rfl := hC.same hC'
    exact ⟨places_of hM hC, told_of (okPrs_all ho).1 hM hC⟩
/-- Is it there already, among so many? -/
def seenId (l : List Pr) (c : List Int) (id : Int) (k : Nat) : Bool := (c.take k).any fun i => match l[i.toNat]? with | some v => v.id == id | none => false
theorem seenId_next {l : List Pr} {c : List Int} {id : Int} {k : Nat} {i : Int} {v : Pr} (h : c[k]? = some i) (hv : l[i.toNat]? = some v) : seenId l c id (k + 1) = (seenId l c id k || (v.id == id)) := by
  unfold seenId
  rw [takeP h, List.any_append]
  simp [hv]
theorem seenId_all {l : List Pr} {c : List Int} {id : Int} (h : ∃ (k : Nat) (i : Int) (v : Pr), c[k]? = some i ∧ l[i.toNat]? = some v ∧ v.id = id) : seenId l c id c.length = true := by
  obtain ⟨k, i, v, hk, hv, e⟩ := h
  unfold seenId
  rw [List.take_length, List.any_eq_true]
  exact ⟨i, List.mem_of_getElem? hk, by rw [hv]; simpa using e⟩
set_option maxRecDepth 100000 in
set_option maxHeartbeats 4000000 in
theorem cn_walk (w : World) {ao an au : Addr} (L : Ld w ao an au) (x : Option Addr) (n cap z : Nat) (hz : z = n ∧ Code w.heap.size w (.slice x n cap) n) :
    Calls Tryz.prog 6 #[.slice x n cap] w fun e w' => e = .returned (.bool true) ∧ Below w.heap.size w w' := by
  obtain ⟨_, hc⟩ := hz
  by_cases hbig : n ≤ 1048576
  · obtain ⟨i0, hi, hz0, hz1, hz2⟩ := info_partsT infoIv'
    have HI0 := Lib.hid hi
    have HZ0 := Lib.hid hz0
    have HZ1 := Lib.hid hz1
    have HZ2 := Lib.hid hz2
    clear hi hz0 hz1 hz2
    go_enter Tryz.func6, Tryz.ntmps6
    go_wp2_with (go_at_call 11; go_in)
    refine (drawChosen_c x n cap _ hc hbig).mono ?_
    rintro e w1 ⟨y, cy, l, rfl, hl7, hlc, hcm, hP, hb1⟩
    obtain ⟨m, hm⟩ : ∃ m, m = l.length := ⟨_, rfl⟩
    rw [← hm] at hl7 hlc ⊢
    have HM := Lib.hid hm
    have hmm : m ≤ maxLen := by unfold maxLen; omega
    clear hm
    go_wp2_with fail
    refine (chosen_impl l m HM hmm y cy _ hP (L.next hb1)).mono ?_
    rintro e w2 ⟨o, id, b, rfl, hO, hb2⟩
    have g2 := grow_next hb1 hb2
    have P2 := hP.next hb2
    have HO := Lib.hid hO
    clear hP hO
    go_wp2_with fail
    refine (chosen_spec l m HM hmm y cy _ P2).mono ?_
    rintro e w3 ⟨o', id', b', rfl, hO', hb3⟩
    obtain ⟨e1, e2, e3⟩ := HO.out.same hO'
    subst e1 e2 e3
    clear hO'
    have g3 := grow_next g2 hb3
    have P3 := P2.next hb3
    clear P2
    cases b with
    | false =>
      obtain ⟨e1, e2⟩ := cho_no HO.out
      clear HO
      subst e1 e2
      go_wp2_with fail
      go_returns
      exact ⟨rfl, g3⟩
    | true =>
      obtain ⟨ho, hT⟩ := cho_yes HO.out
      have hA := (okPrs_all ho).1
      have HIL : Hid (m = (ivsOf l).length) := Lib.hid (by rw [ivsOf_length]; exact HM.out)
      have HT := Lib.hid hT
      clear ho hT HO
      have bn : Below w3.heap.size w3 (w3.alloc (.cells #[] 45)) := below_new _ _
      go_wp2_with fail
      go_loopw [10, 11] (fun a i wr => ∃ k : Nat, k ≤ m ∧ i = .int .i64 k ∧ wr.ownsRow w3.heap.size 45 2 a k (flatIv (ivsOf (l.take k))) ∧ Below w3.heap.size w3 wr) (fun _ i _ => m - (intOf i).toNat)
      case atStart => exact ⟨0, Nat.zero_le _, rfl, World.ownsRow_made (base := w3.heap.size) (e := 45) (size := 2) w3 #[] 0 (Nat.le_refl _) (by simp [maxLen]) rfl, bn⟩
      case round =>
        obtain ⟨k, hkm, rfl, hrow, hb⟩ := hrel
        by_cases hlt : k < m
        · obtain ⟨v, hv⟩ := getP (l := l) (k := k) (by rw [← HM.out]; exact hlt)
          obtain ⟨b, off, rfl, hbB, c0, c1, c2, c3, c4, c5⟩ := (P3.next hb).at_ hv
          have hC := fun W {ao an au} L => @intervalOf_impl v.s W ao an au L
          rw [ivV_yes (hA.at_ hv)] at hC
          have hF : flatIv (ivsOf (l.take (k + 1))) = flatIv (ivsOf (l.take k)) ++ (ivOf v.s).cells := by rw [ivsOf_next hv, flatIv_append]; simp [flatIv]
          obtain ⟨q, hq⟩ : ∃ q, ivOf v.s = q := ⟨_, rfl⟩
          rw [hq] at hC hF
          have HF := Lib.hid hF
          have HC := Lib.hid hC
          have gr := grow_next g3 hb
          clear hv hC hF hq
          go_wp2_with fail
          refine (HC.out _ (L.next gr)).mono ?_
          rintro e w4 ⟨rfl, hb4⟩
          have hs2 : wr.heap.size ≤ w4.heap.size := hb4.size
          have B3 := hb4.alloc hs2 (.cells #[.int .i64 q.lo, .int .i64 q.hi] 45)
          have hrow3 := Lib.hid (own_next hrow B3)
          have hbw := hb.size
          have B4 := (hb.trans (B3.mono hbw))
          have HN5 := Lib.hid (show ∀ j z, q.cells[j]? = some z → ((w4.alloc (.cells #[.int .i64 q.lo, .int .i64 q.hi] 45)).alloc (.cells #[.int .i64 q.lo, .int .i64 q.hi] 45)).cell? ((⟨w4.heap.size + 1, 0, none⟩ : Addr).add j) = some z by have := cell_two_new (w4.alloc (.cells #[.int .i64 q.lo, .int .i64 q.hi] 45)) (.int .i64 q.lo) (.int .i64 q.hi) 45; rw [World.size_alloc] at this; exact this)
          clear hrow
          go_wp2_with (at_builtin; go_loud (refine wpList_append_own _ rfl _ _ 43 rfl w3.heap.size 45 i0 (.agg #[.int .i64 0, .int .i64 0]) 2 16 Tryz.underlying43 HI0.out HZ0.out HZ1.out HZ2.out rfl (by decide) _ _ _ rfl (hrow3.out.alloc _) ⟨w4.heap.size + 1, 0, none⟩ 1 1 q.cells rfl rfl HN5.out (by simp [Iv.cells, Value.oneCell']) (by unfold maxLen; omega) (by omega) (by have := B4.size; simp at this ⊢; omega) ?_); intro v' w5 hown' hgrow _)
          have B5 := (B4.alloc B4.size (.cells #[.int .i64 q.lo, .int .i64 q.hi] 45)).grown hgrow (by have := B4.size; simp at this ⊢; omega) (fun g hg => (hrow3.out.lt g hg).1)
          go_roundw
          case rel => exact ⟨k + 1, by omega, by go_num, by rw [HF.out]; exact hown', B5⟩
          case measure => simp [intOf]; omega
        · have e : k = m := by omega
          have e1 : l.take k = l := by rw [e, HM.out, List.take_length]
          rw [e1] at hrow
          subst e
          obtain ⟨yi, ci, rfl, hIv⟩ := ivRow_form hrow HIL.out
          have HIv := Lib.hid hIv.ivs
          have gb := grow_next g3 hb
          have Pk := P3.next hb
          clear hrow hIv e1
          go_wp2_with fail
          refine (chimers_impl (ivsOf l) k HIL (by omega) yi ci _ HIv.out).mono ?_
          rintro e w5 ⟨c, hC, vc, rfl, hoc, hb5⟩
          obtain ⟨yc, cc, rfl⟩ := ownsRow_formT hoc
          obtain ⟨hPl, hTo⟩ := HT.out c hC
          have B5 := grow_next gb hb5
          have P5 := Pk.next hb5
          obtain ⟨q, hq⟩ : ∃ q, q = c.length := ⟨_, rfl⟩
          have hq0 : 0 < q := by rw [hq]; exact hPl.pos
          have hqn : q ≤ k := by rw [hq, HM.out]; exact hPl.le
          have HQ := Lib.hid hq
          rw [← hq] at hoc ⊢
          obtain ⟨g, rfl⟩ : ∃ g, yc = some ⟨g, 0, none⟩ := by
            rcases hoc.2 with ⟨e, e0⟩ | ⟨g, c', cur, e, _⟩
            · omega
            · simp only [Value.slice.injEq] at e
              exact ⟨g, e.1⟩
          have hAt : ∀ j, j < q → ∃ (p : Nat) (v : Pr), c[j]? = some (p : Int) ∧ l[p]? = some v ∧ p < k ∧ w5.cell? ⟨g, j, none⟩ = some (.int .i64 (p : Int)) := fun j hj => by
            obtain ⟨i, hi⟩ := getP (l := c) (k := j) (by rw [← HQ.out]; exact hj)
            obtain ⟨i0', i1'⟩ := hPl.in_ i (List.mem_of_getElem? hi)
            obtain ⟨p, rfl⟩ := Int.eq_ofNat_of_zero_le i0'
            have hpk : p < k := by rw [HM.out]; simpa using i1'
            obtain ⟨v, hv⟩ := getP (l := l) (k := p) (by rw [← HM.out]; exact hpk)
            have ci := World.ownsRow.cellAt hoc j (by omega)
            rw [List.getElem?_map, hi] at ci
            exact ⟨p, v, hi, hv, hpk, ci⟩
          have HAT := Lib.hid hAt
          have HTO := Lib.hid hTo
          clear hAt hTo hPl hC hoc hq HIv
          obtain ⟨p0, v0, hc0, hv0, hp0, cell0⟩ := HAT.out 0 hq0
          obtain ⟨b, off, rfl, _⟩ := P5.at_ hv0
          obtain ⟨d0, d1, d2, d3, d4, d5⟩ := prs_cell P5 hv0
          have hp0' : (p0 : Int) < (k : Int) := by omega
          have hq0' : (0 : Int) < (q : Int) := by omega
          clear hc0 hv0
          go_wp2_with fail
          go_loopw [15, 16, 17, 18] (fun lo hi s i wr' => ∃ (j : Nat) (a r : Int) (t : Bool), j ≤ q ∧ i = .int .i64 j ∧ lo = .int .i64 a ∧ hi = .int .i64 r ∧ s = .bool t ∧ Hid (seenId l c id j = t) ∧ Hid (∀ (e : Nat) (i : Int) (v : Pr), e < j → c[e]? = some i → l[i.toNat]? = some v → a ≤ v.s.off ∧ v.s.off ≤ r) ∧ w5 = wr') (fun _ _ _ i _ => q - (intOf i).toNat)
          case atStart => exact ⟨0, _, _, false, Nat.zero_le _, rfl, rfl, rfl, rfl, Lib.hid (by simp [seenId]), Lib.hid (fun e _ _ he => by omega), rfl⟩
          case round =>
            obtain ⟨j, a, r, t, hjq, rfl, rfl, rfl, rfl, HSEEN, HB, rfl⟩ := hrel
            by_cases hj : j < q
            · obtain ⟨p, v, hcj, hvp, hpk, cellj⟩ := HAT.out j hj
              obtain ⟨c0, c1, c2, c3, c4, c5⟩ := prs_cell P5 hvp
              obtain ⟨f, hf⟩ : ∃ f, v.s.off = f := ⟨_, rfl⟩
              obtain ⟨t', ht'⟩ : ∃ t, (v.id == id) = t := ⟨_, rfl⟩
              have hnx := seenId_next (id := id) hcj (show l[((p : Int)).toNat]? = some v from hvp)
              rw [HSEEN.out, ht'] at hnx
              rw [hf] at c2
              have step : ∀ a' r' : Int, a' ≤ a → a' ≤ f → r ≤ r' → f ≤ r' → Hid (∀ (e : Nat) (i : Int) (v : Pr), e < j + 1 → c[e]? = some i → l[i.toNat]? = some v → a' ≤ v.s.off ∧ v.s.off ≤ r') := fun a' r' h1 h2 h3 h4 => Lib.hid (fun e i v' he hi hv' => by
                rcases Nat.lt_or_ge e j with hej | hej
                · have := HB.out e i v' hej hi hv'; omega
                · obtain rfl : e = j := by omega
                  rw [hcj] at hi
                  simp only [Option.some.injEq] at hi
                  subst hi
                  rw [show ((p : Int)).toNat = p from rfl, hvp] at hv'
                  simp only [Option.some.injEq] at hv'
                  rw [← hv', hf]
                  omega)
              have STEP := Lib.hid step
              have HNX := Lib.hid hnx
              have hpk' : (p : Int) < (k : Int) := by omega
              have hjq' : (j : Int) < (q : Int) := by omega
              clear step hnx hcj hvp hf c1 c3 c4 c5
              by_cases h1 : f < a <;> by_cases h2 : r < f <;> cases t <;> cases t'
              all_goals
                first | have e1 := decide_eq_false h1 | have e1 := decide_eq_true h1
                first | have e2 := decide_eq_false h2 | have e2 := decide_eq_true h2
                go_wp2_with fail
                go_roundw
                case rel => exact ⟨j + 1, _, _, _, by omega, by go_num, rfl, rfl, rfl, HNX, STEP.out _ _ (by omega) (by omega) (by omega) (by omega), by first | rfl | trivial⟩
                case measure => simp [intOf]; omega
            · have e : j = q := by omega
              have hbt := HTO.out.bt a r (fun e' i v he hv => HB.out e' i v (by
                have := (List.getElem?_eq_some_iff.1 he).1
                rw [e, HQ.out]; exact this) he hv)
              have hse := seenId_all HTO.out.who
              rw [← HQ.out, ← e, HSEEN.out] at hse
              subst hse
              have h1 : decide (a ≤ o) = true := decide_eq_true hbt.1
              have h2 : decide (o ≤ r) = true := decide_eq_true hbt.2
              have hmo := HTO.out.more
              rw [← HM.out, ← HQ.out] at hmo
              have hw : IntKind.i64.wrap (2 * (q : Int)) = 2 * (q : Int) := IntWalk.i64_in _ (by omega)
              have h3 : decide ((k : Int) < 2 * (q : Int)) = true := decide_eq_true hmo
              clear hbt hmo e
              go_wp2_with fail
              go_returns
              exact ⟨rfl, B5⟩
  · go_enter Tryz.func6, Tryz.ntmps6
    go_wp2_with (go_at_call 11; go_in)
    go_returns
    exact ⟨rfl, Below.refl _ _⟩
theorem cn_met (os : Os) (args : Array Value) : laidMetH Tryz.prog Rows.fnChosenRow.laid ((World.doorLaid Tryz.prog 400 os).forCall (fun _ _ => 0) ⟨#[], args, []⟩).memory :=
  laidMetH_of_parts3 (fuel := 8) (laidMet_of_run' 8 (by kernel_rfl) (by kernel_rfl)) (by kernel_rfl) (by kernel_rfl)
set_option maxRecDepth 100000 in
theorem cn_lifted (os : Os) (started : os.Started) (H : Type) (enc : TypeId × Value → H) :
    ReturnsInHanded {} Tryz.checked os 6 .any (fun w args => (Rows.fnChosenSpec.pre enc Tryz.prog Tryz.f6 [] false w args ∧ laidMetH Tryz.prog Rows.fnChosenRow.laid w) ∧ sizedMet enc Tryz.prog Tryz.f6 (OpenSpec.ofChange Rows.fnChosenSpec) false w args) (Rows.fnChosenSpec.post enc Tryz.prog Tryz.f6 false true false false) := by
  refine lifted_of_walk_laid (C := Tryz.checked) own started (by as_aux_lemma => kernel_rfl) Tryz.func6
    (ChangeSpec.witness_shaped (enc := enc) (C := Tryz.checked) (os := os) (X := fun w _ => laidMetH Tryz.prog Rows.fnChosenRow.laid w) false (World.doorLaid Tryz.prog 400 os) #[.slice none 0 0] 8 rfl (World.shaped_of_RefB (by kernel_rfl) (by kernel_rfl)) (by kernel_rfl) (by kernel_rfl) (by kernel_rfl) (cn_met os _))
    laidOut (by as_aux_lemma => kernel_rfl) (by as_aux_lemma => kernel_rfl) rfl boolType
    (fun ds gs h hg => by
      match ds, gs, h, hg with
      | [_], [_, _, _], _, _ => rfl)
    ?_
  intro W base args ds q hval hA hL
  have laidRow : Rows.fnChosenRow.laid = Rows.fnChosenRow.laid := rfl
  obtain ⟨ao, an, au, L⟩ := ld_of hL (by simp [Rows.fnChosenRow, handleD, sentD, Rows.laid_errors_errorType, Rows.laid_loop_example_g00656_impl_errNoTime, Rows.laid_loop_example_g00656_impl_errOutside, Rows.laid_loop_example_g00656_impl_errUnsure]) (by simp [Rows.fnChosenRow, handleD, sentD, Rows.laid_errors_errorType, Rows.laid_loop_example_g00656_impl_errNoTime, Rows.laid_loop_example_g00656_impl_errOutside, Rows.laid_loop_example_g00656_impl_errUnsure]) (by simp [Rows.fnChosenRow, handleD, sentD, Rows.laid_errors_errorType, Rows.laid_loop_example_g00656_impl_errNoTime, Rows.laid_loop_example_g00656_impl_errOutside, Rows.laid_loop_example_g00656_impl_errUnsure]) (by simp [Rows.fnChosenRow, handleD, sentD, Rows.laid_errors_errorType, Rows.laid_loop_example_g00656_impl_errNoTime, Rows.laid_loop_example_g00656_impl_errOutside, Rows.laid_loop_example_g00656_impl_errUnsure])
  clear hL
  rw [Tryz.params6] at hA hval
  obtain ⟨v0, vs0, d0, ds0, p0, q0, hargs, rfl, rfl, h0, r0⟩ := trodAll_cons hA
  obtain ⟨rfl, rfl, rfl⟩ := trodAll_nil r0
  obtain rfl : args = #[v0] := by cases args; simp_all
  obtain ⟨a0, len0, cap0, z0, rfl, w0⟩ := open_bytes Tryz.underlying28 Tryz.underlying5 (by as_aux_lemma => kernel_rfl) (hval 0 28 v0 rfl rfl) h0
  exact cn_walk W L a0 len0 cap0 z0 w0

set_option maxHeartbeats 4000000 in
theorem cn_facts : joinedFacts Tryz.pinned.checked.prog 6 Tryz.f6 Rows.fnChosenSpec Rows.fnChosenRow = true :=
  facts_of (P := Tryz.prog) (by as_aux_lemma => kernel_rfl) laidOut mapsRow (by as_aux_lemma => kernel_rfl) (by as_aux_lemma => kernel_rfl) rfl noStops rfl noKnobs (by as_aux_lemma => kernel_rfl) (by as_aux_lemma => kernel_rfl) (by as_aux_lemma => kernel_rfl) (by as_aux_lemma => kernel_rfl) (by as_aux_lemma => kernel_rfl) (by as_aux_lemma => kernel_rfl) (by as_aux_lemma => kernel_rfl) (by as_aux_lemma => kernel_rfl) (by as_aux_lemma => kernel_rfl) (by as_aux_lemma => kernel_rfl) (by as_aux_lemma => kernel_rfl) (by as_aux_lemma => kernel_rfl) (by as_aux_lemma => kernel_rfl) keysPlain rfl heard enters finals isMake rfl rfl rfl (by as_aux_lemma => kernel_rfl) (by as_aux_lemma => kernel_rfl)

theorem cn_row : Rows.FnChosenSaid :=
  OpenClaim.holds_of_wide 6 Tryz.f6 rfl rfl rfl rfl rfl rfl rfl ⟨rfl, rfl, rfl, rfl, rfl⟩ rfl rfl rfl rfl rfl (by as_aux_lemma => kernel_rfl) Tryz.func6 cn_facts
    (of_decide_eq_true (by as_aux_lemma => kernel_rfl)) (by unfold Func.isWrapper; first | (rw [if_pos (by decide +kernel)]; kernel_rfl) | (rw [if_neg (by decide +kernel)]; exact ⟨rfl, rfl⟩))
    (fun os started H enc _ => cn_lifted os started H enc)

/-- The given statement. -/
theorem cn_holds : Rows.FnChosenCardSaid :=
  Claim7.holds_tied_plain_at .later [] Rows.fnChosenCard.laidKinds true Rows.fnChosenCard.stood.harness true
    cn_row (fun _ h => by cases h) (by kernel_rfl) (fun _ h => by cases h) fnChosen_row_tie rfl ⟨rfl, rfl⟩ (by kernel_rfl) rfl
    (fun f fn hf hfn => by
      obtain rfl : f = 6 := Option.some.inj ((show Tryz.prog.funcNamed "loop.example/g00656/laws.FnChosen" = some 6 by kernel_rfl).symm.trans hf) |>.symm
      obtain rfl : fn = Tryz.f6 := (Option.some.inj (Tryz.func6.symm.trans hfn)).symm
      exact ⟨by kernel_rfl, fun j t ht => noStandIn (by rw [Tryz.params6]; kernel_rfl) j t ht⟩)
    (by kernel_rfl)
#print axioms cn_holds
end Go.Proofs.YtohcebiepekbeaaGreatDoor
