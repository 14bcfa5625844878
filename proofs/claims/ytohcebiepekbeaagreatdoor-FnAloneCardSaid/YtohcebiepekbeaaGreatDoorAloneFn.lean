/- Who is alone is chosen, with its own offset; of two that are apart nobody is: at all drawn peers. -/
import Derived.Test.YtohcebiepekbeaaGreatDoorChosenFn
import Derived.Test.YtohcebiepekbeaaGreatDoorAgreeLess
namespace Go.Proofs.YtohcebiepekbeaaGreatDoor
open Go.ChangeShapes Go.WideShapes Go.ChangeAt Go.RowKit
set_option linter.unusedVariables false
set_option linter.unusedSimpArgs false

theorem okFrom_low : ∀ (l : List Pr) {a b : Int}, b ≤ a → okFrom a l = true → okFrom b l = true
  | [], _, _, _, _ => rfl
  | v :: l, a, b, h, h' => by
    simp only [okFrom, Bool.and_eq_true, decide_eq_true_eq] at h' ⊢
    exact ⟨⟨h'.1.1, by omega⟩, h'.2⟩
theorem okFrom_sub {m l : List Pr} (h : m.Sublist l) : ∀ {a : Int}, okFrom a l = true → okFrom a m = true := by
  induction h with
  | slnil => intro a h; exact h
  | cons v h ih =>
    intro a h'
    simp only [okFrom, Bool.and_eq_true, decide_eq_true_eq] at h'
    exact ih (okFrom_low _ (by omega) h'.2)
  | cons_cons v h ih =>
    intro a h'
    simp only [okFrom, Bool.and_eq_true, decide_eq_true_eq] at h' ⊢
    exact ⟨h'.1, ih h'.2⟩
theorem okPrs_sub {m l : List Pr} (h : m.Sublist l) (ho : okPrs l = true) : okPrs m = true := by
  unfold okPrs at *
  rw [Bool.and_eq_true] at *
  refine ⟨okFrom_sub h ho.1, ?_⟩
  have := h.length_le
  have := of_decide_eq_true ho.2
  exact decide_eq_true (by omega)
theorem cho_flag {l : List Pr} {o id : Int} {b : Bool} (h : ChoIs l o id b) (ho : okPrs l = true) (hne : l ≠ []) :
    ∃ lo hi M : Int, AgreedIs (ivsOf l) lo hi M ∧ okAll (ivsOf l) = true ∧ b = !decide (2 * M ≤ (l.length : Int)) := by
  have hA := (okPrs_all ho).1
  have hal : okAll (ivsOf l) = true := by
    unfold okAll ivsOf
    rw [List.all_map, List.all_eq_true]
    exact fun v hv => ivOf_ok (hA v hv)
  have hok : okIvs (ivsOf l) = true := by
    unfold okIvs
    rw [hal, ivsOf_length]
    exact decide_eq_true (okPrs_all ho).2
  have hne' : ivsOf l ≠ [] := by
    intro e
    exact hne (List.map_eq_nil_iff.1 e)
  rcases h with ⟨h, _⟩ | ⟨_, u, v, m, ⟨lo, hi, M, hAg, _, _, hm⟩, hb⟩
  · rw [ho] at h; cases h
  · rcases hAg with ⟨_, _, hAg⟩ | ⟨h | h, _⟩
    · refine ⟨lo, hi, M, hAg, hal, ?_⟩
      rw [ivsOf_length] at hm
      rcases hb with ⟨e, _, _, rfl⟩ | ⟨e, rfl, _⟩
      · rw [← hm, e]
      · rw [← hm, e]
    · rw [hok] at h; cases h
    · exact absurd h hne'
theorem cho_told {l : List Pr} {o id : Int} (h : ChoIs l o id true) : ∃ c, Places l c ∧ Told l c o id := by
  rcases h with ⟨_, _, _, h⟩ | ⟨ho, u, v, m, hM, ⟨_, _, _, h⟩ | ⟨rfl, _, c, hC, rfl, rfl⟩⟩
  · cases h
  · cases h
  · exact ⟨c, places_of hM hC, told_of (okPrs_all ho).1 hM hC⟩
theorem cho_one {v : Pr} {o id : Int} {b : Bool} (h : ChoIs [v] o id b) (ho : okPrs [v] = true) : b = true ∧ o = v.s.off ∧ id = v.id := by
  obtain ⟨lo, hi, M, hA, _, hb⟩ := cho_flag h ho (by simp)
  have hd := hA.depth
  have hle := depthOf_le (ivsOf [v]) lo
  rw [ivsOf_length] at hle
  have hM : M ≤ 1 := by
    rw [show ([v] : List Pr).length = 1 from rfl] at hle
    omega
  have hp := hA.pos
  have : b = true := by
    rw [hb, show ([v] : List Pr).length = 1 from rfl]
    simp
    omega
  subst this
  obtain ⟨c, hP, hT⟩ := cho_told h
  refine ⟨rfl, ?_, ?_⟩
  · have := hT.bt v.s.off v.s.off (fun k i w _ hw => by
      obtain ⟨hlt, e⟩ := List.getElem?_eq_some_iff.1 hw
      have e' : [v][i.toNat] = v := by simp
      rw [e'] at e
      subst e
      omega)
    omega
  · obtain ⟨k, i, w, _, hw, e⟩ := hT.who
    obtain ⟨hlt, e2⟩ := List.getElem?_eq_some_iff.1 hw
    have e' : [v][i.toNat] = v := by simp
    rw [e'] at e2
    subst e2
    exact e.symm
theorem cho_two {u v : Pr} {o id : Int} {b : Bool} (h : ChoIs [u, v] o id b) (ho : okPrs [u, v] = true) : b = (decide ((ivOf u.s).lo ≤ (ivOf v.s).hi) && decide ((ivOf v.s).lo ≤ (ivOf u.s).hi)) := by
  obtain ⟨lo, hi, M, hA, hal, hb⟩ := cho_flag h ho (by simp)
  have e : ivsOf [u, v] = [ivOf u.s, ivOf v.s] := rfl
  rw [e] at hA hal
  have hu : (ivOf u.s).lo ≤ (ivOf u.s).hi := ok_of hal (by simp)
  have hv : (ivOf v.s).lo ≤ (ivOf v.s).hi := ok_of hal (by simp)
  have hd := hA.depth
  have hp := hA.pos
  have two : ∀ p : Int, depthOf [ivOf u.s, ivOf v.s] p = (if inB (ivOf u.s).lo p (ivOf u.s).hi then 1 else 0) + (if inB (ivOf v.s).lo p (ivOf v.s).hi then 1 else 0) := fun p => by
    unfold depthOf
    rw [List.countP_cons, List.countP_cons, List.countP_nil]
    omega
  rw [hb]
  simp only [List.length_cons, List.length_nil]
  by_cases hov : (ivOf u.s).lo ≤ (ivOf v.s).hi ∧ (ivOf v.s).lo ≤ (ivOf u.s).hi
  · have ht := hA.top hal (max (ivOf u.s).lo (ivOf v.s).lo)
    rw [two, inB_yes (by omega) (by omega), inB_yes (by omega) (by omega)] at ht
    rw [decide_eq_true hov.1, decide_eq_true hov.2]
    simp at ht ⊢
    omega
  · have hM : M ≤ 1 := by
      rw [two] at hd
      cases e1 : inB (ivOf u.s).lo lo (ivOf u.s).hi with
      | false =>
        rw [e1] at hd
        cases e2 : inB (ivOf v.s).lo lo (ivOf v.s).hi with
        | false => rw [e2] at hd; simp at hd; omega
        | true => rw [e2] at hd; simp at hd; omega
      | true =>
        cases e2 : inB (ivOf v.s).lo lo (ivOf v.s).hi with
        | false => rw [e1, e2] at hd; simp at hd; omega
        | true =>
          obtain ⟨a1, a2⟩ := inB_iff.1 e1
          obtain ⟨b1, b2⟩ := inB_iff.1 e2
          exact absurd ⟨by omega, by omega⟩ hov
    have e3 : decide (2 * M ≤ ((0 + 1 + 1 : Nat) : Int)) = true := decide_eq_true (by omega)
    rw [e3]
    by_cases h1 : (ivOf u.s).lo ≤ (ivOf v.s).hi
    · rw [decide_eq_false (fun h2 => hov ⟨h1, h2⟩)]; simp
    · rw [decide_eq_false h1]; rfl
theorem cut_one {l : List Pr} {k : Nat} {v : Pr} (h : l[k]? = some v) : (l.drop k).take 1 = [v] := by
  obtain ⟨i1, e1⟩ := List.getElem?_eq_some_iff.1 h
  rw [List.drop_eq_getElem_cons i1, e1]
  rfl
theorem cut_two {l : List Pr} {k : Nat} {u v : Pr} (hu : l[k]? = some u) (hv : l[k + 1]? = some v) : (l.drop k).take 2 = [u, v] := by
  obtain ⟨i1, e1⟩ := List.getElem?_eq_some_iff.1 hu
  obtain ⟨i2, e2⟩ := List.getElem?_eq_some_iff.1 hv
  rw [List.drop_eq_getElem_cons i1, e1, List.drop_eq_getElem_cons i2, e2]
  rfl
set_option maxRecDepth 100000 in
set_option maxHeartbeats 4000000 in
theorem al_walk (w : World) {ao an au : Addr} (L : Ld w ao an au) (x : Option Addr) (n cap z : Nat) (hz : z = n ∧ Code w.heap.size w (.slice x n cap) n) :
    Calls Tryz.prog 7 #[.slice x n cap] w fun e w' => e = .returned (.bool true) ∧ Below w.heap.size w w' := by
  obtain ⟨_, hc⟩ := hz
  by_cases hbig : n ≤ 1048576
  · go_enter Tryz.func7, Tryz.ntmps7
    go_wp2_with (go_at_call 11; go_in)
    refine (drawChosen_c x n cap _ hc hbig).mono ?_
    rintro e w1 ⟨y, cy, l, rfl, hl7, hlc, hcm, hP, hb1⟩
    obtain ⟨m, hm⟩ : ∃ m, m = l.length := ⟨_, rfl⟩
    rw [← hm] at hl7 hlc ⊢
    have HM := Lib.hid hm
    have hmm : m ≤ maxLen := by unfold maxLen; omega
    obtain ⟨ok, hk⟩ : ∃ k, okPrs l = k := ⟨_, rfl⟩
    have hO := fun x cap w h => peersOk_spec l m HM hmm x cap w h
    rw [hk] at hO
    have HO' := Lib.hid hO
    have HK := Lib.hid hk
    clear hm hO hk
    go_wp2_with fail
    refine (chosen_impl l m HM hmm y cy _ hP (L.next hb1)).mono ?_
    rintro e w2 ⟨o, id, b, rfl, hO, hb2⟩
    have g2 := grow_next hb1 hb2
    have P2 := hP.next hb2
    have HO := Lib.hid hO
    clear hP hO
    go_wp2_with fail
    refine (chosen_spec l m HM hmm y cy _ P2).mono ?_
    rintro e w3 ⟨o', id', b', rfl, hO', hb3⟩
    obtain ⟨e1, e2, e3⟩ := HO.out.same hO'
    subst e1 e2 e3
    clear hO' HO
    have g3 := grow_next g2 hb3
    have P3 := P2.next hb3
    clear P2
    have hbb : (b != b) = false := by cases b <;> rfl
    have hbe : (b == b) = true := by cases b <;> rfl
    go_wp2_with fail
    refine (HO'.out _ _ _ P3).mono ?_
    rintro e w4 ⟨rfl, hb4⟩
    have g4 := grow_next g3 hb4
    have P4 := P3.next hb4
    clear P3
    cases ok with
    | false =>
      go_wp2_with fail
      go_returns
      exact ⟨rfl, g4⟩
    | true =>
      have hA := (okPrs_all HK.out).1
      go_wp2_with fail
      go_loopw [10] (fun i wr => ∃ k : Nat, k ≤ m ∧ i = .int .i64 k ∧ Below w4.heap.size w4 wr) (fun i _ => m - (intOf i).toNat)
      case atStart => exact ⟨0, Nat.zero_le _, rfl, Below.refl _ _⟩
      case round =>
        obtain ⟨k, hkm, rfl, hb⟩ := hrel
        have gr := grow_next g4 hb
        by_cases hlt : k < m
        · obtain ⟨v, hv⟩ := getP (l := l) (k := k) (by rw [← HM.out]; exact hlt)
          have Pk := P4.next hb
          obtain ⟨b1, off1, rfl, _⟩ := Pk.at_ hv
          have hcut := prs_take (prs_drop Pk k) 1
          rw [cut_one hv] at hcut
          have HCUT := Lib.hid hcut
          have hok1 : okPrs [v] = true := okPrs_sub (by rw [← cut_one hv]; exact (List.take_sublist _ _).trans (List.drop_sublist _ _)) HK.out
          have HOK1 := Lib.hid hok1
          have HV := Lib.hid hv
          have hw1 : IntKind.i64.wrap ((k : Int) + 1) = (k : Int) + 1 := IntWalk.i64_in _ (by omega)
          have hn1 : ((k : Int) + 1).toNat = k + 1 := by omega
          have hn2 : (k : Int) ≤ (k : Int) + 1 := by omega
          have hn3 : (k : Int) + 1 ≤ (cy : Int) := by omega
          have hn4 : ¬ cy = k := by omega
          have hn5 : (0 : Int) ≤ (k : Int) + 1 := by omega
          clear hcut hok1 hv
          go_wp2_with fail
          refine (chosen_impl [v] 1 (Lib.hid rfl) (by unfold maxLen; omega) _ _ _ HCUT.out (L.next gr)).mono ?_
          rintro e w5 ⟨o5, id5, b5, rfl, hO5, hb5⟩
          obtain ⟨e1, e2, e3⟩ := cho_one hO5 HOK1.out
          subst e1 e2 e3
          clear hO5
          have g5 := grow_next gr hb5
          have P5 := Pk.next hb5
          have hb5' := grow_next hb hb5
          obtain ⟨c0, c1, c2, c3, c4, c5⟩ := prs_cell P5 HV.out
          rcases Nat.eq_zero_or_pos k with hk0 | hk0
          · subst hk0
            simp only [Nat.zero_mul, Nat.add_zero] at c0 c1 c2 c3 c4 c5
            go_wp2_with fail
            go_roundw
            case rel => exact ⟨1, by omega, by go_num, hb5'⟩
            case measure => simp [intOf]; omega
          · obtain ⟨u, hu⟩ := getP (l := l) (k := k - 1) (by rw [← HM.out]; omega)
            have hki : ((k - 1 : Nat) : Int) = (k : Int) - 1 := by omega
            have hk1 : IntKind.i64.wrap ((k : Int) - 1) = ((k - 1 : Nat) : Int) := by rw [hki]; exact IntWalk.i64_in _ (by omega)
            have hk2 : ((k : Int) == 0) = false := by simpa using (show ¬ k = 0 by omega)
            have hk3 : ((k - 1 : Nat) : Int) < (m : Int) := by omega
            have hk4 : ((k - 1 : Nat) : Int) ≤ (k : Int) + 1 := by omega
            have hk5 : (0 : Int) ≤ ((k - 1 : Nat) : Int) := by omega
            have hk6 : ((k : Int) + 1).toNat - (k - 1) = 2 := by omega
            have hk7 : k + 1 - (k - 1) = 2 := by omega
            have hk8 : ¬ cy = k - 1 := by omega
            have hcut := prs_take (prs_drop P5 (k - 1)) 2
            have hv' : l[k - 1 + 1]? = some v := by rw [Nat.sub_add_cancel hk0]; exact HV.out
            rw [cut_two hu hv'] at hcut
            have hok2 : okPrs [u, v] = true := okPrs_sub (by rw [← cut_two hu hv']; exact (List.take_sublist _ _).trans (List.drop_sublist _ _)) HK.out
            have HOK2 := Lib.hid hok2
            have hCu := fun W {ao an au} L => @intervalOf_impl u.s W ao an au L
            have hCv := fun W {ao an au} L => @intervalOf_impl v.s W ao an au L
            rw [ivV_yes (hA.at_ hu)] at hCu
            rw [ivV_yes (hA.at_ HV.out)] at hCv
            obtain ⟨d0, d1, d2, d3, d4, d5⟩ := prs_cell P5 hu
            have hT := fun o id b h => @cho_two u v o id b h hok2
            obtain ⟨p, hp⟩ : ∃ p, ivOf u.s = p := ⟨_, rfl⟩
            obtain ⟨q, hq⟩ : ∃ q, ivOf v.s = q := ⟨_, rfl⟩
            rw [hp] at hCu hT
            rw [hq] at hCv hT
            have HCU := Lib.hid hCu
            have HCV := Lib.hid hCv
            have HT := Lib.hid hT
            have HCUT2 := Lib.hid hcut
            have HU := Lib.hid hu
            clear hu hv' hcut hok2 hCu hCv hT hp hq hki
            go_wp2_with fail
            refine (HCU.out _ (L.next g5)).mono ?_
            rintro e w6 ⟨rfl, hb6⟩
            have hs6 := hb6.size
            have B6 := hb6.alloc hs6 (.cells #[.int .i64 p.lo, .int .i64 p.hi] 45)
            have N6 := blk_new w6 (.cells #[.int .i64 p.lo, .int .i64 p.hi] 45)
            have g6 := grow_next g5 B6
            have P6 := P5.next B6
            obtain ⟨c0, c1, c2, c3, c4, c5⟩ := prs_cell P6 HV.out
            go_wp2_with fail
            refine (HCV.out _ (L.next g6)).mono ?_
            rintro e w7 ⟨rfl, hb7⟩
            have hs7 := hb7.size
            have N7 := blk_alloc (blk_next hb7 N6) (.cells #[.int .i64 q.lo, .int .i64 q.hi] 45)
            have M7 := blk_new w7 (.cells #[.int .i64 q.lo, .int .i64 q.hi] 45)
            have B7 := grow_next B6 (hb7.alloc hs7 (.cells #[.int .i64 q.lo, .int .i64 q.hi] 45))
            have g7 := grow_next g5 B7
            have C7 := HCUT2.out.next B7
            go_wp2_with fail
            refine (chosen_impl [u, v] 2 (Lib.hid rfl) (by unfold maxLen; omega) _ _ _ C7 (L.next g7)).mono ?_
            rintro e w8 ⟨o8, id8, b8, rfl, hO8, hb8⟩
            have hb8' := HT.out _ _ _ hO8
            subst hb8'
            clear hO8
            have g8 := grow_next g7 hb8
            have B8 := grow_next hb5' (grow_next B7 hb8)
            obtain ⟨x0, x1⟩ := iv_cells (blk_next hb8 N7)
            obtain ⟨y0, y1⟩ := iv_cells (blk_next hb8 M7)
            cases h1 : decide (p.lo ≤ q.hi) <;> cases h2 : decide (q.lo ≤ p.hi)
            all_goals
              go_wp2_with fail
              go_roundw
              case rel => exact ⟨k + 1, by omega, by go_num, B8⟩
              case measure => simp [intOf]; omega
        · go_wp2_with fail
          go_returns
          exact ⟨rfl, gr⟩
  · go_enter Tryz.func7, Tryz.ntmps7
    go_wp2_with (go_at_call 11; go_in)
    go_returns
    exact ⟨rfl, Below.refl _ _⟩
theorem al_met (os : Os) (args : Array Value) : laidMetH Tryz.prog Rows.fnAloneRow.laid ((World.doorLaid Tryz.prog 400 os).forCall (fun _ _ => 0) ⟨#[], args, []⟩).memory :=
  laidMetH_of_parts3 (fuel := 8) (laidMet_of_run' 8 (by kernel_rfl) (by kernel_rfl)) (by kernel_rfl) (by kernel_rfl)
set_option maxRecDepth 100000 in
theorem al_lifted (os : Os) (started : os.Started) (H : Type) (enc : TypeId × Value → H) :
    ReturnsInHanded {} Tryz.checked os 7 .any (fun w args => (Rows.fnAloneSpec.pre enc Tryz.prog Tryz.f7 [] false w args ∧ laidMetH Tryz.prog Rows.fnAloneRow.laid w) ∧ sizedMet enc Tryz.prog Tryz.f7 (OpenSpec.ofChange Rows.fnAloneSpec) false w args) (Rows.fnAloneSpec.post enc Tryz.prog Tryz.f7 false true false false) := by
  refine lifted_of_walk_laid (C := Tryz.checked) own started (by as_aux_lemma => kernel_rfl) Tryz.func7
    (ChangeSpec.witness_shaped (enc := enc) (C := Tryz.checked) (os := os) (X := fun w _ => laidMetH Tryz.prog Rows.fnAloneRow.laid w) false (World.doorLaid Tryz.prog 400 os) #[.slice none 0 0] 8 rfl (World.shaped_of_RefB (by kernel_rfl) (by kernel_rfl)) (by kernel_rfl) (by kernel_rfl) (by kernel_rfl) (al_met os _))
    laidOut (by as_aux_lemma => kernel_rfl) (by as_aux_lemma => kernel_rfl) rfl boolType
    (fun ds gs h hg => by
      match ds, gs, h, hg with
      | [_], [_, _, _], _, _ => rfl)
    ?_
  intro W base args ds q hval hA hL
  have laidRow : Rows.fnAloneRow.laid = Rows.fnAloneRow.laid := rfl
  obtain ⟨ao, an, au, L⟩ := ld_of hL (by simp [Rows.fnAloneRow, handleD, sentD, Rows.laid_errors_errorType, Rows.laid_loop_example_g00656_impl_errNoTime, Rows.laid_loop_example_g00656_impl_errOutside, Rows.laid_loop_example_g00656_impl_errUnsure]) (by simp [Rows.fnAloneRow, handleD, sentD, Rows.laid_errors_errorType, Rows.laid_loop_example_g00656_impl_errNoTime, Rows.laid_loop_example_g00656_impl_errOutside, Rows.laid_loop_example_g00656_impl_errUnsure]) (by simp [Rows.fnAloneRow, handleD, sentD, Rows.laid_errors_errorType, Rows.laid_loop_example_g00656_impl_errNoTime, Rows.laid_loop_example_g00656_impl_errOutside, Rows.laid_loop_example_g00656_impl_errUnsure]) (by simp [Rows.fnAloneRow, handleD, sentD, Rows.laid_errors_errorType, Rows.laid_loop_example_g00656_impl_errNoTime, Rows.laid_loop_example_g00656_impl_errOutside, Rows.laid_loop_example_g00656_impl_errUnsure])
  clear hL
  rw [Tryz.params7] at hA hval
  obtain ⟨v0, vs0, d0, ds0, p0, q0, hargs, rfl, rfl, h0, r0⟩ := trodAll_cons hA
  obtain ⟨rfl, rfl, rfl⟩ := trodAll_nil r0
  obtain rfl : args = #[v0] := by cases args; simp_all
  obtain ⟨a0, len0, cap0, z0, rfl, w0⟩ := open_bytes Tryz.underlying28 Tryz.underlying5 (by as_aux_lemma => kernel_rfl) (hval 0 28 v0 rfl rfl) h0
  exact al_walk W L a0 len0 cap0 z0 w0

set_option maxHeartbeats 4000000 in
theorem al_facts : joinedFacts Tryz.pinned.checked.prog 7 Tryz.f7 Rows.fnAloneSpec Rows.fnAloneRow = true :=
  facts_of (P := Tryz.prog) (by as_aux_lemma => kernel_rfl) laidOut mapsRow (by as_aux_lemma => kernel_rfl) (by as_aux_lemma => kernel_rfl) rfl noStops rfl noKnobs (by as_aux_lemma => kernel_rfl) (by as_aux_lemma => kernel_rfl) (by as_aux_lemma => kernel_rfl) (by as_aux_lemma => kernel_rfl) (by as_aux_lemma => kernel_rfl) (by as_aux_lemma => kernel_rfl) (by as_aux_lemma => kernel_rfl) (by as_aux_lemma => kernel_rfl) (by as_aux_lemma => kernel_rfl) (by as_aux_lemma => kernel_rfl) (by as_aux_lemma => kernel_rfl) (by as_aux_lemma => kernel_rfl) (by as_aux_lemma => kernel_rfl) keysPlain rfl heard enters finals isMake rfl rfl rfl (by as_aux_lemma => kernel_rfl) (by as_aux_lemma => kernel_rfl)

theorem al_row : Rows.FnAloneSaid :=
  OpenClaim.holds_of_wide 7 Tryz.f7 rfl rfl rfl rfl rfl rfl rfl ⟨rfl, rfl, rfl, rfl, rfl⟩ rfl rfl rfl rfl rfl (by as_aux_lemma => kernel_rfl) Tryz.func7 al_facts
    (of_decide_eq_true (by as_aux_lemma => kernel_rfl)) (by unfold Func.isWrapper; first | (rw [if_pos (by decide +kernel)]; kernel_rfl) | (rw [if_neg (by decide +kernel)]; exact ⟨rfl, rfl⟩))
    (fun os started H enc _ => al_lifted os started H enc)

/-- The given statement. -/
theorem al_holds : Rows.FnAloneCardSaid :=
  Claim7.holds_tied_plain_at .later [] Rows.fnAloneCard.laidKinds true Rows.fnAloneCard.stood.harness true
    al_row (fun _ h => by cases h) (by kernel_rfl) (fun _ h => by cases h) fnAlone_row_tie rfl ⟨rfl, rfl⟩ (by kernel_rfl) rfl
    (fun f fn hf hfn => by
      obtain rfl : f = 7 := Option.some.inj ((show Tryz.prog.funcNamed "loop.example/g00656/laws.FnAlone" = some 7 by kernel_rfl).symm.trans hf) |>.symm
      obtain rfl : fn = Tryz.f7 := (Option.some.inj (Tryz.func7.symm.trans hfn)).symm
      exact ⟨by kernel_rfl, fun j t ht => noStandIn (by rw [Tryz.params7]; kernel_rfl) j t ht⟩)
    (by kernel_rfl)
#print axioms al_holds
end Go.Proofs.YtohcebiepekbeaaGreatDoor
