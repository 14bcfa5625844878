/- The frames with which a text begins: the reference's way. -/
import Derived.Test.YtejkjlfdadficaaTake
import Derived.Lib.QuietBelow
namespace Go.Proofs.Ytejkjlfdadficaa
open Go.ChangeShapes Go.WideShapes Go.ChangeAt Go.RowKit Go.Sort
set_option linter.unusedVariables false
set_option linter.unusedSimpArgs false

theorem extract_rest0 (s : ByteArray) (p k : Nat) (h : p + k ≤ s.size) : (restF s p).extract 0 k = s.extract p (p + k) := by
  unfold restF
  rw [ByteArray.extract_extract, Nat.add_zero, Nat.min_eq_left h]
theorem extract_restk (s : ByteArray) (p j k : Nat) (h : p + k ≤ s.size) : (restF s p).extract j k = s.extract (p + j) (p + k) := by
  unfold restF
  rw [ByteArray.extract_extract, Nat.min_eq_left h]
theorem getN_take4 (s : ByteArray) (p : Nat) (h : p + 4 ≤ s.size) : getB (s.extract p (p + 4)) = (((s[p]'(by omega)).toNat : Int) * 256 + (s[p + 1]'(by omega)).toNat) * 256 * 256 + (s[p + 2]'(by omega)).toNat * 256 + (s[p + 3]'(by omega)).toNat := by
  unfold getB
  rw [Lib.extract_data, show p + 4 - p = 4 by omega]
  have hl : s.data.toList.length = s.size := by simp
  have e : ∀ k (hk : k < s.size), s.data.toList.drop k = s[k] :: s.data.toList.drop (k + 1) := fun k hk => by
    rw [List.drop_eq_getElem_cons (by rw [hl]; exact hk)]
    rfl
  rw [e p (by omega), e (p + 1) (by omega), e (p + 1 + 1) (by omega), e (p + 1 + 1 + 1) (by omega)]
  have e2 : s[p + 1 + 1]'(by omega) = s[p + 2]'(by omega) := rfl
  have e3 : s[p + 1 + 1 + 1]'(by omega) = s[p + 3]'(by omega) := rfl
  rw [e2, e3]
  simp only [getN, List.take_succ_cons, List.take_zero, List.foldl_cons, List.foldl_nil]
  omega
theorem fOk_false {t : ByteArray} (h : ¬ (8 ≤ t.size ∧ cntF t ≤ 100000 ∧ 8 + cntF t ≤ t.size)) : fOk t = false := by
  unfold fOk
  rw [decide_eq_false h, Bool.false_and]
set_option maxRecDepth 100000 in
set_option maxHeartbeats 2000000 in
theorem take_spec (s : ByteArray) (hs : s.size ≤ 1048576) (w : World) :
    Calls Try.prog 8 #[.string s] w (TakePost w s) := by
  obtain ⟨i0, hi, hz0, hz1, hz2⟩ := info_partsS infoStr
  have HI0 := Lib.hid hi
  have HZ0 := Lib.hid hz0
  have HZ1 := Lib.hid hz1
  have HZ2 := Lib.hid hz2
  clear hi hz0 hz1 hz2
  go_enter Try.func8, Try.ntmps8
  go_wp2_with fail
  have hrow0 := World.ownsRow_made (base := w.heap.size) (e := 9) (size := 1) w #[] 0 (Nat.le_refl _) (by simp [maxLen]) rfl
  go_loopw [4, 5] (fun o i wr => ∃ (k p : Nat) (L : List ByteArray), i = .int .i64 p ∧ Hid (stF s k = (p, L)) ∧ 8 * k ≤ p ∧ p ≤ s.size ∧ Hid (L.length = k) ∧ wr.ownsRow w.heap.size 9 1 o k (L.map Value.string) ∧ Below w.heap.size w wr) (fun _ i _ => s.size - (intOf i).toNat)
  case atStart => exact ⟨0, 0, [], rfl, Lib.hid rfl, Nat.le_refl _, Nat.zero_le _, Lib.hid rfl, hrow0, below_new _ _⟩
  case round =>
    clear hrow0
    obtain ⟨k, p, L, rfl, HS, hk, hp, HL, hrow, hb⟩ := hrel
    have HX := Lib.hid (fun h => stF_next HS.out h)
    have HY := Lib.hid (fun h => stF_end HS.out h (by omega))
    by_cases h8 : p + 8 ≤ s.size
    · have k8 : decide ((p : Int) + 8 ≤ (s.size : Int)) = true := decide_eq_true (by omega)
      have hg := getN_take4 s p (by omega)
      have hc := cntF_int (restF s p)
      rw [extract_rest0 s p 4 (by omega)] at hc
      have hb0 := (s[p]'(by omega)).toNat_lt
      have hb1 := (s[p + 1]'(by omega)).toNat_lt
      have hb2 := (s[p + 2]'(by omega)).toNat_lt
      have hb3 := (s[p + 3]'(by omega)).toNat_lt
      have hrs := restF_size s p
      have hok : fOk (restF s p) = (decide (8 ≤ (restF s p).size ∧ cntF (restF s p) ≤ 100000 ∧ 8 + cntF (restF s p) ≤ (restF s p).size) && ((crcB (datF (restF s p))).toList == ((restF s p).extract 4 8).toList)) := rfl
      have hdd : datF (restF s p) = (restF s p).extract 8 (8 + cntF (restF s p)) := rfl
      have hee := extract_restk s p 4 8 h8
      obtain ⟨c, hcc⟩ : ∃ c, cntF (restF s p) = c := ⟨_, rfl⟩
      rw [hcc] at hc hok hdd HX
      have hx : 256 * (256 * (256 * ((s[p]'(by omega)).toNat : Int) + (s[p + 1]'(by omega)).toNat) + (s[p + 2]'(by omega)).toNat) + (s[p + 3]'(by omega)).toNat = (c : Int) := by omega
      clear hg hc
      have e1 : IntKind.i64.wrap ((p : Int) + 8) = (p : Int) + 8 := IntWalk.i64_in _ (by omega)
      have e3 : IntKind.i64.wrap ((p : Int) + 4) = (p : Int) + 4 := IntWalk.i64_in _ (by omega)
      have t1 : ((p : Int) + 8).toNat = p + 8 := by omega
      have t3 : ((p : Int) + 4).toNat = p + 4 := by omega
      by_cases h1 : c ≤ 100000
      · by_cases h2 : p + (8 + c) ≤ s.size
        · have k1 : decide ((100000 : Int) < (c : Int)) = false := decide_eq_false (by omega)
          have k2 : decide ((s.size : Int) < (p : Int) + 8 + (c : Int)) = false := decide_eq_false (by omega)
          have e2 : IntKind.i64.wrap ((p : Int) + 8 + (c : Int)) = (p : Int) + 8 + (c : Int) := IntWalk.i64_in _ (by omega)
          have t2 : ((p : Int) + 8 + (c : Int)).toNat = p + 8 + c := by omega
          have l1 : (0 : Int) ≤ (p : Int) + 8 := by omega
          have l2 : (p : Int) + 8 ≤ (p : Int) + 8 + (c : Int) := by omega
          have l3 : (p : Int) + 8 + (c : Int) ≤ (s.size : Int) := by omega
          have l4 : (0 : Int) ≤ (p : Int) + 4 := by omega
          have l5 : (p : Int) + 4 ≤ (p : Int) + 8 := by omega
          have l6 : (p : Int) + 8 ≤ (s.size : Int) := by omega
          have m1 : p + 8 ≤ p + 8 + c := by omega
          have m2 : p + 8 + c ≤ s.size := by omega
          have m3 : p + 4 ≤ p + 8 := by omega
          rw [show decide (8 ≤ (restF s p).size ∧ c ≤ 100000 ∧ 8 + c ≤ (restF s p).size) = true from decide_eq_true ⟨by omega, h1, by omega⟩, Bool.true_and, hee] at hok
          rw [extract_restk s p 8 (8 + c) h2] at hdd
          have hds : (datF (restF s p)).size = c := by rw [hdd, ByteArray.size_extract]; omega
          rw [show p + (8 + c) = p + 8 + c by omega] at hdd
          obtain ⟨d, hd⟩ : ∃ d, datF (restF s p) = d := ⟨_, rfl⟩
          rw [hd] at hok hdd HX hds
          have hx2 : s.extract (p + 8) (p + 8 + c) = d := hdd.symm
          have C1 := Lib.hid (fun d' os => Calls.regrown_of (sum_spec d (by omega) (grow (redrawn wr d') os)))
          obtain ⟨q, hq⟩ : ∃ q, crcB d = q := ⟨_, rfl⟩
          rw [hq] at hok C1
          obtain ⟨b, hbb⟩ : ∃ b, (q.toList == (s.extract (p + 4) (p + 8)).toList) = b := ⟨_, rfl⟩
          rw [hbb] at hok
          have HOK := Lib.hid hok
          clear hok hdd hd hq hcc hee hrs
          go_wp2_with fail
          go_rounds 5
          go_wp2_with fail
          cases b with
          | true =>
            have HXX := Lib.hid (HX.out HOK.out)
            clear HX HY
            refine wp_region_quiet_below (by kernel_rfl) (by kernel_rfl) ?_
            repeat ((with_reducible refine wpQuiet_step (fun K hK => ?_)); go_simp; first | ((with_reducible refine hK _ ?_); clear hK K) | (rw [if_neg (by intro h; exact nomatch h)]; (with_reducible refine hK _ ?_); clear hK K) | (apply Exists.intro; (with_reducible refine ⟨fun _ => ?_, hK _ ?_⟩); (first | with_reducible exact C1.out _ _); clear hK K))
            with_reducible refine wpQuiet_nil ?_
            intro _ hw'
            obtain ⟨⟨dq, osq⟩, hw''⟩ := hw'
            subst hw''
            have b1 := below_regrown wr dq osq
            have g1 := grow_next hb b1
            have hr1 := hrow.kept (row := none) ⟨b1.os, b1.tape, b1.output, b1.size, fun k hk _ => b1.block k hk⟩ (Classical.em _)
            generalize grow (redrawn wr dq) osq = w1 at *
            go_wp2_with (at_builtin; refine wpList_append_own _ rfl _ _ 24 rfl w.heap.size 9 i0 (.string ByteArray.empty) 1 16 Try.underlying24 HI0.out HZ0.out HZ1.out HZ2.out rfl (by decide) _ _ _ rfl (hr1.alloc _) ⟨w1.heap.size, 0, none⟩ 1 1 [.string d] rfl rfl (by simpa using cell_one_newS w1 (.string d) 9) (by simp [Value.oneCell']) (by unfold maxLen; omega) (by omega) (by have := g1.size; simp at this ⊢; omega) ?_; intro v' w4 hown' hgrow _)
            go_roundw
            case rel => exact ⟨k + 1, p + (8 + c), L ++ [d], by go_num, HXX, by omega, by omega, Lib.hid (by rw [List.length_append, HL.out]; rfl), by simpa using hown', (g1.alloc g1.size _).grown hgrow (g1.alloc g1.size _).size (fun j hj => (hr1.lt j hj).1)⟩
            case measure => simp [intOf]; omega
          | false =>
            have HE := Lib.hid (HY.out HOK.out)
            clear HX HY
            refine wp_region_quiet_below (by kernel_rfl) (by kernel_rfl) ?_
            repeat ((with_reducible refine wpQuiet_step (fun K hK => ?_)); go_simp; first | ((with_reducible refine hK _ ?_); clear hK K) | (rw [if_neg (by intro h; exact nomatch h)]; (with_reducible refine hK _ ?_); clear hK K) | (apply Exists.intro; (with_reducible refine ⟨fun _ => ?_, hK _ ?_⟩); (first | with_reducible exact C1.out _ _); clear hK K))
            with_reducible refine wpQuiet_nil ?_
            intro _ hw'
            obtain ⟨⟨dq, osq⟩, hw''⟩ := hw'
            subst hw''
            have b1 := below_regrown wr dq osq
            have g1 := grow_next hb b1
            have hr1 := hrow.kept (row := none) ⟨b1.os, b1.tape, b1.output, b1.size, fun k hk _ => b1.block k hk⟩ (Classical.em _)
            generalize grow (redrawn wr dq) osq = w1 at *
            go_wp2_with fail
            go_returns
            exact ⟨_, by rw [HE.out.2]; rfl, by rw [HE.out.1, HL.out]; exact hr1, g1⟩
        · have k1 : decide ((100000 : Int) < (c : Int)) = false := decide_eq_false (by omega)
          have k2 : decide ((s.size : Int) < (p : Int) + 8 + (c : Int)) = true := decide_eq_true (by omega)
          have e2 : IntKind.i64.wrap ((p : Int) + 8 + (c : Int)) = (p : Int) + 8 + (c : Int) := IntWalk.i64_in _ (by omega)
          have HE := Lib.hid (HY.out (fOk_false (fun h => by rw [hcc] at h; omega)))
          clear hok hdd hcc hee hrs HX HY
          go_wp2_with fail
          go_rounds 5
          go_wp2_with fail
          refine wp_region_quiet_below (by kernel_rfl) (by kernel_rfl) ?_
          repeat ((with_reducible refine wpQuiet_step (fun K hK => ?_)); go_simp; first | ((with_reducible refine hK _ ?_); clear hK K) | (rw [if_neg (by intro h; exact nomatch h)]; (with_reducible refine hK _ ?_); clear hK K) | (apply Exists.intro; (with_reducible refine ⟨fun _ => ?_, hK _ ?_⟩); (fail); clear hK K))
          with_reducible refine wpQuiet_nil ?_
          intro _ hw'
          obtain ⟨⟨dq, osq⟩, hw''⟩ := hw'
          subst hw''
          have b1 := below_regrown wr dq osq
          have g1 := grow_next hb b1
          have hr1 := hrow.kept (row := none) ⟨b1.os, b1.tape, b1.output, b1.size, fun k hk _ => b1.block k hk⟩ (Classical.em _)
          generalize grow (redrawn wr dq) osq = w1 at *
          go_wp2_with fail
          go_returns
          exact ⟨_, by rw [HE.out.2]; rfl, by rw [HE.out.1, HL.out]; exact hr1, g1⟩
      · have k1 : decide ((100000 : Int) < (c : Int)) = true := decide_eq_true (by omega)
        have HE := Lib.hid (HY.out (fOk_false (fun h => by rw [hcc] at h; omega)))
        clear hok hdd hcc hee hrs HX HY
        go_wp2_with fail
        go_rounds 5
        go_wp2_with fail
        refine wp_region_quiet_below (by kernel_rfl) (by kernel_rfl) ?_
        repeat ((with_reducible refine wpQuiet_step (fun K hK => ?_)); go_simp; first | ((with_reducible refine hK _ ?_); clear hK K) | (rw [if_neg (by intro h; exact nomatch h)]; (with_reducible refine hK _ ?_); clear hK K) | (apply Exists.intro; (with_reducible refine ⟨fun _ => ?_, hK _ ?_⟩); (fail); clear hK K))
        with_reducible refine wpQuiet_nil ?_
        intro _ hw'
        obtain ⟨⟨dq, osq⟩, hw''⟩ := hw'
        subst hw''
        have b1 := below_regrown wr dq osq
        have g1 := grow_next hb b1
        have hr1 := hrow.kept (row := none) ⟨b1.os, b1.tape, b1.output, b1.size, fun k hk _ => b1.block k hk⟩ (Classical.em _)
        generalize grow (redrawn wr dq) osq = w1 at *
        go_wp2_with fail
        go_returns
        exact ⟨_, by rw [HE.out.2]; rfl, by rw [HE.out.1, HL.out]; exact hr1, g1⟩
    · have k8 : decide ((p : Int) + 8 ≤ (s.size : Int)) = false := decide_eq_false (by omega)
      have hrs := restF_size s p
      have HE := Lib.hid (HY.out (fOk_false (fun h => by omega)))
      go_wp2_with fail
      go_returns
      exact ⟨_, by rw [HE.out.2]; rfl, by rw [HE.out.1, HL.out]; exact hrow, hb⟩
end Go.Proofs.Ytejkjlfdadficaa
