/- What is added is the last one; no more than eight are kept, the last ones; what comes too late is refused: at all drawn filters and samples. -/
import Derived.Test.YthgamidodkkpbaaDoorSameSm
import Derived.Test.YthgamidodkkpbaaDoorFilDraws
import Derived.Test.YthgamidodkkpbaaDoorFilOthS
import Derived.Test.YthgamidodkkpbaaDoorFilAddS
import Derived.Test.YthgamidodkkpbaaDoorTie
import Derived.Test.YthgamidodkkpbaaDoorCards
import Derived.Lib.QuietBelow
namespace Go.Proofs.YthgamidodkkpbaaDoor
open Go.ChangeShapes Go.WideShapes Go.ChangeAt Go.RowKit Go.Sort
set_option linter.unusedVariables false
set_option linter.unusedSimpArgs false

theorem sms_take {B : Nat} {W : World} {x : Option Addr} {l : List Sm} (h : Sms B W x l) (j : Nat) : Sms B W x (l.take j) := by
  rcases h with rfl | ⟨b, off, rfl, hlt, hc⟩
  · exact .inl (by simp)
  · refine .inr ⟨b, off, rfl, hlt, fun i v q z hi hq => ?_⟩
    rw [List.getElem?_take] at hi
    split at hi
    · exact hc i v q z hi hq
    · cases hi
theorem addR_len8 (l : List Sm) (s : Sm) : (addR l s).length ≤ 8 := by
  unfold addR
  cases ho : addOk l s with
  | false => simp
  | true =>
    have hoo : okSms l = true := by
      unfold addOk at ho
      rw [Bool.and_eq_true] at ho
      exact ho.1
    exact (addV_len (okSms_all hoo).2).1
set_option maxRecDepth 100000 in
set_option maxHeartbeats 4000000 in
theorem ff_walk (w : World) {ao an au : Addr} (L : Ld w ao an au) (x : Option Addr) (n cap z : Nat) (hz : z = n ∧ Code w.heap.size w (.slice x n cap) n) :
    Calls Tryd.prog 3 #[.slice x n cap] w fun e w' => e = .returned (.bool true) ∧ Below w.heap.size w w' := by
  obtain ⟨_, hc⟩ := hz
  by_cases hbig : n ≤ 1048576
  · go_enter Tryd.func3, Tryd.ntmps3
    go_wp2_with (go_at_call 7; go_in)
    refine (drawFilterAdd_c x n cap _ hc hbig).mono ?_
    rintro e w1 ⟨g, off, c, m, l, s, rfl, hm, hm8, hmc, hcm, _, hS1, hb1⟩
    have HM : Hid (m = l.length) := Lib.hid hm
    have hmm : m ≤ maxLen := by unfold maxLen; omega
    have b1 := hb1.alloc hb1.size (.cells #[.int .i64 s.off, .int .i64 s.delay, .int .i64 s.disp, .int .i64 s.at_] 26)
    have Q1 := blk_new w1 (.cells #[.int .i64 s.off, .int .i64 s.delay, .int .i64 s.disp, .int .i64 s.at_] 26)
    have S1 := hS1.next (below_new w1 (.cells #[.int .i64 s.off, .int .i64 s.delay, .int .i64 s.disp, .int .i64 s.at_] 26))
    obtain ⟨A, hA⟩ : ∃ A, addR l s = A := ⟨_, rfl⟩
    obtain ⟨k, hk⟩ : ∃ k, addOk l s = k := ⟨_, rfl⟩
    obtain ⟨q, hq⟩ : ∃ q, q = A.length := ⟨_, rfl⟩
    have hq8 : q ≤ 8 := by rw [hq, ← hA]; exact addR_len8 l s
    have HI := Lib.hid (fun (W : World) h {ao an au} L => (show Calls Tryd.prog 9 #[.slice (some ⟨g, off, none⟩) m c, .agg #[.int .i64 s.off, .int .i64 s.delay, .int .i64 s.disp, .int .i64 s.at_]] W fun e w' => ∃ v, e = .returned (.tuple #[v, .bool k]) ∧ SRow W A q v w' from hk ▸ hq ▸ hA ▸ @filterAdd_impl l s m HM hmm (some ⟨g, off, none⟩) c W h ao an au L))
    have HS := Lib.hid (fun (W : World) h => (show Calls Tryd.prog 10 #[.slice (some ⟨g, off, none⟩) m c, .agg #[.int .i64 s.off, .int .i64 s.delay, .int .i64 s.disp, .int .i64 s.at_]] W fun e w' => ∃ y c', e = .returned (.tuple #[.slice y q c', .bool k]) ∧ Sms w'.heap.size w' y A ∧ Below W.heap.size W w' from (filterAdd_spec l s m HM hmm g off c W h).mono (by
      rintro e w' ⟨y, c', rfl, _, _, hs, _, hb⟩
      rw [hA] at hs
      exact ⟨y, c', by rw [hA, hk, hq], hs, hb⟩)))
    have HSm := Lib.hid (fun x y cap cap' w h h' => sameSamples_c A q (Lib.hid hq) (by unfold maxLen; omega) x y cap cap' w h h')
    have hkk : (k != k) = false := by cases k <;> rfl
    have hke : (k == k) = true := by cases k <;> rfl
    generalize hW1 : w1.alloc (.cells #[.int .i64 s.off, .int .i64 s.delay, .int .i64 s.disp, .int .i64 s.at_] 26) = W1 at *
    obtain ⟨x0, x1, x2, x3⟩ := sample_cells Q1
    have HK := Lib.hid hk
    have HA := Lib.hid hA
    have HQ := Lib.hid hq
    clear hm hS1 hk hA hq
    go_wp2_with fail
    refine (HI.out _ S1 (L.next b1)).mono ?_
    rintro e w2 ⟨v2, rfl, hrow2, hb2⟩
    obtain ⟨y2, cp2, rfl, R2⟩ := smRow_form hrow2 HQ.out
    have b2 := grow_next b1 hb2
    have S2 := S1.next hb2
    have Q2 := blk_next hb2 Q1
    have A2 := R2.sms
    have hcp2 := R2.cap_
    obtain ⟨x0, x1, x2, x3⟩ := sample_cells Q2
    have HR2 : Hid (q = 0 ∨ ∃ gg, y2 = some ⟨gg, 0, none⟩) := Lib.hid (by
      rcases R2.2 with ⟨e, e0⟩ | ⟨gg, cc, cur, e, _⟩
      · left; rw [HQ.out]; exact e0
      · right; simp only [Value.slice.injEq] at e; exact ⟨gg, e.1⟩)
    rw [← HQ.out] at hcp2
    clear hb2 hrow2 R2 S1 Q1
    go_wp2_with fail
    refine (HS.out _ S2).mono ?_
    rintro e w3 ⟨y3, cp3, rfl, A3, hb3⟩
    have b3 := grow_next b2 hb3
    have S3 := S2.next hb3
    have Q3 := blk_next hb3 Q2
    have N3 := A2.next hb3
    clear hb3 S2 Q2 A2 x0 x1 x2 x3
    go_wp2_with fail
    refine (drawFilterOk_c x n cap _ (hc.next b3) hbig).mono ?_
    rintro e w4 ⟨g4, off4, c4, m4, l4, rfl, hm4, hm48, _, _, X4, hb4⟩
    have b4 := grow_next b3 hb4
    have S4 := S3.next hb4
    have Q4 := blk_next hb4 Q3
    have N4 := N3.next hb4
    have A4 := A3.next hb4
    obtain ⟨o4, ho4⟩ : ∃ o, okSms l4 = o := ⟨_, rfl⟩
    have hmm4 : m4 ≤ maxLen := by unfold maxLen; omega
    have HFI := Lib.hid (fun (W : World) h {ao an au} L => (show Calls Tryd.prog 13 #[.slice (some ⟨g4, off4, none⟩) m4 c4] W fun e w' => e = .returned (.bool o4) ∧ Below W.heap.size W w' from ho4 ▸ @filterOk_impl l4 m4 (Lib.hid hm4) hmm4 (some ⟨g4, off4, none⟩) c4 W h ao an au L))
    have HFS := Lib.hid (fun (W : World) h => (show Calls Tryd.prog 14 #[.slice (some ⟨g4, off4, none⟩) m4 c4] W fun e w' => e = .returned (.bool o4) ∧ Below W.heap.size W w' from ho4 ▸ filterOk_spec l4 m4 (Lib.hid hm4) hmm4 (some ⟨g4, off4, none⟩) c4 W h))
    have hoo : (o4 != o4) = false := by cases o4 <;> rfl
    have hoe : (o4 == o4) = true := by cases o4 <;> rfl
    clear hb4 S3 Q3 N3 A3 hm4 ho4
    go_wp2_with fail
    refine (HSm.out _ _ _ _ _ N4 A4).mono ?_
    rintro e w5 ⟨rfl, hb5⟩
    have b5 := grow_next b4 hb5
    have S5 := S4.next hb5
    have Q5 := blk_next hb5 Q4
    have N5 := N4.next hb5
    have A5 := A4.next hb5
    have X5 := X4.next hb5
    clear hb5 S4 Q4 N4 A4 X4
    go_wp2_with fail
    refine (HFI.out _ X5 (L.next b5)).mono ?_
    rintro e w6 ⟨rfl, hb6⟩
    have b6 := grow_next b5 hb6
    have S6 := S5.next hb6
    have Q6 := blk_next hb6 Q5
    have N6 := N5.next hb6
    have A6 := A5.next hb6
    have X6 := X5.next hb6
    clear hb6 S5 Q5 N5 A5 X5
    go_wp2_with fail
    refine (HFS.out _ X6).mono ?_
    rintro e w7 ⟨rfl, hb7⟩
    have b7 := grow_next b6 hb7
    have S7 := S6.next hb7
    have Q7 := blk_next hb7 Q6
    have N7 := N6.next hb7
    have A7 := A6.next hb7
    have X7 := X6.next hb7
    clear hb7 S6 Q6 N6 A6 X6
    cases k with
    | false =>
      clear HI HS HK hcp2 HR2
      go_wp2_with fail
      refine (HSm.out _ _ _ _ _ N7 A7).mono ?_
      rintro e w8 ⟨rfl, hb8⟩
      have b8 := grow_next b7 hb8
      have X8 := X7.next hb8
      go_wp2_with fail
      refine (HFI.out _ X8 (L.next b8)).mono ?_
      rintro e w9 ⟨rfl, hb9⟩
      have b9 := grow_next b8 hb9
      have X9 := X8.next hb9
      go_wp2_with fail
      refine (HFS.out _ X9).mono ?_
      rintro e wA ⟨rfl, hbA⟩
      go_wp2_with fail
      go_returns
      exact ⟨rfl, grow_next b9 hbA⟩
    | true =>
      clear HI HS HFI HFS HSm X7 A7
      have hAv := HA.out
      rw [addR_yes HK.out] at hAv
      obtain ⟨a0, a1, a2, a3⟩ := addV_ok HK.out
      rw [hAv] at a0 a1 a2 a3
      rw [← HQ.out] at a2 a3
      have hno : addOk A s = false := add_not_again a1
      obtain ⟨t, rfl⟩ : ∃ t, q = t + 1 := ⟨q - 1, by split at a2 <;> omega⟩
      rw [Nat.add_sub_cancel] at a3
      obtain ⟨gg, rfl⟩ := HR2.out.resolve_left (Nat.succ_ne_zero _)
      have hAt : A[t]? = some s := by
        rw [List.getLast?_eq_getElem?] at a1
        rw [← HQ.out, Nat.add_sub_cancel] at a1
        exact a1
      obtain ⟨j, hj⟩ : ∃ j, j = l.length - t := ⟨_, rfl⟩
      rw [← hj] at a3
      have hml := HM.out
      have hj1 : j = if m = 8 then 1 else 0 := by rw [hj, ← hml]; rw [← hml] at a2; split at a2 <;> simp_all <;> omega
      have hjm : j + t = m := by rw [← hml] at a2 hj; split at a2 <;> omega
      have HRT := Lib.hid a3
      have hlast : (((t : Int) + 1 == (m : Int) + 1) || ((t : Int) + 1 == 8)) = true := by
        simp only [Bool.or_eq_true, beq_iff_eq]
        split at hj1 <;> omega
      have hjc : j ≤ m := by omega
      have hjc2 : j ≤ c := by omega
      have hmj : m - j = t := by omega
      have HAt := Lib.hid hAt
      clear a2 a3 hj hj1 hml hAt
      have H2 := Lib.hid (fun (W : World) h {ao an au} L => (show Calls Tryd.prog 9 #[.slice (some ⟨gg, 0, none⟩) (t + 1) cp2, .agg #[.int .i64 s.off, .int .i64 s.delay, .int .i64 s.disp, .int .i64 s.at_]] W fun e w' => ∃ v, e = .returned (.tuple #[v, .bool false]) ∧ Below W.heap.size W w' from (@filterAdd_impl A s (t + 1) HQ (by unfold maxLen; omega) (some ⟨gg, 0, none⟩) cp2 W h ao an au L).mono (by
        rintro e w' ⟨v, rfl, _, hb⟩
        exact ⟨v, by rw [hno], hb⟩)))
      have H3 := Lib.hid (fun (W : World) h {ao an au} L => (show Calls Tryd.prog 13 #[.slice (some ⟨gg, 0, none⟩) (t + 1) cp2] W fun e w' => e = .returned (.bool true) ∧ Below W.heap.size W w' from a0 ▸ @filterOk_impl A (t + 1) HQ (by unfold maxLen; omega) (some ⟨gg, 0, none⟩) cp2 W h ao an au L))
      have HT : Hid (t = (A.take t).length) := Lib.hid (by rw [List.length_take, ← HQ.out]; omega)
      have H4 := Lib.hid (fun x y cap cap' w h h' => sameSamples_c (A.take t) t HT (by unfold maxLen; omega) x y cap cap' w h h')
      have hw1 : IntKind.i64.wrap (((t + 1 : Nat) : Int) - 1) = (t : Int) := by
        rw [show ((t + 1 : Nat) : Int) - 1 = (t : Int) by omega]
        exact IntWalk.i64_in _ (by omega)
      have hw1' : IntKind.i64.wrap ((t : Int) + 1 - 1) = (t : Int) := by
        rw [show (t : Int) + 1 - 1 = (t : Int) by omega]
        exact IntWalk.i64_in _ (by omega)
      have hw2 : IntKind.i64.wrap ((m : Int) - (t : Int)) = ((j : Nat) : Int) := by
        rw [show (m : Int) - (t : Int) = ((j : Nat) : Int) by omega]
        exact IntWalk.i64_in _ (by omega)
      have hw3 : IntKind.i64.wrap ((m : Int) + 1) = ((m + 1 : Nat) : Int) := by
        rw [show ((m : Int) + 1) = ((m + 1 : Nat) : Int) by omega]
        exact IntWalk.i64_in _ (by omega)
      obtain ⟨x0, x1, x2, x3⟩ := sample_cells Q7
      clear HK HA hAv a0 a1 hno hjm
      go_wp2_with fail
      with_reducible refine (H2.out _ N7 (L.next b7)).mono ?_
      rintro e w8 ⟨v8, rfl, hb8⟩
      have b8 := grow_next b7 hb8
      have S8 := S7.next hb8
      have Q8 := blk_next hb8 Q7
      have N8 := N7.next hb8
      obtain ⟨x0, x1, x2, x3⟩ := sample_cells Q8
      obtain ⟨ba, oa, ea, _, n0, n1, n2, n3⟩ := N8.at_ HAt.out
      simp only [Option.some.injEq, Addr.mk.injEq] at ea
      obtain ⟨rfl, rfl, _⟩ := ea
      rw [Nat.zero_add] at n0 n1 n2 n3
      have k0 := cell_regrown x0
      have k1 := cell_regrown x1
      have k2 := cell_regrown x2
      have k3 := cell_regrown x3
      have l0 := cell_regrown n0
      have l1 := cell_regrown n1
      have l2 := cell_regrown n2
      have l3 := cell_regrown n3
      have HE := fun W => eq_sm s s W
      rw [sameSm_self] at HE
      have P4 := sms_take N8 t
      have R4 := sms_drop S8 j
      rw [← HRT.out] at R4
      have C3 := Lib.hid (fun d os => Calls.regrown_of (H3.out (grow (redrawn w8 d) os) (N8.next (below_regrown w8 d os)) (L.next (grow_next b8 (below_regrown w8 d os)))))
      have C4 := Lib.hid (fun d os y cap cap' (hy : Sms w8.heap.size w8 y (A.take t)) => Calls.regrown_of (H4.out (some ⟨gg, 0, none⟩) y cap cap' (grow (redrawn w8 d) os) (P4.next (below_regrown w8 d os)) (hy.next (below_regrown w8 d os))))
      have hcp0 : ¬ cp2 = 0 := by omega
      have hcp1 : 0 < cp2 := by omega
      have hcp2' : ¬ 0 = cp2 := by omega
      have hcp3 : t ≤ cp2 := by omega
      have htl : t < t + 1 := by omega
      have hd0 : ¬ ((j : Int) < 0) := by omega
      have hd1 : (0 : Int) ≤ t := by omega
      have hi1 : (t : Int) < (t : Int) + 1 := by omega
      have hi2 : (t : Int) ≤ (cp2 : Int) := by omega
      have hi3 : (j : Int) ≤ (m : Int) := by omega
      have hi4 : (m : Int) ≤ (c : Int) := by omega
      have hi5 : (j : Int) ≤ (c : Int) := by omega
      have hi6 : (0 : Int) ≤ (j : Int) := by omega
      have hy : Sms w8.heap.size w8 (if c = j then some ⟨g, off, none⟩ else some ⟨g, off + j * 4, none⟩) (A.take t) := by
        split
        · have ht0 : t = 0 := by omega
          rw [ht0]
          exact .inl rfl
        · exact R4
      have C5 := Lib.hid (fun d os => C4.out d os _ cp2 (c - j) hy)
      clear hy C4
      clear n0 n1 n2 n3 x0 x1 x2 x3 HAt HRT hq8 P4 R4 S7 Q7 N7 S8 N8 Q8 H2 H3 H4
      rcases Bool.or_eq_true_iff.1 hlast with ha | ha
      · have ha2 : ((t : Int) == (m : Int)) = true := by simp only [beq_iff_eq] at ha ⊢; omega
        clear hlast
        go_wp2_with fail
        refine wp_region_quiet_below (by kernel_rfl) (by kernel_rfl) ?_
        repeat ((with_reducible refine wpQuiet_step (fun K hK => ?_)); go_simp; first | ((with_reducible refine hK _ ?_); clear hK K) | (rw [if_neg (by intro h; exact nomatch h)]; (with_reducible refine hK _ ?_); clear hK K) | (apply Exists.intro; (with_reducible refine ⟨fun _ => ?_, hK _ ?_⟩); (first | with_reducible exact C3.out _ _ | with_reducible exact C5.out _ _); clear hK K))
        with_reducible refine wpQuiet_nil ?_
        intro _ hw'
        obtain ⟨⟨dq, osq⟩, hw''⟩ := hw'
        subst hw''
        have g9 := grow_next b8 (below_regrown w8 dq osq)
        generalize grow (redrawn w8 dq) osq = W9 at *
        go_wp2_with fail
        all_goals (go_returns; exact ⟨rfl, g9⟩)
      · cases hb : ((t : Int) + 1 == (m : Int) + 1) with
        | true =>
          have ha2 : ((t : Int) == (m : Int)) = true := by simp only [beq_iff_eq] at hb ⊢; omega
          clear hlast ha
          go_wp2_with fail
          refine wp_region_quiet_below (by kernel_rfl) (by kernel_rfl) ?_
          repeat ((with_reducible refine wpQuiet_step (fun K hK => ?_)); go_simp; first | ((with_reducible refine hK _ ?_); clear hK K) | (rw [if_neg (by intro h; exact nomatch h)]; (with_reducible refine hK _ ?_); clear hK K) | (apply Exists.intro; (with_reducible refine ⟨fun _ => ?_, hK _ ?_⟩); (first | with_reducible exact C3.out _ _ | with_reducible exact C5.out _ _); clear hK K))
          with_reducible refine wpQuiet_nil ?_
          intro _ hw'
          obtain ⟨⟨dq, osq⟩, hw''⟩ := hw'
          subst hw''
          have g9 := grow_next b8 (below_regrown w8 dq osq)
          generalize grow (redrawn w8 dq) osq = W9 at *
          go_wp2_with fail
          all_goals (go_returns; exact ⟨rfl, g9⟩)
        | false =>
          have ha2 : ((t : Int) == (m : Int)) = false := by simp only [beq_eq_false_iff_ne, ne_eq] at hb ⊢; omega
          have ha3 : ((t : Int) == 7) = true := by simp only [beq_iff_eq] at ha ⊢; omega
          clear hlast
          go_wp2_with fail
          refine wp_region_quiet_below (by kernel_rfl) (by kernel_rfl) ?_
          repeat ((with_reducible refine wpQuiet_step (fun K hK => ?_)); go_simp; first | ((with_reducible refine hK _ ?_); clear hK K) | (rw [if_neg (by intro h; exact nomatch h)]; (with_reducible refine hK _ ?_); clear hK K) | (apply Exists.intro; (with_reducible refine ⟨fun _ => ?_, hK _ ?_⟩); (first | with_reducible exact C3.out _ _ | with_reducible exact C5.out _ _); clear hK K))
          with_reducible refine wpQuiet_nil ?_
          intro _ hw'
          obtain ⟨⟨dq, osq⟩, hw''⟩ := hw'
          subst hw''
          have g9 := grow_next b8 (below_regrown w8 dq osq)
          generalize grow (redrawn w8 dq) osq = W9 at *
          go_wp2_with fail
          all_goals (go_returns; exact ⟨rfl, g9⟩)
  · go_enter Tryd.func3, Tryd.ntmps3
    go_wp2_with (go_at_call 7; go_in)
    go_returns
    exact ⟨rfl, Below.refl _ _⟩
theorem ff_met (os : Os) (args : Array Value) : laidMetH Tryd.prog Rows.fnFilterRow.laid ((World.doorLaid Tryd.prog 400 os).forCall (fun _ _ => 0) ⟨#[], args, []⟩).memory :=
  laidMetH_of_parts3 (fuel := 8) (laidMet_of_run' 8 (by kernel_rfl) (by kernel_rfl)) (by kernel_rfl) (by kernel_rfl)
set_option maxRecDepth 100000 in
theorem ff_lifted (os : Os) (started : os.Started) (H : Type) (enc : TypeId × Value → H) :
    ReturnsInHanded {} Tryd.checked os 3 .any (fun w args => (Rows.fnFilterSpec.pre enc Tryd.prog Tryd.f3 [] false w args ∧ laidMetH Tryd.prog Rows.fnFilterRow.laid w) ∧ sizedMet enc Tryd.prog Tryd.f3 (OpenSpec.ofChange Rows.fnFilterSpec) false w args) (Rows.fnFilterSpec.post enc Tryd.prog Tryd.f3 false true false false) := by
  refine lifted_of_walk_laid (C := Tryd.checked) own started (by as_aux_lemma => kernel_rfl) Tryd.func3
    (ChangeSpec.witness_shaped (enc := enc) (C := Tryd.checked) (os := os) (X := fun w _ => laidMetH Tryd.prog Rows.fnFilterRow.laid w) false (World.doorLaid Tryd.prog 400 os) #[.slice none 0 0] 8 rfl (World.shaped_of_RefB (by kernel_rfl) (by kernel_rfl)) (by kernel_rfl) (by kernel_rfl) (by kernel_rfl) (ff_met os _))
    laidOut (by as_aux_lemma => kernel_rfl) (by as_aux_lemma => kernel_rfl) rfl boolType
    (fun ds gs h hg => by
      match ds, gs, h, hg with
      | [_], [_, _, _], _, _ => rfl)
    ?_
  intro W base args ds q hval hA hL
  have laidRow : Rows.fnFilterRow.laid = Rows.fnFilterRow.laid := rfl
  obtain ⟨ao, an, au, L⟩ := ld_of hL (by simp [Rows.fnFilterRow, handleD, sentD, Rows.laid_errors_errorType, Rows.laid_loop_example_g00656_impl_errNoTime, Rows.laid_loop_example_g00656_impl_errOutside, Rows.laid_loop_example_g00656_impl_errUnsure]) (by simp [Rows.fnFilterRow, handleD, sentD, Rows.laid_errors_errorType, Rows.laid_loop_example_g00656_impl_errNoTime, Rows.laid_loop_example_g00656_impl_errOutside, Rows.laid_loop_example_g00656_impl_errUnsure]) (by simp [Rows.fnFilterRow, handleD, sentD, Rows.laid_errors_errorType, Rows.laid_loop_example_g00656_impl_errNoTime, Rows.laid_loop_example_g00656_impl_errOutside, Rows.laid_loop_example_g00656_impl_errUnsure]) (by simp [Rows.fnFilterRow, handleD, sentD, Rows.laid_errors_errorType, Rows.laid_loop_example_g00656_impl_errNoTime, Rows.laid_loop_example_g00656_impl_errOutside, Rows.laid_loop_example_g00656_impl_errUnsure])
  clear hL
  rw [Tryd.params3] at hA hval
  obtain ⟨v0, vs0, d0, ds0, p0, q0, hargs, rfl, rfl, h0, r0⟩ := trodAll_cons hA
  obtain ⟨rfl, rfl, rfl⟩ := trodAll_nil r0
  obtain rfl : args = #[v0] := by cases args; simp_all
  obtain ⟨a0, len0, cap0, z0, rfl, w0⟩ := open_bytes Tryd.underlying22 Tryd.underlying5 (by as_aux_lemma => kernel_rfl) (hval 0 22 v0 rfl rfl) h0
  exact ff_walk W L a0 len0 cap0 z0 w0

theorem ff_facts : joinedFacts Tryd.pinned.checked.prog 3 Tryd.f3 Rows.fnFilterSpec Rows.fnFilterRow = true :=
  facts_of (P := Tryd.prog) (by as_aux_lemma => kernel_rfl) laidOut mapsRow (by as_aux_lemma => kernel_rfl) (by as_aux_lemma => kernel_rfl) rfl noStops rfl noKnobs (by as_aux_lemma => kernel_rfl) (by as_aux_lemma => kernel_rfl) (by as_aux_lemma => kernel_rfl) (by as_aux_lemma => kernel_rfl) (by as_aux_lemma => kernel_rfl) (by as_aux_lemma => kernel_rfl) (by as_aux_lemma => kernel_rfl) (by as_aux_lemma => kernel_rfl) (by as_aux_lemma => kernel_rfl) (by as_aux_lemma => kernel_rfl) (by as_aux_lemma => kernel_rfl) (by as_aux_lemma => kernel_rfl) (by as_aux_lemma => kernel_rfl) keysPlain rfl heard enters finals isMake rfl rfl rfl (by as_aux_lemma => kernel_rfl) (by as_aux_lemma => kernel_rfl)

theorem ff_row : Rows.FnFilterSaid :=
  OpenClaim.holds_of_wide 3 Tryd.f3 rfl rfl rfl rfl rfl rfl rfl ⟨rfl, rfl, rfl, rfl, rfl⟩ rfl rfl rfl rfl rfl (by as_aux_lemma => kernel_rfl) Tryd.func3 ff_facts
    (of_decide_eq_true (by as_aux_lemma => kernel_rfl)) (by unfold Func.isWrapper; first | (rw [if_pos (by decide +kernel)]; kernel_rfl) | (rw [if_neg (by decide +kernel)]; exact ⟨rfl, rfl⟩))
    (fun os started H enc _ => ff_lifted os started H enc)

/-- The given statement. -/
theorem ff_holds : Rows.FnFilterCardSaid :=
  Claim7.holds_tied_plain_at .later [] Rows.fnFilterCard.laidKinds true Rows.fnFilterCard.stood.harness true
    ff_row (fun _ h => by cases h) (by kernel_rfl) (fun _ h => by cases h) fnFilter_row_tie rfl ⟨rfl, rfl⟩ (by kernel_rfl) rfl
    (fun f fn hf hfn => by
      obtain rfl : f = 3 := Option.some.inj ((show Tryd.prog.funcNamed "loop.example/g00656/laws.FnFilter" = some 3 by kernel_rfl).symm.trans hf) |>.symm
      obtain rfl : fn = Tryd.f3 := (Option.some.inj (Tryd.func3.symm.trans hfn)).symm
      exact ⟨by kernel_rfl, fun j t ht => noStandIn (by rw [Tryd.params3]; kernel_rfl) j t ht⟩)
    (by kernel_rfl)
#print axioms ff_holds
end Go.Proofs.YthgamidodkkpbaaDoor
