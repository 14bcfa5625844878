/- Who is forgotten had no score left: at every drawn limiter and time. -/
import Derived.Test.YtckonbbdeohccaaCameUp
import Derived.Test.YtckonbbdeohccaaForgS
import Derived.Test.YtckonbbdeohccaaDrawCame
import Derived.Lib.QuietBelow
namespace Go.Proofs.Ytckonbbdeohccaa
open Go.ChangeShapes Go.WideShapes Go.ChangeAt Go.RowKit Go.Sort
set_option linter.unusedVariables false
set_option linter.unusedSimpArgs false
set_option maxRecDepth 100000

theorem stay_at {l : List Cl} (ho : limOk l = true) (now : Int) {i : Int} {c : Cl} (h : clAt l i = some c) (hg : goneC now c = false) : clAt (stayC l now) i = some c := by
  obtain ⟨hm, he⟩ := clAt_some h
  have hs : c ∈ stayC l now := List.mem_filter.2 ⟨hm, by rw [hg]; rfl⟩
  obtain ⟨k, hk⟩ := List.mem_iff_getElem?.1 hs
  have := clAt_at (limOk_iff.1 (stayC_ok ho now)).1 hk
  rw [he] at this
  exact this
theorem stay_none {l : List Cl} (ho : limOk l = true) (now : Int) {i : Int} (h : ∀ c, clAt l i = some c → goneC now c = true) : clAt (stayC l now) i = none := by
  unfold clAt
  refine List.find?_eq_none.2 fun a ha => ?_
  obtain ⟨hm, hg⟩ := List.mem_filter.1 ha
  intro he
  have he : a.id = i := by simpa using he
  obtain ⟨k, hk⟩ := List.mem_iff_getElem?.1 hm
  have h1 := clAt_at (limOk_iff.1 ho).1 hk
  rw [he] at h1
  rw [h a h1] at hg
  cases hg
theorem stay_len {l : List Cl} (now : Int) {c : Cl} (hm : c ∈ l) (hg : goneC now c = true) : (stayC l now).length < l.length := by
  unfold stayC
  rcases Nat.lt_or_ge (l.filter fun c => !goneC now c).length l.length with h | h
  · exact h
  · have := List.length_filter_eq_length_iff.1 (Nat.le_antisymm (List.length_filter_le _ _) h) c hm
    rw [hg] at this
    cases this
theorem stay_again (l : List Cl) (now : Int) : stayC (stayC l now) now = stayC l now := by
  unfold stayC
  rw [List.filter_filter]
  congr 1
  funext c
  cases goneC now c <;> rfl
/-- Whoever comes is told the same as if nobody had been forgotten. -/
theorem stay_came {l : List Cl} (ho : limOk l = true) {i now : Int} {L : List Cl} {T : Int} (h : camV l i now = some (L, T)) : ∃ M, camV (stayC l now) i now = some (M, T) ∧ scoreV L i = scoreV M i ∧ L.length ≤ 50 ∧ M.length ≤ 50 := by
  have hs := stayC_ok ho now
  obtain ⟨h1, h2, h3⟩ := limOk_iff.1 ho
  have hL := (limOk_iff.1 (next_ok ho h)).2.2
  rw [camV_yes ho] at h
  have key : ∃ M, comeV (stayC l now) i now = some (M, T) ∧ scoreV L i = scoreV M i := by
    unfold comeV at h ⊢
    split at h
    · rename_i hin
      rw [if_pos hin]
      cases hc : clAt l i with
      | some c =>
        rw [hc] at h
        replace h : (if now < c.last then none else some (putC l ⟨i, now, min (leftC c now + 4) 20⟩, if 20 < leftC c now + 4 then (1 : Int) else 0)) = some (L, T) := h
        split at h
        · cases h
        · rename_i hlt
          simp only [Option.some.injEq, Prod.mk.injEq] at h
          obtain ⟨rfl, rfl⟩ := h
          cases hg : goneC now c with
          | false =>
            rw [stay_at ho now hc hg]
            refine ⟨putC (stayC l now) ⟨i, now, min (leftC c now + 4) 20⟩, ?_, ?_⟩
            · show (if now < c.last then none else some (putC (stayC l now) ⟨i, now, min (leftC c now + 4) 20⟩, if 20 < leftC c now + 4 then (1 : Int) else 0)) = _
              rw [if_neg hlt]
            · exact (scoreV_put l ⟨i, now, min (leftC c now + 4) 20⟩).trans (scoreV_put (stayC l now) ⟨i, now, min (leftC c now + 4) 20⟩).symm
          | true =>
            have h0 : leftC c now = 0 := by unfold goneC at hg; simpa using hg
            rw [stay_none ho now (fun d hd => by rw [hc] at hd; cases hd; exact hg)]
            have := stay_len now (clAt_some hc).1 hg
            refine ⟨putC (stayC l now) ⟨i, now, 4⟩, ?_, ?_⟩
            · show (if (stayC l now).length = 50 then none else some (putC (stayC l now) ⟨i, now, 4⟩, (0 : Int))) = _
              rw [if_neg (by omega), h0]
              rfl
            · rw [h0]
              exact (scoreV_put l ⟨i, now, 4⟩).trans (scoreV_put (stayC l now) ⟨i, now, 4⟩).symm
      | none =>
        rw [hc] at h
        replace h : (if l.length = 50 then none else some (putC l ⟨i, now, 4⟩, (0 : Int))) = some (L, T) := h
        split at h
        · cases h
        · rename_i hne
          simp only [Option.some.injEq, Prod.mk.injEq] at h
          obtain ⟨rfl, rfl⟩ := h
          rw [stay_none ho now (fun d hd => by rw [hc] at hd; cases hd)]
          have hle : (stayC l now).length ≤ l.length := List.length_filter_le _ _
          refine ⟨putC (stayC l now) ⟨i, now, 4⟩, ?_, (scoreV_put l ⟨i, now, 4⟩).trans (scoreV_put (stayC l now) ⟨i, now, 4⟩).symm⟩
          show (if (stayC l now).length = 50 then none else some (putC (stayC l now) ⟨i, now, 4⟩, (0 : Int))) = _
          rw [if_neg (by omega)]
    · cases h
  obtain ⟨M, e, hsc⟩ := key
  rw [← camV_yes hs] at e
  exact ⟨M, e, hsc, hL, (limOk_iff.1 (next_ok hs e)).2.2⟩
theorem resC_len50 (l : List Cl) (id now : Int) : (resC (camV l id now)).length ≤ 50 := by
  unfold camV
  split
  · rename_i ho
    have := comeV_ok (id := id) (now := now) ho
    cases h : comeV l id now with
    | none => simp [resC]
    | some p =>
      rw [h] at this
      exact (limOk_iff.1 this).2.2
  · simp [resC]
/-- Two boxes with limiters. -/
structure FB (w wr : World) (p q : Nat) (x : Option Addr) (cx : Nat) (A : List Cl) (y : Option Addr) (cy : Nat) (B : List Cl) : Prop where
  low : Below w.heap.size w wr
  bp : wr.heap[p]? = some (.cells #[.slice x A.length cx] 28)
  bq : wr.heap[q]? = some (.cells #[.slice y B.length cy] 28)
  rA : ClRow w.heap.size wr x cx A
  rB : ClRow w.heap.size wr y cy B
theorem FB.next {w wr w' : World} {p q : Nat} {x y : Option Addr} {cx cy : Nat} {A B : List Cl} (h : FB w wr p q x cx A y cy B) (hb : Below wr.heap.size wr w') : FB w w' p q x cx A y cy B :=
  ⟨grow_next h.low hb, blk_next hb h.bp, blk_next hb h.bq, h.rA.next hb, h.rB.next hb⟩
set_option maxHeartbeats 4000000 in
theorem forg_walk (w : World) (x : Option Addr) (n cap z : Nat) (hz : z = n ∧ Code w.heap.size w (.slice x n cap) n) :
    Calls Try.prog 9 #[.slice x n cap] w fun e w' => e = .returned (.bool true) ∧ Below w.heap.size w w' := by
  obtain ⟨_, hc⟩ := hz
  by_cases hbig : n ≤ 1048576
  · have hbi : decide ((1048576 : Int) < (n : Int)) = false := decide_eq_false (by omega)
    go_enter Try.func9, Try.ntmps9
    go_wp2_with (go_at_call 26; go_in)
    refine (drawForgotten_c x n cap _ hc hbig).mono ?_
    rintro e w1 ⟨y, cy, l, t, rfl, hl50, hrow, hb1⟩
    have hlm : l.length ≤ maxLen := by unfold maxLen; omega
    have HF := Lib.hid (fun W h => forgotten_impl l l.length (Lib.hid rfl) hlm t y cy W h)
    have HG := Lib.hid (fun W h => forgotten_spec l l.length (Lib.hid rfl) hlm t y cy W h)
    have HCA := Lib.hid (fun i W h => came_impl l l.length (Lib.hid rfl) hlm i t y cy W h)
    have HST := Lib.hid (fun (ho : limOk l = true) i L T h => stay_came (l := l) ho (i := i) (now := t) (L := L) (T := T) h)
    have HLA := Lib.hid (fun i => resC_len50 l i t)
    have HFW : Hid (∀ h : (forgV l t).isSome = true, limOk l = true ∧ inB 0 t 1000000000 = true ∧ resF (forgV l t) = stayC l t) := Lib.hid (by
      intro h
      unfold forgV at h ⊢
      split at h
      · rename_i hh
        rw [if_pos hh]
        exact ⟨hh.1, hh.2, rfl⟩
      · cases h)
    have hF50 : (resF (forgV l t)).length ≤ 50 := by
      unfold forgV
      split
      · show (stayC l t).length ≤ 50
        have : (stayC l t).length ≤ l.length := List.length_filter_le _ _
        omega
      · exact Nat.zero_le _
    have hFl : (resF (forgV l t)).length ≤ l.length := by
      unfold forgV
      split
      · exact List.length_filter_le _ _
      · exact Nat.zero_le _
    unfold ForgOut at HF HG
    obtain ⟨F, hF⟩ : ∃ F, resF (forgV l t) = F := ⟨_, rfl⟩
    obtain ⟨k, hk⟩ : ∃ k, (forgV l t).isSome = k := ⟨_, rfl⟩
    rw [hF, hk] at HF HG HFW
    rw [hF] at hF50 hFl
    clear hF hk
    have hFm : F.length ≤ maxLen := by unfold maxLen; omega
    have HSL := Lib.hid (fun a b ca cb W h h' => sameLimiter_c F F.length (Lib.hid rfl) hFm a b ca cb W h h')
    have HCB := Lib.hid (fun i a ca W h => came_impl F F.length (Lib.hid rfl) hFm i t a ca W h)
    have HLB := Lib.hid (fun i => resC_len50 F i t)
    have HLO := Lib.hid (fun a ca W h => limOk_impl F F.length (Lib.hid rfl) hFm a ca W h)
    have HF2 := Lib.hid (fun a ca W h => forgotten_impl F F.length (Lib.hid rfl) hFm t a ca W h)
    have hlen := Lib.hid hFl
    have hF50 := Lib.hid hF50
    have Z2 := blk_new w1 (.cells #[.slice y l.length cy] 28)
    have G2 := hb1.alloc hb1.size (.cells #[.slice y l.length cy] 28)
    have R2 := hrow.next (below_new w1 (.cells #[.slice y l.length cy] 28))
    clear hc hrow hb1 hl50 hlm hFm hFl
    go_upto_region 4 with (fail)
    obtain ⟨W2, hW2⟩ : ∃ W, W = w1.alloc (.cells #[.slice y l.length cy] 28) := ⟨_, rfl⟩
    obtain ⟨p, hp⟩ : ∃ p, w1.heap.size = p := ⟨_, rfl⟩
    rw [hp] at Z2
    rw [← hW2] at Z2 G2 R2
    rw [← hW2]
    try rw [hp]
    clear hW2 hp
    have c3 := (one_cell Z2).1
    go_wp2_with fail
    refine (HF.out _ R2.cls).mono ?_
    rintro e w3 ⟨z, cz, rfl, hrz, hb3⟩
    have S4 : FB w (w3.alloc (.cells #[.slice z F.length cz] 28)) p w3.heap.size y cy l z cz F :=
      ⟨(grow_next G2 hb3).alloc (grow_next G2 hb3).size _, blk_alloc (blk_next hb3 Z2) _, blk_new w3 _, (R2.next hb3).next (below_new w3 _), ownsRow_base_le (hrz.next (below_new w3 _)) G2.size⟩
    clear Z2 G2 R2 hrz hb3 c3
    go_upto_region 5 with (fail)
    obtain ⟨W4, hW4⟩ : ∃ W, W = w3.alloc (.cells #[.slice z F.length cz] 28) := ⟨_, rfl⟩
    obtain ⟨q, hq⟩ : ∃ p, w3.heap.size = p := ⟨_, rfl⟩
    rw [hq] at S4
    rw [← hW4] at S4
    rw [← hW4]
    try rw [hq]
    clear hW4 hq
    have c3 := (one_cell S4.bp).1
    go_wp2_with fail
    refine (HG.out _ S4.rA.cls).mono ?_
    rintro e w5 ⟨u, cu, rfl, hru, hb5⟩
    have S6 := (S4.next hb5).next (below_new w5 (.cells #[.slice u F.length cu] 28))
    have Z6 := blk_new w5 (.cells #[.slice u F.length cu] 28)
    have R6 := hru.next (below_new w5 (.cells #[.slice u F.length cu] 28))
    clear S4 hru hb5 c3 HF HG
    go_upto_region 6 with (fail)
    obtain ⟨W6, hW6⟩ : ∃ W, W = w5.alloc (.cells #[.slice u F.length cu] 28) := ⟨_, rfl⟩
    obtain ⟨r, hr⟩ : ∃ p, w5.heap.size = p := ⟨_, rfl⟩
    rw [hr] at Z6
    rw [← hW6] at S6 Z6 R6
    rw [← hW6]
    try rw [hr]
    clear hW6 hr
    have c5 := (one_cell S6.bq).1
    have c7 := (one_cell Z6).1
    have hkk : (k != k) = false := by cases k <;> rfl
    have hkk2 : (k == k) = true := by cases k <;> rfl
    have HU : Hid (∀ W, Below W6.heap.size W6 W → Cls W.heap.size W u F) := Lib.hid (fun W h => (R6.next h).cls)
    go_wp2_with fail
    refine (HSL.out _ _ _ _ _ S6.rB.cls (HU.out _ (Below.refl _ _))).mono ?_
    rintro e w7 ⟨rfl, hb7⟩
    have S7 := S6.next hb7
    have Z7 := blk_next hb7 Z6
    have HU7 := Lib.hid (fun W h => HU.out W (grow_next hb7 h))
    clear R6 HU S6 Z6 c5 c7 hb7
    cases k with
    | false =>
      have c5 := (one_cell S7.bq).1
      have c7 := (one_cell Z7).1
      go_wp2_with fail
      refine (HSL.out _ _ _ _ _ S7.rB.cls (HU7.out _ (Below.refl _ _))).mono ?_
      rintro e w8 ⟨rfl, hb8⟩
      go_wp2_with fail
      go_returns
      exact ⟨rfl, grow_next S7.low hb8⟩
    | true =>
      obtain ⟨ho, hin, hFe⟩ := HFW.out rfl
      have HOK := Lib.hid (stayC_ok ho t)
      have HAG := Lib.hid (stay_again l t)
      have HIN := Lib.hid hin
      have HSTA := Lib.hid (HST.out ho)
      rw [← hFe] at HOK HAG HSTA
      clear ho hin hFe HFW HST
      have hfv : forgV F t = some F := by rw [forgV_in HOK.out HIN.out, HAG.out]
      rw [hfv] at HF2
      rw [HOK.out] at HLO
      clear hfv HIN HAG
      clear Z7 HU7
      go_wp2_with fail
      go_loopw [9] (fun i wr => ∃ k : Nat, 1 ≤ k ∧ k ≤ 6 ∧ i = .int .i64 k ∧ FB w wr p q y cy l z cz F) (fun i _ => 6 - (RowKit.intOf i).toNat)
      case atStart => exact ⟨1, by omega, by omega, rfl, S7⟩
      case round =>
        obtain ⟨k, hk1, hk, rfl, S⟩ := hrel
        clear S7
        have c3 := (one_cell S.bp).1
        by_cases hlt : k < 6
        · have hkn : (k : Int) ≤ 5 := by omega
          have hw3 : IntKind.i64.wrap ((k : Int) + 1) = (k : Int) + 1 := IntWalk.i64_in _ (by omega)
          have CA := HCA.out (k : Int) wr S.rA.cls
          have hLA := HLA.out (k : Int)
          have hLB := HLB.out (k : Int)
          have CB := HCB.out (k : Int) z cz
          have hSTA := HSTA.out (k : Int)
          obtain ⟨oA, hoA⟩ : ∃ o, camV l (k : Int) t = o := ⟨_, rfl⟩
          obtain ⟨oB, hoB⟩ : ∃ o, camV F (k : Int) t = o := ⟨_, rfl⟩
          rw [hoA] at CA hLA hSTA
          rw [hoB] at CB hLB hSTA
          unfold CamOut at CA CB
          have CA := Lib.hid CA
          have CB := Lib.hid CB
          have hSTA := Lib.hid hSTA
          clear hoA hoB
          go_wp2_with fail
          refine CA.out.mono ?_
          rintro e w8 ⟨a, ca, rfl, hra, hb8⟩
          obtain ⟨A, hA⟩ : ∃ A, resC oA = A := ⟨_, rfl⟩
          rw [hA] at hra hLA
          rw [hA]
          have S9 := (S.next hb8).next (below_new w8 (.cells #[.slice a A.length ca] 28))
          have Z9 := blk_new w8 (.cells #[.slice a A.length ca] 28)
          have R9 := hra.next (below_new w8 (.cells #[.slice a A.length ca] 28))
          clear S hra hb8 CA c3
          go_upto_region 12 with (fail)
          obtain ⟨W9, hW9⟩ : ∃ W, W = w8.alloc (.cells #[.slice a A.length ca] 28) := ⟨_, rfl⟩
          obtain ⟨pa, hpa⟩ : ∃ p, w8.heap.size = p := ⟨_, rfl⟩
          rw [hpa] at Z9
          rw [← hW9] at S9 Z9 R9
          rw [← hW9]
          try rw [hpa]
          clear hW9 hpa
          have c5 := (one_cell S9.bq).1
          go_wp2_with fail
          refine (CB.out _ S9.rB.cls).mono ?_
          rintro e w10 ⟨b, cb, rfl, hrb, hb10⟩
          obtain ⟨B, hB⟩ : ∃ B, resC oB = B := ⟨_, rfl⟩
          rw [hB] at hrb hLB
          rw [hB]
          have S11 := (S9.next hb10).next (below_new w10 (.cells #[.slice b B.length cb] 28))
          have Z11 := blk_alloc (blk_next hb10 Z9) (.cells #[.slice b B.length cb] 28)
          have Y11 := blk_new w10 (.cells #[.slice b B.length cb] 28)
          have R11 := (R9.next hb10).next (below_new w10 (.cells #[.slice b B.length cb] 28))
          have Q11 := hrb.next (below_new w10 (.cells #[.slice b B.length cb] 28))
          clear S9 hrb hb10 CB c5 Z9 R9
          go_upto_region 13 with (fail)
          obtain ⟨W11, hW11⟩ : ∃ W, W = w10.alloc (.cells #[.slice b B.length cb] 28) := ⟨_, rfl⟩
          obtain ⟨pb, hpb⟩ : ∃ p, w10.heap.size = p := ⟨_, rfl⟩
          rw [hpb] at Y11
          rw [← hW11] at S11 Z11 Y11 R11 Q11
          rw [← hW11]
          try rw [hpb]
          clear hW11 hpb
          have ka := cell_regrown (one_cell Z11).1
          have kb := cell_regrown (one_cell Y11).1
          have KA := Lib.hid (fun d os => Calls.regrown_of (score_c A A.length (Lib.hid rfl) (by unfold maxLen; omega) (k : Int) a ca (grow (redrawn W11 d) os) (R11.next (below_regrown W11 d os)).cls))
          have KB := Lib.hid (fun d os => Calls.regrown_of (score_c B B.length (Lib.hid rfl) (by unfold maxLen; omega) (k : Int) b cb (grow (redrawn W11 d) os) (Q11.next (below_regrown W11 d os)).cls))
          cases oA with
          | none =>
            obtain ⟨tb, htb⟩ : ∃ v, toldC oB = v := ⟨_, rfl⟩
            obtain ⟨ib, hib⟩ : ∃ v, oB.isSome = v := ⟨_, rfl⟩
            rw [htb, hib]
            clear htb hib hA hB hSTA
            simp only [toldC, Option.isSome]
            go_wp2_with fail
            refine wp_region_quiet_below (by kernel_rfl) (by kernel_rfl) ?_
            repeat ((with_reducible refine wpQuiet_step (fun K hK => ?_)); go_simp; first | ((with_reducible refine hK _ ?_); clear hK K) | (rw [if_neg (by intro h; exact nomatch h)]; (with_reducible refine hK _ ?_); clear hK K) | (apply Exists.intro; (with_reducible refine ⟨fun _ => ?_, hK _ ?_⟩); (first | with_reducible exact KA.out _ _ | with_reducible exact KB.out _ _); clear hK K))
            with_reducible refine wpQuiet_nil ?_
            intro _ hw'
            obtain ⟨⟨dq, osq⟩, hw''⟩ := hw'
            subst hw''
            have S12 := S11.next (below_regrown W11 dq osq)
            generalize grow (redrawn W11 dq) osq = W12 at *
            clear KA KB ka kb Z11 Y11 R11 Q11 S11
            go_wp2_with fail
            go_roundw
            case rel => exact ⟨k + 1, by omega, by omega, by go_num, S12⟩
            case measure => simp [RowKit.intOf]; omega
          | some P =>
            obtain ⟨L, T⟩ := P
            obtain ⟨M, e1, e2, _, _⟩ := hSTA.out L T rfl
            subst e1
            have hA : L = A := hA
            have hB : M = B := hB
            subst hA
            subst hB
            rw [e2] at KA
            obtain ⟨s, hs⟩ : ∃ s, scoreV M (k : Int) = s := ⟨_, rfl⟩
            rw [hs] at KA KB
            clear e2 hs hSTA
            have hTT : (T != T) = false := by simp
            have hss : (s != s) = false := by simp
            simp only [toldC, Option.isSome]
            go_wp2_with fail
            refine wp_region_quiet_below (by kernel_rfl) (by kernel_rfl) ?_
            repeat ((with_reducible refine wpQuiet_step (fun K hK => ?_)); go_simp; first | ((with_reducible refine hK _ ?_); clear hK K) | (rw [if_neg (by intro h; exact nomatch h)]; (with_reducible refine hK _ ?_); clear hK K) | (apply Exists.intro; (with_reducible refine ⟨fun _ => ?_, hK _ ?_⟩); (first | with_reducible exact KA.out _ _ | with_reducible exact KB.out _ _); clear hK K))
            with_reducible refine wpQuiet_nil ?_
            intro _ hw'
            obtain ⟨⟨dq, osq⟩, hw''⟩ := hw'
            subst hw''
            have S12 := S11.next (below_regrown W11 dq osq)
            generalize grow (redrawn W11 dq) osq = W12 at *
            clear KA KB ka kb Z11 Y11 R11 Q11 S11
            go_wp2_with fail
            go_roundw
            case rel => exact ⟨k + 1, by omega, by omega, by go_num, S12⟩
            case measure => simp [RowKit.intOf]; omega
        · have hkn : ¬ (k : Int) ≤ 5 := by omega
          have c5 := (one_cell S.bq).1
          clear HCA HCB HLA HLB HSTA
          go_wp2_with fail
          refine (HF2.out _ _ _ S.rB.cls).mono ?_
          rintro e w8 ⟨a, ca, rfl, hra, hb8⟩
          simp only [resF, Option.isSome] at hra
          simp only [resF, Option.isSome]
          have S9 := (S.next hb8).next (below_new w8 (.cells #[.slice a F.length ca] 28))
          have Z9 := blk_new w8 (.cells #[.slice a F.length ca] 28)
          have R9 := hra.next (below_new w8 (.cells #[.slice a F.length ca] 28))
          clear S hra hb8 c3 c5
          go_upto_region 16 with (fail)
          obtain ⟨W9, hW9⟩ : ∃ W, W = w8.alloc (.cells #[.slice a F.length ca] 28) := ⟨_, rfl⟩
          obtain ⟨pa, hpa⟩ : ∃ p, w8.heap.size = p := ⟨_, rfl⟩
          rw [hpa] at Z9
          rw [← hW9] at S9 Z9 R9
          rw [← hW9]
          try rw [hpa]
          clear hW9 hpa
          have c5 := (one_cell S9.bq).1
          go_wp2_with fail
          refine (HLO.out _ _ _ S9.rB.cls).mono ?_
          rintro e w10 ⟨rfl, hb10⟩
          have S10 := S9.next hb10
          have Z10 := blk_next hb10 Z9
          have R10 := R9.next hb10
          clear S9 Z9 R9 c5 hb10
          have c5 := (one_cell S10.bq).1
          have c16 := (one_cell Z10).1
          go_wp2_with fail
          refine (HSL.out _ _ _ _ _ R10.cls S10.rB.cls).mono ?_
          rintro e w11 ⟨rfl, hb11⟩
          have S11 := S10.next hb11
          clear S10 Z10 R10 c5 c16 hb11
          have c5 := (one_cell S11.bq).1
          have c3 := (one_cell S11.bp).1
          go_wp2_with fail
          go_returns
          exact ⟨by show Ending.returned (.bool (decide (F.length ≤ l.length))) = _; rw [decide_eq_true hlen.out], S11.low⟩
  · have hbi : decide ((1048576 : Int) < (n : Int)) = true := decide_eq_true (by omega)
    go_enter Try.func9, Try.ntmps9
    go_wp2_with (go_at_call 26; go_in)
    go_returns
    exact ⟨rfl, Below.refl _ _⟩
set_option maxRecDepth 100000 in
theorem forg_lifted (os : Os) (started : os.Started) (H : Type) (enc : TypeId × Value → H) :
    ReturnsInHanded {} Try.checked os 9 .any (Rows.fnForgottenSpec.pre6 enc Try.prog Try.f9 Rows.fnForgottenRow.domain false) (Rows.fnForgottenSpec.post enc Try.prog Try.f9 false true false false) := by
  refine lifted_of_walk (C := Try.checked) own started (by as_aux_lemma => kernel_rfl) Try.func9
    (ChangeSpec.witness6 (enc := enc) (C := Try.checked) false ⟨#[], #[.slice none 0 0], []⟩ 8 (by as_aux_lemma => kernel_rfl) (by as_aux_lemma => kernel_rfl) (by as_aux_lemma => kernel_rfl) (by as_aux_lemma => kernel_rfl) (by as_aux_lemma => kernel_rfl))
    laidOut rfl (by as_aux_lemma => kernel_rfl) (by as_aux_lemma => kernel_rfl) boolType
    (fun ds h => by
      match ds, h with
      | [_], _ => rfl)
    ?_
  intro W base args ds q hval hA
  rw [Try.params9] at hA hval
  obtain ⟨v0, vs0, d0, ds0, p0, q0, hargs, rfl, rfl, h0, r0⟩ := trodAll_cons hA
  obtain ⟨rfl, rfl, rfl⟩ := trodAll_nil r0
  obtain rfl : args = #[v0] := by cases args; simp_all
  obtain ⟨a0, len0, cap0, z0, rfl, w0⟩ := open_bytes Try.underlying45 Try.underlying5 (by as_aux_lemma => kernel_rfl) (hval 0 45 v0 rfl rfl) h0
  exact forg_walk W a0 len0 cap0 z0 w0

set_option maxHeartbeats 4000000 in
theorem forg_facts : joinedFacts Try.pinned.checked.prog 9 Try.f9 Rows.fnForgottenSpec Rows.fnForgottenRow = true :=
  facts_of (P := Try.prog) (by as_aux_lemma => kernel_rfl) laidOut mapsRow (by as_aux_lemma => kernel_rfl) (by as_aux_lemma => kernel_rfl) rfl noStops rfl noKnobs (by as_aux_lemma => kernel_rfl) (by as_aux_lemma => kernel_rfl) (by as_aux_lemma => kernel_rfl) (by as_aux_lemma => kernel_rfl) (by as_aux_lemma => kernel_rfl) (by as_aux_lemma => kernel_rfl) (by as_aux_lemma => kernel_rfl) (by as_aux_lemma => kernel_rfl) (by as_aux_lemma => kernel_rfl) rfl (by as_aux_lemma => kernel_rfl) (by as_aux_lemma => kernel_rfl) (by as_aux_lemma => kernel_rfl) keysPlain rfl heard enters finals isMake rfl rfl rfl (by as_aux_lemma => kernel_rfl) (by as_aux_lemma => kernel_rfl)

/-- The given statement. -/
theorem forg_holds : Rows.FnForgottenSaid :=
  OpenClaim.holds_of_wide 9 Try.f9 rfl rfl rfl rfl rfl rfl rfl ⟨rfl, rfl, rfl, rfl, rfl⟩ rfl rfl rfl rfl rfl (by as_aux_lemma => kernel_rfl) Try.func9 forg_facts
    (of_decide_eq_true (by as_aux_lemma => kernel_rfl)) (by unfold Func.isWrapper; first | (rw [if_pos (by decide +kernel)]; kernel_rfl) | (rw [if_neg (by decide +kernel)]; exact ⟨rfl, rfl⟩))
    (fun os started H enc _ => forg_lifted os started H enc)
#print axioms forg_holds
end Go.Proofs.Ytckonbbdeohccaa
