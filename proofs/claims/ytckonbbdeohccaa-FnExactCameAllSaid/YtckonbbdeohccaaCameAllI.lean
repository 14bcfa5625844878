/- Many come, one behind the other: the program's way. -/
import Derived.Test.YtckonbbdeohccaaAllMath
namespace Go.Proofs.Ytckonbbdeohccaa
open Go.ChangeShapes Go.WideShapes Go.ChangeAt Go.RowKit Go.Maps
set_option linter.unusedVariables false
set_option linter.unusedSimpArgs false
set_option maxRecDepth 100000

theorem infoI64' : (Try.prog.info? 2).map (fun i => (i.zero, i.size, i.bytes)) = some (some (.int .i64 0), 1, 8) := by kernel_rfl
theorem cell_one_newA (w : World) (v : Value) (t : TypeId) : ∀ (j : Nat) z, [v][j]? = some z → (w.alloc (.cells #[v] t)).cell? ((⟨w.heap.size, 0, none⟩ : Addr).add j) = some z := by
  intro j z hz
  match j, hz with
  | 0, hz =>
    simp at hz
    subst hz
    have := (one_cell (blk_new w (.cells #[v] t))).1
    first | (simp [Addr.add]; done) | simpa [Addr.add] using this
  | j + 1, hz => simp at hz
theorem grow_ownA {w0 w w' : World} {u : Value} {base : Nat} (h : Below w0.heap.size w0 w) (hg : w.grownBy w' u.ownBlock) (hb : w0.heap.size ≤ base) (hu : ∀ g, u.ownBlock = some g → base ≤ g) : Below w0.heap.size w0 w' := h.grown hg h.size (fun j hj => Nat.le_trans hb (hu j hj))
theorem int_form {base : Nat} {W : World} {v : Value} {T : List Int} (h : W.ownsRow base 2 1 v T.length (T.map (Value.int .i64))) : ∃ x cap, v = .slice x T.length cap ∧ IRow base W x cap T := by
  rcases h.2 with ⟨e, e0⟩ | ⟨g, c, cur, e, r⟩
  · refine ⟨none, 0, by rw [e, e0], ?_⟩
    have h2 := h
    rw [e, ← e0] at h2
    unfold IRow
    rw [e0] at h2 ⊢
    exact h2
  · exact ⟨some ⟨g, 0, none⟩, c, e, by unfold IRow; rw [← e]; exact h⟩
set_option maxHeartbeats 4000000 in
theorem cameAll_impl (l : List Cl) (ids : List Int) (n m : Nat) (hn : Hid (n = l.length)) (hm : Hid (m = ids.length)) (hnm : n ≤ maxLen) (hmm : m ≤ maxLen) (start gap : Int) (s0 : -9223372036854775808 ≤ start) (s1 : start ≤ 9223372036854775807) (x y : Option Addr) (cap cy : Nat) (w : World) (h : Cls w.heap.size w x l) (hi : IntsAt w.heap.size w y ids) :
    Calls Try.prog 20 #[.agg #[.slice x n cap], .slice y m cy, .int .i64 start, .int .i64 gap] w (AllOut w (resA l ids start gap) (resT l ids start gap)) := by
  unfold maxLen at hmm
  obtain ⟨i0, hi0, hz0, hz1, hz2⟩ := info_partsT infoI64'
  have HI0 := Lib.hid hi0
  have HZ0 := Lib.hid hz0
  have HZ1 := Lib.hid hz1
  have HZ2 := Lib.hid hz2
  clear hi0 hz0 hz1 hz2
  have HL := Lib.hid (fun w h => limOk_impl l n hn hnm x cap w h)
  have Q0 := blk_alloc (blk_new w (.cells #[.slice x n cap] 28)) (.cells #[.slice none 0 0] 28)
  have Q1 := blk_new (w.alloc (.cells #[.slice x n cap] 28)) (.cells #[.slice none 0 0] 28)
  simp only [World.size_alloc] at Q1
  have B0 : Below w.heap.size w ((w.alloc (.cells #[.slice x n cap] 28)).alloc (.cells #[.slice none 0 0] 28)) := by go_grown
  obtain ⟨g, hg⟩ : ∃ b, inB 0 gap 1000000 = b := ⟨_, rfl⟩
  have HG := Lib.hid hg
  have HW := Lib.hid (fun W => (hg ▸ within_c gap 0 1000000 W : Calls Try.prog 46 #[.int .i64 gap, .int .i64 0, .int .i64 1000000] W fun e w' => e = .returned (.bool g) ∧ W = w'))
  clear hg
  go_enter Try.func20, Try.ntmps20
  go_upto_region 1 with fail
  generalize (w.alloc (.cells #[.slice x n cap] 28)).alloc (.cells #[.slice none 0 0] 28) = W at *
  obtain ⟨c0, _⟩ := one_cell Q0
  go_wp2_with fail
  refine (HL.out _ (h.next B0)).mono ?_
  rintro e w1 ⟨rfl, b1⟩
  have B1 := grow_next B0 b1
  have R0 := blk_next b1 Q0
  have R1 := blk_next b1 Q1
  clear Q0 Q1 c0 b1 B0 HL
  have hbox : w.heap.size + 1 < w1.heap.size := (Array.getElem?_eq_some_iff.1 R1).1
  cases ho : limOk l with
  | false =>
    have hbad : allOk l m gap = false := by unfold allOk; rw [ho]; rfl
    clear ho
    have RA := Lib.hid (show resA l ids start gap = [] by unfold resA; rw [← hm.out, hbad]; rfl)
    have RT := Lib.hid (show resT l ids start gap = [] by unfold resT; rw [← hm.out, hbad]; rfl)
    clear hbad
    obtain ⟨c0, c1⟩ := one_cell R1
    have V := heap_set R1 0 (.slice none 0 0)
    have G := below_setCell B1 (b := w.heap.size + 1) (by omega) 0 (.slice none 0 0)
    go_wp2_with (go_at_call 46; refine (HW.out _).mono ?_; rintro e w3 ⟨rfl, rfl⟩)
    obtain ⟨q0, _⟩ := one_cell V
    try simp only [Exit.inBlock, Exit.then]
    refine bodyPost_ret (by simp [results, Try.results20, go_sem, q0]; try rfl) rfl ?_
    exact ⟨none, 0, none, 0, by rw [RA.out, RT.out]; rfl, by rw [RA.out]; exact clRow_nil _ _, by rw [RT.out]; exact World.ownsRow_nil _ _ _ _, G⟩
  | true =>
    by_cases h200 : 200 < m
    · have hd : decide ((200 : Int) < (m : Int)) = true := decide_eq_true (by omega)
      have hbad : allOk l m gap = false := by unfold allOk; rw [decide_eq_false (by omega : ¬ m ≤ 200), Bool.false_and, Bool.and_false]
      clear ho
      have RA := Lib.hid (show resA l ids start gap = [] by unfold resA; rw [← hm.out, hbad]; rfl)
      have RT := Lib.hid (show resT l ids start gap = [] by unfold resT; rw [← hm.out, hbad]; rfl)
      clear hbad
      obtain ⟨c0, c1⟩ := one_cell R1
      have V := heap_set R1 0 (.slice none 0 0)
      have G := below_setCell B1 (b := w.heap.size + 1) (by omega) 0 (.slice none 0 0)
      go_wp2_with (go_at_call 46; refine (HW.out _).mono ?_; rintro e w3 ⟨rfl, rfl⟩)
      obtain ⟨q0, _⟩ := one_cell V
      try simp only [Exit.inBlock, Exit.then]
      refine bodyPost_ret (by simp [results, Try.results20, go_sem, q0]; try rfl) rfl ?_
      exact ⟨none, 0, none, 0, by rw [RA.out, RT.out]; rfl, by rw [RA.out]; exact clRow_nil _ _, by rw [RT.out]; exact World.ownsRow_nil _ _ _ _, G⟩
    · have hd : decide ((200 : Int) < (m : Int)) = false := decide_eq_false (by omega)
      cases g with
      | false =>
        have hbad : allOk l m gap = false := by unfold allOk; rw [HG.out, Bool.and_false, Bool.and_false]
        clear ho
        have RA := Lib.hid (show resA l ids start gap = [] by unfold resA; rw [← hm.out, hbad]; rfl)
        have RT := Lib.hid (show resT l ids start gap = [] by unfold resT; rw [← hm.out, hbad]; rfl)
        clear hbad
        obtain ⟨c0, c1⟩ := one_cell R1
        have V := heap_set R1 0 (.slice none 0 0)
        have G := below_setCell B1 (b := w.heap.size + 1) (by omega) 0 (.slice none 0 0)
        go_wp2_with (go_at_call 46; refine (HW.out _).mono ?_; rintro e w3 ⟨rfl, rfl⟩)
        obtain ⟨q0, _⟩ := one_cell V
        try simp only [Exit.inBlock, Exit.then]
        refine bodyPost_ret (by simp [results, Try.results20, go_sem, q0]; try rfl) rfl ?_
        exact ⟨none, 0, none, 0, by rw [RA.out, RT.out]; rfl, by rw [RA.out]; exact clRow_nil _ _, by rw [RT.out]; exact World.ownsRow_nil _ _ _ _, G⟩
      | true =>
        have hok : allOk l m gap = true := by unfold allOk; rw [HG.out, ho, decide_eq_true (by omega : m ≤ 200)]; rfl
        have RA := Lib.hid (show resA l ids start gap = allC l ids start gap m by unfold resA; rw [← hm.out, hok]; rfl)
        have RT := Lib.hid (show resT l ids start gap = allT l ids start gap m by unfold resT; rw [← hm.out, hok]; rfl)
        obtain ⟨g0, g1⟩ := inB_iff.1 HG.out
        have HOK := Lib.hid ho
        have HC := Lib.hid (clientsOf_c l ho n hn x cap _ (h.next B1))
        obtain ⟨c0, _⟩ := one_cell R0
        clear ho hok HG
        go_wp2_with (go_at_call 46; refine (HW.out _).mono ?_; rintro e w3 ⟨rfl, rfl⟩)
        refine HC.out.mono ?_
        rintro e w2 ⟨b, rfl, hbb, M2, b2⟩
        have B2 := grow_next B1 b2
        have R2 := blk_next b2 R1
        have hb2 := M2.lt
        have y2 := (hi.next B2)
        obtain ⟨base, hbase⟩ : ∃ k, w2.heap.size = k := ⟨_, rfl⟩
        have hsz := B2.size
        have hbase2 : w.heap.size + 1 < base := by rw [← hbase]; exact (Array.getElem?_eq_some_iff.1 R2).1
        clear HC b2 R1 R0 c0 B1
        go_wp2_with fail
        go_loopw [11, 12, 36] (fun o a i wr => ∃ k : Nat, k ≤ m ∧ i = .int .i64 k ∧ a = .int .i64 (timeI start gap k) ∧ ClMap wr b (allC l ids start gap k) ∧ wr.ownsRow base 2 1 o (allT l ids start gap k).length ((allT l ids start gap k).map (Value.int .i64)) ∧ wr.heap[w.heap.size + 1]? = some (.cells #[.slice none 0 0] 28) ∧ base ≤ wr.heap.size ∧ Below w.heap.size w wr) (fun _ _ i _ => m - (RowKit.intOf i).toNat)
        case atStart => exact ⟨0, Nat.zero_le _, rfl, rfl, M2, World.ownsRow_nil _ _ _ _, R2, by omega, B2⟩
        case round =>
          obtain ⟨k, hk, rfl, rfl, MM, hrow, RR, hbs, BB⟩ := hrel
          clear M2 R2 B2 y2
          by_cases hlt : k < m
          · have hkn : (k : Int) < (m : Int) := by omega
            obtain ⟨z, hz⟩ : ∃ z, ids[k]? = some z := ⟨_, List.getElem?_eq_getElem (by rw [← hm.out]; exact hlt)⟩
            obtain ⟨yb, yo, rfl, hyb, yc⟩ := (hi.next BB).at_ hz
            have hlen := allT_len l ids start gap k
            have hzd : ids.getD k 0 = z := by rw [List.getD_eq_getElem?_getD, hz]; rfl
            have eC : allC l ids start gap (k + 1) = afterC (allC l ids start gap k) (comeV (allC l ids start gap k) z (timeI start gap k)) := by rw [allC, hzd, comeV_time _ _ _ _ g0]
            have eT : allT l ids start gap (k + 1) = allT l ids start gap k ++ [oneV (allC l ids start gap k) z (timeI start gap k)] := by rw [allT, hzd]; unfold oneV; rw [comeV_time _ _ _ _ g0]
            have HCM := Lib.hid (come_c (allC l ids start gap k) (allC_ok HOK.out ids start gap k) b z (timeI start gap k) wr MM)
            have ht0 := timeI_lo start gap g0 k
            have ht1 := timeI_hi start gap g1 s1 k
            have eI : timeI start gap (k + 1) = if timeI start gap k ≤ 1000000000 then timeI start gap k + gap else timeI start gap k := rfl
            have HEI := Lib.hid eI
            have HEC := Lib.hid eC
            have HET := Lib.hid eT
            obtain ⟨A, hA⟩ : ∃ A, allC l ids start gap k = A := ⟨_, rfl⟩
            obtain ⟨T, hT⟩ : ∃ T, allT l ids start gap k = T := ⟨_, rfl⟩
            obtain ⟨at_, hat⟩ : ∃ t, timeI start gap k = t := ⟨_, rfl⟩
            unfold oneV at HET
            rw [hA, hat] at HCM
            rw [hA, hat] at HEC
            rw [hA, hT, hat] at HET
            rw [hat] at HEI ht0 ht1 ⊢
            rw [hT] at hrow hlen
            obtain ⟨o, ho⟩ : ∃ o, comeV A z at_ = o := ⟨_, rfl⟩
            rw [ho] at HCM HEC HET
            unfold Came at HCM
            clear hA hT hat ho hz hzd eC eT eI MM
            have hw3 : IntKind.i64.wrap ((k : Int) + 1) = (k : Int) + 1 := IntWalk.i64_in _ (by omega)
            go_wp2_with fail
            refine HCM.out.mono ?_
            rintro e w5 ⟨rfl, M5, hg5⟩
            have hrow5 := own_keepB hrow hg5 (fun g e => by cases e; omega)
            have R5 := (hg5.block (w.heap.size + 1) (Array.getElem?_eq_some_iff.1 RR).1 (by simp only [ne_eq, Option.some.injEq]; omega)).trans RR
            have B5 : Below w.heap.size w w5 := BB.grown hg5 BB.size (fun j hj => by cases hj; have := hsz; omega)
            have hs5 := hg5.size
            rw [← HEC.out] at M5
            clear HCM hrow RR hg5 yc BB
            obtain ⟨t5, ht5⟩ : ∃ t : Int, oneO o = t := ⟨_, rfl⟩
            rw [ht5] at HET
            cases o with
            | none =>
              have ht5 : (2 : Int) = t5 := ht5
              subst ht5
              simp only [toldC, Option.isSome]
              by_cases hle : at_ ≤ 1000000000
              · have hw6 : IntKind.i64.wrap (at_ + gap) = at_ + gap := IntWalk.i64_in _ (by omega)
                rw [if_pos hle] at HEI
                have Bn := B5.alloc (by omega) (.cells #[.int .i64 2] 2)
                go_wp2_with (at_builtin; refine wpList_append_own _ rfl _ _ 35 rfl base 2 i0 (.int .i64 0) 1 8 Try.underlying35 HI0.out HZ0.out HZ1.out HZ2.out rfl (by decide) _ _ _ rfl (hrow5.alloc _) ⟨w5.heap.size, 0, none⟩ 1 1 [.int .i64 2] rfl rfl (cell_one_newA w5 _ _) (by simp [Value.oneCell']) (by unfold maxLen; omega) (by omega) (by simp; omega) ?_; intro v' w6 hown' hgrow _)
                have hu : ∀ g, u11.ownBlock = some g → base ≤ g := fun g hg => (hrow5.lt g hg).1
                have R6 := (hgrow.block (w.heap.size + 1) (by simp; omega) (fun e => by have := hu _ e.symm; omega)).trans (blk_alloc R5 _)
                have M6 := (M5.kept (World.grownBy_alloc w5 (.cells #[.int .i64 2] 2) none) (by simp)).kept hgrow (fun e => by have := hu _ e.symm; omega)
                have B6 := grow_ownA Bn hgrow (Nat.le_trans (Nat.le_trans hsz (Nat.le_of_eq hbase)) (Nat.le_refl _)) hu
                have hs6 := hgrow.size
                have hs7 : (w5.alloc (.cells #[.int .i64 2] 2)).heap.size = w5.heap.size + 1 := World.size_alloc _ _
                go_roundw
                case rel => exact ⟨k + 1, by omega, by go_num, by rw [HEI.out], M6, by rw [HET.out]; simpa using hown', R6, by omega, B6⟩
                case measure => simp [RowKit.intOf]; omega
              · rw [if_neg hle] at HEI
                have Bn := B5.alloc (by omega) (.cells #[.int .i64 2] 2)
                go_wp2_with (at_builtin; refine wpList_append_own _ rfl _ _ 35 rfl base 2 i0 (.int .i64 0) 1 8 Try.underlying35 HI0.out HZ0.out HZ1.out HZ2.out rfl (by decide) _ _ _ rfl (hrow5.alloc _) ⟨w5.heap.size, 0, none⟩ 1 1 [.int .i64 2] rfl rfl (cell_one_newA w5 _ _) (by simp [Value.oneCell']) (by unfold maxLen; omega) (by omega) (by simp; omega) ?_; intro v' w6 hown' hgrow _)
                have hu : ∀ g, u11.ownBlock = some g → base ≤ g := fun g hg => (hrow5.lt g hg).1
                have R6 := (hgrow.block (w.heap.size + 1) (by simp; omega) (fun e => by have := hu _ e.symm; omega)).trans (blk_alloc R5 _)
                have M6 := (M5.kept (World.grownBy_alloc w5 (.cells #[.int .i64 2] 2) none) (by simp)).kept hgrow (fun e => by have := hu _ e.symm; omega)
                have B6 := grow_ownA Bn hgrow (Nat.le_trans (Nat.le_trans hsz (Nat.le_of_eq hbase)) (Nat.le_refl _)) hu
                have hs6 := hgrow.size
                have hs7 : (w5.alloc (.cells #[.int .i64 2] 2)).heap.size = w5.heap.size + 1 := World.size_alloc _ _
                go_roundw
                case rel => exact ⟨k + 1, by omega, by go_num, by rw [HEI.out], M6, by rw [HET.out]; simpa using hown', R6, by omega, B6⟩
                case measure => simp [RowKit.intOf]; omega
            | some P =>
              obtain ⟨L, tt⟩ := P
              have ht5 : tt = t5 := ht5
              subst ht5
              simp only [toldC, Option.isSome]
              by_cases hle : at_ ≤ 1000000000
              · have hw6 : IntKind.i64.wrap (at_ + gap) = at_ + gap := IntWalk.i64_in _ (by omega)
                rw [if_pos hle] at HEI
                have Bn := B5.alloc (by omega) (.cells #[.int .i64 tt] 2)
                go_wp2_with (at_builtin; refine wpList_append_own _ rfl _ _ 35 rfl base 2 i0 (.int .i64 0) 1 8 Try.underlying35 HI0.out HZ0.out HZ1.out HZ2.out rfl (by decide) _ _ _ rfl (hrow5.alloc _) ⟨w5.heap.size, 0, none⟩ 1 1 [.int .i64 tt] rfl rfl (cell_one_newA w5 _ _) (by simp [Value.oneCell']) (by unfold maxLen; omega) (by omega) (by simp; omega) ?_; intro v' w6 hown' hgrow _)
                have hu : ∀ g, u11.ownBlock = some g → base ≤ g := fun g hg => (hrow5.lt g hg).1
                have R6 := (hgrow.block (w.heap.size + 1) (by simp; omega) (fun e => by have := hu _ e.symm; omega)).trans (blk_alloc R5 _)
                have M6 := (M5.kept (World.grownBy_alloc w5 (.cells #[.int .i64 tt] 2) none) (by simp)).kept hgrow (fun e => by have := hu _ e.symm; omega)
                have B6 := grow_ownA Bn hgrow (Nat.le_trans (Nat.le_trans hsz (Nat.le_of_eq hbase)) (Nat.le_refl _)) hu
                have hs6 := hgrow.size
                have hs7 : (w5.alloc (.cells #[.int .i64 tt] 2)).heap.size = w5.heap.size + 1 := World.size_alloc _ _
                go_roundw
                case rel => exact ⟨k + 1, by omega, by go_num, by rw [HEI.out], M6, by rw [HET.out]; simpa using hown', R6, by omega, B6⟩
                case measure => simp [RowKit.intOf]; omega
              · rw [if_neg hle] at HEI
                have Bn := B5.alloc (by omega) (.cells #[.int .i64 tt] 2)
                go_wp2_with (at_builtin; refine wpList_append_own _ rfl _ _ 35 rfl base 2 i0 (.int .i64 0) 1 8 Try.underlying35 HI0.out HZ0.out HZ1.out HZ2.out rfl (by decide) _ _ _ rfl (hrow5.alloc _) ⟨w5.heap.size, 0, none⟩ 1 1 [.int .i64 tt] rfl rfl (cell_one_newA w5 _ _) (by simp [Value.oneCell']) (by unfold maxLen; omega) (by omega) (by simp; omega) ?_; intro v' w6 hown' hgrow _)
                have hu : ∀ g, u11.ownBlock = some g → base ≤ g := fun g hg => (hrow5.lt g hg).1
                have R6 := (hgrow.block (w.heap.size + 1) (by simp; omega) (fun e => by have := hu _ e.symm; omega)).trans (blk_alloc R5 _)
                have M6 := (M5.kept (World.grownBy_alloc w5 (.cells #[.int .i64 tt] 2) none) (by simp)).kept hgrow (fun e => by have := hu _ e.symm; omega)
                have B6 := grow_ownA Bn hgrow (Nat.le_trans (Nat.le_trans hsz (Nat.le_of_eq hbase)) (Nat.le_refl _)) hu
                have hs6 := hgrow.size
                have hs7 : (w5.alloc (.cells #[.int .i64 tt] 2)).heap.size = w5.heap.size + 1 := World.size_alloc _ _
                go_roundw
                case rel => exact ⟨k + 1, by omega, by go_num, by rw [HEI.out], M6, by rw [HET.out]; simpa using hown', R6, by omega, B6⟩
                case measure => simp [RowKit.intOf]; omega
          · have hkn : ¬ (k : Int) < (m : Int) := by omega
            have hkm : k = m := by omega
            subst hkm
            rw [← RA.out] at MM
            rw [← RT.out] at hrow
            have hok2 : limOk (resA l ids start gap) = true := by rw [RA.out]; exact allC_ok HOK.out ids start gap k
            obtain ⟨A, hA⟩ : ∃ A, resA l ids start gap = A := ⟨_, rfl⟩
            obtain ⟨T, hT⟩ : ∃ T, resT l ids start gap = T := ⟨_, rfl⟩
            have HA := Lib.hid hA
            have HT := Lib.hid hT
            rw [hA] at MM hok2
            rw [hT] at hrow
            obtain ⟨r1, r2, r3⟩ := limOk_iff.1 hok2
            have HM := Lib.hid (limiter_c A A.length (Lib.hid rfl) r3 r2 b wr MM)
            clear r1 r2 r3 hok2 hA hT RA RT
            go_wp2_with fail
            all_goals
              refine HM.out.mono ?_
              rintro e w4 ⟨z, cz, rfl, hr, b4⟩
              have B4 := grow_next BB b4
              have R4 := blk_next b4 RR
              obtain ⟨c0, c1⟩ := one_cell R4
              have V := heap_set R4 0 (.slice z A.length cz)
              have G := below_setCell B4 (b := w.heap.size + 1) (by omega) 0 (.slice z A.length cz)
              have gS : w4.grownBy (w4.setCell ⟨w.heap.size + 1, 0, none⟩ (.slice z A.length cz)) (some (w.heap.size + 1)) := grown_setC (World.grownBy.refl _ _) 0 _
              have hr2 := hr.keep gS (fun g e => by have := (e ▸ hr).lt.1; simp only [ne_eq, Option.some.injEq]; omega)
              have hr3 : ClRow w.heap.size _ z cz A := ownsRow_base_le hr2 BB.size
              have hq := own_keepB (own_nextC hrow b4) gS (fun g e => by cases e; omega)
              clear HM hr hr2 gS R4 B4 b4 RR hrow
              go_wp2_with fail
              obtain ⟨q0, _⟩ := one_cell V
              try simp only [Exit.inBlock, Exit.then]
              refine bodyPost_ret (by simp [results, Try.results20, go_sem, q0]; try rfl) rfl ?_
              obtain ⟨yy, cyy, e2, hq2⟩ := int_form hq
              subst e2
              exact ⟨z, cz, yy, cyy, by rw [HA.out, HT.out], by rw [HA.out]; exact hr3, by rw [HT.out]; exact ownsRow_base_le hq2 (by omega), G⟩
end Go.Proofs.Ytckonbbdeohccaa
