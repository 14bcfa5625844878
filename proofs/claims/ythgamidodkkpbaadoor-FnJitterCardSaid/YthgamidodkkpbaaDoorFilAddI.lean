/- The program's FilterAdd and Popcorn. -/
import Derived.Test.YthgamidodkkpbaaDoorFilOkI
import Derived.Test.YthgamidodkkpbaaDoorSmRow
import Derived.Laws.Cover3
namespace Go.Proofs.YthgamidodkkpbaaDoor
open Go.ChangeShapes Go.WideShapes Go.ChangeAt Go.RowKit Go.Sort
set_option linter.unusedVariables false
set_option linter.unusedSimpArgs false

def SRow (w : World) (l : List Sm) (n : Nat) (v : Value) (w' : World) : Prop := w'.ownsRow w.heap.size 26 4 v n (flatSm l) ∧ Below w.heap.size w w'
set_option maxRecDepth 100000 in
set_option maxHeartbeats 1000000 in
theorem clone_c (l : List Sm) (n : Nat) (hn : Hid (n = l.length)) (hm : n ≤ 100) (b cap : Nat) (w : World) (h : Sms w.heap.size w (some ⟨b, 0, none⟩) l) :
    Calls Tryd.prog 32 #[.slice (some ⟨b, 0, none⟩) n cap] w fun e w' => ∃ v, e = .returned v ∧ SRow w l n v w' := by
  obtain ⟨i0, hi, hz0, hz1, hz2⟩ := info_partsT infoSm'
  have HI0 := Lib.hid hi
  have HZ0 := Lib.hid hz0
  have HZ1 := Lib.hid hz1
  have HZ2 := Lib.hid hz2
  have HO := Lib.hid (World.ownsRow_made (base := w.heap.size) (e := 26) (size := 4) w #[] 0 (Nat.le_refl _) (by simp [maxLen]) rfl)
  have hb : Below w.heap.size w (w.alloc (.cells #[] 26)) := below_new _ _
  have HL : Hid ((flatSm l).length = n * 4) := Lib.hid (by rw [flatSm_len, ← hn.out])
  have HS := Lib.hid (sms_news (h.next hb))
  have heq : ∀ W, (binOp .eql 24 (.slice (some ⟨b, 0, none⟩) n cap) (.slice none 0 0)).run Tryd.prog W = .ok (.bool false) W := fun W => by
    simp only [binOp, Sem.run_bind, run_equal_slice_nil W 24 26 _ _ _ Tryd.underlying24, Result.andThen_ok, Sem.run_pure]
    rfl
  clear hi hz0 hz1 hz2
  go_enter Tryd.func32, Tryd.ntmps32
  go_wp2_with (at_builtin; go_loud (refine wpList_append_own _ rfl _ _ 24 rfl w.heap.size 26 i0 (.agg #[.int .i64 0, .int .i64 0, .int .i64 0, .int .i64 0]) 4 32 Tryd.underlying24 HI0.out HZ0.out HZ1.out HZ2.out rfl (by decide) _ _ _ rfl HO.out ⟨b, 0, none⟩ n cap (flatSm l) rfl HL.out HS.out flatSm_one (by unfold maxLen; omega) (by omega) (by simp) ?_); intro v' w4 hown' hgrow _)
  go_returns
  rw [Nat.zero_add, List.nil_append] at hown'
  exact ⟨v', rfl, hown', hb.grown hgrow hb.size (fun g hg => (HO.out.lt g hg).1)⟩

theorem own_lowerS {w : World} {base base' : Nat} {e : TypeId} {size : Nat} {v : Value} {n : Nat} {xs : List Value} (h : w.ownsRow base e size v n xs) (hb : base' ≤ base) : w.ownsRow base' e size v n xs := by
  refine ⟨h.1, ?_⟩
  rcases h.2 with h | ⟨g, c, cur, h, h1, r⟩
  · exact .inl h
  · exact .inr ⟨g, c, cur, h, by omega, r⟩
def addOk (l : List Sm) (s : Sm) : Bool := okSms l && takesV l s
def addR (l : List Sm) (s : Sm) : List Sm := if addOk l s then addV l s else []
theorem addV_len {l : List Sm} {s : Sm} (h : l.length ≤ 8) : (addV l s).length ≤ 8 ∧ 0 < (addV l s).length := by
  unfold addV
  split
  · simp; omega
  · simp; omega
theorem jitV_in {l : List Sm} (hA : AllOkS l) (hl : l.length ≤ 8) : 0 ≤ jitV l ∧ jitV l ≤ 16000000000000 := by
  unfold jitV
  by_cases hne : l = []
  · subst hne; simp [sumJ]
  · have := sumJ_in (hA _ (bestV_mem hne)) l hA
    have h0 : 0 ≤ sumJ (bestV l) l / max ((l.length : Int) - 1) 1 := Int.ediv_nonneg this.1 (by omega)
    have h2 : sumJ (bestV l) l / max ((l.length : Int) - 1) 1 ≤ sumJ (bestV l) l := Int.ediv_le_self _ this.1
    omega
section
variable (l : List Sm) (s : Sm) (n : Nat) (hn : Hid (n = l.length)) (hm : n ≤ maxLen) (x : Option Addr) (cap : Nat) (w : World) (h : Sms w.heap.size w x l) {ao an au : Addr} (L : Ld w ao an au)
include hn hm h L
set_option maxRecDepth 100000 in
set_option maxHeartbeats 1000000 in
theorem filterAdd_impl : Calls Tryd.prog 9 #[.slice x n cap, .agg #[.int .i64 s.off, .int .i64 s.delay, .int .i64 s.disp, .int .i64 s.at_]] w fun e w' => ∃ v, e = .returned (.tuple #[v, .bool (addOk l s)]) ∧ SRow w (addR l s) (addR l s).length v w' := by
  have b0 : Below w.heap.size w (w.alloc (.cells #[.int .i64 s.off, .int .i64 s.delay, .int .i64 s.disp, .int .i64 s.at_] 26)) := below_new _ _
  have R0 := blk_new w (.cells #[.int .i64 s.off, .int .i64 s.delay, .int .i64 s.disp, .int .i64 s.at_] 26)
  have HF := Lib.hid (filterOf_c l n hn hm x cap _ (h.next b0) (L.next b0))
  unfold FilPost at HF
  cases ho : okSms l with
  | false =>
    have e1 : addOk l s = false := by unfold addOk; rw [ho]; rfl
    have e2 : addR l s = [] := by unfold addR; rw [e1]; rfl
    rw [e1, e2]
    rw [ho] at HF
    clear ho e1 e2
    go_enter Tryd.func9, Tryd.ntmps9
    go_wp2_with fail
    refine HF.out.mono ?_
    rintro e w1 ⟨C, m, rfl, hF, hml, hb1⟩
    have g1 := grow_next b0 hb1
    go_wp2_with (refine wpList_store_row rfl 46 (.tmp 6) (.tmp 11) rfl w1.heap.size 46 zero33.toArray C.toArray rfl rfl (blk_new w1 (.cells zero33.toArray 46)) (fil_info hF) (fil_size hF) (fil_one hF) ?_; intro w2 hw2)
    go_returns
    exact ⟨_, rfl, World.ownsRow_nil _ _ _ _, (fil_boxed g1 hF hw2.out).2⟩
  | true =>
    have hle := (okSms_all ho).2
    rw [ho] at HF
    have hT := fun b W h L => takes_c l s b W h (ao := ao) (an := an) (au := au) L
    cases ht : takesV l s with
    | false =>
      have e1 : addOk l s = false := by unfold addOk; rw [ho, ht]; rfl
      have e2 : addR l s = [] := by unfold addR; rw [e1]; rfl
      rw [e1, e2]
      rw [ht] at hT
      have HT := Lib.hid hT
      clear ho e1 e2 ht hT
      go_enter Tryd.func9, Tryd.ntmps9
      go_wp2_with fail
      refine HF.out.mono ?_
      rintro e w1 ⟨C, m, rfl, hF, hml, hb1⟩
      have e := hml (by trivial)
      subst e
      have R1 := blk_next hb1 R0
      have g1 := grow_next b0 hb1
      go_upto_region 2 with (refine wpList_store_row rfl 46 (.tmp 6) (.tmp 11) rfl w1.heap.size 46 zero33.toArray C.toArray rfl rfl (blk_new w1 (.cells zero33.toArray 46)) (fil_info hF) (fil_size hF) (fil_one hF) ?_; intro w2 hw2)
      obtain ⟨F2, b2⟩ := fil_boxed g1 hF hw2.out
      have R2 := (setRow_other' hw2.out (j := w.heap.size) (by have := (Array.getElem?_eq_some_iff.1 R1).1; omega)).trans (blk_alloc R1 (.cells zero33.toArray 46))
      obtain ⟨r0, r1, r2, r3⟩ := sample_cells R2
      clear hw2
      go_wp2_with fail
      refine (HT.out w1.heap.size w2 F2 (L.next b2)).mono ?_
      rintro e w3 ⟨rfl, hb3⟩
      go_wp2_with fail
      go_returns
      exact ⟨_, rfl, World.ownsRow_nil _ _ _ _, grow_next b2 hb3⟩
    | true =>
      have e1 : addOk l s = true := by unfold addOk; rw [ho, ht]; rfl
      have e2 : addR l s = addV l s := by unfold addR; rw [e1]; rfl
      rw [e1, e2]
      rw [ht] at hT
      have HT := Lib.hid hT
      obtain ⟨A, hA⟩ : ∃ A, addV l s = A := ⟨_, rfl⟩
      have hAl := addV_len (s := s) hle
      rw [hA] at hAl ⊢
      obtain ⟨q, hq⟩ : ∃ q, q = A.length := ⟨_, rfl⟩
      rw [← hq] at hAl ⊢
      have HQ := Lib.hid hq
      have hAD := fun b W h => add_c l s b W h
      rw [hA] at hAD
      have HAD := Lib.hid hAD
      clear ho e1 e2 ht hT hA hq hAD
      go_enter Tryd.func9, Tryd.ntmps9
      go_wp2_with fail
      refine HF.out.mono ?_
      rintro e w1 ⟨C, m, rfl, hF, hml, hb1⟩
      have e := hml (by trivial)
      subst e
      have R1 := blk_next hb1 R0
      have g1 := grow_next b0 hb1
      go_upto_region 2 with (refine wpList_store_row rfl 46 (.tmp 6) (.tmp 11) rfl w1.heap.size 46 zero33.toArray C.toArray rfl rfl (blk_new w1 (.cells zero33.toArray 46)) (fil_info hF) (fil_size hF) (fil_one hF) ?_; intro w2 hw2)
      obtain ⟨F2, b2⟩ := fil_boxed g1 hF hw2.out
      have R2 := (setRow_other' hw2.out (j := w.heap.size) (by have := (Array.getElem?_eq_some_iff.1 R1).1; omega)).trans (blk_alloc R1 (.cells zero33.toArray 46))
      obtain ⟨r0, r1, r2, r3⟩ := sample_cells R2
      have hw1 : w.heap.size < w1.heap.size := (Array.getElem?_eq_some_iff.1 R1).1
      clear hw2
      go_wp2_with fail
      refine (HT.out w1.heap.size w2 F2 (L.next b2)).mono ?_
      rintro e w3 ⟨rfl, hb3⟩
      have F3 := F2.next hb3
      have b3 := grow_next b2 hb3
      obtain ⟨r0, r1, r2, r3⟩ := sample_cells (blk_next hb3 R2)
      go_wp2_with fail
      refine (HAD.out w1.heap.size w3 F3).mono ?_
      rintro e w4 ⟨rfl, F4, hg4⟩
      have b4 : Below w.heap.size w w4 := b3.grown hg4 b3.size (fun j e => by simp only [Option.some.injEq] at e; omega)
      have hLI := list_c A w1.heap.size w4 F4
      rw [← HQ.out] at hLI
      have HLI := Lib.hid hLI
      clear hLI
      go_wp2_with fail
      refine HLI.out.mono ?_
      rintro e w5 ⟨rfl, hb5⟩
      have F5 := F4.next hb5
      have b5 := grow_next b4 hb5
      go_wp2_with fail
      refine (clone_c A q HQ (by omega) w1.heap.size 8 w5 F5.sms).mono ?_
      rintro e w6 ⟨v, rfl, hown, hb6⟩
      go_wp2_with fail
      go_returns
      exact ⟨v, rfl, (own_lowerS hown b5.size), grow_next b5 hb6⟩

/-- What Popcorn tells. -/
def popV (l : List Sm) (s : Sm) : Bool := okSms l && decide (2 ≤ l.length) && s.ok && decide (3 * max (jitV l) 1 < awayV s.off (bestV l).off)
set_option maxRecDepth 100000 in
set_option maxHeartbeats 2000000 in
theorem popcorn_impl : Calls Tryd.prog 22 #[.slice x n cap, .agg #[.int .i64 s.off, .int .i64 s.delay, .int .i64 s.disp, .int .i64 s.at_]] w fun e w' => e = .returned (.bool (popV l s)) ∧ Below w.heap.size w w' := by
  have b0 : Below w.heap.size w (w.alloc (.cells #[.int .i64 s.off, .int .i64 s.delay, .int .i64 s.disp, .int .i64 s.at_] 26)) := below_new _ _
  have R0 := blk_new w (.cells #[.int .i64 s.off, .int .i64 s.delay, .int .i64 s.disp, .int .i64 s.at_] 26)
  have HF := Lib.hid (filterOf_c l n hn hm x cap _ (h.next b0) (L.next b0))
  unfold FilPost at HF
  cases ho : okSms l with
  | false =>
    have e1 : popV l s = false := by unfold popV; rw [ho]; rfl
    rw [e1]
    rw [ho] at HF
    clear ho e1
    go_enter Tryd.func22, Tryd.ntmps22
    go_wp2_with fail
    refine HF.out.mono ?_
    rintro e w1 ⟨C, m, rfl, hF, hml, hb1⟩
    have g1 := grow_next b0 hb1
    have R1 := blk_next hb1 R0
    go_wp2_with (refine wpList_store_row rfl 46 (.tmp 5) (.tmp 10) rfl w1.heap.size 46 zero33.toArray C.toArray rfl rfl (blk_new w1 (.cells zero33.toArray 46)) (fil_info hF) (fil_size hF) (fil_one hF) ?_; intro w2 hw2)
    go_returns
    exact ⟨rfl, (fil_boxed g1 hF hw2.out).2⟩
  | true =>
    have hA := (okSms_all ho).1
    have hle := (okSms_all ho).2
    rw [ho] at HF
    by_cases h2 : 2 ≤ l.length
    · cases hs : s.ok with
      | false =>
        have e1 : popV l s = false := by unfold popV; rw [hs]; simp
        rw [e1]
        have HS := fun W L => Lib.hid (sampleOk_decF hs W (ao := ao) (an := an) (au := au) L)
        clear ho e1 hs
        go_enter Tryd.func22, Tryd.ntmps22
        go_wp2_with fail
        refine HF.out.mono ?_
        rintro e w1 ⟨C, m, rfl, hF, hml, hb1⟩
        have g1 := grow_next b0 hb1
        have R1 := blk_next hb1 R0
        have e := hml (by trivial)
        subst e
        go_upto_region 2 with (refine wpList_store_row rfl 46 (.tmp 5) (.tmp 10) rfl w1.heap.size 46 zero33.toArray C.toArray rfl rfl (blk_new w1 (.cells zero33.toArray 46)) (fil_info hF) (fil_size hF) (fil_one hF) ?_; intro w2 hw2)
        obtain ⟨F2, b2⟩ := fil_boxed g1 hF hw2.out
        have R2 := (setRow_other' hw2.out (j := w.heap.size) (by have := (Array.getElem?_eq_some_iff.1 R1).1; omega)).trans (blk_alloc R1 (.cells zero33.toArray 46))
        obtain ⟨r0, r1, r2, r3⟩ := sample_cells R2
        have hc2 := F2.count
        have hd : decide ((m.length : Int) < 2) = false := decide_eq_false (by omega)
        clear hw2
        go_wp2_with fail
        refine (HS _ (L.next b2)).out.mono ?_
        rintro e w3 ⟨rfl, hb3⟩
        go_wp2_with fail
        go_returns
        exact ⟨rfl, grow_next b2 hb3⟩
      | true =>
        have hne : l ≠ [] := by intro e; rw [e] at h2; simp at h2
        have hbk := hA _ (bestV_mem hne)
        have hJ := jitV_in hA hle
        have hAw := awayV_in (off_in hs) (off_in hbk)
        have HS := fun W L => Lib.hid (sampleOk_decF hs W (ao := ao) (an := an) (au := au) L)
        have hC := fun W => away_c s.off (bestV l).off (off_in hs) (off_in hbk) W
        have hB : ∀ b W, FilAt W b l → Calls Tryd.prog 35 #[.pointer (some ⟨b, 0, none⟩)] W fun e w' => e = .returned (.agg #[.int .i64 ((bestV l)).off, .int .i64 ((bestV l)).delay, .int .i64 ((bestV l)).disp, .int .i64 ((bestV l)).at_]) ∧ Below W.heap.size W w' := fun b W h => (best_c l b W h).mono fun e w' ⟨p, he, hp, hb⟩ => by
          obtain rfl := hp hne
          exact ⟨he, hb⟩
        have hT := fun b W h => jitter_c l hA b W h
        have hP : popV l s = decide (3 * max (jitV l) 1 < awayV s.off (bestV l).off) := by
          unfold popV
          rw [ho, hs, decide_eq_true h2]
          simp
        obtain ⟨q, hq⟩ : ∃ q, bestV l = q := ⟨_, rfl⟩
        obtain ⟨j, hj⟩ : ∃ j, jitV l = j := ⟨_, rfl⟩
        rw [hq, hj] at hP
        rw [hq] at hC hAw hB
        rw [hj] at hT hJ
        obtain ⟨d, hd⟩ : ∃ d, awayV s.off q.off = d := ⟨_, rfl⟩
        rw [hd] at hC hP hAw
        have HC := Lib.hid hC
        have HB := Lib.hid hB
        have HT := Lib.hid hT
        have HP := Lib.hid hP
        clear hbk hC hB hT hP hq hj hd ho hs
        go_enter Tryd.func22, Tryd.ntmps22
        go_wp2_with fail
        refine HF.out.mono ?_
        rintro e w1 ⟨C, m, rfl, hF, hml, hb1⟩
        have g1 := grow_next b0 hb1
        have R1 := blk_next hb1 R0
        have e := hml (by trivial)
        subst e
        go_upto_region 2 with (refine wpList_store_row rfl 46 (.tmp 5) (.tmp 10) rfl w1.heap.size 46 zero33.toArray C.toArray rfl rfl (blk_new w1 (.cells zero33.toArray 46)) (fil_info hF) (fil_size hF) (fil_one hF) ?_; intro w2 hw2)
        obtain ⟨F2, b2⟩ := fil_boxed g1 hF hw2.out
        have R2 := (setRow_other' hw2.out (j := w.heap.size) (by have := (Array.getElem?_eq_some_iff.1 R1).1; omega)).trans (blk_alloc R1 (.cells zero33.toArray 46))
        obtain ⟨r0, r1, r2, r3⟩ := sample_cells R2
        have hc2 := F2.count
        have hd : decide ((m.length : Int) < 2) = false := decide_eq_false (by omega)
        clear hw2
        go_wp2_with fail
        refine (HS _ (L.next b2)).out.mono ?_
        rintro e w3 ⟨rfl, hb3⟩
        have F3 := F2.next hb3
        have b3 := grow_next b2 hb3
        obtain ⟨r0, r1, r2, r3⟩ := sample_cells (blk_next hb3 R2)
        have k0 := cell_regrown r0
        have KB := Lib.hid (fun d os => Calls.regrown_of (HB.out w1.heap.size (grow (redrawn w3 d) os) (F3.next (below_regrown w3 d os))))
        have KT := Lib.hid (fun d os => Calls.regrown_of (HT.out w1.heap.size (grow (redrawn w3 d) os) (F3.next (below_regrown w3 d os))))
        have KC := Lib.hid (fun d os => Calls.regrown_of (HC.out (grow (redrawn w3 d) os)))
        have hfd : ∀ W, (Instr.field 26 (.agg #[.int .i64 q.off, .int .i64 q.delay, .int .i64 q.disp, .int .i64 q.at_]) 0).run Tryd.prog W = .ok (.int .i64 q.off) W := fun W => by kernel_rfl
        clear r0 r1 r2 r3 HB HT HC HF
        by_cases hj1 : j < 1
        · have e1 : decide (j < 1) = true := decide_eq_true hj1
          have e2 : max j 1 = 1 := by omega
          have hw3 : IntKind.i64.wrap 3 = 3 := IntWalk.i64_in _ (by omega)
          rw [e2] at HP
          clear e2
          go_wp2_with fail
          refine wp_region_quiet_below (by kernel_rfl) (by kernel_rfl) ?_
          repeat ((with_reducible refine wpQuiet_step (fun K hK => ?_)); go_simp; first | ((with_reducible refine hK _ ?_); clear hK K) | (rw [if_neg (by intro h; exact nomatch h)]; (with_reducible refine hK _ ?_); clear hK K) | (apply Exists.intro; (with_reducible refine ⟨fun _ => ?_, hK _ ?_⟩); (first | with_reducible exact KB.out _ _ | with_reducible exact KT.out _ _ | with_reducible exact KC.out _ _); clear hK K))
          with_reducible refine wpQuiet_nil ?_
          intro _ hw'
          obtain ⟨⟨dq1, osq1⟩, hw''⟩ := hw'
          subst hw''
          have g4 := below_regrown w3 dq1 osq1
          generalize hW1 : grow (redrawn w3 dq1) osq1 = W1 at *
          clear hW1 k0 KB KT KC
          go_wp2_with fail
          go_returns
          exact ⟨by rw [HP.out]; rfl, grow_next b3 g4⟩
        · have e1 : decide (j < 1) = false := decide_eq_false hj1
          have e2 : max j 1 = j := by omega
          have hw3 : IntKind.i64.wrap (3 * j) = 3 * j := IntWalk.i64_in _ (by omega)
          rw [e2] at HP
          clear e2
          go_wp2_with fail
          refine wp_region_quiet_below (by kernel_rfl) (by kernel_rfl) ?_
          repeat ((with_reducible refine wpQuiet_step (fun K hK => ?_)); go_simp; first | ((with_reducible refine hK _ ?_); clear hK K) | (rw [if_neg (by intro h; exact nomatch h)]; (with_reducible refine hK _ ?_); clear hK K) | (apply Exists.intro; (with_reducible refine ⟨fun _ => ?_, hK _ ?_⟩); (first | with_reducible exact KB.out _ _ | with_reducible exact KT.out _ _ | with_reducible exact KC.out _ _); clear hK K))
          with_reducible refine wpQuiet_nil ?_
          intro _ hw'
          obtain ⟨⟨dq1, osq1⟩, hw''⟩ := hw'
          subst hw''
          have g4 := below_regrown w3 dq1 osq1
          generalize hW1 : grow (redrawn w3 dq1) osq1 = W1 at *
          clear hW1 k0 KB KT KC
          go_wp2_with fail
          go_returns
          exact ⟨by rw [HP.out]; rfl, grow_next b3 g4⟩
    · have e1 : popV l s = false := by unfold popV; rw [decide_eq_false h2]; simp
      rw [e1]
      clear ho e1
      go_enter Tryd.func22, Tryd.ntmps22
      go_wp2_with fail
      refine HF.out.mono ?_
      rintro e w1 ⟨C, m, rfl, hF, hml, hb1⟩
      have g1 := grow_next b0 hb1
      have R1 := blk_next hb1 R0
      have e := hml (by trivial)
      subst e
      go_upto_region 2 with (refine wpList_store_row rfl 46 (.tmp 5) (.tmp 10) rfl w1.heap.size 46 zero33.toArray C.toArray rfl rfl (blk_new w1 (.cells zero33.toArray 46)) (fil_info hF) (fil_size hF) (fil_one hF) ?_; intro w2 hw2)
      obtain ⟨F2, b2⟩ := fil_boxed g1 hF hw2.out
      have hc2 := F2.count
      have hd : decide ((m.length : Int) < 2) = true := decide_eq_true (by omega)
      clear hw2
      go_wp2_with fail
      go_returns
      exact ⟨rfl, b2⟩
end
end Go.Proofs.YthgamidodkkpbaaDoor
