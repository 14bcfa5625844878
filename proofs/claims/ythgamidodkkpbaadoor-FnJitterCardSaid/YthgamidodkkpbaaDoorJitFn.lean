/- Samples of one offset have no jitter; when all are moved by as much it is as it was; what lies near is no spike: at all drawn filters. -/
import Derived.Test.YthgamidodkkpbaaDoorSpikeNear
import Derived.Test.YthgamidodkkpbaaDoorFilMath
import Derived.Test.YthgamidodkkpbaaDoorTie
import Derived.Test.YthgamidodkkpbaaDoorCards
import Derived.Lib.QuietBelow
import Derived.Maps.AppendAt
import Derived.Deep.Cut
namespace Go.Proofs.YthgamidodkkpbaaDoor
open Go.ChangeShapes Go.WideShapes Go.ChangeAt Go.RowKit Go.Sort
set_option linter.unusedVariables false
set_option linter.unusedSimpArgs false

theorem pop_best {l : List Sm} : popV l (bestV l) = false := by
  unfold popV
  have : awayV (bestV l).off (bestV l).off = 0 := awayV_self _
  have hd : decide (3 * max (jitV l) 1 < (0 : Int)) = false := decide_eq_false (by omega)
  rw [this, hd, Bool.and_false]
def jitR (l : List Sm) : Int := if okSms l then jitV l else -1
theorem jitR_ge {l : List Sm} : -1 ≤ jitR l ∧ (jitR l < 0 → okSms l = false) := by
  unfold jitR
  cases h : okSms l with
  | false => simp
  | true =>
    have := jitV_in (okSms_all h).1 (okSms_all h).2
    simp
    omega
theorem jitR_moved {l : List Sm} (h : okSms l = true) : jitR (l.map movedS) = jitR l ∨ jitR (l.map movedS) < 0 := by
  unfold jitR
  rw [h]
  cases okSms (l.map movedS) with
  | false => right; simp
  | true => left; simp [jitV_moved]
theorem jitR_still {l : List Sm} (h : okSms l = true) : jitR (l.map stillS) = 0 := by
  unfold jitR
  rw [okSms_still h]
  simp [jitV_still]
theorem cells4_new (w : World) (v : Sm) (t : TypeId) : ∀ j z, v.cells[j]? = some z → ((w.alloc (.cells #[.int .i64 v.off, .int .i64 v.delay, .int .i64 v.disp, .int .i64 v.at_] t))).cell? ((⟨w.heap.size, 0, none⟩ : Addr).add j) = some z := cell_four_new w v t
theorem flat_one_more (f : Sm → Sm) {l : List Sm} {k : Nat} {v : Sm} (h : l[k]? = some v) : flatSm ((l.take (k + 1)).map f) = flatSm ((l.take k).map f) ++ (f v).cells := by
  rw [take_nextS h, List.map_append, flatSm_append]
  simp [flatSm]
theorem sms_cellJ {B : Nat} {W : World} {g off k : Nat} {l : List Sm} {v : Sm} (h : Sms B W (some ⟨g, off, none⟩) l) (hv : l[k]? = some v) : W.cell? ⟨g, off + k * 4, none⟩ = some (.int .i64 v.off) ∧ W.cell? ⟨g, off + k * 4 + 1, none⟩ = some (.int .i64 v.delay) ∧ W.cell? ⟨g, off + k * 4 + 2, none⟩ = some (.int .i64 v.disp) ∧ W.cell? ⟨g, off + k * 4 + 3, none⟩ = some (.int .i64 v.at_) := by
  obtain ⟨b, o, e, _, h0, h1, h2, h3⟩ := h.at_ hv
  simp only [Option.some.injEq, Addr.mk.injEq] at e
  obtain ⟨rfl, rfl, _⟩ := e
  exact ⟨h0, h1, h2, h3⟩
set_option maxRecDepth 100000 in
set_option maxHeartbeats 8000000 in
theorem fj_walk (w : World) {ao an au : Addr} (L : Ld w ao an au) (x : Option Addr) (n cap z : Nat) (hz : z = n ∧ Code w.heap.size w (.slice x n cap) n) :
    Calls Tryd.prog 5 #[.slice x n cap] w fun e w' => e = .returned (.bool true) ∧ Below w.heap.size w w' := by
  obtain ⟨_, hc⟩ := hz
  by_cases hbig : n ≤ 1048576
  · go_enter Tryd.func5, Tryd.ntmps5
    go_wp2_with (go_at_call 7; go_in)
    refine (drawJitterOf_c x n cap _ hc hbig).mono ?_
    rintro e w1 ⟨g, off, c, m, l, rfl, hm, hm8, hmc, hcm, S1, b1⟩
    have HM : Hid (m = l.length) := Lib.hid hm
    have hmm : m ≤ maxLen := by unfold maxLen; omega
    obtain ⟨j, hj⟩ : ∃ j, jitR l = j := ⟨_, rfl⟩
    have HI := Lib.hid (fun (W : World) h {ao an au} L => (show Calls Tryd.prog 19 #[.slice (some ⟨g, off, none⟩) m c] W fun e w' => e = .returned (.int .i64 j) ∧ Below W.heap.size W w' from hj ▸ @jitterOf_impl l m HM hmm (some ⟨g, off, none⟩) c W h ao an au L))
    have HS := Lib.hid (fun (W : World) h => (show Calls Tryd.prog 21 #[.slice (some ⟨g, off, none⟩) m c] W fun e w' => e = .returned (.int .i64 j) ∧ Below W.heap.size W w' from hj ▸ jitterOf_spec l m HM hmm (some ⟨g, off, none⟩) c W h))
    have HJ := Lib.hid hj
    have hjg := jitR_ge (l := l)
    rw [hj] at hjg
    have hj1 := hjg.1
    have HJN := Lib.hid hjg.2
    clear hm hj hjg
    go_wp2_with fail
    refine (HI.out _ S1 (L.next b1)).mono ?_
    rintro e w2 ⟨rfl, hb2⟩
    have b2 := grow_next b1 hb2
    have S2 := S1.next hb2
    clear S1 hb2
    go_wp2_with fail
    refine (drawPopcorn_c x n cap _ (hc.next b2) hbig).mono ?_
    rintro e w3 ⟨g', off', c', m', l', s, rfl, hm', hm8', hmc', hcm', _, X3, hb3⟩
    have HM' : Hid (m' = l'.length) := Lib.hid hm'
    have hmm' : m' ≤ maxLen := by unfold maxLen; omega
    have B3 : Below w3.heap.size w3 (w3.alloc (.cells #[.int .i64 s.off, .int .i64 s.delay, .int .i64 s.disp, .int .i64 s.at_] 26)) := below_new _ _
    have b3 := grow_next (grow_next b2 hb3) B3
    have S3 := (S2.next hb3).next B3
    have X4 := X3.next B3
    have Q3 := blk_new w3 (.cells #[.int .i64 s.off, .int .i64 s.delay, .int .i64 s.disp, .int .i64 s.at_] 26)
    obtain ⟨p, hp⟩ : ∃ p, popV l' s = p := ⟨_, rfl⟩
    have HPI := Lib.hid (fun (W : World) h {ao an au} L => (show Calls Tryd.prog 22 #[.slice (some ⟨g', off', none⟩) m' c', .agg #[.int .i64 s.off, .int .i64 s.delay, .int .i64 s.disp, .int .i64 s.at_]] W fun e w' => e = .returned (.bool p) ∧ Below W.heap.size W w' from hp ▸ @popcorn_impl l' s m' HM' hmm' (some ⟨g', off', none⟩) c' W h ao an au L))
    have HPS := Lib.hid (fun (W : World) h => (show Calls Tryd.prog 23 #[.slice (some ⟨g', off', none⟩) m' c', .agg #[.int .i64 s.off, .int .i64 s.delay, .int .i64 s.disp, .int .i64 s.at_]] W fun e w' => e = .returned (.bool p) ∧ Below W.heap.size W w' from hp ▸ popcorn_spec l' m' HM' hmm' (some ⟨g', off', none⟩) c' W h s))
    have hpp : (p != p) = false := by cases p <;> rfl
    have hpe : (p == p) = true := by cases p <;> rfl
    clear hm' hp S2 X3
    go_wp2_with fail
    generalize hW3 : w3.alloc (.cells #[.int .i64 s.off, .int .i64 s.delay, .int .i64 s.disp, .int .i64 s.at_] 26) = W3 at *
    clear hW3
    obtain ⟨x0, x1, x2, x3⟩ := sample_cells Q3
    have k0 := cell_regrown x0
    have k1 := cell_regrown x1
    have k2 := cell_regrown x2
    have k3 := cell_regrown x3
    have C1 := Lib.hid (fun d os => Calls.regrown_of (HS.out (grow (redrawn W3 d) os) (S3.next (below_regrown W3 d os))))
    have C2 := Lib.hid (fun d os => Calls.regrown_of (HPI.out (grow (redrawn W3 d) os) (X4.next (below_regrown W3 d os)) (L.next (grow_next b3 (below_regrown W3 d os)))))
    have C3 := Lib.hid (fun d os => Calls.regrown_of (HPS.out (grow (redrawn W3 d) os) (X4.next (below_regrown W3 d os))))
    clear x0 x1 x2 x3
    by_cases hend : j < 0 ∨ m = 0
    · have hcase : (decide (j < 0) = true) ∨ (decide (j < 0) = false ∧ m = 0) := by
        by_cases h : j < 0
        · exact .inl (decide_eq_true h)
        · exact .inr ⟨decide_eq_false h, hend.resolve_left h⟩
      clear hend
      rcases hcase with hd | ⟨hd, rfl⟩
      all_goals
        refine wp_region_quiet_below (by kernel_rfl) (by kernel_rfl) ?_
        repeat ((with_reducible refine wpQuiet_step (fun K hK => ?_)); go_simp; first | ((with_reducible refine hK _ ?_); clear hK K) | (rw [if_neg (by intro h; exact nomatch h)]; (with_reducible refine hK _ ?_); clear hK K) | (apply Exists.intro; (with_reducible refine ⟨fun _ => ?_, hK _ ?_⟩); (first | with_reducible exact C1.out _ _ | with_reducible exact C2.out _ _ | with_reducible exact C3.out _ _); clear hK K))
        with_reducible refine wpQuiet_nil ?_
        intro _ hw'
        obtain ⟨⟨dq, osq⟩, hw''⟩ := hw'
        subst hw''
        have g4 := grow_next b3 (below_regrown W3 dq osq)
        have S4 := S3.next (below_regrown W3 dq osq)
        have X5 := X4.next (below_regrown W3 dq osq)
        have Q4 := blk_next (below_regrown W3 dq osq) Q3
        clear k0 k1 k2 k3 C1 C2 C3
        generalize grow (redrawn W3 dq) osq = W4 at *
        obtain ⟨x0, x1, x2, x3⟩ := sample_cells Q4
        have k0 := cell_regrown x0
        have k1 := cell_regrown x1
        have k2 := cell_regrown x2
        have k3 := cell_regrown x3
        have C1 := Lib.hid (fun d os => Calls.regrown_of (HS.out (grow (redrawn W4 d) os) (S4.next (below_regrown W4 d os))))
        have C2 := Lib.hid (fun d os => Calls.regrown_of (HPI.out (grow (redrawn W4 d) os) (X5.next (below_regrown W4 d os)) (L.next (grow_next g4 (below_regrown W4 d os)))))
        have C3 := Lib.hid (fun d os => Calls.regrown_of (HPS.out (grow (redrawn W4 d) os) (X5.next (below_regrown W4 d os))))
        clear x0 x1 x2 x3
        go_wp2_with fail
        refine wp_region_quiet_below (by kernel_rfl) (by kernel_rfl) ?_
        repeat ((with_reducible refine wpQuiet_step (fun K hK => ?_)); go_simp; first | ((with_reducible refine hK _ ?_); clear hK K) | (rw [if_neg (by intro h; exact nomatch h)]; (with_reducible refine hK _ ?_); clear hK K) | (apply Exists.intro; (with_reducible refine ⟨fun _ => ?_, hK _ ?_⟩); (first | with_reducible exact C1.out _ _ | with_reducible exact C2.out _ _ | with_reducible exact C3.out _ _); clear hK K))
        with_reducible refine wpQuiet_nil ?_
        intro _ hw'
        obtain ⟨⟨dq2, osq2⟩, hw''⟩ := hw'
        subst hw''
        have g5 := grow_next g4 (below_regrown W4 dq2 osq2)
        generalize grow (redrawn W4 dq2) osq2 = W5 at *
        go_wp2_with fail
        go_returns
        exact ⟨rfl, g5⟩
    · have hd : decide (j < 0) = false := decide_eq_false (fun h => hend (.inl h))
      have hm0 : ((m : Int) == 0) = false := by
        have : m ≠ 0 := fun h => hend (.inr h)
        simpa using this
      have hok : okSms l = true := by
        have h := HJ.out
        unfold jitR at h
        cases ho : okSms l with
        | true => rfl
        | false =>
          rw [ho] at h
          simp at h
          omega
      have hmp : 0 < m := by
        have : m ≠ 0 := fun h => hend (.inr h)
        omega
      have HOK := Lib.hid hok
      clear hend hok
      refine wp_region_quiet_below (by kernel_rfl) (by kernel_rfl) ?_
      repeat ((with_reducible refine wpQuiet_step (fun K hK => ?_)); go_simp; first | ((with_reducible refine hK _ ?_); clear hK K) | (rw [if_neg (by intro h; exact nomatch h)]; (with_reducible refine hK _ ?_); clear hK K) | (apply Exists.intro; (with_reducible refine ⟨fun _ => ?_, hK _ ?_⟩); (first | with_reducible exact C1.out _ _ | with_reducible exact C2.out _ _ | with_reducible exact C3.out _ _); clear hK K))
      with_reducible refine wpQuiet_nil ?_
      intro _ hw'
      obtain ⟨⟨dq, osq⟩, hw''⟩ := hw'
      subst hw''
      have g4 := grow_next b3 (below_regrown W3 dq osq)
      have S4 := S3.next (below_regrown W3 dq osq)
      clear k0 k1 k2 k3 C1 C2 C3 Q3 S3 X4
      generalize grow (redrawn W3 dq) osq = W4 at *
      obtain ⟨i0, hi, hz0, hz1, hz2⟩ := info_partsT infoSm'
      have HI0 := Lib.hid hi
      have HZ0 := Lib.hid hz0
      have HZ1 := Lib.hid hz1
      have HZ2 := Lib.hid hz2
      have R7 := World.ownsRow_made (base := W4.heap.size) (e := 26) (size := 4) W4 #[] 0 (Nat.le_refl _) (by simp [maxLen]) rfl
      have R8 := World.ownsRow_made (base := W4.heap.size) (e := 26) (size := 4) (W4.alloc (.cells #[] 26)) #[] 0 (by simp) (by simp [maxLen]) rfl
      rw [World.size_alloc] at R8
      have R7' := R7.alloc (.cells #[] 26)
      have B4 : Below W4.heap.size W4 ((W4.alloc (.cells #[] 26)).alloc (.cells #[] 26)) := by go_grown
      clear hi hz0 hz1 hz2 R7
      go_wp2_with fail
      go_loopw [7, 8, 9] (fun o7 o8 i wr => ∃ k : Nat, k ≤ m ∧ i = .int .i64 k ∧ wr.ownsRow W4.heap.size 26 4 o7 k (flatSm ((l.take k).map movedS)) ∧ wr.ownsRow W4.heap.size 26 4 o8 k (flatSm ((l.take k).map stillS)) ∧ Hid (∀ g, o7.ownBlock = some g → o8.ownBlock ≠ some g) ∧ Below W4.heap.size W4 wr) (fun _ _ i _ => m - (intOf i).toNat)
      case atStart => exact ⟨0, Nat.zero_le _, rfl, R7', R8, Lib.hid (fun g h1 h2 => by simp only [Value.ownBlock, Option.some.injEq] at h1 h2; omega), B4⟩
      case round =>
        obtain ⟨k, hk, rfl, r7, r8, HD, hb⟩ := hrel
        by_cases hlt : k < m
        · obtain ⟨v, hv⟩ := getS (l := l) (k := k) (by rw [← HM.out]; exact hlt)
          obtain ⟨c0, c1, c2, c3⟩ := sms_cellJ (S4.next hb) hv
          have hvo := off_in ((okSms_all HOK.out).1 v (List.mem_of_getElem? hv))
          obtain ⟨t, ht⟩ : ∃ t, Int.tdiv v.off 2 = t := ⟨_, rfl⟩
          have ht1 : -1000000000000 ≤ t ∧ t ≤ 1000000000000 := by
            rw [← ht, tdiv_two]
            split <;> omega
          have hq1 : IntKind.i64.wrap t = t := IntWalk.i64_in _ (by omega)
          have hq2 : IntKind.i64.wrap (t + 5) = t + 5 := IntWalk.i64_in _ (by omega)
          have hq3 : IntKind.i64.wrap (v.off + 77) = v.off + 77 := IntWalk.i64_in _ (by omega)
          have HF7 := Lib.hid (flat_one_more movedS hv)
          have HF8 := Lib.hid (flat_one_more stillS hv)
          have hsw := hb.size
          have HV := Lib.hid hv
          have H7 := Lib.hid r7
          have O8 := Lib.hid ((r8.alloc (.cells #[.int .i64 (t + 5), .int .i64 v.delay, .int .i64 v.disp, .int .i64 v.at_] 26)).alloc (.cells #[.int .i64 ((stillS v)).off, .int .i64 ((stillS v)).delay, .int .i64 ((stillS v)).disp, .int .i64 ((stillS v)).at_] 26))
          have BY : Below W4.heap.size W4 ((wr.alloc (.cells #[.int .i64 (t + 5), .int .i64 v.delay, .int .i64 v.disp, .int .i64 v.at_] 26)).alloc (.cells #[.int .i64 ((stillS v)).off, .int .i64 ((stillS v)).delay, .int .i64 ((stillS v)).disp, .int .i64 ((stillS v)).at_] 26)) := (hb.alloc hsw _).alloc (hb.alloc hsw _).size _
          have N8 := Lib.hid (show ∀ j z, (stillS v).cells[j]? = some z → ((wr.alloc (.cells #[.int .i64 (t + 5), .int .i64 v.delay, .int .i64 v.disp, .int .i64 v.at_] 26)).alloc (.cells #[.int .i64 ((stillS v)).off, .int .i64 ((stillS v)).delay, .int .i64 ((stillS v)).disp, .int .i64 ((stillS v)).at_] 26)).cell? ((⟨wr.heap.size + 1, 0, none⟩ : Addr).add j) = some z by
            have := cell_four_new (wr.alloc (.cells #[.int .i64 (t + 5), .int .i64 v.delay, .int .i64 v.disp, .int .i64 v.at_] 26)) (stillS v) 26
            rw [World.size_alloc] at this
            exact this)
          clear hv hvo ht1 r7 r8
          go_upto_region 16 with (at_builtin; go_loud (refine wpList_append_own_at _ rfl _ _ 24 rfl W4.heap.size 26 i0 (.agg #[.int .i64 0, .int .i64 0, .int .i64 0, .int .i64 0]) 4 32 Tryd.underlying24 HI0.out HZ0.out HZ1.out HZ2.out rfl (by decide) _ _ _ rfl O8.out ⟨wr.heap.size + 1, 0, none⟩ 1 1 (stillS v).cells rfl rfl N8.out (by simp [Sm.cells, Value.oneCell', Sm.row]) (by unfold maxLen; omega) (by omega) (by simp; omega) ?_); intro v8 w8 hown8 hgrow8 _ hloc8)
          have b8 : Below W4.heap.size W4 w8 := BY.grown hgrow8 BY.size (fun g hg => (O8.out.lt g hg).1)
          obtain ⟨c0, c1, c2, c3⟩ := sms_cellJ (S4.next b8) HV.out
          have ho7 : u7.ownBlock = none ∨ u7.ownBlock ≠ u8.ownBlock := by
            cases h : u7.ownBlock with
            | none => exact .inl rfl
            | some g => exact .inr (fun e => HD.out g h e.symm)
          have r7 := ((H7.out.alloc (.cells #[.int .i64 (t + 5), .int .i64 v.delay, .int .i64 v.disp, .int .i64 v.at_] 26)).alloc (.cells #[.int .i64 ((stillS v)).off, .int .i64 ((stillS v)).delay, .int .i64 ((stillS v)).disp, .int .i64 ((stillS v)).at_] 26)).kept hgrow8 ho7
          have hs8 := hgrow8.size
          have HD8 : Hid (∀ g, u7.ownBlock = some g → v8.ownBlock ≠ some g ∧ g < w8.heap.size) := Lib.hid (fun g h => by
            refine ⟨fun e => ?_, (r7.lt g h).2⟩
            rcases hloc8 with h8 | h8
            · rw [h8] at e; exact HD.out g h e
            · rw [h8] at e
              have := (H7.out.lt g h).2
              simp only [Option.some.injEq, World.size_alloc] at e
              omega)
          have hsw8 := b8.size
          have O7 := Lib.hid ((r7.alloc (.cells #[.int .i64 (v.off + 77), .int .i64 v.delay, .int .i64 v.disp, .int .i64 v.at_] 26)).alloc (.cells #[.int .i64 (v.off + 77), .int .i64 v.delay, .int .i64 v.disp, .int .i64 v.at_] 26))
          have H8 := Lib.hid hown8
          have BZ : Below W4.heap.size W4 ((w8.alloc (.cells #[.int .i64 (v.off + 77), .int .i64 v.delay, .int .i64 v.disp, .int .i64 v.at_] 26)).alloc (.cells #[.int .i64 (v.off + 77), .int .i64 v.delay, .int .i64 v.disp, .int .i64 v.at_] 26)) := (b8.alloc hsw8 _).alloc (b8.alloc hsw8 _).size _
          have N7 := Lib.hid (show ∀ j z, (movedS v).cells[j]? = some z → ((w8.alloc (.cells #[.int .i64 (v.off + 77), .int .i64 v.delay, .int .i64 v.disp, .int .i64 v.at_] 26)).alloc (.cells #[.int .i64 (v.off + 77), .int .i64 v.delay, .int .i64 v.disp, .int .i64 v.at_] 26)).cell? ((⟨w8.heap.size + 1, 0, none⟩ : Addr).add j) = some z by
            have := cell_four_new (w8.alloc (.cells #[.int .i64 (v.off + 77), .int .i64 v.delay, .int .i64 v.disp, .int .i64 v.at_] 26)) (movedS v) 26
            rw [World.size_alloc] at this
            exact this)
          clear hloc8 hgrow8 hown8 r7 ho7 hs8 N8 O8 HD
          go_wp2_with (at_builtin; go_loud (refine wpList_append_own_at _ rfl _ _ 24 rfl W4.heap.size 26 i0 (.agg #[.int .i64 0, .int .i64 0, .int .i64 0, .int .i64 0]) 4 32 Tryd.underlying24 HI0.out HZ0.out HZ1.out HZ2.out rfl (by decide) _ _ _ rfl O7.out ⟨w8.heap.size + 1, 0, none⟩ 1 1 (movedS v).cells rfl rfl N7.out (by simp [Sm.cells, Value.oneCell', Sm.row]) (by unfold maxLen; omega) (by omega) (by simp; omega) ?_); intro v7 w9 hown7 hgrow7 _ hloc7)
          have b9 : Below W4.heap.size W4 w9 := BZ.grown hgrow7 BZ.size (fun g hg => (O7.out.lt g hg).1)
          have hne8 : v8.ownBlock = none ∨ v8.ownBlock ≠ u7.ownBlock := by
            cases h : v8.ownBlock with
            | none => exact .inl rfl
            | some g => exact .inr (fun e => (HD8.out g e.symm).1 h)
          have hown8' := ((H8.out.alloc (.cells #[.int .i64 (v.off + 77), .int .i64 v.delay, .int .i64 v.disp, .int .i64 v.at_] 26)).alloc (.cells #[.int .i64 (v.off + 77), .int .i64 v.delay, .int .i64 v.disp, .int .i64 v.at_] 26)).kept hgrow7 hne8
          have HD9 : Hid (∀ g, v7.ownBlock = some g → v8.ownBlock ≠ some g) := Lib.hid (fun g h e => by
            rcases hloc7 with h7 | h7
            · rw [h7] at h; exact (HD8.out g h).1 e
            · rw [h7] at h
              have := (H8.out.lt g e).2
              simp only [Option.some.injEq, World.size_alloc] at h
              omega)
          clear hne8 hloc7 hgrow7 HD8
          go_roundw
          case rel => exact ⟨k + 1, by omega, by go_num, by rw [HF7.out]; exact hown7, by rw [HF8.out]; exact hown8', HD9, b9⟩
          case measure => simp [intOf]; omega
        · have e : l.take k = l := by rw [show k = m by omega, HM.out, List.take_length]
          rw [e] at r7 r8
          have hkm : k = m := by omega
          have HML : Hid (k = (l.map movedS).length) := Lib.hid (by rw [List.length_map, hkm]; exact HM.out)
          have HSL : Hid (k = (l.map stillS).length) := Lib.hid (by rw [List.length_map, hkm]; exact HM.out)
          obtain ⟨y7, cp7, rfl, P7⟩ := smRow_form r7 HML.out
          obtain ⟨y8, cp8, rfl, P8⟩ := smRow_form r8 HSL.out
          have S5 := S4.next hb
          have T7 := P7.sms
          have T8 := P8.sms
          have g5 := g4.trans (hb.mono g4.size)
          have hbo : bstOk l = true := by unfold bstOk; rw [HOK.out, decide_eq_true (by rw [← HM.out]; exact hmp)]; rfl
          have hbv : bstV l = bestV l := by unfold bstV; rw [hbo]; rfl
          obtain ⟨q, hq⟩ : ∃ q, bestV l = q := ⟨_, rfl⟩
          obtain ⟨jm, hjm⟩ : ∃ j, jitR (l.map movedS) = j := ⟨_, rfl⟩
          have HB := Lib.hid (fun (W : World) h {ao an au} L => (show Calls Tryd.prog 16 #[.slice (some ⟨g, off, none⟩) m c] W fun e w' => e = .returned (.tuple #[.agg #[.int .i64 q.off, .int .i64 q.delay, .int .i64 q.disp, .int .i64 q.at_], .bool true]) ∧ Below W.heap.size W w' from hbo ▸ hq ▸ hbv ▸ @bestOf_impl l m HM hmm (some ⟨g, off, none⟩) c W h ao an au L))
          have HJM := Lib.hid (fun (W : World) h {ao an au} L => (show Calls Tryd.prog 19 #[.slice y7 k cp7] W fun e w' => e = .returned (.int .i64 jm) ∧ Below W.heap.size W w' from hjm ▸ @jitterOf_impl (l.map movedS) k HML (by unfold maxLen; omega) y7 cp7 W h ao an au L))
          have HJS := Lib.hid (fun (W : World) h {ao an au} L => (show Calls Tryd.prog 19 #[.slice y8 k cp8] W fun e w' => e = .returned (.int .i64 0) ∧ Below W.heap.size W w' from jitR_still HOK.out ▸ @jitterOf_impl (l.map stillS) k HSL (by unfold maxLen; omega) y8 cp8 W h ao an au L))
          have hpb := pop_best (l := l)
          rw [hq] at hpb
          have HPB := Lib.hid (fun (W : World) h {ao an au} L => (show Calls Tryd.prog 22 #[.slice (some ⟨g, off, none⟩) m c, .agg #[.int .i64 q.off, .int .i64 q.delay, .int .i64 q.disp, .int .i64 q.at_]] W fun e w' => e = .returned (.bool false) ∧ Below W.heap.size W w' from hpb ▸ @popcorn_impl l q m HM hmm (some ⟨g, off, none⟩) c W h ao an au L))
          have hor : (jm == j) = true ∨ ((jm == j) = false ∧ decide (jm < 0) = true) := by
            have h := jitR_moved HOK.out
            rw [hjm, HJ.out] at h
            rcases h with h | h
            · exact .inl (by simp [h])
            · by_cases hx : jm = j
              · exact .inl (by simp [hx])
              · exact .inr ⟨by simp [hx], decide_eq_true h⟩
          clear e hkm r7 r8 P7 P8 HD hbo hbv hq hjm hpb
          go_wp2_with fail
          refine (HB.out _ S5 (L.next g5)).mono ?_
          rintro e w6 ⟨rfl, hb6⟩
          have B6 : Below w6.heap.size w6 (w6.alloc (.cells #[.int .i64 q.off, .int .i64 q.delay, .int .i64 q.disp, .int .i64 q.at_] 26)) := below_new _ _
          have B6' := grow_next hb6 B6
          have g6 := grow_next g5 B6'
          have S6 := S5.next B6'
          have U7 := T7.next B6'
          have U8 := T8.next B6'
          have Q6 := blk_new w6 (.cells #[.int .i64 q.off, .int .i64 q.delay, .int .i64 q.disp, .int .i64 q.at_] 26)
          generalize hW6 : w6.alloc (.cells #[.int .i64 q.off, .int .i64 q.delay, .int .i64 q.disp, .int .i64 q.at_] 26) = W6 at *
          clear S5 T7 T8 B6 B6' HB
          go_wp2_with fail
          refine (HJM.out _ U7 (L.next g6)).mono ?_
          rintro e w7 ⟨rfl, hb7⟩
          have g7 := grow_next g6 hb7
          have S7 := S6.next hb7
          have V8 := U8.next hb7
          have Q7 := blk_next hb7 Q6
          clear S6 U7 U8 Q6 hW6 HJM
          rcases hor with h1 | ⟨h1, h2⟩
          all_goals
            go_wp2_with fail
            refine (HJS.out _ V8 (L.next g7)).mono ?_
            rintro e w8 ⟨rfl, hb8⟩
            have g8 := grow_next g7 hb8
            have S8 := S7.next hb8
            obtain ⟨x0, x1, x2, x3⟩ := sample_cells (blk_next hb8 Q7)
            go_wp2_with fail
            refine (HPB.out _ S8 (L.next g8)).mono ?_
            rintro e w9 ⟨rfl, hb9⟩
            go_wp2_with fail
            go_returns
            exact ⟨rfl, grow_next g8 hb9⟩
  · go_enter Tryd.func5, Tryd.ntmps5
    go_wp2_with (go_at_call 7; go_in)
    go_returns
    exact ⟨rfl, Below.refl _ _⟩
theorem fj_met (os : Os) (args : Array Value) : laidMetH Tryd.prog Rows.fnJitterRow.laid ((World.doorLaid Tryd.prog 400 os).forCall (fun _ _ => 0) ⟨#[], args, []⟩).memory :=
  laidMetH_of_parts3 (fuel := 8) (laidMet_of_run' 8 (by kernel_rfl) (by kernel_rfl)) (by kernel_rfl) (by kernel_rfl)
set_option maxRecDepth 100000 in
theorem fj_lifted (os : Os) (started : os.Started) (H : Type) (enc : TypeId × Value → H) :
    ReturnsInHanded {} Tryd.checked os 5 .any (fun w args => (Rows.fnJitterSpec.pre enc Tryd.prog Tryd.f5 [] false w args ∧ laidMetH Tryd.prog Rows.fnJitterRow.laid w) ∧ sizedMet enc Tryd.prog Tryd.f5 (OpenSpec.ofChange Rows.fnJitterSpec) false w args) (Rows.fnJitterSpec.post enc Tryd.prog Tryd.f5 false true false false) := by
  refine lifted_of_walk_laid (C := Tryd.checked) own started (by as_aux_lemma => kernel_rfl) Tryd.func5
    (ChangeSpec.witness_shaped (enc := enc) (C := Tryd.checked) (os := os) (X := fun w _ => laidMetH Tryd.prog Rows.fnJitterRow.laid w) false (World.doorLaid Tryd.prog 400 os) #[.slice none 0 0] 8 rfl (World.shaped_of_RefB (by kernel_rfl) (by kernel_rfl)) (by kernel_rfl) (by kernel_rfl) (by kernel_rfl) (fj_met os _))
    laidOut (by as_aux_lemma => kernel_rfl) (by as_aux_lemma => kernel_rfl) rfl boolType
    (fun ds gs h hg => by
      match ds, gs, h, hg with
      | [_], [_, _, _], _, _ => rfl)
    ?_
  intro W base args ds q hval hA hL
  have laidRow : Rows.fnJitterRow.laid = Rows.fnJitterRow.laid := rfl
  obtain ⟨ao, an, au, L⟩ := ld_of hL (by simp [Rows.fnJitterRow, handleD, sentD, Rows.laid_errors_errorType, Rows.laid_loop_example_g00656_impl_errNoTime, Rows.laid_loop_example_g00656_impl_errOutside, Rows.laid_loop_example_g00656_impl_errUnsure]) (by simp [Rows.fnJitterRow, handleD, sentD, Rows.laid_errors_errorType, Rows.laid_loop_example_g00656_impl_errNoTime, Rows.laid_loop_example_g00656_impl_errOutside, Rows.laid_loop_example_g00656_impl_errUnsure]) (by simp [Rows.fnJitterRow, handleD, sentD, Rows.laid_errors_errorType, Rows.laid_loop_example_g00656_impl_errNoTime, Rows.laid_loop_example_g00656_impl_errOutside, Rows.laid_loop_example_g00656_impl_errUnsure]) (by simp [Rows.fnJitterRow, handleD, sentD, Rows.laid_errors_errorType, Rows.laid_loop_example_g00656_impl_errNoTime, Rows.laid_loop_example_g00656_impl_errOutside, Rows.laid_loop_example_g00656_impl_errUnsure])
  clear hL
  rw [Tryd.params5] at hA hval
  obtain ⟨v0, vs0, d0, ds0, p0, q0, hargs, rfl, rfl, h0, r0⟩ := trodAll_cons hA
  obtain ⟨rfl, rfl, rfl⟩ := trodAll_nil r0
  obtain rfl : args = #[v0] := by cases args; simp_all
  obtain ⟨a0, len0, cap0, z0, rfl, w0⟩ := open_bytes Tryd.underlying22 Tryd.underlying5 (by as_aux_lemma => kernel_rfl) (hval 0 22 v0 rfl rfl) h0
  exact fj_walk W L a0 len0 cap0 z0 w0

theorem fj_facts : joinedFacts Tryd.pinned.checked.prog 5 Tryd.f5 Rows.fnJitterSpec Rows.fnJitterRow = true :=
  facts_of (P := Tryd.prog) (by as_aux_lemma => kernel_rfl) laidOut mapsRow (by as_aux_lemma => kernel_rfl) (by as_aux_lemma => kernel_rfl) rfl noStops rfl noKnobs (by as_aux_lemma => kernel_rfl) (by as_aux_lemma => kernel_rfl) (by as_aux_lemma => kernel_rfl) (by as_aux_lemma => kernel_rfl) (by as_aux_lemma => kernel_rfl) (by as_aux_lemma => kernel_rfl) (by as_aux_lemma => kernel_rfl) (by as_aux_lemma => kernel_rfl) (by as_aux_lemma => kernel_rfl) (by as_aux_lemma => kernel_rfl) (by as_aux_lemma => kernel_rfl) (by as_aux_lemma => kernel_rfl) (by as_aux_lemma => kernel_rfl) keysPlain rfl heard enters finals isMake rfl rfl rfl (by as_aux_lemma => kernel_rfl) (by as_aux_lemma => kernel_rfl)

theorem fj_row : Rows.FnJitterSaid :=
  OpenClaim.holds_of_wide 5 Tryd.f5 rfl rfl rfl rfl rfl rfl rfl ⟨rfl, rfl, rfl, rfl, rfl⟩ rfl rfl rfl rfl rfl (by as_aux_lemma => kernel_rfl) Tryd.func5 fj_facts
    (of_decide_eq_true (by as_aux_lemma => kernel_rfl)) (by unfold Func.isWrapper; first | (rw [if_pos (by decide +kernel)]; kernel_rfl) | (rw [if_neg (by decide +kernel)]; exact ⟨rfl, rfl⟩))
    (fun os started H enc _ => fj_lifted os started H enc)

/-- The given statement. -/
theorem fj_holds : Rows.FnJitterCardSaid :=
  Claim7.holds_tied_plain_at .later [] Rows.fnJitterCard.laidKinds true Rows.fnJitterCard.stood.harness true
    fj_row (fun _ h => by cases h) (by kernel_rfl) (fun _ h => by cases h) fnJitter_row_tie rfl ⟨rfl, rfl⟩ (by kernel_rfl) rfl
    (fun f fn hf hfn => by
      obtain rfl : f = 5 := Option.some.inj ((show Tryd.prog.funcNamed "loop.example/g00656/laws.FnJitter" = some 5 by kernel_rfl).symm.trans hf) |>.symm
      obtain rfl : fn = Tryd.f5 := (Option.some.inj (Tryd.func5.symm.trans hfn)).symm
      exact ⟨by kernel_rfl, fun j t ht => noStandIn (by rw [Tryd.params5]; kernel_rfl) j t ht⟩)
    (by kernel_rfl)
#print axioms fj_holds
end Go.Proofs.YthgamidodkkpbaaDoor
