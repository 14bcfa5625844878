/- Who comes each fourth second is always told nought; who comes at once, five times and once more, is not: at every drawn limiter, with a new client. -/
import Derived.Test.YtckonbbdeohccaaCameUp
import Derived.Test.YtckonbbdeohccaaDrawCame
import Derived.Lib.QuietBelow
namespace Go.Proofs.Ytckonbbdeohccaa
open Go.ChangeShapes Go.WideShapes Go.ChangeAt Go.RowKit Go.Sort
set_option linter.unusedVariables false
set_option linter.unusedSimpArgs false
set_option maxRecDepth 100000

def SlowAt (now : Int) (k : Nat) (A : List Cl) : Prop := limOk A = true ∧ if k = 0 then clAt A 900 = none ∧ A.length ≠ 50 else HasC A 900 (now + 4 * ((k : Int) - 1)) 4
def FastAt (now : Int) (k : Nat) (A : List Cl) : Prop := limOk A = true ∧ if k = 0 then clAt A 900 = none ∧ A.length ≠ 50 else HasC A 900 now (min (4 * (k : Int)) 20)
theorem slow_step {now : Int} {k : Nat} {A : List Cl} (h : SlowAt now k A) (n0 : 0 ≤ now) (n1 : now ≤ 1000000) (hk : k < 12) : ∃ L, camV A 900 (now + 4 * (k : Int)) = some (L, 0) ∧ SlowAt now (k + 1) L := by
  obtain ⟨ho, h⟩ := h
  by_cases h0 : k = 0
  · rw [if_pos h0] at h
    obtain ⟨L, e, hL, hok, _⟩ := came_first ho h.1 (i := 900) (now := now + 4 * (k : Int)) (by omega) (by omega) (by omega) (by omega) h.2
    refine ⟨L, e, hok, ?_⟩
    rw [if_neg (by omega)]
    have e2 : now + 4 * (((k + 1 : Nat) : Int) - 1) = now + 4 * (k : Int) := by omega
    rw [e2]
    exact hL
  · rw [if_neg h0] at h
    obtain ⟨L, e, hL, hok, _⟩ := came_again ho h (now := now + 4 * (k : Int)) (by omega) (by omega) (by omega) (by omega) (by omega)
    have e1 : max ((4 : Int) - (now + 4 * (k : Int) - (now + 4 * ((k : Int) - 1)))) 0 + 4 = 4 := by omega
    rw [e1] at e hL
    refine ⟨L, by rw [e]; rfl, hok, ?_⟩
    rw [if_neg (by omega)]
    have e2 : now + 4 * (((k + 1 : Nat) : Int) - 1) = now + 4 * (k : Int) := by omega
    rw [e2]
    exact hL
theorem fast_step {now : Int} {k : Nat} {A : List Cl} (h : FastAt now k A) (n0 : 0 ≤ now) (n1 : now ≤ 1000000) (hk : k < 12) : ∃ L, camV A 900 now = some (L, if k < 5 then 0 else 1) ∧ FastAt now (k + 1) L := by
  obtain ⟨ho, h⟩ := h
  by_cases h0 : k = 0
  · rw [if_pos h0] at h
    obtain ⟨L, e, hL, hok, _⟩ := came_first ho h.1 (i := 900) (now := now) (by omega) (by omega) (by omega) (by omega) h.2
    refine ⟨L, by rw [e, if_pos (by omega)], hok, ?_⟩
    rw [if_neg (by omega)]
    have e2 : min (4 * ((k + 1 : Nat) : Int)) 20 = 4 := by omega
    rw [e2]
    exact hL
  · rw [if_neg h0] at h
    obtain ⟨L, e, hL, hok, _⟩ := came_again ho h (now := now) (by omega) (by omega) (by omega) (by omega) (by omega)
    have e1 : max (min (4 * (k : Int)) 20 - (now - now)) 0 + 4 = min (4 * (k : Int)) 20 + 4 := by omega
    rw [e1] at e hL
    refine ⟨L, ?_, hok, ?_⟩
    · rw [e]
      by_cases h5 : k < 5
      · rw [if_pos h5, if_neg (by omega)]
      · rw [if_neg h5, if_pos (by omega)]
    · rw [if_neg (by omega)]
      have e2 : min (4 * ((k + 1 : Nat) : Int)) 20 = min (min (4 * (k : Int)) 20 + 4) 20 := by omega
      rw [e2]
      exact hL
theorem slow_len {now : Int} {k : Nat} {A : List Cl} (h : SlowAt now k A) : A.length ≤ maxLen := by
  have := (limOk_iff.1 h.1).2.2
  unfold maxLen
  omega
theorem fast_len {now : Int} {k : Nat} {A : List Cl} (h : FastAt now k A) : A.length ≤ maxLen := by
  have := (limOk_iff.1 h.1).2.2
  unfold maxLen
  omega
/-- Two boxes with limiters of the law's own. -/
structure SB (w wr : World) (p q : Nat) (x : Option Addr) (cx : Nat) (A : List Cl) (y : Option Addr) (cy : Nat) (B : List Cl) : Prop where
  low : Below w.heap.size w wr
  bp : wr.heap[p]? = some (.cells #[.slice x A.length cx] 28)
  bq : wr.heap[q]? = some (.cells #[.slice y B.length cy] 28)
  pw : w.heap.size ≤ p
  qw : w.heap.size ≤ q
  ne : p ≠ q
  rA : ClRow w.heap.size wr x cx A
  rB : ClRow w.heap.size wr y cy B
section
variable {w wr w' : World} {p q : Nat} {x y : Option Addr} {cx cy : Nat} {A B : List Cl}
theorem SB.next (h : SB w wr p q x cx A y cy B) (hb : Below wr.heap.size wr w') : SB w w' p q x cx A y cy B :=
  ⟨grow_next h.low hb, blk_next hb h.bp, blk_next hb h.bq, h.pw, h.qw, h.ne, h.rA.next hb, h.rB.next hb⟩
theorem SB.putP (h : SB w wr p q x cx A y cy B) {z : Option Addr} {cz : Nat} {D : List Cl} (r : ClRow w.heap.size wr z cz D) : SB w (wr.setCell ⟨p, 0, none⟩ (.slice z D.length cz)) p q z cz D y cy B := by
  have g : wr.grownBy (wr.setCell ⟨p, 0, none⟩ (.slice z D.length cz)) (some p) := grown_setC (World.grownBy.refl _ _) 0 _
  exact ⟨below_setCell h.low h.pw 0 _, heap_set h.bp 0 _, blk_other h.bq h.ne 0 _, h.pw, h.qw, h.ne,
    r.keep g (fun g e e2 => (e ▸ r).ne_box h.bp (by simpa using e2.symm)), h.rB.keep g (fun g e e2 => (e ▸ h.rB).ne_box h.bp (by simpa using e2.symm))⟩
theorem SB.putQ (h : SB w wr p q x cx A y cy B) {z : Option Addr} {cz : Nat} {D : List Cl} (r : ClRow w.heap.size wr z cz D) : SB w (wr.setCell ⟨q, 0, none⟩ (.slice z D.length cz)) p q x cx A z cz D := by
  have g : wr.grownBy (wr.setCell ⟨q, 0, none⟩ (.slice z D.length cz)) (some q) := grown_setC (World.grownBy.refl _ _) 0 _
  exact ⟨below_setCell h.low h.qw 0 _, blk_other h.bp (Ne.symm h.ne) 0 _, heap_set h.bq 0 _, h.pw, h.qw, h.ne,
    h.rA.keep g (fun g e e2 => (e ▸ h.rA).ne_box h.bq (by simpa using e2.symm)), r.keep g (fun g e e2 => (e ▸ r).ne_box h.bq (by simpa using e2.symm))⟩
end
set_option maxHeartbeats 4000000 in
theorem slow_walk (w : World) (x : Option Addr) (n cap z : Nat) (hz : z = n ∧ Code w.heap.size w (.slice x n cap) n) :
    Calls Try.prog 7 #[.slice x n cap] w fun e w' => e = .returned (.bool true) ∧ Below w.heap.size w w' := by
  obtain ⟨_, hc⟩ := hz
  by_cases hbig : n ≤ 1048576
  · have hbi : decide ((1048576 : Int) < (n : Int)) = false := decide_eq_false (by omega)
    go_enter Try.func7, Try.ntmps7
    go_wp2_with (go_at_call 26; go_in)
    refine (drawCame_c x n cap _ hc hbig).mono ?_
    rintro e w1 ⟨y, cy, l, id, t, rfl, hl50, hids, t0, t1, hrow, hb1⟩
    have hl50 := Lib.hid hl50
    have HIDS := Lib.hid hids
    have Z2 := blk_new w1 (.cells #[.slice y l.length cy] 28)
    have G2 := hb1.alloc hb1.size (.cells #[.slice y l.length cy] 28)
    have R2 := hrow.next (below_new w1 (.cells #[.slice y l.length cy] 28))
    have hp1 := hb1.size
    clear hc hids hrow hb1
    go_upto_region 4 with (fail)
    obtain ⟨W2, hW2⟩ : ∃ W, W = w1.alloc (.cells #[.slice y l.length cy] 28) := ⟨_, rfl⟩
    obtain ⟨p, hp⟩ : ∃ p, w1.heap.size = p := ⟨_, rfl⟩
    rw [hp] at Z2 hp1
    rw [← hW2] at Z2 G2 R2
    rw [← hW2]
    try rw [hp]
    clear hW2 hp
    have hmm : l.length ≤ maxLen := by have := hl50.out; unfold maxLen; omega
    have HL := Lib.hid (fun W h => limOk_impl l l.length (Lib.hid rfl) hmm y cy W h)
    have HS := Lib.hid (fun W h => limOk_spec l l.length (Lib.hid rfl) hmm y cy W h)
    obtain ⟨o, ho⟩ : ∃ o, limOk l = o := ⟨_, rfl⟩
    have HO := Lib.hid ho
    rw [ho] at HL HS
    clear ho hmm
    have hoo : (o == o) = true := by cases o <;> rfl
    have KI := Lib.hid (fun d os => Calls.regrown_of (HL.out (grow (redrawn W2 d) os) (R2.next (below_regrown W2 d os)).cls))
    have KS := Lib.hid (fun d os => Calls.regrown_of (HS.out (grow (redrawn W2 d) os) (R2.next (below_regrown W2 d os)).cls))
    have kz := cell_regrown (one_cell Z2).1
    cases o with
    | false =>
      go_wp2_with fail
      refine wp_region_quiet_below (by kernel_rfl) (by kernel_rfl) ?_
      repeat ((with_reducible refine wpQuiet_step (fun K hK => ?_)); go_simp; first | ((with_reducible refine hK _ ?_); clear hK K) | (rw [if_neg (by intro h; exact nomatch h)]; (with_reducible refine hK _ ?_); clear hK K) | (apply Exists.intro; (with_reducible refine ⟨fun _ => ?_, hK _ ?_⟩); (first | with_reducible exact KI.out _ _ | with_reducible exact KS.out _ _); clear hK K))
      with_reducible refine wpQuiet_nil ?_
      intro _ hw'
      obtain ⟨⟨dq, osq⟩, hw''⟩ := hw'
      subst hw''
      have g := below_regrown W2 dq osq
      have Z3 := blk_next g Z2
      have G3 := grow_next G2 g
      have R3 := R2.next g
      generalize grow (redrawn W2 dq) osq = W3 at *
      clear KI KS kz Z2 G2 R2 g
      have KI := Lib.hid (fun d os => Calls.regrown_of (HL.out (grow (redrawn W3 d) os) (R3.next (below_regrown W3 d os)).cls))
      have KS := Lib.hid (fun d os => Calls.regrown_of (HS.out (grow (redrawn W3 d) os) (R3.next (below_regrown W3 d os)).cls))
      have kz := cell_regrown (one_cell Z3).1
      go_wp2_with fail
      refine wp_region_quiet_below (by kernel_rfl) (by kernel_rfl) ?_
      repeat ((with_reducible refine wpQuiet_step (fun K hK => ?_)); go_simp; first | ((with_reducible refine hK _ ?_); clear hK K) | (rw [if_neg (by intro h; exact nomatch h)]; (with_reducible refine hK _ ?_); clear hK K) | (apply Exists.intro; (with_reducible refine ⟨fun _ => ?_, hK _ ?_⟩); (first | with_reducible exact KI.out _ _ | with_reducible exact KS.out _ _); clear hK K))
      with_reducible refine wpQuiet_nil ?_
      intro _ hw'
      obtain ⟨⟨dq, osq⟩, hw''⟩ := hw'
      subst hw''
      have g := below_regrown W3 dq osq
      have G4 := grow_next G3 g
      generalize grow (redrawn W3 dq) osq = W4 at *
      clear KI KS kz Z3 G3 R3 g
      go_wp2_with fail
      go_returns
      exact ⟨rfl, G4⟩
    | true =>
      by_cases hd0 : 0 ≤ t
      · have hq0 : decide (t < 0) = false := decide_eq_false (by omega)
        by_cases hd1 : t ≤ 1000000
        · have hq1 : decide ((1000000 : Int) < t) = false := decide_eq_false (by omega)
          by_cases hd2 : l.length = 50
          · have hq2 : (((l.length : Nat) : Int) == 50) = true := by rw [beq_iff_eq]; omega
            clear hd2
            go_wp2_with fail
            refine wp_region_quiet_below (by kernel_rfl) (by kernel_rfl) ?_
            repeat ((with_reducible refine wpQuiet_step (fun K hK => ?_)); go_simp; first | ((with_reducible refine hK _ ?_); clear hK K) | (rw [if_neg (by intro h; exact nomatch h)]; (with_reducible refine hK _ ?_); clear hK K) | (apply Exists.intro; (with_reducible refine ⟨fun _ => ?_, hK _ ?_⟩); (first | with_reducible exact KI.out _ _ | with_reducible exact KS.out _ _); clear hK K))
            with_reducible refine wpQuiet_nil ?_
            intro _ hw'
            obtain ⟨⟨dq, osq⟩, hw''⟩ := hw'
            subst hw''
            have g := below_regrown W2 dq osq
            have Z3 := blk_next g Z2
            have G3 := grow_next G2 g
            have R3 := R2.next g
            generalize grow (redrawn W2 dq) osq = W3 at *
            clear KI KS kz Z2 G2 R2 g
            have KI := Lib.hid (fun d os => Calls.regrown_of (HL.out (grow (redrawn W3 d) os) (R3.next (below_regrown W3 d os)).cls))
            have KS := Lib.hid (fun d os => Calls.regrown_of (HS.out (grow (redrawn W3 d) os) (R3.next (below_regrown W3 d os)).cls))
            have kz := cell_regrown (one_cell Z3).1
            go_wp2_with fail
            refine wp_region_quiet_below (by kernel_rfl) (by kernel_rfl) ?_
            repeat ((with_reducible refine wpQuiet_step (fun K hK => ?_)); go_simp; first | ((with_reducible refine hK _ ?_); clear hK K) | (rw [if_neg (by intro h; exact nomatch h)]; (with_reducible refine hK _ ?_); clear hK K) | (apply Exists.intro; (with_reducible refine ⟨fun _ => ?_, hK _ ?_⟩); (first | with_reducible exact KI.out _ _ | with_reducible exact KS.out _ _); clear hK K))
            with_reducible refine wpQuiet_nil ?_
            intro _ hw'
            obtain ⟨⟨dq, osq⟩, hw''⟩ := hw'
            subst hw''
            have g := below_regrown W3 dq osq
            have G4 := grow_next G3 g
            generalize grow (redrawn W3 dq) osq = W4 at *
            clear KI KS kz Z3 G3 R3 g
            go_wp2_with fail
            go_returns
            exact ⟨rfl, G4⟩
          · have hq2 : (((l.length : Nat) : Int) == 50) = false := by rw [beq_eq_false_iff_ne]; omega
            go_wp2_with fail
            refine wp_region_quiet_below (by kernel_rfl) (by kernel_rfl) ?_
            repeat ((with_reducible refine wpQuiet_step (fun K hK => ?_)); go_simp; first | ((with_reducible refine hK _ ?_); clear hK K) | (rw [if_neg (by intro h; exact nomatch h)]; (with_reducible refine hK _ ?_); clear hK K) | (apply Exists.intro; (with_reducible refine ⟨fun _ => ?_, hK _ ?_⟩); (first | with_reducible exact KI.out _ _ | with_reducible exact KS.out _ _); clear hK K))
            with_reducible refine wpQuiet_nil ?_
            intro _ hw'
            obtain ⟨⟨dq, osq⟩, hw''⟩ := hw'
            subst hw''
            have g := below_regrown W2 dq osq
            have Z3 := blk_next g Z2
            have G3 := grow_next G2 g
            have R3 := R2.next g
            generalize grow (redrawn W2 dq) osq = W3 at *
            clear KI KS kz Z2 G2 R2 g
            clear HL HS
            have c3 := (one_cell Z3).1
            have hl50' := hl50.out
            have hne50 : l.length ≠ 50 := by omega
            have hnone : clAt l 900 = none := by
              unfold clAt
              exact List.find?_eq_none.2 (fun a ha => by have := HIDS.out a ha; simp; omega)
            have HS0 : Hid (SlowAt t 0 l) := Lib.hid ⟨HO.out, by rw [if_pos rfl]; exact ⟨hnone, hne50⟩⟩
            have HF0 : Hid (FastAt t 0 l) := Lib.hid ⟨HO.out, by rw [if_pos rfl]; exact ⟨hnone, hne50⟩⟩
            have Z4 := blk_alloc Z3 (.cells #[.slice y l.length cy] 28)
            have X4 := blk_new W3 (.cells #[.slice y l.length cy] 28)
            have G4 := G3.alloc G3.size (.cells #[.slice y l.length cy] 28)
            have R4 := R3.next (below_new W3 (.cells #[.slice y l.length cy] 28))
            have h3 := G3.size
            have h4 : W3.heap.size < (W3.alloc (.cells #[.slice y l.length cy] 28)).heap.size := by simp
            clear Z3 R3 G3 hnone hne50 hl50' HO HIDS hl50 hp1
            go_upto_region 7 with (fail)
            obtain ⟨W4, hW4⟩ : ∃ W, W = W3.alloc (.cells #[.slice y l.length cy] 28) := ⟨_, rfl⟩
            obtain ⟨p6, hp6⟩ : ∃ p, W3.heap.size = p := ⟨_, rfl⟩
            rw [hp6] at X4 h3 h4
            rw [← hW4] at Z4 X4 G4 R4 h4
            rw [← hW4]
            try rw [hp6]
            clear hW4 hp6 c3
            have c4 := (one_cell Z4).1
            have S0 : SB w (W4.alloc (.cells #[.slice y l.length cy] 28)) p6 W4.heap.size y cy l y cy l := ⟨G4.alloc G4.size _, blk_alloc X4 _, blk_new W4 _, h3, G4.size, by omega, R4.next (below_new W4 _), R4.next (below_new W4 _)⟩
            clear Z4 X4 G4 R4 h3 h4
            go_upto_region 8 with (fail)
            obtain ⟨W5, hW5⟩ : ∃ W, W = W4.alloc (.cells #[.slice y l.length cy] 28) := ⟨_, rfl⟩
            obtain ⟨p7, hp7⟩ : ∃ p, W4.heap.size = p := ⟨_, rfl⟩
            rw [hp7] at S0
            rw [← hW5] at S0
            rw [← hW5]
            try rw [hp7]
            clear hW5 hp7 c4
            go_wp2_with fail
            go_loopw [8] (fun i wr => ∃ (k : Nat) (xa : Option Addr) (ca : Nat) (A : List Cl) (xb : Option Addr) (cb : Nat) (B : List Cl), k ≤ 12 ∧ i = .int .i64 k ∧ Hid (SlowAt t k A) ∧ Hid (FastAt t k B) ∧ SB w wr p6 p7 xa ca A xb cb B) (fun i _ => 12 - (RowKit.intOf i).toNat)
            case atStart => exact ⟨0, y, cy, l, y, cy, l, Nat.zero_le _, rfl, HS0, HF0, S0⟩
            case round =>
              obtain ⟨k, xa, ca, A, xb, cb, B, hk, rfl, HA, HB, S⟩ := hrel
              clear S0 HS0 HF0
              obtain ⟨s6, _⟩ := one_cell S.bp
              obtain ⟨s7, _⟩ := one_cell S.bq
              by_cases hlt : k < 12
              · have hkn : (k : Int) < 12 := by omega
                have hw1 : IntKind.i64.wrap (4 * (k : Int)) = 4 * (k : Int) := IntWalk.i64_in _ (by omega)
                have hw2 : IntKind.i64.wrap (t + 4 * (k : Int)) = t + 4 * (k : Int) := IntWalk.i64_in _ (by omega)
                have hw3 : IntKind.i64.wrap ((k : Int) + 1) = (k : Int) + 1 := IntWalk.i64_in _ (by omega)
                obtain ⟨L, eL, sL⟩ := slow_step HA.out hd0 hd1 hlt
                obtain ⟨M, eM, sM⟩ := fast_step HB.out hd0 hd1 hlt
                have CA := came_impl A A.length (Lib.hid rfl) (slow_len HA.out) 900 (t + 4 * (k : Int)) xa ca wr S.rA.cls
                have CB := Lib.hid (fun W h => came_impl B B.length (Lib.hid rfl) (fast_len HB.out) 900 t xb cb W h)
                rw [eL] at CA
                rw [eM] at CB
                have hSL := Lib.hid sL
                have hSM := Lib.hid sM
                clear eL eM sL sM
                obtain ⟨tt, htt⟩ : ∃ tt : Int, (if k < 5 then (0 : Int) else 1) = tt := ⟨_, rfl⟩
                rw [htt] at CB
                have CA := Lib.hid CA
                have htq : (tt == 0) = decide ((k : Int) < 5) := by
                  rw [← htt]
                  by_cases h5 : k < 5
                  · rw [if_pos h5]; exact (decide_eq_true (by omega)).symm
                  · rw [if_neg h5]; exact (decide_eq_false (by omega)).symm
                clear htt
                go_wp2_with fail
                refine CA.out.mono ?_
                rintro e w6 ⟨y6, c6, rfl, hr6, hb6⟩
                simp only [resC, toldC, Option.isSome] at hr6
                simp only [resC, toldC, Option.isSome]
                have S6 := (S.next hb6).next (below_new w6 (.cells #[.slice y6 L.length c6] 28))
                have V6 := blk_new w6 (.cells #[.slice y6 L.length c6] 28)
                have R6 : ClRow w.heap.size (w6.alloc (.cells #[.slice y6 L.length c6] 28)) y6 c6 L := ownsRow_base_le (hr6.next (below_new w6 _)) S.low.size
                clear hr6 hb6 S s6 s7 CA
                go_upto_region 12 with (fail)
                obtain ⟨w7, hw7⟩ : ∃ W, W = w6.alloc (.cells #[.slice y6 L.length c6] 28) := ⟨_, rfl⟩
                obtain ⟨q, hq⟩ : ∃ p, w6.heap.size = p := ⟨_, rfl⟩
                rw [hq] at V6
                rw [← hw7] at S6 V6 R6
                rw [← hw7]
                try rw [hq]
                clear hw7 hq
                obtain ⟨s7, _⟩ := one_cell S6.bq
                go_wp2_with fail
                refine (CB.out _ S6.rB.cls).mono ?_
                rintro e w8 ⟨y8, c8, rfl, hr8, hb8⟩
                simp only [resC, toldC, Option.isSome] at hr8
                simp only [resC, toldC, Option.isSome]
                have S8 := (S6.next hb8).next (below_new w8 (.cells #[.slice y8 M.length c8] 28))
                have V8 := blk_alloc (blk_next hb8 V6) (.cells #[.slice y8 M.length c8] 28)
                have U8 := blk_new w8 (.cells #[.slice y8 M.length c8] 28)
                have R8 := (R6.next hb8).next (below_new w8 (.cells #[.slice y8 M.length c8] 28))
                have Q8 : ClRow w.heap.size (w8.alloc (.cells #[.slice y8 M.length c8] 28)) y8 c8 M := ownsRow_base_le (hr8.next (below_new w8 _)) S6.low.size
                have hp6 : p6 < w8.heap.size := (Array.getElem?_eq_some_iff.1 (S6.next hb8).bp).1
                have hp7 : p7 < w8.heap.size := (Array.getElem?_eq_some_iff.1 (S6.next hb8).bq).1
                clear hr8 hb8 S6 s7 CB V6 R6
                go_upto_region 13 with (fail)
                obtain ⟨w9, hw9⟩ : ∃ W, W = w8.alloc (.cells #[.slice y8 M.length c8] 28) := ⟨_, rfl⟩
                obtain ⟨r, hr⟩ : ∃ p, w8.heap.size = p := ⟨_, rfl⟩
                rw [hr] at U8 hp6 hp7
                rw [← hw9] at S8 V8 U8 R8 Q8
                rw [← hw9]
                try rw [hr]
                clear hw9 hr
                obtain ⟨v9, _⟩ := one_cell V8
                obtain ⟨u9, _⟩ := one_cell U8
                obtain ⟨s6, s6f⟩ := one_cell S8.bp
                have S9 := S8.putP R8
                obtain ⟨s7, s7f⟩ := one_cell S9.bq
                have U9 := (one_cell (blk_other U8 (b' := p6) (by omega) 0 (.slice y6 L.length c6))).1
                have g9 : w9.grownBy (w9.setCell ⟨p6, 0, none⟩ (.slice y6 L.length c6)) (some p6) := grown_setC (World.grownBy.refl _ _) 0 _
                have S10 := S9.putQ (Q8.keep g9 (fun g e e2 => (e ▸ Q8).ne_box S8.bp (by simpa using e2.symm)))
                clear S8 S9 R8 Q8 V8 U8 g9 hp6 hp7
                have hbb : (decide ((k : Int) < 5) != decide ((k : Int) < 5)) = false := by simp
                go_wp2_with fail
                go_roundw
                case rel => exact ⟨k + 1, _, _, L, _, _, M, by omega, by go_num, hSL, hSM, S10⟩
                case measure => simp [RowKit.intOf]; omega
              · have hkn : ¬ (k : Int) < 12 := by omega
                have h12 : k = 12 := by omega
                subst h12
                have sA : scoreV A 900 = 4 := scoreV_at (by have := HA.out.2; rw [if_neg (by omega)] at this; exact this)
                have sB : scoreV B 900 = 20 := scoreV_at (by have := HB.out.2; rw [if_neg (by omega)] at this; exact this)
                have CA := score_c A A.length (Lib.hid rfl) (slow_len HA.out) 900 xa ca wr S.rA.cls
                have CB := Lib.hid (fun W h => score_c B B.length (Lib.hid rfl) (fast_len HB.out) 900 xb cb W h)
                rw [sA] at CA
                rw [sB] at CB
                clear sA sB
                go_wp2_with fail
                refine CA.mono ?_
                rintro e w6 ⟨rfl, hb6⟩
                have S6 := S.next hb6
                clear S s6 s7
                obtain ⟨s7, _⟩ := one_cell S6.bq
                go_wp2_with fail
                refine (CB.out _ S6.rB.cls).mono ?_
                rintro e w7 ⟨rfl, hb7⟩
                go_wp2_with fail
                go_returns
                exact ⟨rfl, grow_next S6.low hb7⟩
        · have hq1 : decide ((1000000 : Int) < t) = true := decide_eq_true (by omega)
          go_wp2_with fail
          refine wp_region_quiet_below (by kernel_rfl) (by kernel_rfl) ?_
          repeat ((with_reducible refine wpQuiet_step (fun K hK => ?_)); go_simp; first | ((with_reducible refine hK _ ?_); clear hK K) | (rw [if_neg (by intro h; exact nomatch h)]; (with_reducible refine hK _ ?_); clear hK K) | (apply Exists.intro; (with_reducible refine ⟨fun _ => ?_, hK _ ?_⟩); (first | with_reducible exact KI.out _ _ | with_reducible exact KS.out _ _); clear hK K))
          with_reducible refine wpQuiet_nil ?_
          intro _ hw'
          obtain ⟨⟨dq, osq⟩, hw''⟩ := hw'
          subst hw''
          have g := below_regrown W2 dq osq
          have Z3 := blk_next g Z2
          have G3 := grow_next G2 g
          have R3 := R2.next g
          generalize grow (redrawn W2 dq) osq = W3 at *
          clear KI KS kz Z2 G2 R2 g
          have KI := Lib.hid (fun d os => Calls.regrown_of (HL.out (grow (redrawn W3 d) os) (R3.next (below_regrown W3 d os)).cls))
          have KS := Lib.hid (fun d os => Calls.regrown_of (HS.out (grow (redrawn W3 d) os) (R3.next (below_regrown W3 d os)).cls))
          have kz := cell_regrown (one_cell Z3).1
          go_wp2_with fail
          refine wp_region_quiet_below (by kernel_rfl) (by kernel_rfl) ?_
          repeat ((with_reducible refine wpQuiet_step (fun K hK => ?_)); go_simp; first | ((with_reducible refine hK _ ?_); clear hK K) | (rw [if_neg (by intro h; exact nomatch h)]; (with_reducible refine hK _ ?_); clear hK K) | (apply Exists.intro; (with_reducible refine ⟨fun _ => ?_, hK _ ?_⟩); (first | with_reducible exact KI.out _ _ | with_reducible exact KS.out _ _); clear hK K))
          with_reducible refine wpQuiet_nil ?_
          intro _ hw'
          obtain ⟨⟨dq, osq⟩, hw''⟩ := hw'
          subst hw''
          have g := below_regrown W3 dq osq
          have G4 := grow_next G3 g
          generalize grow (redrawn W3 dq) osq = W4 at *
          clear KI KS kz Z3 G3 R3 g
          go_wp2_with fail
          go_returns
          exact ⟨rfl, G4⟩
      · have hq0 : decide (t < 0) = true := decide_eq_true (by omega)
        go_wp2_with fail
        refine wp_region_quiet_below (by kernel_rfl) (by kernel_rfl) ?_
        repeat ((with_reducible refine wpQuiet_step (fun K hK => ?_)); go_simp; first | ((with_reducible refine hK _ ?_); clear hK K) | (rw [if_neg (by intro h; exact nomatch h)]; (with_reducible refine hK _ ?_); clear hK K) | (apply Exists.intro; (with_reducible refine ⟨fun _ => ?_, hK _ ?_⟩); (first | with_reducible exact KI.out _ _ | with_reducible exact KS.out _ _); clear hK K))
        with_reducible refine wpQuiet_nil ?_
        intro _ hw'
        obtain ⟨⟨dq, osq⟩, hw''⟩ := hw'
        subst hw''
        have g := below_regrown W2 dq osq
        have Z3 := blk_next g Z2
        have G3 := grow_next G2 g
        have R3 := R2.next g
        generalize grow (redrawn W2 dq) osq = W3 at *
        clear KI KS kz Z2 G2 R2 g
        have KI := Lib.hid (fun d os => Calls.regrown_of (HL.out (grow (redrawn W3 d) os) (R3.next (below_regrown W3 d os)).cls))
        have KS := Lib.hid (fun d os => Calls.regrown_of (HS.out (grow (redrawn W3 d) os) (R3.next (below_regrown W3 d os)).cls))
        have kz := cell_regrown (one_cell Z3).1
        go_wp2_with fail
        refine wp_region_quiet_below (by kernel_rfl) (by kernel_rfl) ?_
        repeat ((with_reducible refine wpQuiet_step (fun K hK => ?_)); go_simp; first | ((with_reducible refine hK _ ?_); clear hK K) | (rw [if_neg (by intro h; exact nomatch h)]; (with_reducible refine hK _ ?_); clear hK K) | (apply Exists.intro; (with_reducible refine ⟨fun _ => ?_, hK _ ?_⟩); (first | with_reducible exact KI.out _ _ | with_reducible exact KS.out _ _); clear hK K))
        with_reducible refine wpQuiet_nil ?_
        intro _ hw'
        obtain ⟨⟨dq, osq⟩, hw''⟩ := hw'
        subst hw''
        have g := below_regrown W3 dq osq
        have G4 := grow_next G3 g
        generalize grow (redrawn W3 dq) osq = W4 at *
        clear KI KS kz Z3 G3 R3 g
        go_wp2_with fail
        go_returns
        exact ⟨rfl, G4⟩
  · have hbi : decide ((1048576 : Int) < (n : Int)) = true := decide_eq_true (by omega)
    go_enter Try.func7, Try.ntmps7
    go_wp2_with (go_at_call 26; go_in)
    go_returns
    exact ⟨rfl, Below.refl _ _⟩
set_option maxRecDepth 100000 in
theorem slow_lifted (os : Os) (started : os.Started) (H : Type) (enc : TypeId × Value → H) :
    ReturnsInHanded {} Try.checked os 7 .any (Rows.fnSlowSpec.pre6 enc Try.prog Try.f7 Rows.fnSlowRow.domain false) (Rows.fnSlowSpec.post enc Try.prog Try.f7 false true false false) := by
  refine lifted_of_walk (C := Try.checked) own started (by as_aux_lemma => kernel_rfl) Try.func7
    (ChangeSpec.witness6 (enc := enc) (C := Try.checked) false ⟨#[], #[.slice none 0 0], []⟩ 8 (by as_aux_lemma => kernel_rfl) (by as_aux_lemma => kernel_rfl) (by as_aux_lemma => kernel_rfl) (by as_aux_lemma => kernel_rfl) (by as_aux_lemma => kernel_rfl))
    laidOut rfl (by as_aux_lemma => kernel_rfl) (by as_aux_lemma => kernel_rfl) boolType
    (fun ds h => by
      match ds, h with
      | [_], _ => rfl)
    ?_
  intro W base args ds q hval hA
  rw [Try.params7] at hA hval
  obtain ⟨v0, vs0, d0, ds0, p0, q0, hargs, rfl, rfl, h0, r0⟩ := trodAll_cons hA
  obtain ⟨rfl, rfl, rfl⟩ := trodAll_nil r0
  obtain rfl : args = #[v0] := by cases args; simp_all
  obtain ⟨a0, len0, cap0, z0, rfl, w0⟩ := open_bytes Try.underlying45 Try.underlying5 (by as_aux_lemma => kernel_rfl) (hval 0 45 v0 rfl rfl) h0
  exact slow_walk W a0 len0 cap0 z0 w0

set_option maxHeartbeats 4000000 in
theorem slow_facts : joinedFacts Try.pinned.checked.prog 7 Try.f7 Rows.fnSlowSpec Rows.fnSlowRow = true :=
  facts_of (P := Try.prog) (by as_aux_lemma => kernel_rfl) laidOut mapsRow (by as_aux_lemma => kernel_rfl) (by as_aux_lemma => kernel_rfl) rfl noStops rfl noKnobs (by as_aux_lemma => kernel_rfl) (by as_aux_lemma => kernel_rfl) (by as_aux_lemma => kernel_rfl) (by as_aux_lemma => kernel_rfl) (by as_aux_lemma => kernel_rfl) (by as_aux_lemma => kernel_rfl) (by as_aux_lemma => kernel_rfl) (by as_aux_lemma => kernel_rfl) (by as_aux_lemma => kernel_rfl) rfl (by as_aux_lemma => kernel_rfl) (by as_aux_lemma => kernel_rfl) (by as_aux_lemma => kernel_rfl) keysPlain rfl heard enters finals isMake rfl rfl rfl (by as_aux_lemma => kernel_rfl) (by as_aux_lemma => kernel_rfl)

/-- The given statement. -/
theorem slow_holds : Rows.FnSlowSaid :=
  OpenClaim.holds_of_wide 7 Try.f7 rfl rfl rfl rfl rfl rfl rfl ⟨rfl, rfl, rfl, rfl, rfl⟩ rfl rfl rfl rfl rfl (by as_aux_lemma => kernel_rfl) Try.func7 slow_facts
    (of_decide_eq_true (by as_aux_lemma => kernel_rfl)) (by unfold Func.isWrapper; first | (rw [if_pos (by decide +kernel)]; kernel_rfl) | (rw [if_neg (by decide +kernel)]; exact ⟨rfl, rfl⟩))
    (fun os started H enc _ => slow_lifted os started H enc)
#print axioms slow_holds
end Go.Proofs.Ytckonbbdeohccaa
