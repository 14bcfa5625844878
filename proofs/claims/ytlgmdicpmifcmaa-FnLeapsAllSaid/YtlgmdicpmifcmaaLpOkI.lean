/- Leaps all right: the program's way. -/
import Derived.Test.YtlgmdicpmifcmaaLpOk
namespace Go.Proofs.Ytlgmdicpmifcmaa
open Go.ChangeShapes Go.WideShapes Go.ChangeAt Go.RowKit Go.Sort
set_option linter.unusedVariables false
set_option linter.unusedSimpArgs false

set_option maxHeartbeats 2000000 in
theorem leapsOk_impl (l : List Lp) (n : Nat) (hn : Hid (n = l.length)) (hm : n ≤ maxLen) (x : Option Addr) (cap : Nat) (w : World) (h : Lps w.heap.size w x l) :
    Calls Try.prog 24 #[.slice x n cap] w fun e w' => e = .returned (.bool (okLps l)) ∧ Below w.heap.size w w' := by
  unfold maxLen at hm
  by_cases h30 : n ≤ 30
  · have HL := Lib.hid (show okLps l = okFromL (-86400) l by unfold okLps; rw [decide_eq_true (by rw [← hn.out]; exact h30)]; simp)
    go_enter Try.func24, Try.ntmps24
    go_wp2
    go_loopw [10] (fun i wr => ∃ k : Nat, k ≤ n ∧ i = .int .i64 k ∧ okFromL (-86400) l = okFromL (atAhead l k) (l.drop k) ∧ Hid (k = 0 ∨ 86400 ≤ atAhead l k ∧ atAhead l k ≤ 4000000000) ∧ Below w.heap.size w wr) (fun i _ => n - (intOf i).toNat)
    case atStart => exact ⟨0, Nat.zero_le _, rfl, rfl, Lib.hid (.inl rfl), Below.refl _ _⟩
    case round =>
      obtain ⟨k, hk, rfl, ha, hp, hb⟩ := hrel
      have HA := Lib.hid ha
      clear ha
      by_cases hlt : k < n
      · obtain ⟨v, hv⟩ := get_at (l := l) (k := k) (by rw [← hn.out]; exact hlt)
        obtain ⟨b, off, rfl, hbB, c0, c1⟩ := (h.next hb).at_ hv
        have HV := Lib.hid (okFromL_at hv (atAhead l k))
        have HI := Lib.hid (show atAhead l (k + 1) = v.at_ by unfold atAhead; rw [if_neg (by omega), Nat.add_sub_cancel, hv])
        have B2 := blk_new wr (.cells #[.int .i64 v.at_, .int .i64 v.add] 30)
        have hb2 : Below w.heap.size w (wr.alloc (.cells #[.int .i64 v.at_, .int .i64 v.add] 30)) := hb.alloc (by have := hb.size; omega) _
        have h2 := h.next hb2
        obtain ⟨b', off', e', _, c0', c1'⟩ := h2.at_ hv
        simp only [Option.some.injEq, Addr.mk.injEq] at e'
        obtain ⟨rfl, rfl, _⟩ := e'
        have hne : b ≠ wr.heap.size := by omega
        obtain ⟨i0, i1⟩ := lp_cells B2
        clear hv
        go_wp2_with fail
        obtain ⟨W2, hW2⟩ : ∃ W2, wr.alloc (.cells #[.int .i64 v.at_, .int .i64 v.add] 30) = W2 := ⟨_, rfl⟩
        rw [hW2] at B2 hb2 h2 c0' c1' i0 i1 ⊢
        obtain ⟨q, hq⟩ : ∃ q, q = wr.heap.size := ⟨_, rfl⟩
        rw [← hq] at B2 i0 i1 hne ⊢
        clear hW2 c0 c1 hq
        have k0 := cell_regrown i0
        have k1 := cell_regrown i1
        cases h1 : v.ok with
        | false =>
          have C1 := Lib.hid (fun d os => Calls.regrown_of (leapOk_dec h1 (grow (redrawn W2 d) os)))
          have HF := Lib.hid (show okLps l = false by rw [HL.out, HA.out, HV.out, h1]; rfl)
          clear h1
          refine wp_region_quiet_below (by kernel_rfl) (by kernel_rfl) ?_
          repeat ((with_reducible refine wpQuiet_step (fun K hK => ?_)); go_simp; first | ((with_reducible refine hK _ ?_); clear hK K) | (rw [if_neg (by intro h; exact nomatch h)]; (with_reducible refine hK _ ?_); clear hK K) | (apply Exists.intro; (with_reducible refine ⟨fun _ => ?_, hK _ ?_⟩); (first | with_reducible exact C1.out _ _); clear hK K))
          with_reducible refine wpQuiet_nil ?_
          intro _ hw'
          obtain ⟨⟨dq, osq⟩, hw''⟩ := hw'
          subst hw''
          have g1 := grow_next hb2 (below_regrown W2 dq osq)
          go_wp2_with fail
          go_returns
          exact ⟨by rw [HF.out]; rfl, g1⟩
        | true =>
          have hv01 := (Lp.ok_iff.1 h1).1
          have C1 := Lib.hid (fun d os => Calls.regrown_of (leapOk_dec h1 (grow (redrawn W2 d) os)))
          have HO := Lib.hid h1
          have HP := Lib.hid (show k + 1 = 0 ∨ 86400 ≤ atAhead l (k + 1) ∧ atAhead l (k + 1) ≤ 4000000000 from .inr (by rw [HI.out]; exact hv01))
          clear h1
          by_cases hk0 : k = 0
          · have HF := Lib.hid (show okFromL (-86400) l = okFromL (atAhead l (k + 1)) (l.drop (k + 1)) by rw [HA.out, HV.out, HI.out, HO.out, decide_eq_true (show atAhead l k + 172800 ≤ v.at_ by unfold atAhead; rw [if_pos hk0]; omega)]; rfl)
            have hd0 : decide (0 < k) = false := decide_eq_false (by omega)
            have hd1 : ¬ 0 < k := by omega
            clear hk0
            refine wp_region_quiet_below (by kernel_rfl) (by kernel_rfl) ?_
            repeat ((with_reducible refine wpQuiet_step (fun K hK => ?_)); go_simp; first | ((with_reducible refine hK _ ?_); clear hK K) | (rw [if_neg (by intro h; exact nomatch h)]; (with_reducible refine hK _ ?_); clear hK K) | (apply Exists.intro; (with_reducible refine ⟨fun _ => ?_, hK _ ?_⟩); (first | with_reducible exact C1.out _ _); clear hK K))
            with_reducible refine wpQuiet_nil ?_
            intro _ hw'
            obtain ⟨⟨dq, osq⟩, hw''⟩ := hw'
            subst hw''
            have g1 := grow_next hb2 (below_regrown W2 dq osq)
            go_wp2_with fail
            go_roundw
            case rel => exact ⟨k + 1, by omega, by go_num, HF.out, HP, g1⟩
            case measure => simp [intOf]; omega
          · obtain ⟨m, hm1⟩ : ∃ m, k = m + 1 := ⟨k - 1, by omega⟩
            obtain ⟨u, hu⟩ := get_at (l := l) (k := m) (by rw [← hn.out]; omega)
            obtain ⟨b', off', e', _, d0, d1⟩ := h2.at_ hu
            simp only [Option.some.injEq, Addr.mk.injEq] at e'
            obtain ⟨rfl, rfl, _⟩ := e'
            clear d1
            have j0 := cell_regrown d0
            have hmn : m < n := by omega
            have hw : IntKind.i64.wrap ((k : Int) - 1) = (m : Int) := by rw [IntWalk.i64_in _ ⟨by omega, by omega⟩]; omega
            have HU := Lib.hid (show atAhead l k = u.at_ by unfold atAhead; rw [if_neg hk0, hm1, Nat.add_sub_cancel, hu])
            have hu01 : 86400 ≤ u.at_ ∧ u.at_ ≤ 4000000000 := by
              rcases hp.out with h0 | h0
              · exact absurd h0 hk0
              · rwa [HU.out] at h0
            have hw2 : IntKind.i64.wrap (v.at_ - u.at_) = v.at_ - u.at_ := by rw [IntWalk.i64_in _ ⟨by omega, by omega⟩]
            have hd0 : decide (0 < k) = true := decide_eq_true (by omega)
            have hd1 : 0 < k := by omega
            clear hk0 hm1 hu d0 hp
            by_cases hle : v.at_ - u.at_ < 172800
            · have HF := Lib.hid (show okLps l = false by rw [HL.out, HA.out, HV.out, HO.out, HU.out, decide_eq_false (by omega)]; rfl)
              have hd : decide (v.at_ - u.at_ < 172800) = true := decide_eq_true hle
              clear hle
              refine wp_region_quiet_below (by kernel_rfl) (by kernel_rfl) ?_
              repeat ((with_reducible refine wpQuiet_step (fun K hK => ?_)); go_simp; first | ((with_reducible refine hK _ ?_); clear hK K) | (rw [if_neg (by intro h; exact nomatch h)]; (with_reducible refine hK _ ?_); clear hK K) | (apply Exists.intro; (with_reducible refine ⟨fun _ => ?_, hK _ ?_⟩); (first | with_reducible exact C1.out _ _); clear hK K))
              with_reducible refine wpQuiet_nil ?_
              intro _ hw'
              obtain ⟨⟨dq, osq⟩, hw''⟩ := hw'
              subst hw''
              have g1 := grow_next hb2 (below_regrown W2 dq osq)
              go_wp2_with fail
              go_returns
              exact ⟨by rw [HF.out]; rfl, g1⟩
            · have HF := Lib.hid (show okFromL (-86400) l = okFromL (atAhead l (k + 1)) (l.drop (k + 1)) by rw [HA.out, HV.out, HO.out, HU.out, HI.out, decide_eq_true (show u.at_ + 172800 ≤ v.at_ by omega)]; rfl)
              have hd : decide (v.at_ - u.at_ < 172800) = false := decide_eq_false hle
              clear hle
              refine wp_region_quiet_below (by kernel_rfl) (by kernel_rfl) ?_
              repeat ((with_reducible refine wpQuiet_step (fun K hK => ?_)); go_simp; first | ((with_reducible refine hK _ ?_); clear hK K) | (rw [if_neg (by intro h; exact nomatch h)]; (with_reducible refine hK _ ?_); clear hK K) | (apply Exists.intro; (with_reducible refine ⟨fun _ => ?_, hK _ ?_⟩); (first | with_reducible exact C1.out _ _); clear hK K))
              with_reducible refine wpQuiet_nil ?_
              intro _ hw'
              obtain ⟨⟨dq, osq⟩, hw''⟩ := hw'
              subst hw''
              have g1 := grow_next hb2 (below_regrown W2 dq osq)
              go_wp2_with fail
              go_roundw
              case rel => exact ⟨k + 1, by omega, by go_num, HF.out, HP, g1⟩
              case measure => simp [intOf]; omega
      · have HF := Lib.hid (show okLps l = true by rw [HL.out, HA.out]; exact okFromL_end (by rw [← hn.out]; exact hlt) _)
        go_wp2_with fail
        go_returns
        exact ⟨by rw [HF.out]; rfl, hb⟩
  · have HF := Lib.hid (show okLps l = false by unfold okLps; rw [decide_eq_false (by rw [← hn.out]; exact h30)]; simp)
    go_enter Try.func24, Try.ntmps24
    go_wp2
    go_returns
    exact ⟨by rw [HF.out]; rfl, Below.refl _ _⟩
end Go.Proofs.Ytlgmdicpmifcmaa
