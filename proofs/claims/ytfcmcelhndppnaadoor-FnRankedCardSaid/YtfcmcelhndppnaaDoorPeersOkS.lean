/- Right lists of peers: the reference's way. -/
import Derived.Test.YtfcmcelhndppnaaDoorPeersOkI
namespace Go.Proofs.YtfcmcelhndppnaaDoor
open Go.ChangeShapes Go.WideShapes Go.ChangeAt Go.RowKit Go.Sort
set_option linter.unusedVariables false
set_option linter.unusedSimpArgs false

theorem inP_dec {n lo hi : Int} {b : Bool} (h : inB lo n hi = b) (w : World) : Calls Tryd.prog 37 #[.int .i64 n, .int .i64 lo, .int .i64 hi] w fun e w' => e = .returned (.bool b) ∧ Below w.heap.size w w' :=
  h ▸ (l1In_c n lo hi w).mono fun _ _ ⟨e, hw⟩ => ⟨e, hw ▸ Below.refl _ _⟩

/-- The id ahead of this place; nought at the head. -/
def idAhead (l : List Pr) (k : Nat) : Int := if k = 0 then 0 else (match l[k - 1]? with | some v => v.id | none => 0)

set_option maxHeartbeats 2000000 in
theorem peersOk_spec (l : List Pr) (n : Nat) (hn : Hid (n = l.length)) (hm : n ≤ maxLen) (x : Option Addr) (cap : Nat) (w : World) (h : Prs w.heap.size w x l) :
    Calls Tryd.prog 22 #[.slice x n cap] w fun e w' => e = .returned (.bool (okPrs l)) ∧ Below w.heap.size w w' := by
  unfold maxLen at hm
  go_enter Tryd.func22, Tryd.ntmps22
  go_wp2
  go_loopw [3] (fun i wr => ∃ k : Nat, k ≤ n ∧ i = .int .i64 k ∧ okFrom 0 l = okFrom (idAhead l k) (l.drop k) ∧ Below w.heap.size w wr) (fun i _ => n - (intOf i).toNat)
  case atStart => exact ⟨0, Nat.zero_le _, rfl, rfl, Below.refl _ _⟩
  case round =>
    obtain ⟨k, hk, rfl, ha, hb⟩ := hrel
    have HA := Lib.hid ha
    clear ha
    by_cases hlt : k < n
    · obtain ⟨v, hv⟩ := getQ (l := l) (k := k) (by rw [← hn.out]; exact hlt)
      obtain ⟨b, off, rfl, hbB, c0, c1, c2, c3, c4, c5⟩ := (h.next hb).at_ hv
      have HV := Lib.hid (okFrom_at hv (idAhead l k))
      have HI := Lib.hid (show idAhead l (k + 1) = v.id by unfold idAhead; rw [if_neg (by omega), Nat.add_sub_cancel, hv])
      clear hv
      have k0 := cell_regrown c0
      have k1 := cell_regrown c1
      have k2 := cell_regrown c2
      have k3 := cell_regrown c3
      have k4 := cell_regrown c4
      have k5 := cell_regrown c5
      cases h1 : inB 1 v.id 1000 with
      | false =>
        have C1 := Lib.hid (fun d os => Calls.regrown_of (inP_dec h1 (grow (redrawn wr d) os)))
        have HF := Lib.hid (show okFrom 0 l = false by rw [HA.out, HV.out]; unfold Pr.ok; rw [h1]; rfl)
        clear h1
        go_wp2_with fail
        refine wp_region_quiet_below (by kernel_rfl) (by kernel_rfl) ?_
        repeat ((with_reducible refine wpQuiet_step (fun K hK => ?_)); go_simp; first | ((with_reducible refine hK _ ?_); clear hK K) | (rw [if_neg (by intro h; exact nomatch h)]; (with_reducible refine hK _ ?_); clear hK K) | (apply Exists.intro; (with_reducible refine ⟨fun _ => ?_, hK _ ?_⟩); (first | with_reducible exact C1.out _ _); clear hK K))
        with_reducible refine wpQuiet_nil ?_
        intro _ hw'
        obtain ⟨⟨dq, osq⟩, hw''⟩ := hw'
        subst hw''
        have g1 := grow_next hb (below_regrown wr dq osq)
        go_wp2_with fail
        go_returns
        exact ⟨by unfold okPrs; rw [HF.out]; rfl, g1⟩
      | true =>
        cases h2 : inB 1 v.str 15 with
        | false =>
          have C1 := Lib.hid (fun d os => Calls.regrown_of (inP_dec h1 (grow (redrawn wr d) os)))
          have C2 := Lib.hid (fun d os => Calls.regrown_of (inP_dec h2 (grow (redrawn wr d) os)))
          have HF := Lib.hid (show okFrom 0 l = false by rw [HA.out, HV.out]; unfold Pr.ok; rw [h1, h2]; rfl)
          clear h1 h2
          go_wp2_with fail
          refine wp_region_quiet_below (by kernel_rfl) (by kernel_rfl) ?_
          repeat ((with_reducible refine wpQuiet_step (fun K hK => ?_)); go_simp; first | ((with_reducible refine hK _ ?_); clear hK K) | (rw [if_neg (by intro h; exact nomatch h)]; (with_reducible refine hK _ ?_); clear hK K) | (apply Exists.intro; (with_reducible refine ⟨fun _ => ?_, hK _ ?_⟩); (first | with_reducible exact C1.out _ _ | with_reducible exact C2.out _ _); clear hK K))
          with_reducible refine wpQuiet_nil ?_
          intro _ hw'
          obtain ⟨⟨dq, osq⟩, hw''⟩ := hw'
          subst hw''
          have g1 := grow_next hb (below_regrown wr dq osq)
          go_wp2_with fail
          go_returns
          exact ⟨by unfold okPrs; rw [HF.out]; rfl, g1⟩
        | true =>
          cases h3 : v.s.ok with
          | false =>
            have C1 := Lib.hid (fun d os => Calls.regrown_of (inP_dec h1 (grow (redrawn wr d) os)))
            have C2 := Lib.hid (fun d os => Calls.regrown_of (inP_dec h2 (grow (redrawn wr d) os)))
            have C3 := Lib.hid (fun d os => Calls.regrown_of (sampleOk_dec h3 (grow (redrawn wr d) os)))
            have HF := Lib.hid (show okFrom 0 l = false by rw [HA.out, HV.out]; unfold Pr.ok; rw [h1, h2, h3]; rfl)
            clear h1 h2 h3
            go_wp2_with fail
            refine wp_region_quiet_below (by kernel_rfl) (by kernel_rfl) ?_
            repeat ((with_reducible refine wpQuiet_step (fun K hK => ?_)); go_simp; first | ((with_reducible refine hK _ ?_); clear hK K) | (rw [if_neg (by intro h; exact nomatch h)]; (with_reducible refine hK _ ?_); clear hK K) | (apply Exists.intro; (with_reducible refine ⟨fun _ => ?_, hK _ ?_⟩); (first | with_reducible exact C1.out _ _ | with_reducible exact C2.out _ _ | with_reducible exact C3.out _ _); clear hK K))
            with_reducible refine wpQuiet_nil ?_
            intro _ hw'
            obtain ⟨⟨dq, osq⟩, hw''⟩ := hw'
            subst hw''
            have g1 := grow_next hb (below_regrown wr dq osq)
            go_wp2_with fail
            go_returns
            exact ⟨by unfold okPrs; rw [HF.out]; rfl, g1⟩
          | true =>
            have HO := Lib.hid (show v.ok = true by unfold Pr.ok; rw [h1, h2, h3]; rfl)
            have hid1 : 1 ≤ v.id := (inB_iff.1 h1).1
            have C1 := Lib.hid (fun d os => Calls.regrown_of (inP_dec h1 (grow (redrawn wr d) os)))
            have C2 := Lib.hid (fun d os => Calls.regrown_of (inP_dec h2 (grow (redrawn wr d) os)))
            have C3 := Lib.hid (fun d os => Calls.regrown_of (sampleOk_dec h3 (grow (redrawn wr d) os)))
            clear h1 h2 h3
            by_cases hk0 : k = 0
            · have HF := Lib.hid (show okFrom 0 l = okFrom (idAhead l (k + 1)) (l.drop (k + 1)) by rw [HA.out, HV.out, HI.out, HO.out, decide_eq_true (show idAhead l k < v.id by unfold idAhead; rw [if_pos hk0]; omega)]; rfl)
              have hd0 : decide (0 < k) = false := decide_eq_false (by omega)
              have hd1 : ¬ 0 < k := by omega
              clear hid1 hk0
              go_wp2_with fail
              refine wp_region_quiet_below (by kernel_rfl) (by kernel_rfl) ?_
              repeat ((with_reducible refine wpQuiet_step (fun K hK => ?_)); go_simp; first | ((with_reducible refine hK _ ?_); clear hK K) | (rw [if_neg (by intro h; exact nomatch h)]; (with_reducible refine hK _ ?_); clear hK K) | (apply Exists.intro; (with_reducible refine ⟨fun _ => ?_, hK _ ?_⟩); (first | with_reducible exact C1.out _ _ | with_reducible exact C2.out _ _ | with_reducible exact C3.out _ _); clear hK K))
              with_reducible refine wpQuiet_nil ?_
              intro _ hw'
              obtain ⟨⟨dq, osq⟩, hw''⟩ := hw'
              subst hw''
              have g1 := grow_next hb (below_regrown wr dq osq)
              go_wp2_with fail
              go_roundw
              case rel => exact ⟨k + 1, by omega, by go_num, HF.out, g1⟩
              case measure => simp [intOf]; omega
            · obtain ⟨m, hm1⟩ : ∃ m, k = m + 1 := ⟨k - 1, by omega⟩
              obtain ⟨u, hu⟩ := getQ (l := l) (k := m) (by rw [← hn.out]; omega)
              obtain ⟨b', off', e', _, d0, d1, d2, d3, d4, d5⟩ := (h.next hb).at_ hu
              simp only [Option.some.injEq, Addr.mk.injEq] at e'
              obtain ⟨rfl, rfl, _⟩ := e'
              clear d1 d2 d3 d4 d5
              have j0 := cell_regrown d0
              have hmn : m < n := by omega
              have hw : IntKind.i64.wrap ((k : Int) - 1) = (m : Int) := by rw [IntWalk.i64_in _ ⟨by omega, by omega⟩]; omega
              have HU := Lib.hid (show idAhead l k = u.id by unfold idAhead; rw [if_neg hk0, hm1, Nat.add_sub_cancel, hu])
              have hd0 : decide (0 < k) = true := decide_eq_true (by omega)
              have hd1 : 0 < k := by omega
              clear hid1 hk0 hm1 hu d0
              by_cases hle : v.id ≤ u.id
              · have HF := Lib.hid (show okFrom 0 l = false by rw [HA.out, HV.out, HO.out, HU.out, decide_eq_false (by omega)]; rfl)
                have hd : decide (v.id ≤ u.id) = true := decide_eq_true hle
                clear hle
                go_wp2_with fail
                refine wp_region_quiet_below (by kernel_rfl) (by kernel_rfl) ?_
                repeat ((with_reducible refine wpQuiet_step (fun K hK => ?_)); go_simp; first | ((with_reducible refine hK _ ?_); clear hK K) | (rw [if_neg (by intro h; exact nomatch h)]; (with_reducible refine hK _ ?_); clear hK K) | (apply Exists.intro; (with_reducible refine ⟨fun _ => ?_, hK _ ?_⟩); (first | with_reducible exact C1.out _ _ | with_reducible exact C2.out _ _ | with_reducible exact C3.out _ _); clear hK K))
                with_reducible refine wpQuiet_nil ?_
                intro _ hw'
                obtain ⟨⟨dq, osq⟩, hw''⟩ := hw'
                subst hw''
                have g1 := grow_next hb (below_regrown wr dq osq)
                go_wp2_with fail
                go_returns
                exact ⟨by unfold okPrs; rw [HF.out]; rfl, g1⟩
              · have HF := Lib.hid (show okFrom 0 l = okFrom (idAhead l (k + 1)) (l.drop (k + 1)) by rw [HA.out, HV.out, HO.out, HU.out, HI.out, decide_eq_true (show u.id < v.id by omega)]; rfl)
                have hd : decide (v.id ≤ u.id) = false := decide_eq_false hle
                clear hle
                go_wp2_with fail
                refine wp_region_quiet_below (by kernel_rfl) (by kernel_rfl) ?_
                repeat ((with_reducible refine wpQuiet_step (fun K hK => ?_)); go_simp; first | ((with_reducible refine hK _ ?_); clear hK K) | (rw [if_neg (by intro h; exact nomatch h)]; (with_reducible refine hK _ ?_); clear hK K) | (apply Exists.intro; (with_reducible refine ⟨fun _ => ?_, hK _ ?_⟩); (first | with_reducible exact C1.out _ _ | with_reducible exact C2.out _ _ | with_reducible exact C3.out _ _); clear hK K))
                with_reducible refine wpQuiet_nil ?_
                intro _ hw'
                obtain ⟨⟨dq, osq⟩, hw''⟩ := hw'
                subst hw''
                have g1 := grow_next hb (below_regrown wr dq osq)
                go_wp2_with fail
                go_roundw
                case rel => exact ⟨k + 1, by omega, by go_num, HF.out, g1⟩
                case measure => simp [intOf]; omega
    · have e : k = n := by omega
      have HL : okFrom 0 l = true := by rw [HA.out, e, hn.out, List.drop_length]; rfl
      have HF := Lib.hid (show okPrs l = decide (n ≤ 20) by unfold okPrs; rw [HL, ← hn.out, Bool.true_and])
      clear HL e
      go_wp2_with fail
      go_returns
      exact ⟨by rw [HF.out]; simp; omega, hb⟩
end Go.Proofs.YtfcmcelhndppnaaDoor
