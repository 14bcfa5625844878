/- Leaps all right: the program's way and the reference's. -/
import Derived.Test.YtlgmdicpmifcmaaLp
import Derived.Lib.QuietBelow
namespace Go.Proofs.Ytlgmdicpmifcmaa
open Go.ChangeShapes Go.WideShapes Go.ChangeAt Go.RowKit Go.Sort
set_option linter.unusedVariables false
set_option linter.unusedSimpArgs false

/-- One leap in its bounds. -/
def Lp.ok (v : Lp) : Bool := inB 86400 v.at_ 4000000000 && (decide (v.add = 1) || decide (v.add = -1))
theorem Lp.ok_iff {v : Lp} : v.ok = true ↔ (86400 ≤ v.at_ ∧ v.at_ ≤ 4000000000) ∧ (v.add = 1 ∨ v.add = -1) := by simp [Lp.ok, inB]
/-- Each far enough behind the one before. -/
def okFromL : Int → List Lp → Bool
  | _, [] => true
  | p, v :: l => v.ok && decide (p + 172800 ≤ v.at_) && okFromL v.at_ l
def okLps (l : List Lp) : Bool := okFromL (-86400) l && decide (l.length ≤ 30)
theorem okFromL_at {l : List Lp} {k : Nat} {v : Lp} (h : l[k]? = some v) (p : Int) : okFromL p (l.drop k) = (v.ok && decide (p + 172800 ≤ v.at_) && okFromL v.at_ (l.drop (k + 1))) := by
  have hk := (List.getElem?_eq_some_iff.1 h).1
  rw [List.drop_eq_getElem_cons hk]
  have : l[k] = v := by have := List.getElem?_eq_getElem hk; rw [h] at this; exact (Option.some.inj this).symm
  rw [this]
  rfl
theorem okFromL_end {l : List Lp} {k : Nat} (h : ¬ k < l.length) (p : Int) : okFromL p (l.drop k) = true := by
  rw [List.drop_eq_nil_of_le (by omega)]
  rfl
/-- When the one ahead of this place is. -/
def atAhead (l : List Lp) (k : Nat) : Int := if k = 0 then -86400 else (match l[k - 1]? with | some v => v.at_ | none => 0)

theorem inL_dec {n lo hi : Int} {b : Bool} (h : inB lo n hi = b) (w : World) : Calls Try.prog 39 #[.int .i64 n, .int .i64 lo, .int .i64 hi] w fun e w' => e = .returned (.bool b) ∧ Below w.heap.size w w' :=
  h ▸ (l1In_c n lo hi w).mono fun _ _ ⟨e, hw⟩ => ⟨e, hw ▸ Below.refl _ _⟩

theorem leapOk_c (v : Lp) (w : World) : Calls Try.prog 38 #[.agg #[.int .i64 v.at_, .int .i64 v.add]] w fun e w' => e = .returned (.bool v.ok) ∧ Below w.heap.size w w' := by
  cases h : inB 86400 v.at_ 4000000000 with
  | false =>
    have hv : v.ok = false := by unfold Lp.ok; rw [h]; rfl
    rw [hv]
    go_enter Try.func38, Try.ntmps38
    go_wp2_with (go_at_call 41; refine (within_c _ _ _ _).mono ?_; rintro e w1 ⟨rfl, rfl⟩)
    go_returns
    exact ⟨rfl, by go_grown⟩
  | true =>
    by_cases h1 : v.add = 1
    · have hv : v.ok = true := by unfold Lp.ok; rw [h]; simp [h1]
      have e1 : (v.add == 1) = true := by simp [h1]
      rw [hv]
      clear h1
      go_enter Try.func38, Try.ntmps38
      go_wp2_with (go_at_call 41; refine (within_c _ _ _ _).mono ?_; rintro e w1 ⟨rfl, rfl⟩)
      go_returns
      exact ⟨rfl, by go_grown⟩
    · have e1 : (v.add == 1) = false := by simp [h1]
      have hv : v.ok = (v.add == -1) := by unfold Lp.ok; rw [h]; simp [h1]; cases hh : decide (v.add = -1) <;> simp_all
      rw [hv]
      clear h1
      go_enter Try.func38, Try.ntmps38
      go_wp2_with (go_at_call 41; refine (within_c _ _ _ _).mono ?_; rintro e w1 ⟨rfl, rfl⟩)
      go_returns
      exact ⟨rfl, by go_grown⟩
theorem leapOk_dec {v : Lp} {b : Bool} (h : v.ok = b) (w : World) : Calls Try.prog 38 #[.agg #[.int .i64 v.at_, .int .i64 v.add]] w fun e w' => e = .returned (.bool b) ∧ Below w.heap.size w w' := h ▸ leapOk_c v w

set_option maxHeartbeats 2000000 in
theorem leapsOk_spec (l : List Lp) (n : Nat) (hn : Hid (n = l.length)) (hm : n ≤ maxLen) (x : Option Addr) (cap : Nat) (w : World) (h : Lps w.heap.size w x l) :
    Calls Try.prog 25 #[.slice x n cap] w fun e w' => e = .returned (.bool (okLps l)) ∧ Below w.heap.size w w' := by
  unfold maxLen at hm
  go_enter Try.func25, Try.ntmps25
  go_wp2
  go_loopw [3] (fun i wr => ∃ k : Nat, k ≤ n ∧ i = .int .i64 k ∧ okFromL (-86400) l = okFromL (atAhead l k) (l.drop k) ∧ Hid (k = 0 ∨ 86400 ≤ atAhead l k ∧ atAhead l k ≤ 4000000000) ∧ Below w.heap.size w wr) (fun i _ => n - (intOf i).toNat)
  case atStart => exact ⟨0, Nat.zero_le _, rfl, rfl, Lib.hid (.inl rfl), Below.refl _ _⟩
  case round =>
    obtain ⟨k, hk, rfl, ha, hp, hb⟩ := hrel
    have HA := Lib.hid ha
    clear ha
    by_cases hlt : k < n
    · obtain ⟨v, hv⟩ := get_at (l := l) (k := k) (by rw [← hn.out]; exact hlt)
      obtain ⟨b, off, rfl, hbB, c0, c1⟩ := (h.next hb).at_ hv
      have HV := Lib.hid (okFromL_at hv (atAhead l k))
      have HI := Lib.hid (show atAhead l (k + 1) = v.at_ by unfold atAhead; rw [if_neg (by omega), Nat.add_sub_cancel, hv])
      clear hv
      have k0 := cell_regrown c0
      have k1 := cell_regrown c1
      cases h1 : inB 86400 v.at_ 4000000000 with
      | false =>
        have C1 := Lib.hid (fun d os => Calls.regrown_of (inL_dec h1 (grow (redrawn wr d) os)))
        have HF := Lib.hid (show okFromL (-86400) l = false by rw [HA.out, HV.out]; unfold Lp.ok; rw [h1]; rfl)
        clear h1
        go_wp2_with fail
        refine wp_region_quiet_below (by kernel_rfl) (by kernel_rfl) ?_
        repeat ((with_reducible refine wpQuiet_step (fun K hK => ?_)); go_simp; first | ((with_reducible refine hK _ ?_); clear hK K) | (rw [if_neg (by intro h; exact nomatch h)]; (with_reducible refine hK _ ?_); clear hK K) | (apply Exists.intro; (with_reducible refine ⟨fun _ => ?_, hK _ ?_⟩); (first | with_reducible exact C1.out _ _); clear hK K))
        with_reducible refine wpQuiet_nil ?_
        intro _ hw'
        obtain ⟨⟨dq, osq⟩, hw''⟩ := hw'
        subst hw''
        have g1 := grow_next hb (below_regrown wr dq osq)
        go_wp2_with fail
        go_returns
        exact ⟨by unfold okLps; rw [HF.out]; rfl, g1⟩
      | true =>
        have hv01 := inB_iff.1 h1
        have C1 := Lib.hid (fun d os => Calls.regrown_of (inL_dec h1 (grow (redrawn wr d) os)))
        cases h2 : (decide (v.add = 1) || decide (v.add = -1)) with
        | false =>
          have e1 : (v.add != 1) = true := by rw [Bool.or_eq_false_iff] at h2; simpa using h2.1
          have e2 : (v.add != -1) = true := by rw [Bool.or_eq_false_iff] at h2; simpa using h2.2
          have HF := Lib.hid (show okFromL (-86400) l = false by rw [HA.out, HV.out]; unfold Lp.ok; rw [h1, h2]; rfl)
          clear h1 h2
          go_wp2_with fail
          refine wp_region_quiet_below (by kernel_rfl) (by kernel_rfl) ?_
          repeat ((with_reducible refine wpQuiet_step (fun K hK => ?_)); go_simp; first | ((with_reducible refine hK _ ?_); clear hK K) | (rw [if_neg (by intro h; exact nomatch h)]; (with_reducible refine hK _ ?_); clear hK K) | (apply Exists.intro; (with_reducible refine ⟨fun _ => ?_, hK _ ?_⟩); (first | with_reducible exact C1.out _ _); clear hK K))
          with_reducible refine wpQuiet_nil ?_
          intro _ hw'
          obtain ⟨⟨dq, osq⟩, hw''⟩ := hw'
          subst hw''
          have g1 := grow_next hb (below_regrown wr dq osq)
          go_wp2_with fail
          go_returns
          exact ⟨by unfold okLps; rw [HF.out]; rfl, g1⟩
        | true =>
          have HO := Lib.hid (show v.ok = true by unfold Lp.ok; rw [h1, h2]; rfl)
          have h3 : v.add = 1 ∨ v.add = -1 := by simpa using h2
          clear h1 h2
          by_cases hk0 : k = 0
          · have HF := Lib.hid (show okFromL (-86400) l = okFromL (atAhead l (k + 1)) (l.drop (k + 1)) by rw [HA.out, HV.out, HI.out, HO.out, decide_eq_true (show atAhead l k + 172800 ≤ v.at_ by unfold atAhead; rw [if_pos hk0]; omega)]; rfl)
            have HP := Lib.hid (show k + 1 = 0 ∨ 86400 ≤ atAhead l (k + 1) ∧ atAhead l (k + 1) ≤ 4000000000 from .inr (by rw [HI.out]; exact hv01))
            have hd0 : decide (0 < k) = false := decide_eq_false (by omega)
            have hd1 : ¬ 0 < k := by omega
            clear hk0
            rcases h3 with h3 | h3
            · have e1 : (v.add != 1) = false := by simp [h3]
              clear h3
              go_wp2_with fail
              refine wp_region_quiet_below (by kernel_rfl) (by kernel_rfl) ?_
              repeat ((with_reducible refine wpQuiet_step (fun K hK => ?_)); go_simp; first | ((with_reducible refine hK _ ?_); clear hK K) | (rw [if_neg (by intro h; exact nomatch h)]; (with_reducible refine hK _ ?_); clear hK K) | (apply Exists.intro; (with_reducible refine ⟨fun _ => ?_, hK _ ?_⟩); (first | with_reducible exact C1.out _ _); clear hK K))
              with_reducible refine wpQuiet_nil ?_
              intro _ hw'
              obtain ⟨⟨dq, osq⟩, hw''⟩ := hw'
              subst hw''
              have g1 := grow_next hb (below_regrown wr dq osq)
              go_wp2_with fail
              go_roundw
              case rel => exact ⟨k + 1, by omega, by go_num, HF.out, HP, g1⟩
              case measure => simp [intOf]; omega
            · have e1 : (v.add != 1) = true := by simp [h3]
              have e2 : (v.add != -1) = false := by simp [h3]
              clear h3
              go_wp2_with fail
              refine wp_region_quiet_below (by kernel_rfl) (by kernel_rfl) ?_
              repeat ((with_reducible refine wpQuiet_step (fun K hK => ?_)); go_simp; first | ((with_reducible refine hK _ ?_); clear hK K) | (rw [if_neg (by intro h; exact nomatch h)]; (with_reducible refine hK _ ?_); clear hK K) | (apply Exists.intro; (with_reducible refine ⟨fun _ => ?_, hK _ ?_⟩); (first | with_reducible exact C1.out _ _); clear hK K))
              with_reducible refine wpQuiet_nil ?_
              intro _ hw'
              obtain ⟨⟨dq, osq⟩, hw''⟩ := hw'
              subst hw''
              have g1 := grow_next hb (below_regrown wr dq osq)
              go_wp2_with fail
              go_roundw
              case rel => exact ⟨k + 1, by omega, by go_num, HF.out, HP, g1⟩
              case measure => simp [intOf]; omega
          · obtain ⟨m, hm1⟩ : ∃ m, k = m + 1 := ⟨k - 1, by omega⟩
            obtain ⟨u, hu⟩ := get_at (l := l) (k := m) (by rw [← hn.out]; omega)
            obtain ⟨b', off', e', _, d0, d1⟩ := (h.next hb).at_ hu
            simp only [Option.some.injEq, Addr.mk.injEq] at e'
            obtain ⟨rfl, rfl, _⟩ := e'
            clear d1
            have j0 := cell_regrown d0
            have hmn : m < n := by omega
            have hw : IntKind.i64.wrap ((k : Int) - 1) = (m : Int) := by rw [IntWalk.i64_in _ ⟨by omega, by omega⟩]; omega
            have HU := Lib.hid (show atAhead l k = u.at_ by unfold atAhead; rw [if_neg hk0, hm1, Nat.add_sub_cancel, hu])
            have hu01 : 86400 ≤ u.at_ ∧ u.at_ ≤ 4000000000 := by
              rcases hp.out with h0 | h0
              · exact absurd h0 hk0
              · rwa [HU.out] at h0
            have hw2 : IntKind.i64.wrap (u.at_ + 172800) = u.at_ + 172800 := by rw [IntWalk.i64_in _ ⟨by omega, by omega⟩]
            have HP := Lib.hid (show k + 1 = 0 ∨ 86400 ≤ atAhead l (k + 1) ∧ atAhead l (k + 1) ≤ 4000000000 from .inr (by rw [HI.out]; exact hv01))
            have hd0 : decide (0 < k) = true := decide_eq_true (by omega)
            have hd1 : 0 < k := by omega
            clear hk0 hm1 hu d0 hp
            by_cases hle : v.at_ < u.at_ + 172800
            · have HF := Lib.hid (show okFromL (-86400) l = false by rw [HA.out, HV.out, HO.out, HU.out, decide_eq_false (by omega)]; rfl)
              have hd : decide (v.at_ < u.at_ + 172800) = true := decide_eq_true hle
              clear hle
              rcases h3 with h3 | h3
              · have e1 : (v.add != 1) = false := by simp [h3]
                clear h3
                go_wp2_with fail
                refine wp_region_quiet_below (by kernel_rfl) (by kernel_rfl) ?_
                repeat ((with_reducible refine wpQuiet_step (fun K hK => ?_)); go_simp; first | ((with_reducible refine hK _ ?_); clear hK K) | (rw [if_neg (by intro h; exact nomatch h)]; (with_reducible refine hK _ ?_); clear hK K) | (apply Exists.intro; (with_reducible refine ⟨fun _ => ?_, hK _ ?_⟩); (first | with_reducible exact C1.out _ _); clear hK K))
                with_reducible refine wpQuiet_nil ?_
                intro _ hw'
                obtain ⟨⟨dq, osq⟩, hw''⟩ := hw'
                subst hw''
                have g1 := grow_next hb (below_regrown wr dq osq)
                go_wp2_with fail
                go_returns
                exact ⟨by unfold okLps; rw [HF.out]; rfl, g1⟩
              · have e1 : (v.add != 1) = true := by simp [h3]
                have e2 : (v.add != -1) = false := by simp [h3]
                clear h3
                go_wp2_with fail
                refine wp_region_quiet_below (by kernel_rfl) (by kernel_rfl) ?_
                repeat ((with_reducible refine wpQuiet_step (fun K hK => ?_)); go_simp; first | ((with_reducible refine hK _ ?_); clear hK K) | (rw [if_neg (by intro h; exact nomatch h)]; (with_reducible refine hK _ ?_); clear hK K) | (apply Exists.intro; (with_reducible refine ⟨fun _ => ?_, hK _ ?_⟩); (first | with_reducible exact C1.out _ _); clear hK K))
                with_reducible refine wpQuiet_nil ?_
                intro _ hw'
                obtain ⟨⟨dq, osq⟩, hw''⟩ := hw'
                subst hw''
                have g1 := grow_next hb (below_regrown wr dq osq)
                go_wp2_with fail
                go_returns
                exact ⟨by unfold okLps; rw [HF.out]; rfl, g1⟩
            · have HF := Lib.hid (show okFromL (-86400) l = okFromL (atAhead l (k + 1)) (l.drop (k + 1)) by rw [HA.out, HV.out, HO.out, HU.out, HI.out, decide_eq_true (show u.at_ + 172800 ≤ v.at_ by omega)]; rfl)
              have hd : decide (v.at_ < u.at_ + 172800) = false := decide_eq_false hle
              clear hle
              rcases h3 with h3 | h3
              · have e1 : (v.add != 1) = false := by simp [h3]
                clear h3
                go_wp2_with fail
                refine wp_region_quiet_below (by kernel_rfl) (by kernel_rfl) ?_
                repeat ((with_reducible refine wpQuiet_step (fun K hK => ?_)); go_simp; first | ((with_reducible refine hK _ ?_); clear hK K) | (rw [if_neg (by intro h; exact nomatch h)]; (with_reducible refine hK _ ?_); clear hK K) | (apply Exists.intro; (with_reducible refine ⟨fun _ => ?_, hK _ ?_⟩); (first | with_reducible exact C1.out _ _); clear hK K))
                with_reducible refine wpQuiet_nil ?_
                intro _ hw'
                obtain ⟨⟨dq, osq⟩, hw''⟩ := hw'
                subst hw''
                have g1 := grow_next hb (below_regrown wr dq osq)
                go_wp2_with fail
                go_roundw
                case rel => exact ⟨k + 1, by omega, by go_num, HF.out, HP, g1⟩
                case measure => simp [intOf]; omega
              · have e1 : (v.add != 1) = true := by simp [h3]
                have e2 : (v.add != -1) = false := by simp [h3]
                clear h3
                go_wp2_with fail
                refine wp_region_quiet_below (by kernel_rfl) (by kernel_rfl) ?_
                repeat ((with_reducible refine wpQuiet_step (fun K hK => ?_)); go_simp; first | ((with_reducible refine hK _ ?_); clear hK K) | (rw [if_neg (by intro h; exact nomatch h)]; (with_reducible refine hK _ ?_); clear hK K) | (apply Exists.intro; (with_reducible refine ⟨fun _ => ?_, hK _ ?_⟩); (first | with_reducible exact C1.out _ _); clear hK K))
                with_reducible refine wpQuiet_nil ?_
                intro _ hw'
                obtain ⟨⟨dq, osq⟩, hw''⟩ := hw'
                subst hw''
                have g1 := grow_next hb (below_regrown wr dq osq)
                go_wp2_with fail
                go_roundw
                case rel => exact ⟨k + 1, by omega, by go_num, HF.out, HP, g1⟩
                case measure => simp [intOf]; omega
    · have HF := Lib.hid (show okFromL (-86400) l = true by rw [HA.out]; exact okFromL_end (by rw [← hn.out]; exact hlt) _)
      have HL := Lib.hid (show okLps l = decide (n ≤ 30) by unfold okLps; rw [HF.out, hn.out]; rfl)
      by_cases h30 : n ≤ 30
      · have HL' := Lib.hid (HL.out.trans (decide_eq_true h30))
        have h31 : decide ((n : Int) ≤ 30) = true := decide_eq_true (by omega)
        go_wp2_with fail
        go_returns
        exact ⟨by rw [HL'.out]; first | rfl | (rw [h31]; rfl), hb⟩
      · have HL' := Lib.hid (HL.out.trans (decide_eq_false h30))
        have h31 : decide ((n : Int) ≤ 30) = false := decide_eq_false (by omega)
        go_wp2_with fail
        go_returns
        exact ⟨by rw [HL'.out]; first | rfl | (rw [h31]; rfl), hb⟩
end Go.Proofs.Ytlgmdicpmifcmaa
