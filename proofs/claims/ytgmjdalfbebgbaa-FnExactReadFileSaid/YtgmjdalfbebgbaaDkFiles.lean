/- The reference's test of files. -/
import Derived.Test.YtgmjdalfbebgbaaDkPut2
import Derived.Lib.QuietBelow
namespace Go.Proofs.Ytgmjdalfbebgbaa
open Go.ChangeShapes Go.WideShapes Go.ChangeAt Go.RowKit Go.Sort
set_option linter.unusedVariables false
set_option linter.unusedSimpArgs false
set_option maxRecDepth 100000

theorem l10Name_below (s : ByteArray) (w : World) : Calls Try.prog 79 #[.string s] w fun e w' => e = .returned (.bool (nmOk s)) ∧ Below w.heap.size w w' := by
  refine (l10Name_c s w).mono ?_
  rintro e w1 ⟨rfl, rfl⟩
  exact ⟨rfl, Below.refl _ _⟩
set_option maxHeartbeats 4000000 in
theorem l10Files_c (l : List Fl) (n : Nat) (hn : Hid (n = l.length)) (hs : SmallF l) (x : Option Addr) (cap : Nat) (w : World) (h : GAt flC w.heap.size w x l) :
    Calls Try.prog 41 #[.slice x n cap] w fun e w' => e = .returned (.bool (filesOk l)) ∧ Below w.heap.size w w' := by
  have hn2 : n ≤ 2097152 := by rw [hn.out]; exact hs.1
  have HS := Lib.hid hs
  clear hs
  go_enter Try.func41, Try.ntmps41
  by_cases h60 : n ≤ 60
  · have d60 : decide ((60 : Int) < (n : Int)) = false := decide_eq_false (by omega)
    have g60 : ¬ (60 : Int) < (n : Int) := by omega
    go_wp2_with fail
    clear d60 g60
    go_loopw [3, 4] (fun by_ i wr => ∃ (k : Nat), k ≤ n ∧ i = .int .i64 k ∧ by_ = .int .i64 (bytesF (l.take k) : Nat) ∧ Hid (okFTo l k = true) ∧ Below w.heap.size w wr) (fun _ i _ => n - (RowKit.intOf i).toNat)
    case atStart => exact ⟨0, Nat.zero_le _, rfl, rfl, Lib.hid rfl, Below.refl _ _⟩
    case round =>
      obtain ⟨k, hk, rfl, rfl, HO, hb⟩ := hrel
      by_cases hlt : k < n
      · obtain ⟨f, hf⟩ := getG (l := l) (k := k) (by rw [← hn.out]; exact hlt)
        obtain ⟨b, off, rfl, hbB, d0, d1⟩ := (h.next hb).fl hf
        have hkn : (k : Int) < (n : Int) := by omega
        have HF := Lib.hid hf
        have HB : Hid (bytesF (l.take (k + 1)) = bytesF (l.take k) + f.data.size) := Lib.hid (by rw [take_nextG hf, bytesF_append, bytesF_cons]; simp [bytesF])
        have b1 := HS.out.bytes k
        have b2 := HS.out.bytes (k + 1)
        rw [HB.out] at b2
        have hw1 : IntKind.i64.wrap ((k : Int) + 1) = (k : Int) + 1 := IntWalk.i64_in _ (by omega)
        obtain ⟨B, hB⟩ : ∃ B, bytesF (l.take k) = B := ⟨_, rfl⟩
        rw [hB] at b1 b2 HB
        rw [hB]
        have hw2 : IntKind.i64.wrap ((B : Int) + (f.data.size : Int)) = (B : Int) + (f.data.size : Int) := IntWalk.i64_in _ (by omega)
        have hnx := okFTo_succ hf
        rw [HO.out, Bool.true_and] at hnx
        have HBAD := Lib.hid (fun (hbad : okF l k f = false) => (show filesOk l = false by
          unfold filesOk
          rw [okFTo_bad (k := k + 1) (by rw [← hn.out]; exact hlt) (by rw [hnx, hbad]), Bool.false_and]))
        have HNX := Lib.hid hnx
        clear hf hB hnx
        go_upto_region 7 with fail
        have j0 := cell_regrown d0
        have j1 := cell_regrown d1
        have KA := Lib.hid (fun d os => Calls.regrown_of (l10Name_below f.name (grow (redrawn wr d) os)))
        cases hnm : nmOk f.name with
        | false =>
          have HR := Lib.hid (HBAD.out (by unfold okF; rw [hnm]; rfl))
          rw [hnm] at KA
          clear hnm
          refine wp_region_quiet_below (by kernel_rfl) (by kernel_rfl) ?_
          repeat ((with_reducible refine wpQuiet_step (fun K hK => ?_)); go_simp; first | ((with_reducible refine hK _ ?_); clear hK K) | (rw [if_neg (by intro h; exact nomatch h)]; (with_reducible refine hK _ ?_); clear hK K) | (apply Exists.intro; (with_reducible refine ⟨fun _ => ?_, hK _ ?_⟩); (with_reducible exact KA.out _ _); clear hK K))
          with_reducible refine wpQuiet_nil ?_
          intro _ hw'
          obtain ⟨⟨dq, osq⟩, hw''⟩ := hw'
          subst hw''
          have g1 := grow_next hb (below_regrown wr dq osq)
          generalize hW2 : grow (redrawn wr dq) osq = W2 at *
          go_wp2_with fail
          go_returns
          exact ⟨by rw [HR.out]; rfl, g1⟩
        | true =>
          rw [hnm] at KA
          rcases Nat.eq_zero_or_pos k with hk0 | hk0
          · have HO1 : Hid (okFTo l (k + 1) = true) := Lib.hid (by
              rw [HNX.out]
              unfold okF
              rw [hnm, Bool.true_and]
              unfold prevK
              rw [if_pos hk0]
              exact decide_eq_true (nil_lt (by unfold Fl.key; rw [size_key]; exact (nmOk_iff.1 hnm).1)))
            have hdk : decide ((0 : Int) < (k : Int)) = false := decide_eq_false (by omega)
            have hdk2 : ¬ 0 < k := by omega
            clear hnm hk0
            refine wp_region_quiet_below (by kernel_rfl) (by kernel_rfl) ?_
            repeat ((with_reducible refine wpQuiet_step (fun K hK => ?_)); go_simp; first | ((with_reducible refine hK _ ?_); clear hK K) | (rw [if_neg (by intro h; exact nomatch h)]; (with_reducible refine hK _ ?_); clear hK K) | (apply Exists.intro; (with_reducible refine ⟨fun _ => ?_, hK _ ?_⟩); (with_reducible exact KA.out _ _); clear hK K))
            with_reducible refine wpQuiet_nil ?_
            intro _ hw'
            obtain ⟨⟨dq, osq⟩, hw''⟩ := hw'
            subst hw''
            have g1 := grow_next hb (below_regrown wr dq osq)
            have m1 := j1 dq osq
            generalize hW2 : grow (redrawn wr dq) osq = W2 at *
            clear hW2 j0 j1 KA
            go_wp2_with fail
            go_roundw
            case rel => exact ⟨k + 1, by omega, by go_num, by rw [HB.out]; rfl, HO1, g1⟩
            case measure => simp [RowKit.intOf]; omega
          · obtain ⟨u, hu⟩ := getG (l := l) (k := k - 1) (by rw [← hn.out]; omega)
            obtain ⟨b', off', e', _, y0, _⟩ := (h.next hb).fl hu
            simp only [Option.some.injEq, Addr.mk.injEq] at e'
            obtain ⟨rfl, rfl, _⟩ := e'
            have DU := cell_regrown y0
            have hki : ((k - 1 : Nat) : Int) = (k : Int) - 1 := by omega
            have hk1 : IntKind.i64.wrap ((k : Int) - 1) = ((k - 1 : Nat) : Int) := by rw [hki]; exact IntWalk.i64_in _ (by omega)
            have hk2 : decide ((0 : Int) < (k : Int)) = true := decide_eq_true (by omega)
            have hk3 : k - 1 < n := by omega
            have hpv : prevK l k = u.key := by
              have := prevK_succ hu
              rwa [Nat.sub_add_cancel hk0] at this
            have hle := leq_is f.name.toList u.name.toList
            obtain ⟨q1, hq1⟩ : ∃ q, Op.bytesLess f.name.toList u.name.toList = q := ⟨_, rfl⟩
            obtain ⟨q2, hq2⟩ : ∃ q, (f.name.toList == u.name.toList) = q := ⟨_, rfl⟩
            rw [hq1, hq2] at hle
            cases hd : decide (u.name.toList < f.name.toList) with
            | false =>
              have HR := Lib.hid (HBAD.out (by unfold okF; rw [hpv, show decide (u.key < f.key) = false from hd, Bool.and_false]))
              rw [hd] at hle
              clear hnm hu hpv hki y0 hd
              refine wp_region_quiet_below (by kernel_rfl) (by kernel_rfl) ?_
              repeat ((with_reducible refine wpQuiet_step (fun K hK => ?_)); go_simp; first | ((with_reducible refine hK _ ?_); clear hK K) | (rw [if_neg (by intro h; exact nomatch h)]; (with_reducible refine hK _ ?_); clear hK K) | (apply Exists.intro; (with_reducible refine ⟨fun _ => ?_, hK _ ?_⟩); (with_reducible exact KA.out _ _); clear hK K))
              with_reducible refine wpQuiet_nil ?_
              intro _ hw'
              obtain ⟨⟨dq, osq⟩, hw''⟩ := hw'
              subst hw''
              have g1 := grow_next hb (below_regrown wr dq osq)
              generalize hW2 : grow (redrawn wr dq) osq = W2 at *
              go_wp2_with fail
              go_returns
              exact ⟨by rw [HR.out]; rfl, g1⟩
            | true =>
              have HO1 : Hid (okFTo l (k + 1) = true) := Lib.hid (by
                rw [HNX.out]
                unfold okF
                rw [hnm, hpv, show decide (u.key < f.key) = true from hd]; rfl)
              rw [hd] at hle
              clear hnm hu hpv hki y0 hd
              refine wp_region_quiet_below (by kernel_rfl) (by kernel_rfl) ?_
              repeat ((with_reducible refine wpQuiet_step (fun K hK => ?_)); go_simp; first | ((with_reducible refine hK _ ?_); clear hK K) | (rw [if_neg (by intro h; exact nomatch h)]; (with_reducible refine hK _ ?_); clear hK K) | (apply Exists.intro; (with_reducible refine ⟨fun _ => ?_, hK _ ?_⟩); (with_reducible exact KA.out _ _); clear hK K))
              with_reducible refine wpQuiet_nil ?_
              intro _ hw'
              obtain ⟨⟨dq, osq⟩, hw''⟩ := hw'
              subst hw''
              have g1 := grow_next hb (below_regrown wr dq osq)
              have m1 := j1 dq osq
              generalize hW2 : grow (redrawn wr dq) osq = W2 at *
              clear hW2 j0 j1 KA DU
              go_wp2_with fail
              go_roundw
              case rel => exact ⟨k + 1, by omega, by go_num, by rw [HB.out]; rfl, HO1, g1⟩
              case measure => simp [RowKit.intOf]; omega
      · have e : k = n := by omega
        subst e
        have HE : Hid (filesOk l = decide (bytesF (l.take k) ≤ 200000)) := Lib.hid (by
          unfold filesOk roomV
          rw [← hn.out, HO.out, hn.out, List.take_length, ← hn.out, decide_eq_true h60]; rfl)
        obtain ⟨B, hB⟩ : ∃ B, bytesF (l.take k) = B := ⟨_, rfl⟩
        rw [hB] at HE
        rw [hB]
        clear hB hlt
        have HD : Hid (decide ((B : Int) ≤ 200000) = decide (B ≤ 200000)) := Lib.hid (by
          by_cases hq : B ≤ 200000
          · rw [decide_eq_true hq, decide_eq_true (by omega)]
          · rw [decide_eq_false hq, decide_eq_false (by omega)])
        go_wp2_with fail
        go_returns
        exact ⟨by rw [HE.out, ← HD.out]; rfl, hb⟩
  · have d60 : decide ((60 : Int) < (n : Int)) = true := decide_eq_true (by omega)
    have g60 : (60 : Int) < (n : Int) := by omega
    have HR : Hid (filesOk l = false) := Lib.hid (by unfold filesOk roomV; rw [← hn.out, decide_eq_false h60, Bool.false_and, Bool.and_false])
    go_wp2_with fail
    go_returns
    exact ⟨by rw [HR.out]; rfl, Below.refl _ _⟩
end Go.Proofs.Ytgmjdalfbebgbaa
