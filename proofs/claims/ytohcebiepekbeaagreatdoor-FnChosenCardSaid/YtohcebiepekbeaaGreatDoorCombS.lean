/- What is put together of peers: the reference's way. -/
import Derived.Test.YtohcebiepekbeaaGreatDoorCombM
namespace Go.Proofs.YtohcebiepekbeaaGreatDoor
open Go.ChangeShapes Go.WideShapes Go.ChangeAt Go.RowKit Go.Sort
set_option linter.unusedVariables false
set_option linter.unusedSimpArgs false

theorem weight_c (v : Pr) (h : v.s.ok = true) (w : World) :
    Calls Tryz.prog 73 #[.agg #[.int .i64 v.id, .int .i64 v.str, .int .i64 v.s.off, .int .i64 v.s.delay, .int .i64 v.s.disp, .int .i64 v.s.at_]] w fun e w' => e = .returned (.int .i64 (weightV v.s)) ∧ Below w.heap.size w w' := by
  obtain ⟨r, q, t, hr, r0, r1, hq, q0, q1, ht, t0, t1, ht1, ht2⟩ := weight_in h
  have HR := fun W => l3Reach_c v.s h W
  rw [hr] at HR
  have HR' := Lib.hid HR
  have g0 : Below w.heap.size w (w.alloc (.cells #[.int .i64 v.id, .int .i64 v.str, .int .i64 v.s.off, .int .i64 v.s.delay, .int .i64 v.s.disp, .int .i64 v.s.at_] 49)) := by go_grown
  rw [ht]
  clear HR hr ht h
  by_cases hle : 1 < 1000 - q
  · have e := ht2 hle
    subst e
    have d1 : decide (1000 - q < 1) = false := decide_eq_false (by omega)
    have d2 : ¬ 1000 - q < 1 := by omega
    have d3 : ¬ 1000 - q ≤ 1 := by omega
    clear ht1 ht2
    go_enter Tryz.func73, Tryz.ntmps73
    go_wp2_with fail
    refine (HR'.out _).mono ?_
    rintro e w1 ⟨rfl, hb1⟩
    go_wp2_with fail
    go_returns
    exact ⟨by congr 2 <;> omega, grow_next g0 hb1⟩
  · have e := ht1 (by omega)
    subst e
    have d1 : 1000 - q ≤ 1 := by omega
    clear ht1 ht2
    go_enter Tryz.func73, Tryz.ntmps73
    go_wp2_with fail
    refine (HR'.out _).mono ?_
    rintro e w1 ⟨rfl, hb1⟩
    go_wp2_with fail
    go_returns
    exact ⟨by congr 2 <;> omega, grow_next g0 hb1⟩

theorem floor_c (a b : Int) (hb : 0 < b) (hb1 : b ≤ 1000000) (h0 : -1000000000000000000 ≤ a) (h1 : a ≤ 1000000000000000000) (w : World) :
    Calls Tryz.prog 74 #[.int .i64 a, .int .i64 b] w fun e w' => e = .returned (.int .i64 (a / b)) ∧ Below w.heap.size w w' := by
  obtain ⟨q, m, hq, hm, hB, hM, hc⟩ := floor_cases a b hb
  have hz : ¬ b = 0 := by omega
  have hz' : (b == 0) = false := by simpa using hz
  have hbn : ¬ b < 0 := by omega
  have hbn' : decide (b < 0) = false := decide_eq_false hbn
  have hw : IntKind.i64.wrap q = q := IntWalk.i64_in _ (by rcases hB with h | h <;> omega)
  have hw1 : IntKind.i64.wrap (q - 1) = q - 1 := IntWalk.i64_in _ (by rcases hB with h | h <;> omega)
  have hwm : IntKind.i64.wrap m = m := IntWalk.i64_in _ (by omega)
  clear hB hM
  rcases hc with ⟨rfl, he⟩ | ⟨hm0, ha, he⟩ | ⟨hm0, ha, he⟩
  · rw [he]
    clear he
    go_enter Tryz.func74, Tryz.ntmps74
    go_wp2
    go_returns
    exact ⟨by congr 2, by go_grown⟩
  · rw [he]
    clear he
    have hd : decide (a < 0) = true := decide_eq_true ha
    have hmz : (m == 0) = false := by simp; omega
    have hmz' : ¬ m = 0 := by omega
    go_enter Tryz.func74, Tryz.ntmps74
    go_wp2
    go_returns
    exact ⟨by congr 2, by go_grown⟩
  · rw [he]
    clear he
    have hd : decide (a < 0) = false := decide_eq_false (by omega)
    have hmz : (m == 0) = false := by simp; omega
    have hmz' : ¬ m = 0 := by omega
    go_enter Tryz.func74, Tryz.ntmps74
    go_wp2
    go_returns
    exact ⟨by congr 2, by go_grown⟩

set_option maxHeartbeats 2000000 in
theorem combined_spec (l : List Pr) (hA : AllSm l) (n : Nat) (hn : Hid (n = l.length)) (hp : 0 < n) (hm : n ≤ 20) (x : Option Addr) (cap : Nat) (w : World) (h : Prs w.heap.size w x l) :
    Calls Tryz.prog 42 #[.slice x n cap] w fun e w' => e = .returned (.int .i64 (combV l)) ∧ Below w.heap.size w w' := by
  go_enter Tryz.func42, Tryz.ntmps42
  go_wp2
  go_loopw [3, 4, 5] (fun s c i wr => ∃ k : Nat, k ≤ n ∧ i = .int .i64 k ∧ s = .int .i64 (sumW (l.take k)) ∧ c = .int .i64 (cntW (l.take k)) ∧ Below w.heap.size w wr) (fun _ _ i _ => n - (intOf i).toNat)
  case atStart => exact ⟨0, Nat.zero_le _, rfl, rfl, rfl, Below.refl _ _⟩
  case round =>
    obtain ⟨k, hk, rfl, hs, hc, hb⟩ := hrel
    have hlen : (l.take k).length = k := by have := hn.out; simp; omega
    obtain ⟨s0, s1⟩ := sumW_in _ (hA.take k)
    obtain ⟨c0', c1'⟩ := cntW_in _ (hA.take k)
    rw [hlen] at s0 s1 c0' c1'
    clear hlen
    by_cases hlt : k < n
    · obtain ⟨v, hv⟩ := getQ (l := l) (k := k) (by rw [← hn.out]; exact hlt)
      obtain ⟨b, off, rfl, hbB, c0, c1, c2, c3, c4, c5⟩ := (h.next hb).at_ hv
      have HS := sumW_next hv
      have HC := cntW_next hv
      have hok := hA.at_ hv
      obtain ⟨p0, p1⟩ := part_in hok
      obtain ⟨w0, w1⟩ := weight_bounds hok
      have hW := fun W => weight_c v hok W
      obtain ⟨t, ht⟩ : ∃ t, weightV v.s = t := ⟨_, rfl⟩
      rw [ht] at HS HC p0 p1 w0 w1 hW
      obtain ⟨p, hpp⟩ : ∃ p, t * v.s.off = p := ⟨_, rfl⟩
      rw [hpp] at HS p0 p1
      obtain ⟨s, hs'⟩ : ∃ s, sumW (l.take k) = s := ⟨_, rfl⟩
      obtain ⟨c, hc'⟩ : ∃ c, cntW (l.take k) = c := ⟨_, rfl⟩
      rw [hs'] at HS s0 s1 hs
      rw [hc'] at HC c0' c1' hc
      subst hs hc
      have HW := Lib.hid (fun d os => Calls.regrown_of (hW (grow (redrawn wr d) os)))
      have hw1 : IntKind.i64.wrap (t * v.s.off) = p := by rw [hpp]; exact IntWalk.i64_in _ (by omega)
      have hw2 : IntKind.i64.wrap (s + p) = s + p := IntWalk.i64_in _ (by omega)
      have hw3 : IntKind.i64.wrap (c + t) = c + t := IntWalk.i64_in _ (by omega)
      have HS' := Lib.hid HS
      have HC' := Lib.hid HC
      have H5 := Lib.hid hW
      clear HS HC hW hv ht hpp hs' hc' hok s0 s1 c0' c1' p0 p1 w0 w1
      have k0 := cell_regrown c0
      have k1 := cell_regrown c1
      have k2 := cell_regrown c2
      have k3 := cell_regrown c3
      have k4 := cell_regrown c4
      have k5 := cell_regrown c5
      go_wp2_with fail
      refine wp_region_quiet_below (by kernel_rfl) (by kernel_rfl) ?_
      repeat ((with_reducible refine wpQuiet_step (fun K hK => ?_)); go_simp; first | ((with_reducible refine hK _ ?_); clear hK K) | (rw [if_neg (by intro h; exact nomatch h)]; (with_reducible refine hK _ ?_); clear hK K) | (apply Exists.intro; (with_reducible refine ⟨fun _ => ?_, hK _ ?_⟩); (with_reducible exact HW.out _ _); clear hK K))
      with_reducible refine wpQuiet_nil ?_
      intro _ hw'
      obtain ⟨⟨dq, osq⟩, hw''⟩ := hw'
      subst hw''
      have g1 := grow_next hb (below_regrown wr dq osq)
      go_wp2_with fail
      refine (H5.out _).mono ?_
      rintro e w2 ⟨rfl, hb2⟩
      have g2 := grow_next g1 hb2
      go_wp2_with fail
      go_roundw
      case rel => exact ⟨k + 1, by omega, by go_num, by rw [HS'.out], by rw [HC'.out], g2⟩
      case measure => simp [intOf]; omega
    · have e : k = n := by omega
      have e1 : l.take k = l := by rw [e, hn.out, List.take_length]
      rw [e1] at hs hc s0 s1 c0' c1'
      have hF := fun W => floor_c (sumW l) (cntW l) (by omega) (by omega) (by omega) (by omega) W
      subst hs hc
      have HF := Lib.hid hF
      clear hF s0 s1 c0' c1' e e1
      go_wp2_with fail
      refine (HF.out _).mono ?_
      rintro e w1 ⟨rfl, hb1⟩
      go_wp2_with fail
      go_returns
      exact ⟨rfl, grow_next hb hb1⟩
end Go.Proofs.YtohcebiepekbeaaGreatDoor
