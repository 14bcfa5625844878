/- What is put together of peers: the program's way. -/
import Derived.Test.YtohcebiepekbeaaGreatDoorCombM
import Derived.Test.YtohcebiepekbeaaGreatDoorPtrs
namespace Go.Proofs.YtohcebiepekbeaaGreatDoor
open Go.ChangeShapes Go.WideShapes Go.ChangeAt Go.RowKit Go.Sort
set_option linter.unusedVariables false
set_option linter.unusedSimpArgs false

theorem own_ptrs {w : World} {base n b off : Nat} {v : Value} {l : List Pr} (h : w.ownsRow base 75 1 v n (ptrsTo b off n)) (hp : Prs w.heap.size w (some ⟨b, off, none⟩) l) (hn : n = l.length) :
    ∃ y cap, v = .slice y n cap ∧ PtrPrs w.heap.size w y l := by
  have hc := fun g (hg : v.ownBlock = some g) => h.cells hg
  have hlt := h.lt
  rcases h.2 with ⟨rfl, rfl⟩ | ⟨g, cap, cur, rfl, _⟩
  · exact ⟨_, _, rfl, .inl (by
      cases l with
      | nil => rfl
      | cons a l => simp at hn)⟩
  · refine ⟨_, _, rfl, .inr ⟨g, 0, rfl, (hlt g rfl).2, fun i u hi => ?_⟩⟩
    have hil : i < n := by
      have := (List.getElem?_eq_some_iff.1 hi).1
      omega
    have := hc g rfl i _ (ptrsTo_at hil)
    refine ⟨_, ?_, hp.to_at hi⟩
    have hadd : (⟨g, 0, none⟩ : Addr).add i = ⟨g, 0 + i, none⟩ := by unfold Addr.add; split <;> simp_all
    rw [hadd] at this
    exact this
theorem times_c (v : Pr) (h : v.s.ok = true) (a : Addr) (w : World) (hp : PrAt w.heap.size w a v) {ao an au : Addr} (L : Ld w ao an au) :
    Calls Tryz.prog 80 #[.pointer (some a)] w fun e w' => e = .returned (.int .i64 (weightV v.s)) ∧ Below w.heap.size w w' := by
  obtain ⟨b, off, rfl, hlt, c0, c1, c2, c3, c4, c5⟩ := hp
  obtain ⟨r, q, t, hr, r0, r1, hq, q0, q1, ht, t0, t1, ht1, ht2⟩ := weight_in h
  have HR := reach_impl v.s w L
  rw [(reachV_bounds v.s h).1, hr] at HR
  have HR' := Lib.hid HR
  rw [ht]
  clear HR hr ht h L
  by_cases hle : 1 < 1000 - q
  · have e := ht2 hle
    subst e
    have d1 : decide (1000 - q < 1) = false := decide_eq_false (by omega)
    have d2 : ¬ 1000 - q < 1 := by omega
    have d3 : ¬ 1000 - q ≤ 1 := by omega
    clear ht1 ht2
    go_enter Tryz.func80, Tryz.ntmps80
    go_wp2_with fail
    refine (HR'.out).mono ?_
    rintro e w1 ⟨rfl, hb1⟩
    go_wp2_with fail
    go_returns
    exact ⟨by congr 2 <;> omega, hb1⟩
  · have e := ht1 (by omega)
    subst e
    have d1 : 1000 - q ≤ 1 := by omega
    clear ht1 ht2
    go_enter Tryz.func80, Tryz.ntmps80
    go_wp2_with fail
    refine (HR'.out).mono ?_
    rintro e w1 ⟨rfl, hb1⟩
    go_wp2_with fail
    all_goals (go_returns; first | exact ⟨rfl, hb1⟩ | exact ⟨by (rw [show (1000 - q : Int) = 1 by omega]) <;> rfl, hb1⟩)

theorem down_c (a b : Int) (hb : 0 < b) (hb1 : b ≤ 1000000) (h0 : -1000000000000000000 ≤ a) (h1 : a ≤ 1000000000000000000) (w : World) :
    Calls Tryz.prog 81 #[.int .i64 a, .int .i64 b] w fun e w' => e = .returned (.int .i64 (a / b)) ∧ Below w.heap.size w w' := by
  obtain ⟨q, m, hq, hm, hB, hM, hc⟩ := floor_cases a b hb
  have hz : ¬ b = 0 := by omega
  have hw : IntKind.i64.wrap q = q := IntWalk.i64_in _ (by rcases hB with h | h <;> omega)
  have hw1 : IntKind.i64.wrap (q - 1) = q - 1 := IntWalk.i64_in _ (by rcases hB with h | h <;> omega)
  have hwm : IntKind.i64.wrap m = m := IntWalk.i64_in _ (by omega)
  clear hB hM
  rcases hc with ⟨rfl, he⟩ | ⟨hm0, ha, he⟩ | ⟨hm0, ha, he⟩
  · rw [he]
    clear he
    go_enter Tryz.func81, Tryz.ntmps81
    go_wp2
    go_returns
    exact ⟨by congr 2, by go_grown⟩
  · rw [he]
    clear he
    go_enter Tryz.func81, Tryz.ntmps81
    go_wp2
    go_returns
    exact ⟨by congr 2, by go_grown⟩
  · rw [he]
    clear he
    have hmn : ¬ m < 0 := by omega
    go_enter Tryz.func81, Tryz.ntmps81
    go_wp2
    go_returns
    exact ⟨by congr 2, by go_grown⟩

set_option maxHeartbeats 2000000 in
theorem combined_impl (l : List Pr) (hA : AllSm l) (n : Nat) (hn : Hid (n = l.length)) (hp : 0 < n) (hm : n ≤ 20) (y : Option Addr) (cap : Nat) (w : World) (h : PtrPrs w.heap.size w y l) {ao an au : Addr} (L : Ld w ao an au) :
    Calls Tryz.prog 48 #[.slice y n cap] w fun e w' => e = .returned (.int .i64 (combV l)) ∧ Below w.heap.size w w' := by
  go_enter Tryz.func48, Tryz.ntmps48
  go_wp2
  go_loopw [3, 4, 10] (fun s c i wr => ∃ k : Nat, k ≤ n ∧ i = .int .i64 k ∧ s = .int .i64 (sumW (l.take k)) ∧ c = .int .i64 (cntW (l.take k)) ∧ Below w.heap.size w wr) (fun _ _ i _ => n - (intOf i).toNat)
  case atStart => exact ⟨0, Nat.zero_le _, rfl, rfl, rfl, Below.refl _ _⟩
  case round =>
    obtain ⟨k, hk, rfl, hs, hc, hb⟩ := hrel
    have hlen : (l.take k).length = k := by have := hn.out; simp; omega
    obtain ⟨s0, s1⟩ := sumW_in _ (hA.take k)
    obtain ⟨c0', c1'⟩ := cntW_in _ (hA.take k)
    rw [hlen] at s0 s1 c0' c1'
    clear hlen
    by_cases hlt : k < n
    · obtain ⟨v, hv⟩ := getQ (l := l) (k := k) (by rw [← hn.out]; exact hlt)
      obtain ⟨g, o, a, rfl, hgB, ca, hpa⟩ := (h.next hb).at_ hv
      have HS := sumW_next hv
      have HC := cntW_next hv
      have hok := hA.at_ hv
      obtain ⟨p0, p1⟩ := part_in hok
      obtain ⟨w0, w1⟩ := weight_bounds hok
      have hW := times_c v hok a wr hpa (L.next hb)
      obtain ⟨t, ht⟩ : ∃ t, weightV v.s = t := ⟨_, rfl⟩
      rw [ht] at HS HC p0 p1 w0 w1 hW
      obtain ⟨p, hpp⟩ : ∃ p, v.s.off * t = p := ⟨_, rfl⟩
      rw [Int.mul_comm t, hpp] at HS p0 p1
      obtain ⟨s, hs'⟩ : ∃ s, sumW (l.take k) = s := ⟨_, rfl⟩
      obtain ⟨c, hc'⟩ : ∃ c, cntW (l.take k) = c := ⟨_, rfl⟩
      rw [hs'] at HS s0 s1 hs
      rw [hc'] at HC c0' c1' hc
      subst hs hc
      have hw1 : IntKind.i64.wrap (v.s.off * t) = p := by rw [hpp]; exact IntWalk.i64_in _ (by omega)
      have hw2 : IntKind.i64.wrap (s + p) = s + p := IntWalk.i64_in _ (by omega)
      have hw3 : IntKind.i64.wrap (c + t) = c + t := IntWalk.i64_in _ (by omega)
      have HS' := Lib.hid HS
      have HC' := Lib.hid HC
      have H5 := Lib.hid hW
      have HPA := Lib.hid hpa
      clear HS HC hW hv ht hpp hs' hc' hok s0 s1 c0' c1' p0 p1 w0 w1 hpa
      go_wp2_with fail
      refine (H5.out).mono ?_
      rintro e w2 ⟨rfl, hb2⟩
      have g2 := grow_next hb hb2
      obtain ⟨b, off, rfl, hbB, c0, c1, c2, c3, c4, c5⟩ := HPA.out.next hb2
      go_wp2_with fail
      go_roundw
      case rel => exact ⟨k + 1, by omega, by go_num, by rw [HS'.out], by rw [HC'.out], g2⟩
      case measure => simp [intOf]; omega
    · have e : k = n := by omega
      have e1 : l.take k = l := by rw [e, hn.out, List.take_length]
      rw [e1] at hs hc s0 s1 c0' c1'
      have hF := fun W => down_c (sumW l) (cntW l) (by omega) (by omega) (by omega) (by omega) W
      subst hs hc
      have HF := Lib.hid hF
      clear hF s0 s1 c0' c1' e e1
      go_wp2_with fail
      refine (HF.out _).mono ?_
      rintro e w1 ⟨rfl, hb1⟩
      go_wp2_with fail
      go_returns
      exact ⟨rfl, grow_next hb hb1⟩
end Go.Proofs.YtohcebiepekbeaaGreatDoor
