/- A filter that is given more than eight has the last eight; whatever was ahead makes no difference: at all drawn filters. -/
import Derived.Test.YthgamidodkkpbaaDoorSameSm
import Derived.Test.YthgamidodkkpbaaDoorFilDraws
import Derived.Test.YthgamidodkkpbaaDoorTie
import Derived.Test.YthgamidodkkpbaaDoorCards
namespace Go.Proofs.YthgamidodkkpbaaDoor
open Go.ChangeShapes Go.WideShapes Go.ChangeAt Go.RowKit Go.Sort
set_option linter.unusedVariables false
set_option linter.unusedSimpArgs false

/-- A slice that holds what is left of these and the first k of the eight. -/
def Has8 (w : World) (v : Value) (l : List Sm) (at_ : Int) (k : Nat) : Prop :=
  ∃ x n c, v = .slice x n c ∧ Hid (n = (behind8 l at_ k).length) ∧ n ≤ 8 ∧ Sms w.heap.size w x (behind8 l at_ k) ∧ Hid (okSms (behind8 l at_ k) = true)
theorem Has8.next {w w' : World} {v : Value} {l : List Sm} {at_ : Int} {k : Nat} (h : Has8 w v l at_ k) (hb : Below w.heap.size w w') : Has8 w' v l at_ k := by
  obtain ⟨x, n, c, e, hn, h8, hs, ho⟩ := h
  exact ⟨x, n, c, e, hn, h8, hs.next hb, ho⟩
set_option maxHeartbeats 2000000 in
theorem add8_c {l : List Sm} (ho : okSms l = true) {at_ : Int} (h0 : 0 ≤ at_) (hat : ∀ v, l.getLast? = some v → v.at_ = at_) (k : Nat) (hk : k < 8) (z : Int) (hz : z = (k : Int) + 1) (x : Option Addr) (n c : Nat) (W : World)
    (h : Has8 W (.slice x n c) l at_ k) {ao an au : Addr} (L : Ld W ao an au) (b : Bool) (hb : decide (at_ + z ≤ 4000000000000000) = b) :
    Calls Tryd.prog 9 #[.slice x n c, .agg #[.int .i64 z, .int .i64 (9 - z), .int .i64 0, .int .i64 (at_ + z)]] W fun e w' => ∃ v, e = .returned (.tuple #[v, .bool b]) ∧ (b = true → Has8 w' v l at_ (k + 1)) ∧ Below W.heap.size W w' := by
  obtain ⟨x', n', c', e, hn, h8, hs, hA⟩ := h
  simp only [Value.slice.injEq] at e
  obtain ⟨rfl, rfl, rfl⟩ := e
  have hl : l.length ≤ 8 := by
    have := ho
    unfold okSms at this
    rw [Bool.and_eq_true, decide_eq_true_eq] at this
    exact this.2
  have es : (⟨z, 9 - z, 0, at_ + z⟩ : Sm) = nth8 at_ (k + 1) := by
    have hzk : z = ((k + 1 : Nat) : Int) := by omega
    rw [hzk]
    rfl
  have ht := behind8_takes ho h0 hat k hk hA.out
  have hdz : decide (at_ + ((k + 1 : Nat) : Int) ≤ 4000000000000000) = b := by rw [← hb, hz]; rfl
  rw [hdz] at ht
  have hI := @filterAdd_impl (behind8 l at_ k) ⟨z, 9 - z, 0, at_ + z⟩ n hn (by unfold maxLen; omega) x c W hs ao an au L
  have ht' : addOk (behind8 l at_ k) ⟨z, 9 - z, 0, at_ + z⟩ = b := by rw [es]; exact ht
  rw [ht'] at hI
  refine hI.mono ?_
  rintro e w' ⟨v, rfl, hrow, hb'⟩
  refine ⟨v, rfl, fun hbt => ?_, hb'⟩
  have hR : addR (behind8 l at_ k) ⟨z, 9 - z, 0, at_ + z⟩ = behind8 l at_ (k + 1) := by rw [es, addR_yes (ht.trans hbt), behind8_next hl at_ k hk]
  rw [hR] at hrow
  obtain ⟨y, cp, rfl, R⟩ := smRow_form hrow rfl
  have hle : at_ + ((k + 1 : Nat) : Int) ≤ 4000000000000000 := of_decide_eq_true (hdz.trans hbt)
  have hok := behind8_ok ho h0 hat k hk hA.out hle
  exact ⟨y, _, cp, rfl, Lib.hid rfl, (okSms_all hok).2, R.sms, Lib.hid hok⟩
theorem add8z_c {l : List Sm} (ho : okSms l = true) (hat : ∀ v, l.getLast? = some v → v.at_ = 0) (k : Nat) (hk : k < 8) (z : Int) (hz : z = (k : Int) + 1) (x : Option Addr) (n c : Nat) (W : World)
    (h : Has8 W (.slice x n c) l 0 k) {ao an au : Addr} (L : Ld W ao an au) (b : Bool) (hb : decide (z ≤ 4000000000000000) = b) :
    Calls Tryd.prog 9 #[.slice x n c, .agg #[.int .i64 z, .int .i64 (9 - z), .int .i64 0, .int .i64 z]] W fun e w' => ∃ v, e = .returned (.tuple #[v, .bool b]) ∧ (b = true → Has8 w' v l 0 (k + 1)) ∧ Below W.heap.size W w' := by
  have := add8_c ho (Int.le_refl 0) hat k hk z hz x n c W h L b (by rw [Int.zero_add]; exact hb)
  rw [Int.zero_add] at this
  exact this
theorem nil_ok : okSms [] = true := rfl
set_option maxRecDepth 100000 in
set_option maxHeartbeats 4000000 in
theorem fl_walk (w : World) {ao an au : Addr} (L : Ld w ao an au) (x : Option Addr) (n cap z : Nat) (hz : z = n ∧ Code w.heap.size w (.slice x n cap) n) :
    Calls Tryd.prog 6 #[.slice x n cap] w fun e w' => e = .returned (.bool true) ∧ Below w.heap.size w w' := by
  obtain ⟨_, hc⟩ := hz
  by_cases hbig : n ≤ 1048576
  · go_enter Tryd.func6, Tryd.ntmps6
    go_wp2_with (go_at_call 7; go_in)
    refine (drawFilterAdd_c x n cap _ hc hbig).mono ?_
    rintro e w1 ⟨g, off, c, m, l, s, rfl, hm, hm8, hmc, hcm, _, hS1, hb1⟩
    have HM : Hid (m = l.length) := Lib.hid hm
    have hmm : m ≤ maxLen := by unfold maxLen; omega
    have b1 := hb1.alloc hb1.size (.cells #[.int .i64 s.off, .int .i64 s.delay, .int .i64 s.disp, .int .i64 s.at_] 26)
    have S1 := hS1.next (below_new w1 (.cells #[.int .i64 s.off, .int .i64 s.delay, .int .i64 s.disp, .int .i64 s.at_] 26))
    obtain ⟨o, ho⟩ : ∃ o, okSms l = o := ⟨_, rfl⟩
    have HI := Lib.hid (fun (W : World) h {ao an au} L => (show Calls Tryd.prog 13 #[.slice (some ⟨g, off, none⟩) m c] W fun e w' => e = .returned (.bool o) ∧ Below W.heap.size W w' from ho ▸ @filterOk_impl l m HM hmm (some ⟨g, off, none⟩) c W h ao an au L))
    have HF := Lib.hid (fun (W : World) h => (show Calls Tryd.prog 14 #[.slice (some ⟨g, off, none⟩) m c] W fun e w' => e = .returned (.bool o) ∧ Below W.heap.size W w' from ho ▸ filterOk_spec l m HM hmm (some ⟨g, off, none⟩) c W h))
    have hoo : (o != o) = false := by cases o <;> rfl
    have hoe : (o == o) = true := by cases o <;> rfl
    have HO := Lib.hid ho
    generalize hW1 : w1.alloc (.cells #[.int .i64 s.off, .int .i64 s.delay, .int .i64 s.disp, .int .i64 s.at_] 26) = W1 at *
    clear hm hS1 ho
    go_wp2_with fail
    refine (HI.out _ S1 (L.next b1)).mono ?_
    rintro e w2 ⟨rfl, hb2⟩
    have b2 := grow_next b1 hb2
    have S2 := S1.next hb2
    clear S1
    go_wp2_with fail
    refine (HF.out _ S2).mono ?_
    rintro e w3 ⟨rfl, hb3⟩
    have b3 := grow_next b2 hb3
    have S3 := S2.next hb3
    clear S2
    go_wp2_with fail
    refine (HF.out _ S3).mono ?_
    rintro e w4 ⟨rfl, hb4⟩
    have b4 := grow_next b3 hb4
    have S4 := S3.next hb4
    clear S3 hW1
    cases o with
    | false =>
      go_wp2_with fail
      refine (HI.out _ S4 (L.next b4)).mono ?_
      rintro e w5 ⟨rfl, hb5⟩
      have S5 := S4.next hb5
      go_wp2_with fail
      refine (HF.out _ S5).mono ?_
      rintro e w6 ⟨rfl, hb6⟩
      go_wp2_with fail
      go_returns
      exact ⟨rfl, grow_next (grow_next b4 hb5) hb6⟩
    | true =>
      clear HI HF
      have key : ∀ (at_ : Int), 0 ≤ at_ → at_ ≤ 4000000000000000 → (∀ v, l.getLast? = some v → v.at_ = at_) → Hid (0 ≤ at_ ∧ at_ ≤ 4000000000000000 ∧ ∀ v, l.getLast? = some v → v.at_ = at_) := fun at_ h0 h1 h2 => Lib.hid ⟨h0, h1, h2⟩
      have HB := Lib.hid (show Has8 w4 (.slice (some ⟨g, off, none⟩) m c) l 0 0 ∨ True from .inr trivial)
      have hA0 : ∀ at_, Has8 w4 (.slice (some ⟨g, off, none⟩) m c) l at_ 0 := fun at_ => ⟨_, _, _, rfl, Lib.hid (by rw [behind8_zero (by rw [← HM.out]; exact hm8)]; exact HM.out), hm8, by rw [behind8_zero (by rw [← HM.out]; exact hm8)]; exact S4, Lib.hid (by rw [behind8_zero (by rw [← HM.out]; exact hm8)]; exact HO.out)⟩
      have hB0 : ∀ (W : World) at_ y cc, Has8 W (.slice y 0 cc) [] at_ 0 := fun W at_ y cc => ⟨_, _, _, rfl, Lib.hid rfl, Nat.zero_le _, .inl rfl, Lib.hid rfl⟩
      have HA0 := Lib.hid hA0
      have HB0 := Lib.hid hB0
      have bE : ∀ W : World, Below W.heap.size W (W.alloc (.cells #[] 26)) := fun W => below_new _ _
      clear hA0 hB0 HB key
      have rest : ∀ (at_ : Int), Hid (0 ≤ at_ ∧ at_ ≤ 4000000000000000 ∧ ∀ v, l.getLast? = some v → v.at_ = at_) → True := fun _ _ => trivial
      rcases Nat.eq_zero_or_pos m with hm0 | hm0
      · have hln : l = [] := List.length_eq_zero_iff.1 (by rw [← HM.out]; exact hm0)
        have hd : decide ((0 : Int) < (m : Int)) = false := decide_eq_false (by omega)
        have hd2 : ¬ 0 < m := by omega
        have HT : Hid (∀ v, l.getLast? = some v → v.at_ = 0) := Lib.hid (fun v hv => by rw [hln] at hv; cases hv)
        clear hln hm0
        go_wp2_with fail
        have HAT : Hid ((0 : Int) ≤ 0 ∧ (0 : Int) ≤ 4000000000000000) := Lib.hid (by omega)
        have b5 := grow_next b4 (bE w4)
        go_loopw [6, 7, 8] (fun a b i wr => ∃ (k : Nat) (q : Int), k ≤ 8 ∧ Hid (q = (k : Int) + 1) ∧ i = .int .i64 q ∧ Hid (Has8 wr a l 0 k) ∧ Hid (Has8 wr b [] 0 k) ∧ Below w.heap.size w wr) (fun _ _ i _ => 9 - (intOf i).toNat)
        case atStart => exact ⟨0, 1, Nat.zero_le _, Lib.hid rfl, rfl, Lib.hid ((HA0.out 0).next (bE w4)), Lib.hid (HB0.out _ 0 _ _), b5⟩
        case round =>
          obtain ⟨k, q, hk, HQ, rfl, HA, HB, hb⟩ := hrel
          by_cases hlt : k < 8
          · have hd1 : decide (q ≤ 8) = true := decide_eq_true (by have := HQ.out; omega)
            have q1 : 1 ≤ q := by have := HQ.out; omega
            have q8 : q ≤ 8 := by have := HQ.out; omega
            have hw1 : IntKind.i64.wrap (9 - q) = 9 - q := IntWalk.i64_in _ (by omega)
            have hw2 : IntKind.i64.wrap q = q := IntWalk.i64_in _ (by have := HAT.out; omega)
            have hw3 : IntKind.i64.wrap (q + 1) = q + 1 := IntWalk.i64_in _ (by omega)
            have N1 := blk_new wr (.cells #[.int .i64 q, .int .i64 (9 - q), .int .i64 0, .int .i64 q] 26)
            have B1 : Below wr.heap.size wr (wr.alloc (.cells #[.int .i64 q, .int .i64 (9 - q), .int .i64 0, .int .i64 q] 26)) := below_new _ _
            have b6 := grow_next hb B1
            have A6 := HA.out.next B1
            have B6 := HB.out.next B1
            obtain ⟨b, hbb⟩ : ∃ b, decide (q ≤ 4000000000000000) = b := ⟨_, rfl⟩
            have A7 := A6
            have B7 := B6
            obtain ⟨xa, na, ca, rfl, _⟩ := A7
            obtain ⟨xb, nb, cb, rfl, _⟩ := B7
            have HFA := Lib.hid (fun W h L => add8z_c HO.out HT.out k hlt q HQ.out xa na ca W h (ao := ao) (an := an) (au := au) L b hbb)
            have HFB := Lib.hid (fun W h L => add8z_c nil_ok (fun v h => by cases h) k hlt q HQ.out xb nb cb W h (ao := ao) (an := an) (au := au) L b hbb)
            have HBB := Lib.hid hbb
            generalize hW6 : wr.alloc (.cells #[.int .i64 q, .int .i64 (9 - q), .int .i64 0, .int .i64 q] 26) = W6 at *
            obtain ⟨x0, x1, x2, x3⟩ := sample_cells (q := ⟨q, 9 - q, 0, q⟩) N1
            dsimp only at x0 x1 x2 x3
            clear HA HB hlt hbb
            go_wp2_with fail
            with_reducible refine (HFA.out _ A6 (L.next b6)).mono ?_
            rintro e w7 ⟨v7, rfl, H7, hb7⟩
            have b7 := grow_next b6 hb7
            have N7 := blk_next hb7 N1
            obtain ⟨x0, x1, x2, x3⟩ := sample_cells (q := ⟨q, 9 - q, 0, q⟩) N7
            dsimp only at x0 x1 x2 x3
            have H7' := Lib.hid H7
            have B8 := B6.next hb7
            clear A6 B6 H7 hW6
            go_wp2_with fail
            with_reducible refine (HFB.out _ B8 (L.next b7)).mono ?_
            rintro e w8 ⟨v8, rfl, H8, hb8⟩
            have b8 := grow_next b7 hb8
            have H8' := Lib.hid H8
            clear B8 H8
            cases b with
            | true =>
              have A9 := Lib.hid ((H7'.out rfl).next hb8)
              have B9 := Lib.hid (H8'.out rfl)
              clear H7' H8'
              go_wp2_with fail
              go_roundw
              case rel => exact ⟨k + 1, q + 1, by have := HQ.out; omega, Lib.hid (by have := HQ.out; omega), rfl, A9, B9, b8⟩
              case measure => simp [intOf]; omega
            | false =>
              have hgt : decide (4000000000000000 < q) = true := decide_eq_true (by have := of_decide_eq_false HBB.out; omega)
              clear H7' H8'
              go_wp2_with fail
              go_returns
              exact ⟨rfl, b8⟩
          · have HE := Lib.hid (show k = 8 by omega)
            have hd1 : decide (q ≤ 8) = false := decide_eq_false (by have := HQ.out; omega)
            have hA := HA.out
            have hB := HB.out
            rw [HE.out] at hA hB
            obtain ⟨xa, na, ca, rfl, hna, _, hsa, hoa⟩ := hA
            obtain ⟨xb, nb, cb, rfl, hnb, _, hsb, hob⟩ := hB
            rw [behind8_eight] at hna hsa hoa hnb hsb hob
            obtain rfl : na = 8 := by rw [hna.out, firsts_len]
            obtain rfl : nb = 8 := by rw [hnb.out, firsts_len]
            have HBS := Lib.hid (fun (W : World) h {ao an au} L => @bestOf_impl (firsts 0 8) 8 hna (by unfold maxLen; omega) xa ca W h ao an au L)
            have hbo : bstOk (firsts 0 8) = true := by unfold bstOk; rw [hoa.out, firsts_len]; rfl
            have hbv : bstV (firsts 0 8) = bestV (firsts 0 8) := by unfold bstV; rw [hbo]; rfl
            obtain ⟨p, hp⟩ : ∃ p, bestV (firsts 0 8) = p := ⟨_, rfl⟩
            have hpa : p.at_ = 8 := by rw [← hp]; exact firsts_best 0
            have hB2 := HBS.out
            rw [hbo, hbv, hp] at hB2
            have HB2 := Lib.hid hB2
            have HSM := Lib.hid (fun W h h' => sameSamples_c (firsts 0 8) 8 hna (by unfold maxLen; omega) xa xb ca cb W h h')
            have HPA := Lib.hid hpa
            have hw2 : IntKind.i64.wrap (8) = 8 := IntWalk.i64_in _ (by have := HAT.out; omega)
            have hpe : (p.at_ == 8) = true := by rw [hpa]; rfl
            clear HA HB hlt hna hnb hoa hob HBS hbo hbv hp hpa hB2
            go_wp2_with fail
            refine (HB2.out _ hsa (L.next hb)).mono ?_
            rintro e w6 ⟨rfl, hb6⟩
            have b6' := grow_next hb hb6
            have b6 := b6'.alloc b6'.size (.cells #[.int .i64 p.off, .int .i64 p.delay, .int .i64 p.disp, .int .i64 p.at_] 26)
            have bq := hb6.alloc hb6.size (.cells #[.int .i64 p.off, .int .i64 p.delay, .int .i64 p.disp, .int .i64 p.at_] 26)
            have sa6 := hsa.next bq
            have sb6 := hsb.next bq
            have Q6 := blk_new w6 (.cells #[.int .i64 p.off, .int .i64 p.delay, .int .i64 p.disp, .int .i64 p.at_] 26)
            generalize hW6 : w6.alloc (.cells #[.int .i64 p.off, .int .i64 p.delay, .int .i64 p.disp, .int .i64 p.at_] 26) = W6 at *
            clear hsa hsb
            go_wp2_with fail
            refine (HSM.out _ sa6 sb6).mono ?_
            rintro e w7 ⟨rfl, hb7⟩
            obtain ⟨x0, x1, x2, x3⟩ := sample_cells (blk_next hb7 Q6)
            go_wp2_with fail
            go_returns
            exact ⟨rfl, grow_next b6 hb7⟩
      · obtain ⟨j, rfl⟩ : ∃ j, m = j + 1 := ⟨m - 1, by omega⟩
        obtain ⟨u, hu⟩ := getS (l := l) (k := j) (by rw [← HM.out]; omega)
        obtain ⟨b', o', e', _, _, _, _, c3⟩ := S4.at_ hu
        simp only [Option.some.injEq, Addr.mk.injEq] at e'
        obtain ⟨rfl, rfl, _⟩ := e'
        have hk1 : IntKind.i64.wrap (((j + 1 : Nat) : Int) - 1) = (j : Int) := by
          rw [show ((j + 1 : Nat) : Int) - 1 = (j : Int) by omega]
          exact IntWalk.i64_in _ (by omega)
        have hk2 : IntKind.i64.wrap ((j : Int) + 1 - 1) = (j : Int) := by
          rw [show (j : Int) + 1 - 1 = (j : Int) by omega]
          exact IntWalk.i64_in _ (by omega)
        have hk3 : j < j + 1 := by omega
        have hk4 : (j : Int) < (j : Int) + 1 := by omega
        have hd9 : decide ((0 : Int) < (j : Int) + 1) = true := decide_eq_true (by omega)
        have hd8 : (0 : Int) < (j : Int) + 1 := by omega
        have hd : decide ((0 : Int) < ((j + 1 : Nat) : Int)) = true := decide_eq_true (by omega)
        have HT : Hid (∀ v, l.getLast? = some v → v.at_ = u.at_) := Lib.hid (fun v hv => by
          rw [List.getLast?_eq_getElem?, ← HM.out, Nat.add_sub_cancel, hu] at hv
          simp only [Option.some.injEq] at hv
          rw [hv])
        have huo := (okSms_all HO.out).1 u (List.mem_of_getElem? hu)
        have HAT : Hid (0 ≤ u.at_ ∧ u.at_ ≤ 4000000000000000) := Lib.hid (Sm.ok_iff.1 huo).2.2.2
        clear hu hm0 huo S4
        have b5 := grow_next b4 (bE w4)
        go_wp2_with fail
        go_loopw [6, 7, 8] (fun a b i wr => ∃ (k : Nat) (q : Int), k ≤ 8 ∧ Hid (q = (k : Int) + 1) ∧ i = .int .i64 q ∧ Hid (Has8 wr a l u.at_ k) ∧ Hid (Has8 wr b [] u.at_ k) ∧ Below w.heap.size w wr) (fun _ _ i _ => 9 - (intOf i).toNat)
        case atStart => exact ⟨0, 1, Nat.zero_le _, Lib.hid rfl, rfl, Lib.hid ((HA0.out u.at_).next (bE w4)), Lib.hid (HB0.out _ u.at_ _ _), b5⟩
        case round =>
          obtain ⟨k, q, hk, HQ, rfl, HA, HB, hb⟩ := hrel
          by_cases hlt : k < 8
          · have hd1 : decide (q ≤ 8) = true := decide_eq_true (by have := HQ.out; omega)
            have q1 : 1 ≤ q := by have := HQ.out; omega
            have q8 : q ≤ 8 := by have := HQ.out; omega
            have hw1 : IntKind.i64.wrap (9 - q) = 9 - q := IntWalk.i64_in _ (by omega)
            have hw2 : IntKind.i64.wrap (u.at_ + q) = u.at_ + q := IntWalk.i64_in _ (by have := HAT.out; omega)
            have hw3 : IntKind.i64.wrap (q + 1) = q + 1 := IntWalk.i64_in _ (by omega)
            have N1 := blk_new wr (.cells #[.int .i64 q, .int .i64 (9 - q), .int .i64 0, .int .i64 (u.at_ + q)] 26)
            have B1 : Below wr.heap.size wr (wr.alloc (.cells #[.int .i64 q, .int .i64 (9 - q), .int .i64 0, .int .i64 (u.at_ + q)] 26)) := below_new _ _
            have b6 := grow_next hb B1
            have A6 := HA.out.next B1
            have B6 := HB.out.next B1
            obtain ⟨b, hbb⟩ : ∃ b, decide (u.at_ + q ≤ 4000000000000000) = b := ⟨_, rfl⟩
            have A7 := A6
            have B7 := B6
            obtain ⟨xa, na, ca, rfl, _⟩ := A7
            obtain ⟨xb, nb, cb, rfl, _⟩ := B7
            have HFA := Lib.hid (fun W h L => add8_c HO.out HAT.out.1 HT.out k hlt q HQ.out xa na ca W h (ao := ao) (an := an) (au := au) L b hbb)
            have HFB := Lib.hid (fun W h L => add8_c nil_ok HAT.out.1 (fun v h => by cases h) k hlt q HQ.out xb nb cb W h (ao := ao) (an := an) (au := au) L b hbb)
            have HBB := Lib.hid hbb
            generalize hW6 : wr.alloc (.cells #[.int .i64 q, .int .i64 (9 - q), .int .i64 0, .int .i64 (u.at_ + q)] 26) = W6 at *
            obtain ⟨x0, x1, x2, x3⟩ := sample_cells (q := ⟨q, 9 - q, 0, u.at_ + q⟩) N1
            dsimp only at x0 x1 x2 x3
            clear HA HB hlt hbb
            go_wp2_with fail
            with_reducible refine (HFA.out _ A6 (L.next b6)).mono ?_
            rintro e w7 ⟨v7, rfl, H7, hb7⟩
            have b7 := grow_next b6 hb7
            have N7 := blk_next hb7 N1
            obtain ⟨x0, x1, x2, x3⟩ := sample_cells (q := ⟨q, 9 - q, 0, u.at_ + q⟩) N7
            dsimp only at x0 x1 x2 x3
            have H7' := Lib.hid H7
            have B8 := B6.next hb7
            clear A6 B6 H7 hW6
            go_wp2_with fail
            with_reducible refine (HFB.out _ B8 (L.next b7)).mono ?_
            rintro e w8 ⟨v8, rfl, H8, hb8⟩
            have b8 := grow_next b7 hb8
            have H8' := Lib.hid H8
            clear B8 H8
            cases b with
            | true =>
              have A9 := Lib.hid ((H7'.out rfl).next hb8)
              have B9 := Lib.hid (H8'.out rfl)
              clear H7' H8'
              go_wp2_with fail
              go_roundw
              case rel => exact ⟨k + 1, q + 1, by have := HQ.out; omega, Lib.hid (by have := HQ.out; omega), rfl, A9, B9, b8⟩
              case measure => simp [intOf]; omega
            | false =>
              have hgt : decide (4000000000000000 < u.at_ + q) = true := decide_eq_true (by have := of_decide_eq_false HBB.out; omega)
              clear H7' H8'
              go_wp2_with fail
              go_returns
              exact ⟨rfl, b8⟩
          · have HE := Lib.hid (show k = 8 by omega)
            have hd1 : decide (q ≤ 8) = false := decide_eq_false (by have := HQ.out; omega)
            have hA := HA.out
            have hB := HB.out
            rw [HE.out] at hA hB
            obtain ⟨xa, na, ca, rfl, hna, _, hsa, hoa⟩ := hA
            obtain ⟨xb, nb, cb, rfl, hnb, _, hsb, hob⟩ := hB
            rw [behind8_eight] at hna hsa hoa hnb hsb hob
            obtain rfl : na = 8 := by rw [hna.out, firsts_len]
            obtain rfl : nb = 8 := by rw [hnb.out, firsts_len]
            have HBS := Lib.hid (fun (W : World) h {ao an au} L => @bestOf_impl (firsts u.at_ 8) 8 hna (by unfold maxLen; omega) xa ca W h ao an au L)
            have hbo : bstOk (firsts u.at_ 8) = true := by unfold bstOk; rw [hoa.out, firsts_len]; rfl
            have hbv : bstV (firsts u.at_ 8) = bestV (firsts u.at_ 8) := by unfold bstV; rw [hbo]; rfl
            obtain ⟨p, hp⟩ : ∃ p, bestV (firsts u.at_ 8) = p := ⟨_, rfl⟩
            have hpa : p.at_ = u.at_ + 8 := by rw [← hp]; exact firsts_best u.at_
            have hB2 := HBS.out
            rw [hbo, hbv, hp] at hB2
            have HB2 := Lib.hid hB2
            have HSM := Lib.hid (fun W h h' => sameSamples_c (firsts u.at_ 8) 8 hna (by unfold maxLen; omega) xa xb ca cb W h h')
            have HPA := Lib.hid hpa
            have hw2 : IntKind.i64.wrap (u.at_ + 8) = u.at_ + 8 := IntWalk.i64_in _ (by have := HAT.out; omega)
            have hpe : (p.at_ == u.at_ + 8) = true := by rw [hpa]; simp
            clear HA HB hlt hna hnb hoa hob HBS hbo hbv hp hpa hB2
            go_wp2_with fail
            refine (HB2.out _ hsa (L.next hb)).mono ?_
            rintro e w6 ⟨rfl, hb6⟩
            have b6' := grow_next hb hb6
            have b6 := b6'.alloc b6'.size (.cells #[.int .i64 p.off, .int .i64 p.delay, .int .i64 p.disp, .int .i64 p.at_] 26)
            have bq := hb6.alloc hb6.size (.cells #[.int .i64 p.off, .int .i64 p.delay, .int .i64 p.disp, .int .i64 p.at_] 26)
            have sa6 := hsa.next bq
            have sb6 := hsb.next bq
            have Q6 := blk_new w6 (.cells #[.int .i64 p.off, .int .i64 p.delay, .int .i64 p.disp, .int .i64 p.at_] 26)
            generalize hW6 : w6.alloc (.cells #[.int .i64 p.off, .int .i64 p.delay, .int .i64 p.disp, .int .i64 p.at_] 26) = W6 at *
            clear hsa hsb
            go_wp2_with fail
            refine (HSM.out _ sa6 sb6).mono ?_
            rintro e w7 ⟨rfl, hb7⟩
            obtain ⟨x0, x1, x2, x3⟩ := sample_cells (blk_next hb7 Q6)
            go_wp2_with fail
            go_returns
            exact ⟨rfl, grow_next b6 hb7⟩
  · go_enter Tryd.func6, Tryd.ntmps6
    go_wp2_with (go_at_call 7; go_in)
    go_returns
    exact ⟨rfl, Below.refl _ _⟩
theorem fl_met (os : Os) (args : Array Value) : laidMetH Tryd.prog Rows.fnFilterLastRow.laid ((World.doorLaid Tryd.prog 400 os).forCall (fun _ _ => 0) ⟨#[], args, []⟩).memory :=
  laidMetH_of_parts3 (fuel := 8) (laidMet_of_run' 8 (by kernel_rfl) (by kernel_rfl)) (by kernel_rfl) (by kernel_rfl)
set_option maxRecDepth 100000 in
theorem fl_lifted (os : Os) (started : os.Started) (H : Type) (enc : TypeId × Value → H) :
    ReturnsInHanded {} Tryd.checked os 6 .any (fun w args => (Rows.fnFilterLastSpec.pre enc Tryd.prog Tryd.f6 [] false w args ∧ laidMetH Tryd.prog Rows.fnFilterLastRow.laid w) ∧ sizedMet enc Tryd.prog Tryd.f6 (OpenSpec.ofChange Rows.fnFilterLastSpec) false w args) (Rows.fnFilterLastSpec.post enc Tryd.prog Tryd.f6 false true false false) := by
  refine lifted_of_walk_laid (C := Tryd.checked) own started (by as_aux_lemma => kernel_rfl) Tryd.func6
    (ChangeSpec.witness_shaped (enc := enc) (C := Tryd.checked) (os := os) (X := fun w _ => laidMetH Tryd.prog Rows.fnFilterLastRow.laid w) false (World.doorLaid Tryd.prog 400 os) #[.slice none 0 0] 8 rfl (World.shaped_of_RefB (by kernel_rfl) (by kernel_rfl)) (by kernel_rfl) (by kernel_rfl) (by kernel_rfl) (fl_met os _))
    laidOut (by as_aux_lemma => kernel_rfl) (by as_aux_lemma => kernel_rfl) rfl boolType
    (fun ds gs h hg => by
      match ds, gs, h, hg with
      | [_], [_, _, _], _, _ => rfl)
    ?_
  intro W base args ds q hval hA hL
  have laidRow : Rows.fnFilterLastRow.laid = Rows.fnFilterLastRow.laid := rfl
  obtain ⟨ao, an, au, L⟩ := ld_of hL (by simp [Rows.fnFilterLastRow, handleD, sentD, Rows.laid_errors_errorType, Rows.laid_loop_example_g00656_impl_errNoTime, Rows.laid_loop_example_g00656_impl_errOutside, Rows.laid_loop_example_g00656_impl_errUnsure]) (by simp [Rows.fnFilterLastRow, handleD, sentD, Rows.laid_errors_errorType, Rows.laid_loop_example_g00656_impl_errNoTime, Rows.laid_loop_example_g00656_impl_errOutside, Rows.laid_loop_example_g00656_impl_errUnsure]) (by simp [Rows.fnFilterLastRow, handleD, sentD, Rows.laid_errors_errorType, Rows.laid_loop_example_g00656_impl_errNoTime, Rows.laid_loop_example_g00656_impl_errOutside, Rows.laid_loop_example_g00656_impl_errUnsure]) (by simp [Rows.fnFilterLastRow, handleD, sentD, Rows.laid_errors_errorType, Rows.laid_loop_example_g00656_impl_errNoTime, Rows.laid_loop_example_g00656_impl_errOutside, Rows.laid_loop_example_g00656_impl_errUnsure])
  clear hL
  rw [Tryd.params6] at hA hval
  obtain ⟨v0, vs0, d0, ds0, p0, q0, hargs, rfl, rfl, h0, r0⟩ := trodAll_cons hA
  obtain ⟨rfl, rfl, rfl⟩ := trodAll_nil r0
  obtain rfl : args = #[v0] := by cases args; simp_all
  obtain ⟨a0, len0, cap0, z0, rfl, w0⟩ := open_bytes Tryd.underlying22 Tryd.underlying5 (by as_aux_lemma => kernel_rfl) (hval 0 22 v0 rfl rfl) h0
  exact fl_walk W L a0 len0 cap0 z0 w0

theorem fl_facts : joinedFacts Tryd.pinned.checked.prog 6 Tryd.f6 Rows.fnFilterLastSpec Rows.fnFilterLastRow = true :=
  facts_of (P := Tryd.prog) (by as_aux_lemma => kernel_rfl) laidOut mapsRow (by as_aux_lemma => kernel_rfl) (by as_aux_lemma => kernel_rfl) rfl noStops rfl noKnobs (by as_aux_lemma => kernel_rfl) (by as_aux_lemma => kernel_rfl) (by as_aux_lemma => kernel_rfl) (by as_aux_lemma => kernel_rfl) (by as_aux_lemma => kernel_rfl) (by as_aux_lemma => kernel_rfl) (by as_aux_lemma => kernel_rfl) (by as_aux_lemma => kernel_rfl) (by as_aux_lemma => kernel_rfl) (by as_aux_lemma => kernel_rfl) (by as_aux_lemma => kernel_rfl) (by as_aux_lemma => kernel_rfl) (by as_aux_lemma => kernel_rfl) keysPlain rfl heard enters finals isMake rfl rfl rfl (by as_aux_lemma => kernel_rfl) (by as_aux_lemma => kernel_rfl)

theorem fl_row : Rows.FnFilterLastSaid :=
  OpenClaim.holds_of_wide 6 Tryd.f6 rfl rfl rfl rfl rfl rfl rfl ⟨rfl, rfl, rfl, rfl, rfl⟩ rfl rfl rfl rfl rfl (by as_aux_lemma => kernel_rfl) Tryd.func6 fl_facts
    (of_decide_eq_true (by as_aux_lemma => kernel_rfl)) (by unfold Func.isWrapper; first | (rw [if_pos (by decide +kernel)]; kernel_rfl) | (rw [if_neg (by decide +kernel)]; exact ⟨rfl, rfl⟩))
    (fun os started H enc _ => fl_lifted os started H enc)

/-- The given statement. -/
theorem fl_holds : Rows.FnFilterLastCardSaid :=
  Claim7.holds_tied_plain_at .later [] Rows.fnFilterLastCard.laidKinds true Rows.fnFilterLastCard.stood.harness true
    fl_row (fun _ h => by cases h) (by kernel_rfl) (fun _ h => by cases h) fnFilterLast_row_tie rfl ⟨rfl, rfl⟩ (by kernel_rfl) rfl
    (fun f fn hf hfn => by
      obtain rfl : f = 6 := Option.some.inj ((show Tryd.prog.funcNamed "loop.example/g00656/laws.FnFilterLast" = some 6 by kernel_rfl).symm.trans hf) |>.symm
      obtain rfl : fn = Tryd.f6 := (Option.some.inj (Tryd.func6.symm.trans hfn)).symm
      exact ⟨by kernel_rfl, fun j t ht => noStandIn (by rw [Tryd.params6]; kernel_rfl) j t ht⟩)
    (by kernel_rfl)
#print axioms fl_holds
end Go.Proofs.YthgamidodkkpbaaDoor
