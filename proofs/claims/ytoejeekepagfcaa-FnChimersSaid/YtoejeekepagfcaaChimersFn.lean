/- Those that agree are as many as are told, and each has all of it: at all drawn intervals. -/
import Derived.Test.YtoejeekepagfcaaIvsDraw
import Derived.Test.YtoejeekepagfcaaAgreeLess
import Derived.Test.YtoejeekepagfcaaInts
namespace Go.Proofs.Ytoejeekepagfcaa
open Go.ChangeShapes Go.WideShapes Go.ChangeAt Go.RowKit
set_option linter.unusedVariables false
set_option linter.unusedSimpArgs false

set_option maxHeartbeats 1000000 in
theorem sameInts_c (l : List Int) (n : Nat) (hn : Hid (n = l.length)) (hm : n ≤ 1048576) (b b' : Nat) (x y : Option Addr) (cap cap' : Nat) (w : World) (h : IntRow b w x cap l) (h' : IntRow b' w y cap' l) :
    Calls Try.prog 34 #[.slice x n cap, .slice y n cap'] w fun e w' => e = .returned (.bool true) ∧ Below w.heap.size w w' := by
  go_enter Try.func34, Try.ntmps34
  go_wp2
  go_loopw [5] (fun i wr => ∃ k : Nat, k ≤ n ∧ i = .int .i64 k ∧ Below w.heap.size w wr) (fun i _ => n - (intOf i).toNat)
  case atStart => exact ⟨0, Nat.zero_le _, rfl, Below.refl _ _⟩
  case round =>
    obtain ⟨k, hk, rfl, hb⟩ := hrel
    by_cases hlt : k < n
    · obtain ⟨v, hv⟩ := get_at (l := l) (k := k) (by rw [← hn.out]; exact hlt)
      obtain ⟨g, rfl, _, _, c0, _⟩ := (h.next hb).at_ hv
      obtain ⟨g', rfl, _, _, c1, _⟩ := (h'.next hb).at_ hv
      have HV := Lib.hid hv
      clear hv
      go_wp2_with fail
      go_quiet (fail)
      go_wp2_with fail
      go_roundw
      case rel => exact ⟨k + 1, by omega, by go_num, grow_drew hb _⟩
      case measure => simp [intOf]; omega
    · go_wp2_with fail
      go_returns
      exact ⟨rfl, hb⟩

theorem then_new {w0 a : World} (h : Below w0.heap.size w0 a) (o : Obj) : Below w0.heap.size w0 (a.alloc o) := h.alloc h.size o
theorem places_at {l : List Iv} {q : Int} {i : Nat} {z : Int} (h : (placesOf l q)[i]? = some z) : ∃ (k : Nat) (v : Iv), z = k ∧ l[k]? = some v ∧ inB v.lo q v.hi = true := by
  have hm := List.mem_of_getElem? h
  simp only [placesOf, placesTo, List.mem_map, List.mem_filter, List.mem_range] at hm
  obtain ⟨k, ⟨hk, hh⟩, rfl⟩ := hm
  obtain ⟨v, hv⟩ := get_at hk
  rw [hasAt_of hv] at hh
  exact ⟨k, v, rfl, hv, hh⟩
theorem places_rise {l : List Iv} {q : Int} {i j : Nat} {a b : Int} (hij : i < j) (ha : (placesOf l q)[i]? = some a) (hb : (placesOf l q)[j]? = some b) : a < b := by
  have hp : (placesOf l q).Pairwise (· < ·) := by
    unfold placesOf placesTo
    rw [List.pairwise_map]
    refine List.Pairwise.imp ?_ ((List.pairwise_lt_range (n := l.length)).filter (hasAt l q))
    intro a b h
    exact Int.ofNat_lt.2 h
  obtain ⟨hi, rfl⟩ := List.getElem?_eq_some_iff.1 ha
  obtain ⟨hj, rfl⟩ := List.getElem?_eq_some_iff.1 hb
  exact List.pairwise_iff_getElem.1 hp i j hi hj hij

/-- What is told of those that agree. -/
theorem chim_facts {l : List Iv} {c : List Int} {lo hi M : Int} (hC : ChimIs l c) (hA : Agr l lo hi M) : (c.length : Int) = M ∧
    (∀ (i : Nat) (z : Int), c[i]? = some z → ∃ (k : Nat) (v : Iv), z = k ∧ l[k]? = some v ∧ v.lo ≤ lo ∧ hi ≤ v.hi) ∧ ∀ (i j : Nat) (a b : Int), i < j → c[i]? = some a → c[j]? = some b → a < b := by
  obtain ⟨lo', hi', M', hA', rfl⟩ := hC
  obtain ⟨rfl, rfl, rfl⟩ := hA.same hA'
  rcases hA with ⟨ho, hne, hI⟩ | ⟨_, _, _, h0⟩
  · have hM : M ≠ 0 := by have := hI.pos; omega
    rw [if_neg hM]
    refine ⟨by rw [placesOf_length]; exact hI.depth, fun i z h => ?_, fun i j a b hij ha hb => places_rise hij ha hb⟩
    obtain ⟨k, v, e, hv, hin⟩ := places_at h
    exact ⟨k, v, e, hv, (inB_iff.1 hin).1, hI.first v (List.mem_of_getElem? hv) hin⟩
  · rw [if_pos h0]
    exact ⟨by simp [h0], by simp, by simp⟩

theorem int_row' {base : Nat} {w : World} {v : Value} {c : List Int} (h : w.ownsRow base 2 1 v c.length (c.map (Value.int .i64))) : ∃ x cap, v = .slice x c.length cap ∧ IntRow base w x cap c := by
  obtain ⟨x, cap, rfl⟩ := ownsRow_form h
  exact ⟨x, cap, rfl, h⟩

set_option maxHeartbeats 4000000 in
theorem cf_walk (w : World) (x : Option Addr) (n cap z : Nat) (hz : z = n ∧ Code w.heap.size w (.slice x n cap) n) :
    Calls Try.prog 7 #[.slice x n cap] w fun e w' => e = .returned (.bool true) ∧ Below w.heap.size w w' := by
  obtain ⟨_, hc⟩ := hz
  by_cases hbig : n ≤ 1048576
  · go_enter Try.func7, Try.ntmps7
    go_wp2_with (go_at_call 27; go_in)
    refine (drawChimers_c x n cap _ hc hbig).mono ?_
    rintro e w1 ⟨y, c, l, rfl, hl8, hrow, hb1⟩
    obtain ⟨m, hm⟩ : ∃ m, m = l.length := ⟨_, rfl⟩
    have hm8 : m ≤ 8 := by rw [hm]; exact hl8
    have HM := Lib.hid hm
    rw [← hm]
    clear hm hl8
    go_wp2_with fail
    refine (chimers_impl l m HM (by omega) y c _ hrow.ivs).mono ?_
    rintro e w2 ⟨cs, hC, v, rfl, ho, hb2⟩
    obtain ⟨u, cu, rfl, ru⟩ := int_row' ho
    have hcl := hC.length
    rw [← HM.out] at hcl
    obtain ⟨k, hk⟩ : ∃ k, k = cs.length := ⟨_, rfl⟩
    rw [← hk] at hcl ⊢
    have HC := Lib.hid hC
    have HK := Lib.hid hk
    clear hC hk ho
    have g2 := grow_next hb1 hb2
    have r2 := hrow.next hb2
    clear hrow hb1 hb2
    go_wp2_with fail
    refine (agreed_impl l m HM (by omega) y c _ r2.ivs).mono ?_
    rintro e w3 ⟨lo, hi, M, rfl, hA, hb3⟩
    obtain ⟨f1, f2, f3⟩ := chim_facts HC.out hA
    rw [← HK.out] at f1
    have HF2 := Lib.hid f2
    have HF3 := Lib.hid f3
    clear f2 f3
    subst f1
    have g3 := grow_next g2 hb3
    have B3 := blk_new w3 (.cells #[.int .i64 lo, .int .i64 hi] 25)
    have r3 := (r2.next hb3).next (below_new w3 (.cells #[.int .i64 lo, .int .i64 hi] 25))
    have ru3 := (ru.next hb3).next (below_new w3 (.cells #[.int .i64 lo, .int .i64 hi] 25))
    have g3' : Below w.heap.size w (w3.alloc (.cells #[.int .i64 lo, .int .i64 hi] 25)) := g3.alloc (by have := g3.size; omega) _
    clear g2 g3 r2 hb3 ru
    go_wp2_with fail
    refine (chimers_spec l m HM (by omega) y c _ r3.ivs).mono ?_
    rintro e w4 ⟨cs', hC', v, rfl, ho, hb4⟩
    obtain rfl := HC.out.same hC'
    obtain ⟨t, ct, rfl, rt⟩ := int_row' ho
    rw [← HK.out]
    clear hC' ho
    have g4 := grow_next g3' hb4
    have B4 := blk_next hb4 B3
    have r4 := r3.next hb4
    have ru4 := ru3.next hb4
    go_wp2_with fail
    refine (sameInts_c cs k HK (by omega) _ _ u t cu ct _ ru4 rt).mono ?_
    rintro e w5 ⟨rfl, hb5⟩
    have g5 := grow_next g4 hb5
    have B5 := blk_next hb5 B4
    have r5 := r4.next hb5
    have ru5 := ru4.next hb5
    clear hb4 hb5 B3 B4 r3 r4 ru3 ru4 rt g3' g4
    go_wp2_with fail
    go_loopw [7] (fun i wr => ∃ j : Nat, j ≤ k ∧ i = .int .i64 j ∧ Below w5.heap.size w5 wr) (fun i _ => k - (intOf i).toNat)
    case atStart => exact ⟨0, Nat.zero_le _, rfl, Below.refl _ _⟩
    case round =>
      obtain ⟨j, hj, rfl, hb⟩ := hrel
      by_cases hlt : j < k
      · obtain ⟨zz, hzz⟩ := get_at (l := cs) (k := j) (by rw [← HK.out]; exact hlt)
        obtain ⟨a, v, rfl, hv, h1, h2⟩ := HF2.out j zz hzz
        have hal : a < m := by rw [HM.out]; exact (List.getElem?_eq_some_iff.1 hv).1
        obtain ⟨gu, rfl, _, gul, k0, _⟩ := (ru5.next hb).at_ hzz
        obtain ⟨b, off, rfl, hbB, d0, d1⟩ := (r5.next hb).ivs.at_ hv
        have Bw := blk_next hb B5
        have lB := (Array.getElem?_eq_some_iff.1 Bw).1
        obtain ⟨b0, b1⟩ := iv_cells (q := ⟨lo, hi⟩) Bw
        dsimp only at b0 b1
        have V := blk_new wr (.cells #[.int .i64 v.lo, .int .i64 v.hi] 25)
        have gr := grow_next g5 hb
        have gr' := then_new hb (.cells #[.int .i64 v.lo, .int .i64 v.hi] 25)
        have q1 : decide (lo < v.lo) = false := decide_eq_false (by omega)
        have q2 : decide (v.hi < hi) = false := decide_eq_false (by omega)
        have HZ := Lib.hid hzz
        clear hzz hv
        rcases Nat.eq_zero_or_pos j with rfl | hj0
        · go_wp2_with fail
          go_quiet (fail)
          go_wp2_with fail
          go_roundw
          case rel => exact ⟨0 + 1, by omega, by go_num, grow_drew gr' _⟩
          case measure => simp [intOf]; omega
        · obtain ⟨z0, hz0⟩ := get_at (l := cs) (k := j - 1) (by rw [← HK.out]; omega)
          have hlt2 := HF3.out (j - 1) j z0 _ (by omega) hz0 HZ.out
          obtain ⟨gu', e', _, _, k1, _⟩ := (ru5.next hb).at_ hz0
          simp only [Option.some.injEq, Addr.mk.injEq, and_true] at e'
          subst e'
          have q3 : decide ((0 : Int) < (j : Int)) = true := decide_eq_true (by omega)
          have q4 : decide ((a : Int) ≤ z0) = false := decide_eq_false (by omega)
          have hw1 : IntKind.i64.wrap ((j : Int) - 1) = ((j - 1 : Nat) : Int) := by rw [IntWalk.i64_in _ (by omega)]; omega
          have hw2 : j - 1 < k := by omega
          have hw3 : ((j - 1 : Nat) : Int) < (k : Int) := by omega
          clear hz0
          go_wp2_with fail
          go_quiet (fail)
          go_wp2_with fail
          go_roundw
          case rel => exact ⟨j + 1, by omega, by go_num, grow_drew gr' _⟩
          case measure => simp [intOf]; omega
      · have gr := grow_next g5 hb
        go_wp2_with fail
        go_returns
        exact ⟨rfl, gr⟩
  · go_enter Try.func7, Try.ntmps7
    go_wp2_with (go_at_call 27; go_in)
    go_returns
    exact ⟨rfl, Below.refl _ _⟩
set_option maxRecDepth 100000 in
theorem cf_lifted (os : Os) (started : os.Started) (H : Type) (enc : TypeId × Value → H) :
    ReturnsInHanded {} Try.checked os 7 .any (Rows.fnChimersSpec.pre6 enc Try.prog Try.f7 Rows.fnChimersRow.domain false) (Rows.fnChimersSpec.post enc Try.prog Try.f7 false true false false) := by
  refine lifted_of_walk (C := Try.checked) own started (by as_aux_lemma => kernel_rfl) Try.func7
    (ChangeSpec.witness6 (enc := enc) (C := Try.checked) false ⟨#[], #[.slice none 0 0], []⟩ 8 (by as_aux_lemma => kernel_rfl) (by as_aux_lemma => kernel_rfl) (by as_aux_lemma => kernel_rfl) (by as_aux_lemma => kernel_rfl) (by as_aux_lemma => kernel_rfl))
    laidOut rfl (by as_aux_lemma => kernel_rfl) (by as_aux_lemma => kernel_rfl) boolType
    (fun ds h => by
      match ds, h with
      | [_], _ => rfl)
    ?_
  intro W base args ds q hval hA
  rw [Try.params7] at hA hval
  obtain ⟨v0, vs0, d0, ds0, p0, q0, hargs, rfl, rfl, h0, r0⟩ := trodAll_cons hA
  obtain ⟨rfl, rfl, rfl⟩ := trodAll_nil r0
  obtain rfl : args = #[v0] := by cases args; simp_all
  obtain ⟨a0, len0, cap0, z0, rfl, w0⟩ := open_bytes Try.underlying40 Try.underlying5 (by as_aux_lemma => kernel_rfl) (hval 0 40 v0 rfl rfl) h0
  exact cf_walk W a0 len0 cap0 z0 w0

theorem cf_facts : joinedFacts Try.pinned.checked.prog 7 Try.f7 Rows.fnChimersSpec Rows.fnChimersRow = true :=
  facts_of (P := Try.prog) (by as_aux_lemma => kernel_rfl) laidOut mapsRow (by as_aux_lemma => kernel_rfl) (by as_aux_lemma => kernel_rfl) rfl noStops rfl noKnobs (by as_aux_lemma => kernel_rfl) (by as_aux_lemma => kernel_rfl) (by as_aux_lemma => kernel_rfl) (by as_aux_lemma => kernel_rfl) (by as_aux_lemma => kernel_rfl) (by as_aux_lemma => kernel_rfl) (by as_aux_lemma => kernel_rfl) (by as_aux_lemma => kernel_rfl) (by as_aux_lemma => kernel_rfl) rfl (by as_aux_lemma => kernel_rfl) (by as_aux_lemma => kernel_rfl) (by as_aux_lemma => kernel_rfl) keysPlain rfl heard enters finals isMake rfl rfl rfl (by as_aux_lemma => kernel_rfl) (by as_aux_lemma => kernel_rfl)

/-- The given statement. -/
theorem cf_holds : Rows.FnChimersSaid :=
  OpenClaim.holds_of_wide 7 Try.f7 rfl rfl rfl rfl rfl rfl rfl ⟨rfl, rfl, rfl, rfl, rfl⟩ rfl rfl rfl rfl rfl (by as_aux_lemma => kernel_rfl) Try.func7 cf_facts
    (of_decide_eq_true (by as_aux_lemma => kernel_rfl)) (by unfold Func.isWrapper; first | (rw [if_pos (by decide +kernel)]; kernel_rfl) | (rw [if_neg (by decide +kernel)]; exact ⟨rfl, rfl⟩))
    (fun os started H enc _ => cf_lifted os started H enc)
#print axioms cf_holds
end Go.Proofs.Ytoejeekepagfcaa
