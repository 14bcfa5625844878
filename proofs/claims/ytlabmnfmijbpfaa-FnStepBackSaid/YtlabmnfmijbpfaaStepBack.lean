/- A step and the same one back are both told, and the rate is as it was: at all drawn clocks. -/
import Derived.Test.YtlabmnfmijbpfaaCkAdjI
import Derived.Test.YtlabmnfmijbpfaaCkAdjS
import Derived.Test.YtlabmnfmijbpfaaCkDraws
import Derived.Test.YtlabmnfmijbpfaaAdjFn
namespace Go.Proofs.Ytlabmnfmijbpfaa
open Go.ChangeShapes Go.WideShapes Go.ChangeAt Go.RowKit
set_option linter.unusedVariables false
set_option linter.unusedSimpArgs false

/-- A second forth, twice, and back, twice. -/
def offK (k : Nat) : Int := 1000000 - (k : Int) / 2 * 2000000
/-- The clock behind k of them, and what was told in all. -/
def stB (c : Ck) : Nat → Ck × Int
  | 0 => (c, 0)
  | k + 1 => (adjV (stB c k).1 (offK k) 64, (stB c k).2 + stepV (stB c k).1 (offK k) 64)
theorem offK_bounds {k : Nat} (h : k < 4) : -1000000 ≤ offK k ∧ offK k ≤ 1000000 := by unfold offK; omega
theorem stepV_bounds (c : Ck) {o : Int} (g : Int) (h0 : -1000000 ≤ o) (h1 : o ≤ 1000000) : -1000000 ≤ stepV c o g ∧ stepV c o g ≤ 1000000 := by
  unfold stepV
  split
  · split
    · omega
    · split <;> omega
  · omega
theorem adj_ok_at {c : Ck} (h : c.ok = true) {k : Nat} (hk : k < 4) : adjOk c (offK k) 64 = true := by
  have := offK_bounds hk
  exact adjOk_iff.2 ⟨h, by omega, by omega⟩
theorem great_at {c : Ck} (h : c.ok = true) {k : Nat} (hk : k < 4) : (c.st = 1 → adjV c (offK k) 64 = ⟨2, c.off, c.fr, c.poll, c.calm⟩ ∧ stepV c (offK k) 64 = 0) ∧ (¬ c.st = 1 → adjV c (offK k) 64 = ⟨1, 0, c.fr, 4, 0⟩ ∧ stepV c (offK k) 64 = offK k) := by
  have hu : unB (offK k) 128000 = false := unB_no (by unfold offK; omega)
  rcases adj_great (adj_ok_at h hk) hu with ⟨hs, a, b⟩ | ⟨hs, a, b⟩
  · exact ⟨fun _ => ⟨a, b⟩, fun hn => absurd hs hn⟩
  · exact ⟨fun hn => absurd hn hs, fun _ => ⟨a, b⟩⟩
theorem step_ok {c : Ck} (h : c.ok = true) : ∀ k, k ≤ 4 → (stB c k).1.ok = true
  | 0, _ => h
  | k + 1, hk => adjV_ok (adj_ok_at (step_ok h k (by omega)) (by omega))
theorem step_math {c : Ck} (h : c.ok = true) : (stB c 4).1.fr = c.fr ∧ ((c.st = 1 ∧ (stB c 4).2 = 0) ∨ (¬ c.st = 1 ∧ (stB c 4).1.st = 2)) := by
  have k0 := great_at (step_ok h 0 (by omega)) (k := 0) (by omega)
  have k1 := great_at (step_ok h 1 (by omega)) (k := 1) (by omega)
  have k2 := great_at (step_ok h 2 (by omega)) (k := 2) (by omega)
  have k3 := great_at (step_ok h 3 (by omega)) (k := 3) (by omega)
  have s1 : stB c 1 = (adjV (stB c 0).1 (offK 0) 64, (stB c 0).2 + stepV (stB c 0).1 (offK 0) 64) := rfl
  have s2 : stB c 2 = (adjV (stB c 1).1 (offK 1) 64, (stB c 1).2 + stepV (stB c 1).1 (offK 1) 64) := rfl
  have s3 : stB c 3 = (adjV (stB c 2).1 (offK 2) 64, (stB c 2).2 + stepV (stB c 2).1 (offK 2) 64) := rfl
  have s4 : stB c 4 = (adjV (stB c 3).1 (offK 3) 64, (stB c 3).2 + stepV (stB c 3).1 (offK 3) 64) := rfl
  have s0 : stB c 0 = (c, 0) := rfl
  have o1 : offK 1 = 1000000 := rfl
  have o3 : offK 3 = -1000000 := rfl
  have o0 : offK 0 = 1000000 := rfl
  have o2 : offK 2 = -1000000 := rfl
  by_cases hs : c.st = 1
  · rw [s0] at k0 s1
    obtain ⟨a0, b0⟩ := k0.1 hs
    rw [a0, b0] at s1
    rw [s1] at k1 s2
    obtain ⟨a1, b1⟩ := k1.2 (by dsimp only; omega)
    rw [a1, b1] at s2
    rw [s2] at k2 s3
    obtain ⟨a2, b2⟩ := k2.1 rfl
    rw [a2, b2] at s3
    rw [s3] at k3 s4
    obtain ⟨a3, b3⟩ := k3.2 (by dsimp only; omega)
    rw [a3, b3] at s4
    rw [s4]
    exact ⟨rfl, .inl ⟨hs, by dsimp only; rw [o1, o3]; rfl⟩⟩
  · rw [s0] at k0 s1
    obtain ⟨a0, b0⟩ := k0.2 hs
    rw [a0, b0] at s1
    rw [s1] at k1 s2
    obtain ⟨a1, b1⟩ := k1.1 rfl
    rw [a1, b1] at s2
    rw [s2] at k2 s3
    obtain ⟨a2, b2⟩ := k2.2 (by dsimp only; omega)
    rw [a2, b2] at s3
    rw [s3] at k3 s4
    obtain ⟨a3, b3⟩ := k3.1 rfl
    rw [a3, b3] at s4
    rw [s4]
    exact ⟨rfl, .inr ⟨hs, rfl⟩⟩

set_option maxHeartbeats 4000000 in
set_option maxRecDepth 100000 in
theorem stepBack_walk (w : World) (x : Option Addr) (n cap z : Nat) (hz : z = n ∧ Code w.heap.size w (.slice x n cap) n) :
    Calls Try.prog 8 #[.slice x n cap] w fun e w' => e = .returned (.bool true) ∧ Below w.heap.size w w' := by
  obtain ⟨_, hc⟩ := hz
  by_cases hbig : n ≤ 1048576
  · go_enter Try.func8, Try.ntmps8
    go_wp2_with (go_at_call 12; go_in)
    refine (drawAdjusted_c x n cap _ hc hbig).mono ?_
    rintro e w1 ⟨c, o, g, rfl, hb1⟩
    have P1 := blk_alloc (blk_new w1 (.cells #[.int .i64 c.st, .int .i64 c.off, .int .i64 c.fr, .int .i64 c.poll, .int .i64 c.calm] 25)) (.cells #[.int .i64 c.st, .int .i64 c.off, .int .i64 c.fr, .int .i64 c.poll, .int .i64 c.calm] 25)
    have P2 := blk_new (w1.alloc (.cells #[.int .i64 c.st, .int .i64 c.off, .int .i64 c.fr, .int .i64 c.poll, .int .i64 c.calm] 25)) (.cells #[.int .i64 c.st, .int .i64 c.off, .int .i64 c.fr, .int .i64 c.poll, .int .i64 c.calm] 25)
    simp only [World.size_alloc] at P2
    have L1 : w.heap.size ≤ w1.heap.size := hb1.size
    have G1' : Below w.heap.size w (w1.alloc (.cells #[.int .i64 c.st, .int .i64 c.off, .int .i64 c.fr, .int .i64 c.poll, .int .i64 c.calm] 25)) := hb1.alloc L1 _
    have G1 : Below w.heap.size w ((w1.alloc (.cells #[.int .i64 c.st, .int .i64 c.off, .int .i64 c.fr, .int .i64 c.poll, .int .i64 c.calm] 25)).alloc (.cells #[.int .i64 c.st, .int .i64 c.off, .int .i64 c.fr, .int .i64 c.poll, .int .i64 c.calm] 25)) := G1'.alloc G1'.size _
    clear G1' hb1
    go_wp2_with fail
    go_loopw [7, 8] (fun s i wr => ∃ k : Nat, k ≤ 4 ∧ i = .int .i64 k ∧ s = .int .i64 (stB c k).2 ∧ -(k : Int) * 1000000 ≤ (stB c k).2 ∧ (stB c k).2 ≤ (k : Int) * 1000000 ∧ wr.heap[w1.heap.size]? = some (.cells #[.int .i64 c.st, .int .i64 c.off, .int .i64 c.fr, .int .i64 c.poll, .int .i64 c.calm] 25) ∧ wr.heap[w1.heap.size + 1]? = some (.cells #[.int .i64 ((stB c k).1).st, .int .i64 ((stB c k).1).off, .int .i64 ((stB c k).1).fr, .int .i64 ((stB c k).1).poll, .int .i64 ((stB c k).1).calm] 25) ∧ (k = 0 ∨ c.ok = true) ∧ Below w.heap.size w wr) (fun _ i _ => 4 - (intOf i).toNat)
    case atStart => exact ⟨0, by omega, rfl, rfl, by show (-((0 : Nat) : Int) * 1000000 ≤ 0); omega, by show ((0 : Int) ≤ ((0 : Nat) : Int) * 1000000); omega, P1, P2, .inl rfl, G1⟩
    case round =>
      obtain ⟨k, hk, rfl, rfl, sb0, sb1, hA, hB, hor, hG⟩ := hrel
      clear P1 P2 G1
      by_cases hlt : k < 4
      · obtain ⟨nw, hnw⟩ : ∃ nw, nw = (stB c k).1 := ⟨_, rfl⟩
        obtain ⟨s, hs⟩ : ∃ s, s = (stB c k).2 := ⟨_, rfl⟩
        have o0 := offK_bounds hlt
        have hS := adjusted_spec nw (1000000 - (k : Int) / 2 * 2000000) 64
        have hI := adjusted_impl nw (1000000 - (k : Int) / 2 * 2000000) 64
        obtain ⟨v, hv⟩ : ∃ v, adjV nw (1000000 - (k : Int) / 2 * 2000000) 64 = v := ⟨_, rfl⟩
        obtain ⟨m, hm⟩ : ∃ m, stepV nw (1000000 - (k : Int) / 2 * 2000000) 64 = m := ⟨_, rfl⟩
        obtain ⟨b, hb⟩ : ∃ b, adjOk nw (1000000 - (k : Int) / 2 * 2000000) 64 = b := ⟨_, rfl⟩
        have mb := stepV_bounds nw (o := offK k) 64 o0.1 o0.2
        have hE : b = true → k = 0 → c.ok = true := fun e e0 => by
          subst e0
          have := (adjOk_iff.1 (hb.trans e)).1
          rw [hnw] at this
          exact this
        have hn1 : (stB c (k + 1)).1 = v := by rw [← hv, hnw]; rfl
        have hn2 : (stB c (k + 1)).2 = s + m := by rw [← hm, hs, hnw]; rfl
        have mb : -1000000 ≤ m ∧ m ≤ 1000000 := hm ▸ mb
        rw [hv, hm, hb] at hS hI
        rw [← hs] at sb0 sb1 ⊢
        rw [← hnw] at hB
        have HS := Lib.hid hS
        have HI := Lib.hid hI
        have HN1 := Lib.hid hn1
        have HN2 := Lib.hid hn2
        have HE := Lib.hid (show b = true → c.ok = true from fun e => hor.elim (hE e) id)
        obtain ⟨mb0, mb1⟩ := mb
        have sl0 : -4000000 ≤ s := by omega
        have sl1 : s ≤ 4000000 := by omega
        have HSB := Lib.hid (show -((k + 1 : Nat) : Int) * 1000000 ≤ s + m ∧ s + m ≤ ((k + 1 : Nat) : Int) * 1000000 by omega)
        clear hS hI hv hm hb hE hn1 hn2 hor hnw hs sb0 sb1 o0
        have X := ck_cells hB
        have l1 := (Array.getElem?_eq_some_iff.1 hB).1
        have l0 := (Array.getElem?_eq_some_iff.1 hA).1
        go_wp2_with fail
        refine (HI.out _).mono ?_
        rintro e w2 ⟨rfl, hb2⟩
        have A2 := blk_next hb2 hA
        have B2 := blk_next hb2 hB
        have G2' := grow_next hG hb2
        have G2 : Below w.heap.size w (w2.alloc (.cells #[.int .i64 v.st, .int .i64 v.off, .int .i64 v.fr, .int .i64 v.poll, .int .i64 v.calm] 25)) := G2'.alloc G2'.size _
        have N2 := blk_new w2 (.cells #[.int .i64 v.st, .int .i64 v.off, .int .i64 v.fr, .int .i64 v.poll, .int .i64 v.calm] 25)
        clear X l1 l0 hA hB hG hb2 HI
        have X := ck_cells B2
        have l1 := (Array.getElem?_eq_some_iff.1 B2).1
        go_wp2_with fail
        refine (HS.out _).mono ?_
        rintro e w3 ⟨rfl, hb3⟩
        have A3 := blk_next hb3 (blk_alloc A2 (.cells #[.int .i64 v.st, .int .i64 v.off, .int .i64 v.fr, .int .i64 v.poll, .int .i64 v.calm] 25))
        have B3 := blk_next hb3 (blk_alloc B2 (.cells #[.int .i64 v.st, .int .i64 v.off, .int .i64 v.fr, .int .i64 v.poll, .int .i64 v.calm] 25))
        have N3 := blk_next hb3 N2
        have G3 := grow_next G2 hb3
        clear X l1 A2 B2 N2 G2 G2' hb3 HS
        have Y := ck_cells N3
        have V := ck_thaw B3
        have X := ck_cells B3
        have l1 := (Array.getElem?_eq_some_iff.1 B3).1
        have l2 := (Array.getElem?_eq_some_iff.1 N3).1
        cases b with
        | false =>
          go_wp2_with fail
          go_returns
          exact ⟨rfl, G3.alloc G3.size _⟩
        | true =>
          go_wp2_with fail
          go_roundw
          case rel =>
            have K1 := blk_alloc (ck_other (b := w1.heap.size + 1) A3 (by omega) v) (.cells #[.int .i64 v.st, .int .i64 v.off, .int .i64 v.fr, .int .i64 v.poll, .int .i64 v.calm] 25)
            have K2 := blk_alloc (ck_put B3 v) (.cells #[.int .i64 v.st, .int .i64 v.off, .int .i64 v.fr, .int .i64 v.poll, .int .i64 v.calm] 25)
            have K0 := below_fin G3 (k := w1.heap.size + 1) (by omega) v
            have K3 := K0.alloc K0.size (.cells #[.int .i64 v.st, .int .i64 v.off, .int .i64 v.fr, .int .i64 v.poll, .int .i64 v.calm] 25)
            refine ⟨k + 1, by omega, by go_num, ?_⟩
            rw [HN1.out, HN2.out]
            with_reducible exact ⟨rfl, HSB.out.1, HSB.out.2, K1, K2, .inr (HE.out (by trivial)), K3⟩
          case measure => simp [intOf]; omega
      · obtain rfl : k = 4 := by omega
        have hcok : c.ok = true := hor.elim (fun h => by omega) id
        obtain ⟨f1, f2⟩ := step_math hcok
        obtain ⟨nw, hnw⟩ : ∃ nw, nw = (stB c 4).1 := ⟨_, rfl⟩
        obtain ⟨s, hs⟩ : ∃ s, s = (stB c 4).2 := ⟨_, rfl⟩
        rw [← hnw] at f1 f2 hB
        rw [← hs] at f2 ⊢
        have e1 : ((nw.fr : Int) == c.fr) = true := by simpa using f1
        have X := ck_cells hA
        have Y := ck_cells hB
        clear hnw hs f1 sb0 sb1 hor hcok hA hB
        rcases f2 with ⟨s1, s2⟩ | ⟨s1, s2⟩
        · have t1 : ((c.st : Int) == 1) = true := by simpa using s1
          have t2 : ((c.st : Int) != 1) = false := by simpa using s1
          have t3 : ((s : Int) == 0) = true := by simpa using s2
          clear s1 s2
          go_wp2_with fail
          go_returns
          exact ⟨rfl, hG⟩
        · have t1 : ((c.st : Int) == 1) = false := by simpa using s1
          have t2 : ((c.st : Int) != 1) = true := by simpa using s1
          have t3 : ((nw.st : Int) == 2) = true := by simpa using s2
          clear s1 s2
          go_wp2_with fail
          go_returns
          exact ⟨rfl, hG⟩
  · go_enter Try.func8, Try.ntmps8
    go_wp2_with (go_at_call 12; go_in)
    go_returns
    exact ⟨rfl, Below.refl _ _⟩

set_option maxRecDepth 100000 in
theorem stepBack_lifted (os : Os) (started : os.Started) (H : Type) (enc : TypeId × Value → H) :
    ReturnsInHanded {} Try.checked os 8 .any (Rows.fnStepBackSpec.pre6 enc Try.prog Try.f8 Rows.fnStepBackRow.domain false) (Rows.fnStepBackSpec.post enc Try.prog Try.f8 false true false false) := by
  refine lifted_of_walk (C := Try.checked) own started (by as_aux_lemma => kernel_rfl) Try.func8
    (ChangeSpec.witness6 (enc := enc) (C := Try.checked) false ⟨#[], #[.slice none 0 0], []⟩ 8 (by as_aux_lemma => kernel_rfl) (by as_aux_lemma => kernel_rfl) (by as_aux_lemma => kernel_rfl) (by as_aux_lemma => kernel_rfl) (by as_aux_lemma => kernel_rfl))
    laidOut rfl (by as_aux_lemma => kernel_rfl) (by as_aux_lemma => kernel_rfl) boolType
    (fun ds h => by
      match ds, h with
      | [_], _ => rfl)
    ?_
  intro W base args ds q hval hA
  rw [Try.params8] at hA hval
  obtain ⟨v0, vs0, d0, ds0, p0, q0, hargs, rfl, rfl, h0, r0⟩ := trodAll_cons hA
  obtain ⟨rfl, rfl, rfl⟩ := trodAll_nil r0
  obtain rfl : args = #[v0] := by cases args; simp_all
  obtain ⟨a0, len0, cap0, z0, rfl, w0⟩ := open_bytes Try.underlying22 Try.underlying5 (by as_aux_lemma => kernel_rfl) (hval 0 22 v0 rfl rfl) h0
  exact stepBack_walk W a0 len0 cap0 z0 w0

theorem stepBack_facts : joinedFacts Try.pinned.checked.prog 8 Try.f8 Rows.fnStepBackSpec Rows.fnStepBackRow = true :=
  facts_of (P := Try.prog) (by as_aux_lemma => kernel_rfl) laidOut mapsRow (by as_aux_lemma => kernel_rfl) (by as_aux_lemma => kernel_rfl) rfl noStops rfl noKnobs (by as_aux_lemma => kernel_rfl) (by as_aux_lemma => kernel_rfl) (by as_aux_lemma => kernel_rfl) (by as_aux_lemma => kernel_rfl) (by as_aux_lemma => kernel_rfl) (by as_aux_lemma => kernel_rfl) (by as_aux_lemma => kernel_rfl) (by as_aux_lemma => kernel_rfl) (by as_aux_lemma => kernel_rfl) rfl (by as_aux_lemma => kernel_rfl) (by as_aux_lemma => kernel_rfl) (by as_aux_lemma => kernel_rfl) keysPlain rfl heard enters finals isMake rfl rfl rfl (by as_aux_lemma => kernel_rfl) (by as_aux_lemma => kernel_rfl)

/-- The given statement. -/
theorem stepBack_holds : Rows.FnStepBackSaid :=
  OpenClaim.holds_of_wide 8 Try.f8 rfl rfl rfl rfl rfl rfl rfl ⟨rfl, rfl, rfl, rfl, rfl⟩ rfl rfl rfl rfl rfl (by as_aux_lemma => kernel_rfl) Try.func8 stepBack_facts
    (of_decide_eq_true (by as_aux_lemma => kernel_rfl)) (by unfold Func.isWrapper; first | (rw [if_pos (by decide +kernel)]; kernel_rfl) | (rw [if_neg (by decide +kernel)]; exact ⟨rfl, rfl⟩))
    (fun os started H enc _ => stepBack_lifted os started H enc)
#print axioms stepBack_holds
end Go.Proofs.Ytlabmnfmijbpfaa
