/- As long as it is calm the poll grows by one each fourth time, up to the greatest; what is not calm makes it less: at all drawn clocks. -/
import Derived.Test.YtlabmnfmijbpfaaCkAdjI
import Derived.Test.YtlabmnfmijbpfaaCkAdjS
import Derived.Test.YtlabmnfmijbpfaaCkDraws
namespace Go.Proofs.Ytlabmnfmijbpfaa
open Go.ChangeShapes Go.WideShapes Go.ChangeAt Go.RowKit
set_option linter.unusedVariables false
set_option linter.unusedSimpArgs false

/-- How far a clock has come on its way to the greatest poll. -/
def phi (c : Ck) : Int := 4 * (c.poll - 4) + c.calm
theorem poll_step {c : Ck} (h : c.ok = true) : adjOk c 5 64 = true ∧ (adjV c 5 64).ok = true ∧ c.poll ≤ (adjV c 5 64).poll ∧ (adjV c 5 64).poll ≤ c.poll + 1 ∧ (phi c < 24 → phi c + 1 ≤ phi (adjV c 5 64)) ∧ (24 ≤ phi c → 24 ≤ phi (adjV c 5 64)) := by
  have k : adjOk c 5 64 = true := adjOk_iff.2 ⟨h, by omega, by omega⟩
  have hok := adjV_ok k
  obtain ⟨_, _, _, p, a⟩ := Ck.ok_iff.1 h
  have hu : unB 5 128000 = true := rfl
  have e1 : adjV c 5 64 = polled ⟨1, 5, rateV c 5 64, c.poll, c.calm⟩ 5 := by unfold adjV; rw [k, hu]; rfl
  refine ⟨k, hok, ?_⟩
  rw [e1]
  unfold polled phi
  rw [show unB 5 10000 = true from rfl, show unB 5 1000 = true from rfl]
  simp only [Bool.true_eq_false, if_false, if_true]
  split <;> (dsimp only; omega)
theorem poll_top {c : Ck} (h : c.ok = true) (hp : 24 ≤ phi c) : c.poll = 10 := by
  obtain ⟨_, _, _, p, a⟩ := Ck.ok_iff.1 h
  unfold phi at hp
  omega
theorem poll_low {c : Ck} (h : c.ok = true) (hp : c.poll = 10) : adjOk c 50000 64 = true ∧ (adjV c 50000 64).poll = 9 := by
  have k : adjOk c 50000 64 = true := adjOk_iff.2 ⟨h, by omega, by omega⟩
  have hu : unB 50000 128000 = true := rfl
  have e1 : adjV c 50000 64 = polled ⟨1, 50000, rateV c 50000 64, c.poll, c.calm⟩ 50000 := by unfold adjV; rw [k, hu]; rfl
  refine ⟨k, ?_⟩
  rw [e1]
  unfold polled
  rw [show unB 50000 10000 = false from rfl]
  simp only [if_true]
  omega

set_option maxHeartbeats 4000000 in
set_option maxRecDepth 100000 in
theorem polls_walk (w : World) (x : Option Addr) (n cap z : Nat) (hz : z = n ∧ Code w.heap.size w (.slice x n cap) n) :
    Calls Try.prog 7 #[.slice x n cap] w fun e w' => e = .returned (.bool true) ∧ Below w.heap.size w w' := by
  obtain ⟨_, hc⟩ := hz
  by_cases hbig : n ≤ 1048576
  · go_enter Try.func7, Try.ntmps7
    go_wp2_with (go_at_call 12; go_in)
    refine (drawAdjusted_c x n cap _ hc hbig).mono ?_
    rintro e w1 ⟨c, o, g, rfl, hb1⟩
    have hS := adjusted_spec c 0 64
    have hI := adjusted_impl c 0 64
    obtain ⟨v, hv⟩ : ∃ v, adjV c 0 64 = v := ⟨_, rfl⟩
    obtain ⟨m, hm⟩ : ∃ m, stepV c 0 64 = m := ⟨_, rfl⟩
    obtain ⟨b, hb⟩ : ∃ b, adjOk c 0 64 = b := ⟨_, rfl⟩
    have hE : b = true → v.ok = true := fun e => hv ▸ adjV_ok (hb.trans e)
    rw [hv, hm, hb] at hS hI
    have HS := Lib.hid hS
    have HI := Lib.hid hI
    clear hS hI hv hm hb
    have P1 := blk_new w1 (.cells #[.int .i64 c.st, .int .i64 c.off, .int .i64 c.fr, .int .i64 c.poll, .int .i64 c.calm] 25)
    have G1 : Below w.heap.size w (w1.alloc (.cells #[.int .i64 c.st, .int .i64 c.off, .int .i64 c.fr, .int .i64 c.poll, .int .i64 c.calm] 25)) := hb1.alloc (by have := hb1.size; omega) _
    go_wp2_with fail
    refine (HI.out _).mono ?_
    rintro e w2 ⟨rfl, hb2⟩
    have Q1 := blk_next hb2 P1
    have X := ck_cells Q1
    have G2 := grow_next G1 hb2
    have l1 := (Array.getElem?_eq_some_iff.1 Q1).1
    have P2 := blk_new w2 (.cells #[.int .i64 v.st, .int .i64 v.off, .int .i64 v.fr, .int .i64 v.poll, .int .i64 v.calm] 25)
    have L2 : w.heap.size ≤ w2.heap.size := G2.size
    have G3 : Below w.heap.size w (w2.alloc (.cells #[.int .i64 v.st, .int .i64 v.off, .int .i64 v.fr, .int .i64 v.poll, .int .i64 v.calm] 25)) := G2.alloc L2 _
    go_wp2_with fail
    refine (HS.out _).mono ?_
    rintro e w3 ⟨rfl, hb3⟩
    have R2 := blk_next hb3 P2
    have G4' := grow_next G3 hb3
    have G4 : Below w.heap.size w (w3.alloc (.cells #[.int .i64 v.st, .int .i64 v.off, .int .i64 v.fr, .int .i64 v.poll, .int .i64 v.calm] 25)) := G4'.alloc (by have := G4'.size; omega) _
    have S2 := blk_alloc R2 (.cells #[.int .i64 v.st, .int .i64 v.off, .int .i64 v.fr, .int .i64 v.poll, .int .i64 v.calm] 25)
    clear X l1 P1 G1 Q1 G2 P2 G3 hb1 hb2 hb3 HI HS G4'
    have Y := ck_cells R2
    have l2 := (Array.getElem?_eq_some_iff.1 R2).1
    cases b with
    | false =>
      clear hE
      go_wp2_with fail
      go_returns
      exact ⟨rfl, G4⟩
    | true =>
      have hvok := hE rfl
      clear hE
      have HK := Lib.hid hvok
      clear hvok
      go_wp2_with fail
      go_loopw [12] (fun i wr => ∃ (k : Nat) (c : Ck), k ≤ 40 ∧ i = .int .i64 k ∧ wr.heap[w2.heap.size]? = some (.cells #[.int .i64 c.st, .int .i64 c.off, .int .i64 c.fr, .int .i64 c.poll, .int .i64 c.calm] 25) ∧ c.ok = true ∧ ((k : Int) ≤ phi c ∨ 24 ≤ phi c) ∧ Below w.heap.size w wr) (fun i _ => 40 - (intOf i).toNat)
      case atStart =>
        have hk := HK.out
        obtain ⟨_, _, _, p, a⟩ := Ck.ok_iff.1 hk
        exact ⟨0, v, by omega, rfl, S2, hk, .inl (by unfold phi; omega), G4⟩
      case round =>
        obtain ⟨k, c, hk, rfl, hB, hok, hphi, hG⟩ := hrel
        clear Y l2 S2 G4 R2 HK
        have Y := ck_cells hB
        have l2 := (Array.getElem?_eq_some_iff.1 hB).1
        by_cases hlt : k < 40
        · obtain ⟨q1, q2, q3, q4, q5, q6⟩ := poll_step hok
          have hI := adjusted_impl c 5 64
          obtain ⟨u, hu⟩ : ∃ u, adjV c 5 64 = u := ⟨_, rfl⟩
          obtain ⟨s, hs⟩ : ∃ s, stepV c 5 64 = s := ⟨_, rfl⟩
          rw [q1, hu, hs] at hI
          rw [hu] at q2 q3 q4 q5 q6
          have HI := Lib.hid hI
          have HQ := Lib.hid (show ((k + 1 : Nat) : Int) ≤ phi u ∨ 24 ≤ phi u by omega)
          have HU := Lib.hid q2
          obtain ⟨_, _, _, ⟨p0, p1⟩, _⟩ := Ck.ok_iff.1 hok
          have t1 : decide (u.poll < c.poll) = false := by simpa using q3
          have t2 : decide (c.poll + 1 < u.poll) = false := by simpa using q4
          have t3 : ¬ u.poll < c.poll := by omega
          have t4 : ¬ c.poll + 1 < u.poll := by omega
          clear hI hu hs q1 q2 q5 q6 hok hphi
          go_wp2_with fail
          refine (HI.out _).mono ?_
          rintro e w5 ⟨rfl, hb5⟩
          have D := blk_next hb5 hB
          have G5' := grow_next hG hb5
          have G5 : Below w.heap.size w (w5.alloc (.cells #[.int .i64 u.st, .int .i64 u.off, .int .i64 u.fr, .int .i64 u.poll, .int .i64 u.calm] 25)) := G5'.alloc (by have := G5'.size; omega) _
          clear Y l2 hB hG hb5 HI
          have Y := ck_cells D
          have V := ck_thaw D
          have l2 := (Array.getElem?_eq_some_iff.1 D).1
          go_wp2_with fail
          go_roundw
          case rel =>
            have K1 := blk_alloc (ck_put D u) (.cells #[.int .i64 u.st, .int .i64 u.off, .int .i64 u.fr, .int .i64 u.poll, .int .i64 u.calm] 25)
            have K0 := below_fin G5' L2 u
            have K2 := K0.alloc K0.size (.cells #[.int .i64 u.st, .int .i64 u.off, .int .i64 u.fr, .int .i64 u.poll, .int .i64 u.calm] 25)
            with_reducible exact ⟨k + 1, u, by omega, by go_num, K1, HU.out, HQ.out, K2⟩
          case measure => simp [intOf]; omega
        · have hp := poll_top hok (by omega)
          obtain ⟨q1, q2⟩ := poll_low hok hp
          have hI := adjusted_impl c 50000 64
          obtain ⟨u, hu⟩ : ∃ u, adjV c 50000 64 = u := ⟨_, rfl⟩
          obtain ⟨s, hs⟩ : ∃ s, stepV c 50000 64 = s := ⟨_, rfl⟩
          rw [q1, hu, hs] at hI
          rw [hu] at q2
          have HI := Lib.hid hI
          have t1 : ((c.poll : Int) == 10) = true := by simpa using hp
          have t2 : ((u.poll : Int) == 9) = true := by simpa using q2
          clear hI hu hs q1 q2 hok hphi hp
          go_wp2_with fail
          refine (HI.out _).mono ?_
          rintro e w5 ⟨rfl, hb5⟩
          have D := blk_next hb5 hB
          have G5' := grow_next hG hb5
          have G5 : Below w.heap.size w (w5.alloc (.cells #[.int .i64 u.st, .int .i64 u.off, .int .i64 u.fr, .int .i64 u.poll, .int .i64 u.calm] 25)) := G5'.alloc (by have := G5'.size; omega) _
          clear Y l2 hB hG hb5 G5' HI
          have Y := ck_cells D
          have l2 := (Array.getElem?_eq_some_iff.1 D).1
          go_wp2_with fail
          go_returns
          exact ⟨rfl, G5⟩
  · go_enter Try.func7, Try.ntmps7
    go_wp2_with (go_at_call 12; go_in)
    go_returns
    exact ⟨rfl, Below.refl _ _⟩

set_option maxRecDepth 100000 in
theorem polls_lifted (os : Os) (started : os.Started) (H : Type) (enc : TypeId × Value → H) :
    ReturnsInHanded {} Try.checked os 7 .any (Rows.fnPollsSpec.pre6 enc Try.prog Try.f7 Rows.fnPollsRow.domain false) (Rows.fnPollsSpec.post enc Try.prog Try.f7 false true false false) := by
  refine lifted_of_walk (C := Try.checked) own started (by as_aux_lemma => kernel_rfl) Try.func7
    (ChangeSpec.witness6 (enc := enc) (C := Try.checked) false ⟨#[], #[.slice none 0 0], []⟩ 8 (by as_aux_lemma => kernel_rfl) (by as_aux_lemma => kernel_rfl) (by as_aux_lemma => kernel_rfl) (by as_aux_lemma => kernel_rfl) (by as_aux_lemma => kernel_rfl))
    laidOut rfl (by as_aux_lemma => kernel_rfl) (by as_aux_lemma => kernel_rfl) boolType
    (fun ds h => by
      match ds, h with
      | [_], _ => rfl)
    ?_
  intro W base args ds q hval hA
  rw [Try.params7] at hA hval
  obtain ⟨v0, vs0, d0, ds0, p0, q0, hargs, rfl, rfl, h0, r0⟩ := trodAll_cons hA
  obtain ⟨rfl, rfl, rfl⟩ := trodAll_nil r0
  obtain rfl : args = #[v0] := by cases args; simp_all
  obtain ⟨a0, len0, cap0, z0, rfl, w0⟩ := open_bytes Try.underlying22 Try.underlying5 (by as_aux_lemma => kernel_rfl) (hval 0 22 v0 rfl rfl) h0
  exact polls_walk W a0 len0 cap0 z0 w0

theorem polls_facts : joinedFacts Try.pinned.checked.prog 7 Try.f7 Rows.fnPollsSpec Rows.fnPollsRow = true :=
  facts_of (P := Try.prog) (by as_aux_lemma => kernel_rfl) laidOut mapsRow (by as_aux_lemma => kernel_rfl) (by as_aux_lemma => kernel_rfl) rfl noStops rfl noKnobs (by as_aux_lemma => kernel_rfl) (by as_aux_lemma => kernel_rfl) (by as_aux_lemma => kernel_rfl) (by as_aux_lemma => kernel_rfl) (by as_aux_lemma => kernel_rfl) (by as_aux_lemma => kernel_rfl) (by as_aux_lemma => kernel_rfl) (by as_aux_lemma => kernel_rfl) (by as_aux_lemma => kernel_rfl) rfl (by as_aux_lemma => kernel_rfl) (by as_aux_lemma => kernel_rfl) (by as_aux_lemma => kernel_rfl) keysPlain rfl heard enters finals isMake rfl rfl rfl (by as_aux_lemma => kernel_rfl) (by as_aux_lemma => kernel_rfl)

/-- The given statement. -/
theorem polls_holds : Rows.FnPollsSaid :=
  OpenClaim.holds_of_wide 7 Try.f7 rfl rfl rfl rfl rfl rfl rfl ⟨rfl, rfl, rfl, rfl, rfl⟩ rfl rfl rfl rfl rfl (by as_aux_lemma => kernel_rfl) Try.func7 polls_facts
    (of_decide_eq_true (by as_aux_lemma => kernel_rfl)) (by unfold Func.isWrapper; first | (rw [if_pos (by decide +kernel)]; kernel_rfl) | (rw [if_neg (by decide +kernel)]; exact ⟨rfl, rfl⟩))
    (fun os started H enc _ => polls_lifted os started H enc)
#print axioms polls_holds
end Go.Proofs.Ytlabmnfmijbpfaa
