/- A great offset that is there twice is stepped the second time; one that is there once leaves nothing behind: at all drawn clocks and gaps. -/
import Derived.Test.YtlabmnfmijbpfaaCkAdjI
import Derived.Test.YtlabmnfmijbpfaaCkAdjS
import Derived.Test.YtlabmnfmijbpfaaCkDraws
namespace Go.Proofs.Ytlabmnfmijbpfaa
open Go.ChangeShapes Go.WideShapes Go.ChangeAt Go.RowKit
set_option linter.unusedVariables false
set_option linter.unusedSimpArgs false

/-- A clock that slews passes over a great offset, steps the next one; a small one behind it leaves what it would have left at once. -/
theorem spike_math {c : Ck} {g : Int} (h : adjOk c 1000000 g = true) (hs : c.st = 1) :
    adjOk (adjV c 1000000 g) 1000000 g = true ∧ stepV (adjV c 1000000 g) 1000000 g = 1000000 ∧ adjOk (adjV c 1000000 g) 0 g = true ∧ stepV (adjV c 1000000 g) 0 g = 0 ∧ adjOk c 0 g = true ∧ stepV c 0 g = 0 ∧ adjV (adjV c 1000000 g) 0 g = adjV c 0 g := by
  obtain ⟨st, off, fr, poll, calm⟩ := c
  dsimp only at hs
  subst hs
  obtain ⟨hc, _, hg⟩ := adjOk_iff.1 h
  have e1 : adjV ⟨1, off, fr, poll, calm⟩ 1000000 g = ⟨2, off, fr, poll, calm⟩ := by unfold adjV; rw [h]; rfl
  have ok2 : (⟨2, off, fr, poll, calm⟩ : Ck).ok = true := e1 ▸ adjV_ok h
  have k1 : adjOk ⟨2, off, fr, poll, calm⟩ 1000000 g = true := adjOk_iff.2 ⟨ok2, by omega, hg⟩
  have k2 : adjOk ⟨2, off, fr, poll, calm⟩ 0 g = true := adjOk_iff.2 ⟨ok2, by omega, hg⟩
  have k3 : adjOk ⟨1, off, fr, poll, calm⟩ 0 g = true := adjOk_iff.2 ⟨hc, by omega, hg⟩
  rw [e1]
  refine ⟨k1, ?_, k2, ?_, k3, ?_, ?_⟩
  · unfold stepV; rw [k1]; rfl
  · unfold stepV; rw [k2]; rfl
  · unfold stepV; rw [k3]; rfl
  · unfold adjV; rw [k2, k3]; rfl

set_option maxHeartbeats 2000000 in
set_option maxRecDepth 100000 in
theorem spike_walk (w : World) (x : Option Addr) (n cap z : Nat) (hz : z = n ∧ Code w.heap.size w (.slice x n cap) n) :
    Calls Try.prog 4 #[.slice x n cap] w fun e w' => e = .returned (.bool true) ∧ Below w.heap.size w w' := by
  obtain ⟨_, hc⟩ := hz
  by_cases hbig : n ≤ 1048576
  · go_enter Try.func4, Try.ntmps4
    go_wp2_with (go_at_call 12; go_in)
    refine (drawAdjusted_c x n cap _ hc hbig).mono ?_
    rintro e w1 ⟨c, o, g, rfl, hb1⟩
    have hS := adjusted_spec c 1000000 g
    have hI := adjusted_impl c 1000000 g
    obtain ⟨v, hv⟩ : ∃ v, adjV c 1000000 g = v := ⟨_, rfl⟩
    obtain ⟨m, hm⟩ : ∃ m, stepV c 1000000 g = m := ⟨_, rfl⟩
    obtain ⟨b, hb⟩ : ∃ b, adjOk c 1000000 g = b := ⟨_, rfl⟩
    rw [hv, hm, hb] at hS hI
    have HS := Lib.hid hS
    have HI := Lib.hid hI
    have HV := Lib.hid hv
    have HB := Lib.hid hb
    clear hS hI hv hm hb
    have P1 := blk_new w1 (.cells #[.int .i64 c.st, .int .i64 c.off, .int .i64 c.fr, .int .i64 c.poll, .int .i64 c.calm] 25)
    have G1 : Below w.heap.size w (w1.alloc (.cells #[.int .i64 c.st, .int .i64 c.off, .int .i64 c.fr, .int .i64 c.poll, .int .i64 c.calm] 25)) := hb1.alloc (by have := hb1.size; omega) _
    go_wp2_with fail
    refine (HI.out _).mono ?_
    rintro e w2 ⟨rfl, hb2⟩
    have Q1 := blk_next hb2 P1
    have X := ck_cells Q1
    have G2 := grow_next G1 hb2
    have l1 := (Array.getElem?_eq_some_iff.1 Q1).1
    have P2 := blk_new w2 (.cells #[.int .i64 v.st, .int .i64 v.off, .int .i64 v.fr, .int .i64 v.poll, .int .i64 v.calm] 25)
    have G3 : Below w.heap.size w (w2.alloc (.cells #[.int .i64 v.st, .int .i64 v.off, .int .i64 v.fr, .int .i64 v.poll, .int .i64 v.calm] 25)) := G2.alloc (by have := G2.size; omega) _
    go_wp2_with fail
    refine (HS.out _).mono ?_
    rintro e w3 ⟨rfl, hb3⟩
    have R1 := blk_next hb3 (blk_alloc Q1 (.cells #[.int .i64 v.st, .int .i64 v.off, .int .i64 v.fr, .int .i64 v.poll, .int .i64 v.calm] 25))
    have Q2 := blk_next hb3 P2
    have G4' := grow_next G3 hb3
    have G4 : Below w.heap.size w (w3.alloc (.cells #[.int .i64 v.st, .int .i64 v.off, .int .i64 v.fr, .int .i64 v.poll, .int .i64 v.calm] 25)) := G4'.alloc (by have := G4'.size; omega) _
    have S1 := blk_alloc R1 (.cells #[.int .i64 v.st, .int .i64 v.off, .int .i64 v.fr, .int .i64 v.poll, .int .i64 v.calm] 25)
    have S2 := blk_alloc Q2 (.cells #[.int .i64 v.st, .int .i64 v.off, .int .i64 v.fr, .int .i64 v.poll, .int .i64 v.calm] 25)
    clear X l1 P1 G1 Q1 G2 P2 G3 hb1 hb2 hb3 HI HS G4'
    have X := ck_cells R1
    have Y := ck_cells Q2
    have l1 := (Array.getElem?_eq_some_iff.1 R1).1
    have l2 := (Array.getElem?_eq_some_iff.1 Q2).1
    by_cases hs : b = true ∧ c.st = 1
    · obtain ⟨rfl, hs⟩ := hs
      obtain ⟨k1, k2, k3, k4, k5, k6, k7⟩ := spike_math HB.out hs
      rw [HV.out] at k1 k2 k3 k4 k7
      have hA := adjusted_impl v 1000000 g
      have hB := adjusted_impl v 0 g
      have hC := adjusted_impl c 0 g
      rw [k1, k2] at hA
      rw [k3, k4, k7] at hB
      rw [k5, k6] at hC
      obtain ⟨u, hu⟩ : ∃ u, adjV v 1000000 g = u := ⟨_, rfl⟩
      obtain ⟨t, ht⟩ : ∃ t, adjV c 0 g = t := ⟨_, rfl⟩
      rw [hu] at hA
      rw [ht] at hB hC
      have HA := Lib.hid hA
      have HC := Lib.hid hC
      have HBk := Lib.hid hB
      have hs1 : ((c.st : Int) == 1) = true := by simpa using hs
      have hs2 : ((c.st : Int) != 1) = false := by simpa using hs
      clear hA hB hC hu ht k1 k2 k3 k4 k5 k6 k7 HV HB hs
      go_wp2_with fail
      refine (HA.out _).mono ?_
      rintro e w4 ⟨rfl, hb4⟩
      have R2 := blk_next hb4 S1
      have Q3 := blk_next hb4 S2
      have G5' := grow_next G4 hb4
      have G5 : Below w.heap.size w (w4.alloc (.cells #[.int .i64 u.st, .int .i64 u.off, .int .i64 u.fr, .int .i64 u.poll, .int .i64 u.calm] 25)) := G5'.alloc (by have := G5'.size; omega) _
      have S3 := blk_alloc R2 (.cells #[.int .i64 u.st, .int .i64 u.off, .int .i64 u.fr, .int .i64 u.poll, .int .i64 u.calm] 25)
      clear X Y l1 l2 R1 Q2 S1 S2 G4 hb4 HA G5'
      have X := ck_cells R2
      have Y := ck_cells Q3
      have l1 := (Array.getElem?_eq_some_iff.1 R2).1
      have l2 := (Array.getElem?_eq_some_iff.1 Q3).1
      go_wp2_with fail
      refine (HBk.out _).mono ?_
      rintro e w5 ⟨rfl, hb5⟩
      have R3 := blk_next hb5 S3
      have G6 := grow_next G5 hb5
      have P3 := blk_new w5 (.cells #[.int .i64 t.st, .int .i64 t.off, .int .i64 t.fr, .int .i64 t.poll, .int .i64 t.calm] 25)
      have G7 : Below w.heap.size w (w5.alloc (.cells #[.int .i64 t.st, .int .i64 t.off, .int .i64 t.fr, .int .i64 t.poll, .int .i64 t.calm] 25)) := G6.alloc (by have := G6.size; omega) _
      clear X Y l1 l2 R2 Q3 S3 G5 hb5 HBk
      have X := ck_cells R3
      have l1 := (Array.getElem?_eq_some_iff.1 R3).1
      go_wp2_with fail
      refine (HC.out _).mono ?_
      rintro e w6 ⟨rfl, hb6⟩
      have P4 := blk_next hb6 P3
      have G8 := grow_next G7 hb6
      have G9 : Below w.heap.size w (w6.alloc (.cells #[.int .i64 t.st, .int .i64 t.off, .int .i64 t.fr, .int .i64 t.poll, .int .i64 t.calm] 25)) := G8.alloc (by have := G8.size; omega) _
      clear X l1 R3 G6 G7 hb6 HC P3
      have X := ck_cells P4
      have l1 := (Array.getElem?_eq_some_iff.1 P4).1
      go_wp2_with fail
      go_returns
      exact ⟨rfl, G9⟩
    · clear HV HB
      cases b with
      | false =>
        clear hs
        go_wp2_with fail
        go_returns
        exact ⟨rfl, G4⟩
      | true =>
        have hs1 : ((c.st : Int) == 1) = false := by simpa using hs
        have hs2 : ((c.st : Int) != 1) = true := by simpa using hs
        clear hs
        go_wp2_with fail
        go_returns
        exact ⟨rfl, G4⟩
  · go_enter Try.func4, Try.ntmps4
    go_wp2_with (go_at_call 12; go_in)
    go_returns
    exact ⟨rfl, Below.refl _ _⟩

set_option maxRecDepth 100000 in
theorem spike_lifted (os : Os) (started : os.Started) (H : Type) (enc : TypeId × Value → H) :
    ReturnsInHanded {} Try.checked os 4 .any (Rows.fnSpikeSpec.pre6 enc Try.prog Try.f4 Rows.fnSpikeRow.domain false) (Rows.fnSpikeSpec.post enc Try.prog Try.f4 false true false false) := by
  refine lifted_of_walk (C := Try.checked) own started (by as_aux_lemma => kernel_rfl) Try.func4
    (ChangeSpec.witness6 (enc := enc) (C := Try.checked) false ⟨#[], #[.slice none 0 0], []⟩ 8 (by as_aux_lemma => kernel_rfl) (by as_aux_lemma => kernel_rfl) (by as_aux_lemma => kernel_rfl) (by as_aux_lemma => kernel_rfl) (by as_aux_lemma => kernel_rfl))
    laidOut rfl (by as_aux_lemma => kernel_rfl) (by as_aux_lemma => kernel_rfl) boolType
    (fun ds h => by
      match ds, h with
      | [_], _ => rfl)
    ?_
  intro W base args ds q hval hA
  rw [Try.params4] at hA hval
  obtain ⟨v0, vs0, d0, ds0, p0, q0, hargs, rfl, rfl, h0, r0⟩ := trodAll_cons hA
  obtain ⟨rfl, rfl, rfl⟩ := trodAll_nil r0
  obtain rfl : args = #[v0] := by cases args; simp_all
  obtain ⟨a0, len0, cap0, z0, rfl, w0⟩ := open_bytes Try.underlying22 Try.underlying5 (by as_aux_lemma => kernel_rfl) (hval 0 22 v0 rfl rfl) h0
  exact spike_walk W a0 len0 cap0 z0 w0

theorem spike_facts : joinedFacts Try.pinned.checked.prog 4 Try.f4 Rows.fnSpikeSpec Rows.fnSpikeRow = true :=
  facts_of (P := Try.prog) (by as_aux_lemma => kernel_rfl) laidOut mapsRow (by as_aux_lemma => kernel_rfl) (by as_aux_lemma => kernel_rfl) rfl noStops rfl noKnobs (by as_aux_lemma => kernel_rfl) (by as_aux_lemma => kernel_rfl) (by as_aux_lemma => kernel_rfl) (by as_aux_lemma => kernel_rfl) (by as_aux_lemma => kernel_rfl) (by as_aux_lemma => kernel_rfl) (by as_aux_lemma => kernel_rfl) (by as_aux_lemma => kernel_rfl) (by as_aux_lemma => kernel_rfl) rfl (by as_aux_lemma => kernel_rfl) (by as_aux_lemma => kernel_rfl) (by as_aux_lemma => kernel_rfl) keysPlain rfl heard enters finals isMake rfl rfl rfl (by as_aux_lemma => kernel_rfl) (by as_aux_lemma => kernel_rfl)

/-- The given statement. -/
theorem spike_holds : Rows.FnSpikeSaid :=
  OpenClaim.holds_of_wide 4 Try.f4 rfl rfl rfl rfl rfl rfl rfl ⟨rfl, rfl, rfl, rfl, rfl⟩ rfl rfl rfl rfl rfl (by as_aux_lemma => kernel_rfl) Try.func4 spike_facts
    (of_decide_eq_true (by as_aux_lemma => kernel_rfl)) (by unfold Func.isWrapper; first | (rw [if_pos (by decide +kernel)]; kernel_rfl) | (rw [if_neg (by decide +kernel)]; exact ⟨rfl, rfl⟩))
    (fun os started H enc _ => spike_lifted os started H enc)
#print axioms spike_holds
end Go.Proofs.Ytlabmnfmijbpfaa
