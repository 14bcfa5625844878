/- What is told in few bytes is never less than it was, and less than sixteen more; what is read, written again, has just its bytes: at every drawn length and text. -/
import Derived.Test.YtkmjemdcmonllaaPutBack
import Derived.Test.YtkmjemdcmonllaaHurt
import Derived.Test.YtkmjemdcmonllaaShortMore
namespace Go.Proofs.Ytkmjemdcmonllaa
open Go.ChangeShapes Go.WideShapes Go.ChangeAt Go.RowKit
set_option linter.unusedVariables false

/-- Any text of at most so many bytes; nothing that lay has turned. -/
def AnyText (m : Nat) (w : World) : Ending → World → Prop := fun e w' => ∃ s : ByteArray, s.size ≤ m ∧ e = .returned (.string s) ∧ Below w.heap.size w w'

theorem shortB_size (d : Int) : (shortB d).size ≤ 4 := by
  unfold shortB
  split
  · exact Nat.le_refl 4
  · exact Nat.zero_le _

theorem Code.next {w w' : World} {sv : Value} {n : Nat} (h : Code w.heap.size w sv n) (hb : Below w.heap.size w w') : Code w'.heap.size w' sv n := (h.below hb).mono hb.size

set_option maxHeartbeats 1000000 in
theorem drawReadShort_c (x : Option Addr) (n cap : Nat) (w : World) (hc : Code w.heap.size w (.slice x n cap) n) (hn : n ≤ 1048576) : Calls Try.prog 32 #[.slice x n cap] w (AnyText 5 w) := by
  go_enter Try.func32, Try.ntmps32
  go_wp2_with fail
  refine (open_c x n cap _).mono ?_
  rintro e w1 ⟨rfl, rfl⟩
  go_wp2_with fail
  refine (below_c _ 268435456 268435455 (by omega) (by omega) (by omega) _ (rd_open hc hn)).mono ?_
  rintro e w2 ⟨v, v0, v1, rfl, hr2, hg2⟩
  have hb2 := grown_below ((Below.refl _ _).alloc (Nat.le_refl _) _) hg2 (Nat.le_refl _)
  go_wp2_with fail
  refine (shortBytes_spec v _).mono ?_
  rintro e w3 ⟨rfl, hb3⟩
  have hb23 := grow_next hb2 hb3
  have hr3 : Rd w3 w.heap.size := hr2.kept (row := none) ⟨hb3.os, hb3.tape, hb3.output, hb3.size, fun k hk _ => hb3.block k hk⟩ (by simp)
  have hsz := shortB_size v
  obtain ⟨s, es⟩ : ∃ s, shortB v = s := ⟨_, rfl⟩
  rw [es] at hsz
  rw [es]
  clear es
  go_wp2_with fail
  refine (once_c _ 2 (by omega) (by omega) _ hr3).mono ?_
  rintro e w4 ⟨b, rfl, hr4, hg4⟩
  have hb4 := grown_below hb23 hg4 (Nat.le_refl _)
  cases b with
  | true =>
    go_wp2_with fail
    refine (hurt_c _ s (by omega) _ hr4).mono ?_
    rintro e w5 ⟨u, hu, rfl, hr5, hg5⟩
    go_wp2_with fail
    go_returns
    exact ⟨u, by omega, rfl, grown_below hb4 hg5 (Nat.le_refl _)⟩
  | false =>
    go_wp2_with fail
    go_returns
    exact ⟨s, by omega, rfl, hb4⟩

set_option maxHeartbeats 4000000 in
theorem shorts_walk (w : World) (a : Option Addr) (n cap z : Nat) (hz : z = n ∧ Code w.heap.size w (.slice a n cap) n) :
    Calls Try.prog 5 #[.slice a n cap] w fun e w' => e = .returned (.bool true) ∧ Below w.heap.size w w' := by
  obtain ⟨hzn, hc⟩ := hz
  clear hzn
  by_cases hbig : n ≤ 1048576
  · go_enter Try.func5, Try.ntmps5
    go_wp2_with (go_at_call 20; go_in)
    refine (drawShort_c a n cap _ hc hbig).mono ?_
    rintro e w1 ⟨d, d0, d1, rfl, hb1⟩
    go_wp2_with fail
    refine (shortBytes_impl d _).mono ?_
    rintro e w2 ⟨rfl, hb2⟩
    have g2 := grow_next hb1 hb2
    go_wp2_with fail
    refine (drawReadShort_c a n cap _ (hc.next g2) hbig).mono ?_
    rintro e w3 ⟨u, hu, rfl, hb3⟩
    have g3 := grow_next g2 hb3
    clear hb1 hb2 hb3 g2
    go_wp2_with fail
    refine (readShort_impl u _).mono ?_
    rintro e w4 ⟨rfl, rfl⟩
    go_wp2_with fail
    refine (readShort_spec u _).mono ?_
    rintro e w4 ⟨rfl, rfl⟩
    go_wp2_with fail
    refine (shortBytes_spec d _).mono ?_
    rintro e w4 ⟨rfl, hb4⟩
    have g4 := grow_next g3 hb4
    cases hok : shortOk u with
    | true =>
      by_cases hd : 0 ≤ d ∧ d ≤ 65535000000
      · have k1 := shortB_some hd
        obtain ⟨k3, k4, k5, k6⟩ := short_read d hd
        go_wp2_with fail
        refine (shortBytes_impl (shortV u) _).mono ?_
        rw [short_back u hok]
        rintro e w5 ⟨rfl, hb5⟩
        have g5 := grow_next g4 hb5
        go_wp2_with fail
        refine (readShort_impl (shortB d) _).mono ?_
        rintro e w6 ⟨rfl, rfl⟩
        go_wp2_with fail
        go_returns
        exact ⟨rfl, by assumption⟩
      · rw [shortB_none hd]
        go_wp2_with fail
        refine (shortBytes_impl (shortV u) _).mono ?_
        rw [short_back u hok]
        rintro e w5 ⟨rfl, hb5⟩
        have g5 := grow_next g4 hb5
        go_wp2_with fail
        go_returns
        exact ⟨rfl, by assumption⟩
    | false =>
      by_cases hd : 0 ≤ d ∧ d ≤ 65535000000
      · have k1 := shortB_some hd
        obtain ⟨k3, k4, k5, k6⟩ := short_read d hd
        go_wp2_with fail
        refine (readShort_impl (shortB d) _).mono ?_
        rintro e w6 ⟨rfl, rfl⟩
        go_wp2_with fail
        go_returns
        exact ⟨rfl, by assumption⟩
      · rw [shortB_none hd]
        go_wp2_with fail
        go_returns
        exact ⟨rfl, by assumption⟩
  · go_enter Try.func5, Try.ntmps5
    go_wp2_with (go_at_call 20; go_in)
    go_returns
    exact ⟨rfl, Below.refl _ _⟩

set_option maxRecDepth 100000 in
theorem shorts_lifted (os : Os) (started : os.Started) (H : Type) (enc : TypeId × Value → H) :
    ReturnsInHanded {} Try.checked os 5 .any (Rows.fnShortsSpec.pre6 enc Try.prog Try.f5 Rows.fnShortsRow.domain false) (Rows.fnShortsSpec.post enc Try.prog Try.f5 false true false false) := by
  refine lifted_of_walk (C := Try.checked) own started (by as_aux_lemma => kernel_rfl) Try.func5
    (ChangeSpec.witness6 (enc := enc) (C := Try.checked) false ⟨#[], #[.slice none 0 0], []⟩ 8 (by as_aux_lemma => kernel_rfl) (by as_aux_lemma => kernel_rfl) (by as_aux_lemma => kernel_rfl) (by as_aux_lemma => kernel_rfl) (by as_aux_lemma => kernel_rfl))
    laidOut rfl (by as_aux_lemma => kernel_rfl) (by as_aux_lemma => kernel_rfl) boolType
    (fun ds h => by
      match ds, h with
      | [_], _ => rfl)
    ?_
  intro W base args ds q hval hA
  rw [Try.params5] at hA hval
  obtain ⟨v0, vs0, d0, ds0, p0, q0, hargs, rfl, rfl, h0, r0⟩ := trodAll_cons hA
  obtain ⟨rfl, rfl, rfl⟩ := trodAll_nil r0
  obtain rfl : args = #[v0] := by cases args; simp_all
  obtain ⟨a0, len0, cap0, z0, rfl, w0⟩ := open_bytes Try.underlying22 Try.underlying5 (by as_aux_lemma => kernel_rfl) (hval 0 22 v0 rfl rfl) h0
  exact shorts_walk W a0 len0 cap0 z0 w0

theorem shorts_facts : joinedFacts Try.pinned.checked.prog 5 Try.f5 Rows.fnShortsSpec Rows.fnShortsRow = true :=
  facts_of (P := Try.prog) (by as_aux_lemma => kernel_rfl) laidOut mapsRow (by as_aux_lemma => kernel_rfl) (by as_aux_lemma => kernel_rfl) rfl noStops rfl noKnobs (by as_aux_lemma => kernel_rfl) (by as_aux_lemma => kernel_rfl) (by as_aux_lemma => kernel_rfl) (by as_aux_lemma => kernel_rfl) (by as_aux_lemma => kernel_rfl) (by as_aux_lemma => kernel_rfl) (by as_aux_lemma => kernel_rfl) (by as_aux_lemma => kernel_rfl) (by as_aux_lemma => kernel_rfl) rfl (by as_aux_lemma => kernel_rfl) (by as_aux_lemma => kernel_rfl) (by as_aux_lemma => kernel_rfl) keysPlain rfl heard enters finals isMake rfl rfl rfl (by as_aux_lemma => kernel_rfl) (by as_aux_lemma => kernel_rfl)

/-- The given statement. -/
theorem shorts_holds : Rows.FnShortsSaid :=
  OpenClaim.holds_of_wide 5 Try.f5 rfl rfl rfl rfl rfl rfl rfl ⟨rfl, rfl, rfl, rfl, rfl⟩ rfl rfl rfl rfl rfl (by as_aux_lemma => kernel_rfl) Try.func5 shorts_facts
    (of_decide_eq_true (by as_aux_lemma => kernel_rfl)) (by unfold Func.isWrapper; first | (rw [if_pos (by decide +kernel)]; kernel_rfl) | (rw [if_neg (by decide +kernel)]; exact ⟨rfl, rfl⟩))
    (fun os started H enc _ => shorts_lifted os started H enc)
#print axioms shorts_holds
end Go.Proofs.Ytkmjemdcmonllaa
