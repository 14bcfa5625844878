/- A digest has 32 bytes; a tag's long key is its digest, noughts behind a short one change nothing: at every drawn text and key. -/
import Derived.Test.YtphmlpdohkfpiaaDoorShaDraw
import Derived.Test.YtphmlpdohkfpiaaDoorShaLaw
namespace Go.Proofs.YtphmlpdohkfpiaaDoor
open Go.ChangeShapes Go.WideShapes Go.ChangeAt Go.RowKit
set_option linter.unusedVariables false
set_option linter.unusedSimpArgs false

set_option maxHeartbeats 4000000 in
theorem fsha_walk (w : World) (hp : ShaW w) (x : Option Addr) (n cap z : Nat) (hz : z = n ∧ Code w.heap.size w (.slice x n cap) n) :
    Calls Tryd.prog 7 #[.slice x n cap] w fun e w' => e = .returned (.bool true) ∧ Below w.heap.size w w' := by
  obtain ⟨_, hc⟩ := hz
  by_cases hbig : n ≤ 1048576
  · have hbi : decide ((1048576 : Int) < (n : Int)) = false := decide_eq_false (by omega)
    go_enter Tryd.func7, Tryd.ntmps7
    go_wp2_with (go_at_call 20; go_in)
    refine (drawSha256_c x n cap _ hc hbig).mono ?_
    rintro e w1 ⟨s, hs, rfl, b1⟩
    have HS := Lib.hid (fun w => sha_s s w)
    have HI := Lib.hid (fun w h => sha_impl s w h)
    rw [show (if 1000 < s.size then (⟨#[]⟩ : ByteArray) else shaB s) = shaB s from if_neg (by omega)] at HS
    rw [show shaV s = shaB s from if_neg (by omega)] at HI
    have hds := shaB_size s
    obtain ⟨D, hD⟩ : ∃ D, shaB s = D := ⟨_, rfl⟩
    rw [hD] at HS HI hds
    clear hD
    have hqD : (D.toList == D.toList) = true := by simp
    have hqD' : (D.toList != D.toList) = false := by simp
    go_wp2_with fail
    refine (HI.out _ (hp.next b1)).mono ?_
    rintro e w2 ⟨rfl, hb2⟩
    have b2 := grow_next b1 hb2
    clear hb2
    go_wp2_with fail
    refine (drawHmac_c x n cap _ (hc.next b2) hbig).mono ?_
    rintro e w3 ⟨k, t, hk, ht, rfl, hb3⟩
    have b3 := grow_next b2 hb3
    clear hb3
    have HHS := Lib.hid (fun w => hmac_s k t w)
    have HHI := Lib.hid (fun w h => hmac_impl k t w h)
    rw [show (if 1000 < k.size ∨ 1000 < t.size then (⟨#[]⟩ : ByteArray) else hmacB k t) = hmacB k t from if_neg (by omega)] at HHS
    rw [show hmacV k t = hmacB k t from if_neg (by omega)] at HHI
    have HK := Lib.hid (fun w h => sha_impl k w h)
    rw [show shaV k = shaB k from if_neg (by omega)] at HK
    have hks := shaB_size k
    have HL := Lib.hid (fun w h => hmac_impl (shaB k) t w h)
    rw [show hmacV (shaB k) t = hmacB (shaB k) t from if_neg (by omega)] at HL
    have HZ := Lib.hid (fun w h => hmac_impl (k ++ ⟨#[0]⟩) t w h)
    rw [show hmacV (k ++ ⟨#[0]⟩) t = hmacB (k ++ ⟨#[0]⟩) t from if_neg (by rw [ByteArray.size_append, show (⟨#[0]⟩ : ByteArray).size = 1 from rfl]; omega)] at HZ
    have EL := Lib.hid (fun h => hmacB_long (k := k) t h)
    have EZ := Lib.hid (fun h => hmacB_zero (k := k) t h)
    have hhs := hmacB_size k t
    obtain ⟨H, hH⟩ : ∃ H, hmacB k t = H := ⟨_, rfl⟩
    rw [hH] at HHS HHI hhs EL EZ
    clear hH
    obtain ⟨Q, hQ⟩ : ∃ Q, shaB k = Q := ⟨_, rfl⟩
    rw [hQ] at HK HL EL
    clear hQ hks
    have hqH : (H.toList == H.toList) = true := by simp
    have hqH' : (H.toList != H.toList) = false := by simp
    go_wp2_with fail
    refine (HHI.out _ (hp.next b3)).mono ?_
    rintro e w4 ⟨rfl, hb4⟩
    have b4 := grow_next b3 hb4
    clear hb4
    go_wp2_with fail
    refine (HS.out _).mono ?_
    rintro e w5 ⟨rfl, hb5⟩
    have b5 := grow_next b4 hb5
    clear hb5
    go_wp2_with fail
    refine (HHS.out _).mono ?_
    rintro e w6 ⟨rfl, hb6⟩
    have b6 := grow_next b5 hb6
    clear hb6
    by_cases hl : 64 < k.size
    · have hl1 : (64 : Int) < (k.size : Int) := by omega
      have HL2 := HL.out
      rw [EL.out hl] at HL2
      have HL3 := Lib.hid HL2
      clear HL HL2 EL EZ HZ
      go_wp2_with fail
      refine (HK.out _ (hp.next b6)).mono ?_
      rintro e w7 ⟨rfl, hb7⟩
      have b7 := grow_next b6 hb7
      go_wp2_with fail
      refine (HL3.out _ (hp.next b7)).mono ?_
      rintro e w8 ⟨rfl, hb8⟩
      go_wp2_with fail
      go_returns
      exact ⟨rfl, grow_next b7 hb8⟩
    · have hl1 : ¬ (64 : Int) < (k.size : Int) := by omega
      by_cases h64 : k.size = 64
      · have hl2 : ((k.size : Int) == 64) = true := by rw [beq_iff_eq]; omega
        clear h64 HL EL EZ HZ HK
        go_wp2_with fail
        go_returns
        exact ⟨rfl, b6⟩
      · have hl2 : ((k.size : Int) == 64) = false := by rw [beq_eq_false_iff_ne]; omega
        have HZ2 := HZ.out
        rw [EZ.out (by omega)] at HZ2
        have HZ3 := Lib.hid HZ2
        clear h64 HL EL EZ HZ HK HZ2
        go_wp2_with fail
        refine (HZ3.out _ (hp.next b6)).mono ?_
        rintro e w8 ⟨rfl, hb8⟩
        go_wp2_with fail
        go_returns
        exact ⟨rfl, grow_next b6 hb8⟩
  · have hbi : decide ((1048576 : Int) < (n : Int)) = true := decide_eq_true (by omega)
    go_enter Tryd.func7, Tryd.ntmps7
    go_wp2_with (go_at_call 20; go_in)
    go_returns
    exact ⟨rfl, Below.refl _ _⟩
theorem fsha_met (os : Os) (args : Array Value) : laidMetH Tryd.prog Rows.fnShaRow.laid ((World.doorLaid Tryd.prog 400 os).forCall (fun _ _ => 0) ⟨#[], args, []⟩).memory :=
  laidMetH_of_parts3 (fuel := 8) (laidMet_of_run' 8 (by kernel_rfl) (by kernel_rfl)) (by kernel_rfl) (by kernel_rfl)
set_option maxRecDepth 100000 in
theorem fsha_lifted (os : Os) (started : os.Started) (H : Type) (enc : TypeId × Value → H) :
    ReturnsInHanded {} Tryd.checked os 7 .any (fun w args => (Rows.fnShaSpec.pre enc Tryd.prog Tryd.f7 [] false w args ∧ laidMetH Tryd.prog Rows.fnShaRow.laid w) ∧ sizedMet enc Tryd.prog Tryd.f7 (OpenSpec.ofChange Rows.fnShaSpec) false w args) (Rows.fnShaSpec.post enc Tryd.prog Tryd.f7 false true false false) := by
  refine lifted_of_walk_laid (C := Tryd.checked) own started (by as_aux_lemma => kernel_rfl) Tryd.func7
    (ChangeSpec.witness_shaped (enc := enc) (C := Tryd.checked) (os := os) (X := fun w _ => laidMetH Tryd.prog Rows.fnShaRow.laid w) false (World.doorLaid Tryd.prog 400 os) #[.slice none 0 0] 8 rfl (World.shaped_of_RefB (by kernel_rfl) (by kernel_rfl)) (by kernel_rfl) (by kernel_rfl) (by kernel_rfl) (fsha_met os _))
    laidOut (by as_aux_lemma => kernel_rfl) (by as_aux_lemma => kernel_rfl) rfl boolType
    (fun ds gs h hg => by
      match ds, gs, h, hg with
      | [_], [_, _], _, _ => rfl)
    ?_
  intro W base args ds q hval hA hL
  have laidRow : Rows.fnShaRow.laid = Rows.fnShaRow.laid := rfl
  have hp := shaW_of hL (by rfl) (by rfl)
  clear hL
  rw [Tryd.params7] at hA hval
  obtain ⟨v0, vs0, d0, ds0, p0, q0, hargs, rfl, rfl, h0, r0⟩ := trodAll_cons hA
  obtain ⟨rfl, rfl, rfl⟩ := trodAll_nil r0
  obtain rfl : args = #[v0] := by cases args; simp_all
  obtain ⟨a0, len0, cap0, z0, rfl, w0⟩ := open_bytes Tryd.underlying35 Tryd.underlying5 (by as_aux_lemma => kernel_rfl) (hval 0 35 v0 rfl rfl) h0
  exact fsha_walk W hp a0 len0 cap0 z0 w0

set_option maxHeartbeats 4000000 in
theorem fsha_facts : joinedFacts Tryd.pinned.checked.prog 7 Tryd.f7 Rows.fnShaSpec Rows.fnShaRow = true :=
  facts_of (P := Tryd.prog) (by as_aux_lemma => kernel_rfl) laidOut mapsRow (by as_aux_lemma => kernel_rfl) (by as_aux_lemma => kernel_rfl) rfl noStops rfl noKnobs (by as_aux_lemma => kernel_rfl) (by as_aux_lemma => kernel_rfl) (by as_aux_lemma => kernel_rfl) (by as_aux_lemma => kernel_rfl) (by as_aux_lemma => kernel_rfl) (by as_aux_lemma => kernel_rfl) (by as_aux_lemma => kernel_rfl) (by as_aux_lemma => kernel_rfl) (by as_aux_lemma => kernel_rfl) (by as_aux_lemma => kernel_rfl) (by as_aux_lemma => kernel_rfl) (by as_aux_lemma => kernel_rfl) (by as_aux_lemma => kernel_rfl) keysPlain rfl heard enters finals isMake rfl rfl rfl (by as_aux_lemma => kernel_rfl) (by as_aux_lemma => kernel_rfl)

theorem fsha_row : Rows.FnShaSaid :=
  OpenClaim.holds_of_wide 7 Tryd.f7 rfl rfl rfl rfl rfl rfl rfl ⟨rfl, rfl, rfl, rfl, rfl⟩ rfl rfl rfl rfl rfl (by as_aux_lemma => kernel_rfl) Tryd.func7 fsha_facts
    (of_decide_eq_true (by as_aux_lemma => kernel_rfl)) (by unfold Func.isWrapper; first | (rw [if_pos (by decide +kernel)]; kernel_rfl) | (rw [if_neg (by decide +kernel)]; exact ⟨rfl, rfl⟩))
    (fun os started H enc _ => fsha_lifted os started H enc)

/-- The given statement. -/
theorem fsha_holds : Rows.FnShaCardSaid :=
  Claim7.holds_tied_plain_at .later [] Rows.fnShaCard.laidKinds true Rows.fnShaCard.stood.harness false
    fsha_row (fun _ h => by cases h) (by kernel_rfl) (fun _ h => by cases h) fnSha_row_tie rfl ⟨rfl, rfl⟩ (by kernel_rfl) rfl
    (fun f fn hf hfn => by
      obtain rfl : f = 7 := Option.some.inj ((show Tryd.prog.funcNamed "loop.example/g00656/laws.FnSha" = some 7 by kernel_rfl).symm.trans hf) |>.symm
      obtain rfl : fn = Tryd.f7 := (Option.some.inj (Tryd.func7.symm.trans hfn)).symm
      exact ⟨by kernel_rfl, fun j t ht => noStandIn (by rw [Tryd.params7]; kernel_rfl) j t ht⟩)
    (by kernel_rfl)
#print axioms fsha_holds
end Go.Proofs.YtphmlpdohkfpiaaDoor
