/- A later time has a later stamp: at every drawn time. -/
import Derived.Test.YtkmjemdcmonllaaOrder
import Derived.Test.YtkmjemdcmonllaaDraw1
import Derived.Test.YtkmjemdcmonllaaPacketBytes
import Derived.WalkLawsBesides
import Derived.Deep.RegionHeld3
import Derived.Lib.Strings
namespace Go.Proofs.Ytkmjemdcmonllaa
open Go.ChangeShapes Go.WideShapes Go.ChangeAt Go.RowKit
set_option linter.unusedVariables false

theorem extract_tail (x y : ByteArray) (hx : x.size = 4) (hy : y.size = 4) : ((x ++ y).extract 4 8).toList = y.toList := by
  rw [ByteArray.toList_eq, ByteArray.toList_eq, Lib.extract_data]
  have e1 : x.data.toList.length = 4 := by simpa using hx
  have e2 : y.data.toList.length = 4 := by simpa using hy
  have e : (x ++ y).data.toList = x.data.toList ++ y.data.toList := by simp
  rw [e, List.drop_append_of_le_length (by omega), List.drop_eq_nil_of_le (by omega), List.nil_append, List.take_of_length_le (by omega)]

theorem same_tail (d : Int) (h0 : 0 ≤ d) (h1 : d ≤ 3999999998000000) : (((stampB (d + 1000000)).extract 4 8).toList == ((stampB d).extract 4 8).toList) = true := by
  rw [stampB_some (t := d + 1000000) (by omega), stampB_some (t := d) (by omega), extract_tail _ _ (put4_size _) (put4_size _), extract_tail _ _ (put4_size _) (put4_size _)]
  rw [show (d + 1000000) % 1000000 = d % 1000000 from by omega]
  simp

set_option maxHeartbeats 2000000 in
theorem stampOrder_walk (w : World) (a : Option Addr) (n cap z : Nat) (hz : z = n ∧ Code w.heap.size w (.slice a n cap) n) :
    Calls Try.prog 4 #[.slice a n cap] w fun e w' => e = .returned (.bool true) ∧ Below w.heap.size w w' := by
  obtain ⟨_, hc⟩ := hz
  by_cases hbig : n ≤ 1048576
  · go_enter Try.func4, Try.ntmps4
    go_wp2_with (go_at_call 20; go_in)
    refine (drawStamp_c a n cap _ hc hbig).mono ?_
    rintro e w1 ⟨d, d0, d1, rfl, hb1⟩
    go_wp2_with fail
    refine (stampBytes_impl d _).mono ?_
    rintro e w2 ⟨rfl, hb2⟩
    go_wp2_with fail
    refine (stampBytes_spec d _).mono ?_
    rintro e w3 ⟨rfl, hb3⟩
    by_cases hd : 0 ≤ d ∧ d ≤ 4000000000000000
    · have k1 := stampB_full hd
      have k2 : (!(stampB d).toList.isEmpty) = true := by rw [k1]; rfl
      by_cases hm : d ≤ 3999999998000000
      · have k3 := stamp_less d (d + 1) (by omega) (by omega) (by omega)
        have k4 := stamp_less d (d + 1000000) (by omega) (by omega) (by omega)
        have z1 : (stampB (d + 1000000)).size = 8 := stampB_size (by omega)
        have z0 : (stampB d).size = 8 := stampB_size hd
        have w1 : IntKind.i64.wrap (d + 1) = d + 1 := IntWalk.i64_in _ (by omega)
        have w2 : IntKind.i64.wrap (d + 1000000) = d + 1000000 := IntWalk.i64_in _ (by omega)
        have hg := grow_next (grow_next hb1 hb2) hb3
        clear hb1 hb2 hb3
        go_wp2_with fail
        go_region_held3 (fun _ => True) (exact trivial)
          (first | (go_at_call 22; refine (stampBytes_impl _ _).mono ?_; rintro e v1 ⟨rfl, hb1⟩; have hg : Below w.heap.size w v1 := grow_next (by first | assumption | exact Below.drew (by assumption)) hb1))
        go_wp2_with fail
        go_returns
        have k5 := same_tail d hd.1 hm
        exact ⟨congrArg (fun b => Ending.returned (Value.bool b)) k5, by assumption⟩
      · go_wp2_with fail
        refine (stampBytes_spec d _).mono ?_
        rintro e w4 ⟨rfl, hb4⟩
        go_wp2_with fail
        go_returns
        exact ⟨rfl, grow_next (grow_next (grow_next hb1 hb2) hb3) hb4⟩
    · rw [stampB_none hd]
      go_wp2_with fail
      refine (stampBytes_spec d _).mono ?_
      rw [stampB_none hd]
      rintro e w4 ⟨rfl, hb4⟩
      go_wp2_with fail
      go_returns
      exact ⟨rfl, grow_next (grow_next (grow_next hb1 hb2) hb3) hb4⟩
  · go_enter Try.func4, Try.ntmps4
    go_wp2_with (go_at_call 20; go_in)
    go_returns
    exact ⟨rfl, Below.refl _ _⟩

set_option maxRecDepth 100000 in
theorem stampOrder_lifted (os : Os) (started : os.Started) (H : Type) (enc : TypeId × Value → H) :
    ReturnsInHanded {} Try.checked os 4 .any (Rows.fnStampOrderSpec.pre6 enc Try.prog Try.f4 Rows.fnStampOrderRow.domain false) (Rows.fnStampOrderSpec.post enc Try.prog Try.f4 false true false false) := by
  refine lifted_of_walk (C := Try.checked) own started (by as_aux_lemma => kernel_rfl) Try.func4
    (ChangeSpec.witness6 (enc := enc) (C := Try.checked) false ⟨#[], #[.slice none 0 0], []⟩ 8 (by as_aux_lemma => kernel_rfl) (by as_aux_lemma => kernel_rfl) (by as_aux_lemma => kernel_rfl) (by as_aux_lemma => kernel_rfl) (by as_aux_lemma => kernel_rfl))
    laidOut rfl (by as_aux_lemma => kernel_rfl) (by as_aux_lemma => kernel_rfl) boolType
    (fun ds h => by
      match ds, h with
      | [_], _ => rfl)
    ?_
  intro W base args ds q hval hA
  rw [Try.params4] at hA hval
  obtain ⟨v0, vs0, d0, ds0, p0, q0, hargs, rfl, rfl, h0, r0⟩ := trodAll_cons hA
  obtain ⟨rfl, rfl, rfl⟩ := trodAll_nil r0
  obtain rfl : args = #[v0] := by cases args; simp_all
  obtain ⟨a0, len0, cap0, z0, rfl, w0⟩ := open_bytes Try.underlying22 Try.underlying5 (by as_aux_lemma => kernel_rfl) (hval 0 22 v0 rfl rfl) h0
  exact stampOrder_walk W a0 len0 cap0 z0 w0

theorem stampOrder_facts : joinedFacts Try.pinned.checked.prog 4 Try.f4 Rows.fnStampOrderSpec Rows.fnStampOrderRow = true :=
  facts_of (P := Try.prog) (by as_aux_lemma => kernel_rfl) laidOut mapsRow (by as_aux_lemma => kernel_rfl) (by as_aux_lemma => kernel_rfl) rfl noStops rfl noKnobs (by as_aux_lemma => kernel_rfl) (by as_aux_lemma => kernel_rfl) (by as_aux_lemma => kernel_rfl) (by as_aux_lemma => kernel_rfl) (by as_aux_lemma => kernel_rfl) (by as_aux_lemma => kernel_rfl) (by as_aux_lemma => kernel_rfl) (by as_aux_lemma => kernel_rfl) (by as_aux_lemma => kernel_rfl) rfl (by as_aux_lemma => kernel_rfl) (by as_aux_lemma => kernel_rfl) (by as_aux_lemma => kernel_rfl) keysPlain rfl heard enters finals isMake rfl rfl rfl (by as_aux_lemma => kernel_rfl) (by as_aux_lemma => kernel_rfl)

/-- The given statement. -/
theorem stampOrder_holds : Rows.FnStampOrderSaid :=
  OpenClaim.holds_of_wide 4 Try.f4 rfl rfl rfl rfl rfl rfl rfl ⟨rfl, rfl, rfl, rfl, rfl⟩ rfl rfl rfl rfl rfl (by as_aux_lemma => kernel_rfl) Try.func4 stampOrder_facts
    (of_decide_eq_true (by as_aux_lemma => kernel_rfl)) (by unfold Func.isWrapper; first | (rw [if_pos (by decide +kernel)]; kernel_rfl) | (rw [if_neg (by decide +kernel)]; exact ⟨rfl, rfl⟩))
    (fun os started H enc _ => stampOrder_lifted os started H enc)
#print axioms stampOrder_holds
end Go.Proofs.Ytkmjemdcmonllaa
