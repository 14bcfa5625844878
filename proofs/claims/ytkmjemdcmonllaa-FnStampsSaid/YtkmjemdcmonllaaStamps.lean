/- A time comes back from its stamp, and is its seconds and the rest; what is read, written again, has just its bytes: at every drawn time and text. -/
import Derived.Test.YtkmjemdcmonllaaShorts
import Derived.Test.YtkmjemdcmonllaaBytesDraw
import Derived.Test.YtkmjemdcmonllaaReadStamp
import Derived.Test.YtkmjemdcmonllaaPacketBytes
import Derived.Lib.Strings
namespace Go.Proofs.Ytkmjemdcmonllaa
open Go.ChangeShapes Go.WideShapes Go.ChangeAt Go.RowKit
set_option linter.unusedVariables false

theorem toList_inj {a b : ByteArray} (h : a.toList = b.toList) : a = b := by
  rw [ByteArray.toList_eq, ByteArray.toList_eq] at h
  exact ByteArray.ext (Array.toList_inj.1 h)

/-- What is read, written again, has just its bytes. -/
theorem stamp_back (s : ByteArray) (h : stampOk s = true) : stampB (stampT s) = s := by
  have e : stampT s = stampAt (getB (s.extract 0 4)) (getB (s.extract 4 8)) := by unfold stampT; rw [h]; rfl
  rw [e]
  unfold stampOk at h
  rw [Bool.and_eq_true] at h
  exact toList_inj (beq_iff_eq.1 h.2)

theorem extract_head (x y : ByteArray) (hx : x.size = 4) : (x ++ y).extract 0 4 = x := by
  apply ByteArray.ext
  apply Array.toList_inj.1
  rw [Lib.extract_data]
  have e1 : x.data.toList.length = 4 := by simpa using hx
  have e : (x ++ y).data.toList = x.data.toList ++ y.data.toList := by simp
  rw [e, List.drop_zero, List.take_append_of_le_length (by omega), List.take_of_length_le (by omega)]
theorem extract_rest (x y : ByteArray) (hx : x.size = 4) (hy : y.size = 4) : (x ++ y).extract 4 8 = y := by
  apply ByteArray.ext
  apply Array.toList_inj.1
  rw [Lib.extract_data]
  have e1 : x.data.toList.length = 4 := by simpa using hx
  have e2 : y.data.toList.length = 4 := by simpa using hy
  have e : (x ++ y).data.toList = x.data.toList ++ y.data.toList := by simp
  rw [e, List.drop_append_of_le_length (by omega), List.drop_eq_nil_of_le (by omega), List.nil_append, List.take_of_length_le (by omega)]

/-- A time comes back from its stamp. -/
theorem stamp_read (t : Int) (h : 0 ≤ t ∧ t ≤ 4000000000000000) : stampOk (stampB t) = true ∧ stampT (stampB t) = t ∧ (stampB t).size = 8 := by
  have es := stampB_size h
  have e1 : getB ((stampB t).extract 0 4) = t / 1000000 := by rw [stampB_some h, extract_head _ _ (put4_size _)]; exact getB_put4 _ (by omega)
  have e2 : getB ((stampB t).extract 4 8) = t % 1000000 * 4294967296 / 1000000 := by rw [stampB_some h, extract_rest _ _ (put4_size _) (put4_size _)]; exact getB_put4 _ (by omega)
  have ea : stampAt (getB ((stampB t).extract 0 4)) (getB ((stampB t).extract 4 8)) = t := by
    rw [e1, e2]; unfold stampAt; omega
  have ok : stampOk (stampB t) = true := by unfold stampOk; rw [ea, es]; simp
  exact ⟨ok, by unfold stampT; rw [ok, ea]; rfl, es⟩

theorem stampB_le (t : Int) : (stampB t).size ≤ 8 := by
  by_cases h : 0 ≤ t ∧ t ≤ 4000000000000000
  · rw [stampB_size h]; exact Nat.le_refl 8
  · rw [stampB_none h]; exact Nat.zero_le _

theorem below_grown {a b : World} (h : Below a.heap.size a b) : a.grownBy b none := ⟨h.os, h.tape, h.output, h.size, fun k hk _ => h.block k hk⟩

set_option maxHeartbeats 2000000 in
theorem drawReadStamp_c (x : Option Addr) (n cap : Nat) (w : World) (hc : Code w.heap.size w (.slice x n cap) n) (hn : n ≤ 1048576) : Calls Try.prog 23 #[.slice x n cap] w (AnyText 9 w) := by
  go_enter Try.func23, Try.ntmps23
  go_wp2_with fail
  refine (open_c x n cap _).mono ?_
  rintro e w1 ⟨rfl, rfl⟩
  go_wp2_with fail
  refine (time_c _ _ (rd_open hc hn)).mono ?_
  rintro e w2 ⟨v, v0, v1, rfl, hr2, hg2⟩
  have hb2 := grown_below ((Below.refl _ _).alloc (Nat.le_refl _) _) hg2 (Nat.le_refl _)
  go_wp2_with fail
  refine (stampBytes_spec v _).mono ?_
  rintro e w3 ⟨rfl, hb3⟩
  have hb23 := grow_next hb2 hb3
  have hr3 : Rd w3 w.heap.size := hr2.kept (below_grown hb3) (by simp)
  have hsz := stampB_le v
  obtain ⟨s, es⟩ : ∃ s, stampB v = s := ⟨_, rfl⟩
  rw [es] at hsz
  rw [es]
  clear es
  go_wp2_with fail
  refine (once_c _ 2 (by omega) (by omega) _ hr3).mono ?_
  rintro e w4 ⟨b, rfl, hr4, hg4⟩
  have hb4 := grown_below hb23 hg4 (Nat.le_refl _)
  cases b with
  | true =>
    go_wp2_with fail
    go_returns
    exact ⟨s, by omega, rfl, hb4⟩
  | false =>
    go_wp2_with fail
    refine (once_c _ 2 (by omega) (by omega) _ hr4).mono ?_
    rintro e w5 ⟨b, rfl, hr5, hg5⟩
    have hb5 := grown_below hb4 hg5 (Nat.le_refl _)
    cases b with
    | true =>
      go_wp2_with fail
      refine (bytes_c _ 9 (by omega) _ hr5).mono ?_
      rintro e w6 ⟨u, hu, rfl, hr6, hg6⟩
      go_wp2_with fail
      go_returns
      exact ⟨u, hu, rfl, grown_below hb5 hg6 (Nat.le_refl _)⟩
    | false =>
      go_wp2_with fail
      refine (hurt_c _ s (by omega) _ hr5).mono ?_
      rintro e w6 ⟨u, hu, rfl, hr6, hg6⟩
      go_wp2_with fail
      go_returns
      exact ⟨u, by omega, rfl, grown_below hb5 hg6 (Nat.le_refl _)⟩

theorem secondsSpec_yes (t : Int) (h0 : 0 ≤ t) (h1 : t ≤ 4000000000000000) (w : World) :
    Calls Try.prog 28 #[.int .i64 t] w fun e w' => e = .returned (.tuple #[.int .i64 (t / 1000000), .int .i64 (t % 1000000)]) ∧ w = w' := by
  go_enter Try.func28, Try.ntmps28
  go_wp2
  go_returns
  exact ⟨rfl, rfl⟩

theorem secondsSpec_no (t : Int) (h : ¬ (0 ≤ t ∧ t ≤ 4000000000000000)) (w : World) :
    Calls Try.prog 28 #[.int .i64 t] w fun e w' => e = .returned (.tuple #[.int .i64 (-1), .int .i64 (-1)]) ∧ w = w' := by
  by_cases h0 : 0 ≤ t
  · have h1 : ¬ t ≤ 4000000000000000 := by omega
    clear h
    go_enter Try.func28, Try.ntmps28
    go_wp2
    go_returns
    exact ⟨rfl, rfl⟩
  · clear h
    go_enter Try.func28, Try.ntmps28
    go_wp2
    go_returns
    exact ⟨rfl, rfl⟩

set_option maxHeartbeats 4000000 in
theorem stamps_walk (w : World) (a : Option Addr) (n cap z : Nat) (hz : z = n ∧ Code w.heap.size w (.slice a n cap) n) :
    Calls Try.prog 3 #[.slice a n cap] w fun e w' => e = .returned (.bool true) ∧ Below w.heap.size w w' := by
  obtain ⟨hzn, hc⟩ := hz
  clear hzn
  by_cases hbig : n ≤ 1048576
  · go_enter Try.func3, Try.ntmps3
    go_wp2_with (go_at_call 20; go_in)
    refine (drawStamp_c a n cap _ hc hbig).mono ?_
    rintro e w1 ⟨d, d0, d1, rfl, hb1⟩
    go_wp2_with fail
    refine (stampBytes_impl d _).mono ?_
    rintro e w2 ⟨rfl, hb2⟩
    have g2 := grow_next hb1 hb2
    go_wp2_with fail
    refine (drawReadStamp_c a n cap _ (hc.next g2) hbig).mono ?_
    rintro e w3 ⟨u, hu, rfl, hb3⟩
    have g3 := grow_next g2 hb3
    clear hb1 hb2 hb3 g2
    go_wp2_with fail
    refine (readStamp_impl u _).mono ?_
    rintro e w4 ⟨rfl, hb4⟩
    have g4 := grow_next g3 hb4
    go_wp2_with fail
    refine (readStamp_spec u _).mono ?_
    rintro e w5 ⟨rfl, hb5⟩
    have g5 := grow_next g4 hb5
    go_wp2_with fail
    refine (drawSeconds_c a n cap _ (hc.next g5) hbig).mono ?_
    rintro e w6 ⟨v, v0, v1, rfl, hb6⟩
    have g6 := grow_next g5 hb6
    clear hb4 hb5 hb6 g3 g4 g5
    by_cases hv : 0 ≤ v ∧ v ≤ 4000000000000000
    · obtain ⟨hv0, hv1⟩ := hv
      go_wp2_with fail
      refine (secondsOf_yes v hv0 hv1 _).mono ?_
      rintro e w7 ⟨rfl, rfl⟩
      go_wp2_with fail
      refine (secondsSpec_yes v hv0 hv1 _).mono ?_
      rintro e w7 ⟨rfl, rfl⟩
      go_wp2_with fail
      refine (stampBytes_spec d _).mono ?_
      rintro e w7 ⟨rfl, hb7⟩
      have g7 := grow_next g6 hb7
      have m1 : IntKind.i64.wrap (1000000 * (v / 1000000)) = 1000000 * (v / 1000000) := IntWalk.i64_in _ (by omega)
      have m2 : IntKind.i64.wrap (1000000 * (v / 1000000) + v % 1000000) = v := by rw [show 1000000 * (v / 1000000) + v % 1000000 = v from by omega]; exact IntWalk.i64_in _ (by omega)
      have m3 : ¬ v / 1000000 < 0 := by omega
      have m4 : v % 1000000 < 1000000 := by omega
      cases hok : stampOk u with
      | true =>
        by_cases hd : 0 ≤ d ∧ d ≤ 4000000000000000
        · have k1 := stampB_full hd
          have k2 : (!(stampB d).toList.isEmpty) = true := by rw [k1]; rfl
          obtain ⟨k3, k4, k5⟩ := stamp_read d hd
          go_wp2_with fail
          refine (stampBytes_impl (stampT u) _).mono ?_
          rw [stamp_back u hok]
          rintro e w8 ⟨rfl, hb8⟩
          have g8 := grow_next g7 hb8
          go_wp2_with fail
          refine (readStamp_impl (stampB d) _).mono ?_
          rintro e w9 ⟨rfl, hb9⟩
          have g9 := grow_next g8 hb9
          go_wp2_with fail
          all_goals go_returns
          all_goals exact ⟨rfl, by assumption⟩
        · rw [stampB_none hd]
          by_cases hd0 : 0 ≤ d
          · have hd1 : ¬ d ≤ 4000000000000000 := by omega
            go_wp2_with fail
            refine (stampBytes_impl (stampT u) _).mono ?_
            rw [stamp_back u hok]
            rintro e w8 ⟨rfl, hb8⟩
            have g8 := grow_next g7 hb8
            go_wp2_with fail
            all_goals go_returns
            all_goals exact ⟨rfl, by assumption⟩
          · go_wp2_with fail
            refine (stampBytes_impl (stampT u) _).mono ?_
            rw [stamp_back u hok]
            rintro e w8 ⟨rfl, hb8⟩
            have g8 := grow_next g7 hb8
            go_wp2_with fail
            all_goals go_returns
            all_goals exact ⟨rfl, by assumption⟩
      | false =>
        by_cases hd : 0 ≤ d ∧ d ≤ 4000000000000000
        · have k1 := stampB_full hd
          have k2 : (!(stampB d).toList.isEmpty) = true := by rw [k1]; rfl
          obtain ⟨k3, k4, k5⟩ := stamp_read d hd
          go_wp2_with fail
          refine (readStamp_impl (stampB d) _).mono ?_
          rintro e w9 ⟨rfl, hb9⟩
          have g9 := grow_next g7 hb9
          go_wp2_with fail
          all_goals go_returns
          all_goals exact ⟨rfl, by assumption⟩
        · rw [stampB_none hd]
          by_cases hd0 : 0 ≤ d
          · have hd1 : ¬ d ≤ 4000000000000000 := by omega
            go_wp2_with fail
            all_goals go_returns
            all_goals exact ⟨rfl, by assumption⟩
          · go_wp2_with fail
            all_goals go_returns
            all_goals exact ⟨rfl, by assumption⟩
    · go_wp2_with fail
      refine (secondsOf_no v hv _).mono ?_
      rintro e w7 ⟨rfl, rfl⟩
      go_wp2_with fail
      refine (secondsSpec_no v hv _).mono ?_
      rintro e w7 ⟨rfl, rfl⟩
      go_wp2_with fail
      refine (stampBytes_spec d _).mono ?_
      rintro e w7 ⟨rfl, hb7⟩
      have g7 := grow_next g6 hb7
      cases hok : stampOk u with
      | true =>
        by_cases hd : 0 ≤ d ∧ d ≤ 4000000000000000
        · have k1 := stampB_full hd
          have k2 : (!(stampB d).toList.isEmpty) = true := by rw [k1]; rfl
          obtain ⟨k3, k4, k5⟩ := stamp_read d hd
          go_wp2_with fail
          refine (stampBytes_impl (stampT u) _).mono ?_
          rw [stamp_back u hok]
          rintro e w8 ⟨rfl, hb8⟩
          have g8 := grow_next g7 hb8
          go_wp2_with fail
          refine (readStamp_impl (stampB d) _).mono ?_
          rintro e w9 ⟨rfl, hb9⟩
          have g9 := grow_next g8 hb9
          go_wp2_with fail
          all_goals go_returns
          all_goals exact ⟨rfl, by assumption⟩
        · rw [stampB_none hd]
          by_cases hd0 : 0 ≤ d
          · have hd1 : ¬ d ≤ 4000000000000000 := by omega
            go_wp2_with fail
            refine (stampBytes_impl (stampT u) _).mono ?_
            rw [stamp_back u hok]
            rintro e w8 ⟨rfl, hb8⟩
            have g8 := grow_next g7 hb8
            go_wp2_with fail
            all_goals go_returns
            all_goals exact ⟨rfl, by assumption⟩
          · go_wp2_with fail
            refine (stampBytes_impl (stampT u) _).mono ?_
            rw [stamp_back u hok]
            rintro e w8 ⟨rfl, hb8⟩
            have g8 := grow_next g7 hb8
            go_wp2_with fail
            all_goals go_returns
            all_goals exact ⟨rfl, by assumption⟩
      | false =>
        by_cases hd : 0 ≤ d ∧ d ≤ 4000000000000000
        · have k1 := stampB_full hd
          have k2 : (!(stampB d).toList.isEmpty) = true := by rw [k1]; rfl
          obtain ⟨k3, k4, k5⟩ := stamp_read d hd
          go_wp2_with fail
          refine (readStamp_impl (stampB d) _).mono ?_
          rintro e w9 ⟨rfl, hb9⟩
          have g9 := grow_next g7 hb9
          go_wp2_with fail
          all_goals go_returns
          all_goals exact ⟨rfl, by assumption⟩
        · rw [stampB_none hd]
          by_cases hd0 : 0 ≤ d
          · have hd1 : ¬ d ≤ 4000000000000000 := by omega
            go_wp2_with fail
            all_goals go_returns
            all_goals exact ⟨rfl, by assumption⟩
          · go_wp2_with fail
            all_goals go_returns
            all_goals exact ⟨rfl, by assumption⟩
  · go_enter Try.func3, Try.ntmps3
    go_wp2_with (go_at_call 20; go_in)
    go_returns
    exact ⟨rfl, Below.refl _ _⟩

set_option maxRecDepth 100000 in
theorem stamps_lifted (os : Os) (started : os.Started) (H : Type) (enc : TypeId × Value → H) :
    ReturnsInHanded {} Try.checked os 3 .any (Rows.fnStampsSpec.pre6 enc Try.prog Try.f3 Rows.fnStampsRow.domain false) (Rows.fnStampsSpec.post enc Try.prog Try.f3 false true false false) := by
  refine lifted_of_walk (C := Try.checked) own started (by as_aux_lemma => kernel_rfl) Try.func3
    (ChangeSpec.witness6 (enc := enc) (C := Try.checked) false ⟨#[], #[.slice none 0 0], []⟩ 8 (by as_aux_lemma => kernel_rfl) (by as_aux_lemma => kernel_rfl) (by as_aux_lemma => kernel_rfl) (by as_aux_lemma => kernel_rfl) (by as_aux_lemma => kernel_rfl))
    laidOut rfl (by as_aux_lemma => kernel_rfl) (by as_aux_lemma => kernel_rfl) boolType
    (fun ds h => by
      match ds, h with
      | [_], _ => rfl)
    ?_
  intro W base args ds q hval hA
  rw [Try.params3] at hA hval
  obtain ⟨v0, vs0, d0, ds0, p0, q0, hargs, rfl, rfl, h0, r0⟩ := trodAll_cons hA
  obtain ⟨rfl, rfl, rfl⟩ := trodAll_nil r0
  obtain rfl : args = #[v0] := by cases args; simp_all
  obtain ⟨a0, len0, cap0, z0, rfl, w0⟩ := open_bytes Try.underlying22 Try.underlying5 (by as_aux_lemma => kernel_rfl) (hval 0 22 v0 rfl rfl) h0
  exact stamps_walk W a0 len0 cap0 z0 w0

theorem stamps_facts : joinedFacts Try.pinned.checked.prog 3 Try.f3 Rows.fnStampsSpec Rows.fnStampsRow = true :=
  facts_of (P := Try.prog) (by as_aux_lemma => kernel_rfl) laidOut mapsRow (by as_aux_lemma => kernel_rfl) (by as_aux_lemma => kernel_rfl) rfl noStops rfl noKnobs (by as_aux_lemma => kernel_rfl) (by as_aux_lemma => kernel_rfl) (by as_aux_lemma => kernel_rfl) (by as_aux_lemma => kernel_rfl) (by as_aux_lemma => kernel_rfl) (by as_aux_lemma => kernel_rfl) (by as_aux_lemma => kernel_rfl) (by as_aux_lemma => kernel_rfl) (by as_aux_lemma => kernel_rfl) rfl (by as_aux_lemma => kernel_rfl) (by as_aux_lemma => kernel_rfl) (by as_aux_lemma => kernel_rfl) keysPlain rfl heard enters finals isMake rfl rfl rfl (by as_aux_lemma => kernel_rfl) (by as_aux_lemma => kernel_rfl)

/-- The given statement. -/
theorem stamps_holds : Rows.FnStampsSaid :=
  OpenClaim.holds_of_wide 3 Try.f3 rfl rfl rfl rfl rfl rfl rfl ⟨rfl, rfl, rfl, rfl, rfl⟩ rfl rfl rfl rfl rfl (by as_aux_lemma => kernel_rfl) Try.func3 stamps_facts
    (of_decide_eq_true (by as_aux_lemma => kernel_rfl)) (by unfold Func.isWrapper; first | (rw [if_pos (by decide +kernel)]; kernel_rfl) | (rw [if_neg (by decide +kernel)]; exact ⟨rfl, rfl⟩))
    (fun os started H enc _ => stamps_lifted os started H enc)
#print axioms stamps_holds
end Go.Proofs.Ytkmjemdcmonllaa
