/- What is read as frames are texts whose frames these are, up to the place that is told; of frames that are cut the first few come back: at every drawn text. -/
import Derived.Test.YtejkjlfdadficaaFrMath
import Derived.Test.YtejkjlfdadficaaFrDraw
namespace Go.Proofs.Ytejkjlfdadficaa
open Go.ChangeShapes Go.WideShapes Go.ChangeAt Go.RowKit
set_option linter.unusedVariables false
set_option linter.unusedSimpArgs false

/-- These texts lie there, one behind the other. -/
def Txts (w : World) (x : Option Addr) (l : List ByteArray) : Prop := ∀ i z, l[i]? = some z → ∃ g, x = some ⟨g, 0, none⟩ ∧ g < w.heap.size ∧ w.cell? ⟨g, i, none⟩ = some (.string z)
theorem StrRow.txts {base : Nat} {w : World} {x : Option Addr} {cap : Nat} {l : List ByteArray} (h : StrRow base w x cap l) : Txts w x l := fun i z hz => by
  obtain ⟨g, e, _, hg, c, _⟩ := h.at_ hz
  exact ⟨g, e, hg, c⟩
theorem Txts.next {w w' : World} {x : Option Addr} {l : List ByteArray} (h : Txts w x l) (hb : Below w.heap.size w w') : Txts w' x l := fun i z hz => by
  obtain ⟨g, e, hg, c⟩ := h i z hz
  exact ⟨g, e, Nat.lt_of_lt_of_le hg hb.size, (hb.cell (p := ⟨g, i, none⟩) hg).trans c⟩
theorem Txts.prefix {w : World} {x : Option Addr} {l c : List ByteArray} (h : Txts w x c) (hp : l <+: c) : Txts w x l := fun i z hz => h i z (by
  obtain ⟨t, rfl⟩ := hp
  rw [List.getElem?_append_left (List.getElem?_eq_some_iff.1 hz).1]
  exact hz)
theorem get0S {l : List ByteArray} {k : Nat} (h : k < l.length) : ∃ z, l[k]? = some z := ⟨_, List.getElem?_eq_getElem h⟩
set_option maxHeartbeats 1000000 in
theorem sameTexts_c (l : List ByteArray) (n : Nat) (hn : Hid (n = l.length)) (hm : n ≤ 1048576) (x y : Option Addr) (cap cap' : Nat) (w : World) (h : Txts w x l) (h' : Txts w y l) :
    Calls Try.prog 15 #[.slice x n cap, .slice y n cap'] w fun e w' => e = .returned (.bool true) ∧ Below w.heap.size w w' := by
  go_enter Try.func15, Try.ntmps15
  go_wp2
  go_loopw [5] (fun i wr => ∃ k : Nat, k ≤ n ∧ i = .int .i64 k ∧ Below w.heap.size w wr) (fun i _ => n - (intOf i).toNat)
  case atStart => exact ⟨0, Nat.zero_le _, rfl, Below.refl _ _⟩
  case round =>
    obtain ⟨k, hk, rfl, hb⟩ := hrel
    by_cases hlt : k < n
    · obtain ⟨v, hv⟩ := get0S (l := l) (k := k) (by rw [← hn.out]; exact hlt)
      obtain ⟨g, rfl, _, c0⟩ := (h.next hb) k v hv
      obtain ⟨g', rfl, _, c1⟩ := (h'.next hb) k v hv
      have HV := Lib.hid hv
      have hvv : (v.toList == v.toList) = true := by simp
      clear hv
      go_wp2_with fail
      go_quiet (fail)
      go_wp2_with fail
      go_roundw
      case rel => exact ⟨k + 1, by omega, by go_num, grow_drew hb _⟩
      case measure => simp [intOf]; omega
    · go_wp2_with fail
      go_returns
      exact ⟨rfl, hb⟩
theorem StrRow.room {base : Nat} {w : World} {x : Option Addr} {cap : Nat} {l : List ByteArray} (h : StrRow base w x cap l) : l.length ≤ cap ∧ (x = none → l.length = 0 ∧ cap = 0) := by
  rcases h.2 with ⟨e, e0⟩ | ⟨g, c, cur, e, hb, hg, h1, h2, h3, h4⟩
  · simp only [Value.slice.injEq] at e
    exact ⟨by omega, fun _ => ⟨e.2.1, e.2.2⟩⟩
  · simp only [Value.slice.injEq] at e
    obtain ⟨rfl, _, rfl⟩ := e
    exact ⟨by assumption, fun h => by cases h⟩
theorem allF_take (c : List ByteArray) (k : Nat) (z : ByteArray) (h : c[k]? = some z) : allF (c.take (k + 1)) = allF (c.take k) ++ frameB z := by
  rw [List.take_add_one, h, Option.toList_some, allF_snoc]
theorem allF_more : ∀ (m l : List ByteArray), (allF l).size ≤ (allF (l ++ m)).size
  | [], l => by rw [List.append_nil]; exact Nat.le_refl _
  | d :: m, l => by
    have h1 := allF_more m (l ++ [d])
    rw [List.append_assoc, allF_snoc, ByteArray.size_append] at h1
    exact Nat.le_trans (Nat.le_add_right _ _) h1
theorem allF_size (s : ByteArray) (k : Nat) : (allF ((framesF s).take k)).size ≤ endF s := by
  have h1 := allF_more ((framesF s).drop k) ((framesF s).take k)
  rw [List.take_append_drop, allF_all, ByteArray.size_extract] at h1
  omega
theorem frames_small (s : ByteArray) : ∀ k, ∀ z ∈ (stF s k).2, z.size ≤ 100000 := by
  intro k
  induction k with
  | zero => intro z hz; cases hz
  | succ k ih =>
    intro z hz
    rw [stF] at hz
    split at hz
    · rename_i ho
      rcases List.mem_append.1 hz with h | h
      · exact ih z h
      · obtain rfl := List.mem_singleton.1 h
        have hs := fOk_parts ho
        rw [datF_size hs.2.2]
        exact hs.2.1
    · exact ih z hz
set_option maxRecDepth 100000 in
set_option maxHeartbeats 2000000 in
theorem frames_walk (w : World) (x : Option Addr) (n cap z0 : Nat) (hz : z0 = n ∧ Code w.heap.size w (.slice x n cap) n) :
    Calls Try.prog 5 #[.slice x n cap] w fun e w' => e = .returned (.bool true) ∧ Below w.heap.size w w' := by
  obtain ⟨_, hc⟩ := hz
  by_cases hbig : n ≤ 1048576
  · go_enter Try.func5, Try.ntmps5
    go_wp2_with (go_at_call 13; go_in)
    refine (drawTakeFrames_c x n cap _ hc hbig).mono ?_
    rintro e w1 ⟨s, hs, rfl, b1⟩
    have HI := Lib.hid (take_impl s (by omega))
    have HS := Lib.hid (take_spec s (by omega))
    unfold TakePost at HI HS
    have hl := framesF_length s
    have hp := endF_le s
    have hE := allF_all s
    have hsm := frames_small s (s.size + 1)
    have hsz := allF_size s
    have hone := one_more s
    have hfew := few_prefix s
    change ∀ z ∈ framesF s, z.size ≤ 100000 at hsm
    obtain ⟨c, hcc⟩ : ∃ c, framesF s = c := ⟨_, rfl⟩
    rw [hcc] at HI HS hl hE hsm hsz hone hfew
    obtain ⟨p, hpp⟩ : ∃ p, endF s = p := ⟨_, rfl⟩
    rw [hpp] at HI HS hp hE hsz hone
    obtain ⟨m, hm⟩ : ∃ m, m = c.length := ⟨_, rfl⟩
    rw [← hm] at HI HS hl
    have HM := Lib.hid hm
    have HSM := Lib.hid hsm
    have HSZ := Lib.hid hsz
    have HONE := Lib.hid hone
    have HFEW := Lib.hid hfew
    clear hm hsm hsz hone hfew hcc hpp
    go_wp2_with fail
    refine (HI.out _).mono ?_
    rintro e w2 ⟨v, rfl, ho, b2⟩
    rw [HM.out] at ho
    obtain ⟨y, cy, rfl, r0⟩ := str_row ho
    have hroom := r0.room
    rw [← HM.out] at hroom ⊢
    obtain ⟨hcy, hno⟩ := hroom
    have HNO := Lib.hid hno
    clear hno
    clear ho
    have G2 := grow_next b1 b2
    go_wp2_with fail
    refine (HS.out _).mono ?_
    rintro e w3 ⟨v, rfl, ho, b3⟩
    rw [HM.out] at ho
    obtain ⟨y2, cy2, rfl, r1⟩ := str_row ho
    rw [← HM.out]
    clear ho
    have G3 := grow_next G2 b3
    have r0 := r0.next b3
    go_wp2_with fail
    refine (sameTexts_c c m HM (by omega) y y2 cy cy2 _ r0.txts r1.txts).mono ?_
    rintro e w4 ⟨rfl, b4⟩
    have G4 := grow_next G3 b4
    have T0 := Lib.hid (r0.txts.next b4)
    have hp' : decide ((s.size : Int) < (p : Int)) = false := decide_eq_false (by omega)
    have hp2 : ¬ s.size < p := by omega
    have hp3 : decide (s.size < p) = false := decide_eq_false hp2
    clear r1 b1 b2 b3 b4 G2 G3
    go_wp2_with fail
    go_loopw [8, 9] (fun o i wr => ∃ k : Nat, k ≤ m ∧ i = .int .i64 k ∧ o = .string (allF (c.take k)) ∧ Below w4.heap.size w4 wr) (fun _ i _ => m - (intOf i).toNat)
    case atStart => exact ⟨0, Nat.zero_le _, rfl, rfl, Below.refl _ _⟩
    case round =>
      obtain ⟨k, hk, rfl, rfl, hb⟩ := hrel
      by_cases hlt : k < m
      · obtain ⟨z, hz⟩ := get0S (l := c) (k := k) (by rw [← HM.out]; exact hlt)
        obtain ⟨g, rfl, _, c0⟩ := (T0.out.next hb) k z hz
        have HF := Lib.hid (frameOf_impl z (by have := HSM.out z (List.mem_of_getElem? hz); omega))
        have ht := allF_take c k z hz
        have h1 := HSZ.out (k + 1)
        rw [ht, ByteArray.size_append] at h1
        obtain ⟨f, hf⟩ : ∃ f, frameB z = f := ⟨_, rfl⟩
        rw [hf] at HF ht h1
        obtain ⟨a, ha⟩ : ∃ a, allF (c.take k) = a := ⟨_, rfl⟩
        rw [ha] at ht h1 ⊢
        have HT := Lib.hid ht
        clear hz ht hf ha
        go_wp2_with fail
        refine (HF.out _).mono ?_
        rintro e w5 ⟨rfl, b5⟩
        go_wp2_with fail
        go_roundw
        case rel =>
          exact ⟨k + 1, by omega, by go_num, by rw [HT.out], grow_next hb b5⟩
        case measure => simp [intOf]; omega
      · have hkm : k = m := by omega
        subst hkm
        rw [show c.take k = c by rw [HM.out]; exact List.take_length, hE]
        have hE2 : (s.extract 0 p).size = p := by rw [ByteArray.size_extract]; omega
        have GG := grow_next G4 hb
        have TT := Lib.hid (T0.out.next hb)
        obtain ⟨E, hEE⟩ : ∃ E, s.extract 0 p = E := ⟨_, rfl⟩
        have HEE := Lib.hid hEE
        rw [hEE] at hE hE2 ⊢
        have HE := Lib.hid hE
        clear hE hEE
        go_wp2_with fail
        refine (drawFrameOf_c x n cap _ (hc.next GG) hbig).mono ?_
        rintro e w5 ⟨t, ht, rfl, b5⟩
        have G5 := grow_next GG b5
        have T5 := Lib.hid (TT.out.next b5)
        have HF := Lib.hid (frameOf_impl t (by omega))
        have hfz := frameB_size (t := t) (by omega)
        obtain ⟨o1, o2⟩ := HONE.out t (by omega)
        rw [HE.out] at o1 o2
        obtain ⟨f, hf⟩ : ∃ f, frameB t = f := ⟨_, rfl⟩
        rw [hf] at HF hfz o1 o2
        have H1 := Lib.hid (take_impl (E ++ f) (by rw [ByteArray.size_append]; omega))
        unfold TakePost at H1
        rw [o1, o2, List.length_append, ← HM.out, List.length_singleton] at H1
        clear hf o1 o2
        go_wp2_with fail
        refine (HF.out _).mono ?_
        rintro e w6 ⟨rfl, b6⟩
        have G6 := grow_next G5 b6
        have T6 := Lib.hid (T5.out.next b6)
        go_wp2_with fail
        refine (H1.out _).mono ?_
        rintro e w7 ⟨v, rfl, ho, b7⟩
        rw [show k + 1 = (c ++ [t]).length by rw [List.length_append, ← HM.out]; rfl] at ho
        obtain ⟨y3, cy3, rfl, r3⟩ := str_row ho
        rw [show (c ++ [t]).length = k + 1 by rw [List.length_append, ← HM.out]; rfl]
        clear ho
        have G7 := grow_next G6 b7
        have T7 := Lib.hid (T6.out.next b7)
        have R7 := Lib.hid r3.txts
        obtain ⟨q, hq⟩ : ∃ q : Nat, (n : Int) % ((p : Int) + 1) = (q : Int) := ⟨n % (p + 1), (Int.natCast_emod n (p + 1)).symm⟩
        have hqp : q ≤ p := by
          have := Int.emod_lt_of_pos (n : Int) (show (0 : Int) < (p : Int) + 1 by omega)
          omega
        have hq' : (n : Int).tmod ((p : Int) + 1) = (q : Int) := by rw [Int.tmod_eq_emod_of_nonneg (by omega), hq]
        have hvz : (E.extract 0 q).size = q := by rw [ByteArray.size_extract]; omega
        have hev : E.extract 0 q = s.extract 0 q := by rw [← HEE.out, sub_extract s p 0 q hqp]
        have hpre := HFEW.out (E.extract 0 q) ⟨Nat.le_refl _, by omega, by rw [extract_all _ _ (Nat.le_refl _), hvz, hev]⟩
        have H2 := Lib.hid (take_impl (E.extract 0 q) (by omega))
        unfold TakePost at H2
        have hjl := hpre.length_le
        obtain ⟨d, hd⟩ : ∃ d, framesF (E.extract 0 q) = d := ⟨_, rfl⟩
        rw [hd] at H2 hpre hjl
        obtain ⟨p2, hp2⟩ : ∃ p2, endF (E.extract 0 q) = p2 := ⟨_, rfl⟩
        rw [hp2] at H2
        obtain ⟨j, hj⟩ : ∃ j, j = d.length := ⟨_, rfl⟩
        rw [← hj] at H2 hjl
        rw [← HM.out] at hjl
        have HJ := Lib.hid hj
        clear hd hp2 hj hev
        go_wp2_with fail
        refine (H2.out _).mono ?_
        rintro e w8 ⟨v, rfl, ho, b8⟩
        rw [HJ.out] at ho
        obtain ⟨y4, cy4, rfl, r4⟩ := str_row ho
        rw [← HJ.out]
        clear ho
        have G8 := grow_next G7 b8
        have T8 := T7.out.next b8
        have R8 := R7.out.next b8
        obtain ⟨g3, rfl, _, cT⟩ := R8 k t (by rw [HM.out, List.getElem?_append_right (Nat.le_refl _), Nat.sub_self]; rfl)
        have hx0 := HEE.out
        have htt : (t.toList == t.toList) = true := by simp
        have hee : (E.toList == E.toList) = true := by simp
        have hfs : (f.size : Int) = 8 + (t.size : Int) := by omega
        have hj1 : decide ((j : Int) ≤ (k : Int)) = true := decide_eq_true (by omega)
        have TP := Lib.hid (T8.prefix hpre)
        have R4 := Lib.hid r4.txts
        clear T8 R8 hpre r4
        have hjc : j ≤ cy := by omega
        have hjc2 : decide ((j : Int) ≤ (cy : Int)) = true := decide_eq_true (by omega)
        cases y with
        | some a =>
          go_wp2_with fail
          refine (HF.out _).mono ?_
          rintro e w9 ⟨rfl, b9⟩
          have G9 := grow_next G8 b9
          go_wp2_with fail
          refine (sameTexts_c d j HJ (by omega) y4 _ cy4 _ _ (R4.out.next b9) (TP.out.next b9)).mono ?_
          rintro e w10 ⟨rfl, b10⟩
          go_wp2_with fail
          go_returns
          exact ⟨rfl, grow_next G9 b10⟩
        | none =>
          obtain ⟨z1, z2⟩ := HNO.out rfl
          obtain rfl : cy = 0 := z2
          obtain rfl : j = 0 := by omega
          clear z1
          go_wp2_with fail
          refine (HF.out _).mono ?_
          rintro e w9 ⟨rfl, b9⟩
          have G9 := grow_next G8 b9
          go_wp2_with fail
          refine (sameTexts_c d 0 HJ (by omega) y4 _ cy4 _ _ (R4.out.next b9) (TP.out.next b9)).mono ?_
          rintro e w10 ⟨rfl, b10⟩
          go_wp2_with fail
          go_returns
          exact ⟨rfl, grow_next G9 b10⟩
  · go_enter Try.func5, Try.ntmps5
    go_wp2_with (go_at_call 13; go_in)
    go_returns
    exact ⟨rfl, Below.refl _ _⟩
set_option maxRecDepth 100000 in
theorem frames_lifted (os : Os) (started : os.Started) (H : Type) (enc : TypeId × Value → H) :
    ReturnsInHanded {} Try.checked os 5 .any (Rows.fnFramesSpec.pre6 enc Try.prog Try.f5 Rows.fnFramesRow.domain false) (Rows.fnFramesSpec.post enc Try.prog Try.f5 false true false false) := by
  refine lifted_of_walk (C := Try.checked) own started (by as_aux_lemma => kernel_rfl) Try.func5
    (ChangeSpec.witness6 (enc := enc) (C := Try.checked) false ⟨#[], #[.slice none 0 0], []⟩ 8 (by as_aux_lemma => kernel_rfl) (by as_aux_lemma => kernel_rfl) (by as_aux_lemma => kernel_rfl) (by as_aux_lemma => kernel_rfl) (by as_aux_lemma => kernel_rfl))
    laidOut rfl (by as_aux_lemma => kernel_rfl) (by as_aux_lemma => kernel_rfl) boolType
    (fun ds h => by
      match ds, h with
      | [_], _ => rfl)
    ?_
  intro W base args ds q hval hA
  rw [Try.params5] at hA hval
  obtain ⟨v0, vs0, d0, ds0, p0, q0, hargs, rfl, rfl, h0, r0⟩ := trodAll_cons hA
  obtain ⟨rfl, rfl, rfl⟩ := trodAll_nil r0
  obtain rfl : args = #[v0] := by cases args; simp_all
  obtain ⟨a0, len0, cap0, z0, rfl, w0⟩ := open_bytes Try.underlying29 Try.underlying5 (by as_aux_lemma => kernel_rfl) (hval 0 29 v0 rfl rfl) h0
  exact frames_walk W a0 len0 cap0 z0 w0

theorem frames_facts : joinedFacts Try.pinned.checked.prog 5 Try.f5 Rows.fnFramesSpec Rows.fnFramesRow = true :=
  facts_of (P := Try.prog) (by as_aux_lemma => kernel_rfl) laidOut mapsRow (by as_aux_lemma => kernel_rfl) (by as_aux_lemma => kernel_rfl) rfl noStops rfl noKnobs (by as_aux_lemma => kernel_rfl) (by as_aux_lemma => kernel_rfl) (by as_aux_lemma => kernel_rfl) (by as_aux_lemma => kernel_rfl) (by as_aux_lemma => kernel_rfl) (by as_aux_lemma => kernel_rfl) (by as_aux_lemma => kernel_rfl) (by as_aux_lemma => kernel_rfl) (by as_aux_lemma => kernel_rfl) rfl (by as_aux_lemma => kernel_rfl) (by as_aux_lemma => kernel_rfl) (by as_aux_lemma => kernel_rfl) keysPlain rfl heard enters finals isMake rfl rfl rfl (by as_aux_lemma => kernel_rfl) (by as_aux_lemma => kernel_rfl)

/-- The given statement. -/
theorem frames_holds : Rows.FnFramesSaid :=
  OpenClaim.holds_of_wide 5 Try.f5 rfl rfl rfl rfl rfl rfl rfl ⟨rfl, rfl, rfl, rfl, rfl⟩ rfl rfl rfl rfl rfl (by as_aux_lemma => kernel_rfl) Try.func5 frames_facts
    (of_decide_eq_true (by as_aux_lemma => kernel_rfl)) (by unfold Func.isWrapper; first | (rw [if_pos (by decide +kernel)]; kernel_rfl) | (rw [if_neg (by decide +kernel)]; exact ⟨rfl, rfl⟩))
    (fun os started H enc _ => frames_lifted os started H enc)
#print axioms frames_holds
end Go.Proofs.Ytejkjlfdadficaa
