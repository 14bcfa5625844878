/- With a source more none stands farther below: at all drawn nodes. -/
import Derived.Test.YtpfbdghjppmpnaaMoreFn
namespace Go.Proofs.Ytpfbdghjppmpnaa
open Go.ChangeShapes Go.WideShapes Go.ChangeAt Go.RowKit
set_option linter.unusedVariables false
set_option linter.unusedSimpArgs false

set_option maxRecDepth 100000 in
set_option maxHeartbeats 8000000 in
theorem mo_walk (w : World) (x : Option Addr) (n cap z : Nat) (hz : z = n ∧ Code w.heap.size w (.slice x n cap) n) :
    Calls Try.prog 3 #[.slice x n cap] w fun e w' => e = .returned (.bool true) ∧ Below w.heap.size w w' := by
  obtain ⟨_, hc⟩ := hz
  obtain ⟨i0, hi, hz0, hz1, hz2⟩ := info_partsT infoNd'
  have HI0 := Lib.hid hi
  have HZ0 := Lib.hid hz0
  have HZ1 := Lib.hid hz1
  have HZ2 := Lib.hid hz2
  clear hi hz0 hz1 hz2
  by_cases hbig : n ≤ 1048576
  · go_enter Try.func3, Try.ntmps3
    go_wp2_with (go_at_call 4; go_in)
    refine (drawHopsOf_np x n cap _ hc hbig).mono ?_
    rintro e w1 ⟨y, m, c, E, rfl, hmE, hm1, hm8, hrow, hpa, hb1⟩
    obtain ⟨l, hl⟩ : ∃ l, E.map Np.v = l := ⟨_, rfl⟩
    have hm : Hid (m = l.length) := Lib.hid (by rw [← hl, List.length_map]; exact hmE.out)
    have hnd : Nds w1.heap.size w1 y l := by rw [← hl]; exact nds_own hrow hmE.out hpa
    obtain ⟨b, hb⟩ : ∃ b, nodesOk l = b := ⟨_, rfl⟩
    have hmm : m ≤ maxLen := by unfold maxLen; omega
    obtain ⟨H, hH⟩ : ∃ H, hopsV l = H := ⟨_, rfl⟩
    obtain ⟨mh, hmh⟩ : ∃ mh, mh = H.length := ⟨_, rfl⟩
    have hml : mh = if b then m else 0 := by
      rw [hmh, ← hH, ← hb]
      unfold hopsV
      split
      · rw [hopsL_len, ← hm.out]
      · rfl
    have hmh8 : mh ≤ 1048576 := by rw [hml]; split <;> omega
    have HMH : Hid (mh = H.length) := Lib.hid hmh
    have conv : ∀ {W w' : World} {e : Ending}, HopsPost W l (hopsV l).length e w' → IntsPost W H mh e w' := fun {W w' e} h => by
      obtain ⟨y, cc, rfl, ho, hbl⟩ := h
      rw [hH] at ho ⊢
      rw [hmh]
      exact ⟨y, cc, rfl, ints_own ho rfl, hbl⟩
    have HI := Lib.hid ((hopsOf_impl l m hm hmm y c w1 hnd).mono (fun e w' h => conv h) : Calls Try.prog 6 #[.slice y m c] w1 (IntsPost w1 H mh))
    have HS := Lib.hid (fun W h => ((hopsOf_spec l m hm hmm y c W h).mono (fun e w' h => conv h) : Calls Try.prog 8 #[.slice y m c] W (IntsPost W H mh)))
    have HN := Lib.hid (fun W h => (hb ▸ nodesOk_spec l m hm hmm y c W h : Calls Try.prog 9 #[.slice y m c] W fun e w' => e = .returned (.bool b) ∧ Below W.heap.size W w'))
    have HE := Lib.hid (fun (xx yy : Option Addr) cc cc' w h h' => sameIntsN_c H mh HMH hmh8 xx yy cc cc' w h h')
    have HB := Lib.hid hb
    have HH := Lib.hid hH
    have HML := Lib.hid hml
    have HEL := Lib.hid hl
    have HROW := Lib.hid hrow
    have HPA := Lib.hid hpa
    clear hb hmm hH hmh hml conv hl hrow hpa
    go_wp2_with fail
    refine HI.out.mono ?_
    rintro e w2 ⟨hy, hcp, rfl, i2, hb2⟩
    have n2 := hnd.next hb2
    have q2 := hb2
    clear hnd hb2
    go_wp2_with fail
    refine (HS.out _ n2).mono ?_
    rintro e w3 ⟨sy, sc, rfl, si3, hb3⟩
    have n3 := n2.next hb3
    have i3 := i2.next hb3
    have q3 := grow_next q2 hb3
    clear n2 i2 q2 hb3
    go_wp2_with fail
    refine (HE.out _ _ _ _ _ i3 si3).mono ?_
    rintro e w4 ⟨rfl, hb4⟩
    have n4 := n3.next hb4
    have i4 := i3.next hb4
    have q4 := grow_next q3 hb4
    clear n3 i3 q3 hb4 si3
    go_wp2_with fail
    refine (HN.out _ n4).mono ?_
    rintro e w5 ⟨rfl, hb5⟩
    have n5 := n4.next hb5
    have i5 := i4.next hb5
    have q5 := grow_next q4 hb5
    have g5 := grow_next hb1 q5
    clear n4 i4 q4 hb5 hb1
    cases b with
    | false =>
      go_wp2_with fail
      refine (HS.out _ n5).mono ?_
      rintro e w6 ⟨sy2, sc2, rfl, si6, hb6⟩
      have i6 := i5.next hb6
      have g6 := grow_next g5 hb6
      go_wp2_with fail
      refine (HE.out _ _ _ _ _ i6 si6).mono ?_
      rintro e w7 ⟨rfl, hb7⟩
      go_wp2_with fail
      go_returns
      exact ⟨rfl, grow_next g6 hb7⟩
    | true =>
      have hmm3 : mh = m := by simpa using HML.out
      subst hmm3
      have r5 := ownsRow_next HROW.out q5
      have P5 := HPA.out.next q5
      obtain ⟨g, hg0⟩ : ∃ g, y = some ⟨g, 0, none⟩ := by
        rcases r5.2 with ⟨_, e0⟩ | ⟨g, c, cur, e, _⟩
        · omega
        · simp only [Value.slice.injEq] at e
          exact ⟨g, e.1⟩
      subst hg0
      have HO := Lib.hid (World.ownsRow_made (base := w5.heap.size) (e := 31) (size := 4) w5 #[] 0 (Nat.le_refl _) (by simp [maxLen]) rfl)
      have B6 : Below w5.heap.size w5 (w5.alloc (.cells #[] 31)) := below_new _ _
      have HLW : Hid ((flatNp E).length = mh * 4) := Lib.hid (by rw [flatNp_len, ← hmE.out])
      have HNW : Hid (∀ i u, (flatNp E)[i]? = some u → (w5.alloc (.cells #[] 31)).cell? ((⟨g, 0, none⟩ : Addr).add i) = some u) := Lib.hid (fun i u hu => by
        have hil := (List.getElem?_eq_some_iff.1 hu).1
        rw [show (⟨g, 0, none⟩ : Addr).add i = ⟨g, i, none⟩ by unfold Addr.add; split <;> simp_all]
        rw [World.ownsRow.cellAt (ownsRow_next r5 B6) _ (by rw [HLW.out] at hil; omega)]
        exact hu)
      have HR5 := Lib.hid r5
      have HP5 := Lib.hid P5
      clear r5 P5 HROW HPA HS HI HN HE n5 HML
      have B60 := B6.size
      go_upto_region 8 with (at_builtin; go_loud (refine wpList_append_own _ rfl _ _ 24 rfl w5.heap.size 31 i0 (.agg #[.bool false, .slice none 0 0, .int .i64 0, .int .i64 0]) 4 48 Try.underlying24 HI0.out HZ0.out HZ1.out HZ2.out rfl (by decide) _ _ _ rfl HO.out ⟨g, 0, none⟩ mh c (flatNp E) rfl HLW.out HNW.out flatNp_one (by unfold maxLen; omega) (by omega) (by simp) ?_); intro v6 w6 hown6 hgrow6 _; rw [Nat.zero_add, List.nil_append] at hown6; obtain ⟨qx, qc, rfl⟩ := ownsRow_formT hown6)
      have b6 := B6.grown hgrow6 B60 (fun g hg => (HO.out.lt g hg).1)
      obtain ⟨g2, hg2⟩ : ∃ g, qx = some ⟨g, 0, none⟩ := by
        rcases hown6.2 with ⟨_, e0⟩ | ⟨g, c, cur, e, _⟩
        · omega
        · simp only [Value.slice.injEq] at e
          exact ⟨g, e.1⟩
      subst hg2
      obtain ⟨k, hk⟩ : ∃ k, mh = k + 1 := ⟨mh - 1, by omega⟩
      have hw : IntKind.i64.wrap ((mh : Int) - 1) = (k : Int) := by rw [IntWalk.i64_in _ (by omega)]; omega
      have hkm : k < mh := by omega
      have hkm2 : (k : Int) < (mh : Int) := by omega
      have HK := Lib.hid hk
      have hkE : k < E.length := by rw [← hmE.out]; omega
      obtain ⟨e, he⟩ : ∃ e, E[k]? = some e := ⟨_, List.getElem?_eq_getElem hkE⟩
      have r6 := ownsRow_next HR5.out b6
      rw [hmE.out] at r6
      have o6 := hown6
      rw [hmE.out] at o6
      obtain ⟨⟨c0, c1, c2, c3⟩, _⟩ := np_cells r6 he
      obtain ⟨⟨d0, d1, d2, d3⟩, hfz⟩ := np_cells o6 he
      have f0 := hfz (k * 4)
      have f1 := hfz (k * 4 + 1)
      have f2 := hfz (k * 4 + 2)
      have f3 := hfz (k * 4 + 3)
      have HMN := more_nds g5.size HP5.out b6 hown6 hmE.out he
      unfold put4N at HMN
      have hv : l[k]? = some e.v := by rw [← HEL.out, List.getElem?_map, he]; rfl
      rw [HEL.out] at HMN
      have HLS := Lib.hid (lastSrc_ok hv HB.out)
      have HHL : Hid (H = hopsL l) := Lib.hid (by rw [← HH.out]; unfold hopsV; rw [HB.out]; rfl)
      have HF := Lib.hid (fun (i : Nat) (hi : i < mh) => more_facts hv (i := i) (by rw [← hm.out]; exact hi))
      have HV := Lib.hid hv
      clear hk hkE he hfz r6 o6 hown6 hgrow6 hv HO HNW
      go_upto_region 10 with (fail)
      generalize (((w6.setCell ⟨g2, k * 4, none⟩ (.bool true)).setCell ⟨g2, k * 4 + 1, none⟩ (.slice e.px e.v.peers.length e.pc)).setCell ⟨g2, k * 4 + 2, none⟩ (.int .i64 (-1))).setCell ⟨g2, k * 4 + 3, none⟩ (.int .i64 1) = w7 at *
      obtain ⟨n7, b7⟩ := HMN
      clear c0 c1 c2 c3 d0 d1 d2 d3 f0 f1 f2 f3 b6 B6 B60
      have hm7 : Hid (mh = (lastSrc l k e.v).length) := Lib.hid (by rw [lastSrc_len]; exact hm.out)
      obtain ⟨M, hM⟩ : ∃ M, M = hopsL (lastSrc l k e.v) := ⟨_, rfl⟩
      have HMM := Lib.hid hM
      have hML : M.length = mh := by rw [hM, hopsL_len, ← hm7.out]
      have hMV : hopsV (lastSrc l k e.v) = M := by unfold hopsV; rw [HLS.out, hM]; rfl
      have HI7 := Lib.hid ((hopsOf_impl _ mh hm7 (by unfold maxLen; omega) (some ⟨g2, 0, none⟩) qc w7 n7).mono (fun e w' h => by
        obtain ⟨y, cc, rfl, ho, hbl⟩ := h
        rw [hMV, hML] at ho ⊢
        exact ⟨y, cc, rfl, ints_own ho hML.symm, hbl⟩) : Calls Try.prog 6 #[.slice (some ⟨g2, 0, none⟩) mh qc] w7 (IntsPost w7 M mh))
      rw [← hM] at HF
      have HF2 : Hid (∀ i : Nat, i < mh → ∃ a b, H[i]? = some a ∧ M[i]? = some b ∧ -1 ≤ a ∧ -1 ≤ b ∧ (0 ≤ a → 0 ≤ b ∧ b ≤ a) ∧ (i = k → b = 0)) := Lib.hid (by rw [HHL.out]; exact HF.out)
      have i7 := i5.next b7
      have g7 := grow_next g5 b7
      clear hM hML hMV HF n7 b7 i5 g5
      go_wp2_with fail
      refine HI7.out.mono ?_
      rintro e w8 ⟨my, mc, rfl, j8, hb8⟩
      have i8 := i7.next hb8
      have g8 := grow_next g7 hb8
      clear i7 g7 hb8 HI7
      go_wp2_with fail
      go_loopw [8] (fun q wr => ∃ i : Nat, i ≤ mh ∧ q = .int .i64 i ∧ Below w8.heap.size w8 wr) (fun q _ => mh - (intOf q).toNat)
      case atStart => exact ⟨0, Nat.zero_le _, rfl, Below.refl _ _⟩
      case round =>
        obtain ⟨i, hi, rfl, hb⟩ := hrel
        by_cases hlt : i < mh
        · have hd0 : decide ((i : Int) < (mh : Int)) = true := decide_eq_true (by omega)
          obtain ⟨a, b, ha, hbb, a0, b0, hab, _⟩ := HF2.out i hlt
          obtain ⟨ga, oa, rfl, _, ca⟩ := (i8.next hb).at_ ha
          obtain ⟨gb, ob, rfl, _, cb⟩ := (j8.next hb).at_ hbb
          clear ha hbb
          cases hd : decide (0 ≤ a) with
          | true =>
            have hab2 := hab (of_decide_eq_true hd)
            have e1 : decide (a < b) = false := decide_eq_false (by omega)
            have e2 : decide (b < 0) = false := decide_eq_false (by omega)
            clear hab
            go_wp2_with fail
            go_quiet (fail)
            go_wp2_with fail
            go_roundw
            case rel => exact ⟨i + 1, by omega, by go_num, grow_drew hb _⟩
            case measure => simp [intOf]; omega
          | false =>
            clear hab
            cases e1 : decide (a < b) with
            | true =>
              go_wp2_with fail
              go_quiet (fail)
              go_wp2_with fail
              go_roundw
              case rel => exact ⟨i + 1, by omega, by go_num, grow_drew hb _⟩
              case measure => simp [intOf]; omega
            | false =>
              go_wp2_with fail
              go_quiet (fail)
              go_wp2_with fail
              go_roundw
              case rel => exact ⟨i + 1, by omega, by go_num, grow_drew hb _⟩
              case measure => simp [intOf]; omega
        · have hd0 : decide ((i : Int) < (mh : Int)) = false := decide_eq_false (by omega)
          obtain ⟨a, b, _, hbb, _, _, _, hb0⟩ := HF2.out k hkm
          obtain rfl := hb0 rfl
          obtain ⟨gb, ob, rfl, _, cb⟩ := (j8.next hb).at_ hbb
          clear hbb hb0
          go_wp2_with fail
          go_returns
          exact ⟨rfl, grow_next g8 hb⟩
  · go_enter Try.func3, Try.ntmps3
    go_wp2_with (go_at_call 4; go_in)
    go_returns
    exact ⟨rfl, Below.refl _ _⟩
set_option maxRecDepth 100000 in
theorem mo_lifted (os : Os) (started : os.Started) (H : Type) (enc : TypeId × Value → H) :
    ReturnsInHanded {} Try.checked os 3 .any (Rows.fnMoreSourcesSpec.pre6 enc Try.prog Try.f3 Rows.fnMoreSourcesRow.domain false) (Rows.fnMoreSourcesSpec.post enc Try.prog Try.f3 false true false false) := by
  refine lifted_of_walk (C := Try.checked) own started (by as_aux_lemma => kernel_rfl) Try.func3
    (ChangeSpec.witness6 (enc := enc) (C := Try.checked) false ⟨#[], #[.slice none 0 0], []⟩ 8 (by as_aux_lemma => kernel_rfl) (by as_aux_lemma => kernel_rfl) (by as_aux_lemma => kernel_rfl) (by as_aux_lemma => kernel_rfl) (by as_aux_lemma => kernel_rfl))
    laidOut rfl (by as_aux_lemma => kernel_rfl) (by as_aux_lemma => kernel_rfl) boolType
    (fun ds h => by
      match ds, h with
      | [_], _ => rfl)
    ?_
  intro W base args ds q hval hA
  rw [Try.params3] at hA hval
  obtain ⟨v0, vs0, d0, ds0, p0, q0, hargs, rfl, rfl, h0, r0⟩ := trodAll_cons hA
  obtain ⟨rfl, rfl, rfl⟩ := trodAll_nil r0
  obtain rfl : args = #[v0] := by cases args; simp_all
  obtain ⟨a0, len0, cap0, z0, rfl, w0⟩ := open_bytes Try.underlying22 Try.underlying5 (by as_aux_lemma => kernel_rfl) (hval 0 22 v0 rfl rfl) h0
  exact mo_walk W a0 len0 cap0 z0 w0

theorem mo_facts : joinedFacts Try.pinned.checked.prog 3 Try.f3 Rows.fnMoreSourcesSpec Rows.fnMoreSourcesRow = true :=
  facts_of (P := Try.prog) (by as_aux_lemma => kernel_rfl) laidOut mapsRow (by as_aux_lemma => kernel_rfl) (by as_aux_lemma => kernel_rfl) rfl noStops rfl noKnobs (by as_aux_lemma => kernel_rfl) (by as_aux_lemma => kernel_rfl) (by as_aux_lemma => kernel_rfl) (by as_aux_lemma => kernel_rfl) (by as_aux_lemma => kernel_rfl) (by as_aux_lemma => kernel_rfl) (by as_aux_lemma => kernel_rfl) (by as_aux_lemma => kernel_rfl) (by as_aux_lemma => kernel_rfl) rfl (by as_aux_lemma => kernel_rfl) (by as_aux_lemma => kernel_rfl) (by as_aux_lemma => kernel_rfl) keysPlain rfl heard enters finals isMake rfl rfl rfl (by as_aux_lemma => kernel_rfl) (by as_aux_lemma => kernel_rfl)

/-- The given statement. -/
theorem mo_holds : Rows.FnMoreSourcesSaid :=
  OpenClaim.holds_of_wide 3 Try.f3 rfl rfl rfl rfl rfl rfl rfl ⟨rfl, rfl, rfl, rfl, rfl⟩ rfl rfl rfl rfl rfl (by as_aux_lemma => kernel_rfl) Try.func3 mo_facts
    (of_decide_eq_true (by as_aux_lemma => kernel_rfl)) (by unfold Func.isWrapper; first | (rw [if_pos (by decide +kernel)]; kernel_rfl) | (rw [if_neg (by decide +kernel)]; exact ⟨rfl, rfl⟩))
    (fun os started H enc _ => mo_lifted os started H enc)
#print axioms mo_holds
end Go.Proofs.Ytpfbdghjppmpnaa
