/- For every list of nodes the program's HopsOf answers as the reference; its argument stays as it was; its answer owns its memory. -/
import Derived.Test.YtnnhcgnagmdheaaTickOfLaw
import Derived.Test.YtnnhcgnagmdheaaHopsR
namespace Go.Proofs.Ytnnhcgnagmdheaa
open Go.ChangeShapes Go.WideShapes Go.ChangeAt Go.RowKit
set_option linter.unusedVariables false
set_option linter.unusedSimpArgs false

def asNd (H : List Int) : Nd := ⟨false, H, 0, 0⟩
theorem hopsV_short (l : List Nd) : (hopsV l).length ≤ 12 := by
  unfold hopsV
  cases hok : nodesOk l with
  | false => simp
  | true =>
    simp only [if_true]
    rw [hopsL_len]
    exact nodesOk_len hok
set_option maxRecDepth 100000 in
set_option maxHeartbeats 8000000 in
theorem ho_walk (W : World) (x : Option Addr) (n cap : Nat) (l : List Nd) (h : Hid (n = l.length) ∧ n ≤ cap ∧ cap ≤ maxLen ∧ Nds W.heap.size W x l) :
    Calls Try.prog 8 #[.slice x n cap] W fun e w' => e = .returned (.bool true) ∧ Below W.heap.size W w' := by
  obtain ⟨hn, hnc, hcm, hr⟩ := h
  have hnm : n ≤ maxLen := Nat.le_trans hnc hcm
  have HZ := Lib.hid (szNodeS_c l n hn hnm x cap W hr)
  obtain ⟨H, hH⟩ : ∃ H, hopsV l = H := ⟨_, rfl⟩
  obtain ⟨m, hm⟩ : ∃ m, H.length = m := ⟨_, rfl⟩
  have hm12 : m ≤ 12 := by rw [← hm, ← hH]; exact hopsV_short l
  have hmm : m ≤ maxLen := by unfold maxLen; omega
  have HS := Lib.hid (fun x cap (W : World) h => (show Calls Try.prog 31 #[.slice x n cap] W fun e w' => ∃ y c, e = .returned (.slice y m c) ∧ PeersOwn W.heap.size w' ⟨asNd H, y, c⟩ ∧ Below W.heap.size W w' from (hopsOf_spec l n hn hnm x cap W h).mono (by
    rintro e w' ⟨y, c, rfl, ho, hb⟩
    rw [hH] at ho ⊢
    exact ⟨y, c, by rw [hm], ho, hb⟩)))
  have HI := Lib.hid (fun x cap (W : World) h => (show Calls Try.prog 32 #[.slice x n cap] W fun e w' => ∃ y c, e = .returned (.slice y m c) ∧ PeersOwn W.heap.size w' ⟨asNd H, y, c⟩ ∧ Below W.heap.size W w' from (hopsOf_impl l n hn hnm x cap W h).mono (by
    rintro e w' ⟨y, c, rfl, ho, hb⟩
    rw [hH] at ho ⊢
    exact ⟨y, c, by rw [hm], ho, hb⟩)))
  have HE := Lib.hid (fun x y cap cap' w h h' => eqNodeS_c l n hn hnm x y cap cap' w h h')
  have HMM := Lib.hid hm
  have HN := Lib.hid (fun px py pc pd (w : World) b b' (h : PeersOwn b w ⟨asNd H, px, pc⟩) (h' : PeersOwn b' w ⟨asNd H, py, pd⟩) => eqInts_c H m (Lib.hid hm.symm) hmm px py pc pd w h.ints.1 h'.ints.1)
  clear hnc hcm hnm hH hm
  go_enter Try.func8, Try.ntmps8
  go_wp2_with fail
  refine HZ.out.mono ?_
  rintro e w0 ⟨r, rfl, hz, b0⟩
  rcases hz with hz | ⟨hz, hn1, hs1⟩
  · have hd : decide (r < 0) = true := decide_eq_true hz
    go_wp2_with fail
    go_returns
    exact ⟨rfl, b0⟩
  · have hd : decide (r < 0) = false := decide_eq_false (by omega)
    have HT := Lib.hid (fun w h => toNodeS_c l n hn hn1 hs1 x cap w h)
    have HMK := Lib.hid (fun hi g cap w h => markNodeS_c (l.map fun v => v.peers.length) n (Lib.hid (by rw [List.length_map]; exact hn.out)) hn1 (sumNs_all l (by rw [← hn.out]; exact hn1) hs1) (fun q hq => by
      obtain ⟨v, hv, rfl⟩ := List.mem_map.1 hq
      obtain ⟨j, hj⟩ := List.getElem?_of_mem hv
      exact Nat.le_trans (peersSum_le hj) hs1) hi g cap w h)
    clear hz HZ
    go_wp2_with fail
    refine (HT.out _ (hr.next b0)).mono ?_
    rintro e w1 ⟨g1, rfl, t1, hg1, hb1⟩
    have b1 := grow_next b0 hb1
    go_wp2_with fail
    refine (HS.out _ _ _ t1.nds).mono ?_
    rintro e w2 ⟨p0, c0, rfl, P0, hb2⟩
    have b2 := grow_next b1 hb2
    clear t1 hb1 hb2
    go_wp2_with fail
    refine (HT.out _ (hr.next b2)).mono ?_
    rintro e w3 ⟨g3, rfl, t3, hg3, hb3⟩
    have b3 := grow_next b2 hb3
    have P03 := P0.next hb3
    have M3 := t3.mark
    have hg3l := t3.lt
    have hP0lt : ∀ p, (Value.slice p0 (asNd H).peers.length c0).ownBlock = some p → p < g3 := fun p hp => by
      have := (P0.lt p hp).2
      omega
    clear P0
    go_wp2_with fail
    refine (HI.out _ _ _ t3.nds).mono ?_
    rintro e w4 ⟨p4, c4, rfl, P4, hb4⟩
    have b4 := grow_next b3 hb4
    have P04 := P03.next hb4
    have t4 := t3.next hb4
    have hP4ge : ∀ p, (Value.slice p4 (asNd H).peers.length c4).ownBlock = some p → w3.heap.size ≤ p := fun p hp => (P4.lt p hp).1
    clear P03 t3
    go_wp2_with fail
    refine (HN.out _ _ _ _ _ _ _ P4 P04).mono ?_
    rintro e w5 ⟨rfl, hb5⟩
    have b5 := grow_next b4 hb5
    have B35 := grow_next hb4 hb5
    have P05 := P04.next hb5
    have P45 := P4.next hb5
    have t5 := t4.next hb5
    clear P04 P4 t4 hb4
    go_wp2_with fail
    refine (HT.out _ (hr.next b5)).mono ?_
    rintro e w6 ⟨g6, rfl, t6, _, hb6⟩
    have b6 := grow_next b5 hb6
    have t5' := t5.next hb6
    go_wp2_with fail
    refine (HE.out _ _ _ _ _ t5'.nds t6.nds).mono ?_
    rintro e w7 ⟨rfl, hb7⟩
    have b7 := grow_next b6 hb7
    have B57 := grow_next hb6 hb7
    have B37 := grow_next B35 B57
    have P07 := P05.next B57
    have P47 := P45.next B57
    have M7 := M3.keep (fun b _ hlt => B37.block b hlt)
    clear t5 t5' t6 P05 P45 M3
    go_wp2_with fail
    refine (HMK.out _ _ _ _ M7).mono ?_
    rintro e w8 ⟨km, rfl, hkm, T8⟩
    have hW3 : W.heap.size ≤ g3 := Nat.le_trans b2.size hg3
    have b8 := TurnIn.below b7 T8 hW3 b7.size
    have P08 := P07.turn T8 (fun p hp => .inl (hP0lt p hp))
    have P48 := P47.turn T8 (fun p hp => .inr (hP4ge p hp))
    have hdk : decide (km < 0) = false := decide_eq_false (by omega)
    clear P07 P47 M7
    go_wp2_with fail
    refine (HN.out _ _ _ _ _ _ _ P48 P08).mono ?_
    rintro e w9 ⟨rfl, hb9⟩
    have b9 := grow_next b8 hb9
    have P09 := P08.next hb9
    have P49 := P48.next hb9
    obtain ⟨row, sz, hrow, hrl⟩ := P49.row
    have hrow' : RowIn w9 p4 m row sz := by rw [← HMM.out]; exact hrow
    have HMN := Lib.hid (markInts_c m (by omega) 1 (by omega) (by omega) p4 c4 row sz w9 hrow')
    have hrow3 : ∀ p, row = some p → w3.heap.size ≤ p := fun p hp => hP4ge p (hrl p hp)
    clear P08 P48 hrow hrow'
    go_wp2_with fail
    refine HMN.out.mono ?_
    rintro e wA ⟨rfl, hA, _, hgA⟩
    have hg3' : W.heap.size ≤ w3.heap.size := b3.size
    have bA : Below W.heap.size W wA := b9.grown hgA b9.size (fun p hp => Nat.le_trans hg3' (hrow3 p hp))
    have P0A := P09.kept hgA (fun p hp e2 => by
      have h1 := hP0lt p hp
      have h2 := hrow3 p e2
      omega)
    have HHD := Lib.hid (fun (w : World) h => heldInts_c m (by omega) 1 (by omega) (by omega) p4 c4 w h)
    have hd1 : decide ((1 : Int) + (m : Int) < 0) = false := decide_eq_false (by omega)
    clear P09 P49 hgA hrl hrow3 HMN
    go_wp2_with fail
    refine (HHD.out _ hA).mono ?_
    rintro e wB ⟨rfl, hbB⟩
    have bB := grow_next bA hbB
    have HHB := Lib.hid (hA.next hbB)
    have P0B := P0A.next hbB
    clear P0A hA
    go_wp2_with fail
    refine (HT.out _ (hr.next bB)).mono ?_
    rintro e wC ⟨gC, rfl, tC, _, hbC⟩
    have bC := grow_next bB hbC
    go_wp2_with fail
    refine (HI.out _ _ _ tC.nds).mono ?_
    rintro e wD ⟨pD, cD, rfl, PD, hbD⟩
    have BBD := grow_next hbC hbD
    have bD := grow_next bB BBD
    have P0D := P0B.next BBD
    have HHDD := Lib.hid (HHB.out.next BBD)
    clear P0B tC HHB hbC hbD
    go_wp2_with fail
    refine (HN.out _ _ _ _ _ _ _ PD P0D).mono ?_
    rintro e wE ⟨rfl, hbE⟩
    have bE := grow_next bD hbE
    have HHE := Lib.hid (HHDD.out.next hbE)
    clear P0D PD HHDD
    go_wp2_with fail
    refine (HHD.out _ HHE.out).mono ?_
    rintro e wF ⟨rfl, hbF⟩
    have bF := grow_next bE hbF
    go_wp2_with fail
    go_returns
    exact ⟨rfl, bF⟩

set_option maxRecDepth 100000 in
theorem ho_lifted (os : Os) (started : os.Started) (H : Type) (enc : TypeId × Value → H) :
    ReturnsInHanded {} Try.checked os 8 .any (Rows.fnExactHopsOfSpec.pre6 enc Try.prog Try.f8 Rows.fnExactHopsOfRow.domain false) (Rows.fnExactHopsOfSpec.post enc Try.prog Try.f8 false true false false) := by
  refine lifted_of_walk (C := Try.checked) own started (by as_aux_lemma => kernel_rfl) Try.func8
    (ChangeSpec.witness6 (enc := enc) (C := Try.checked) false ⟨#[], #[.slice none 0 0], []⟩ 8 (by as_aux_lemma => kernel_rfl) (by as_aux_lemma => kernel_rfl) (by as_aux_lemma => kernel_rfl) (by as_aux_lemma => kernel_rfl) (by as_aux_lemma => kernel_rfl))
    laidOut rfl (by as_aux_lemma => kernel_rfl) (by as_aux_lemma => kernel_rfl) boolType
    (fun ds h => by
      match ds, h with
      | [_], _ => rfl)
    ?_
  intro W base args ds q hval hA
  rw [Try.params8] at hA hval
  obtain ⟨v0, vs0, d0, ds0, p0, q0, hargs, rfl, rfl, h0, r0⟩ := trodAll_cons hA
  obtain ⟨rfl, rfl, rfl⟩ := trodAll_nil r0
  obtain rfl : args = #[v0] := by cases args; simp_all
  obtain ⟨a0, len0, cap0, z0, rfl, w0⟩ := open_nds (hval 0 22 v0 rfl rfl) h0
  exact ho_walk W a0 len0 cap0 z0 w0

theorem ho_facts : joinedFacts Try.pinned.checked.prog 8 Try.f8 Rows.fnExactHopsOfSpec Rows.fnExactHopsOfRow = true :=
  facts_of (P := Try.prog) (by as_aux_lemma => kernel_rfl) laidOut mapsRow (by as_aux_lemma => kernel_rfl) (by as_aux_lemma => kernel_rfl) rfl noStops rfl noKnobs (by as_aux_lemma => kernel_rfl) (by as_aux_lemma => kernel_rfl) (by as_aux_lemma => kernel_rfl) (by as_aux_lemma => kernel_rfl) (by as_aux_lemma => kernel_rfl) (by as_aux_lemma => kernel_rfl) (by as_aux_lemma => kernel_rfl) (by as_aux_lemma => kernel_rfl) (by as_aux_lemma => kernel_rfl) rfl (by as_aux_lemma => kernel_rfl) (by as_aux_lemma => kernel_rfl) (by as_aux_lemma => kernel_rfl) keysPlain rfl heard enters finals isMake rfl rfl rfl (by as_aux_lemma => kernel_rfl) (by as_aux_lemma => kernel_rfl)

/-- The given statement. -/
theorem ho_holds : Rows.FnExactHopsOfSaid :=
  OpenClaim.holds_of_wide 8 Try.f8 rfl rfl rfl rfl rfl rfl rfl ⟨rfl, rfl, rfl, rfl, rfl⟩ rfl rfl rfl rfl rfl (by as_aux_lemma => kernel_rfl) Try.func8 ho_facts
    (of_decide_eq_true (by as_aux_lemma => kernel_rfl)) (by unfold Func.isWrapper; first | (rw [if_pos (by decide +kernel)]; kernel_rfl) | (rw [if_neg (by decide +kernel)]; exact ⟨rfl, rfl⟩))
    (fun os started H enc _ => ho_lifted os started H enc)
#print axioms ho_holds
end Go.Proofs.Ytnnhcgnagmdheaa
