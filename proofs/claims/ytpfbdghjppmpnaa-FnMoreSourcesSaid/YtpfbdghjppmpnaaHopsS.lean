/- How many hops: the reference's HopsOf. -/
import Derived.Test.YtpfbdghjppmpnaaHopsP
import Derived.Test.YtpfbdghjppmpnaaNdOkS
namespace Go.Proofs.Ytpfbdghjppmpnaa
open Go.ChangeShapes Go.WideShapes Go.ChangeAt Go.RowKit
set_option linter.unusedVariables false
set_option linter.unusedSimpArgs false

theorem hopsAt_val (l : List Nd) (m i : Nat) : (hopsAt l m i = -1 ∧ reach l m i = false) ∨ ∃ d : Nat, hopsAt l m i = d ∧ distIs l d i ∧ d ≤ m := by
  cases h : reach l m i with
  | false => exact .inl ⟨hopsAt_no h, rfl⟩
  | true =>
    obtain ⟨d, hd, hdi⟩ := dist_of h
    exact .inr ⟨d, hopsAt_of hdi hd, hdi, hd⟩
theorem hopsAt_zero {l : List Nd} {i : Nat} {v : Nd} (hv : l[i]? = some v) : hopsAt l 0 i = if v.src then 0 else -1 := by
  have hr := reach_zero hv
  cases hs : v.src with
  | true =>
    rw [hs] at hr
    simp only [if_true]
    exact hopsAt_of ⟨hr, fun k' hk' => absurd hk' (Nat.not_lt_zero _)⟩ (Nat.le_refl _)
  | false =>
    rw [hs] at hr
    simp only [Bool.false_eq_true, if_false]
    exact hopsAt_no hr
/-- What stands there: behind hop rounds, and in the next one up to place j. -/
def Sp (l : List Nd) (hop j : Nat) (K : List Int) : Prop := K.length = l.length ∧ ∀ (i : Nat) (k : Int), K[i]? = some k → k = if i < j then hopsAt l (hop + 1) i else hopsAt l hop i
/-- What stands at place j behind so many of its peers. -/
def innerV (l : List Nd) (hop j : Nat) (v : Nd) (k : Nat) : Int := if reach l hop j then hopsAt l hop j else if (v.peers.take k).any (fun p => reach l hop p.toNat) then (hop : Int) + 1 else -1
theorem innerV_zero (l : List Nd) (hop j : Nat) (v : Nd) : innerV l hop j v 0 = hopsAt l hop j := by
  unfold innerV
  cases h : reach l hop j with
  | true => simp
  | false => simp [hopsAt_no h]
theorem innerV_all {l : List Nd} {hop j : Nat} {v : Nd} (hv : l[j]? = some v) {k : Nat} (hk : v.peers.length ≤ k) : innerV l hop j v k = hopsAt l (hop + 1) j := by
  unfold innerV
  rw [List.take_of_length_le hk]
  cases h : reach l hop j with
  | true =>
    simp only [if_true]
    obtain ⟨d, hd, hdi⟩ := dist_of h
    rw [hopsAt_of hdi hd, hopsAt_of hdi (by omega)]
  | false =>
    simp only [Bool.false_eq_true, if_false]
    have hr := reach_succ (k := hop) hv
    rw [h, Bool.false_or] at hr
    cases ha : v.peers.any fun p => reach l hop p.toNat with
    | false =>
      rw [ha] at hr
      simp only [Bool.false_eq_true, if_false]
      exact (hopsAt_no hr).symm
    | true =>
      rw [ha] at hr
      simp only [if_true]
      have hd : distIs l (hop + 1) j := ⟨hr, fun k' hk' => by
        cases hc : reach l k' j with
        | false => rfl
        | true =>
          have := reach_more hc hop (by omega)
          rw [h] at this; cases this⟩
      rw [hopsAt_of hd (Nat.le_refl _)]
      omega
theorem innerV_in (l : List Nd) (hop j : Nat) (v : Nd) (k : Nat) (hh : hop ≤ 12) : -1 ≤ innerV l hop j v k ∧ innerV l hop j v k ≤ 13 := by
  unfold innerV
  split
  · rcases hopsAt_val l hop j with ⟨h, _⟩ | ⟨d, h, _, hd⟩ <;> omega
  · split <;> omega
/-- One peer more. -/
theorem innerV_next {l : List Nd} {hop j : Nat} {v : Nd} {K : List Int} (hok : nodesOk l = true) (hK : Sp l hop j K) (hv : l[j]? = some v) {k : Nat} {p c : Int} (hp : v.peers[k]? = some p) (hc : K[p.toNat]? = some c) :
    innerV l hop j v (k + 1) = if innerV l hop j v k < 0 ∧ c = hop then (hop : Int) + 1 else innerV l hop j v k := by
  have hpm := List.mem_of_getElem? hp
  have hnd := nodesOk_at hok hv
  have hpj : p ≠ (j : Int) := fun e => by
    have := (nd_parts hnd).2.1
    rw [← e, has_hit hp] at this
    cases this
  have hpin := peer_in hnd hpm
  have hc' := hK.2 _ _ hc
  unfold innerV
  rw [List.take_add_one, hp]
  cases h : reach l hop j with
  | true =>
    simp only [if_true]
    obtain ⟨d, hd, hdi⟩ := dist_of h
    rw [hopsAt_of hdi hd]
    rw [if_neg (by omega)]
  | false =>
    simp only [Bool.false_eq_true, if_false, List.any_append, Option.toList_some, List.any_cons, List.any_nil, Bool.or_false]
    cases ha : (v.peers.take k).any fun p => reach l hop p.toNat with
    | true =>
      simp only [Bool.true_or, if_true]
      rw [if_neg (by omega)]
    | false =>
      simp only [Bool.false_or, Bool.false_eq_true, if_false]
      cases hr : reach l hop p.toNat with
      | true =>
        obtain ⟨d, hd, hdi⟩ := dist_of hr
        have hdh : d = hop := by
          rcases Nat.lt_or_ge d hop with hlt | hge
          · have h2 : reach l (d + 1) j = true := by
              rw [reach_succ hv, Bool.or_eq_true, List.any_eq_true]
              exact .inr ⟨p, hpm, hdi.1⟩
            have := reach_more h2 hop hlt
            rw [h] at this; cases this
          · omega
        have hce : c = hop := by
          rw [hc']
          split
          · rw [hopsAt_of hdi (by omega), hdh]
          · rw [hopsAt_of hdi hd, hdh]
        simp only [if_true]
        rw [if_pos ⟨by omega, hce⟩]
      | false =>
        simp only [Bool.false_eq_true, if_false]
        rw [if_neg]
        rintro ⟨_, hce⟩
        have key : ∀ m, hopsAt l m p.toNat = (hop : Int) → False := fun m e => by
          rcases hopsAt_val l m p.toNat with ⟨h1, _⟩ | ⟨d, h1, hdi, _⟩
          · omega
          · obtain rfl : d = hop := by omega
            rw [hdi.1] at hr; cases hr
        rw [hc'] at hce
        split at hce
        · exact key _ hce
        · exact key _ hce
theorem Sp.step {l : List Nd} {hop j : Nat} {K : List Int} (h : Sp l hop j K) : Sp l hop (j + 1) (K.set j (hopsAt l (hop + 1) j)) :=
  ⟨by rw [List.length_set]; exact h.1, fun i k hk => by
    by_cases hij : i = j
    · subst hij
      have hl : i < K.length := by
        have := (List.getElem?_eq_some_iff.1 hk).1
        rwa [List.length_set] at this
      rw [List.getElem?_set_self hl] at hk
      rw [if_pos (by omega)]
      exact (Option.some.inj hk).symm
    · rw [List.getElem?_set_ne (Ne.symm hij)] at hk
      have := h.2 i k hk
      rw [this]
      by_cases h1 : i < j
      · rw [if_pos h1, if_pos (by omega)]
      · rw [if_neg h1, if_neg (by omega)]⟩
theorem Sp.pass {l : List Nd} {hop : Nat} {K : List Int} (h : Sp l hop l.length K) : Sp l (hop + 1) 0 K :=
  ⟨h.1, fun i k hk => by
    have hl := (List.getElem?_eq_some_iff.1 hk).1
    have := h.2 i k hk
    rw [if_pos (by rw [← h.1]; exact hl)] at this
    rw [this, if_neg (by omega)]⟩
theorem Sp.end_ {l : List Nd} {K : List Int} (h : Sp l l.length 0 K) : K = hopsL l := by
  apply List.ext_getElem?
  intro i
  rcases Nat.lt_or_ge i l.length with hlt | hge
  · obtain ⟨k, hk⟩ := getI (l := K) (k := i) (by rw [h.1]; exact hlt)
    unfold hopsL
    rw [hk, List.getElem?_map, List.getElem?_range hlt]
    have := h.2 i k hk
    rw [if_neg (by omega)] at this
    rw [this]
    rfl
  · rw [List.getElem?_eq_none (by rw [h.1]; exact hge), List.getElem?_eq_none (by rw [hopsL_len]; exact hge)]
def firstH (l : List Nd) (k : Nat) : List Int := (List.range k).map (hopsAt l 0)
theorem firstH_len (l : List Nd) (k : Nat) : (firstH l k).length = k := by simp [firstH]
theorem firstH_next (l : List Nd) (k : Nat) : firstH l (k + 1) = firstH l k ++ [hopsAt l 0 k] := by simp [firstH, List.range_succ]
theorem firstH_sp (l : List Nd) : Sp l 0 0 (firstH l l.length) := ⟨firstH_len _ _, fun i k hk => by
  have hl := (List.getElem?_eq_some_iff.1 hk).1
  rw [firstH_len] at hl
  unfold firstH at hk
  rw [List.getElem?_map, List.getElem?_range hl] at hk
  simp only [Option.map_some, Option.some.injEq] at hk
  rw [if_neg (by omega)]
  exact hk.symm⟩
theorem own_intsForm {base n : Nat} {w : World} {v : Value} {K : List Int} (h : w.ownsRow base 2 1 v n (K.map (Value.int .i64))) (hn : n = K.length) (hp : 0 < n) : ∃ g cap, v = .slice (some ⟨g, 0, none⟩) n cap ∧ OwnInts base w g cap K := by
  rcases h.2 with ⟨e, e0⟩ | ⟨g, c, cur, e, _⟩
  · omega
  · subst hn
    subst e
    exact ⟨g, c, rfl, h⟩
end Go.Proofs.Ytpfbdghjppmpnaa
