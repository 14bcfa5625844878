/- How many hops there are to a source: levels, and that there are never more hops than nodes but one. -/
import Derived.Test.YtpfbdghjppmpnaaLoopsMath
namespace Go.Proofs.Ytpfbdghjppmpnaa
set_option linter.unusedVariables false
set_option linter.unusedSimpArgs false

/-- Is this node reached within so many hops? -/
def reach (l : List Nd) : Nat → Nat → Bool
  | 0, i => match l[i]? with | some v => v.src | none => false
  | k + 1, i => reach l k i || (match l[i]? with | some v => v.peers.any fun p => reach l k p.toNat | none => false)
theorem reach_zero {l : List Nd} {i : Nat} {v : Nd} (hv : l[i]? = some v) : reach l 0 i = v.src := by
  show (match l[i]? with | some v => v.src | none => false) = _
  rw [hv]
theorem reach_succ {l : List Nd} {k i : Nat} {v : Nd} (hv : l[i]? = some v) : reach l (k + 1) i = (reach l k i || v.peers.any fun p => reach l k p.toNat) := by
  show (reach l k i || (match l[i]? with | some v => v.peers.any fun p => reach l k p.toNat | none => false)) = _
  rw [hv]
theorem reach_none {l : List Nd} {i : Nat} (hv : l[i]? = none) : ∀ k, reach l k i = false
  | 0 => by
    show (match l[i]? with | some v => v.src | none => false) = _
    rw [hv]
  | k + 1 => by
    show (reach l k i || (match l[i]? with | some v => v.peers.any fun p => reach l k p.toNat | none => false)) = _
    rw [hv, reach_none hv k]; rfl
theorem reach_more {l : List Nd} {k i : Nat} (h : reach l k i = true) : ∀ m, k ≤ m → reach l m i = true := by
  intro m hm
  induction m with
  | zero => obtain rfl : k = 0 := by omega
            exact h
  | succ m ih =>
    rcases Nat.lt_or_ge k (m + 1) with hlt | hge
    · have := ih (by omega)
      show (reach l m i || _) = true
      rw [this]; rfl
    · obtain rfl : k = m + 1 := by omega
      exact h
/-- Just so many hops. -/
def distIs (l : List Nd) (k i : Nat) : Prop := reach l k i = true ∧ ∀ k', k' < k → reach l k' i = false
theorem dist_one {l : List Nd} {a b i : Nat} (ha : distIs l a i) (hb : distIs l b i) : a = b := by
  rcases Nat.lt_trichotomy a b with h | h | h
  · have := hb.2 a h; rw [ha.1] at this; cases this
  · exact h
  · have := ha.2 b h; rw [hb.1] at this; cases this
theorem dist_of {l : List Nd} {i : Nat} : ∀ {k : Nat}, reach l k i = true → ∃ d, d ≤ k ∧ distIs l d i
  | 0, h => ⟨0, Nat.le_refl _, h, fun k' hk => absurd hk (Nat.not_lt_zero _)⟩
  | k + 1, h => by
    cases hk : reach l k i with
    | true =>
      obtain ⟨d, hd, hdi⟩ := dist_of hk
      exact ⟨d, by omega, hdi⟩
    | false =>
      refine ⟨k + 1, Nat.le_refl _, h, fun k' hk' => ?_⟩
      cases hc : reach l k' i with
      | false => rfl
      | true =>
        have := reach_more hc k (by omega)
        rw [hk] at this; cases this
/-- Ahead of it is one with one hop less. -/
theorem dist_prev {l : List Nd} {k i : Nat} (h : distIs l (k + 1) i) : ∃ v p, l[i]? = some v ∧ p ∈ v.peers ∧ distIs l k p.toNat := by
  cases hv : l[i]? with
  | none =>
    have := h.1
    rw [reach_none hv] at this; cases this
  | some v =>
    have h1 := h.1
    rw [reach_succ hv, h.2 k (Nat.lt_succ_self k), Bool.false_or, List.any_eq_true] at h1
    obtain ⟨p, hp, hr⟩ := h1
    refine ⟨v, p, rfl, hp, hr, fun k' hk' => ?_⟩
    cases hc : reach l k' p.toNat with
    | false => rfl
    | true =>
      have h2 : reach l (k' + 1) i = true := by
        rw [reach_succ hv, Bool.or_eq_true, List.any_eq_true]
        exact .inr ⟨p, hp, hc⟩
      rw [h.2 (k' + 1) (by omega)] at h2
      cases h2
theorem dist_in {l : List Nd} {k i : Nat} (h : distIs l k i) : i < l.length := by
  rcases Nat.lt_or_ge i l.length with hlt | hge
  · exact hlt
  · have := h.1
    rw [reach_none (List.getElem?_eq_none hge)] at this
    cases this
theorem dist_chain {l : List Nd} : ∀ {d i : Nat}, distIs l d i → ∀ k, k ≤ d → ∃ j, distIs l k j
  | 0, i, h, k, hk => by
    obtain rfl : k = 0 := by omega
    exact ⟨i, h⟩
  | d + 1, i, h, k, hk => by
    rcases Nat.lt_or_ge k (d + 1) with hlt | hge
    · obtain ⟨v, p, _, _, hp⟩ := dist_prev h
      exact dist_chain hp k (by omega)
    · obtain rfl : k = d + 1 := by omega
      exact ⟨i, h⟩
/-- There are never as many hops as nodes. -/
theorem dist_lt {l : List Nd} {d i : Nat} (h : distIs l d i) : d < l.length := by
  rcases Nat.lt_or_ge d l.length with hlt | hge
  · exact hlt
  · exfalso
    have hch := dist_chain h
    let f : Nat → Nat := fun k => if hk : k ≤ d then Classical.choose (hch k hk) else 0
    have hf : ∀ k (hk : k ≤ d), distIs l k (f k) := fun k hk => by
      show distIs l k (if hk : k ≤ d then Classical.choose (hch k hk) else 0)
      rw [dif_pos hk]
      exact Classical.choose_spec (hch k hk)
    obtain ⟨a, b, hab, hbn, e⟩ := pigeon l.length f (fun k hk => dist_in (hf k (by omega)))
    have h1 := hf a (by omega)
    have h2 := hf b (by omega)
    rw [e] at h1
    have := dist_one h1 h2
    omega
/-- Its hops, or -1. -/
def hopsAt (l : List Nd) (m i : Nat) : Int := match (List.range (m + 1)).find? fun k => reach l k i with | some k => k | none => -1
theorem hopsAt_of {l : List Nd} {m d i : Nat} (h : distIs l d i) (hm : d ≤ m) : hopsAt l m i = d := by
  unfold hopsAt
  cases hf : (List.range (m + 1)).find? fun k => reach l k i with
  | none =>
    have := List.find?_eq_none.1 hf d (List.mem_range.2 (by omega))
    rw [h.1] at this
    exact absurd rfl this
  | some k =>
    have h1 := List.find?_some hf
    have h2 := List.mem_range.1 (List.mem_of_find?_eq_some hf)
    rw [List.find?_range_eq_some] at hf
    have : k = d := by
      rcases Nat.lt_trichotomy k d with hlt | he | hgt
      · have := h.2 k hlt; rw [h1] at this; cases this
      · exact he
      · have := hf.2.2 d hgt
        rw [h.1] at this
        cases this
    rw [this]
theorem hopsAt_no {l : List Nd} {m i : Nat} (h : reach l m i = false) : hopsAt l m i = -1 := by
  unfold hopsAt
  cases hf : (List.range (m + 1)).find? fun k => reach l k i with
  | none => rfl
  | some k =>
    have h1 := List.find?_some hf
    have h2 := List.mem_range.1 (List.mem_of_find?_eq_some hf)
    have := reach_more h1 m (by omega)
    rw [h] at this
    cases this
end Go.Proofs.Ytpfbdghjppmpnaa
