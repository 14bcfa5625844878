/- With a source more none stands farther below: the numbers. -/
import Derived.Test.YtpfbdghjppmpnaaHopsI
namespace Go.Proofs.Ytpfbdghjppmpnaa
set_option linter.unusedVariables false
set_option linter.unusedSimpArgs false

/-- The last node made a source. -/
def lastSrc (l : List Nd) (k : Nat) (v : Nd) : List Nd := l.set k ⟨true, v.peers, -1, 1⟩
theorem lastSrc_at {l : List Nd} {k : Nat} {v : Nd} (hv : l[k]? = some v) {i : Nat} {u : Nd} (hu : l[i]? = some u) : ∃ u', (lastSrc l k v)[i]? = some u' ∧ u'.peers = u.peers ∧ (u.src = true → u'.src = true) ∧ (i = k → u'.src = true) ∧ (u' = u ∨ (i = k ∧ u' = ⟨true, v.peers, -1, 1⟩)) := by
  have hil := (List.getElem?_eq_some_iff.1 hu).1
  by_cases h : k = i
  · subst h
    rw [hv] at hu
    obtain rfl := Option.some.inj hu
    refine ⟨⟨true, v.peers, -1, 1⟩, ?_, rfl, fun _ => rfl, fun _ => rfl, .inr ⟨rfl, rfl⟩⟩
    unfold lastSrc
    rw [List.getElem?_set_self hil]
  · refine ⟨u, ?_, rfl, fun h => h, fun e => absurd e.symm h, .inl rfl⟩
    unfold lastSrc
    rw [List.getElem?_set_ne h]
    exact hu
theorem lastSrc_len (l : List Nd) (k : Nat) (v : Nd) : (lastSrc l k v).length = l.length := by unfold lastSrc; rw [List.length_set]
theorem reach_src {l : List Nd} {k : Nat} {v : Nd} (hv : l[k]? = some v) : ∀ (t i : Nat), reach l t i = true → reach (lastSrc l k v) t i = true
  | 0, i, h => by
    cases hu : l[i]? with
    | none => rw [reach_none hu] at h; cases h
    | some u =>
      obtain ⟨u', h1, _, h2, _⟩ := lastSrc_at hv hu
      rw [reach_zero hu] at h
      rw [reach_zero h1]
      exact h2 h
  | t + 1, i, h => by
    cases hu : l[i]? with
    | none => rw [reach_none hu] at h; cases h
    | some u =>
      obtain ⟨u', h1, hp, _⟩ := lastSrc_at hv hu
      rw [reach_succ hu, Bool.or_eq_true, List.any_eq_true] at h
      rw [reach_succ h1, Bool.or_eq_true, List.any_eq_true, hp]
      rcases h with h | ⟨p, hm, h⟩
      · exact .inl (reach_src hv t i h)
      · exact .inr ⟨p, hm, reach_src hv t p.toNat h⟩
theorem lastSrc_ok {l : List Nd} {k : Nat} {v : Nd} (hv : l[k]? = some v) (h : nodesOk l = true) : nodesOk (lastSrc l k v) = true := by
  have hlen := lastSrc_len l k v
  unfold nodesOk
  rw [Bool.and_eq_true, decide_eq_true_eq]
  refine ⟨?_, by rw [hlen]; exact nodesOk_len h⟩
  unfold okTo
  rw [List.all_eq_true]
  intro i hi
  have hil := List.mem_range.1 hi
  rw [hlen] at hil
  obtain ⟨u, hu⟩ := getN hil
  obtain ⟨u', h1, hp, _, _, h5⟩ := lastSrc_at hv hu
  have hok := nodesOk_at h hu
  rw [h1, hlen]
  rcases h5 with rfl | ⟨rfl, rfl⟩
  · exact hok
  · rw [hu] at hv
    obtain rfl := Option.some.inj hv
    have hq := nd_parts hok
    unfold ndOk
    simp only [hq.1, hq.2.1]
    rfl
/-- What is told of the hops then. -/
theorem more_facts {l : List Nd} {k : Nat} {v : Nd} (hv : l[k]? = some v) {i : Nat} (hi : i < l.length) : ∃ a b, (hopsL l)[i]? = some a ∧ (hopsL (lastSrc l k v))[i]? = some b ∧ -1 ≤ a ∧ -1 ≤ b ∧ (0 ≤ a → 0 ≤ b ∧ b ≤ a) ∧ (i = k → b = 0) := by
  have hg : ∀ (L : List Nd), i < L.length → (hopsL L)[i]? = some (hopsAt L L.length i) := fun L h => by
    unfold hopsL
    rw [List.getElem?_map, List.getElem?_range h]
    rfl
  have hlen := lastSrc_len l k v
  have hcase : ∀ (L : List Nd), (reach L L.length i = false ∧ hopsAt L L.length i = -1) ∨ ∃ d, d ≤ L.length ∧ distIs L d i ∧ hopsAt L L.length i = (d : Int) := fun L => by
    cases h : reach L L.length i with
    | false => exact .inl ⟨rfl, hopsAt_no h⟩
    | true =>
      obtain ⟨d, hd, hdi⟩ := dist_of h
      exact .inr ⟨d, hd, hdi, hopsAt_of hdi hd⟩
  refine ⟨_, _, hg l hi, hg _ (by rw [hlen]; exact hi), ?_, ?_, ?_, ?_⟩
  · rcases hcase l with ⟨_, e⟩ | ⟨d, _, _, e⟩ <;> rw [e] <;> omega
  · rcases hcase (lastSrc l k v) with ⟨_, e⟩ | ⟨d, _, _, e⟩ <;> rw [e] <;> omega
  · intro h0
    rcases hcase l with ⟨_, e⟩ | ⟨d, hd, hdi, e⟩
    · rw [e] at h0; omega
    · rw [e]
      obtain ⟨d', hd', hdi'⟩ := dist_of (reach_src hv d i hdi.1)
      rw [hopsAt_of hdi' (by rw [hlen]; omega)]
      omega
  · rintro rfl
    obtain ⟨u', h1, _, _, h4, _⟩ := lastSrc_at hv hv
    have h0 : distIs (lastSrc l i v) 0 i := ⟨by rw [reach_zero h1]; exact h4 rfl, fun k' hk => absurd hk (Nat.not_lt_zero _)⟩
    rw [hopsAt_of h0 (Nat.zero_le _)]
    rfl
end Go.Proofs.Ytpfbdghjppmpnaa
