/- Who goes by whom it follows: where one comes, and that who goes on beyond the number of all never ends. -/
import Derived.Test.YtdapongofiohgaaNdOk
namespace Go.Proofs.Ytdapongofiohgaa
set_option linter.unusedVariables false
set_option linter.unusedSimpArgs false

/-- Of so many and one more numbers below so many, two are one. -/
theorem pigeon : ∀ (n : Nat) (f : Nat → Nat), (∀ i, i ≤ n → f i < n) → ∃ a b, a < b ∧ b ≤ n ∧ f a = f b
  | 0, f, h => absurd (h 0 (Nat.le_refl _)) (Nat.not_lt_zero _)
  | n + 1, f, h => by
    by_cases hc : ∃ a, a ≤ n ∧ f a = f (n + 1)
    · obtain ⟨a, ha, e⟩ := hc
      exact ⟨a, n + 1, by omega, Nat.le_refl _, e⟩
    · have hl := h (n + 1) (Nat.le_refl _)
      obtain ⟨a, b, hab, hbn, e⟩ := pigeon n (fun i => if f i < f (n + 1) then f i else f i - 1) (fun i hi => by
        have h1 := h i (by omega)
        have h2 : f i ≠ f (n + 1) := fun e => hc ⟨i, hi, e⟩
        split <;> omega)
      have h1 : f a ≠ f (n + 1) := fun e => hc ⟨a, by omega, e⟩
      have h2 : f b ≠ f (n + 1) := fun e => hc ⟨b, hbn, e⟩
      refine ⟨a, b, hab, by omega, ?_⟩
      split at e <;> split at e <;> omega
def refAt (l : List Nd) (a : Int) : Int := match l[a.toNat]? with | some v => v.ref | none => -1
theorem refAt_of {l : List Nd} {a : Int} {v : Nd} (h : l[a.toNat]? = some v) : refAt l a = v.ref := by unfold refAt; rw [h]
/-- Where one is behind so many steps; -1, and it stays there, behind the last one. -/
def posOf (l : List Nd) (i : Int) : Nat → Int
  | 0 => i
  | k + 1 => if posOf l i k < 0 then posOf l i k else refAt l (posOf l i k)
theorem posOf_next {l : List Nd} {i : Int} {k : Nat} (h : ¬ posOf l i k < 0) : posOf l i (k + 1) = refAt l (posOf l i k) := by
  show (if posOf l i k < 0 then posOf l i k else refAt l (posOf l i k)) = _
  rw [if_neg h]
theorem posOf_stay {l : List Nd} {i : Int} {k : Nat} (h : posOf l i k < 0) : posOf l i (k + 1) = posOf l i k := by
  show (if posOf l i k < 0 then posOf l i k else refAt l (posOf l i k)) = _
  rw [if_pos h]
theorem posOf_gone {l : List Nd} {i : Int} {k : Nat} (h : posOf l i k < 0) : ∀ m, k ≤ m → posOf l i m < 0 := by
  intro m hm
  induction m with
  | zero => obtain rfl : k = 0 := by omega
            exact h
  | succ m ih =>
    rcases Nat.lt_or_ge k (m + 1) with hlt | hge
    · have := ih (by omega)
      rw [posOf_stay this]; exact this
    · obtain rfl : k = m + 1 := by omega
      exact h
theorem posOf_same {l : List Nd} {i : Int} {a b : Nat} (h : posOf l i a = posOf l i b) : ∀ m, posOf l i (a + m) = posOf l i (b + m)
  | 0 => h
  | m + 1 => by
    have ih := posOf_same h m
    show (if posOf l i (a + m) < 0 then posOf l i (a + m) else refAt l (posOf l i (a + m))) = (if posOf l i (b + m) < 0 then posOf l i (b + m) else refAt l (posOf l i (b + m)))
    rw [ih]
theorem nodesOk_at {l : List Nd} (h : nodesOk l = true) {j : Nat} {v : Nd} (hv : l[j]? = some v) : ndOk l.length j v = true := by
  unfold nodesOk at h
  rw [Bool.and_eq_true] at h
  exact okTo_at h.1 (List.getElem?_eq_some_iff.1 hv).1 hv
theorem nodesOk_len {l : List Nd} (h : nodesOk l = true) : l.length ≤ 12 := by
  unfold nodesOk at h
  rw [Bool.and_eq_true, decide_eq_true_eq] at h
  exact h.2
theorem nd_parts {N a : Int} {v : Nd} (h : ndOk N a v = true) : riseTo N v.peers v.peers.length = true ∧ v.peers.contains a = false ∧ standsB v = true := by
  unfold ndOk at h
  simp only [Bool.and_eq_true, Bool.not_eq_true'] at h
  exact ⟨h.1.1, h.1.2, h.2⟩
/-- A right node's peers are places. -/
theorem peer_in {N a : Int} {v : Nd} (h : ndOk N a v = true) {z : Int} (hz : z ∈ v.peers) : 0 ≤ z ∧ z ≤ N - 1 := by
  obtain ⟨j, hj⟩ := List.getElem?_of_mem hz
  have := riseTo_at (nd_parts h).1 (List.getElem?_eq_some_iff.1 hj).1 hj
  unfold riseAt at this
  rw [Bool.and_eq_true, inB_iff] at this
  exact this.1
theorem ref_in {N a : Int} (hN : 0 ≤ N) {v : Nd} (h : ndOk N a v = true) : -1 ≤ v.ref ∧ v.ref ≤ N - 1 := by
  have hs := (nd_parts h).2.2
  unfold standsB at hs
  cases hr : (v.ref == -1) with
  | true =>
    have : v.ref = -1 := by simpa using hr
    omega
  | false =>
    cases hsr : v.src with
    | true => rw [hsr, hr] at hs; simp at hs
    | false =>
      rw [hsr, hr] at hs
      simp only [Bool.false_eq_true, if_false, Bool.and_eq_true, List.contains_iff_mem] at hs
      have := peer_in h hs.1
      omega
theorem posOf_in {l : List Nd} (h : nodesOk l = true) {i : Int} (h0 : 0 ≤ i) (h1 : i < l.length) : ∀ k, -1 ≤ posOf l i k ∧ posOf l i k < l.length
  | 0 => ⟨by show -1 ≤ i; omega, h1⟩
  | k + 1 => by
    have ih := posOf_in h h0 h1 k
    by_cases hp : posOf l i k < 0
    · rw [posOf_stay hp]; exact ih
    · rw [posOf_next hp]
      obtain ⟨v, hv⟩ := getN (l := l) (k := (posOf l i k).toNat) (by omega)
      rw [refAt_of hv]
      have := ref_in (by omega) (nodesOk_at h hv)
      omega
/-- Who goes on as often as there are nodes goes on once more. -/
theorem posOf_on {l : List Nd} (h : nodesOk l = true) {i : Int} (h0 : 0 ≤ i) (h1 : i < l.length) (hp : 0 ≤ posOf l i l.length) : 0 ≤ posOf l i (l.length + 1) := by
  rcases Int.lt_or_le (posOf l i (l.length + 1)) 0 with hn | hn
  · exfalso
    have hall : ∀ k, k ≤ l.length → 0 ≤ posOf l i k := fun k hk => by
      rcases Int.lt_or_le (posOf l i k) 0 with hlt | hle
      · have := posOf_gone hlt l.length hk
        omega
      · exact hle
    obtain ⟨a, b, hab, hbn, e⟩ := pigeon l.length (fun k => (posOf l i k).toNat) (fun k hk => by
      have := posOf_in h h0 h1 k
      have := hall k hk
      omega)
    have e' : posOf l i a = posOf l i b := by
      have := hall a (by omega)
      have := hall b hbn
      omega
    have := posOf_same e' (l.length + 1 - b)
    rw [show b + (l.length + 1 - b) = l.length + 1 by omega] at this
    have := hall (a + (l.length + 1 - b)) (by omega)
    omega
  · exact hn
def loopsV (l : List Nd) : Bool := nodesOk l && (List.range l.length).any fun i => decide (0 ≤ posOf l i l.length)
theorem loopsV_no {l : List Nd} (h : nodesOk l = false) : loopsV l = false := by unfold loopsV; rw [h]; rfl
theorem loopsV_hit {l : List Nd} (h : nodesOk l = true) {i : Nat} (hi : i < l.length) (hp : 0 ≤ posOf l i l.length) : loopsV l = true := by
  unfold loopsV
  rw [h, Bool.true_and, List.any_eq_true]
  exact ⟨i, List.mem_range.2 hi, decide_eq_true hp⟩
theorem loopsV_none {l : List Nd} (hp : ∀ i : Nat, i < l.length → posOf l i l.length < 0) : loopsV l = false := by
  unfold loopsV
  cases e : (List.range l.length).any fun i => decide (0 ≤ posOf l i l.length) with
  | false => rw [Bool.and_false]
  | true =>
    rw [List.any_eq_true] at e
    obtain ⟨i, hi, hd⟩ := e
    have := hp i (List.mem_range.1 hi)
    have := of_decide_eq_true hd
    omega
end Go.Proofs.Ytdapongofiohgaa
