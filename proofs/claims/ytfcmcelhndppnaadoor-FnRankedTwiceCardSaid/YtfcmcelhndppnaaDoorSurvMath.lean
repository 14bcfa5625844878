/- Who is left of ranked peers: the numbers. -/
import Derived.Test.YtfcmcelhndppnaaDoorRankMath
import Derived.Test.YtfcmcelhndppnaaDoorPeersS
namespace Go.Proofs.YtfcmcelhndppnaaDoor
open Go.ChangeShapes Go.WideShapes Go.ChangeAt Go.RowKit
set_option linter.unusedVariables false
set_option linter.unusedSimpArgs false

/-- How far two offsets are apart. -/
def apartV (a b : Int) : Int := max (a - b) (b - a)
theorem apartV_in {a b : Int} (ha : -1000000000000 ≤ a ∧ a ≤ 1000000000000) (hb : -1000000000000 ≤ b ∧ b ≤ 1000000000000) : 0 ≤ apartV a b ∧ apartV a b ≤ 2000000000000 := by unfold apartV; omega
theorem apartV_ge {a b : Int} (h : b - a ≤ a - b) : apartV a b = a - b := by unfold apartV; omega
theorem apartV_lt {a b : Int} (h : ¬ b - a ≤ a - b) : apartV a b = b - a := by unfold apartV; omega
theorem apartV_comm (a b : Int) : apartV a b = apartV b a := by unfold apartV; omega
theorem offs_in {v : Pr} (h : v.s.ok = true) : -1000000000000 ≤ v.s.off ∧ v.s.off ≤ 1000000000000 := by
  obtain ⟨a, _⟩ := Sm.ok_iff.1 h
  exact a
/-- How far a peer's offset is from all of them, together. -/
def farV (p : Pr) (l : List Pr) : Int := (l.map fun q => apartV p.s.off q.s.off).sum
theorem farV_next {p : Pr} {l : List Pr} {k : Nat} {v : Pr} (h : l[k]? = some v) : farV p (l.take (k + 1)) = farV p (l.take k) + apartV p.s.off v.s.off := by
  rw [takeP h]
  simp [farV]
theorem farV_in {p : Pr} (hp : p.s.ok = true) : ∀ l : List Pr, AllSm l → 0 ≤ farV p l ∧ farV p l ≤ 2000000000000 * (l.length : Int)
  | [], _ => by simp [farV]
  | q :: l, h => by
    have ih := farV_in hp l (fun v hv => h v (List.mem_cons_of_mem _ hv))
    have hq := apartV_in (offs_in hp) (offs_in (h q (List.mem_cons_self ..)))
    have e : farV p (q :: l) = apartV p.s.off q.s.off + farV p l := by simp [farV]
    rw [e]
    simp only [List.length_cons]
    omega
def farAt (l : List Pr) (i : Nat) : Int := match l[i]? with | some p => farV p l | none => 0
theorem farAt_at {l : List Pr} {i : Nat} {p : Pr} (h : l[i]? = some p) : farAt l i = farV p l := by unfold farAt; rw [h]
theorem farAt_nonneg {l : List Pr} (hA : AllSm l) (i : Nat) : 0 ≤ farAt l i := by
  unfold farAt
  split
  · rename_i p h
    exact (farV_in (hA.at_ h) l hA).1
  · omega
/-- The last of the greatest, of so many. -/
def worstF (f : Nat → Int) : Nat → Nat
  | 0 => 0
  | k + 1 => if f (worstF f k) ≤ f k then k else worstF f k
def mostF (f : Nat → Int) (k : Nat) : Int := if k = 0 then 0 else f (worstF f k)
theorem worstF_lt (f : Nat → Int) {k : Nat} (h : 0 < k) : worstF f k < k := by
  induction k with
  | zero => omega
  | succ k ih =>
    unfold worstF
    split
    · omega
    · rename_i hne
      rcases Nat.eq_zero_or_pos k with rfl | hk
      · exact absurd (Int.le_refl _) hne
      · have := ih hk; omega
theorem worstF_yes {f : Nat → Int} {k : Nat} (h : f (worstF f k) ≤ f k) : worstF f (k + 1) = k := by rw [worstF, if_pos h]
theorem worstF_no {f : Nat → Int} {k : Nat} (h : ¬ f (worstF f k) ≤ f k) : worstF f (k + 1) = worstF f k := by rw [worstF, if_neg h]
theorem most_iff {f : Nat → Int} {k : Nat} (h0 : 0 ≤ f 0) : mostF f k ≤ f k ↔ f (worstF f k) ≤ f k := by
  unfold mostF
  split
  · rename_i hk
    subst hk
    simp [worstF, h0]
  · exact Iff.rfl
theorem mostF_yes {f : Nat → Int} {k : Nat} (h0 : 0 ≤ f 0) (h : mostF f k ≤ f k) : worstF f (k + 1) = k ∧ mostF f (k + 1) = f k := by
  have e := worstF_yes ((most_iff h0).1 h)
  exact ⟨e, by rw [mostF, if_neg (by omega), e]⟩
theorem mostF_no {f : Nat → Int} {k : Nat} (h0 : 0 ≤ f 0) (h : ¬ mostF f k ≤ f k) : worstF f (k + 1) = worstF f k ∧ mostF f (k + 1) = mostF f k := by
  have hn : ¬ f (worstF f k) ≤ f k := fun h' => h ((most_iff h0).2 h')
  have e := worstF_no hn
  refine ⟨e, ?_⟩
  have hk : k ≠ 0 := fun hk => by subst hk; exact hn (Int.le_refl _)
  rw [mostF, mostF, if_neg (by omega), if_neg hk, e]
/-- Without the one that is farthest apart, the last of these. -/
def worstL (l : List Pr) : Nat := worstF (farAt l) l.length
def dropW (l : List Pr) : List Pr := l.eraseIdx (worstL l)
def leftN : Nat → List Pr → List Pr
  | 0, l => l
  | k + 1, l => dropW (leftN k l)
theorem worstL_lt {l : List Pr} (h : 0 < l.length) : worstL l < l.length := worstF_lt _ h
theorem dropW_length (l : List Pr) : (dropW l).length = l.length - 1 := by
  unfold dropW
  rcases Nat.eq_zero_or_pos l.length with h | h
  · rw [List.eq_nil_of_length_eq_zero h]; rfl
  · rw [List.length_eraseIdx, if_pos (worstL_lt h)]
theorem dropW_sub (l : List Pr) : (dropW l).Sublist l := List.eraseIdx_sublist _ _
theorem leftN_length (l : List Pr) : ∀ k, (leftN k l).length = l.length - k
  | 0 => rfl
  | k + 1 => by rw [leftN, dropW_length, leftN_length l k]; omega
theorem leftN_sub (l : List Pr) : ∀ k, (leftN k l).Sublist l
  | 0 => List.Sublist.refl _
  | k + 1 => (dropW_sub _).trans (leftN_sub l k)
theorem leftN_all {l : List Pr} (h : AllSm l) (k : Nat) : AllSm (leftN k l) := fun v hv => h v ((leftN_sub l k).subset hv)
/-- Who is left: so many at most. -/
def leftV (l : List Pr) (least : Int) : List Pr := leftN ((l.length : Int) - least).toNat l
theorem leftV_length (l : List Pr) (least : Int) : (leftV l least).length = l.length - ((l.length : Int) - least).toNat := leftN_length _ _
theorem leftV_all {l : List Pr} (h : AllSm l) (least : Int) : AllSm (leftV l least) := leftN_all h _
theorem leftV_pos {l : List Pr} (h : 0 < l.length) {least : Int} (h1 : 1 ≤ least) : 0 < (leftV l least).length := by rw [leftV_length]; omega
/-- The loop's end. -/
theorem left_end {l : List Pr} {k m : Nat} {least : Int} (hm : m + k = l.length) (h1 : k = 0 ∨ least ≤ m) (h2 : ¬ least < (m : Int)) : leftN k l = leftV l least := by
  unfold leftV
  congr 1
  rcases h1 with h | h <;> omega
/-- What Survivors answers. -/
def survV (l : List Pr) (least : Int) : List Pr := if okPrs l && decide (1 ≤ least) then leftV (rkV l) least else []
theorem survV_len (l : List Pr) (least : Int) : (survV l least).length ≤ l.length := by
  unfold survV
  split
  · rw [leftV_length, rkV_length]; omega
  · exact Nat.zero_le _
theorem survV_yes {l : List Pr} {least : Int} (h : okPrs l = true) (h1 : 1 ≤ least) : survV l least = leftV (rkV l) least := by unfold survV; rw [h]; simp [h1]
theorem survV_no {l : List Pr} {least : Int} (h : okPrs l = false) : survV l least = [] := by unfold survV; rw [h]; rfl
theorem survV_no' {l : List Pr} {least : Int} (h1 : least < 1) : survV l least = [] := by unfold survV; rw [if_neg]; simp; omega
end Go.Proofs.YtfcmcelhndppnaaDoor
