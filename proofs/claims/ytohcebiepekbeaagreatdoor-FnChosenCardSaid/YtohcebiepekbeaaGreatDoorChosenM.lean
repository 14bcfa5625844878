/- Who is chosen: the numbers. -/
import Derived.Test.YtohcebiepekbeaaGreatDoorSurvMath
import Derived.Test.YtohcebiepekbeaaGreatDoorMajority
import Derived.Test.YtohcebiepekbeaaGreatDoorChimers
import Derived.Test.YtohcebiepekbeaaGreatDoorIvOf
namespace Go.Proofs.YtohcebiepekbeaaGreatDoor
open Go.ChangeShapes Go.WideShapes Go.ChangeAt Go.RowKit
set_option linter.unusedVariables false
set_option linter.unusedSimpArgs false

/-- What peers tell, as intervals. -/
def ivsOf (l : List Pr) : List Iv := l.map fun v => ivOf v.s
theorem ivsOf_length (l : List Pr) : (ivsOf l).length = l.length := by simp [ivsOf]
theorem ivsOf_next {l : List Pr} {k : Nat} {v : Pr} (h : l[k]? = some v) : ivsOf (l.take (k + 1)) = ivsOf (l.take k) ++ [ivOf v.s] := by
  rw [takeP h]; simp [ivsOf]
/-- Those at these places. -/
def goodL (l : List Pr) (c : List Int) : List Pr := c.filterMap fun i => l[i.toNat]?
theorem goodL_next {l : List Pr} {c : List Int} {k : Nat} {i : Int} {v : Pr} (h : c[k]? = some i) (hv : l[i.toNat]? = some v) : goodL l (c.take (k + 1)) = goodL l (c.take k) ++ [v] := by
  rw [takeP h]
  simp [goodL, hv]
theorem placesOf_in {L : List Iv} {q i : Int} (h : i ∈ placesOf L q) : 0 ≤ i ∧ i.toNat < L.length := by
  simp only [placesOf, placesTo, List.mem_map, List.mem_filter, List.mem_range] at h
  obtain ⟨j, ⟨hj, _⟩, rfl⟩ := h
  exact ⟨Int.natCast_nonneg j, hj⟩
theorem good_sub (l : List Pr) (L : List Iv) (q : Int) : ∀ k, k ≤ l.length → (goodL l (placesTo L q k)).Sublist (l.take k)
  | 0, _ => by simp [goodL, placesTo]
  | k + 1, h => by
    have ih := good_sub l L q k (by omega)
    obtain ⟨v, hv⟩ := getP (l := l) (k := k) (by omega)
    rw [placesTo_next, takeP hv]
    have e : goodL l (placesTo L q k ++ (if hasAt L q k then [(k : Int)] else [])) = goodL l (placesTo L q k) ++ goodL l (if hasAt L q k then [(k : Int)] else []) := by simp [goodL]
    rw [e]
    refine List.Sublist.append ih ?_
    split
    · simp [goodL, hv]
    · simp [goodL]
theorem goodL_length {l : List Pr} : ∀ {c : List Int}, (∀ i ∈ c, i.toNat < l.length) → (goodL l c).length = c.length
  | [], _ => rfl
  | i :: c, h => by
    obtain ⟨v, hv⟩ := getP (h i (by simp))
    have ih := goodL_length (l := l) (c := c) (fun j hj => h j (by simp [hj]))
    have e : goodL l (i :: c) = v :: goodL l c := by simp [goodL, hv]
    rw [e, List.length_cons, List.length_cons, ih]

/-- What is needed of the places of those that agree, where more than half do. -/
structure Places (l : List Pr) (c : List Int) : Prop where
  pos : 0 < c.length
  le : c.length ≤ l.length
  in_ : ∀ i ∈ c, 0 ≤ i ∧ i.toNat < l.length
  sub : (goodL l c).Sublist l
theorem places_of {l : List Pr} {u v : Int} {c : List Int} (hM : MajIs (ivsOf l) u v true) (hC : ChimIs (ivsOf l) c) : Places l c := by
  obtain ⟨lo, hi, M, hA, _, _, hb⟩ := hM
  obtain ⟨lo', hi', M', hA', rfl⟩ := hC
  obtain ⟨rfl, rfl, rfl⟩ := hA.same hA'
  have hb' : ¬ (2 * M ≤ ((ivsOf l).length : Int)) := by simpa using hb.symm
  have hM0 : M ≠ 0 := by omega
  rw [if_neg hM0]
  have hd : (depthOf (ivsOf l) lo : Int) = M := by
    rcases hA with ⟨_, _, h⟩ | ⟨_, _, _, h⟩
    · exact h.depth
    · omega
  have hb0 := hA.bounds
  rw [ivsOf_length] at hb0
  have hl : ((placesOf (ivsOf l) lo).length : Int) = M := by rw [placesOf_length]; exact hd
  refine ⟨by omega, by omega, fun i hi => ?_, ?_⟩
  · have := placesOf_in hi
    rwa [ivsOf_length] at this
  · have := good_sub l (ivsOf l) lo (ivsOf l).length (by rw [ivsOf_length]; exact Nat.le_refl _)
    rw [ivsOf_length, List.take_length] at this
    unfold placesOf
    rwa [ivsOf_length]
section
variable {l : List Pr} {c : List Int}
theorem Places.length (h : Places l c) : (goodL l c).length = c.length := goodL_length fun i hi => (h.in_ i hi).2
theorem Places.all (h : Places l c) (hA : AllSm l) : AllSm (goodL l c) := fun v hv => hA v (h.sub.subset hv)
theorem Places.ids (h : Places l c) (hI : IdsApart l) : IdsApart (goodL l c) := List.Pairwise.sublist h.sub hI
end

def headId (l : List Pr) : Int := match l with | [] => 0 | a :: _ => a.id
theorem headId_at {l : List Pr} {v : Pr} (h : l[0]? = some v) : headId l = v.id := by
  cases l with
  | nil => simp at h
  | cons a l => simp at h; subst h; rfl
/-- Those that are left of those that agree. -/
def choL (l : List Pr) (c : List Int) : List Pr := leftV (rkV (goodL l c)) 3

/-- What Chosen tells. -/
def ChoIs (l : List Pr) (o id : Int) (b : Bool) : Prop :=
  (okPrs l = false ∧ o = 0 ∧ id = 0 ∧ b = false) ∨ (okPrs l = true ∧ ∃ u v m, MajIs (ivsOf l) u v m ∧ ((m = false ∧ o = 0 ∧ id = 0 ∧ b = false) ∨ (m = true ∧ b = true ∧ ∃ c, ChimIs (ivsOf l) c ∧ o = combV (choL l c) ∧ id = headId (choL l c))))
theorem ChoIs.same {l : List Pr} {o id o' id' : Int} {b b' : Bool} (h : ChoIs l o id b) (h' : ChoIs l o' id' b') : o = o' ∧ id = id' ∧ b = b' := by
  rcases h with ⟨h0, rfl, rfl, rfl⟩ | ⟨h0, u, v, m, hM, h1⟩ <;> rcases h' with ⟨h0', rfl, rfl, rfl⟩ | ⟨h0', u', v', m', hM', h1'⟩
  · exact ⟨rfl, rfl, rfl⟩
  · rw [h0] at h0'; cases h0'
  · rw [h0] at h0'; cases h0'
  · obtain ⟨rfl, rfl, rfl⟩ := hM.same hM'
    rcases h1 with ⟨hm, rfl, rfl, rfl⟩ | ⟨hm, rfl, c, hc, rfl, rfl⟩ <;> rcases h1' with ⟨hm', rfl, rfl, rfl⟩ | ⟨hm', rfl, c', hc', rfl, rfl⟩
    · exact ⟨rfl, rfl, rfl⟩
    · rw [hm] at hm'; cases hm'
    · rw [hm] at hm'; cases hm'
    · obtain rfl := hc.same hc'
      exact ⟨rfl, rfl, rfl⟩
def ChoPost (w : World) (l : List Pr) : Ending → World → Prop := fun e w' => ∃ (o id : Int) (b : Bool), e = .returned (.tuple #[.int .i64 o, .int .i64 id, .bool b]) ∧ ChoIs l o id b ∧ Below w.heap.size w w'
theorem choL_pos {l : List Pr} {c : List Int} (h : Places l c) : 0 < (choL l c).length := leftV_pos (by rw [rkV_length, h.length]; exact h.pos) (by omega)
theorem choL_le {l : List Pr} {c : List Int} (h : Places l c) : (choL l c).length ≤ l.length := by
  unfold choL
  rw [leftV_length, rkV_length, h.length]
  have := h.le
  omega
theorem choL_all {l : List Pr} {c : List Int} (h : Places l c) (hA : AllSm l) : AllSm (choL l c) := leftV_all (rkV_all (h.all hA)) _
end Go.Proofs.YtohcebiepekbeaaGreatDoor
