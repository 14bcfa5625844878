/- Intervals that are all longer on both sides, or all moved: what they agree in. -/
import Derived.Test.YtoejeekepagfcaaIvsNear
import Derived.Test.YtoejeekepagfcaaAgreeLess
namespace Go.Proofs.Ytoejeekepagfcaa
open Go.ChangeShapes Go.WideShapes Go.ChangeAt Go.RowKit
set_option linter.unusedVariables false
set_option linter.unusedSimpArgs false

def Iv.wide (k : Int) (v : Iv) : Iv := ⟨v.lo - k, v.hi + k⟩
def Iv.moved (k : Int) (v : Iv) : Iv := ⟨v.lo + k, v.hi + k⟩
theorem near_bounds {l : List Iv} (hn : ∀ v ∈ l, NearIv v) (ho : okAll l = true) {v : Iv} (hv : v ∈ l) : -20 ≤ v.lo ∧ v.lo ≤ v.hi ∧ v.hi ≤ 40 := by
  have h1 := hn v hv
  have h2 := Iv.ok_iff.1 (List.all_eq_true.1 ho v hv)
  obtain ⟨a, b, c⟩ := h1
  exact ⟨a, h2.2.1, by omega⟩
theorem okIvs_map {l : List Iv} (hn : ∀ v ∈ l, NearIv v) (ho : okIvs l = true) (f : Iv → Iv) (hf : ∀ v : Iv, -20 ≤ v.lo → v.lo ≤ v.hi → v.hi ≤ 40 → (f v).ok = true) : okIvs (l.map f) = true := by
  obtain ⟨h1, h2⟩ := okIvs_parts ho
  unfold okIvs
  rw [List.length_map, decide_eq_true h2, Bool.and_true]
  unfold okAll
  rw [List.all_map, List.all_eq_true]
  intro v hv
  have hb := near_bounds hn h1 hv
  exact hf v hb.1 hb.2.1 hb.2.2
theorem in_iff {a b c : Int} : inB a b c = true ↔ a ≤ b ∧ b ≤ c := by simp [inB]
theorem in_moved {v : Iv} {k p : Int} : inB (v.moved k).lo (p + k) (v.moved k).hi = true ↔ inB v.lo p v.hi = true := by
  rw [in_iff, in_iff]
  show v.lo + k ≤ p + k ∧ p + k ≤ v.hi + k ↔ _
  omega
theorem in_wide {v : Iv} {k p : Int} (hk : 0 ≤ k) (h : inB v.lo p v.hi = true) : inB (v.wide k).lo p (v.wide k).hi = true := by
  rw [in_iff] at h ⊢
  show v.lo - k ≤ p ∧ p ≤ v.hi + k
  omega
theorem depth_moved (l : List Iv) (k p : Int) : depthOf (l.map (Iv.moved k)) (p + k) = depthOf l p := by
  unfold depthOf
  rw [List.countP_map]
  apply List.countP_congr
  intro v _
  exact in_moved
theorem depth_wide (l : List Iv) (k p : Int) (hk : 0 ≤ k) : depthOf l p ≤ depthOf (l.map (Iv.wide k)) p := by
  unfold depthOf
  rw [List.countP_map]
  apply List.countP_mono_left
  intro v _ h
  exact in_wide hk h
theorem agr_moved {l : List Iv} (hn : ∀ v ∈ l, NearIv v) {lo hi M : Int} (hA : Agr l lo hi M) (hM : M ≠ 0) (k : Int) (h0 : 0 ≤ k) (h1 : k ≤ 8) : Agr (l.map (Iv.moved k)) (lo + k) (hi + k) M := by
  rcases hA with ⟨a, b, c⟩ | ⟨_, _, _, e⟩
  · refine .inl ⟨okIvs_map hn a _ (fun v a0 a1 a2 => Iv.ok_yes (by dsimp only [Iv.moved]; omega) (by dsimp only [Iv.moved]; omega) (by dsimp only [Iv.moved]; omega)), by simpa using b, c.pos, by rw [depth_moved]; exact c.depth, ?_, ?_, ?_, ?_⟩
    · obtain ⟨v, hv, e⟩ := c.from_
      exact ⟨v.moved k, List.mem_map_of_mem hv, by dsimp only [Iv.moved]; rw [e]⟩
    · intro v hv
      obtain ⟨u, hu, rfl⟩ := List.mem_map.1 hv
      have := c.most u hu
      show (depthOf (l.map (Iv.moved k)) (u.lo + k) : Int) ≤ M ∧ ((depthOf (l.map (Iv.moved k)) (u.lo + k) : Int) = M → lo + k ≤ u.lo + k)
      rw [depth_moved]
      exact ⟨this.1, fun h => Int.add_le_add_right (this.2 h) k⟩
    · obtain ⟨v, hv, e, e2⟩ := c.end_
      exact ⟨v.moved k, List.mem_map_of_mem hv, in_moved.2 e, by dsimp only [Iv.moved]; rw [e2]⟩
    · intro v hv hin
      obtain ⟨u, hu, rfl⟩ := List.mem_map.1 hv
      exact Int.add_le_add_right (c.first u hu (in_moved.1 hin)) k
  · exact absurd e hM
theorem agr_wide {l : List Iv} (hn : ∀ v ∈ l, NearIv v) {lo hi M lo' hi' M' : Int} (hA : Agr l lo hi M) (hM : M ≠ 0) (k : Int) (h0 : 0 ≤ k) (h1 : k ≤ 8) (hW : Agr (l.map (Iv.wide k)) lo' hi' M') : M ≤ M' := by
  rcases hA with ⟨a, b, c⟩ | ⟨_, _, _, e⟩
  · have ho := okIvs_map hn a (Iv.wide k) (fun v a0 a1 a2 => Iv.ok_yes (by dsimp only [Iv.wide]; omega) (by dsimp only [Iv.wide]; omega) (by dsimp only [Iv.wide]; omega))
    rcases hW with ⟨a', b', c'⟩ | ⟨h, _⟩
    · have t := c'.top (okIvs_parts a').1 lo
      have d := depth_wide l k lo h0
      have e := c.depth
      omega
    · rcases h with h | h
      · rw [ho] at h; cases h
      · exact absurd h (by simpa using b)
  · exact absurd e hM
end Go.Proofs.Ytoejeekepagfcaa
