/- The reference's Came by places. -/
import Derived.Test.YtckonbbdeohccaaL9
namespace Go.Proofs.Ytckonbbdeohccaa
open Go.ChangeShapes Go.WideShapes Go.ChangeAt Go.RowKit Go.Maps
set_option linter.unusedVariables false

theorem came_behind {l : List Cl} (h : RisingC l) {k : Nat} {v : Cl} (hv : l[k]? = some v) : l.drop k = v :: l.drop (k + 1) ∧ ∀ a ∈ l.drop (k + 1), v.id < a.id := by
  obtain ⟨hk, e⟩ := List.getElem?_eq_some_iff.1 hv
  have hd : l.drop k = v :: l.drop (k + 1) := by rw [List.drop_eq_getElem_cons hk, e]
  refine ⟨hd, fun a ha => ?_⟩
  have hp : RisingC (l.drop k) := List.Pairwise.sublist (List.drop_sublist _ _) h
  rw [hd] at hp
  exact (List.pairwise_cons.1 hp).1 a ha
theorem came_hit {l : List Cl} (h : RisingC l) {k : Nat} {v : Cl} (hv : l[k]? = some v) (hlt : ∀ a ∈ l.take k, a.id < v.id) (c : Cl) (hc : c.id = v.id) : putC l c = (l.take k ++ [c]) ++ l.drop (k + 1) := by
  obtain ⟨hd, hb⟩ := came_behind h hv
  unfold putC
  have e : l = l.take k ++ (v :: l.drop (k + 1)) := by rw [← hd, List.take_append_drop]
  conv => lhs; rw [e]
  rw [List.filter_append, List.filter_append, List.filter_eq_self.2 (fun a ha => by rw [hc]; simpa using hlt a ha), List.filter_cons_of_neg (by rw [hc]; simp),
    List.filter_eq_nil_iff.2 (fun a ha => by have := hb a ha; rw [hc]; simp; omega), List.append_nil,
    (List.filter_eq_nil_iff (l := l.take k)).2 (fun a ha => by have := hlt a ha; rw [hc]; simp; omega), List.filter_cons_of_neg (by rw [hc]; simp), List.filter_eq_self.2 (fun a ha => by rw [hc]; simpa using hb a ha)]
  simp
theorem came_miss {l : List Cl} (h : RisingC l) {k : Nat} {i : Int} (hlt : ∀ a ∈ l.take k, a.id < i) (hge : ∀ v, l[k]? = some v → i < v.id) (c : Cl) (hc : c.id = i) : clAt l i = none ∧ putC l c = (l.take k ++ [c]) ++ l.drop k := by
  have hb : ∀ a ∈ l.drop k, i < a.id := by
    rcases Nat.lt_or_ge k l.length with hk | hk
    · obtain ⟨hd, hb⟩ := came_behind h (List.getElem?_eq_getElem hk)
      have := hge _ (List.getElem?_eq_getElem hk)
      intro a ha
      rw [hd] at ha
      rcases List.mem_cons.1 ha with rfl | ha
      · exact this
      · have := hb a ha; omega
    · intro a ha
      rw [List.drop_eq_nil_of_le hk] at ha
      simp at ha
  have e : l = l.take k ++ l.drop k := (List.take_append_drop _ _).symm
  constructor
  · refine List.find?_eq_none.2 fun a ha => ?_
    rw [e] at ha
    rcases List.mem_append.1 ha with ha | ha
    · have := hlt a ha; simp; omega
    · have := hb a ha; simp; omega
  · unfold putC
    conv => lhs; rw [e]
    rw [List.filter_append, List.filter_append, List.filter_eq_self.2 (fun a ha => by rw [hc]; simpa using hlt a ha),
      (List.filter_eq_nil_iff (l := l.drop k)).2 (fun a ha => by have := hb a ha; rw [hc]; simp; omega), List.append_nil,
      (List.filter_eq_nil_iff (l := l.take k)).2 (fun a ha => by have := hlt a ha; rw [hc]; simp; omega), List.filter_eq_self.2 (fun a ha => by rw [hc]; simpa using hb a ha)]
    simp
theorem camV_no {l : List Cl} {id now : Int} (h : limOk l = false) : camV l id now = none := by unfold camV; rw [h]; rfl
theorem camV_yes {l : List Cl} {id now : Int} (h : limOk l = true) : camV l id now = comeV l id now := by unfold camV; rw [if_pos h]
theorem camV_hit {l : List Cl} (ho : limOk l = true) {id now : Int} (hi : (inB 1 id 1000 && inB 0 now 1000000000) = true) {k : Nat} {v : Cl} (hv : l[k]? = some v) (hlt : ∀ a ∈ l.take k, a.id < v.id) (e : v.id = id) :
    camV l id now = if now < v.last then none else some ((l.take k ++ [newC v now]) ++ l.drop (k + 1), refC v now) := by
  obtain ⟨h1, h2, h3⟩ := limOk_iff.1 ho
  subst e
  have hc : clAt l v.id = some v := clAt_at h1 hv
  rw [camV_yes ho]
  unfold comeV
  rw [if_pos hi, hc, ← came_hit h1 hv hlt (newC v now) rfl]
  rfl
theorem camV_miss {l : List Cl} (ho : limOk l = true) {id now : Int} (hi : (inB 1 id 1000 && inB 0 now 1000000000) = true) {k : Nat} (hlt : ∀ a ∈ l.take k, a.id < id) (hge : ∀ v, l[k]? = some v → id < v.id) :
    camV l id now = if l.length = 50 then none else some ((l.take k ++ [newC ⟨id, now, 0⟩ now]) ++ l.drop k, 0) := by
  obtain ⟨h1, h2, h3⟩ := limOk_iff.1 ho
  have e : newC ⟨id, now, 0⟩ now = ⟨id, now, 4⟩ := by unfold newC leftC; simp; omega
  obtain ⟨hc, hp⟩ := came_miss h1 hlt hge (newC ⟨id, now, 0⟩ now) rfl
  rw [camV_yes ho]
  unfold comeV
  rw [if_pos hi, hc, ← hp, e]
theorem ref_new (id now : Int) : refC ⟨id, now, 0⟩ now = 0 := by unfold refC leftC; simp
/-- What the reference looks at last: is the new limiter right? -/
theorem next_ok {l : List Cl} (ho : limOk l = true) {id now : Int} {L : List Cl} {t : Int} (h : camV l id now = some (L, t)) : limOk L = true := by
  have := comeV_ok (id := id) (now := now) ho
  rw [← camV_yes ho, h] at this
  exact this
theorem next_full {l : List Cl} (ho : limOk l = true) {id : Int} {k : Nat} (hlt : ∀ a ∈ l.take k, a.id < id) (hge : ∀ v, l[k]? = some v → id < v.id) (c : Cl) (hc : c.id = id) (h50 : l.length = 50) : limOk ((l.take k ++ [c]) ++ l.drop k) = false := by
  obtain ⟨h1, h2, h3⟩ := limOk_iff.1 ho
  obtain ⟨hm, hp⟩ := came_miss h1 hlt hge c hc
  rw [← hp]
  cases e : limOk (putC l c) with
  | false => rfl
  | true =>
    have := (limOk_iff.1 e).2.2
    rw [putC_len_new (by rw [hc]; exact hm)] at this
    omega
end Go.Proofs.Ytckonbbdeohccaa
