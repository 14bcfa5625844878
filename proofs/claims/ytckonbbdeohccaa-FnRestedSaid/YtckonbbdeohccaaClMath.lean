/- Clients in rising order of their Ids: the one of an Id, one put in, who comes: numbers alone; and how a map of them reads. -/
import Derived.Test.YtckonbbdeohccaaLimOk
import Derived.Maps.OwnSet
import Derived.Maps.Ext
import Derived.Lib.SlKeysI
namespace Go.Proofs.Ytckonbbdeohccaa
open Go.ChangeShapes Go.WideShapes Go.ChangeAt Go.RowKit Go.Maps
set_option linter.unusedVariables false
set_option linter.unusedSimpArgs false

def RisingC (l : List Cl) : Prop := l.Pairwise fun a b => a.id < b.id
def clAt (l : List Cl) (i : Int) : Option Cl := l.find? fun c => c.id == i
def putC (l : List Cl) (c : Cl) : List Cl := l.filter (fun a => decide (a.id < c.id)) ++ c :: l.filter (fun a => decide (c.id < a.id))
theorem clAt_some {l : List Cl} {i : Int} {c : Cl} (h : clAt l i = some c) : c ∈ l ∧ c.id = i :=
  ⟨List.mem_of_find?_eq_some h, by have := List.find?_some h; simpa using this⟩
theorem clAt_none {l : List Cl} {i : Int} (h : clAt l i = none) : ∀ c ∈ l, c.id ≠ i := fun c hc e => by
  have := List.find?_eq_none.1 h c hc
  simp [e] at this
theorem prevId_lt {l : List Cl} (h : ∀ j c, l[j]? = some c → prevId l j < c.id) : RisingC l := by
  have step : ∀ k j (hk : j + k + 1 < l.length), (l[j]'(by omega)).id < (l[j + k + 1]).id := by
    intro k
    induction k with
    | zero =>
      intro j hk
      have := h (j + 1) _ (List.getElem?_eq_getElem (by omega : j + 1 < l.length))
      unfold prevId at this
      rw [if_neg (by omega), Nat.add_sub_cancel, List.getElem?_eq_getElem (by omega : j < l.length)] at this
      exact this
    | succ k ih =>
      intro j hk
      have h1 := ih j (by omega)
      have := h (j + (k + 1) + 1) _ (List.getElem?_eq_getElem hk)
      unfold prevId at this
      rw [if_neg (by omega), Nat.add_sub_cancel, List.getElem?_eq_getElem (by omega : j + (k + 1) < l.length)] at this
      exact Int.lt_trans h1 this
  refine List.pairwise_iff_getElem.2 fun i j hi hj hij => ?_
  have := step (j - i - 1) i (by omega)
  have e : i + (j - i - 1) + 1 = j := by omega
  simp only [e] at this
  exact this
theorem limOk_iff {l : List Cl} : limOk l = true ↔ RisingC l ∧ (∀ c ∈ l, clOk c = true) ∧ l.length ≤ 50 := by
  unfold limOk
  rw [Bool.and_eq_true, decide_eq_true_eq]
  constructor
  · rintro ⟨h1, h2⟩
    have h3 : ∀ j c, l[j]? = some c → clOk c = true ∧ prevId l j < c.id := fun j c hj => by
      have := okCTo_at h1 (List.getElem?_eq_some_iff.1 hj).1 hj
      unfold okC at this
      rwa [Bool.and_eq_true, decide_eq_true_eq] at this
    refine ⟨prevId_lt fun j c hj => (h3 j c hj).2, fun c hc => ?_, h2⟩
    obtain ⟨j, hj⟩ := List.mem_iff_getElem?.1 hc
    exact (h3 j c hj).1
  · rintro ⟨h1, h2, h3⟩
    refine ⟨?_, h3⟩
    unfold okCTo
    refine List.all_eq_true.2 fun j hj => ?_
    have hjl := List.mem_range.1 hj
    rw [List.getElem?_eq_getElem hjl]
    show okC l j l[j] = true
    have hc := h2 l[j] (List.getElem_mem _)
    unfold okC
    rw [hc, Bool.true_and, decide_eq_true_eq]
    unfold prevId
    by_cases h0 : j = 0
    · rw [if_pos h0]
      have := (clOk_id hc).1
      omega
    · rw [if_neg h0, List.getElem?_eq_getElem (by omega : j - 1 < l.length)]
      exact List.pairwise_iff_getElem.1 h1 (j - 1) j (by omega) hjl (by omega)
theorem putC_mem {l : List Cl} {c a : Cl} (h : a ∈ putC l c) : a = c ∨ a ∈ l := by
  unfold putC at h
  rcases List.mem_append.1 h with h | h
  · exact .inr (List.mem_filter.1 h).1
  · rcases List.mem_cons.1 h with h | h
    · exact .inl h
    · exact .inr (List.mem_filter.1 h).1
theorem putC_rising {l : List Cl} (c : Cl) (h : RisingC l) : RisingC (putC l c) := by
  unfold RisingC putC
  rw [List.pairwise_append]
  refine ⟨h.filter _, ?_, fun a ha b hb => ?_⟩
  · rw [List.pairwise_cons]
    exact ⟨fun b hb => by simpa using (List.mem_filter.1 hb).2, h.filter _⟩
  · have ha' : a.id < c.id := by simpa using (List.mem_filter.1 ha).2
    rcases List.mem_cons.1 hb with rfl | hb
    · exact ha'
    · have : c.id < b.id := by simpa using (List.mem_filter.1 hb).2
      omega
theorem filter_parts (l : List Cl) (i : Int) : l.length = (l.filter fun a => decide (a.id < i)).length + (l.filter fun a => decide (i < a.id)).length + (l.filter fun a => a.id == i).length := by
  induction l with
  | nil => rfl
  | cons a l ih =>
    rw [List.length_cons, ih]
    rcases Int.lt_trichotomy a.id i with h | h | h
    · rw [List.filter_cons_of_pos (by simpa using h), List.filter_cons_of_neg (by simp; omega), List.filter_cons_of_neg (by simp; omega), List.length_cons]; omega
    · rw [List.filter_cons_of_neg (by simp; omega), List.filter_cons_of_neg (by simp; omega), List.filter_cons_of_pos (by simpa using h), List.length_cons]; omega
    · rw [List.filter_cons_of_neg (by simp; omega), List.filter_cons_of_pos (by simpa using h), List.filter_cons_of_neg (by simp; omega), List.length_cons]; omega
theorem filter_one {l : List Cl} (h : RisingC l) (i : Int) : (l.filter fun a => a.id == i).length ≤ 1 := by
  have hp : (l.filter fun a => a.id == i).Pairwise fun a b => a.id < b.id := List.Pairwise.filter _ h
  have hm : ∀ x ∈ l.filter fun a => a.id == i, x.id = i := fun x hx => by simpa using (List.mem_filter.1 hx).2
  generalize (l.filter fun a => a.id == i) = m at hp hm
  match m, hp, hm with
  | [], _, _ => simp
  | [_], _, _ => simp
  | a :: b :: r, hp, hm =>
    have h1 := (List.pairwise_cons.1 hp).1 b (by simp)
    have e1 := hm a (by simp)
    have e2 := hm b (by simp)
    omega
theorem putC_len_new {l : List Cl} {c : Cl} (h : clAt l c.id = none) : (putC l c).length = l.length + 1 := by
  have h0 : (l.filter fun a => a.id == c.id) = [] := List.filter_eq_nil_iff.2 fun a ha => by simpa using clAt_none h a ha
  have := filter_parts l c.id
  rw [h0] at this
  unfold putC
  rw [List.length_append, List.length_cons]
  simp at this
  omega
theorem putC_len_old {l : List Cl} {c d : Cl} (hr : RisingC l) (h : clAt l c.id = some d) : (putC l c).length = l.length := by
  have h1 := filter_one hr c.id
  have h2 : 0 < (l.filter fun a => a.id == c.id).length := List.length_pos_of_mem (List.mem_filter.2 ⟨(clAt_some h).1, by simpa using (clAt_some h).2⟩)
  have := filter_parts l c.id
  unfold putC
  rw [List.length_append, List.length_cons]
  omega
theorem putC_last {l : List Cl} {c : Cl} (h : RisingC (l ++ [c])) : putC l c = l ++ [c] := by
  have h1 : ∀ a ∈ l, a.id < c.id := fun a ha => (List.pairwise_append.1 h).2.2 a ha c (by simp)
  unfold putC
  rw [List.filter_eq_self.2 (fun a ha => by simpa using h1 a ha), List.filter_eq_nil_iff.2 (fun a ha => by have := h1 a ha; simp; omega)]
/-- What is left of a score. -/
def leftC (c : Cl) (now : Int) : Int := max (c.score - (now - c.last)) 0
/-- Who comes: the clients then, and what is told. -/
def comeV (l : List Cl) (id now : Int) : Option (List Cl × Int) :=
  if (inB 1 id 1000 && inB 0 now 1000000000) = true then
    match clAt l id with
    | some c => if now < c.last then none else some (putC l ⟨id, now, min (leftC c now + 4) 20⟩, if 20 < leftC c now + 4 then 1 else 0)
    | none => if l.length = 50 then none else some (putC l ⟨id, now, 4⟩, 0)
  else none
def afterC (l : List Cl) (o : Option (List Cl × Int)) : List Cl := match o with | some (l', _) => l' | none => l
def toldC (o : Option (List Cl × Int)) : Int := match o with | some (_, t) => t | none => 0
theorem comeV_ok {l : List Cl} {id now : Int} (h : limOk l = true) : limOk (afterC l (comeV l id now)) = true := by
  obtain ⟨h1, h2, h3⟩ := limOk_iff.1 h
  unfold comeV
  split
  · rename_i hin
    rw [Bool.and_eq_true, inB_iff, inB_iff] at hin
    obtain ⟨⟨i0, i1⟩, n0, n1⟩ := hin
    have hp : ∀ s, 0 ≤ s → s ≤ 20 → (putC l ⟨id, now, s⟩).length ≤ 50 → limOk (putC l ⟨id, now, s⟩) = true := fun s s0 s1 hl => limOk_iff.2 ⟨putC_rising _ h1, fun a ha => by
      rcases putC_mem ha with rfl | ha
      · unfold clOk
        rw [Bool.and_eq_true, Bool.and_eq_true, inB_iff, inB_iff, inB_iff]
        exact ⟨⟨⟨i0, i1⟩, n0, n1⟩, s0, s1⟩
      · exact h2 a ha, hl⟩
    cases hc : clAt l id with
    | some c =>
      show limOk (afterC l (if now < c.last then none else some (putC l ⟨id, now, min (leftC c now + 4) 20⟩, if 20 < leftC c now + 4 then 1 else 0))) = true
      split
      · exact h
      · refine hp _ ?_ ?_ (by rw [putC_len_old (c := ⟨id, now, min (leftC c now + 4) 20⟩) h1 hc]; exact h3)
        · unfold leftC; omega
        · omega
    | none =>
      show limOk (afterC l (if l.length = 50 then none else some (putC l ⟨id, now, 4⟩, 0))) = true
      split
      · exact h
      · refine hp _ (by omega) (by omega) (by rw [putC_len_new (c := ⟨id, now, 4⟩) hc]; omega)
  · exact h

/-! ### a map of clients, as it reads -/
def clDat (c : Cl) : DataW Unit := .agg [.lit (.int .i64 c.id), .lit (.int .i64 c.last), .lit (.int .i64 c.score)]
def clR (v : Value) : Option (DataW Unit × List MemPlace) :=
  match v with
  | .agg cs => match cs.toList with
    | [.int .i64 a, .int .i64 b, .int .i64 c] => some (clDat ⟨a, b, c⟩, [])
    | _ => none
  | _ => none
theorem clR_mk (c : Cl) : clR (.agg #[.int .i64 c.id, .int .i64 c.last, .int .i64 c.score]) = some (clDat c, []) := rfl
theorem clR_inv {v : Value} {z : DataW Unit × List MemPlace} (h : clR v = some z) : ∃ c : Cl, v = .agg #[.int .i64 c.id, .int .i64 c.last, .int .i64 c.score] ∧ z = (clDat c, []) := by
  unfold clR at h
  split at h
  · rename_i cs
    split at h
    · rename_i a b c e
      obtain ⟨l⟩ := cs
      simp only at e
      subst e
      cases h
      exact ⟨⟨a, b, c⟩, rfl, rfl⟩
    · cases h
  · cases h
theorem clDat_inj {a b : Cl} (h : clDat a = clDat b) : a = b := by
  cases a; cases b
  simpa [clDat] using h
def entC (c : Cl) : Lit × DataW Unit := (.int .i64 c.id, clDat c)
def clsD (l : List Cl) : DataW Unit := .map (l.map entC)
theorem sameKey_i (a b : Int) : Lit.sameKey (.int .i64 a) (.int .i64 b) = (a == b) := by
  simp [Lit.sameKey]
  rfl
theorem at_clsD (l : List Cl) (i : Int) (z : DataW Unit) : (clsD l).atKey (.int .i64 i) z = match clAt l i with | some c => clDat c | none => z := by
  unfold clsD DataW.atKey clAt
  simp only [List.find?_map]
  have e : ((fun p : Lit × DataW Unit => p.1.sameKey (.int .i64 i)) ∘ entC) = fun c : Cl => c.id == i := by
    funext c
    exact sameKey_i c.id i
  rw [e]
  cases l.find? (fun c : Cl => c.id == i) <;> rfl
theorem has_clsD (l : List Cl) (i : Int) : Maps.has (clsD l) (.int .i64 i) = (clAt l i).isSome := by
  unfold clAt
  show (l.map entC).any (fun p => p.1.sameKey (.int .i64 i)) = _
  rw [List.any_map, List.isSome_find?]
  congr 1
  funext c
  exact sameKey_i c.id i
theorem size_clsD (l : List Cl) : Maps.size (clsD l) = l.length := by simp [clsD, Maps.size]
theorem keys_clsD (l : List Cl) : intKeys (clsD l) = l.map Cl.id := by
  unfold clsD intKeys
  simp only [List.map_map]
  rfl
theorem insert_C (c : Cl) : ∀ l : List Cl, RisingC l → (∀ a ∈ l, a.id ≠ c.id) → DataW.insert (entC c) (l.map entC) = (l.filter (fun a => decide (a.id < c.id)) ++ c :: l.filter (fun a => decide (c.id < a.id))).map entC
  | [], _, _ => rfl
  | a :: l, h, hn => by
    have hp := List.pairwise_cons.1 h
    have ha := hn a (by simp)
    show (if (entC c).1.before (entC a).1 then entC c :: entC a :: l.map entC else entC a :: DataW.insert (entC c) (l.map entC)) = _
    have e : (entC c).1.before (entC a).1 = decide (c.id < a.id) := rfl
    rw [e]
    by_cases hlt : c.id < a.id
    · have h1 : ∀ x ∈ l, c.id < x.id := fun x hx => Int.lt_trans hlt (hp.1 x hx)
      rw [decide_eq_true hlt, if_pos rfl, List.filter_cons_of_neg (by simp; omega), List.filter_cons_of_pos (by simpa using hlt), List.filter_eq_nil_iff.2 (fun x hx => by have := h1 x hx; simp; omega), List.filter_eq_self.2 (fun x hx => by simpa using h1 x hx)]
      rfl
    · rw [decide_eq_false hlt, if_neg (by simp), insert_C c l hp.2 (fun x hx => hn x (by simp [hx])), List.filter_cons_of_pos (by simp; omega), List.filter_cons_of_neg (by simpa using hlt)]
      rfl
theorem put_clsD {l : List Cl} (h : RisingC l) (c : Cl) : (clsD l).put (.int .i64 c.id) (clDat c) = clsD (putC l c) := by
  have e1 : (l.map entC).filter (fun p => !p.1.sameKey (.int .i64 c.id)) = (l.filter (fun a => !(a.id == c.id))).map entC := by
    rw [List.filter_map]
    congr 2
    funext a
    show (!Lit.sameKey (.int .i64 a.id) (.int .i64 c.id)) = _
    rw [sameKey_i]
  show DataW.map (DataW.insert (entC c) ((l.map entC).filter (fun p => !p.1.sameKey (.int .i64 c.id)))) = clsD (putC l c)
  rw [e1, insert_C c _ (h.filter _) (fun a ha => by simpa using (List.mem_filter.1 ha).2)]
  unfold clsD putC
  rw [List.filter_filter, List.filter_filter]
  congr 3
  · refine List.filter_congr fun a _ => ?_
    rcases Int.lt_trichotomy a.id c.id with h | h | h <;> simp <;> omega
  · refine congrArg _ (List.filter_congr fun a _ => ?_)
    rcases Int.lt_trichotomy a.id c.id with h | h | h <;> simp <;> omega
end Go.Proofs.Ytckonbbdeohccaa
