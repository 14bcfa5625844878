/- Where most intervals agree: what the sweep over sorted edges finds is the least place of the greatest depth, up to the first end of those that lie there. Numbers alone. -/
import Derived.Test.YtohcebiepekbeaaGreatDoorEdgesOf
namespace Go.Proofs.YtohcebiepekbeaaGreatDoor
set_option linter.unusedVariables false
set_option linter.unusedSimpArgs false

def sumZ (f : Ed → Int) (L : List Ed) : Int := (L.map f).sum
theorem sumZ_nil (f : Ed → Int) : sumZ f [] = 0 := rfl
theorem sumZ_cons (f : Ed → Int) (a : Ed) (L : List Ed) : sumZ f (a :: L) = f a + sumZ f L := by simp [sumZ]
theorem sumZ_append (f : Ed → Int) (A B : List Ed) : sumZ f (A ++ B) = sumZ f A + sumZ f B := by simp [sumZ]
theorem sumZ_le {f g : Ed → Int} : ∀ {L : List Ed}, (∀ e ∈ L, f e ≤ g e) → sumZ f L ≤ sumZ g L
  | [], _ => Int.le_refl _
  | a :: L, h => by
    rw [sumZ_cons, sumZ_cons]
    have h0 := h a (by simp)
    have h1 := sumZ_le (L := L) (fun e he => h e (by simp [he]))
    omega
theorem sumZ_congr {f g : Ed → Int} {L : List Ed} (h : ∀ e ∈ L, f e = g e) : sumZ f L = sumZ g L :=
  Int.le_antisymm (sumZ_le fun e he => by rw [h e he]; exact Int.le_refl _) (sumZ_le fun e he => by rw [h e he]; exact Int.le_refl _)
theorem sumZ_zero {f : Ed → Int} {L : List Ed} (h : ∀ e ∈ L, f e = 0) : sumZ f L = 0 := by
  have := sumZ_congr (g := fun _ => 0) h
  rw [this]
  clear this h
  induction L with
  | nil => rfl
  | cons a L ih => rw [sumZ_cons, ih]; rfl
theorem sumZ_perm {f : Ed → Int} {A B : List Ed} (h : A.Perm B) : sumZ f A = sumZ f B := by
  induction h with
  | nil => rfl
  | cons a _ ih => rw [sumZ_cons, sumZ_cons, ih]
  | swap a b l => simp only [sumZ_cons]; omega
  | trans _ _ i1 i2 => exact i1.trans i2

/-- How deep behind so many edges. -/
def pre (E : List Ed) (k : Nat) : Int := sumZ Ed.more (E.take k)
theorem pre_zero (E : List Ed) : pre E 0 = 0 := rfl
theorem pre_next {E : List Ed} {k : Nat} {e : Ed} (h : E[k]? = some e) : pre E (k + 1) = pre E k + e.more := by
  unfold pre
  rw [take_next h, sumZ_append, sumZ_cons, sumZ_nil]
  omega
/-- What an edge counts at a place. -/
def wt (p : Int) (e : Ed) : Int := if e.more = 1 then (if e.at_ ≤ p then 1 else 0) else (if e.at_ < p then -1 else 0)

theorem depth_sum (l : List Iv) (h : okAll l = true) (p : Int) : (depthOf l p : Int) = sumZ (wt p) (edgesIn l) := by
  induction l with
  | nil => rfl
  | cons v l ih =>
    have hv : v.ok = true := by simp [okAll] at h; exact h.1
    have hl : okAll l = true := by simp [okAll] at h ⊢; exact h.2
    have e1 : edgesIn (v :: l) = ⟨v.lo, 1⟩ :: ⟨v.hi, -1⟩ :: edgesIn l := rfl
    rw [e1, sumZ_cons, sumZ_cons, ← ih hl]
    obtain ⟨_, h1, _⟩ := Iv.ok_iff.1 hv
    have e2 : depthOf (v :: l) p = depthOf l p + (if inB v.lo p v.hi then 1 else 0) := by simp [depthOf, List.countP_cons]
    rw [e2]
    simp only [wt]
    by_cases a : v.lo ≤ p <;> by_cases b : p ≤ v.hi
    · rw [inB_yes a b]; simp [a]; omega
    · rw [inB_no (by omega)]; simp [a]; omega
    · rw [inB_no (by omega)]; simp [a]; omega
    · omega

theorem edges_more {l : List Iv} {e : Ed} (h : e ∈ edgesIn l) : (e.more = 1 ∧ ∃ v ∈ l, v.lo = e.at_) ∨ (e.more = -1 ∧ ∃ v ∈ l, v.hi = e.at_) := by
  obtain ⟨v, hv, he⟩ := List.mem_flatMap.1 h
  simp only [List.mem_cons, List.not_mem_nil, or_false] at he
  rcases he with rfl | rfl
  · exact .inl ⟨rfl, v, hv, rfl⟩
  · exact .inr ⟨rfl, v, hv, rfl⟩
theorem edges_lo {l : List Iv} {v : Iv} (h : v ∈ l) : (⟨v.lo, 1⟩ : Ed) ∈ edgesIn l := List.mem_flatMap.2 ⟨v, h, by simp⟩
theorem edges_hi {l : List Iv} {v : Iv} (h : v ∈ l) : (⟨v.hi, -1⟩ : Ed) ∈ edgesIn l := List.mem_flatMap.2 ⟨v, h, by simp⟩

theorem sorted_get {E : List Ed} (h : SortedEd E) {i j : Nat} {a b : Ed} (hij : i < j) (ha : E[i]? = some a) (hb : E[j]? = some b) : a.at_ ≤ b.at_ ∧ (a.at_ = b.at_ → b.more ≤ a.more) := by
  obtain ⟨hi, rfl⟩ := List.getElem?_eq_some_iff.1 ha
  obtain ⟨hj, rfl⟩ := List.getElem?_eq_some_iff.1 hb
  have := (List.pairwise_iff_getElem.1 h) i j hi hj hij
  rw [Ed.ahead_not] at this
  omega

theorem mem_take_at {E : List Ed} {k : Nat} {e : Ed} (h : e ∈ E.take k) : ∃ j, j < k ∧ E[j]? = some e := by
  obtain ⟨j, hj, rfl⟩ := List.mem_iff_getElem.1 h
  rw [List.length_take] at hj
  exact ⟨j, by omega, by rw [List.getElem_take]; exact List.getElem?_eq_getElem (by omega)⟩
theorem mem_drop_at {E : List Ed} {k : Nat} {e : Ed} (h : e ∈ E.drop k) : ∃ j, k ≤ j ∧ E[j]? = some e := by
  obtain ⟨j, hj, rfl⟩ := List.mem_iff_getElem.1 h
  rw [List.length_drop] at hj
  exact ⟨k + j, by omega, by rw [List.getElem_drop]; exact List.getElem?_eq_getElem (by omega)⟩

/-- A sorted row of all edges of right intervals. -/
structure Swept (l : List Iv) (E : List Ed) : Prop where
  ok : okAll l = true
  sorted : SortedEd E
  perm : E.Perm (edgesIn l)

section
variable {l : List Iv} {E : List Ed} (S : Swept l E)
include S
theorem Swept.mem {e : Ed} {k : Nat} (h : E[k]? = some e) : e ∈ edgesIn l := S.perm.mem_iff.1 (List.mem_of_getElem? h)
theorem Swept.more {e : Ed} {k : Nat} (h : E[k]? = some e) : e.more = 1 ∨ e.more = -1 := (edges_more (S.mem h)).elim (fun h => .inl h.1) (fun h => .inr h.1)
theorem Swept.depth (p : Int) : (depthOf l p : Int) = sumZ (wt p) E := (depth_sum l S.ok p).trans (sumZ_perm S.perm).symm
theorem Swept.split (p : Int) (k : Nat) : (depthOf l p : Int) = sumZ (wt p) (E.take k) + sumZ (wt p) (E.drop k) := by
  rw [S.depth, ← sumZ_append, List.take_append_drop]
theorem Swept.pre_le {k : Nat} {e : Ed} (h : E[k]? = some e) : pre E (k + 1) ≤ depthOf l e.at_ := by
  rw [S.split e.at_ (k + 1)]
  have h1 : pre E (k + 1) ≤ sumZ (wt e.at_) (E.take (k + 1)) := sumZ_le fun a ha => by
    obtain ⟨j, hj, hja⟩ := mem_take_at ha
    have hat : a.at_ ≤ e.at_ := by
      rcases Nat.lt_or_ge j k with hlt | hge
      · exact (sorted_get S.sorted hlt hja h).1
      · obtain rfl : j = k := by omega
        rw [h] at hja
        rw [Option.some.inj hja]
        exact Int.le_refl _
    rcases S.more hja with hm | hm
    · simp [wt, hm, hat]
    · simp only [wt, hm]; split <;> simp <;> split <;> omega
  have h2 : 0 ≤ sumZ (wt e.at_) (E.drop (k + 1)) := by
    have := sumZ_le (f := fun _ => 0) (g := wt e.at_) (L := E.drop (k + 1)) (fun a ha => by
      obtain ⟨j, hj, hja⟩ := mem_drop_at ha
      have hat := (sorted_get S.sorted (show k < j by omega) h hja).1
      rcases S.more hja with hm | hm
      · simp only [wt, hm]; simp; split <;> omega
      · simp only [wt, hm]; simp; omega)
    rwa [sumZ_zero (fun _ _ => rfl)] at this
  omega

theorem Swept.pre_eq {k : Nat} {e : Ed} (h : E[k]? = some e) (hm : e.more = 1) (hnext : ∀ a, E[k + 1]? = some a → a.at_ = e.at_ → a.more ≠ 1) : pre E (k + 1) = depthOf l e.at_ := by
  rw [S.split e.at_ (k + 1)]
  have h1 : pre E (k + 1) = sumZ (wt e.at_) (E.take (k + 1)) := sumZ_congr fun a ha => by
    obtain ⟨j, hj, hja⟩ := mem_take_at ha
    rcases Nat.lt_or_ge j k with hlt | hge
    · have hs := sorted_get S.sorted hlt hja h
      rcases S.more hja with hma | hma
      · simp [wt, hma, hs.1]
      · have : a.at_ < e.at_ := by
          rcases Int.lt_or_eq_of_le hs.1 with h | h
          · exact h
          · have := hs.2 h; omega
        simp [wt, hma, this]
    · obtain rfl : j = k := by omega
      rw [h] at hja
      obtain rfl := Option.some.inj hja
      simp [wt, hm]
  have h2 : sumZ (wt e.at_) (E.drop (k + 1)) = 0 := sumZ_zero fun a ha => by
    obtain ⟨j, hj, hja⟩ := mem_drop_at ha
    have hat := (sorted_get S.sorted (show k < j by omega) h hja).1
    rcases S.more hja with hma | hma
    · have hne : a.at_ ≠ e.at_ := by
        intro heq
        rcases Nat.lt_or_ge (k + 1) j with hlt | hge
        · obtain ⟨b, hb⟩ := get_at (l := E) (k := k + 1) (by have := (List.getElem?_eq_some_iff.1 hja).1; omega)
          have s1 := sorted_get S.sorted hlt hb hja
          have s2 := sorted_get S.sorted (Nat.lt_succ_self k) h hb
          have hbe : b.at_ = e.at_ := by omega
          have hbm : b.more ≠ 1 := hnext b hb hbe
          have := s1.2 (by omega)
          rcases S.more hb with h | h <;> omega
        · obtain rfl : j = k + 1 := by omega
          exact hnext a hja heq hma
      simp only [wt, hma]; simp; omega
    · simp only [wt, hma]; simp; omega
  rw [h1, h2]
  omega

/-- Behind the last edge that begins there lie as many as have the place. -/
theorem Swept.last {v : Iv} (hv : v ∈ l) : ∃ (k : Nat) (e : Ed), E[k]? = some e ∧ e.at_ = v.lo ∧ pre E (k + 1) = depthOf l v.lo := by
  have hm := S.perm.mem_iff.2 (edges_lo hv)
  obtain ⟨k0, hk0⟩ := List.getElem?_of_mem hm
  have key : ∀ d k, k + d = E.length → E[k]? = some ⟨v.lo, 1⟩ → ∃ (k : Nat) (e : Ed), E[k]? = some e ∧ e.at_ = v.lo ∧ pre E (k + 1) = depthOf l v.lo := by
    intro d
    induction d with
    | zero =>
      intro k hk h
      have := (List.getElem?_eq_some_iff.1 h).1
      omega
    | succ d ih =>
      intro k hk h
      by_cases hn : E[k + 1]? = some ⟨v.lo, 1⟩
      · exact ih (k + 1) (by omega) hn
      · refine ⟨k, _, h, rfl, S.pre_eq h rfl fun a ha hat hma => hn ?_⟩
        rw [ha]
        obtain ⟨x, y⟩ := a
        simp only at hat hma
        rw [hat, hma]
  have hl := (List.getElem?_eq_some_iff.1 hk0).1
  exact key (E.length - k0) k0 (by omega) hk0
end

/-- What the sweep has found behind k edges. -/
def Best (E : List Ed) (k : Nat) (M lo hi : Int) : Prop :=
  (∀ j, j ≤ k → pre E j ≤ M) ∧ ((M = 0 ∧ lo = 0 ∧ hi = 0) ∨ ∃ (i : Nat) (a b : Ed), i < k ∧ pre E (i + 1) = M ∧ (∀ j, j ≤ i → pre E j < M) ∧ E[i]? = some a ∧ E[i + 1]? = some b ∧ a.at_ = lo ∧ b.at_ = hi)
theorem Best.start (E : List Ed) : Best E 0 0 0 0 := ⟨fun j hj => by obtain rfl : j = 0 := by omega
                                                                     exact Int.le_refl _, .inl ⟨rfl, rfl, rfl⟩⟩
theorem Best.stay {E : List Ed} {k : Nat} {M lo hi : Int} (h : Best E k M lo hi) (hp : pre E (k + 1) ≤ M) : Best E (k + 1) M lo hi := by
  refine ⟨fun j hj => ?_, ?_⟩
  · rcases Nat.lt_or_ge k j with h' | h'
    · obtain rfl : j = k + 1 := by omega
      exact hp
    · exact h.1 j h'
  · rcases h.2 with h | ⟨i, a, b, hi', r⟩
    · exact .inl h
    · exact .inr ⟨i, a, b, by omega, r⟩
theorem Best.more {E : List Ed} {k : Nat} {M lo hi : Int} {a b : Ed} (h : Best E k M lo hi) (hp : M < pre E (k + 1)) (ha : E[k]? = some a) (hb : E[k + 1]? = some b) : Best E (k + 1) (pre E (k + 1)) a.at_ b.at_ := by
  refine ⟨fun j hj => ?_, .inr ⟨k, a, b, by omega, rfl, fun j hj => ?_, ha, hb, rfl, rfl⟩⟩
  · rcases Nat.lt_or_ge k j with h' | h'
    · obtain rfl : j = k + 1 := by omega
      exact Int.le_refl _
    · have := h.1 j h'; omega
  · have := h.1 j hj; omega

/-- Where most agree, and how many. -/
structure AgreedIs (l : List Iv) (lo hi M : Int) : Prop where
  pos : 1 ≤ M
  depth : (depthOf l lo : Int) = M
  from_ : ∃ v ∈ l, v.lo = lo
  most : ∀ v ∈ l, (depthOf l v.lo : Int) ≤ M ∧ ((depthOf l v.lo : Int) = M → lo ≤ v.lo)
  end_ : ∃ v ∈ l, inB v.lo lo v.hi = true ∧ v.hi = hi
  first : ∀ v ∈ l, inB v.lo lo v.hi = true → hi ≤ v.hi
theorem AgreedIs.same {l : List Iv} {lo hi M lo' hi' M' : Int} (h : AgreedIs l lo hi M) (h' : AgreedIs l lo' hi' M') : lo = lo' ∧ hi = hi' ∧ M = M' := by
  obtain ⟨v, hv, e⟩ := h.from_
  obtain ⟨v', hv', e'⟩ := h'.from_
  have a := h.most v' hv'
  have b := h'.most v hv
  rw [e'] at a
  rw [e] at b
  have d := h.depth
  have d' := h'.depth
  have hM : M = M' := by omega
  have hlo : lo = lo' := by
    have := a.2 (by omega)
    have := b.2 (by omega)
    omega
  subst hlo
  obtain ⟨u, hu, u1, u2⟩ := h.end_
  obtain ⟨u', hu', u1', u2'⟩ := h'.end_
  have := h.first u' hu' u1'
  have := h'.first u hu u1
  exact ⟨rfl, by omega, hM⟩

theorem depth_pos {l : List Iv} {v : Iv} (hv : v ∈ l) {p : Int} (hp : inB v.lo p v.hi = true) : 1 ≤ depthOf l p :=
  List.countP_pos_iff.2 ⟨v, hv, hp⟩
theorem ok_of {l : List Iv} (h : okAll l = true) {v : Iv} (hv : v ∈ l) : v.lo ≤ v.hi := (Iv.ok_iff.1 (List.all_eq_true.1 h v hv)).2.1

theorem Swept.agreed {l : List Iv} {E : List Ed} (S : Swept l E) (hne : l ≠ []) {M lo hi : Int} (h : Best E E.length M lo hi) : AgreedIs l lo hi M := by
  obtain ⟨hall, hb⟩ := h
  have hup : ∀ v ∈ l, (depthOf l v.lo : Int) ≤ M := fun v hv => by
    obtain ⟨k, e, hk, _, hp⟩ := S.last hv
    rw [← hp]
    exact hall _ (by have := (List.getElem?_eq_some_iff.1 hk).1; omega)
  obtain ⟨v0, hv0⟩ := List.exists_mem_of_ne_nil l hne
  have h1 : 1 ≤ M := by
    have := hup v0 hv0
    have := depth_pos hv0 (inB_yes (Int.le_refl _) (ok_of S.ok hv0))
    omega
  rcases hb with ⟨h0, _⟩ | ⟨i, a, b, hi', hp, hlt, ha, hb, rfl, rfl⟩
  · omega
  · have ham : a.more = 1 := by
      have := hlt i (Nat.le_refl _)
      rw [pre_next ha] at hp
      rcases S.more ha with h | h
      · exact h
      · omega
    have hbm : b.more = -1 := by
      rcases S.more hb with h | h
      · have := hall (i + 2) (by have := (List.getElem?_eq_some_iff.1 hb).1; omega)
        rw [show i + 2 = (i + 1) + 1 from rfl, pre_next hb, hp] at this
        omega
      · exact h
    have hfrom : ∃ v ∈ l, v.lo = a.at_ := by
      rcases edges_more (S.mem ha) with ⟨_, h⟩ | ⟨h, _⟩
      · exact h
      · omega
    have hdep : (depthOf l a.at_ : Int) = M := by
      have := S.pre_le ha
      obtain ⟨v, hv, e⟩ := hfrom
      have := hup v hv
      rw [e] at this
      omega
    have sab := sorted_get S.sorted (Nat.lt_succ_self i) ha hb
    refine ⟨h1, hdep, hfrom, fun v hv => ⟨hup v hv, fun hM => ?_⟩, ?_, fun v hv hin => ?_⟩
    · obtain ⟨k, e, hk, he, hpk⟩ := S.last hv
      have hik : i ≤ k := by
        rcases Nat.lt_or_ge k i with h | h
        · have := hlt (k + 1) (by omega); omega
        · exact h
      rcases Nat.lt_or_ge i k with h | h
      · have := (sorted_get S.sorted h ha hk).1
        omega
      · obtain rfl : k = i := by omega
        rw [ha] at hk
        rw [← he, Option.some.inj hk]
        exact Int.le_refl _
    · rcases edges_more (S.mem hb) with ⟨h, _⟩ | ⟨_, v, hv, e⟩
      · omega
      · refine ⟨v, hv, inB_yes ?_ (by rw [e]; exact sab.1), e⟩
        rcases Int.lt_or_le a.at_ v.lo with hgt | hle
        · exfalso
          have hle := ok_of S.ok hv
          obtain ⟨j, hj⟩ := List.getElem?_of_mem (S.perm.mem_iff.2 (edges_lo hv))
          rcases Nat.lt_trichotomy j (i + 1) with h | h | h
          · rcases Nat.lt_or_ge j i with h2 | h2
            · have := (sorted_get S.sorted h2 hj ha).1
              simp only at this
              omega
            · obtain rfl : j = i := by omega
              rw [ha] at hj
              have := Option.some.inj hj
              rw [this] at hgt
              simp at hgt
          · subst h
            rw [hb] at hj
            have := Option.some.inj hj
            rw [this] at hbm
            simp at hbm
          · have s := sorted_get S.sorted h hb hj
            simp only at s
            have := s.2 (by omega)
            omega
        · exact hle
    · obtain ⟨h2, h3⟩ := inB_iff.1 hin
      obtain ⟨j, hj⟩ := List.getElem?_of_mem (S.perm.mem_iff.2 (edges_hi hv))
      rcases Nat.lt_trichotomy j (i + 1) with h | h | h
      · exfalso
        rcases Nat.lt_or_ge j i with h4 | h4
        · have s := sorted_get S.sorted h4 hj ha
          simp only at s
          have := s.2 (by omega)
          omega
        · obtain rfl : j = i := by omega
          rw [ha] at hj
          have := Option.some.inj hj
          rw [this] at ham
          simp at ham
      · subst h
        rw [hb] at hj
        rw [Option.some.inj hj]
        exact Int.le_refl _
      · have s := (sorted_get S.sorted h hb hj).1
        simpa using s

/-- All that begin end: the sweep comes back to nought. -/
theorem Swept.whole {l : List Iv} {E : List Ed} (S : Swept l E) : pre E E.length = 0 := by
  unfold pre
  rw [List.take_length, sumZ_perm S.perm]
  clear S
  induction l with
  | nil => rfl
  | cons v l ih =>
    have e1 : edgesIn (v :: l) = ⟨v.lo, 1⟩ :: ⟨v.hi, -1⟩ :: edgesIn l := rfl
    rw [e1, sumZ_cons, sumZ_cons, ih]
    simp
end Go.Proofs.YtohcebiepekbeaaGreatDoor
