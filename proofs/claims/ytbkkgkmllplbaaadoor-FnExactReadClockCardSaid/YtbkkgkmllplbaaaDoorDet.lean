/- A region that draws its order, in which one operation makes memory, all others read, and the callees answer named values: walked once. -/
import Derived.Orders
import Derived.Still
import Derived.Below
import Derived.Lib.QuietBelow
namespace Go.Proofs.YtbkkgkmllplbaaaDoor
open Go.RowKit Go.Sort
set_option linter.unusedVariables false
set_option linter.unusedSimpArgs false

/-- Nothing of what was there has turned; new blocks may lie there. -/
def Ext (w w' : World) : Prop := Below w.heap.size w w'
/-- An operation, carried out in the world w, hands back v: in that very world, or as a call that lays nothing but new blocks. -/
def detUpon (P : Program) (w : World) (v : Value) : Result Next → Prop
  | .ok (.value u) w' => w' = w ∧ u = v
  | .ok .skip w' => w' = w ∧ v = undef
  | .ok (.enter f args) w' => w' = w ∧ Calls P f args w (fun e w'' => e = .returned v ∧ Ext w w'')
  | _ => False
def detQuiet (P : Program) (o : Oper) (a : Act) (C : World → Prop) (next : Act → Prop) : Prop := ∃ v, (∀ w, C w → detUpon P w v ((execOp a.eval o).run P w)) ∧ next (a.put o.dst v)
/-- The lexical walk; operation k makes memory (its slot d is left as it is), what it makes is Good. -/
def wpDet (P : Program) (ops : Array Oper) (C : World → Prop) (k : Nat) (d : Nat) (Good : Value → World → Prop) (Q : Act → Prop) : List Oper → Nat → Act → Prop
  | [], _, a => Q a
  | o :: l, i, a =>
    if i = k then (∀ w, C w → ∃ u w', (execOp a.eval o).run P w = .ok (.value u) w' ∧ Below w.heap.size w w' ∧ Good u w') ∧ wpDet P ops C k d Good Q l (i + 1) a
    else if (o.looksAt ops).contains d = true then ∃ v, (∀ w u, C w → Good u w → (execOp (a.put (some d) u).eval o).run P w = .ok (.value v) w) ∧ wpDet P ops C k d Good Q l (i + 1) (a.put o.dst v)
    else if Region.wanted o (yielded ops a.tmps) = true then detQuiet P o a C (wpDet P ops C k d Good Q l (i + 1)) else wpDet P ops C k d Good Q l (i + 1) (a.put o.dst undef)
/-- What is asked of one operation at a frame. -/
def Ob (P : Program) (ops : Array Oper) (C : World → Prop) (k : Nat) (d : Nat) (Good : Value → World → Prop) (o : Oper) (i : Nat) (f : Act) (v : Value) : Prop :=
  (i = k → ∀ w, C w → ∃ u w', (execOp f.eval o).run P w = .ok (.value u) w' ∧ Below w.heap.size w w' ∧ Good u w') ∧
  (i ≠ k → (o.looksAt ops).contains d = true → ∀ w u, C w → Good u w → (execOp (f.put (some d) u).eval o).run P w = .ok (.value v) w) ∧
  (i ≠ k → (o.looksAt ops).contains d = false → Region.wanted o (yielded ops f.tmps) = true → ∀ w, C w → detUpon P w v ((execOp f.eval o).run P w)) ∧
  (i ≠ k → (o.looksAt ops).contains d = false → Region.wanted o (yielded ops f.tmps) = false → v = undef)
section
variable {P : Program} {ops : Array Oper} {C : World → Prop} {k : Nat} {d : Nat} {Good : Value → World → Prop}
def Lex (P : Program) (ops : Array Oper) (C : World → Prop) (k : Nat) (d : Nat) (Good : Value → World → Prop) : List Oper → Nat → Act → Act → Prop
  | [], _, f, F => F = f
  | o :: l, i, f, F => ∃ v, Ob P ops C k d Good o i f v ∧ Lex P ops C k d Good l (i + 1) (if i = k then f else f.put o.dst v) F
theorem lex_of {Q : Act → Prop} : ∀ (l : List Oper) (i : Nat) (f : Act), wpDet P ops C k d Good Q l i f → ∃ F, Lex P ops C k d Good l i f F ∧ Q F
  | [], _, f, h => ⟨f, rfl, h⟩
  | o :: l, i, f, h => by
    unfold wpDet at h
    by_cases hk : i = k
    · rw [if_pos hk] at h
      obtain ⟨F, h1, h2⟩ := lex_of l (i + 1) f h.2
      exact ⟨F, ⟨undef, ⟨fun _ => h.1, fun h' => absurd hk h', fun h' => absurd hk h', fun h' => absurd hk h'⟩, by rw [if_pos hk]; exact h1⟩, h2⟩
    · rw [if_neg hk] at h
      by_cases hc : (o.looksAt ops).contains d = true
      · rw [if_pos hc] at h
        obtain ⟨v, hv, hr⟩ := h
        obtain ⟨F, h1, h2⟩ := lex_of l (i + 1) _ hr
        exact ⟨F, ⟨v, ⟨fun h' => absurd h' hk, fun _ _ => hv, fun _ h' => absurd hc (by rw [h']; decide), fun _ h' => absurd hc (by rw [h']; decide)⟩, by rw [if_neg hk]; exact h1⟩, h2⟩
      · rw [if_neg hc] at h
        by_cases hw : Region.wanted o (yielded ops f.tmps) = true
        · rw [if_pos hw] at h
          obtain ⟨v, hv, hr⟩ := h
          obtain ⟨F, h1, h2⟩ := lex_of l (i + 1) _ hr
          exact ⟨F, ⟨v, ⟨fun h' => absurd h' hk, fun _ h' => absurd h' hc, fun _ _ _ => hv, fun _ _ h' => absurd hw (by rw [h']; decide)⟩, by rw [if_neg hk]; exact h1⟩, h2⟩
        · rw [if_neg hw] at h
          obtain ⟨F, h1, h2⟩ := lex_of l (i + 1) _ h
          exact ⟨F, ⟨undef, ⟨fun h' => absurd h' hk, fun _ h' => absurd h' hc, fun _ _ h' => absurd h' hw, fun _ _ _ => rfl⟩, by rw [if_neg hk]; exact h1⟩, h2⟩
theorem put_same {a : Act} {x : Option Nat} {v : Value} {t : Nat} (h : x ≠ some t) : (a.put x v).tmps[t]? = a.tmps[t]? := by
  cases x with
  | none => rfl
  | some e =>
    have hne : e ≠ t := fun e2 => h (by rw [e2])
    simp [Act.put, Array.getElem?_setIfInBounds_ne hne]
theorem put_size {a : Act} {x : Option Nat} {v : Value} : (a.put x v).tmps.size = a.tmps.size := by
  cases x <;> simp [Act.put]
theorem put_defers {a : Act} {x : Option Nat} {v : Value} : (a.put x v).defers = a.defers := by
  cases x <;> rfl
theorem put_at {a : Act} {v : Value} {t : Nat} (h : t < a.tmps.size) : (a.put (some t) v).tmps[t]? = some v := by
  simp [Act.put, h]
/-- What no later operation writes stays. -/
theorem lex_stay : ∀ (l : List Oper) (i : Nat) (f F : Act), Lex P ops C k d Good l i f F → F.tmps.size = f.tmps.size ∧ F.defers = f.defers ∧ ∀ t, (∀ j o, l[j]? = some o → i + j ≠ k → o.dst ≠ some t) → F.tmps[t]? = f.tmps[t]?
  | [], _, f, F, h => by rw [h]; exact ⟨rfl, rfl, fun _ _ => rfl⟩
  | o :: l, i, f, F, h => by
    obtain ⟨v, _, h⟩ := h
    obtain ⟨h1, h2, h3⟩ := lex_stay l (i + 1) _ F h
    by_cases hk : i = k
    · rw [if_pos hk] at h1 h2 h3
      exact ⟨h1, h2, fun t ht => h3 t (fun j o' hj hne => ht (j + 1) o' (by simpa using hj) (by omega))⟩
    · rw [if_neg hk] at h1 h2 h3
      refine ⟨by rw [h1, put_size], by rw [h2, put_defers], fun t ht => ?_⟩
      rw [h3 t (fun j o' hj hne => ht (j + 1) o' (by simpa using hj) (by omega))]
      exact put_same (ht 0 o rfl (by omega))
theorem lex_at : ∀ (l : List Oper) (i : Nat) (f F : Act), Lex P ops C k d Good l i f F → ∀ j o, l[j]? = some o → ∃ fj v, Ob P ops C k d Good o (i + j) fj v ∧ fj.tmps.size = F.tmps.size ∧
    (∀ t, (∀ j' o', j ≤ j' → l[j']? = some o' → i + j' ≠ k → o'.dst ≠ some t) → fj.tmps[t]? = F.tmps[t]?) ∧
    (i + j ≠ k → ∀ t, o.dst = some t → (∀ j' o', j < j' → l[j']? = some o' → i + j' ≠ k → o'.dst ≠ some t) → F.tmps[t]? = (fj.put o.dst v).tmps[t]?)
  | [], _, _, _, _, j, o, hj => by simp at hj
  | o :: l, i, f, F, h, 0, o2, hj => by
    obtain rfl : o = o2 := by simpa using hj
    have h' := h
    obtain ⟨v, hv, h⟩ := h
    have hs := lex_stay _ _ _ _ h'
    refine ⟨f, v, hv, hs.1.symm, fun t ht => (hs.2.2 t (fun j' o' hj' hne => ht j' o' (Nat.zero_le _) hj' hne)).symm, fun hne t hd ht => ?_⟩
    have h3 := (lex_stay _ _ _ _ h).2.2 t (fun j' o' hj' hne' => ht (j' + 1) o' (by omega) (by simpa using hj') (by omega))
    rw [h3, if_neg (by omega)]
  | o :: l, i, f, F, h, j + 1, o2, hj => by
    obtain ⟨v, hv, h⟩ := h
    obtain ⟨fj, vj, q1, q2, q3, q4⟩ := lex_at l (i + 1) _ F h j o2 (by simpa using hj)
    refine ⟨fj, vj, by rw [show i + (j + 1) = i + 1 + j by omega]; exact q1, q2, fun t ht => q3 t (fun j' o' hle hj' hne => ht (j' + 1) o' (by omega) (by simpa using hj') (by omega)), fun hne t hd ht => q4 (by omega) t hd (fun j' o' hle hj' hne' => ht (j' + 1) o' (by omega) (by simpa using hj') (by omega))⟩
/-- The order is such that what is read has been written once and for all. -/
def detB (ops : Array Oper) (k : Nat) (d : Nat) : Bool :=
  Region.noSelect ops &&
  (match ops[k]? with | some o => o.dst == some d && o.guard.isNone | none => false) &&
  (List.range ops.size).all fun i => match ops[i]? with
    | none => true
    | some oi =>
      (!(oi.looksAt ops).contains d || oi.guard.isNone) &&
      (oi.after.all fun e => !Region.binds .any e || decide (e.on < i)) &&
      (List.range ops.size).all fun j => match ops[j]? with
        | none => true
        | some oj => match oj.dst with
          | none => true
          | some t => (j == i || oi.dst != some t) && (!(oi.looksAt ops).contains t || ((oi.after.any fun e => Region.binds .any e && e.on == j) && decide (j < i)))
structure DetB (ops : Array Oper) (k : Nat) (d : Nat) : Prop where
  sel : ∀ (j : Nat) (o : Oper) (cs : Array SelectCase) (b : Bool), ops[j]? = some o → o.op ≠ .select cs b
  spec : ∃ o, ops[k]? = some o ∧ o.dst = some d ∧ o.guard = none
  plain : ∀ (i : Nat) (oi : Oper), ops[i]? = some oi → (oi.looksAt ops).contains d = true → oi.guard = none
  back : ∀ (i : Nat) (oi : Oper), ops[i]? = some oi → ∀ e ∈ oi.after, Region.binds .any e = true → e.on < i
  once : ∀ (i j : Nat) (oi oj : Oper) (t : Nat), ops[i]? = some oi → ops[j]? = some oj → oj.dst = some t → j ≠ i → oi.dst ≠ some t
  waits : ∀ (i j : Nat) (oi oj : Oper) (t : Nat), ops[i]? = some oi → ops[j]? = some oj → oj.dst = some t → t ∈ oi.looksAt ops → j < i ∧ ∃ e ∈ oi.after, Region.binds .any e = true ∧ e.on = j
theorem DetB.of (h : detB ops k d = true) : DetB ops k d := by
  unfold detB at h
  simp only [Bool.and_eq_true] at h
  obtain ⟨⟨h0, h1⟩, h2⟩ := h
  rw [List.all_eq_true] at h2
  have lt : ∀ {j : Nat} {o : Oper}, ops[j]? = some o → j ∈ List.range ops.size := fun hj => List.mem_range.2 (Array.getElem?_eq_some_iff.1 hj).1
  refine ⟨fun j o cs b ho => Region.noSelect_spec h0 j o cs b ho, ?_, fun i oi hi hc => ?_, fun i oi hi e he hb => ?_, fun i j oi oj t hi hj hd hne => ?_, fun i j oi oj t hi hj hd ht => ?_⟩
  · cases hk : ops[k]? with
    | none => rw [hk] at h1; cases h1
    | some o =>
      rw [hk] at h1
      simp only [Bool.and_eq_true, beq_iff_eq, Option.isNone_iff_eq_none] at h1
      exact ⟨o, rfl, h1.1, h1.2⟩
  · have h3 := h2 i (lt hi)
    rw [hi] at h3
    simp only [Bool.and_eq_true, Bool.or_eq_true, Bool.not_eq_true', hc, Option.isNone_iff_eq_none] at h3
    rcases h3.1.1 with h4 | h4
    · cases h4
    · exact h4
  · have h3 := h2 i (lt hi)
    rw [hi] at h3
    simp only [Bool.and_eq_true] at h3
    have h4 := Array.all_eq_true_iff_forall_mem.1 h3.1.2 e he
    simp only [hb, Bool.not_true, Bool.false_or, decide_eq_true_eq] at h4
    exact h4
  · have h3 := h2 i (lt hi)
    rw [hi] at h3
    simp only [Bool.and_eq_true] at h3
    have h4 := List.all_eq_true.1 h3.2 j (lt hj)
    rw [hj] at h4
    simp only [hd, Bool.and_eq_true, Bool.or_eq_true, beq_iff_eq, hne, false_or, bne_iff_ne, ne_eq] at h4
    exact h4.1
  · have h3 := h2 i (lt hi)
    rw [hi] at h3
    simp only [Bool.and_eq_true] at h3
    have h4 := List.all_eq_true.1 h3.2 j (lt hj)
    rw [hj] at h4
    have hc : (oi.looksAt ops).contains t = true := by simpa using ht
    simp only [hd, Bool.and_eq_true, hc, Bool.not_true, Bool.false_or, decide_eq_true_eq] at h4
    obtain ⟨e, he, hb⟩ := Array.any_eq_true'.1 h4.2.1
    simp only [Bool.and_eq_true, beq_iff_eq] at hb
    exact ⟨h4.2.2, e, he, hb⟩
theorem cnt_less (n i0 : Nat) (p q : Nat → Bool) (h : i0 < n) (hp : p i0 = true) (hq : q i0 = false) (hpq : ∀ j, j ≠ i0 → q j = p j) : ((List.range n).filter q).length + 1 = ((List.range n).filter p).length := by
  induction n with
  | zero => omega
  | succ n ih =>
    rw [List.range_succ, List.filter_append, List.filter_append, List.length_append, List.length_append]
    by_cases hn : i0 = n
    · subst hn
      have e : (List.range i0).filter q = (List.range i0).filter p := List.filter_congr fun j hj => hpq j (by have := List.mem_range.1 hj; omega)
      rw [e]
      simp [hp, hq]
    · have := ih (by omega)
      have e : [n].filter q = [n].filter p := List.filter_congr fun j hj => hpq j (by rw [List.mem_singleton.1 hj]; omega)
      rw [e]
      omega
def unl (ops : Array Oper) (listed : Array Bool) : Nat := ((List.range ops.size).filter fun i => !listed.getD i true).length
structure Inv (ops : Array Oper) (C : World → Prop) (k : Nat) (d : Nat) (Good : Value → World → Prop) (a F : Act) (listed : Array Bool) (b : Act) (w : World) : Prop where
  size : listed.size = ops.size
  cls : C w
  len : b.tmps.size = F.tmps.size
  dfr : b.defers = F.defers
  wr : ∀ (j : Nat) (o : Oper) (t : Nat), ops[j]? = some o → o.dst = some t → j ≠ k → listed.getD j false = true → b.tmps[t]? = F.tmps[t]?
  un : ∀ (t : Nat), t ≠ d → (∀ (j : Nat) (o : Oper), ops[j]? = some o → o.dst = some t → listed.getD j false = false) → b.tmps[t]? = a.tmps[t]?
  sp : listed.getD k false = true → Good (b.tmps.getD d undef) w
theorem getD_tf {listed : Array Bool} {j : Nat} (h : j < listed.size) : listed.getD j true = listed.getD j false := by
  simp [Array.getD, h]
theorem getD_set_at {listed : Array Bool} {i : Nat} (h : i < listed.size) (x : Bool) : (listed.setIfInBounds i true).getD i x = true := by
  simp [Array.getD, h]
theorem getD_of {a b : Array Value} {t : Nat} (h : a[t]? = b[t]?) : a.getD t undef = b.getD t undef := by
  simp only [Array.getD_eq_getD_getElem?, h]
theorem mem_looks {ops : Array Oper} {o : Oper} {t : Nat} (h : Operand.tmp t ∈ o.op.operands) : t ∈ o.looksAt ops :=
  List.mem_append_left _ (List.mem_filterMap.2 ⟨.tmp t, by simpa using h, rfl⟩)
theorem exec_same {o : Oper} (hs : ∀ cs b, o.op ≠ .select cs b) {b f : Act} (h : ∀ t ∈ o.looksAt ops, b.tmps[t]? = f.tmps[t]?) : execOp b.eval o = execOp f.eval o :=
  execOp_congr o hs fun x hx => by
    cases x with
    | tmp t => exact getD_of (h t (mem_looks hx))
    | _ => rfl
theorem wanted_same {o : Oper} {b f : Act} (h : ∀ t ∈ o.looksAt ops, b.tmps[t]? = f.tmps[t]?) : Region.wanted o (yielded ops b.tmps) = Region.wanted o (yielded ops f.tmps) := by
  unfold Region.wanted
  cases hg : o.guard with
  | none => rfl
  | some gw =>
    obtain ⟨g, want⟩ := gw
    have hy : yielded ops b.tmps g = yielded ops f.tmps g := by
      unfold yielded
      cases ht : (ops[g]?).bind (·.dst) with
      | none => rfl
      | some t =>
        have := h t (by simp [Oper.looksAt, hg, ht])
        simp only [Option.bind_some, this]
    simp only [hy]
theorem put_eq {b f : Act} {t : Nat} {v : Value} (h : b.tmps.size = f.tmps.size) : (b.put (some t) v).tmps[t]? = (f.put (some t) v).tmps[t]? := by
  by_cases ht : t < b.tmps.size
  · rw [put_at ht, put_at (by omega)]
  · rw [Array.getElem?_eq_none (by rw [put_size]; omega), Array.getElem?_eq_none (by rw [put_size]; omega)]
theorem inv_done {a F : Act} {listed : Array Bool} {b : Act} {w : World} (hB : DetB ops k d) (hFU : ∀ (t : Nat), (∀ (j : Nat) (o : Oper), ops[j]? = some o → j ≠ k → o.dst ≠ some t) → F.tmps[t]? = a.tmps[t]?) (hd : d < F.tmps.size)
    (h : Inv ops C k d Good a F listed b w) (hall : ∀ i, i < ops.size → listed.getD i true = true) : b = F.put (some d) (b.tmps.getD d undef) ∧ Good (b.tmps.getD d undef) w := by
  obtain ⟨ok, hk, hkd, _⟩ := hB.spec
  have hks : k < ops.size := (Array.getElem?_eq_some_iff.1 hk).1
  have hl : ∀ i, i < ops.size → listed.getD i false = true := fun i hi => by rw [← getD_tf (by rw [h.size]; exact hi)]; exact hall i hi
  refine ⟨?_, h.sp (hl k hks)⟩
  have e : b.tmps = (F.put (some d) (b.tmps.getD d undef)).tmps := by
    apply Array.ext_getElem?
    intro t
    by_cases htd : t = d
    · subst htd
      rw [put_at hd, Array.getD_eq_getD_getElem?]
      cases hb : b.tmps[t]? with
      | none => exact absurd (Array.getElem?_eq_none_iff.1 hb) (by have := h.len; omega)
      | some u => rfl
    · rw [put_same (by simpa using fun e => htd e.symm)]
      by_cases hw : ∃ (j : Nat) (o : Oper), ops[j]? = some o ∧ o.dst = some t
      · obtain ⟨j, o, hj, ho⟩ := hw
        have hjk : j ≠ k := fun e => by
          subst e
          rw [hk] at hj
          obtain rfl := Option.some.inj hj
          rw [hkd] at ho
          exact htd (Option.some.inj ho).symm
        exact h.wr j o t hj ho hjk (hl j (Array.getElem?_eq_some_iff.1 hj).1)
      · rw [h.un t htd (fun j o hj ho => absurd ⟨j, o, hj, ho⟩ hw), hFU t (fun j o hj _ ho => hw ⟨j, o, hj, ho⟩)]
  have e2 : b.defers = (F.put (some d) (b.tmps.getD d undef)).defers := by rw [put_defers, h.dfr]
  cases b with
  | mk t df =>
    generalize hX : F.put (some d) _ = X at e e2 ⊢
    cases X with
    | mk t2 df2 =>
      dsimp only at e e2
      rw [e, e2]
theorem all_listed {listed : Array Bool} (hB : DetB ops k d) (hs : listed.size = ops.size) (hr : Region.ready .any ops listed = []) : ∀ i, i < ops.size → listed.getD i true = true := by
  intro i
  induction i using Nat.strongRecOn with
  | ind i ih =>
    intro hi
    cases hl : listed.getD i true with
    | true => rfl
    | false =>
      have : i ∈ Region.ready .any ops listed := mem_ready.2 ⟨hl, ops[i], Array.getElem?_eq_getElem hi, fun e he hb => by
        have hlt := hB.back i ops[i] (Array.getElem?_eq_getElem hi) e he hb
        rw [← getD_tf (by omega)]
        exact ih e.on hlt (by omega)⟩
      rw [hr] at this
      cases this
theorem det_any {a F : Act} {Q : Exit → Act → World → Prop} (hB : DetB ops k d) (hC : ∀ w w', C w → Below w.heap.size w w' → C w') (hG : ∀ u w w', Good u w → Below w.heap.size w w' → Good u w')
    (hL : Lex P ops C k d Good ops.toList 0 a F) (hd : d < a.tmps.size) (hQ : ∀ u w', C w' → Good u w' → Q .normal (F.put (some d) u) w') :
    ∀ (fuel : Nat) (listed : Array Bool) (b : Act) (w : World), unl ops listed ≤ fuel → Inv ops C k d Good a F listed b w → wpAny P .any ops Q fuel listed b w := by
  obtain ⟨hF1, hF2, hF3⟩ := lex_stay _ _ _ _ hL
  have hFU : ∀ (t : Nat), (∀ (j : Nat) (o : Oper), ops[j]? = some o → j ≠ k → o.dst ≠ some t) → F.tmps[t]? = a.tmps[t]? := fun t ht => hF3 t (fun j o hj hne => ht j o (by simpa using hj) (by omega))
  have hdF : d < F.tmps.size := by omega
  obtain ⟨ok, hok, hkd, hkg⟩ := hB.spec
  have hks : k < ops.size := (Array.getElem?_eq_some_iff.1 hok).1
  have fin : ∀ (listed : Array Bool) (b : Act) (w : World), Inv ops C k d Good a F listed b w → (∀ i, i < ops.size → listed.getD i true = true) → Q .normal b w := fun listed b w h hall => by
    obtain ⟨e1, e2⟩ := inv_done hB hFU hdF h hall
    rw [e1]
    exact hQ _ _ h.cls e2
  intro fuel
  induction fuel with
  | zero =>
    intro listed b w hu h
    have hall : ∀ i, i < ops.size → listed.getD i true = true := fun i hi => by
      have h0 : (List.range ops.size).filter (fun i => !listed.getD i true) = [] := List.eq_nil_of_length_eq_zero (by unfold unl at hu; omega)
      have := List.filter_eq_nil_iff.1 h0 i (List.mem_range.2 hi)
      simpa using this
    refine ⟨?_, fin listed b w h hall⟩
    apply List.eq_nil_iff_forall_not_mem.2
    intro j hj
    obtain ⟨h0, o, ho, _⟩ := mem_ready.1 hj
    rw [hall j (Array.getElem?_eq_some_iff.1 ho).1] at h0
    cases h0
  | succ fuel ih =>
    intro listed b w hu h
    refine ⟨fun hr => fin listed b w h (all_listed hB h.size hr), fun i hi => ?_⟩
    obtain ⟨hun, oi, hoi, hwait⟩ := mem_ready.1 hi
    have hil : i < ops.size := (Array.getElem?_eq_some_iff.1 hoi).1
    have hils : i < listed.size := by rw [h.size]; exact hil
    have hunf : listed.getD i false = false := by rw [← getD_tf hils]; exact hun
    obtain ⟨f, v, hOb, hfs, hf1, hf2⟩ := lex_at _ _ _ _ hL i oi (by simpa using hoi)
    rw [Nat.zero_add] at hOb hf2
    have hlook : ∀ t ∈ oi.looksAt ops, t ≠ d → b.tmps[t]? = f.tmps[t]? := fun t ht htd => by
      rw [hf1 t (fun j' o' hle hj' _ hd' => by
        have := (hB.waits i j' oi o' t hoi (by simpa using hj') hd' ht).1
        omega)]
      by_cases hw : ∃ (j : Nat) (o : Oper), ops[j]? = some o ∧ o.dst = some t
      · obtain ⟨j, o, hj, ho⟩ := hw
        obtain ⟨_, e, he, hb, rfl⟩ := hB.waits i j oi o t hoi hj ho ht
        refine h.wr e.on o t hj ho (fun e2 => ?_) (hwait e he hb)
        rw [e2, hok] at hj
        obtain rfl := Option.some.inj hj
        rw [hkd] at ho
        exact htd (Option.some.inj ho).symm
      · rw [h.un t htd (fun j o hj ho => absurd ⟨j, o, hj, ho⟩ hw), hFU t (fun j o hj _ ho => hw ⟨j, o, hj, ho⟩)]
    have hless : unl ops (listed.setIfInBounds i true) ≤ fuel := by
      have := cnt_less ops.size i (fun j => !listed.getD j true) (fun j => !(listed.setIfInBounds i true).getD j true) hil (by simp [hun]) (by rw [getD_set_at hils]; rfl) (fun j hj => by rw [getD_set_ne true (Ne.symm hj)])
      unfold unl at hu ⊢
      omega
    have hsz : (listed.setIfInBounds i true).size = ops.size := by rw [Array.size_setIfInBounds, h.size]
    -- where an operation other than the special one has yielded its value
    have next : i ≠ k → ∀ w', Below w.heap.size w w' → wpAny P .any ops Q fuel (listed.setIfInBounds i true) (b.put oi.dst v) w' := fun hik w' hb => by
      refine ih _ _ _ hless ⟨hsz, hC _ _ h.cls hb, by rw [put_size, h.len], by rw [put_defers, h.dfr], fun j o t hj ho hjk hl => ?_, fun t htd hno => ?_, fun hl => ?_⟩
      · by_cases hji : j = i
        · subst hji
          rw [hoi] at hj
          obtain rfl := Option.some.inj hj
          rw [hf2 hjk t ho (fun j' o' hlt hj' _ hd' => hB.once j' j o' oi t (by simpa using hj') hoi ho (by omega) hd'), ho]
          exact put_eq (by rw [h.len, hfs])
        · rw [put_same (hB.once i j oi o t hoi hj ho hji)]
          exact h.wr j o t hj ho hjk (by rwa [getD_set_ne false (Ne.symm hji)] at hl)
      · have hne : oi.dst ≠ some t := fun hd' => by
          have := hno i oi hoi hd'
          rw [getD_set_at hils] at this
          cases this
        rw [put_same hne]
        refine h.un t htd (fun j o hj ho => ?_)
        have h2 := hno j o hj ho
        by_cases hji : j = i
        · subst hji; exact hunf
        · rwa [getD_set_ne false (Ne.symm hji)] at h2
      · have hne : oi.dst ≠ some d := hB.once i k oi ok d hoi hok hkd (Ne.symm hik)
        rw [getD_set_ne false hik] at hl
        have hs := h.sp hl
        rw [getD_of (put_same hne)]
        exact hG _ _ _ hs hb
    unfold wpOp
    rw [hoi]
    dsimp only
    by_cases hik : i = k
    · subst hik
      rw [hok] at hoi
      obtain rfl := Option.some.inj hoi
      have hw : Region.wanted ok (yielded ops b.tmps) = true := by simp [Region.wanted, hkg]
      rw [if_pos hw]
      left
      have hnd : ∀ t ∈ ok.looksAt ops, t ≠ d := fun t ht e => by
        subst e
        have := (hB.waits i i ok ok t hok hok hkd ht).1
        omega
      have hex := exec_same (ops := ops) (fun cs bb => hB.sel i ok cs bb hok) (fun t ht => hlook t ht (hnd t ht))
      obtain ⟨u, w', hrun, hb, hg⟩ := hOb.1 rfl w h.cls
      unfold Oper.wp
      rw [hex, hrun]
      show wpAny P .any ops Q fuel (listed.setIfInBounds i true) (b.put ok.dst u) w'
      rw [hkd]
      refine ih _ _ _ hless ⟨hsz, hC _ _ h.cls hb, by rw [put_size, h.len], by rw [put_defers, h.dfr], fun j o t hj ho hjk hl => ?_, fun t htd hno => ?_, fun _ => ?_⟩
      · have hne : (some d : Option Nat) ≠ some t := by rw [← hkd]; exact hB.once i j ok o t hok hj ho hjk
        rw [put_same hne]
        exact h.wr j o t hj ho hjk (by rwa [getD_set_ne false (Ne.symm hjk)] at hl)
      · rw [put_same (by simpa using fun e => htd e.symm)]
        refine h.un t htd (fun j o hj ho => ?_)
        have h2 := hno j o hj ho
        by_cases hji : j = i
        · subst hji; exact hunf
        · rwa [getD_set_ne false (Ne.symm hji)] at h2
      · rw [Array.getD_eq_getD_getElem?, put_at (by rw [h.len]; exact hdF)]
        exact hg
    · by_cases hc : (oi.looksAt ops).contains d = true
      · have hg := hB.plain i oi hoi hc
        have hw : Region.wanted oi (yielded ops b.tmps) = true := by simp [Region.wanted, hg]
        rw [if_pos hw]
        left
        have hdl : d ∈ oi.looksAt ops := by simpa using hc
        obtain ⟨_, e, he, hb, hek⟩ := hB.waits i k oi ok d hoi hok hkd hdl
        have hgood := h.sp (by rw [← hek]; exact hwait e he hb)
        have hex : execOp b.eval oi = execOp (f.put (some d) (b.tmps.getD d undef)).eval oi := exec_same (ops := ops) (fun cs bb => hB.sel i oi cs bb hoi) (fun t ht => by
          by_cases htd : t = d
          · subst htd
            rw [put_at (by omega), Array.getD_eq_getD_getElem?]
            cases hbt : b.tmps[t]? with
            | none => exact absurd (Array.getElem?_eq_none_iff.1 hbt) (by have := h.len; omega)
            | some u => rfl
          · rw [put_same (by simpa using fun e => htd e.symm)]
            exact hlook t ht htd)
        have hrun := hOb.2.1 hik hc w _ h.cls hgood
        unfold Oper.wp
        rw [hex, hrun]
        exact next hik w (Below.refl _ _)
      · have hc' : (oi.looksAt ops).contains d = false := by simpa using hc
        have hnd : ∀ t ∈ oi.looksAt ops, t ≠ d := fun t ht e => by
          subst e
          exact hc (by simpa using ht)
        have hex := exec_same (ops := ops) (fun cs bb => hB.sel i oi cs bb hoi) (fun t ht => hlook t ht (hnd t ht))
        have hwn := wanted_same (ops := ops) (o := oi) (fun t ht => hlook t ht (hnd t ht))
        by_cases hw : Region.wanted oi (yielded ops b.tmps) = true
        · rw [if_pos hw]
          left
          have hq := hOb.2.2.1 hik hc' (by rw [← hwn]; exact hw) w h.cls
          unfold Oper.wp
          rw [hex]
          generalize (execOp f.eval oi).run P w = r at hq
          cases r with
          | ok n w' =>
            cases n <;> simp only [detUpon] at hq <;> simp only [Oper.upon]
            case value u =>
              obtain ⟨e1, e2⟩ := hq
              rw [e1, e2]
              exact next hik w (Below.refl _ _)
            case skip =>
              obtain ⟨e1, e2⟩ := hq
              rw [e1, ← e2]
              exact next hik w (Below.refl _ _)
            case enter g args =>
              obtain ⟨e1, hcall⟩ := hq
              rw [e1]
              refine hcall.mono fun e w'' ⟨he, hb⟩ => ?_
              subst he
              exact next hik w'' hb
          | halt x w' => simp only [detUpon] at hq
        · rw [if_neg hw]
          have hv := hOb.2.2.2 hik hc' (by rw [← hwn]; simpa using hw)
          rw [← hv]
          exact next hik w (Below.refl _ _)
/-- The worlds that have grown out of this one. -/
def Cls (w0 : World) (w' : World) : Prop := ∃ p : Regrown, w' = grow (redrawn w0 p.d) p.os
theorem cls_below {w0 w : World} : Cls w0 w ↔ Below w0.heap.size w0 w := ⟨fun ⟨p, e⟩ => e ▸ below_regrown w0 p.d p.os, fun h => regrown_of_below h⟩
theorem Calls.ext {P : Program} {f : FuncId} {args : Array Value} {w : World} {v : Value} (h : Calls P f args w fun e w' => e = .returned v ∧ Below w.heap.size w w') : Calls P f args w fun e w' => e = .returned v ∧ Ext w w' := h
theorem wpDet_nil {Q : Act → Prop} {i : Nat} {a : Act} (h : Q a) : wpDet P ops C k d Good Q [] i a := h
/-- One operation of the lexical walk, what follows behind a variable. -/
theorem wpDet_step {Q : Act → Prop} {i : Nat} {a : Act} {o : Oper} {l : List Oper} (hk : (i == k) = false) (hd : (o.looksAt ops).contains d = false)
    (h : ∀ K : Act → Prop, (∀ a, wpDet P ops C k d Good Q l (i + 1) a → K a) → if Region.wanted o (yielded ops a.tmps) = true then detQuiet P o a C K else K (a.put o.dst undef)) : wpDet P ops C k d Good Q (o :: l) i a := by
  unfold wpDet
  rw [if_neg (by simpa using hk), if_neg (by rw [hd]; decide)]
  exact h _ (fun _ h => h)
theorem wpDet_made {Q : Act → Prop} {i : Nat} {a : Act} {o : Oper} {l : List Oper} (hk : (i == k) = true) (h1 : ∀ w, C w → ∃ u w', (execOp a.eval o).run P w = .ok (.value u) w' ∧ Below w.heap.size w w' ∧ Good u w')
    (h2 : wpDet P ops C k d Good Q l (i + 1) a) : wpDet P ops C k d Good Q (o :: l) i a := by
  unfold wpDet
  rw [if_pos (by simpa using hk)]
  exact ⟨h1, h2⟩
theorem wpDet_read {Q : Act → Prop} {i : Nat} {a : Act} {o : Oper} {l : List Oper} (v : Value) (hk : (i == k) = false) (hd : (o.looksAt ops).contains d = true)
    (h1 : ∀ w u, C w → Good u w → (execOp (a.put (some d) u).eval o).run P w = .ok (.value v) w) (h2 : wpDet P ops C k d Good Q l (i + 1) (a.put o.dst v)) : wpDet P ops C k d Good Q (o :: l) i a := by
  unfold wpDet
  rw [if_neg (by simpa using hk), if_pos hd]
  exact ⟨v, h1, h2⟩
/-- A region that draws its order, in which one operation makes memory: walked once, in the order of the text. -/
theorem wp_region_det {id : Nat} {Q : Exit → Act → World → Prop} {a : Act} {w0 : World} {l : List Oper} (k d : Nat) (Good : Value → World → Prop) (hm : P.follows .mixedOrders = true) (hB : detB l.toArray k d = true) (hd : d < a.tmps.size)
    (hG : ∀ u w w', Good u w → Below w.heap.size w w' → Good u w')
    (h : wpDet P l.toArray (Cls w0) k d Good (fun a' => ∀ u w', Cls w0 w' → Good u w' → Q .normal (a'.put (some d) u) w') l 0 a) : (Code.region id l.toArray true).wp P Q a w0 := by
  obtain ⟨F, hL, hQ⟩ := lex_of _ _ _ h
  have hL' : Lex P l.toArray (Cls w0) k d Good l.toArray.toList 0 a F := hL
  refine wp_region_any hm (det_any (DetB.of hB) (fun w w' hw hb => cls_below.2 ((cls_below.1 hw).trans (hb.mono (cls_below.1 hw).size))) hG hL' hd hQ _ _ _ _ (Nat.le_trans (List.length_filter_le _ _) (by simp)) ?_)
  obtain ⟨h1, h2, _⟩ := lex_stay _ _ _ _ hL'
  exact {
    size := by simp
    cls := ⟨⟨w0.drawn + 1, #[]⟩, by simp [grow, redrawn]; rfl⟩
    len := h1.symm
    dfr := h2.symm
    wr := fun j o t hj ho hjk hl => by simp [Array.getD] at hl
    un := fun t _ _ => rfl
    sp := fun hl => by simp [Array.getD] at hl }
end
end Go.Proofs.YtbkkgkmllplbaaaDoor
