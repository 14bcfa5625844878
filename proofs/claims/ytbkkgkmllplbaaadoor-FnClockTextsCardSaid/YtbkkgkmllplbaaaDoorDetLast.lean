/- The same where one operation more, behind all others, writes into what was made. -/
import Derived.Test.YtbkkgkmllplbaaaDoorDet
namespace Go.Proofs.YtbkkgkmllplbaaaDoor
open Go.RowKit Go.Sort
set_option linter.unusedVariables false
set_option linter.unusedSimpArgs false
section
variable {P : Program} {ops : Array Oper} {C : World → Prop} {k : Nat} {d : Nat} {Good : Value → World → Prop}
theorem takeL {m j : Nat} {o : Oper} (h : (ops.toList.take m)[j]? = some o) : ops[j]? = some o := by
  by_cases hj : j < m
  · rw [List.getElem?_take_of_lt hj] at h
    simpa using h
  · rw [List.getElem?_take_eq_none (by omega)] at h
    cases h
theorem inv_last {m : Nat} {ol : Oper} {a F : Act} {listed : Array Bool} {b : Act} {w : World} (hB : DetB ops k d) (hFU : ∀ (t : Nat), (∀ (j : Nat) (o : Oper), ops[j]? = some o → j ≠ k → o.dst ≠ some t) → F.tmps[t]? = a.tmps[t]?) (hd : d < F.tmps.size)
    (h : Inv ops C k d Good a F listed b w) (hm : ops[m]? = some ol) (hmd : ol.dst = none) (hkm : k ≠ m) (hall : ∀ i, i < ops.size → i ≠ m → listed.getD i true = true) : b = F.put (some d) (b.tmps.getD d undef) ∧ Good (b.tmps.getD d undef) w := by
  obtain ⟨ok, hk, hkd, _⟩ := hB.spec
  have hks : k < ops.size := (Array.getElem?_eq_some_iff.1 hk).1
  have hl : ∀ i, i < ops.size → i ≠ m → listed.getD i false = true := fun i hi hne => by rw [← getD_tf (by rw [h.size]; exact hi)]; exact hall i hi hne
  refine ⟨?_, h.sp (hl k hks hkm)⟩
  have e : b.tmps = (F.put (some d) (b.tmps.getD d undef)).tmps := by
    apply Array.ext_getElem?
    intro t
    by_cases htd : t = d
    · subst htd
      rw [put_at hd, Array.getD_eq_getD_getElem?]
      cases hb : b.tmps[t]? with
      | none => exact absurd (Array.getElem?_eq_none_iff.1 hb) (by have := h.len; omega)
      | some u => rfl
    · rw [put_same (by simpa using fun e => htd e.symm)]
      by_cases hw : ∃ (j : Nat) (o : Oper), ops[j]? = some o ∧ o.dst = some t
      · obtain ⟨j, o, hj, ho⟩ := hw
        have hjk : j ≠ k := fun e => by
          subst e
          rw [hk] at hj
          obtain rfl := Option.some.inj hj
          rw [hkd] at ho
          exact htd (Option.some.inj ho).symm
        have hjm : j ≠ m := fun e => by
          subst e
          rw [hm] at hj
          obtain rfl := Option.some.inj hj
          rw [hmd] at ho
          cases ho
        exact h.wr j o t hj ho hjk (hl j (Array.getElem?_eq_some_iff.1 hj).1 hjm)
      · rw [h.un t htd (fun j o hj ho => absurd ⟨j, o, hj, ho⟩ hw), hFU t (fun j o hj _ ho => hw ⟨j, o, hj, ho⟩)]
  have e2 : b.defers = (F.put (some d) (b.tmps.getD d undef)).defers := by rw [put_defers, h.dfr]
  cases b with
  | mk t df =>
    generalize hX : F.put (some d) _ = X at e e2 ⊢
    cases X with
    | mk t2 df2 =>
      dsimp only at e e2
      rw [e, e2]
theorem det_any_last {a F : Act} {Q : Exit → Act → World → Prop} (hB : DetB ops k d) (hC : ∀ w w', C w → Below w.heap.size w w' → C w') (hG : ∀ u w w', Good u w → Below w.heap.size w w' → Good u w')
    {m : Nat} {ol : Oper} (hm : ops[m]? = some ol) (hms : m + 1 = ops.size) (hmd : ol.dst = none) (hmg : ol.guard = none) (hmw : ∀ i, i < m → ∃ e ∈ ol.after, Region.binds .any e = true ∧ e.on = i) (hkm : k < m)
    (hL : Lex P ops C k d Good (ops.toList.take m) 0 a F) (hd : d < a.tmps.size) (hQ : ∀ u w, C w → Good u w → ∃ w', (execOp (F.put (some d) u).eval ol).run P w = .ok .skip w' ∧ Q .normal (F.put (some d) u) w') :
    ∀ (fuel : Nat) (listed : Array Bool) (b : Act) (w : World), unl ops listed ≤ fuel → listed.getD m false = false → Inv ops C k d Good a F listed b w → wpAny P .any ops Q fuel listed b w := by
  obtain ⟨hF1, hF2, hF3⟩ := lex_stay _ _ _ _ hL
  have hFU : ∀ (t : Nat), (∀ (j : Nat) (o : Oper), ops[j]? = some o → j ≠ k → o.dst ≠ some t) → F.tmps[t]? = a.tmps[t]? := fun t ht => hF3 t (fun j o hj hne => ht j o (takeL hj) (by omega))
  have hdF : d < F.tmps.size := by omega
  obtain ⟨ok, hok, hkd, hkg⟩ := hB.spec
  have hks : k < ops.size := (Array.getElem?_eq_some_iff.1 hok).1
  have lastOf : ∀ {j : Nat} {o : Oper}, ops[j]? = some o → j ≠ m → (ops.toList.take m)[j]? = some o := fun {j o} hj hne => by
    have := (Array.getElem?_eq_some_iff.1 hj).1
    rw [List.getElem?_take_of_lt (by omega)]
    simpa using hj
  intro fuel
  induction fuel with
  | zero =>
    intro listed b w hu hlm h
    have h0 : (List.range ops.size).filter (fun i => !listed.getD i true) = [] := List.eq_nil_of_length_eq_zero (by unfold unl at hu; omega)
    have := List.filter_eq_nil_iff.1 h0 m (List.mem_range.2 (by omega))
    rw [getD_tf (by rw [h.size]; omega), hlm] at this
    exact absurd rfl this
  | succ fuel ih =>
    intro listed b w hu hlm h
    have hnr : Region.ready .any ops listed ≠ [] := fun hr => by
      have := all_listed hB h.size hr m (by omega)
      rw [getD_tf (by rw [h.size]; omega), hlm] at this
      exact absurd this (by decide)
    refine ⟨fun hr => absurd hr hnr, fun i hi => ?_⟩
    obtain ⟨hun, oi, hoi, hwait⟩ := mem_ready.1 hi
    have hil : i < ops.size := (Array.getElem?_eq_some_iff.1 hoi).1
    have hils : i < listed.size := by rw [h.size]; exact hil
    have hunf : listed.getD i false = false := by rw [← getD_tf hils]; exact hun
    by_cases him : i = m
    · subst him
      rw [hm] at hoi
      obtain rfl := Option.some.inj hoi
      have hall : ∀ j, j < ops.size → j ≠ i → listed.getD j true = true := fun j hj hne => by
        obtain ⟨e, he, hb, rfl⟩ := hmw j (by omega)
        rw [getD_tf (by rw [h.size]; exact hj)]
        exact hwait e he hb
      obtain ⟨e1, e2⟩ := inv_last hB hFU hdF h hm hmd (by omega) hall
      have hw : Region.wanted ol (yielded ops b.tmps) = true := by simp [Region.wanted, hmg]
      obtain ⟨w', hrun, hq⟩ := hQ _ w h.cls e2
      unfold wpOp
      rw [hm]
      dsimp only
      rw [if_pos hw]
      left
      unfold Oper.wp
      rw [← e1] at hrun hq
      rw [hrun]
      show wpAny P .any ops Q fuel (listed.setIfInBounds i true) (b.put ol.dst undef) w'
      rw [hmd]
      have hready : Region.ready .any ops (listed.setIfInBounds i true) = [] := by
        apply List.eq_nil_iff_forall_not_mem.2
        intro j hj
        obtain ⟨h0, o, ho, _⟩ := mem_ready.1 hj
        have hjl := (Array.getElem?_eq_some_iff.1 ho).1
        by_cases hji : j = i
        · subst hji
          rw [getD_set_at hils] at h0
          cases h0
        · rw [getD_set_ne true (Ne.symm hji), hall j hjl hji] at h0
          cases h0
      cases fuel with
      | zero => exact ⟨hready, hq⟩
      | succ n => exact ⟨fun _ => hq, fun j hj => by rw [hready] at hj; cases hj⟩
    have hmi : (listed.setIfInBounds i true).getD m false = false := by rw [getD_set_ne false him]; exact hlm
    obtain ⟨f, v, hOb, hfs, hf1, hf2⟩ := lex_at _ _ _ _ hL i oi (lastOf hoi him)
    rw [Nat.zero_add] at hOb hf2
    have hlook : ∀ t ∈ oi.looksAt ops, t ≠ d → b.tmps[t]? = f.tmps[t]? := fun t ht htd => by
      rw [hf1 t (fun j' o' hle hj' _ hd' => by
        have := (hB.waits i j' oi o' t hoi (takeL hj') hd' ht).1
        omega)]
      by_cases hw : ∃ (j : Nat) (o : Oper), ops[j]? = some o ∧ o.dst = some t
      · obtain ⟨j, o, hj, ho⟩ := hw
        obtain ⟨_, e, he, hb, rfl⟩ := hB.waits i j oi o t hoi hj ho ht
        refine h.wr e.on o t hj ho (fun e2 => ?_) (hwait e he hb)
        rw [e2, hok] at hj
        obtain rfl := Option.some.inj hj
        rw [hkd] at ho
        exact htd (Option.some.inj ho).symm
      · rw [h.un t htd (fun j o hj ho => absurd ⟨j, o, hj, ho⟩ hw), hFU t (fun j o hj _ ho => hw ⟨j, o, hj, ho⟩)]
    have hless : unl ops (listed.setIfInBounds i true) ≤ fuel := by
      have := cnt_less ops.size i (fun j => !listed.getD j true) (fun j => !(listed.setIfInBounds i true).getD j true) hil (by simp [hun]) (by rw [getD_set_at hils]; rfl) (fun j hj => by rw [getD_set_ne true (Ne.symm hj)])
      unfold unl at hu ⊢
      omega
    have hsz : (listed.setIfInBounds i true).size = ops.size := by rw [Array.size_setIfInBounds, h.size]
    -- where an operation other than the special one has yielded its value
    have next : i ≠ k → ∀ w', Below w.heap.size w w' → wpAny P .any ops Q fuel (listed.setIfInBounds i true) (b.put oi.dst v) w' := fun hik w' hb => by
      refine ih _ _ _ hless hmi ⟨hsz, hC _ _ h.cls hb, by rw [put_size, h.len], by rw [put_defers, h.dfr], fun j o t hj ho hjk hl => ?_, fun t htd hno => ?_, fun hl => ?_⟩
      · by_cases hji : j = i
        · subst hji
          rw [hoi] at hj
          obtain rfl := Option.some.inj hj
          rw [hf2 hjk t ho (fun j' o' hlt hj' _ hd' => hB.once j' j o' oi t (takeL hj') hoi ho (by omega) hd'), ho]
          exact put_eq (by rw [h.len, hfs])
        · rw [put_same (hB.once i j oi o t hoi hj ho hji)]
          exact h.wr j o t hj ho hjk (by rwa [getD_set_ne false (Ne.symm hji)] at hl)
      · have hne : oi.dst ≠ some t := fun hd' => by
          have := hno i oi hoi hd'
          rw [getD_set_at hils] at this
          cases this
        rw [put_same hne]
        refine h.un t htd (fun j o hj ho => ?_)
        have h2 := hno j o hj ho
        by_cases hji : j = i
        · subst hji; exact hunf
        · rwa [getD_set_ne false (Ne.symm hji)] at h2
      · have hne : oi.dst ≠ some d := hB.once i k oi ok d hoi hok hkd (Ne.symm hik)
        rw [getD_set_ne false hik] at hl
        have hs := h.sp hl
        rw [getD_of (put_same hne)]
        exact hG _ _ _ hs hb
    unfold wpOp
    rw [hoi]
    dsimp only
    by_cases hik : i = k
    · subst hik
      rw [hok] at hoi
      obtain rfl := Option.some.inj hoi
      have hw : Region.wanted ok (yielded ops b.tmps) = true := by simp [Region.wanted, hkg]
      rw [if_pos hw]
      left
      have hnd : ∀ t ∈ ok.looksAt ops, t ≠ d := fun t ht e => by
        subst e
        have := (hB.waits i i ok ok t hok hok hkd ht).1
        omega
      have hex := exec_same (ops := ops) (fun cs bb => hB.sel i ok cs bb hok) (fun t ht => hlook t ht (hnd t ht))
      obtain ⟨u, w', hrun, hb, hg⟩ := hOb.1 rfl w h.cls
      unfold Oper.wp
      rw [hex, hrun]
      show wpAny P .any ops Q fuel (listed.setIfInBounds i true) (b.put ok.dst u) w'
      rw [hkd]
      refine ih _ _ _ hless hmi ⟨hsz, hC _ _ h.cls hb, by rw [put_size, h.len], by rw [put_defers, h.dfr], fun j o t hj ho hjk hl => ?_, fun t htd hno => ?_, fun _ => ?_⟩
      · have hne : (some d : Option Nat) ≠ some t := by rw [← hkd]; exact hB.once i j ok o t hok hj ho hjk
        rw [put_same hne]
        exact h.wr j o t hj ho hjk (by rwa [getD_set_ne false (Ne.symm hjk)] at hl)
      · rw [put_same (by simpa using fun e => htd e.symm)]
        refine h.un t htd (fun j o hj ho => ?_)
        have h2 := hno j o hj ho
        by_cases hji : j = i
        · subst hji; exact hunf
        · rwa [getD_set_ne false (Ne.symm hji)] at h2
      · rw [Array.getD_eq_getD_getElem?, put_at (by rw [h.len]; exact hdF)]
        exact hg
    · by_cases hc : (oi.looksAt ops).contains d = true
      · have hg := hB.plain i oi hoi hc
        have hw : Region.wanted oi (yielded ops b.tmps) = true := by simp [Region.wanted, hg]
        rw [if_pos hw]
        left
        have hdl : d ∈ oi.looksAt ops := by simpa using hc
        obtain ⟨_, e, he, hb, hek⟩ := hB.waits i k oi ok d hoi hok hkd hdl
        have hgood := h.sp (by rw [← hek]; exact hwait e he hb)
        have hex : execOp b.eval oi = execOp (f.put (some d) (b.tmps.getD d undef)).eval oi := exec_same (ops := ops) (fun cs bb => hB.sel i oi cs bb hoi) (fun t ht => by
          by_cases htd : t = d
          · subst htd
            rw [put_at (by omega), Array.getD_eq_getD_getElem?]
            cases hbt : b.tmps[t]? with
            | none => exact absurd (Array.getElem?_eq_none_iff.1 hbt) (by have := h.len; omega)
            | some u => rfl
          · rw [put_same (by simpa using fun e => htd e.symm)]
            exact hlook t ht htd)
        have hrun := hOb.2.1 hik hc w _ h.cls hgood
        unfold Oper.wp
        rw [hex, hrun]
        exact next hik w (Below.refl _ _)
      · have hc' : (oi.looksAt ops).contains d = false := by simpa using hc
        have hnd : ∀ t ∈ oi.looksAt ops, t ≠ d := fun t ht e => by
          subst e
          exact hc (by simpa using ht)
        have hex := exec_same (ops := ops) (fun cs bb => hB.sel i oi cs bb hoi) (fun t ht => hlook t ht (hnd t ht))
        have hwn := wanted_same (ops := ops) (o := oi) (fun t ht => hlook t ht (hnd t ht))
        by_cases hw : Region.wanted oi (yielded ops b.tmps) = true
        · rw [if_pos hw]
          left
          have hq := hOb.2.2.1 hik hc' (by rw [← hwn]; exact hw) w h.cls
          unfold Oper.wp
          rw [hex]
          generalize (execOp f.eval oi).run P w = r at hq
          cases r with
          | ok n w' =>
            cases n <;> simp only [detUpon] at hq <;> simp only [Oper.upon]
            case value u =>
              obtain ⟨e1, e2⟩ := hq
              rw [e1, e2]
              exact next hik w (Below.refl _ _)
            case skip =>
              obtain ⟨e1, e2⟩ := hq
              rw [e1, ← e2]
              exact next hik w (Below.refl _ _)
            case enter g args =>
              obtain ⟨e1, hcall⟩ := hq
              rw [e1]
              refine hcall.mono fun e w'' ⟨he, hb⟩ => ?_
              subst he
              exact next hik w'' hb
          | halt x w' => simp only [detUpon] at hq
        · rw [if_neg hw]
          have hv := hOb.2.2.2 hik hc' (by rw [← hwn]; simpa using hw)
          rw [← hv]
          exact next hik w (Below.refl _ _)
/-- A list, the last apart. -/
inductive Snoc : List Oper → Oper → List Oper → Prop
  | one (o : Oper) : Snoc [] o [o]
  | cons (x : Oper) {l : List Oper} {o : Oper} {L : List Oper} : Snoc l o L → Snoc (x :: l) o (x :: L)
theorem Snoc.eq {l : List Oper} {o : Oper} {L : List Oper} (h : Snoc l o L) : L = l ++ [o] := by
  induction h with
  | one => rfl
  | cons x _ ih => rw [ih]; rfl
/-- The last operation waits for all others, and yields to no slot. -/
def lastB (l : List Oper) (o : Oper) (k : Nat) : Bool := o.dst.isNone && o.guard.isNone && decide (k < l.length) && (List.range l.length).all fun i => o.after.any fun e => Region.binds .any e && e.on == i
/-- A region that draws its order, in which one operation makes memory, and the last writes into it: walked once, in the order of the text. -/
theorem wp_region_det_last {id : Nat} {Q : Exit → Act → World → Prop} {a : Act} {w0 : World} (k d : Nat) (Good : Value → World → Prop) {l : List Oper} {o : Oper} {L : List Oper} (hl : Snoc l o L) (hm : P.follows .mixedOrders = true) (hB : detB L.toArray k d = true) (hE : lastB l o k = true) (hd : d < a.tmps.size)
    (hG : ∀ u w w', Good u w → Below w.heap.size w w' → Good u w')
    (h : wpDet P L.toArray (Cls w0) k d Good (fun a' => ∀ u w', Cls w0 w' → Good u w' → ∃ w'', (execOp (a'.put (some d) u).eval o).run P w' = .ok .skip w'' ∧ Q .normal (a'.put (some d) u) w'') l 0 a) : (Code.region id L.toArray true).wp P Q a w0 := by
  obtain rfl := hl.eq
  obtain ⟨F, hL, hQ⟩ := lex_of _ _ _ h
  unfold lastB at hE
  simp only [Bool.and_eq_true, Option.isNone_iff_eq_none, decide_eq_true_eq] at hE
  obtain ⟨⟨⟨e1, e2⟩, e3⟩, e4⟩ := hE
  have hL' : Lex P (l ++ [o]).toArray (Cls w0) k d Good ((l ++ [o]).toArray.toList.take l.length) 0 a F := by
    rw [show (l ++ [o]).toArray.toList.take l.length = l by simp]
    exact hL
  refine wp_region_any hm (det_any_last (m := l.length) (ol := o) (DetB.of hB) (fun w w' hw hb => cls_below.2 ((cls_below.1 hw).trans (hb.mono (cls_below.1 hw).size))) hG (by simp) (by simp) e1 e2 (fun i hi => ?_) e3 hL' hd hQ _ _ _ _ (Nat.le_trans (List.length_filter_le _ _) (by simp)) (by simp [Array.getD]) ?_)
  · have h4 := List.all_eq_true.1 e4 i (List.mem_range.2 hi)
    obtain ⟨e, he, hb⟩ := Array.any_eq_true'.1 h4
    simp only [Bool.and_eq_true, beq_iff_eq] at hb
    exact ⟨e, he, hb⟩
  obtain ⟨h1, h2, _⟩ := lex_stay _ _ _ _ hL'
  exact {
    size := by simp
    cls := ⟨⟨w0.drawn + 1, #[]⟩, by simp [grow, redrawn]; rfl⟩
    len := h1.symm
    dfr := h2.symm
    wr := fun j o t hj ho hjk hl => by simp [Array.getD] at hl
    un := fun t _ _ => rfl
    sp := fun hl => by simp [Array.getD] at hl }
end
end Go.Proofs.YtbkkgkmllplbaaaDoor
