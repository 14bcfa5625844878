/- Many come in two pieces: numbers alone. -/
import Derived.Test.YtckonbbdeohccaaAllMath
import Derived.Test.YtckonbbdeohccaaAppAny
namespace Go.Proofs.Ytckonbbdeohccaa
open Go.ChangeShapes Go.WideShapes Go.ChangeAt Go.RowKit
set_option linter.unusedVariables false
set_option linter.unusedSimpArgs false

theorem time_add (start gap : Int) (k j : Nat) : start + ((k + j : Nat) : Int) * gap = start + (k : Int) * gap + (j : Int) * gap := by
  rw [Int.natCast_add, Int.add_mul, Int.add_assoc]
theorem getD_drop (ids : List Int) (k j : Nat) : (ids.drop k).getD j 0 = ids.getD (k + j) 0 := by
  rw [List.getD_eq_getElem?_getD, List.getD_eq_getElem?_getD, List.getElem?_drop]
theorem getD_take {ids : List Int} {k j : Nat} (h : j < k) : (ids.take k).getD j 0 = ids.getD j 0 := by
  rw [List.getD_eq_getElem?_getD, List.getD_eq_getElem?_getD, List.getElem?_take, if_pos h]
theorem allC_split (l : List Cl) (ids : List Int) (start gap : Int) (k j : Nat) : allC (allC l ids start gap k) (ids.drop k) (start + (k : Int) * gap) gap j = allC l ids start gap (k + j) := by
  induction j with
  | zero => rfl
  | succ j ih => rw [← Nat.add_assoc, allC, allC, ih, getD_drop, time_add]
theorem allT_split (l : List Cl) (ids : List Int) (start gap : Int) (k j : Nat) : allT l ids start gap k ++ allT (allC l ids start gap k) (ids.drop k) (start + (k : Int) * gap) gap j = allT l ids start gap (k + j) := by
  induction j with
  | zero => rw [allT, List.append_nil]; rfl
  | succ j ih => rw [← Nat.add_assoc, allT, allT, ← List.append_assoc, ih, allC_split, getD_drop, time_add]
theorem allC_take (l : List Cl) (ids : List Int) (start gap : Int) (k j : Nat) (h : j ≤ k) : allC l (ids.take k) start gap j = allC l ids start gap j := by
  induction j with
  | zero => rfl
  | succ j ih => rw [allC, allC, ih (by omega), getD_take (by omega)]
theorem allT_take (l : List Cl) (ids : List Int) (start gap : Int) (k j : Nat) (h : j ≤ k) : allT l (ids.take k) start gap j = allT l ids start gap j := by
  induction j with
  | zero => rfl
  | succ j ih => rw [allT, allT, ih (by omega), allC_take _ _ _ _ _ _ (by omega), getD_take (by omega)]
theorem allOk_of {l : List Cl} (h : limOk l = true) {m : Nat} (hm : m ≤ 200) {gap : Int} (g0 : 0 ≤ gap) (g1 : gap ≤ 1000000) : allOk l m gap = true := by
  unfold allOk
  rw [h, decide_eq_true hm, inB_iff.2 ⟨g0, g1⟩]
  rfl
theorem allOk_no {l : List Cl} (h : limOk l = false) {m : Nat} {gap : Int} : allOk l m gap = false := by
  unfold allOk
  rw [h, Bool.false_and]
/-- In two pieces it is the same. -/
theorem two_pieces {l : List Cl} {ids : List Int} {start gap : Int} (h : limOk l = true) (hm : ids.length ≤ 200) (g0 : 0 ≤ gap) (g1 : gap ≤ 1000000) {k : Nat} (hk : k ≤ ids.length) :
    resA (resA l (ids.take k) start gap) (ids.drop k) (start + (k : Int) * gap) gap = resA l ids start gap ∧
    resT l (ids.take k) start gap ++ resT (resA l (ids.take k) start gap) (ids.drop k) (start + (k : Int) * gap) gap = resT l ids start gap ∧ (resT l ids start gap).length = ids.length ∧ limOk (resA l (ids.take k) start gap) = true := by
  have e1 : (ids.take k).length = k := by rw [List.length_take]; omega
  have e2 : (ids.drop k).length = ids.length - k := List.length_drop
  have hA : resA l (ids.take k) start gap = allC l ids start gap k := by
    unfold resA
    rw [if_pos (allOk_of h (by omega) g0 g1), e1, allC_take _ _ _ _ _ _ (Nat.le_refl _)]
  have hT : resT l (ids.take k) start gap = allT l ids start gap k := by
    unfold resT
    rw [if_pos (allOk_of h (by omega) g0 g1), e1, allT_take _ _ _ _ _ _ (Nat.le_refl _)]
  have hok := allC_ok h ids start gap k
  rw [hA, hT]
  refine ⟨?_, ?_, ?_, hok⟩
  · unfold resA
    rw [if_pos (allOk_of hok (by omega) g0 g1), if_pos (allOk_of h hm g0 g1), e2, allC_split]
    congr 1
    omega
  · unfold resT
    rw [if_pos (allOk_of hok (by omega) g0 g1), if_pos (allOk_of h hm g0 g1), e2, allT_split]
    congr 1
    omega
  · unfold resT
    rw [if_pos (allOk_of h hm g0 g1), allT_len]
theorem resA_no {l : List Cl} (h : limOk l = false) (ids : List Int) (start gap : Int) : resA l ids start gap = [] := by
  unfold resA
  rw [allOk_no h]
  rfl
theorem resT_no {l : List Cl} (h : limOk l = false) (ids : List Int) (start gap : Int) : resT l ids start gap = [] := by
  unfold resT
  rw [allOk_no h]
  rfl
/-- Parts of a row of numbers. -/
theorem IRow.nil_ {base : Nat} {W : World} {x : Option Addr} {cap : Nat} {l : List Int} (h : IRow base W x cap l) : x = none → cap = 0 ∧ l = [] := by
  rcases h.2 with ⟨e, e0⟩ | ⟨g, c, cur, e, _⟩
  · simp only [Value.slice.injEq] at e
    exact fun _ => ⟨e.2.2, List.eq_nil_of_length_eq_zero e0⟩
  · simp only [Value.slice.injEq] at e
    intro e2
    rw [e.1] at e2
    cases e2
theorem IRow.cap_ {base : Nat} {W : World} {x : Option Addr} {cap : Nat} {l : List Int} (h : IRow base W x cap l) : l.length ≤ cap ∧ cap ≤ maxLen := by
  rcases h.2 with ⟨e, e0⟩ | ⟨g, c, cur, e, hb, hg, a, b, _⟩
  · simp only [Value.slice.injEq] at e
    obtain ⟨_, _, rfl⟩ := e
    exact ⟨by omega, Nat.zero_le _⟩
  · simp only [Value.slice.injEq] at e
    obtain ⟨_, _, rfl⟩ := e
    exact ⟨a, b⟩
theorem IRow.own_ {base : Nat} {W : World} {x : Option Addr} {cap : Nat} {l : List Int} (h : IRow base W x cap l) : x = none ∨ ∃ g, x = some ⟨g, 0, none⟩ := by
  rcases h.2 with ⟨e, e0⟩ | ⟨g, c, cur, e, _⟩
  · simp only [Value.slice.injEq] at e; exact .inl e.1
  · simp only [Value.slice.injEq] at e; exact .inr ⟨g, e.1⟩
theorem IntsAt.take {B : Nat} {w : World} {x : Option Addr} {l : List Int} (h : IntsAt B w x l) (k : Nat) : IntsAt B w x (l.take k) := by
  rcases h with h | ⟨b, off, e, hlt, hc⟩
  · exact .inl (by simp [h])
  · exact .inr ⟨b, off, e, hlt, fun i v j z hi hj => hc i v j z (by
      rw [List.getElem?_take] at hi
      split at hi
      · exact hi
      · cases hi) hj⟩
theorem IntsAt.drop {B : Nat} {w : World} {x : Option Addr} {l : List Int} {c : Nat} (h : IntsAt B w x l) (hc : l.length ≤ c) (k : Nat) : IntsAt B w (if c = k then x else x.map (·.add k)) (l.drop k) := by
  by_cases e : c = k
  · exact .inl (List.drop_eq_nil_of_le (by omega))
  · rw [if_neg e]
    rcases h with h | ⟨b', off', e, hlt, hc⟩
    · exact .inl (by simp [h])
    · subst e
      refine .inr ⟨b', off' + k, ?_, hlt, fun i v j z hi hj => ?_⟩
      · simp only [Option.map_some, Addr.add]; split <;> simp_all
      · rw [List.getElem?_drop] at hi
        have := hc (k + i) v j z hi hj
        rwa [show off' + k + i * 1 + j = off' + (k + i) * 1 + j by omega]
theorem IRow.src {base : Nat} {W : World} {x : Option Addr} {cap : Nat} {l : List Int} (h : IRow base W x cap l) : SrcAt W (.slice x l.length cap) l.length 1 (l.map (Value.int .i64)) := by
  rcases h.own_ with e | ⟨g, e⟩
  · obtain ⟨e1, e2⟩ := h.nil_ e
    subst e e1 e2
    exact .inl ⟨rfl, rfl, rfl⟩
  · subst e
    refine .inr ⟨⟨g, 0, none⟩, cap, rfl, by simp, fun j u hj => ?_⟩
    rw [List.getElem?_map] at hj
    cases hz : l[j]? with
    | none => rw [hz] at hj; cases hj
    | some z =>
      rw [hz] at hj
      obtain ⟨g2, e2, _, _, hcell, _⟩ := h.at_ hz
      simp only [Option.some.injEq, Addr.mk.injEq] at e2
      obtain ⟨rfl, _⟩ := e2
      rw [show (⟨g, 0, none⟩ : Addr).add j = ⟨g, j, none⟩ by unfold Addr.add; split <;> simp_all, hcell]
      simpa using hj
theorem ints_one {l : List Int} : ∀ u ∈ l.map (Value.int .i64), u.oneCell' = true := by
  intro u hu
  obtain ⟨n, _, rfl⟩ := List.mem_map.1 hu
  rfl
theorem run_fromI {W : World} (x : Option Addr) (n cap k : Nat) (i : Int) (hi : i = (k : Int)) (hk : k ≤ n) (hc : n ≤ cap) :
    (Instr.sliceAt 35 (.slice x n cap) (some (.int .i64 i)) none none).run Try.prog W = .ok (.slice (if cap = k then x else x.map (·.add k)) (n - k) (cap - k)) W := by
  subst hi
  have h1 : (0 : Int) ≤ (k : Int) := by omega
  have h2 : (k : Int) ≤ (n : Int) := by omega
  have hs : ∀ W, (sizeOf 2).run Try.prog W = .ok 1 W := fun W => by kernel_rfl
  simp [go_sem, Try.underlying35, h1, h2, hs]
theorem run_uptoI {W : World} (x : Option Addr) (n cap k : Nat) (i : Int) (hi : i = (k : Int)) (hk : k ≤ n) (hc : n ≤ cap) :
    (Instr.sliceAt 35 (.slice x n cap) none (some (.int .i64 i)) none).run Try.prog W = .ok (.slice (if cap = 0 then x else x.map (·.add 0)) k cap) W := by
  subst hi
  have h1 : (0 : Int) ≤ (k : Int) := by omega
  have h2 : (k : Int) ≤ (cap : Int) := by omega
  have hs : ∀ W, (sizeOf 2).run Try.prog W = .ok 1 W := fun W => by kernel_rfl
  simp [go_sem, Try.underlying35, h1, h2, hs]
theorem map_add0 (x : Option Addr) (h : ∀ a, x = some a → a.spot = none) : x.map (·.add 0) = x := by
  cases x with
  | none => rfl
  | some a => simp [Addr.add]
theorem resA_50 (l : List Cl) (ids : List Int) (start gap : Int) : (resA l ids start gap).length ≤ 50 := by
  unfold resA
  split
  · rename_i h
    unfold allOk at h
    rw [Bool.and_eq_true] at h
    exact (limOk_iff.1 (allC_ok h.1 ids start gap _)).2.2
  · exact Nat.zero_le _
theorem resT_200 (l : List Cl) (ids : List Int) (start gap : Int) : (resT l ids start gap).length ≤ 200 := by
  unfold resT
  split
  · rename_i h
    unfold allOk at h
    rw [Bool.and_eq_true, Bool.and_eq_true] at h
    rw [allT_len]
    exact of_decide_eq_true h.2.1
  · exact Nat.zero_le _
theorem wpList_append_anyG {P : Program} {w : World} {ops : Array Oper} {rest : List Oper} {o : Oper} {a : Act} {Q : Exit → Act → World → Prop} (hgd : Region.wanted o (yielded ops a.tmps) = true) (s x : Operand) (t : TypeId)
    (ho : o.op = .call { callee := .builtin .append, args := #[s, x], argTypes := #[t, t] })
    (base : Nat) (e : TypeId) (i : TypeInfo) (z : Value) (size bytes : Nat) (ht : P.underlying t = some (.slice e)) (hi : P.info? e = some i) (hz : i.zero = some z)
    (hsize : i.size = size) (hby : i.bytes = bytes) (hzs : z.cells.size = size) (hsz : 0 < size)
    (v : Value) (n : Nat) (xs : List Value) (hs : a.eval s = v) (hown : w.ownsRow base e size v n xs)
    (src : Value) (m : Nat) (news : List Value) (hx : a.eval x = src) (hsrc : SrcAt w src m size news) (h1 : ∀ u ∈ news, u.oneCell' = true)
    (h63 : n + m ≤ maxLen) (hbytes : (n + m) * bytes ≤ 140737488355328) (hbase : base ≤ w.heap.size)
    (h : ∀ v' w', w'.ownsRow base e size v' (n + m) (xs ++ news) → w.grownBy w' v.ownBlock → wpList P ops Q rest (a.put o.dst v') w') : wpList P ops Q (o :: rest) a w :=
  wpList_step fun K hK => by
    rw [if_pos hgd]
    exact wp_append_any w s x t ho base e i z size bytes ht hi hz hsize hby hzs hsz v n xs hs hown src m news hx hsrc h1 h63 hbytes hbase (fun v' w' h2 h3 => hK _ _ (h v' w' h2 h3))
end Go.Proofs.Ytckonbbdeohccaa
