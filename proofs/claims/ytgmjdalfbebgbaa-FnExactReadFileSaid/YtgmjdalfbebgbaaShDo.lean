/- What a change does to the program's shelf. -/
import Derived.Test.YtgmjdalfbebgbaaChg
import Derived.Test.YtgmjdalfbebgbaaShAdd
namespace Go.Proofs.Ytgmjdalfbebgbaa
open Go.ChangeShapes Go.WideShapes Go.ChangeAt Go.RowKit Go.Maps
set_option linter.unusedVariables false
set_option linter.unusedSimpArgs false
set_option maxRecDepth 100000

theorem named_size : ∀ h : 111 < (Try.prog).types.size, ((Try.prog).types[111]'h).size = 1 := fun h => by
  have : (Try.prog).types[111]? = some ((Try.prog).types[111]'h) := Array.getElem?_eq_getElem h
  have h2 : ((Try.prog).types[111]?).map (·.size) = some 1 := by kernel_rfl
  rw [this] at h2
  simpa using h2
theorem file_c (name : ByteArray) (w : World) : Calls Try.prog 136 #[.agg #[.string name]] w fun e w' => e = .returned (.string name) ∧ Below w.heap.size w w' := by
  have B1 : Below w.heap.size w (w.alloc (.cells #[.string name] 111)) := below_new _ _
  go_enter Try.func136, Try.ntmps136
  go_wp2_with fail
  go_returns
  exact ⟨rfl, B1⟩
theorem asA_yes (v : Value) (W : World) : (Instr.typeAssert (.iface 113 v) 78 113 true).run Try.prog W = .ok (.tuple #[v, .bool true]) W := by kernel_rfl
theorem asR_yes (v : Value) (W : World) : (Instr.typeAssert (.iface 115 v) 78 115 true).run Try.prog W = .ok (.tuple #[v, .bool true]) W := by kernel_rfl
theorem asD_yes (v : Value) (W : World) : (Instr.typeAssert (.iface 117 v) 78 117 true).run Try.prog W = .ok (.tuple #[v, .bool true]) W := by kernel_rfl
theorem asA_noR (v : Value) (W : World) : (Instr.typeAssert (.iface 115 v) 78 113 true).run Try.prog W = .ok (.tuple #[.agg #[.string ⟨#[]⟩, .string ⟨#[]⟩], .bool false]) W := by kernel_rfl
theorem asA_noD (v : Value) (W : World) : (Instr.typeAssert (.iface 117 v) 78 113 true).run Try.prog W = .ok (.tuple #[.agg #[.string ⟨#[]⟩, .string ⟨#[]⟩], .bool false]) W := by kernel_rfl
theorem asR_noD (v : Value) (W : World) : (Instr.typeAssert (.iface 117 v) 78 115 true).run Try.prog W = .ok (.tuple #[.agg #[.string ⟨#[]⟩, .string ⟨#[]⟩], .bool false]) W := by kernel_rfl
theorem below_drewS (w : World) : Below w.heap.size w w.drew := ⟨rfl, rfl, rfl, Nat.le_refl _, fun _ _ => rfl⟩
theorem step_append_run {P : Program} {ops : Array Oper} {o : Oper} {a : Act} {w : World} {K : Act → World → Prop} {Q : Exit → Act → World → Prop} {E : Prop} (hgd : o.guard = none) (s x : Operand) (t u : TypeId)
    (ho : o.op = .call { callee := .builtin .append, args := #[s, x], argTypes := #[t, u] }) {v z v' : Value} {w' : World} (hs : a.eval s = v) (hx : a.eval x = z)
    (hrun : (Builtin.append_ #[t, u] o.type #[v, z]).run P w = .ok v' w') (h : K (a.put o.dst v') w') :
    if Region.wanted o (yielded ops a.tmps) = true then Oper.wp P o a w K Q else E := by
  have hw : Region.wanted o (yielded ops a.tmps) = true := by simp [Region.wanted, hgd]
  rw [if_pos hw]
  unfold Oper.wp
  simp [execOp, ho, resolve, invoke, builtin, hs, hx, hrun, Result.andThen]
  exact h
/-- What is left of the shelf. -/
def DidSh (base b : Nat) (W : World) (told : Bool) (l : List Fl) : Ending → World → Prop := fun e w' => e = .returned (.bool told) ∧ ∃ L, L.map Sh.fl = l ∧ ShMap base w' b L ∧ Below base W w'
theorem below_of {base : Nat} {w w' : World} (hb : base ≤ w.heap.size) (h : Below w.heap.size w w') : Below base w w' := h.mono hb
set_option maxHeartbeats 4000000 in
theorem do_add (base : Nat) (L : List Sh) (b : Nat) (name data : ByteArray) (w : World) (h : ShMap base w b L) (hbase : base ≤ w.heap.size) (hn : name.size ≤ 1099511627776) (hd : data.size ≤ 1099511627776) (hL : L.length ≤ 2097152) (hold : ∀ e ∈ L, e.data.size ≤ 1099511627776) :
    Calls Try.prog 50 #[.map (some b), .iface 113 (.agg #[.string name, .string data])] w (DidSh base b w true (putF (L.map Sh.fl) ⟨name, oldV L name.toList ++ data⟩)) := by
  have hN := named_size
  have HF := Lib.hid (fun W => file_c name W)
  have hA := asA_yes
  go_enter Try.func50, Try.ntmps50
  go_wp2_with fail
  refine (HF.out _).mono ?_
  rintro e w1 ⟨rfl, hb1⟩
  have M1 := h.next hb1
  have hl := M1.look name (by unfold maxLen; omega) true
  obtain ⟨v, hv⟩ : ∃ v, atV L name.toList = v := ⟨_, rfl⟩
  obtain ⟨ok, hok⟩ : ∃ v, (shAt L name.toList).isSome = v := ⟨_, rfl⟩
  rw [hv, hok] at hl
  have hl' : (Instr.lookup 75 (.map (some b)) (.string name) true).run Try.prog w1 = .ok (.tuple #[v, .bool ok]) w1 := hl
  have Z := blk_new w1 (.cells #[.string name, .string data] 113)
  have M2 := (M1.next (below_new w1 (.cells #[.string name, .string data] 113))).next (below_drewS _)
  have B2 : Below base w (w1.alloc (.cells #[.string name, .string data] 113)).drew := below_of hbase (grow_next (grow_next hb1 (below_new w1 (.cells #[.string name, .string data] 113))) (below_drewS _))
  have Zd : (w1.alloc (.cells #[.string name, .string data] 113)).drew.heap[w1.heap.size]? = some (.cells #[.string name, .string data] 113) := Z
  obtain ⟨v', wa, wb, L', hap, hup, hkeep, hL', M3, B3⟩ := M2.add 57 (Nat.le_trans hbase B2.size) name data hn hd hL hold
  rw [hv] at hap
  have Za := hkeep _ _ _ Zd (by decide)
  have c0 := blk_cell (k := 0) Zd rfl
  have c1 := blk_cell (k := 1) Zd rfl
  have a0 := blk_cell (k := 0) Za rfl
  have a1 := blk_cell (k := 1) Za rfl
  have B4 : Below base w wb := B2.trans B3
  clear hv hok hl h M1 M2 hb1 hkeep B2 B3 hold hn hd hL
  go_upto_region 5 with fail
  obtain ⟨W, hW⟩ : ∃ W, W = w1.alloc (.cells #[.string name, .string data] 113) := ⟨_, rfl⟩
  rw [← hW] at Z Zd hap c0 c1
  rw [← hW]
  clear hW hl' Z
  have HAP := Lib.hid hap
  clear hap
  go_region_law (refine step_append_run rfl _ _ _ _ rfl (by simp [Act.eval, Act.put]) (by simp [Act.eval, Act.put]) HAP.out ?_)
  all_goals
    go_wp2_with fail
    go_returns
    exact ⟨rfl, L', hL', M3, B4⟩
theorem two_cellsS {W : World} {b : Nat} {x0 x1 : Value} {T : TypeId} (e : W.heap[b]? = some (.cells #[x0, x1] T)) : W.cell? ⟨b, 0, none⟩ = some x0 ∧ W.cell? ⟨b, 1, none⟩ = some x1 := ⟨blk_cell e rfl, blk_cell e rfl⟩
theorem box_not_map {w : World} {b p n : Nat} {c : Array Value} {t : TypeId} {D : DataW Unit} (h : w.ownsMap Try.prog 9 shR b n D) (hp : w.heap[p]? = some (.cells c t)) : p ≠ b := fun e => by
  obtain ⟨es, clock, h1, _⟩ := h
  rw [e, h1] at hp
  cases hp
set_option maxHeartbeats 4000000 in
theorem do_rem (base : Nat) (L : List Sh) (b : Nat) (name : ByteArray) (w : World) (h : ShMap base w b L) (hbase : base ≤ w.heap.size) (hn : name.size ≤ 1099511627776) :
    Calls Try.prog 50 #[.map (some b), .iface 117 (.agg #[.string name])] w (DidSh base b w (shAt L name.toList).isSome (cutF (L.map Sh.fl) name.toList)) := by
  have hN := named_size
  have HF := Lib.hid (fun W => file_c name W)
  have hA := asA_noD
  have hR := asR_noD
  have hD := asD_yes
  go_enter Try.func50, Try.ntmps50
  go_wp2_with fail
  refine (HF.out _).mono ?_
  rintro e w1 ⟨rfl, hb1⟩
  have M1 := h.next hb1
  have hl := M1.look name (by unfold maxLen; omega) true
  obtain ⟨v, hv⟩ : ∃ v, atV L name.toList = v := ⟨_, rfl⟩
  obtain ⟨ok, hok⟩ : ∃ v, (shAt L name.toList).isSome = v := ⟨_, rfl⟩
  have HOK := Lib.hid hok
  rw [hv, hok] at hl
  have hl' : (Instr.lookup 75 (.map (some b)) (.string name) true).run Try.prog w1 = .ok (.tuple #[v, .bool ok]) w1 := hl
  have M2 := M1.next (below_new w1 (.cells #[.string name] 117))
  have B2 : Below base w (w1.alloc (.cells #[.string name] 117)) := below_of hbase (grow_next hb1 (below_new w1 (.cells #[.string name] 117)))
  obtain ⟨w3, hrun, hg, M3, B3⟩ := M2.del 0 (Nat.le_trans hbase B2.size) name hn
  have c0 := blk_cell (k := 0) (blk_new w1 (.cells #[.string name] 117)) rfl
  have B4 : Below base w w3 := B2.trans B3
  have HCF := Lib.hid (cutS_fl L name.toList)
  clear hv hok hl h M1 M2 hb1 B2 B3 hn hg
  go_wp2_with fail
  go_returns
  exact ⟨by rw [HOK.out]; rfl, _, HCF.out, M3, B4⟩
def renV (l : List Fl) (k : List UInt8) (dst : ByteArray) (o : Option Sh) : List Fl := match o with | some e => putF (cutF l k) ⟨dst, e.data⟩ | none => l
set_option maxHeartbeats 4000000 in
theorem do_ren (base : Nat) (L : List Sh) (b : Nat) (name dst : ByteArray) (w : World) (h : ShMap base w b L) (hbase : base ≤ w.heap.size) (hn : name.size ≤ 1099511627776) (hd : dst.size ≤ 1099511627776) (hL : L.length ≤ 2097152) (o : Option Sh) (hc : shAt L name.toList = o) :
    Calls Try.prog 50 #[.map (some b), .iface 115 (.agg #[.string name, .string dst])] w (DidSh base b w o.isSome (renV (L.map Sh.fl) name.toList dst o)) := by
  have hN := named_size
  have HF := Lib.hid (fun W => file_c name W)
  have hA := asA_noR
  have hR := asR_yes
  go_enter Try.func50, Try.ntmps50
  go_wp2_with fail
  refine (HF.out _).mono ?_
  rintro e w1 ⟨rfl, hb1⟩
  have M1 := h.next hb1
  have hl := M1.look name (by unfold maxLen; omega) true
  have M2 := M1.next (below_new w1 (.cells #[.string name, .string dst] 115))
  have B2 : Below base w (w1.alloc (.cells #[.string name, .string dst] 115)) := below_of hbase (grow_next hb1 (below_new w1 (.cells #[.string name, .string dst] 115)))
  have Z := blk_new w1 (.cells #[.string name, .string dst] 115)
  obtain ⟨c0, c1⟩ := two_cellsS Z
  cases o with
  | none =>
    have hat : atV L name.toList = .slice none 0 0 := by unfold atV; rw [hc]
    rw [hat, hc] at hl
    have hl' : (Instr.lookup 75 (.map (some b)) (.string name) true).run Try.prog w1 = .ok (.tuple #[.slice none 0 0, .bool false]) w1 := hl
    clear hat hl hc
    go_wp2_with fail
    go_returns
    exact ⟨rfl, L, rfl, M2, B2⟩
  | some e =>
    have hat : atV L name.toList = e.val := by unfold atV; rw [hc]
    rw [hat, hc] at hl
    obtain ⟨v, hv⟩ : ∃ v, e.val = v := ⟨_, rfl⟩
    rw [hv] at hl
    have hl' : (Instr.lookup 75 (.map (some b)) (.string name) true).run Try.prog w1 = .ok (.tuple #[v, .bool true]) w1 := hl
    have hsl := M2.rows e (shAt_some hc).1
    obtain ⟨w3, hrun, hg, M3, B3⟩ := M2.del 0 (Nat.le_trans hbase B2.size) name hn
    have hsl3 := hsl.grown hg (fun g hg2 e2 => M2.hd_ne (shAt_some hc).1 (by rw [← val_own, hg2]; exact e2.symm))
    have Z3 := (hg.block w1.heap.size (Array.getElem?_eq_some_iff.1 Z).1 (fun e => box_not_map M2.own Z (by simpa using e))).trans Z
    obtain ⟨w4, L', hup, hL', M4, B4⟩ := M2.ren M3 (Nat.le_trans hbase (Nat.le_trans B2.size B3.size)) hc dst hd hL hsl3
    rw [hv] at hup
    obtain ⟨d0, d1⟩ := two_cellsS Z3
    have B5 : Below base w w4 := (B2.trans B3).trans B4
    clear hat hv hl hc M1 M2 M3 hb1 B2 B3 B4 hsl hsl3 Z Z3 hg h
    go_wp2_with fail
    go_returns
    exact ⟨rfl, L', hL', M4, B5⟩
/-- An op of its form, done. -/
theorem do_c (base : Nat) (L : List Sh) (b : Nat) (o : Dp) (w : World) (h : ShMap base w b L) (hbase : base ≤ w.heap.size) (hf : formV o = true) (hd : o.data.size ≤ 1099511627776) (hL : L.length ≤ 2097152) (hold : ∀ e ∈ L, e.data.size ≤ 1099511627776) :
    Calls Try.prog 50 #[.map (some b), chV o] w (DidSh base b w (toldV (L.map Sh.fl) o) (doneV (L.map Sh.fl) o)) := by
  unfold formV at hf
  rw [Bool.and_eq_true] at hf
  obtain ⟨hn, hf⟩ := hf
  have hn := (nmOk_iff.1 hn).2
  have hat : flAt (L.map Sh.fl) o.key = (shAt L o.name.toList).map Sh.fl := shAt_fl L _
  unfold chV toldV doneV
  rw [hat]
  by_cases k1 : o.kind = 1
  · rw [if_pos k1, decide_eq_true k1, Bool.true_or]
    have := do_add base L b o.name o.data w h hbase (by omega) hd hL hold
    unfold oldV at this
    cases hc : shAt L o.name.toList with
    | none =>
      rw [hc] at this
      simp only [Option.map_none, if_pos k1]
      have e : (ByteArray.empty ++ o.data) = o.data := ByteArray.empty_append
      rw [e] at this
      exact this
    | some e =>
      rw [hc] at this
      simp only [Option.map_some, if_pos k1]
      exact this
  · rw [if_neg k1, decide_eq_false k1, Bool.false_or]
    rw [if_neg k1] at hf
    by_cases k2 : o.kind = 2
    · rw [if_pos k2]
      rw [if_pos k2, Bool.and_eq_true] at hf
      have ht := (nmOk_iff.1 hf.1).2
      have := do_ren base L b o.name o.to w h hbase (by omega) (by omega) hL _ rfl
      cases hc : shAt L o.name.toList with
      | none =>
        rw [hc] at this
        simp only [Option.map_none, if_neg k1]
        exact this
      | some e =>
        rw [hc] at this
        simp only [Option.map_some, if_neg k1, if_pos k2]
        exact this
    · rw [if_neg k2]
      have := do_rem base L b o.name w h hbase (by omega)
      cases hc : shAt L o.name.toList with
      | none =>
        rw [hc] at this
        simp only [Option.map_none, if_neg k1]
        have e : cutF (L.map Sh.fl) o.name.toList = L.map Sh.fl := by
          unfold cutF
          refine List.filter_eq_self.2 fun f hf2 => ?_
          obtain ⟨s, hs, rfl⟩ := List.mem_map.1 hf2
          have := shAt_none hc s hs
          show (!(s.key == o.name.toList)) = true
          simpa using this
        rw [e] at this
        exact this
      | some e =>
        rw [hc] at this
        simp only [Option.map_some, if_neg k1, if_neg k2]
        exact this
end Go.Proofs.Ytgmjdalfbebgbaa
