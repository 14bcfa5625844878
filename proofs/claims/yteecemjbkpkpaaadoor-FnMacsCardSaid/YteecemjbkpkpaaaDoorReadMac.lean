/- A packet read back from its text with its tag: the program's way and the reference's. -/
import Derived.Test.YteecemjbkpkpaaaDoorMacText
import Derived.Deep.Cut
namespace Go.Proofs.YteecemjbkpkpaaaDoor
open Go.ChangeShapes Go.WideShapes Go.ChangeAt Go.RowKit Go.Sort
set_option linter.unusedVariables false
set_option linter.unusedSimpArgs false
set_option maxRecDepth 100000

theorem grownP_below' {w w' : World} (h : w.grownBy w' none) : Below w.heap.size w w' := ⟨h.os, h.tape, h.output, h.size, fun k hk => h.block k hk (by simp)⟩
theorem infoPk : (Tryd.prog.info? 25).map (·.size) = some 11 := by kernel_rfl
theorem pk_one (q : Pk) : (#[.int .i64 q.leap, .int .i64 q.version, .int .i64 q.mode, .int .i64 q.stratum, .int .i64 q.poll, .int .i64 q.delay, .int .i64 q.disp, .int .i64 q.ref, .int .i64 q.orig, .int .i64 q.recv, .int .i64 q.xmit] : Array Value).all (·.oneCell') = true := by simp [Value.oneCell']
theorem zero_pk : (#[.int .i64 zeroPk.leap, .int .i64 zeroPk.version, .int .i64 zeroPk.mode, .int .i64 zeroPk.stratum, .int .i64 zeroPk.poll, .int .i64 zeroPk.delay, .int .i64 zeroPk.disp, .int .i64 zeroPk.ref, .int .i64 zeroPk.orig, .int .i64 zeroPk.recv, .int .i64 zeroPk.xmit] : Array Value) = #[.int .i64 0, .int .i64 0, .int .i64 0, .int .i64 0, .int .i64 0, .int .i64 0, .int .i64 0, .int .i64 0, .int .i64 0, .int .i64 0, .int .i64 0] := rfl
section
variable {P : Program}
/-- A whole struct loaded where the operation's guard says yes. -/
theorem wpList_load_rowW {ops : Array Oper} {rest : List Oper} {op : Oper} {a : Act} {w : World} {Q : Exit → Act → World → Prop} (hw : Region.wanted op (yielded ops a.tmps) = true) (ty : TypeId) (x : Operand) (ho : op.op = .load ty x)
    (b : Nat) (T : TypeId) (cells : Array Value) (d : TypeDesc) (hx : a.eval x = .pointer (some ⟨b, 0, none⟩))
    (hg : w.heap[b]? = some (.cells cells T (0, 0))) (hu : P.underlying ty = some d) (hd : (match d with | .struct _ | .array _ _ => true | _ => false) = true) (hi : (P.info? ty).map (·.size) = some cells.size)
    (h : wpList P ops Q rest (a.put op.dst (.agg cells)) w) : wpList P ops Q (op :: rest) a w :=
  wpList_step fun K hK => by
    rw [if_pos hw]
    unfold Oper.wp execOp
    simp only [ho, hx, Instr.loadAt, Instr.sureAddr, Sem.run_bind, Sem.run_pure, Result.andThen_ok, run_loadVar_row w b T ty cells (0, 0) d hg hu hd hi]
    exact hK _ _ h
end
/-- Is it the text of a packet with its tag by that key? -/
def rmOk (s k : ByteArray) : Bool := decide (48 ≤ s.size) && (rpOk (s.extract 0 48) && ((macV (rpPk (s.extract 0 48)) k).toList == s.toList))
def rmRes (s k : ByteArray) : Pk := bif rmOk s k then rpPk (s.extract 0 48) else zeroPk
theorem rm_short {s k : ByteArray} (h : s.size < 48) : rmOk s k = false := by
  unfold rmOk
  rw [decide_eq_false (by omega)]
  rfl
theorem rm_is (s k : ByteArray) (h : 48 ≤ s.size) : rmOk s k = (rpOk (s.extract 0 48) && ((macV (rpPk (s.extract 0 48)) k).toList == s.toList)) := by
  unfold rmOk
  rw [decide_eq_true h]
  rfl
theorem rm_size {s k : ByteArray} (h : s.size ≠ 80) : rmOk s k = false := by
  by_cases h48 : 48 ≤ s.size
  · rw [rm_is s k h48]
    have e : ((macV (rpPk (s.extract 0 48)) k).toList == s.toList) = false := by
      rw [beq_eq_false_iff_ne]
      intro e
      have e2 := congrArg ByteArray.size (toList_inj e)
      rcases macV_size (rpPk (s.extract 0 48)) k with h1 | h1
      · omega
      · rw [h1] at e2
        have : (⟨#[]⟩ : ByteArray).size = 0 := rfl
        omega
    rw [e, Bool.and_false]
  · exact rm_short (by omega)
set_option maxHeartbeats 4000000 in
theorem readMac_impl (s k : ByteArray) (hss : s.size ≤ 1048576) (hks : k.size ≤ 1048576) (w : World) (hT : ShaW w) :
    Calls Tryd.prog 9 #[.string s, .string k] w fun e w' => e = .returned (.tuple #[.agg #[.int .i64 ((rmRes s k)).leap, .int .i64 ((rmRes s k)).version, .int .i64 ((rmRes s k)).mode, .int .i64 ((rmRes s k)).stratum, .int .i64 ((rmRes s k)).poll, .int .i64 ((rmRes s k)).delay, .int .i64 ((rmRes s k)).disp, .int .i64 ((rmRes s k)).ref, .int .i64 ((rmRes s k)).orig, .int .i64 ((rmRes s k)).recv, .int .i64 ((rmRes s k)).xmit], .bool (rmOk s k)]) ∧ Below w.heap.size w w' := by
  have HU := Lib.hid Tryd.underlying25
  have Q0 := blk_new w (.cells #[.int .i64 zeroPk.leap, .int .i64 zeroPk.version, .int .i64 zeroPk.mode, .int .i64 zeroPk.stratum, .int .i64 zeroPk.poll, .int .i64 zeroPk.delay, .int .i64 zeroPk.disp, .int .i64 zeroPk.ref, .int .i64 zeroPk.orig, .int .i64 zeroPk.recv, .int .i64 zeroPk.xmit] 25)
  have g0 : w.grownBy (w.alloc (.cells #[.int .i64 zeroPk.leap, .int .i64 zeroPk.version, .int .i64 zeroPk.mode, .int .i64 zeroPk.stratum, .int .i64 zeroPk.poll, .int .i64 zeroPk.delay, .int .i64 zeroPk.disp, .int .i64 zeroPk.ref, .int .i64 zeroPk.orig, .int .i64 zeroPk.recv, .int .i64 zeroPk.xmit] 25)) none := World.grownBy_alloc _ _ none
  by_cases hl : s.size < 48
  · have hli : (s.size : Int) < 48 := by omega
    have e1 : rmOk s k = false := rm_short (by omega)
    have e2 : rmRes s k = zeroPk := by unfold rmRes; rw [e1]; rfl
    have HR := Lib.hid (And.intro e1 e2)
    clear e1 e2
    go_enter Tryd.func9, Tryd.ntmps9
    go_wp2_with fail
    go_returns
    exact ⟨by rw [HR.out.1, HR.out.2]; try rfl, grownP_below' g0⟩
  · have hli : ¬ (s.size : Int) < 48 := by omega
    have h48 : 48 ≤ s.size := by omega
    have h48i : (48 : Int) ≤ (s.size : Int) := by omega
    have HQ := rm_is s k h48
    have HQ2 : rmRes s k = bif rmOk s k then rpPk (s.extract 0 48) else zeroPk := rfl
    obtain ⟨x, hx⟩ : ∃ x, s.extract 0 48 = x := ⟨_, rfl⟩
    have hxs : x.size ≤ 1048576 := by rw [← hx, ByteArray.size_extract]; omega
    rw [hx] at HQ HQ2
    have HP : rpOk x = true → rpRes x = rpPk x := fun h => by unfold rpRes; rw [h]; rfl
    have HR0 : ∀ w : World, Calls Tryd.prog 20 #[.string x] w fun e w' => e = .returned (.tuple #[.agg #[.int .i64 ((rpRes x)).leap, .int .i64 ((rpRes x)).version, .int .i64 ((rpRes x)).mode, .int .i64 ((rpRes x)).stratum, .int .i64 ((rpRes x)).poll, .int .i64 ((rpRes x)).delay, .int .i64 ((rpRes x)).disp, .int .i64 ((rpRes x)).ref, .int .i64 ((rpRes x)).orig, .int .i64 ((rpRes x)).recv, .int .i64 ((rpRes x)).xmit], .bool (rpOk x)]) ∧ w.grownBy w' none := (fun w => readPacket_impl x hxs w)
    have HR := Lib.hid HR0
    clear HR0
    obtain ⟨p, hp⟩ : ∃ p, rpRes x = p := ⟨_, rfl⟩
    obtain ⟨b, hb⟩ : ∃ b, rpOk x = b := ⟨_, rfl⟩
    rw [hp, hb] at HR
    rw [hp, hb] at HP
    rw [hb] at HQ
    clear hp hb hxs
    have HM := Lib.hid (fun w h => macText_impl p k hks w h)
    have HQ := Lib.hid HQ
    have HQ2 := Lib.hid HQ2
    have hexr : s.extract 0 48 = x := hx
    clear hx
    go_enter Tryd.func9, Tryd.ntmps9
    go_wp2_with fail
    refine (HR.out _).mono ?_
    rintro e w1 ⟨rfl, g⟩
    have Q1 : w1.heap[w.heap.size]? = some (.cells #[.int .i64 zeroPk.leap, .int .i64 zeroPk.version, .int .i64 zeroPk.mode, .int .i64 zeroPk.stratum, .int .i64 zeroPk.poll, .int .i64 zeroPk.delay, .int .i64 zeroPk.disp, .int .i64 zeroPk.ref, .int .i64 zeroPk.orig, .int .i64 zeroPk.recv, .int .i64 zeroPk.xmit] 25) := (g.block _ (Array.getElem?_eq_some_iff.1 Q0).1 (by simp)).trans Q0
    have g1 : w.grownBy w1 none := grownP_trans g0 g
    have Q1a := blk_alloc Q1 (.cells #[.int .i64 p.leap, .int .i64 p.version, .int .i64 p.mode, .int .i64 p.stratum, .int .i64 p.poll, .int .i64 p.delay, .int .i64 p.disp, .int .i64 p.ref, .int .i64 p.orig, .int .i64 p.recv, .int .i64 p.xmit] 25)
    have QPa := blk_new w1 (.cells #[.int .i64 p.leap, .int .i64 p.version, .int .i64 p.mode, .int .i64 p.stratum, .int .i64 p.poll, .int .i64 p.delay, .int .i64 p.disp, .int .i64 p.ref, .int .i64 p.orig, .int .i64 p.recv, .int .i64 p.xmit] 25)
    have g1a : w.grownBy (w1.alloc (.cells #[.int .i64 p.leap, .int .i64 p.version, .int .i64 p.mode, .int .i64 p.stratum, .int .i64 p.poll, .int .i64 p.delay, .int .i64 p.disp, .int .i64 p.ref, .int .i64 p.orig, .int .i64 p.recv, .int .i64 p.xmit] 25)) none := grownP_trans g1 (World.grownBy_alloc _ _ none)
    clear g g0 Q0 HR Q1 g1
    cases b with
    | false =>
      have hr : rmOk s k = false := by rw [HQ.out]; rfl
      have hres : rmRes s k = zeroPk := by rw [HQ2.out, hr]; rfl
      have HR := Lib.hid (And.intro hr hres)
      clear hr hres HQ HQ2
      clear HM
      go_upto_region 5 with fail
      go_wp2_with (refine wpList_store_row rfl 25 (.tmp 4) (.tmp 27) rfl w.heap.size 25 #[.int .i64 zeroPk.leap, .int .i64 zeroPk.version, .int .i64 zeroPk.mode, .int .i64 zeroPk.stratum, .int .i64 zeroPk.poll, .int .i64 zeroPk.delay, .int .i64 zeroPk.disp, .int .i64 zeroPk.ref, .int .i64 zeroPk.orig, .int .i64 zeroPk.recv, .int .i64 zeroPk.xmit] #[.int .i64 zeroPk.leap, .int .i64 zeroPk.version, .int .i64 zeroPk.mode, .int .i64 zeroPk.stratum, .int .i64 zeroPk.poll, .int .i64 zeroPk.delay, .int .i64 zeroPk.disp, .int .i64 zeroPk.ref, .int .i64 zeroPk.orig, .int .i64 zeroPk.recv, .int .i64 zeroPk.xmit] rfl rfl Q1a infoPk rfl (pk_one _) ?_; intro w3 hw3)
      have R9 := setRow_heap' hw3.out Q1a
      have B9 := below_setRow' (grownP_below' g1a) (Nat.le_refl _) hw3.out
      refine bodyPost_ret (results_row_tmp rfl _ _ w.heap.size 25 #[.int .i64 zeroPk.leap, .int .i64 zeroPk.version, .int .i64 zeroPk.mode, .int .i64 zeroPk.stratum, .int .i64 zeroPk.poll, .int .i64 zeroPk.delay, .int .i64 zeroPk.disp, .int .i64 zeroPk.ref, .int .i64 zeroPk.orig, .int .i64 zeroPk.recv, .int .i64 zeroPk.xmit] _ rfl R9 HU.out rfl infoPk) rfl ?_
      exact ⟨by rw [HR.out.1, HR.out.2]; try rfl, B9⟩
    | true =>
      replace HP := HP rfl
      obtain ⟨y0, y1, y2, y3, y4, y5, y6, y7, y8, y9, y10⟩ := packet_cells QPa
      obtain ⟨m, hm⟩ : ∃ m, macV p k = m := ⟨_, rfl⟩
      rw [hm] at HM
      have HQ' : rmOk s k = (m.toList == s.toList) := by rw [HQ.out, ← HP, hm, Bool.true_and]
      have HQ2' : rmRes s k = bif rmOk s k then p else zeroPk := by rw [HQ2.out, ← HP]
      clear HQ HQ2 HP hm
      obtain ⟨c, hc⟩ : ∃ c, (m.toList == s.toList) = c := ⟨_, rfl⟩
      have hmc : (m.toList != s.toList) = !c := by rw [← hc]; rfl
      rw [hc] at HQ'
      cases c with
      | false =>
        have HR := Lib.hid (And.intro HQ' (show rmRes s k = zeroPk by rw [HQ2', HQ']; rfl))
        clear HQ' HQ2'
        go_upto_region 4 with fail
        go_wp2_with fail
        refine (HM.out _ (hT.next (grownP_below' g1a))).mono ?_
        rintro e w2 ⟨rfl, hb2⟩
        have Q2 := blk_next hb2 Q1a
        have QP := blk_next hb2 QPa
        have g2 : w.grownBy w2 none := grownP_trans g1a (grownP_below hb2)
        clear y0 y1 y2 y3 y4 y5 y6 y7 y8 y9 y10
        clear Q1a QPa g1a hb2 HM
        obtain ⟨y0, y1, y2, y3, y4, y5, y6, y7, y8, y9, y10⟩ := packet_cells QP
        clear hss
        go_upto_region 5 with fail
        go_wp2_with (refine wpList_store_row rfl 25 (.tmp 4) (.tmp 27) rfl w.heap.size 25 #[.int .i64 zeroPk.leap, .int .i64 zeroPk.version, .int .i64 zeroPk.mode, .int .i64 zeroPk.stratum, .int .i64 zeroPk.poll, .int .i64 zeroPk.delay, .int .i64 zeroPk.disp, .int .i64 zeroPk.ref, .int .i64 zeroPk.orig, .int .i64 zeroPk.recv, .int .i64 zeroPk.xmit] #[.int .i64 zeroPk.leap, .int .i64 zeroPk.version, .int .i64 zeroPk.mode, .int .i64 zeroPk.stratum, .int .i64 zeroPk.poll, .int .i64 zeroPk.delay, .int .i64 zeroPk.disp, .int .i64 zeroPk.ref, .int .i64 zeroPk.orig, .int .i64 zeroPk.recv, .int .i64 zeroPk.xmit] rfl rfl Q2 infoPk rfl (pk_one _) ?_; intro w3 hw3)
        have R9 := setRow_heap' hw3.out Q2
        have B9 := below_setRow' (grownP_below' g2) (Nat.le_refl _) hw3.out
        refine bodyPost_ret (results_row_tmp rfl _ _ w.heap.size 25 #[.int .i64 zeroPk.leap, .int .i64 zeroPk.version, .int .i64 zeroPk.mode, .int .i64 zeroPk.stratum, .int .i64 zeroPk.poll, .int .i64 zeroPk.delay, .int .i64 zeroPk.disp, .int .i64 zeroPk.ref, .int .i64 zeroPk.orig, .int .i64 zeroPk.recv, .int .i64 zeroPk.xmit] _ rfl R9 HU.out rfl infoPk) rfl ?_
        exact ⟨by rw [HR.out.1, HR.out.2]; try rfl, B9⟩
      | true =>
        have HR := Lib.hid (And.intro HQ' (show rmRes s k = p by rw [HQ2', HQ']; rfl))
        clear HQ' HQ2'
        go_upto_region 4 with fail
        go_wp2_with fail
        refine (HM.out _ (hT.next (grownP_below' g1a))).mono ?_
        rintro e w2 ⟨rfl, hb2⟩
        have Q2 := blk_next hb2 Q1a
        have QP := blk_next hb2 QPa
        have g2 : w.grownBy w2 none := grownP_trans g1a (grownP_below hb2)
        clear y0 y1 y2 y3 y4 y5 y6 y7 y8 y9 y10
        clear Q1a QPa g1a hb2 HM
        obtain ⟨y0, y1, y2, y3, y4, y5, y6, y7, y8, y9, y10⟩ := packet_cells QP
        clear hss
        go_upto_region 6 with fail
        go_wp2_with (refine wpList_store_row rfl 25 (.tmp 4) (.tmp 28) rfl w.heap.size 25 #[.int .i64 zeroPk.leap, .int .i64 zeroPk.version, .int .i64 zeroPk.mode, .int .i64 zeroPk.stratum, .int .i64 zeroPk.poll, .int .i64 zeroPk.delay, .int .i64 zeroPk.disp, .int .i64 zeroPk.ref, .int .i64 zeroPk.orig, .int .i64 zeroPk.recv, .int .i64 zeroPk.xmit] #[.int .i64 p.leap, .int .i64 p.version, .int .i64 p.mode, .int .i64 p.stratum, .int .i64 p.poll, .int .i64 p.delay, .int .i64 p.disp, .int .i64 p.ref, .int .i64 p.orig, .int .i64 p.recv, .int .i64 p.xmit] rfl rfl Q2 infoPk rfl (pk_one _) ?_; intro w3 hw3)
        have R9 := setRow_heap' hw3.out Q2
        have B9 := below_setRow' (grownP_below' g2) (Nat.le_refl _) hw3.out
        refine bodyPost_ret (results_row_tmp rfl _ _ w.heap.size 25 #[.int .i64 p.leap, .int .i64 p.version, .int .i64 p.mode, .int .i64 p.stratum, .int .i64 p.poll, .int .i64 p.delay, .int .i64 p.disp, .int .i64 p.ref, .int .i64 p.orig, .int .i64 p.recv, .int .i64 p.xmit] _ rfl R9 HU.out rfl infoPk) rfl ?_
        exact ⟨by rw [HR.out.1, HR.out.2]; try rfl, B9⟩
set_option maxHeartbeats 4000000 in
theorem readMac_s (s k : ByteArray) (hss : s.size ≤ 1048576) (hks : k.size ≤ 1048576) (w : World) :
    Calls Tryd.prog 10 #[.string s, .string k] w fun e w' => e = .returned (.tuple #[.agg #[.int .i64 ((rmRes s k)).leap, .int .i64 ((rmRes s k)).version, .int .i64 ((rmRes s k)).mode, .int .i64 ((rmRes s k)).stratum, .int .i64 ((rmRes s k)).poll, .int .i64 ((rmRes s k)).delay, .int .i64 ((rmRes s k)).disp, .int .i64 ((rmRes s k)).ref, .int .i64 ((rmRes s k)).orig, .int .i64 ((rmRes s k)).recv, .int .i64 ((rmRes s k)).xmit], .bool (rmOk s k)]) ∧ Below w.heap.size w w' := by
  have HU := Lib.hid Tryd.underlying25
  have Q0 := blk_new w (.cells #[.int .i64 zeroPk.leap, .int .i64 zeroPk.version, .int .i64 zeroPk.mode, .int .i64 zeroPk.stratum, .int .i64 zeroPk.poll, .int .i64 zeroPk.delay, .int .i64 zeroPk.disp, .int .i64 zeroPk.ref, .int .i64 zeroPk.orig, .int .i64 zeroPk.recv, .int .i64 zeroPk.xmit] 25)
  have g0 : w.grownBy (w.alloc (.cells #[.int .i64 zeroPk.leap, .int .i64 zeroPk.version, .int .i64 zeroPk.mode, .int .i64 zeroPk.stratum, .int .i64 zeroPk.poll, .int .i64 zeroPk.delay, .int .i64 zeroPk.disp, .int .i64 zeroPk.ref, .int .i64 zeroPk.orig, .int .i64 zeroPk.recv, .int .i64 zeroPk.xmit] 25)) none := World.grownBy_alloc _ _ none
  by_cases hl : s.size ≠ 80
  · have hli : ((s.size : Int) != 80) = true := by rw [bne_iff_ne]; omega
    have e1 : rmOk s k = false := rm_size hl
    have e2 : rmRes s k = zeroPk := by unfold rmRes; rw [e1]; rfl
    have HR := Lib.hid (And.intro e1 e2)
    clear e1 e2
    go_enter Tryd.func10, Tryd.ntmps10
    go_wp2_with fail
    go_returns
    exact ⟨by rw [HR.out.1, HR.out.2]; try rfl, grownP_below' g0⟩
  · have hl80 : s.size = 80 := by omega
    have hli : ((s.size : Int) != 80) = false := by rw [bne_eq_false_iff_eq]; omega
    have h48 : 48 ≤ s.size := by omega
    clear hl
    have h48i : (48 : Int) ≤ (s.size : Int) := by omega
    have HQ := rm_is s k h48
    have HQ2 : rmRes s k = bif rmOk s k then rpPk (s.extract 0 48) else zeroPk := rfl
    obtain ⟨x, hx⟩ : ∃ x, s.extract 0 48 = x := ⟨_, rfl⟩
    have hxs : x.size ≤ 1048576 := by rw [← hx, ByteArray.size_extract]; omega
    rw [hx] at HQ HQ2
    have HP : rpOk x = true → rpRes x = rpPk x := fun h => by unfold rpRes; rw [h]; rfl
    have HR0 : ∀ w : World, Calls Tryd.prog 21 #[.string x] w fun e w' => e = .returned (.tuple #[.agg #[.int .i64 ((rpRes x)).leap, .int .i64 ((rpRes x)).version, .int .i64 ((rpRes x)).mode, .int .i64 ((rpRes x)).stratum, .int .i64 ((rpRes x)).poll, .int .i64 ((rpRes x)).delay, .int .i64 ((rpRes x)).disp, .int .i64 ((rpRes x)).ref, .int .i64 ((rpRes x)).orig, .int .i64 ((rpRes x)).recv, .int .i64 ((rpRes x)).xmit], .bool (rpOk x)]) ∧ w.grownBy w' none := (fun w => (readPacket_spec x hxs w).mono fun e w' h => ⟨h.1, grownP_below h.2⟩)
    have HR := Lib.hid HR0
    clear HR0
    obtain ⟨p, hp⟩ : ∃ p, rpRes x = p := ⟨_, rfl⟩
    obtain ⟨b, hb⟩ : ∃ b, rpOk x = b := ⟨_, rfl⟩
    rw [hp, hb] at HR
    rw [hp, hb] at HP
    rw [hb] at HQ
    clear hp hb hxs
    have HM := Lib.hid (fun w => macText_s p k hks w)
    have HQ := Lib.hid HQ
    have HQ2 := Lib.hid HQ2
    have hexr : s.extract 0 48 = x := hx
    clear hx
    go_enter Tryd.func10, Tryd.ntmps10
    go_wp2_with fail
    refine (HR.out _).mono ?_
    rintro e w1 ⟨rfl, g⟩
    have Q1 : w1.heap[w.heap.size]? = some (.cells #[.int .i64 zeroPk.leap, .int .i64 zeroPk.version, .int .i64 zeroPk.mode, .int .i64 zeroPk.stratum, .int .i64 zeroPk.poll, .int .i64 zeroPk.delay, .int .i64 zeroPk.disp, .int .i64 zeroPk.ref, .int .i64 zeroPk.orig, .int .i64 zeroPk.recv, .int .i64 zeroPk.xmit] 25) := (g.block _ (Array.getElem?_eq_some_iff.1 Q0).1 (by simp)).trans Q0
    have g1 : w.grownBy w1 none := grownP_trans g0 g
    have Q1a := blk_alloc Q1 (.cells #[.int .i64 p.leap, .int .i64 p.version, .int .i64 p.mode, .int .i64 p.stratum, .int .i64 p.poll, .int .i64 p.delay, .int .i64 p.disp, .int .i64 p.ref, .int .i64 p.orig, .int .i64 p.recv, .int .i64 p.xmit] 25)
    have QPa := blk_new w1 (.cells #[.int .i64 p.leap, .int .i64 p.version, .int .i64 p.mode, .int .i64 p.stratum, .int .i64 p.poll, .int .i64 p.delay, .int .i64 p.disp, .int .i64 p.ref, .int .i64 p.orig, .int .i64 p.recv, .int .i64 p.xmit] 25)
    have g1a : w.grownBy (w1.alloc (.cells #[.int .i64 p.leap, .int .i64 p.version, .int .i64 p.mode, .int .i64 p.stratum, .int .i64 p.poll, .int .i64 p.delay, .int .i64 p.disp, .int .i64 p.ref, .int .i64 p.orig, .int .i64 p.recv, .int .i64 p.xmit] 25)) none := grownP_trans g1 (World.grownBy_alloc _ _ none)
    clear g g0 Q0 HR Q1 g1
    cases b with
    | false =>
      have hr : rmOk s k = false := by rw [HQ.out]; rfl
      have hres : rmRes s k = zeroPk := by rw [HQ2.out, hr]; rfl
      have HR := Lib.hid (And.intro hr hres)
      clear hr hres HQ HQ2
      clear HM
      go_upto_region 5 with fail
      go_wp2_with (refine wpList_store_row rfl 25 (.tmp 4) (.tmp 27) rfl w.heap.size 25 #[.int .i64 zeroPk.leap, .int .i64 zeroPk.version, .int .i64 zeroPk.mode, .int .i64 zeroPk.stratum, .int .i64 zeroPk.poll, .int .i64 zeroPk.delay, .int .i64 zeroPk.disp, .int .i64 zeroPk.ref, .int .i64 zeroPk.orig, .int .i64 zeroPk.recv, .int .i64 zeroPk.xmit] #[.int .i64 zeroPk.leap, .int .i64 zeroPk.version, .int .i64 zeroPk.mode, .int .i64 zeroPk.stratum, .int .i64 zeroPk.poll, .int .i64 zeroPk.delay, .int .i64 zeroPk.disp, .int .i64 zeroPk.ref, .int .i64 zeroPk.orig, .int .i64 zeroPk.recv, .int .i64 zeroPk.xmit] rfl rfl Q1a infoPk rfl (pk_one _) ?_; intro w3 hw3)
      have R9 := setRow_heap' hw3.out Q1a
      have B9 := below_setRow' (grownP_below' g1a) (Nat.le_refl _) hw3.out
      refine bodyPost_ret (results_row_tmp rfl _ _ w.heap.size 25 #[.int .i64 zeroPk.leap, .int .i64 zeroPk.version, .int .i64 zeroPk.mode, .int .i64 zeroPk.stratum, .int .i64 zeroPk.poll, .int .i64 zeroPk.delay, .int .i64 zeroPk.disp, .int .i64 zeroPk.ref, .int .i64 zeroPk.orig, .int .i64 zeroPk.recv, .int .i64 zeroPk.xmit] _ rfl R9 HU.out rfl infoPk) rfl ?_
      exact ⟨by rw [HR.out.1, HR.out.2]; try rfl, B9⟩
    | true =>
      replace HP := HP rfl
      obtain ⟨y0, y1, y2, y3, y4, y5, y6, y7, y8, y9, y10⟩ := packet_cells QPa
      obtain ⟨m, hm⟩ : ∃ m, macV p k = m := ⟨_, rfl⟩
      rw [hm] at HM
      have HQ' : rmOk s k = (m.toList == s.toList) := by rw [HQ.out, ← HP, hm, Bool.true_and]
      have HQ2' : rmRes s k = bif rmOk s k then p else zeroPk := by rw [HQ2.out, ← HP]
      clear HQ HQ2 HP hm
      obtain ⟨c, hc⟩ : ∃ c, (m.toList == s.toList) = c := ⟨_, rfl⟩
      have hmc : (m.toList != s.toList) = !c := by rw [← hc]; rfl
      rw [hc] at HQ'
      cases c with
      | false =>
        have HR := Lib.hid (And.intro HQ' (show rmRes s k = zeroPk by rw [HQ2', HQ']; rfl))
        clear HQ' HQ2'
        go_upto_region 4 with fail
        go_wp2_with fail
        refine (HM.out _).mono ?_
        rintro e w2 ⟨rfl, hb2⟩
        have Q2 := blk_next hb2 Q1a
        have QP := blk_next hb2 QPa
        have g2 : w.grownBy w2 none := grownP_trans g1a (grownP_below hb2)
        clear y0 y1 y2 y3 y4 y5 y6 y7 y8 y9 y10
        clear Q1a QPa g1a hb2 HM
        obtain ⟨y0, y1, y2, y3, y4, y5, y6, y7, y8, y9, y10⟩ := packet_cells QP
        clear hss
        go_upto_region 5 with fail
        go_wp2_with (refine wpList_store_row rfl 25 (.tmp 4) (.tmp 27) rfl w.heap.size 25 #[.int .i64 zeroPk.leap, .int .i64 zeroPk.version, .int .i64 zeroPk.mode, .int .i64 zeroPk.stratum, .int .i64 zeroPk.poll, .int .i64 zeroPk.delay, .int .i64 zeroPk.disp, .int .i64 zeroPk.ref, .int .i64 zeroPk.orig, .int .i64 zeroPk.recv, .int .i64 zeroPk.xmit] #[.int .i64 zeroPk.leap, .int .i64 zeroPk.version, .int .i64 zeroPk.mode, .int .i64 zeroPk.stratum, .int .i64 zeroPk.poll, .int .i64 zeroPk.delay, .int .i64 zeroPk.disp, .int .i64 zeroPk.ref, .int .i64 zeroPk.orig, .int .i64 zeroPk.recv, .int .i64 zeroPk.xmit] rfl rfl Q2 infoPk rfl (pk_one _) ?_; intro w3 hw3)
        have R9 := setRow_heap' hw3.out Q2
        have B9 := below_setRow' (grownP_below' g2) (Nat.le_refl _) hw3.out
        refine bodyPost_ret (results_row_tmp rfl _ _ w.heap.size 25 #[.int .i64 zeroPk.leap, .int .i64 zeroPk.version, .int .i64 zeroPk.mode, .int .i64 zeroPk.stratum, .int .i64 zeroPk.poll, .int .i64 zeroPk.delay, .int .i64 zeroPk.disp, .int .i64 zeroPk.ref, .int .i64 zeroPk.orig, .int .i64 zeroPk.recv, .int .i64 zeroPk.xmit] _ rfl R9 HU.out rfl infoPk) rfl ?_
        exact ⟨by rw [HR.out.1, HR.out.2]; try rfl, B9⟩
      | true =>
        have HR := Lib.hid (And.intro HQ' (show rmRes s k = p by rw [HQ2', HQ']; rfl))
        clear HQ' HQ2'
        go_upto_region 4 with fail
        go_wp2_with fail
        refine (HM.out _).mono ?_
        rintro e w2 ⟨rfl, hb2⟩
        have Q2 := blk_next hb2 Q1a
        have QP := blk_next hb2 QPa
        have g2 : w.grownBy w2 none := grownP_trans g1a (grownP_below hb2)
        clear y0 y1 y2 y3 y4 y5 y6 y7 y8 y9 y10
        clear Q1a QPa g1a hb2 HM
        obtain ⟨y0, y1, y2, y3, y4, y5, y6, y7, y8, y9, y10⟩ := packet_cells QP
        clear hss
        go_upto_region 6 with fail
        go_wp2_with (refine wpList_store_row rfl 25 (.tmp 4) (.tmp 28) rfl w.heap.size 25 #[.int .i64 zeroPk.leap, .int .i64 zeroPk.version, .int .i64 zeroPk.mode, .int .i64 zeroPk.stratum, .int .i64 zeroPk.poll, .int .i64 zeroPk.delay, .int .i64 zeroPk.disp, .int .i64 zeroPk.ref, .int .i64 zeroPk.orig, .int .i64 zeroPk.recv, .int .i64 zeroPk.xmit] #[.int .i64 p.leap, .int .i64 p.version, .int .i64 p.mode, .int .i64 p.stratum, .int .i64 p.poll, .int .i64 p.delay, .int .i64 p.disp, .int .i64 p.ref, .int .i64 p.orig, .int .i64 p.recv, .int .i64 p.xmit] rfl rfl Q2 infoPk rfl (pk_one _) ?_; intro w3 hw3)
        have R9 := setRow_heap' hw3.out Q2
        have B9 := below_setRow' (grownP_below' g2) (Nat.le_refl _) hw3.out
        refine bodyPost_ret (results_row_tmp rfl _ _ w.heap.size 25 #[.int .i64 p.leap, .int .i64 p.version, .int .i64 p.mode, .int .i64 p.stratum, .int .i64 p.poll, .int .i64 p.delay, .int .i64 p.disp, .int .i64 p.ref, .int .i64 p.orig, .int .i64 p.recv, .int .i64 p.xmit] _ rfl R9 HU.out rfl infoPk) rfl ?_
        exact ⟨by rw [HR.out.1, HR.out.2]; try rfl, B9⟩
end Go.Proofs.YteecemjbkpkpaaaDoor
