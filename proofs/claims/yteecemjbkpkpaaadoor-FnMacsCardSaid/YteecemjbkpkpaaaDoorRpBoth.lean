/- ReadPacket, the program's and the reference's. -/
import Derived.Test.YteecemjbkpkpaaaDoorRpIn
import Derived.Test.YteecemjbkpkpaaaDoorPacketBytesLaw
import Derived.Test.YteecemjbkpkpaaaDoorDetLast
import Derived.IntWalk
namespace Go.Proofs.YteecemjbkpkpaaaDoor
open Go.ChangeShapes Go.WideShapes Go.ChangeAt Go.RowKit Go.Sort
set_option linter.unusedVariables false
set_option linter.unusedSimpArgs false

attribute [local go_sem] detQuiet detUpon Cls
def MadeAt (B : Nat) (u : Value) (w : World) : Prop := ∃ b, B ≤ b ∧ u = .pointer (some ⟨b, 0, none⟩) ∧ w.heap[b]? = some (.cells #[.int .i64 zeroPk.leap, .int .i64 zeroPk.version, .int .i64 zeroPk.mode, .int .i64 zeroPk.stratum, .int .i64 zeroPk.poll, .int .i64 zeroPk.delay, .int .i64 zeroPk.disp, .int .i64 zeroPk.ref, .int .i64 zeroPk.orig, .int .i64 zeroPk.recv, .int .i64 zeroPk.xmit] 25)
theorem MadeAt.next (B : Nat) : ∀ u w w', MadeAt B u w → Below w.heap.size w w' → MadeAt B u w' := fun u w w' ⟨b, hB, e, h⟩ hb => ⟨b, hB, e, blk_next hb h⟩
theorem by1_at (s : ByteArray) (p : Nat) (h : p < s.size) : by1 s p = (s[p].toNat : Int) := by
  unfold by1 getB
  have e : (s.extract p (p + 1)).data.toList = [s[p]] := by
    rw [Lib.extract_data, List.drop_eq_getElem_cons (by simpa using h), show p + 1 - p = 0 + 1 by omega, List.take_succ_cons, List.take_zero]
    rfl
  rw [e]
  simp [getN]
theorem rp_below1 {w W : World} {b : Nat} (h : Below w.heap.size w W) (hb : w.heap.size ≤ b) (o : Nat) (v : Value) : Below w.heap.size w (W.setCell ⟨b, o, none⟩ v) := h.setCell hb v
theorem rp_below {w W : World} {b : Nat} (h : Below w.heap.size w W) (hb : w.heap.size ≤ b) (r : Pk) : Below w.heap.size w (((((((((((W.setCell ⟨b, 0, none⟩ (.int .i64 r.leap)).setCell ⟨b, 1, none⟩ (.int .i64 r.version)).setCell ⟨b, 2, none⟩ (.int .i64 r.mode)).setCell ⟨b, 3, none⟩ (.int .i64 r.stratum)).setCell ⟨b, 4, none⟩ (.int .i64 r.poll)).setCell ⟨b, 5, none⟩ (.int .i64 r.delay)).setCell ⟨b, 6, none⟩ (.int .i64 r.disp)).setCell ⟨b, 7, none⟩ (.int .i64 r.ref)).setCell ⟨b, 8, none⟩ (.int .i64 r.orig)).setCell ⟨b, 9, none⟩ (.int .i64 r.recv)).setCell ⟨b, 10, none⟩ (.int .i64 r.xmit)) := by
  repeat (refine rp_below1 ?_ hb _ _)
  exact h
/-- What ReadPacket answers. -/
def rpRes (s : ByteArray) : Pk := bif rpOk s then rpPk s else zeroPk
set_option maxRecDepth 100000 in
set_option maxHeartbeats 1000000 in
theorem readPacket_impl (s : ByteArray) (hs : s.size ≤ 1048576) (w : World) :
    Calls Tryd.prog 20 #[.string s] w fun e w' => e = .returned (.tuple #[.agg #[.int .i64 ((rpRes s)).leap, .int .i64 ((rpRes s)).version, .int .i64 ((rpRes s)).mode, .int .i64 ((rpRes s)).stratum, .int .i64 ((rpRes s)).poll, .int .i64 ((rpRes s)).delay, .int .i64 ((rpRes s)).disp, .int .i64 ((rpRes s)).ref, .int .i64 ((rpRes s)).orig, .int .i64 ((rpRes s)).recv, .int .i64 ((rpRes s)).xmit], .bool (rpOk s)]) ∧ w.grownBy w' none := by
  have HI := Lib.hid (fun w => packetIn_p s hs w)
  have Q0 := blk_new w (.cells #[.int .i64 zeroPk.leap, .int .i64 zeroPk.version, .int .i64 zeroPk.mode, .int .i64 zeroPk.stratum, .int .i64 zeroPk.poll, .int .i64 zeroPk.delay, .int .i64 zeroPk.disp, .int .i64 zeroPk.ref, .int .i64 zeroPk.orig, .int .i64 zeroPk.recv, .int .i64 zeroPk.xmit] 25)
  have g0 : w.grownBy (w.alloc (.cells #[.int .i64 zeroPk.leap, .int .i64 zeroPk.version, .int .i64 zeroPk.mode, .int .i64 zeroPk.stratum, .int .i64 zeroPk.poll, .int .i64 zeroPk.delay, .int .i64 zeroPk.disp, .int .i64 zeroPk.ref, .int .i64 zeroPk.orig, .int .i64 zeroPk.recv, .int .i64 zeroPk.xmit] 25)) none := World.grownBy_alloc _ _ none
  go_enter Tryd.func20, Tryd.ntmps20
  go_wp2_with fail
  refine (HI.out _).mono ?_
  rintro e w1 ⟨p, ok, rfl, h, g⟩
  have Q1 : w1.heap[w.heap.size]? = some (.cells #[.int .i64 zeroPk.leap, .int .i64 zeroPk.version, .int .i64 zeroPk.mode, .int .i64 zeroPk.stratum, .int .i64 zeroPk.poll, .int .i64 zeroPk.delay, .int .i64 zeroPk.disp, .int .i64 zeroPk.ref, .int .i64 zeroPk.orig, .int .i64 zeroPk.recv, .int .i64 zeroPk.xmit] 25) := (g.block _ (Array.getElem?_eq_some_iff.1 Q0).1 (by simp)).trans Q0
  have g1 : w.grownBy w1 none := grownP_trans g0 g
  have Q1a := blk_alloc Q1 (.cells #[.int .i64 p.leap, .int .i64 p.version, .int .i64 p.mode, .int .i64 p.stratum, .int .i64 p.poll, .int .i64 p.delay, .int .i64 p.disp, .int .i64 p.ref, .int .i64 p.orig, .int .i64 p.recv, .int .i64 p.xmit] 25)
  have QPa := blk_new w1 (.cells #[.int .i64 p.leap, .int .i64 p.version, .int .i64 p.mode, .int .i64 p.stratum, .int .i64 p.poll, .int .i64 p.delay, .int .i64 p.disp, .int .i64 p.ref, .int .i64 p.orig, .int .i64 p.recv, .int .i64 p.xmit] 25)
  have g1a : w.grownBy (w1.alloc (.cells #[.int .i64 p.leap, .int .i64 p.version, .int .i64 p.mode, .int .i64 p.stratum, .int .i64 p.poll, .int .i64 p.delay, .int .i64 p.disp, .int .i64 p.ref, .int .i64 p.orig, .int .i64 p.recv, .int .i64 p.xmit] 25)) none := grownP_trans g1 (World.grownBy_alloc _ _ none)
  clear g g0 Q0 HI Q1 g1
  cases ok with
  | false =>
    have hr : rpOk s = false := by
      rcases h with ⟨h, _⟩ | ⟨_, h⟩
      · cases h
      · exact h
    have hres : rpRes s = zeroPk := by unfold rpRes; rw [hr]; rfl
    have HR := Lib.hid (And.intro hr hres)
    clear hr hres h
    have ff := packetP_thaw Q1a
    have f0 := ff 0 (by omega)
    have f1 := ff 1 (by omega)
    have f2 := ff 2 (by omega)
    have f3 := ff 3 (by omega)
    have f4 := ff 4 (by omega)
    have f5 := ff 5 (by omega)
    have f6 := ff 6 (by omega)
    have f7 := ff 7 (by omega)
    have f8 := ff 8 (by omega)
    have f9 := ff 9 (by omega)
    have f10 := ff 10 (by omega)
    clear ff
    obtain ⟨z0, z1, z2, z3, z4, z5, z6, z7, z8, z9, z10⟩ := packet_cells Q1a
    go_wp2_with fail
    obtain ⟨Z, hZ⟩ : ∃ Z, Z = ((((((((((((w1.alloc (.cells #[.int .i64 p.leap, .int .i64 p.version, .int .i64 p.mode, .int .i64 p.stratum, .int .i64 p.poll, .int .i64 p.delay, .int .i64 p.disp, .int .i64 p.ref, .int .i64 p.orig, .int .i64 p.recv, .int .i64 p.xmit] 25)).setCell ⟨w.heap.size, 0, none⟩ (.int .i64 0)).setCell ⟨w.heap.size, 1, none⟩ (.int .i64 0)).setCell ⟨w.heap.size, 2, none⟩ (.int .i64 0)).setCell ⟨w.heap.size, 3, none⟩ (.int .i64 0)).setCell ⟨w.heap.size, 4, none⟩ (.int .i64 0)).setCell ⟨w.heap.size, 5, none⟩ (.int .i64 0)).setCell ⟨w.heap.size, 6, none⟩ (.int .i64 0)).setCell ⟨w.heap.size, 7, none⟩ (.int .i64 0)).setCell ⟨w.heap.size, 8, none⟩ (.int .i64 0)).setCell ⟨w.heap.size, 9, none⟩ (.int .i64 0)).setCell ⟨w.heap.size, 10, none⟩ (.int .i64 0)) := ⟨_, rfl⟩
    have hK : Z.heap[w.heap.size]? = some (.cells #[.int .i64 zeroPk.leap, .int .i64 zeroPk.version, .int .i64 zeroPk.mode, .int .i64 zeroPk.stratum, .int .i64 zeroPk.poll, .int .i64 zeroPk.delay, .int .i64 zeroPk.disp, .int .i64 zeroPk.ref, .int .i64 zeroPk.orig, .int .i64 zeroPk.recv, .int .i64 zeroPk.xmit] 25) := by
      rw [hZ]
      exact rp_put Q1a zeroPk
    have hG := (show w.grownBy Z none by rw [hZ]; exact rp_gr g1a (Nat.le_refl _) zeroPk)
    rw [← hZ]
    obtain ⟨rx0, rx1, rx2, rx3, rx4, rx5, rx6, rx7, rx8, rx9, rx10⟩ := packet_cells hK
    clear f0 f1 f2 f3 f4 f5 f6 f7 f8 f9 f10 z0 z1 z2 z3 z4 z5 z6 z7 z8 z9 z10
    try simp only [Exit.inBlock, Exit.then]
    refine bodyPost_ret (by simp [results, Tryd.results20, go_sem, rx0, rx1, rx2, rx3, rx4, rx5, rx6, rx7, rx8, rx9, rx10]; try rfl) rfl ?_
    exact ⟨by rw [HR.out.1, HR.out.2]; try rfl, hG⟩
  | true =>
    have hr : rpOk s = p.ok ∧ p = rpPk s := by
      rcases h with ⟨_, hp, h1, h2, h3, h4⟩ | ⟨h, _⟩
      · refine ⟨?_, hp⟩
        unfold rpOk
        rw [decide_eq_true h1, h2, h3, h4, ← hp]
        simp
      · cases h
    have HO := Lib.hid (packetOk_impl_below p)
    have hres : rpRes s = bif p.ok then p else zeroPk := by unfold rpRes; rw [hr.1, ← hr.2]
    obtain ⟨b, hb⟩ : ∃ b, p.ok = b := ⟨_, rfl⟩
    have HR := Lib.hid (And.intro (hr.1.trans hb) hres)
    rw [hb] at HO HR
    clear hr hres h hb
    cases b with
    | false =>
      go_wp2_with fail
      refine (HO.out _).mono ?_
      rintro e w2 ⟨rfl, hb2⟩
      have Q2 := blk_next hb2 Q1a
      have QP := blk_next hb2 QPa
      have g2 : w.grownBy w2 none := grownP_trans g1a (grownP_below hb2)
      clear Q1a QPa g1a hb2 HO
      have ff := packetP_thaw Q2
      have f0 := ff 0 (by omega)
      have f1 := ff 1 (by omega)
      have f2 := ff 2 (by omega)
      have f3 := ff 3 (by omega)
      have f4 := ff 4 (by omega)
      have f5 := ff 5 (by omega)
      have f6 := ff 6 (by omega)
      have f7 := ff 7 (by omega)
      have f8 := ff 8 (by omega)
      have f9 := ff 9 (by omega)
      have f10 := ff 10 (by omega)
      clear ff
      obtain ⟨z0, z1, z2, z3, z4, z5, z6, z7, z8, z9, z10⟩ := packet_cells Q2
      obtain ⟨y0, y1, y2, y3, y4, y5, y6, y7, y8, y9, y10⟩ := packet_cells QP
      go_wp2_with fail
      obtain ⟨Z, hZ⟩ : ∃ Z, Z = (((((((((((w2.setCell ⟨w.heap.size, 0, none⟩ (.int .i64 0)).setCell ⟨w.heap.size, 1, none⟩ (.int .i64 0)).setCell ⟨w.heap.size, 2, none⟩ (.int .i64 0)).setCell ⟨w.heap.size, 3, none⟩ (.int .i64 0)).setCell ⟨w.heap.size, 4, none⟩ (.int .i64 0)).setCell ⟨w.heap.size, 5, none⟩ (.int .i64 0)).setCell ⟨w.heap.size, 6, none⟩ (.int .i64 0)).setCell ⟨w.heap.size, 7, none⟩ (.int .i64 0)).setCell ⟨w.heap.size, 8, none⟩ (.int .i64 0)).setCell ⟨w.heap.size, 9, none⟩ (.int .i64 0)).setCell ⟨w.heap.size, 10, none⟩ (.int .i64 0)) := ⟨_, rfl⟩
      have hK : Z.heap[w.heap.size]? = some (.cells #[.int .i64 zeroPk.leap, .int .i64 zeroPk.version, .int .i64 zeroPk.mode, .int .i64 zeroPk.stratum, .int .i64 zeroPk.poll, .int .i64 zeroPk.delay, .int .i64 zeroPk.disp, .int .i64 zeroPk.ref, .int .i64 zeroPk.orig, .int .i64 zeroPk.recv, .int .i64 zeroPk.xmit] 25) := by
        rw [hZ]
        exact rp_put Q2 zeroPk
      have hG := (show w.grownBy Z none by rw [hZ]; exact rp_gr g2 (Nat.le_refl _) zeroPk)
      rw [← hZ]
      obtain ⟨rx0, rx1, rx2, rx3, rx4, rx5, rx6, rx7, rx8, rx9, rx10⟩ := packet_cells hK
      clear f0 f1 f2 f3 f4 f5 f6 f7 f8 f9 f10 z0 z1 z2 z3 z4 z5 z6 z7 z8 z9 z10 y0 y1 y2 y3 y4 y5 y6 y7 y8 y9 y10
      try simp only [Exit.inBlock, Exit.then]
      refine bodyPost_ret (by simp [results, Tryd.results20, go_sem, rx0, rx1, rx2, rx3, rx4, rx5, rx6, rx7, rx8, rx9, rx10]; try rfl) rfl ?_
      exact ⟨by rw [HR.out.1, HR.out.2]; try rfl, hG⟩
    | true =>
      go_wp2_with fail
      refine (HO.out _).mono ?_
      rintro e w2 ⟨rfl, hb2⟩
      have Q2 := blk_next hb2 Q1a
      have QP := blk_next hb2 QPa
      have g2 : w.grownBy w2 none := grownP_trans g1a (grownP_below hb2)
      clear Q1a QPa g1a hb2 HO
      have ff := packetP_thaw Q2
      have f0 := ff 0 (by omega)
      have f1 := ff 1 (by omega)
      have f2 := ff 2 (by omega)
      have f3 := ff 3 (by omega)
      have f4 := ff 4 (by omega)
      have f5 := ff 5 (by omega)
      have f6 := ff 6 (by omega)
      have f7 := ff 7 (by omega)
      have f8 := ff 8 (by omega)
      have f9 := ff 9 (by omega)
      have f10 := ff 10 (by omega)
      clear ff
      obtain ⟨z0, z1, z2, z3, z4, z5, z6, z7, z8, z9, z10⟩ := packet_cells Q2
      obtain ⟨y0, y1, y2, y3, y4, y5, y6, y7, y8, y9, y10⟩ := packet_cells QP
      go_wp2_with fail
      obtain ⟨Z, hZ⟩ : ∃ Z, Z = (((((((((((w2.setCell ⟨w.heap.size, 0, none⟩ (.int .i64 p.leap)).setCell ⟨w.heap.size, 1, none⟩ (.int .i64 p.version)).setCell ⟨w.heap.size, 2, none⟩ (.int .i64 p.mode)).setCell ⟨w.heap.size, 3, none⟩ (.int .i64 p.stratum)).setCell ⟨w.heap.size, 4, none⟩ (.int .i64 p.poll)).setCell ⟨w.heap.size, 5, none⟩ (.int .i64 p.delay)).setCell ⟨w.heap.size, 6, none⟩ (.int .i64 p.disp)).setCell ⟨w.heap.size, 7, none⟩ (.int .i64 p.ref)).setCell ⟨w.heap.size, 8, none⟩ (.int .i64 p.orig)).setCell ⟨w.heap.size, 9, none⟩ (.int .i64 p.recv)).setCell ⟨w.heap.size, 10, none⟩ (.int .i64 p.xmit)) := ⟨_, rfl⟩
      have hK : Z.heap[w.heap.size]? = some (.cells #[.int .i64 p.leap, .int .i64 p.version, .int .i64 p.mode, .int .i64 p.stratum, .int .i64 p.poll, .int .i64 p.delay, .int .i64 p.disp, .int .i64 p.ref, .int .i64 p.orig, .int .i64 p.recv, .int .i64 p.xmit] 25) := by
        rw [hZ]
        exact rp_put Q2 p
      have hG := (show w.grownBy Z none by rw [hZ]; exact rp_gr g2 (Nat.le_refl _) p)
      rw [← hZ]
      obtain ⟨rx0, rx1, rx2, rx3, rx4, rx5, rx6, rx7, rx8, rx9, rx10⟩ := packet_cells hK
      clear f0 f1 f2 f3 f4 f5 f6 f7 f8 f9 f10 z0 z1 z2 z3 z4 z5 z6 z7 z8 z9 z10 y0 y1 y2 y3 y4 y5 y6 y7 y8 y9 y10
      try simp only [Exit.inBlock, Exit.then]
      refine bodyPost_ret (by simp [results, Tryd.results20, go_sem, rx0, rx1, rx2, rx3, rx4, rx5, rx6, rx7, rx8, rx9, rx10]; try rfl) rfl ?_
      exact ⟨by rw [HR.out.1, HR.out.2]; try rfl, hG⟩
set_option maxRecDepth 100000 in
set_option maxHeartbeats 4000000 in
theorem readPacket_spec (s : ByteArray) (hs : s.size ≤ 1048576) (w : World) :
    Calls Tryd.prog 21 #[.string s] w fun e w' => e = .returned (.tuple #[.agg #[.int .i64 ((rpRes s)).leap, .int .i64 ((rpRes s)).version, .int .i64 ((rpRes s)).mode, .int .i64 ((rpRes s)).stratum, .int .i64 ((rpRes s)).poll, .int .i64 ((rpRes s)).delay, .int .i64 ((rpRes s)).disp, .int .i64 ((rpRes s)).ref, .int .i64 ((rpRes s)).orig, .int .i64 ((rpRes s)).recv, .int .i64 ((rpRes s)).xmit], .bool (rpOk s)]) ∧ Below w.heap.size w w' := by
  by_cases h0 : s.size = 48
  · have i0 : 0 < s.size := by omega
    have i1 : 1 < s.size := by omega
    have i2 : 2 < s.size := by omega
    have HSAME := Lib.hid (fun h => rp_same s h0 h)
    have HFALSE := Lib.hid (fun h => show rpOk s = false ∧ rpRes s = zeroPk from by
      have e : rpOk s = false := rpOk_st h
      refine ⟨e, ?_⟩
      unfold rpRes; rw [e]; rfl)
    have HRES := Lib.hid (show rpRes s = bif rpOk s then rpPk s else zeroPk from rfl)
    have HPK := Lib.hid (show rpPk s = ⟨by1 s 0 / 64, by1 s 0 / 8 % 8, by1 s 0 % 8, by1 s 1, by1 s 2, getB (s.extract 4 8), getB (s.extract 8 12), stampT (s.extract 16 24), stampT (s.extract 24 32), stampT (s.extract 32 40), stampT (s.extract 40 48)⟩ from rfl)
    have HST := Lib.hid (show rpSt s = (stampOk (s.extract 16 24) && stampOk (s.extract 24 32) && stampOk (s.extract 32 40) && stampOk (s.extract 40 48)) from rfl)
    have b0 := by1_bound s 0
    have b1 := by1_bound s 1
    have b2 := by1_bound s 2
    have u0 : IntKind.i64.wrap (s[0].toNat : Int) = by1 s 0 := by rw [by1_at s 0 i0]; exact IntWalk.i64_in _ (by rw [← by1_at s 0 i0]; omega)
    have u1 : IntKind.i64.wrap (s[1].toNat : Int) = by1 s 1 := by rw [by1_at s 1 i1]; exact IntWalk.i64_in _ (by rw [← by1_at s 1 i1]; omega)
    have u2 : IntKind.i64.wrap (s[2].toNat : Int) = by1 s 2 := by rw [by1_at s 2 i2]; exact IntWalk.i64_in _ (by rw [← by1_at s 2 i2]; omega)
    have C1 := Lib.hid (fun w => show Calls Tryd.prog 34 #[.string (s.extract 4 8)] w fun e w' => e = .returned (.int .i64 (getB (s.extract 4 8))) ∧ Below w.heap.size w w' from (get_spec (s.extract 4 8) (by rw [ByteArray.size_extract]; omega) w).mono fun e w' h => ⟨h.1, h.2 ▸ Below.refl _ _⟩)
    have C2 := Lib.hid (fun w => show Calls Tryd.prog 34 #[.string (s.extract 8 12)] w fun e w' => e = .returned (.int .i64 (getB (s.extract 8 12))) ∧ Below w.heap.size w w' from (get_spec (s.extract 8 12) (by rw [ByteArray.size_extract]; omega) w).mono fun e w' h => ⟨h.1, h.2 ▸ Below.refl _ _⟩)
    have T1 := Lib.hid (fun w => readStamp_spec (s.extract 16 24) w)
    have T2 := Lib.hid (fun w => readStamp_spec (s.extract 24 32) w)
    have T3 := Lib.hid (fun w => readStamp_spec (s.extract 32 40) w)
    have T4 := Lib.hid (fun w => readStamp_spec (s.extract 40 48) w)
    have HB := Lib.hid (fun w => packetBytes_spec (rpPk s) w)
    obtain ⟨q, hq⟩ : ∃ x, rpPk s = x := ⟨_, rfl⟩
    rw [hq] at HB HPK HRES HSAME
    obtain ⟨bs, hbs⟩ : ∃ x, q.bytes = x := ⟨_, rfl⟩
    rw [hbs] at HB HSAME
    obtain ⟨n0, hn0⟩ : ∃ n, by1 s 0 = n := ⟨_, rfl⟩
    obtain ⟨n1, hn1⟩ : ∃ n, by1 s 1 = n := ⟨_, rfl⟩
    obtain ⟨n2, hn2⟩ : ∃ n, by1 s 2 = n := ⟨_, rfl⟩
    obtain ⟨v4, hv4⟩ : ∃ n, getB (s.extract 4 8) = n := ⟨_, rfl⟩
    obtain ⟨v5, hv5⟩ : ∃ n, getB (s.extract 8 12) = n := ⟨_, rfl⟩
    obtain ⟨t1, ht1⟩ : ∃ n, stampT (s.extract 16 24) = n := ⟨_, rfl⟩
    obtain ⟨t2, ht2⟩ : ∃ n, stampT (s.extract 24 32) = n := ⟨_, rfl⟩
    obtain ⟨t3, ht3⟩ : ∃ n, stampT (s.extract 32 40) = n := ⟨_, rfl⟩
    obtain ⟨t4, ht4⟩ : ∃ n, stampT (s.extract 40 48) = n := ⟨_, rfl⟩
    obtain ⟨k1, hk1⟩ : ∃ n, stampOk (s.extract 16 24) = n := ⟨_, rfl⟩
    obtain ⟨k2, hk2⟩ : ∃ n, stampOk (s.extract 24 32) = n := ⟨_, rfl⟩
    obtain ⟨k3, hk3⟩ : ∃ n, stampOk (s.extract 32 40) = n := ⟨_, rfl⟩
    obtain ⟨k4, hk4⟩ : ∃ n, stampOk (s.extract 40 48) = n := ⟨_, rfl⟩
    rw [hn0] at u0 b0 HPK
    rw [hn1] at u1 b1 HPK
    rw [hn2] at u2 b2 HPK
    rw [hv4] at HPK
    simp only [hv4] at C1
    rw [hv5] at HPK
    simp only [hv5] at C2
    rw [ht1, ht2, ht3, ht4] at HPK
    rw [hk1, hk2, hk3, hk4] at HST
    simp only [ht1, hk1] at T1
    simp only [ht2, hk2] at T2
    simp only [ht3, hk3] at T3
    simp only [ht4, hk4] at T4
    have d1 : n0.tdiv 64 = n0 / 64 := Int.tdiv_eq_ediv_of_nonneg b0.1
    have d2 : n0.tdiv 8 = n0 / 8 := Int.tdiv_eq_ediv_of_nonneg b0.1
    have d3 : n0.tmod 8 = n0 % 8 := Int.tmod_eq_emod_of_nonneg b0.1
    have d4 : (n0 / 8).tmod 8 = n0 / 8 % 8 := Int.tmod_eq_emod_of_nonneg (by omega)
    have d5 : IntKind.i64.wrap (n0 / 64) = n0 / 64 := IntWalk.i64_in _ (by omega)
    have d6 : IntKind.i64.wrap (n0 / 8) = n0 / 8 := IntWalk.i64_in _ (by omega)
    clear hn0 hn1 hn2 b0 b1 b2 hv4 hv5 ht1 ht2 ht3 ht4 hk1 hk2 hk3 hk4 hbs hq
    go_enter Tryd.func21, Tryd.ntmps21
    go_wp2_with fail
    obtain ⟨W0, hW0⟩ : ∃ W0, W0 = w.alloc (.cells #[.int .i64 zeroPk.leap, .int .i64 zeroPk.version, .int .i64 zeroPk.mode, .int .i64 zeroPk.stratum, .int .i64 zeroPk.poll, .int .i64 zeroPk.delay, .int .i64 zeroPk.disp, .int .i64 zeroPk.ref, .int .i64 zeroPk.orig, .int .i64 zeroPk.recv, .int .i64 zeroPk.xmit] 25) := ⟨_, rfl⟩
    rw [show w.alloc (.cells #[.int .i64 0, .int .i64 0, .int .i64 0, .int .i64 0, .int .i64 0, .int .i64 0, .int .i64 0, .int .i64 0, .int .i64 0, .int .i64 0, .int .i64 0] 25) = W0 from hW0.symm]
    have G0 : Below w.heap.size w W0 := by rw [hW0]; exact below_new _ _
    have Q0 : W0.heap[w.heap.size]? = some (.cells #[.int .i64 zeroPk.leap, .int .i64 zeroPk.version, .int .i64 zeroPk.mode, .int .i64 zeroPk.stratum, .int .i64 zeroPk.poll, .int .i64 zeroPk.delay, .int .i64 zeroPk.disp, .int .i64 zeroPk.ref, .int .i64 zeroPk.orig, .int .i64 zeroPk.recv, .int .i64 zeroPk.xmit] 25) := by rw [hW0]; exact blk_new w _
    clear hW0
    have D1 := Lib.hid (fun d os => Calls.ext (C1.out (grow (redrawn W0 d) os)))
    have D2 := Lib.hid (fun d os => Calls.ext (C2.out (grow (redrawn W0 d) os)))
    refine wp_region_det_last 26 4 (MadeAt W0.heap.size) (by repeat (first | exact Snoc.one _ | apply Snoc.cons)) (by kernel_rfl) (by kernel_rfl) (by kernel_rfl) (by simp) (MadeAt.next _) ?_
    repeat ((with_reducible refine wpDet_step (by kernel_rfl) (by kernel_rfl) (fun K hK => ?_)); go_simp; first | ((with_reducible refine hK _ ?_); clear hK K) | (rw [if_neg (by intro h; exact nomatch h)]; (with_reducible refine hK _ ?_); clear hK K) | (apply Exists.intro; (with_reducible refine ⟨fun _ => ?_, hK _ ?_⟩); (first | with_reducible exact D1.out _ _ | with_reducible exact D2.out _ _); clear hK K))
    refine wpDet_made (by kernel_rfl) ?_ ?_
    · rintro _ ⟨p', rfl⟩
      refine ⟨.pointer (some ⟨(grow (redrawn W0 p'.d) p'.os).heap.size, 0, none⟩), (grow (redrawn W0 p'.d) p'.os).alloc (.cells #[.int .i64 zeroPk.leap, .int .i64 zeroPk.version, .int .i64 zeroPk.mode, .int .i64 zeroPk.stratum, .int .i64 zeroPk.poll, .int .i64 zeroPk.delay, .int .i64 zeroPk.disp, .int .i64 zeroPk.ref, .int .i64 zeroPk.orig, .int .i64 zeroPk.recv, .int .i64 zeroPk.xmit] 25), ?_, below_new _ _, ⟨_, (below_regrown W0 p'.d p'.os).size, rfl, blk_new _ _⟩⟩
      generalize grow (redrawn W0 p'.d) p'.os = W1
      go_simp
      rfl
    with_reducible refine wpDet_nil ?_
    intro u w' hw' hg'
    have g1 := cls_below.1 hw'
    obtain ⟨b, hB, rfl, Q1⟩ := hg'
    have hne : b ≠ w.heap.size := by
      have := (Array.getElem?_eq_some_iff.1 Q0).1
      omega
    have hge : w.heap.size ≤ b := by
      have := (Array.getElem?_eq_some_iff.1 Q0).1
      omega
    have R1 := blk_next g1 Q0
    have G1 := grow_next G0 g1
    clear hw' C1 C2 D1 D2 g1 Q0 G0 hB d1 d2 d3 d4 d5 d6
    have ff := packetP_thaw Q1
    have f0 := ff 0 (by omega)
    have f1 := ff 1 (by omega)
    have f2 := ff 2 (by omega)
    have f3 := ff 3 (by omega)
    have f4 := ff 4 (by omega)
    have f5 := ff 5 (by omega)
    have f6 := ff 6 (by omega)
    have f7 := ff 7 (by omega)
    have f8 := ff 8 (by omega)
    have f9 := ff 9 (by omega)
    have f10 := ff 10 (by omega)
    clear ff
    obtain ⟨z0, z1, z2, z3, z4, z5, z6, z7, z8, z9, z10⟩ := packet_cells Q1
    refine ⟨(((((((((((w'.setCell ⟨b, 0, none⟩ (.int .i64 (n0 / 64))).setCell ⟨b, 1, none⟩ (.int .i64 (n0 / 8 % 8))).setCell ⟨b, 2, none⟩ (.int .i64 (n0 % 8))).setCell ⟨b, 3, none⟩ (.int .i64 n1)).setCell ⟨b, 4, none⟩ (.int .i64 n2)).setCell ⟨b, 5, none⟩ (.int .i64 v4)).setCell ⟨b, 6, none⟩ (.int .i64 v5)).setCell ⟨b, 7, none⟩ (.int .i64 0)).setCell ⟨b, 8, none⟩ (.int .i64 0)).setCell ⟨b, 9, none⟩ (.int .i64 0)).setCell ⟨b, 10, none⟩ (.int .i64 0)), ?_, ?_⟩
    · go_simp
      try rfl
    clear f0 f1 f2 f3 f4 f5 f6 f7 f8 f9 f10 z0 z1 z2 z3 z4 z5 z6 z7 z8 z9 z10
    obtain ⟨V, hV⟩ : ∃ V, V = (((((((((((w'.setCell ⟨b, 0, none⟩ (.int .i64 (n0 / 64))).setCell ⟨b, 1, none⟩ (.int .i64 (n0 / 8 % 8))).setCell ⟨b, 2, none⟩ (.int .i64 (n0 % 8))).setCell ⟨b, 3, none⟩ (.int .i64 n1)).setCell ⟨b, 4, none⟩ (.int .i64 n2)).setCell ⟨b, 5, none⟩ (.int .i64 v4)).setCell ⟨b, 6, none⟩ (.int .i64 v5)).setCell ⟨b, 7, none⟩ (.int .i64 0)).setCell ⟨b, 8, none⟩ (.int .i64 0)).setCell ⟨b, 9, none⟩ (.int .i64 0)).setCell ⟨b, 10, none⟩ (.int .i64 0)) := ⟨_, rfl⟩
    rw [← hV]
    have Q2 : V.heap[b]? = some (.cells #[.int .i64 (⟨n0 / 64, n0 / 8 % 8, n0 % 8, n1, n2, v4, v5, 0, 0, 0, 0⟩ : Pk).leap, .int .i64 (⟨n0 / 64, n0 / 8 % 8, n0 % 8, n1, n2, v4, v5, 0, 0, 0, 0⟩ : Pk).version, .int .i64 (⟨n0 / 64, n0 / 8 % 8, n0 % 8, n1, n2, v4, v5, 0, 0, 0, 0⟩ : Pk).mode, .int .i64 (⟨n0 / 64, n0 / 8 % 8, n0 % 8, n1, n2, v4, v5, 0, 0, 0, 0⟩ : Pk).stratum, .int .i64 (⟨n0 / 64, n0 / 8 % 8, n0 % 8, n1, n2, v4, v5, 0, 0, 0, 0⟩ : Pk).poll, .int .i64 (⟨n0 / 64, n0 / 8 % 8, n0 % 8, n1, n2, v4, v5, 0, 0, 0, 0⟩ : Pk).delay, .int .i64 (⟨n0 / 64, n0 / 8 % 8, n0 % 8, n1, n2, v4, v5, 0, 0, 0, 0⟩ : Pk).disp, .int .i64 (⟨n0 / 64, n0 / 8 % 8, n0 % 8, n1, n2, v4, v5, 0, 0, 0, 0⟩ : Pk).ref, .int .i64 (⟨n0 / 64, n0 / 8 % 8, n0 % 8, n1, n2, v4, v5, 0, 0, 0, 0⟩ : Pk).orig, .int .i64 (⟨n0 / 64, n0 / 8 % 8, n0 % 8, n1, n2, v4, v5, 0, 0, 0, 0⟩ : Pk).recv, .int .i64 (⟨n0 / 64, n0 / 8 % 8, n0 % 8, n1, n2, v4, v5, 0, 0, 0, 0⟩ : Pk).xmit] 25) := by
      rw [hV]
      exact rp_put Q1 ⟨n0 / 64, n0 / 8 % 8, n0 % 8, n1, n2, v4, v5, 0, 0, 0, 0⟩
    have R2 : V.heap[w.heap.size]? = some (.cells #[.int .i64 zeroPk.leap, .int .i64 zeroPk.version, .int .i64 zeroPk.mode, .int .i64 zeroPk.stratum, .int .i64 zeroPk.poll, .int .i64 zeroPk.delay, .int .i64 zeroPk.disp, .int .i64 zeroPk.ref, .int .i64 zeroPk.orig, .int .i64 zeroPk.recv, .int .i64 zeroPk.xmit] 25) := by
      rw [hV]
      exact rp_other R1 hne ⟨n0 / 64, n0 / 8 % 8, n0 % 8, n1, n2, v4, v5, 0, 0, 0, 0⟩
    have G2 : Below w.heap.size w V := by
      rw [hV]
      exact rp_below G1 hge ⟨n0 / 64, n0 / 8 % 8, n0 % 8, n1, n2, v4, v5, 0, 0, 0, 0⟩
    clear hV Q1 R1 G1
    go_wp2_with fail
    refine (T1.out _).mono ?_
    rintro e w2 ⟨rfl, g⟩
    have Q3 := blk_next g Q2
    have R3 := blk_next g R2
    have G3 := grow_next G2 g
    clear Q2 R2 G2 g T1
    go_wp2_with fail
    refine (T2.out _).mono ?_
    rintro e w3 ⟨rfl, g⟩
    have Q4 := blk_next g Q3
    have R4 := blk_next g R3
    have G4 := grow_next G3 g
    clear Q3 R3 G3 g T2
    go_wp2_with fail
    refine (T3.out _).mono ?_
    rintro e w4 ⟨rfl, g⟩
    have Q5 := blk_next g Q4
    have R5 := blk_next g R4
    have G5 := grow_next G4 g
    clear Q4 R4 G4 g T3
    go_wp2_with fail
    refine (T4.out _).mono ?_
    rintro e w5 ⟨rfl, g⟩
    have Q6 := blk_next g Q5
    have R6 := blk_next g R5
    have G6 := grow_next G5 g
    clear Q5 R5 G5 g T4
    have ff := packetP_thaw (q := ⟨n0 / 64, n0 / 8 % 8, n0 % 8, n1, n2, v4, v5, 0, 0, 0, 0⟩) Q6
    have f0 := ff 0 (by omega)
    have f1 := ff 1 (by omega)
    have f2 := ff 2 (by omega)
    have f3 := ff 3 (by omega)
    have f4 := ff 4 (by omega)
    have f5 := ff 5 (by omega)
    have f6 := ff 6 (by omega)
    have f7 := ff 7 (by omega)
    have f8 := ff 8 (by omega)
    have f9 := ff 9 (by omega)
    have f10 := ff 10 (by omega)
    clear ff
    obtain ⟨z0, z1, z2, z3, z4, z5, z6, z7, z8, z9, z10⟩ := packet_cells (q := ⟨n0 / 64, n0 / 8 % 8, n0 % 8, n1, n2, v4, v5, 0, 0, 0, 0⟩) Q6
    dsimp only at z0 z1 z2 z3 z4 z5 z6 z7 z8 z9 z10
    go_upto_region 12 with (fail)
    obtain ⟨V, hV⟩ : ∃ V, V = ((((w5.setCell ⟨b, 7, none⟩ (.int .i64 t1)).setCell ⟨b, 8, none⟩ (.int .i64 t2)).setCell ⟨b, 9, none⟩ (.int .i64 t3)).setCell ⟨b, 10, none⟩ (.int .i64 t4)) := ⟨_, rfl⟩
    rw [← hV]
    have Q7 : V.heap[b]? = some (.cells #[.int .i64 q.leap, .int .i64 q.version, .int .i64 q.mode, .int .i64 q.stratum, .int .i64 q.poll, .int .i64 q.delay, .int .i64 q.disp, .int .i64 q.ref, .int .i64 q.orig, .int .i64 q.recv, .int .i64 q.xmit] 25) := by
      rw [hV, HPK.out]
      exact heapP_set (heapP_set (heapP_set (heapP_set Q6 7 _) 8 _) 9 _) 10 _
    have R7 : V.heap[w.heap.size]? = some (.cells #[.int .i64 zeroPk.leap, .int .i64 zeroPk.version, .int .i64 zeroPk.mode, .int .i64 zeroPk.stratum, .int .i64 zeroPk.poll, .int .i64 zeroPk.delay, .int .i64 zeroPk.disp, .int .i64 zeroPk.ref, .int .i64 zeroPk.orig, .int .i64 zeroPk.recv, .int .i64 zeroPk.xmit] 25) := by
      rw [hV]
      exact heapP_other (heapP_other (heapP_other (heapP_other R6 hne _ _) hne _ _) hne _ _) hne _ _
    have G7 : Below w.heap.size w V := by
      rw [hV]
      exact rp_below1 (rp_below1 (rp_below1 (rp_below1 G6 hge _ _) hge _ _) hge _ _) hge _ _
    clear hV Q6 R6 G6 f0 f1 f2 f3 f4 f5 f6 f7 f8 f9 f10 z0 z1 z2 z3 z4 z5 z6 z7 z8 z9 z10
    cases k1 with
    | false =>
      have HR := Lib.hid (HFALSE.out (by rw [HST.out]; rfl))
      have ff := packetP_thaw R7
      have f0 := ff 0 (by omega)
      have f1 := ff 1 (by omega)
      have f2 := ff 2 (by omega)
      have f3 := ff 3 (by omega)
      have f4 := ff 4 (by omega)
      have f5 := ff 5 (by omega)
      have f6 := ff 6 (by omega)
      have f7 := ff 7 (by omega)
      have f8 := ff 8 (by omega)
      have f9 := ff 9 (by omega)
      have f10 := ff 10 (by omega)
      clear ff
      obtain ⟨z0, z1, z2, z3, z4, z5, z6, z7, z8, z9, z10⟩ := packet_cells R7
      go_wp2_with fail
      obtain ⟨Z, hZ⟩ : ∃ Z, Z = (((((((((((V.setCell ⟨w.heap.size, 0, none⟩ (.int .i64 0)).setCell ⟨w.heap.size, 1, none⟩ (.int .i64 0)).setCell ⟨w.heap.size, 2, none⟩ (.int .i64 0)).setCell ⟨w.heap.size, 3, none⟩ (.int .i64 0)).setCell ⟨w.heap.size, 4, none⟩ (.int .i64 0)).setCell ⟨w.heap.size, 5, none⟩ (.int .i64 0)).setCell ⟨w.heap.size, 6, none⟩ (.int .i64 0)).setCell ⟨w.heap.size, 7, none⟩ (.int .i64 0)).setCell ⟨w.heap.size, 8, none⟩ (.int .i64 0)).setCell ⟨w.heap.size, 9, none⟩ (.int .i64 0)).setCell ⟨w.heap.size, 10, none⟩ (.int .i64 0)) := ⟨_, rfl⟩
      have hK : Z.heap[w.heap.size]? = some (.cells #[.int .i64 zeroPk.leap, .int .i64 zeroPk.version, .int .i64 zeroPk.mode, .int .i64 zeroPk.stratum, .int .i64 zeroPk.poll, .int .i64 zeroPk.delay, .int .i64 zeroPk.disp, .int .i64 zeroPk.ref, .int .i64 zeroPk.orig, .int .i64 zeroPk.recv, .int .i64 zeroPk.xmit] 25) := by
        rw [hZ]
        exact rp_put R7 zeroPk
      have hG := (show Below w.heap.size w Z by rw [hZ]; exact rp_below G7 (Nat.le_refl _) zeroPk)
      rw [← hZ]
      obtain ⟨rx0, rx1, rx2, rx3, rx4, rx5, rx6, rx7, rx8, rx9, rx10⟩ := packet_cells hK
      clear f0 f1 f2 f3 f4 f5 f6 f7 f8 f9 f10 z0 z1 z2 z3 z4 z5 z6 z7 z8 z9 z10
      try simp only [Exit.inBlock, Exit.then]
      refine bodyPost_ret (by simp [results, Tryd.results21, go_sem, rx0, rx1, rx2, rx3, rx4, rx5, rx6, rx7, rx8, rx9, rx10]; try rfl) rfl ?_
      exact ⟨by rw [HR.out.1, HR.out.2]; try rfl, hG⟩
    | true =>
      cases k2 with
      | false =>
        have HR := Lib.hid (HFALSE.out (by rw [HST.out]; rfl))
        have ff := packetP_thaw R7
        have f0 := ff 0 (by omega)
        have f1 := ff 1 (by omega)
        have f2 := ff 2 (by omega)
        have f3 := ff 3 (by omega)
        have f4 := ff 4 (by omega)
        have f5 := ff 5 (by omega)
        have f6 := ff 6 (by omega)
        have f7 := ff 7 (by omega)
        have f8 := ff 8 (by omega)
        have f9 := ff 9 (by omega)
        have f10 := ff 10 (by omega)
        clear ff
        obtain ⟨z0, z1, z2, z3, z4, z5, z6, z7, z8, z9, z10⟩ := packet_cells R7
        go_wp2_with fail
        obtain ⟨Z, hZ⟩ : ∃ Z, Z = (((((((((((V.setCell ⟨w.heap.size, 0, none⟩ (.int .i64 0)).setCell ⟨w.heap.size, 1, none⟩ (.int .i64 0)).setCell ⟨w.heap.size, 2, none⟩ (.int .i64 0)).setCell ⟨w.heap.size, 3, none⟩ (.int .i64 0)).setCell ⟨w.heap.size, 4, none⟩ (.int .i64 0)).setCell ⟨w.heap.size, 5, none⟩ (.int .i64 0)).setCell ⟨w.heap.size, 6, none⟩ (.int .i64 0)).setCell ⟨w.heap.size, 7, none⟩ (.int .i64 0)).setCell ⟨w.heap.size, 8, none⟩ (.int .i64 0)).setCell ⟨w.heap.size, 9, none⟩ (.int .i64 0)).setCell ⟨w.heap.size, 10, none⟩ (.int .i64 0)) := ⟨_, rfl⟩
        have hK : Z.heap[w.heap.size]? = some (.cells #[.int .i64 zeroPk.leap, .int .i64 zeroPk.version, .int .i64 zeroPk.mode, .int .i64 zeroPk.stratum, .int .i64 zeroPk.poll, .int .i64 zeroPk.delay, .int .i64 zeroPk.disp, .int .i64 zeroPk.ref, .int .i64 zeroPk.orig, .int .i64 zeroPk.recv, .int .i64 zeroPk.xmit] 25) := by
          rw [hZ]
          exact rp_put R7 zeroPk
        have hG := (show Below w.heap.size w Z by rw [hZ]; exact rp_below G7 (Nat.le_refl _) zeroPk)
        rw [← hZ]
        obtain ⟨rx0, rx1, rx2, rx3, rx4, rx5, rx6, rx7, rx8, rx9, rx10⟩ := packet_cells hK
        clear f0 f1 f2 f3 f4 f5 f6 f7 f8 f9 f10 z0 z1 z2 z3 z4 z5 z6 z7 z8 z9 z10
        try simp only [Exit.inBlock, Exit.then]
        refine bodyPost_ret (by simp [results, Tryd.results21, go_sem, rx0, rx1, rx2, rx3, rx4, rx5, rx6, rx7, rx8, rx9, rx10]; try rfl) rfl ?_
        exact ⟨by rw [HR.out.1, HR.out.2]; try rfl, hG⟩
      | true =>
        cases k3 with
        | false =>
          have HR := Lib.hid (HFALSE.out (by rw [HST.out]; rfl))
          have ff := packetP_thaw R7
          have f0 := ff 0 (by omega)
          have f1 := ff 1 (by omega)
          have f2 := ff 2 (by omega)
          have f3 := ff 3 (by omega)
          have f4 := ff 4 (by omega)
          have f5 := ff 5 (by omega)
          have f6 := ff 6 (by omega)
          have f7 := ff 7 (by omega)
          have f8 := ff 8 (by omega)
          have f9 := ff 9 (by omega)
          have f10 := ff 10 (by omega)
          clear ff
          obtain ⟨z0, z1, z2, z3, z4, z5, z6, z7, z8, z9, z10⟩ := packet_cells R7
          go_wp2_with fail
          obtain ⟨Z, hZ⟩ : ∃ Z, Z = (((((((((((V.setCell ⟨w.heap.size, 0, none⟩ (.int .i64 0)).setCell ⟨w.heap.size, 1, none⟩ (.int .i64 0)).setCell ⟨w.heap.size, 2, none⟩ (.int .i64 0)).setCell ⟨w.heap.size, 3, none⟩ (.int .i64 0)).setCell ⟨w.heap.size, 4, none⟩ (.int .i64 0)).setCell ⟨w.heap.size, 5, none⟩ (.int .i64 0)).setCell ⟨w.heap.size, 6, none⟩ (.int .i64 0)).setCell ⟨w.heap.size, 7, none⟩ (.int .i64 0)).setCell ⟨w.heap.size, 8, none⟩ (.int .i64 0)).setCell ⟨w.heap.size, 9, none⟩ (.int .i64 0)).setCell ⟨w.heap.size, 10, none⟩ (.int .i64 0)) := ⟨_, rfl⟩
          have hK : Z.heap[w.heap.size]? = some (.cells #[.int .i64 zeroPk.leap, .int .i64 zeroPk.version, .int .i64 zeroPk.mode, .int .i64 zeroPk.stratum, .int .i64 zeroPk.poll, .int .i64 zeroPk.delay, .int .i64 zeroPk.disp, .int .i64 zeroPk.ref, .int .i64 zeroPk.orig, .int .i64 zeroPk.recv, .int .i64 zeroPk.xmit] 25) := by
            rw [hZ]
            exact rp_put R7 zeroPk
          have hG := (show Below w.heap.size w Z by rw [hZ]; exact rp_below G7 (Nat.le_refl _) zeroPk)
          rw [← hZ]
          obtain ⟨rx0, rx1, rx2, rx3, rx4, rx5, rx6, rx7, rx8, rx9, rx10⟩ := packet_cells hK
          clear f0 f1 f2 f3 f4 f5 f6 f7 f8 f9 f10 z0 z1 z2 z3 z4 z5 z6 z7 z8 z9 z10
          try simp only [Exit.inBlock, Exit.then]
          refine bodyPost_ret (by simp [results, Tryd.results21, go_sem, rx0, rx1, rx2, rx3, rx4, rx5, rx6, rx7, rx8, rx9, rx10]; try rfl) rfl ?_
          exact ⟨by rw [HR.out.1, HR.out.2]; try rfl, hG⟩
        | true =>
          cases k4 with
          | false =>
            have HR := Lib.hid (HFALSE.out (by rw [HST.out]; rfl))
            have ff := packetP_thaw R7
            have f0 := ff 0 (by omega)
            have f1 := ff 1 (by omega)
            have f2 := ff 2 (by omega)
            have f3 := ff 3 (by omega)
            have f4 := ff 4 (by omega)
            have f5 := ff 5 (by omega)
            have f6 := ff 6 (by omega)
            have f7 := ff 7 (by omega)
            have f8 := ff 8 (by omega)
            have f9 := ff 9 (by omega)
            have f10 := ff 10 (by omega)
            clear ff
            obtain ⟨z0, z1, z2, z3, z4, z5, z6, z7, z8, z9, z10⟩ := packet_cells R7
            go_wp2_with fail
            obtain ⟨Z, hZ⟩ : ∃ Z, Z = (((((((((((V.setCell ⟨w.heap.size, 0, none⟩ (.int .i64 0)).setCell ⟨w.heap.size, 1, none⟩ (.int .i64 0)).setCell ⟨w.heap.size, 2, none⟩ (.int .i64 0)).setCell ⟨w.heap.size, 3, none⟩ (.int .i64 0)).setCell ⟨w.heap.size, 4, none⟩ (.int .i64 0)).setCell ⟨w.heap.size, 5, none⟩ (.int .i64 0)).setCell ⟨w.heap.size, 6, none⟩ (.int .i64 0)).setCell ⟨w.heap.size, 7, none⟩ (.int .i64 0)).setCell ⟨w.heap.size, 8, none⟩ (.int .i64 0)).setCell ⟨w.heap.size, 9, none⟩ (.int .i64 0)).setCell ⟨w.heap.size, 10, none⟩ (.int .i64 0)) := ⟨_, rfl⟩
            have hK : Z.heap[w.heap.size]? = some (.cells #[.int .i64 zeroPk.leap, .int .i64 zeroPk.version, .int .i64 zeroPk.mode, .int .i64 zeroPk.stratum, .int .i64 zeroPk.poll, .int .i64 zeroPk.delay, .int .i64 zeroPk.disp, .int .i64 zeroPk.ref, .int .i64 zeroPk.orig, .int .i64 zeroPk.recv, .int .i64 zeroPk.xmit] 25) := by
              rw [hZ]
              exact rp_put R7 zeroPk
            have hG := (show Below w.heap.size w Z by rw [hZ]; exact rp_below G7 (Nat.le_refl _) zeroPk)
            rw [← hZ]
            obtain ⟨rx0, rx1, rx2, rx3, rx4, rx5, rx6, rx7, rx8, rx9, rx10⟩ := packet_cells hK
            clear f0 f1 f2 f3 f4 f5 f6 f7 f8 f9 f10 z0 z1 z2 z3 z4 z5 z6 z7 z8 z9 z10
            try simp only [Exit.inBlock, Exit.then]
            refine bodyPost_ret (by simp [results, Tryd.results21, go_sem, rx0, rx1, rx2, rx3, rx4, rx5, rx6, rx7, rx8, rx9, rx10]; try rfl) rfl ?_
            exact ⟨by rw [HR.out.1, HR.out.2]; try rfl, hG⟩
          | true =>
            obtain ⟨z0, z1, z2, z3, z4, z5, z6, z7, z8, z9, z10⟩ := packet_cells Q7
            go_wp2_with fail
            refine (HB.out _).mono ?_
            rintro e w9 ⟨rfl, g⟩
            have Q8 := blk_next g Q7
            have R8 := blk_next g R7
            have G8 := grow_next G7 g
            have he := HSAME.out (by rw [HST.out]; rfl)
            obtain ⟨r, hr⟩ : ∃ r, rpOk s = r := ⟨_, rfl⟩
            have HR := Lib.hid (show rpOk s = r ∧ rpRes s = bif r then q else zeroPk from ⟨hr, by rw [HRES.out, hr]⟩)
            rw [hr] at he
            clear hr Q7 R7 G7 g HB HSAME HFALSE HRES HST HPK z0 z1 z2 z3 z4 z5 z6 z7 z8 z9 z10
            cases r with
            | false =>
              have ff := packetP_thaw R8
              have f0 := ff 0 (by omega)
              have f1 := ff 1 (by omega)
              have f2 := ff 2 (by omega)
              have f3 := ff 3 (by omega)
              have f4 := ff 4 (by omega)
              have f5 := ff 5 (by omega)
              have f6 := ff 6 (by omega)
              have f7 := ff 7 (by omega)
              have f8 := ff 8 (by omega)
              have f9 := ff 9 (by omega)
              have f10 := ff 10 (by omega)
              clear ff
              obtain ⟨z0, z1, z2, z3, z4, z5, z6, z7, z8, z9, z10⟩ := packet_cells R8
              go_wp2_with fail
              obtain ⟨Z, hZ⟩ : ∃ Z, Z = (((((((((((w9.setCell ⟨w.heap.size, 0, none⟩ (.int .i64 0)).setCell ⟨w.heap.size, 1, none⟩ (.int .i64 0)).setCell ⟨w.heap.size, 2, none⟩ (.int .i64 0)).setCell ⟨w.heap.size, 3, none⟩ (.int .i64 0)).setCell ⟨w.heap.size, 4, none⟩ (.int .i64 0)).setCell ⟨w.heap.size, 5, none⟩ (.int .i64 0)).setCell ⟨w.heap.size, 6, none⟩ (.int .i64 0)).setCell ⟨w.heap.size, 7, none⟩ (.int .i64 0)).setCell ⟨w.heap.size, 8, none⟩ (.int .i64 0)).setCell ⟨w.heap.size, 9, none⟩ (.int .i64 0)).setCell ⟨w.heap.size, 10, none⟩ (.int .i64 0)) := ⟨_, rfl⟩
              have hK : Z.heap[w.heap.size]? = some (.cells #[.int .i64 zeroPk.leap, .int .i64 zeroPk.version, .int .i64 zeroPk.mode, .int .i64 zeroPk.stratum, .int .i64 zeroPk.poll, .int .i64 zeroPk.delay, .int .i64 zeroPk.disp, .int .i64 zeroPk.ref, .int .i64 zeroPk.orig, .int .i64 zeroPk.recv, .int .i64 zeroPk.xmit] 25) := by
                rw [hZ]
                exact rp_put R8 zeroPk
              have hG := (show Below w.heap.size w Z by rw [hZ]; exact rp_below G8 (Nat.le_refl _) zeroPk)
              rw [← hZ]
              obtain ⟨rx0, rx1, rx2, rx3, rx4, rx5, rx6, rx7, rx8, rx9, rx10⟩ := packet_cells hK
              clear f0 f1 f2 f3 f4 f5 f6 f7 f8 f9 f10 z0 z1 z2 z3 z4 z5 z6 z7 z8 z9 z10
              try simp only [Exit.inBlock, Exit.then]
              refine bodyPost_ret (by simp [results, Tryd.results21, go_sem, rx0, rx1, rx2, rx3, rx4, rx5, rx6, rx7, rx8, rx9, rx10]; try rfl) rfl ?_
              exact ⟨by rw [HR.out.1, HR.out.2]; try rfl, hG⟩
            | true =>
              have ff := packetP_thaw R8
              have f0 := ff 0 (by omega)
              have f1 := ff 1 (by omega)
              have f2 := ff 2 (by omega)
              have f3 := ff 3 (by omega)
              have f4 := ff 4 (by omega)
              have f5 := ff 5 (by omega)
              have f6 := ff 6 (by omega)
              have f7 := ff 7 (by omega)
              have f8 := ff 8 (by omega)
              have f9 := ff 9 (by omega)
              have f10 := ff 10 (by omega)
              clear ff
              obtain ⟨z0, z1, z2, z3, z4, z5, z6, z7, z8, z9, z10⟩ := packet_cells R8
              obtain ⟨y0, y1, y2, y3, y4, y5, y6, y7, y8, y9, y10⟩ := packet_cells Q8
              go_wp2_with fail
              obtain ⟨Z, hZ⟩ : ∃ Z, Z = (((((((((((w9.setCell ⟨w.heap.size, 0, none⟩ (.int .i64 q.leap)).setCell ⟨w.heap.size, 1, none⟩ (.int .i64 q.version)).setCell ⟨w.heap.size, 2, none⟩ (.int .i64 q.mode)).setCell ⟨w.heap.size, 3, none⟩ (.int .i64 q.stratum)).setCell ⟨w.heap.size, 4, none⟩ (.int .i64 q.poll)).setCell ⟨w.heap.size, 5, none⟩ (.int .i64 q.delay)).setCell ⟨w.heap.size, 6, none⟩ (.int .i64 q.disp)).setCell ⟨w.heap.size, 7, none⟩ (.int .i64 q.ref)).setCell ⟨w.heap.size, 8, none⟩ (.int .i64 q.orig)).setCell ⟨w.heap.size, 9, none⟩ (.int .i64 q.recv)).setCell ⟨w.heap.size, 10, none⟩ (.int .i64 q.xmit)) := ⟨_, rfl⟩
              have hK : Z.heap[w.heap.size]? = some (.cells #[.int .i64 q.leap, .int .i64 q.version, .int .i64 q.mode, .int .i64 q.stratum, .int .i64 q.poll, .int .i64 q.delay, .int .i64 q.disp, .int .i64 q.ref, .int .i64 q.orig, .int .i64 q.recv, .int .i64 q.xmit] 25) := by
                rw [hZ]
                exact rp_put R8 q
              have hG := (show Below w.heap.size w Z by rw [hZ]; exact rp_below G8 (Nat.le_refl _) q)
              rw [← hZ]
              obtain ⟨rx0, rx1, rx2, rx3, rx4, rx5, rx6, rx7, rx8, rx9, rx10⟩ := packet_cells hK
              clear f0 f1 f2 f3 f4 f5 f6 f7 f8 f9 f10 z0 z1 z2 z3 z4 z5 z6 z7 z8 z9 z10 y0 y1 y2 y3 y4 y5 y6 y7 y8 y9 y10
              try simp only [Exit.inBlock, Exit.then]
              refine bodyPost_ret (by simp [results, Tryd.results21, go_sem, rx0, rx1, rx2, rx3, rx4, rx5, rx6, rx7, rx8, rx9, rx10]; try rfl) rfl ?_
              exact ⟨by rw [HR.out.1, HR.out.2]; try rfl, hG⟩
  · have q1 : ((s.size : Int) == 48) = false := by simp; omega
    have q2 : ((s.size : Int) != 48) = true := by simp; omega
    have HR := Lib.hid (show rpOk s = false ∧ rpRes s = zeroPk from by
      have e : rpOk s = false := by
        unfold rpOk
        rw [decide_eq_false h0]
        simp
      refine ⟨e, ?_⟩
      unfold rpRes; rw [e]; rfl)
    have Q0 : (w.alloc (.cells #[.int .i64 0, .int .i64 0, .int .i64 0, .int .i64 0, .int .i64 0, .int .i64 0, .int .i64 0, .int .i64 0, .int .i64 0, .int .i64 0, .int .i64 0] 25)).heap[w.heap.size]? = some (.cells #[.int .i64 zeroPk.leap, .int .i64 zeroPk.version, .int .i64 zeroPk.mode, .int .i64 zeroPk.stratum, .int .i64 zeroPk.poll, .int .i64 zeroPk.delay, .int .i64 zeroPk.disp, .int .i64 zeroPk.ref, .int .i64 zeroPk.orig, .int .i64 zeroPk.recv, .int .i64 zeroPk.xmit] 25) := blk_new w _
    have G0 : Below w.heap.size w (w.alloc (.cells #[.int .i64 0, .int .i64 0, .int .i64 0, .int .i64 0, .int .i64 0, .int .i64 0, .int .i64 0, .int .i64 0, .int .i64 0, .int .i64 0, .int .i64 0] 25)) := below_new _ _
    go_enter Tryd.func21, Tryd.ntmps21
    obtain ⟨rx0, rx1, rx2, rx3, rx4, rx5, rx6, rx7, rx8, rx9, rx10⟩ := packet_cells Q0
    go_wp2_with fail
    try simp only [Exit.inBlock, Exit.then]
    refine bodyPost_ret (by simp [results, Tryd.results21, go_sem, rx0, rx1, rx2, rx3, rx4, rx5, rx6, rx7, rx8, rx9, rx10]; try rfl) rfl ?_
    exact ⟨by rw [HR.out.1, HR.out.2]; try rfl, G0⟩
end Go.Proofs.YteecemjbkpkpaaaDoor
