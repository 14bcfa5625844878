/- The program's packet: what it answers, and where it gives up. -/
import Derived.Test.YteecemjbkpkpaaaDoorRpPacket
import Derived.Deep.Cut
import Derived.Deep.CutRange
namespace Go.Proofs.YteecemjbkpkpaaaDoor
open Go.ChangeShapes Go.WideShapes Go.ChangeAt Go.RowKit
set_option linter.unusedVariables false
set_option linter.unusedSimpArgs false

theorem rpOk_short {s : ByteArray} (h : s.size < 48) : rpOk s = false := by
  unfold rpOk
  rw [show decide (s.size = 48) = false from decide_eq_false (by omega)]
  simp
theorem rpOk_b3 {s : ByteArray} (h : by1 s 3 ≠ 236) : rpOk s = false := by
  unfold rpOk
  rw [show (by1 s 3 == 236) = false by simp [h]]
  simp
theorem rpOk_b12 {s : ByteArray} (h : by4 s 12 ≠ 0) : rpOk s = false := by
  unfold rpOk
  rw [show (by4 s 12 == 0) = false by simp [h]]
  simp
theorem rpOk_st {s : ByteArray} (h : rpSt s = false) : rpOk s = false := by
  unfold rpOk
  rw [h]
  simp
theorem rpSt_1 {s : ByteArray} (h : stampOk (s.extract 16 24) = false) : rpSt s = false := by unfold rpSt; rw [h]; simp
theorem rpSt_2 {s : ByteArray} (h : stampOk (s.extract 24 32) = false) : rpSt s = false := by unfold rpSt; rw [h]; simp
theorem rpSt_3 {s : ByteArray} (h : stampOk (s.extract 32 40) = false) : rpSt s = false := by unfold rpSt; rw [h]; simp
theorem rpSt_4 {s : ByteArray} (h : stampOk (s.extract 40 48) = false) : rpSt s = false := by unfold rpSt; rw [h]; simp
/-- What the program's packet answers, or that it gives up. -/
def PacketPost (W : World) (a : Nat) (s : ByteArray) : Ending → World → Prop := fun e w' =>
  ((48 ≤ s.size ∧ by1 s 3 = 236 ∧ by4 s 12 = 0 ∧ rpSt s = true ∧ e = .returned (.agg #[.int .i64 ((rpPk s)).leap, .int .i64 ((rpPk s)).version, .int .i64 ((rpPk s)).mode, .int .i64 ((rpPk s)).stratum, .int .i64 ((rpPk s)).poll, .int .i64 ((rpPk s)).delay, .int .i64 ((rpPk s)).disp, .int .i64 ((rpPk s)).ref, .int .i64 ((rpPk s)).orig, .int .i64 ((rpPk s)).recv, .int .i64 ((rpPk s)).xmit]) ∧ Rp w' a (restP s 48)) ∨ (rpOk s = false ∧ e = .panicked gaveUp)) ∧ W.grownBy w' (some a)
theorem rp_put {W : World} {b : Nat} {T : TypeId} {q : Pk} (h : W.heap[b]? = some (.cells #[.int .i64 q.leap, .int .i64 q.version, .int .i64 q.mode, .int .i64 q.stratum, .int .i64 q.poll, .int .i64 q.delay, .int .i64 q.disp, .int .i64 q.ref, .int .i64 q.orig, .int .i64 q.recv, .int .i64 q.xmit] T)) (r : Pk) :
    (((((((((((W.setCell ⟨b, 0, none⟩ (.int .i64 r.leap)).setCell ⟨b, 1, none⟩ (.int .i64 r.version)).setCell ⟨b, 2, none⟩ (.int .i64 r.mode)).setCell ⟨b, 3, none⟩ (.int .i64 r.stratum)).setCell ⟨b, 4, none⟩ (.int .i64 r.poll)).setCell ⟨b, 5, none⟩ (.int .i64 r.delay)).setCell ⟨b, 6, none⟩ (.int .i64 r.disp)).setCell ⟨b, 7, none⟩ (.int .i64 r.ref)).setCell ⟨b, 8, none⟩ (.int .i64 r.orig)).setCell ⟨b, 9, none⟩ (.int .i64 r.recv)).setCell ⟨b, 10, none⟩ (.int .i64 r.xmit)).heap[b]? = some (.cells #[.int .i64 r.leap, .int .i64 r.version, .int .i64 r.mode, .int .i64 r.stratum, .int .i64 r.poll, .int .i64 r.delay, .int .i64 r.disp, .int .i64 r.ref, .int .i64 r.orig, .int .i64 r.recv, .int .i64 r.xmit] T) := by
  simp [World.setCell, Array.getElem?_modify, h]
theorem rp_other {W : World} {b k : Nat} {o : Obj} (h : W.heap[k]? = some o) (hne : b ≠ k) (r : Pk) :
    (((((((((((W.setCell ⟨b, 0, none⟩ (.int .i64 r.leap)).setCell ⟨b, 1, none⟩ (.int .i64 r.version)).setCell ⟨b, 2, none⟩ (.int .i64 r.mode)).setCell ⟨b, 3, none⟩ (.int .i64 r.stratum)).setCell ⟨b, 4, none⟩ (.int .i64 r.poll)).setCell ⟨b, 5, none⟩ (.int .i64 r.delay)).setCell ⟨b, 6, none⟩ (.int .i64 r.disp)).setCell ⟨b, 7, none⟩ (.int .i64 r.ref)).setCell ⟨b, 8, none⟩ (.int .i64 r.orig)).setCell ⟨b, 9, none⟩ (.int .i64 r.recv)).setCell ⟨b, 10, none⟩ (.int .i64 r.xmit)).heap[k]? = some o := by
  simp [World.setCell, Array.getElem?_modify, hne, h]
theorem rp_gr1 {w W : World} {row : Option Nat} {b : Nat} (h : w.grownBy W row) (hb : w.heap.size ≤ b) (o : Nat) (v : Value) : w.grownBy (W.setCell ⟨b, o, none⟩ v) row :=
  ⟨h.os, h.tape, h.output, by simpa [World.setCell] using h.size, fun j hj hne => by
      have : b ≠ j := by omega
      rw [← h.block j hj hne]
      simp [World.setCell, Array.getElem?_modify, this]⟩
theorem rp_gr {w W : World} {row : Option Nat} {b : Nat} (h : w.grownBy W row) (hb : w.heap.size ≤ b) (r : Pk) :
    w.grownBy (((((((((((W.setCell ⟨b, 0, none⟩ (.int .i64 r.leap)).setCell ⟨b, 1, none⟩ (.int .i64 r.version)).setCell ⟨b, 2, none⟩ (.int .i64 r.mode)).setCell ⟨b, 3, none⟩ (.int .i64 r.stratum)).setCell ⟨b, 4, none⟩ (.int .i64 r.poll)).setCell ⟨b, 5, none⟩ (.int .i64 r.delay)).setCell ⟨b, 6, none⟩ (.int .i64 r.disp)).setCell ⟨b, 7, none⟩ (.int .i64 r.ref)).setCell ⟨b, 8, none⟩ (.int .i64 r.orig)).setCell ⟨b, 9, none⟩ (.int .i64 r.recv)).setCell ⟨b, 10, none⟩ (.int .i64 r.xmit)) row := by
  repeat (refine rp_gr1 ?_ hb _ _)
  exact h
set_option maxRecDepth 100000 in
set_option maxHeartbeats 4000000 in
theorem packet_p (s : ByteArray) (hs : s.size ≤ 1048576) (a : Nat) (w : World) (h : Rp w a s) :
    Calls Tryd.prog 49 #[.pointer (some ⟨a, 0, none⟩)] w (PacketPost w a s) := by
  have h0 : Rp w a (restP s 0) := by
    have e : restP s 0 = s := allP s s.size (Nat.le_refl _)
    rw [e]; exact h
  have al : a < w.heap.size := (Array.getElem?_eq_some_iff.1 h).1
  have Q0 := blk_new w (.cells #[.int .i64 zeroPk.leap, .int .i64 zeroPk.version, .int .i64 zeroPk.mode, .int .i64 zeroPk.stratum, .int .i64 zeroPk.poll, .int .i64 zeroPk.delay, .int .i64 zeroPk.disp, .int .i64 zeroPk.ref, .int .i64 zeroPk.orig, .int .i64 zeroPk.recv, .int .i64 zeroPk.xmit] 25)
  have R0 := h0.next (below_new w (.cells #[.int .i64 zeroPk.leap, .int .i64 zeroPk.version, .int .i64 zeroPk.mode, .int .i64 zeroPk.stratum, .int .i64 zeroPk.poll, .int .i64 zeroPk.delay, .int .i64 zeroPk.disp, .int .i64 zeroPk.ref, .int .i64 zeroPk.orig, .int .i64 zeroPk.recv, .int .i64 zeroPk.xmit] 25))
  have G0 := grownP_below (row := some a) (below_new w (.cells #[.int .i64 zeroPk.leap, .int .i64 zeroPk.version, .int .i64 zeroPk.mode, .int .i64 zeroPk.stratum, .int .i64 zeroPk.poll, .int .i64 zeroPk.delay, .int .i64 zeroPk.disp, .int .i64 zeroPk.ref, .int .i64 zeroPk.orig, .int .i64 zeroPk.recv, .int .i64 zeroPk.xmit] 25))
  have HPK := Lib.hid (show rpPk s = ⟨by1 s 0 / 64, by1 s 0 / 8 % 8, by1 s 0 % 8, by1 s 1, by1 s 2, by4 s 4, by4 s 8, stampT (s.extract 16 24), stampT (s.extract 24 32), stampT (s.extract 32 40), stampT (s.extract 40 48)⟩ from rfl)
  have hb0 := by1_bound s 0
  have HN0 := Lib.hid (fun (W : World) (h : Rp W a (restP s 0)) (hp : 0 + 1 ≤ s.size) => show Calls Tryd.prog 62 #[.pointer (some ⟨a, 0, none⟩), .int .i64 1] W fun e w' => e = .returned (.int .i64 (by1 s 0)) ∧ Rp w' a (restP s 1) ∧ W.grownBy w' (some a) from number_at hs h 1 hp (by omega))
  obtain ⟨v0, hv0⟩ : ∃ v, by1 s 0 = v := ⟨_, rfl⟩
  rw [hv0] at HPK HN0 hb0
  obtain ⟨hb00, hb01⟩ := hb0
  clear hv0 h
  go_enter Tryd.func49, Tryd.ntmps49
  go_wp2_with fail
  rcases Nat.lt_or_ge s.size 1 with hlt | hge
  · refine (show Calls Tryd.prog 62 #[.pointer (some ⟨a, 0, none⟩), .int .i64 1] _ fun e w' => e = .panicked gaveUp ∧ World.grownBy _ w' (some a) from number_off hs R0 1 (by omega) (by omega) (by omega)).mono ?_
    rintro e w1 ⟨rfl, g⟩
    exact ⟨rfl, .inr ⟨rpOk_short (by omega), rfl⟩, grownP_trans G0 g⟩
  refine (HN0.out _ R0 hge).mono ?_
  rintro e w1 ⟨rfl, R1, g1⟩
  have hsz1 := g1.size
  have Q1 : w1.heap[w.heap.size]? = some (.cells #[.int .i64 zeroPk.leap, .int .i64 zeroPk.version, .int .i64 zeroPk.mode, .int .i64 zeroPk.stratum, .int .i64 zeroPk.poll, .int .i64 zeroPk.delay, .int .i64 zeroPk.disp, .int .i64 zeroPk.ref, .int .i64 zeroPk.orig, .int .i64 zeroPk.recv, .int .i64 zeroPk.xmit] 25) := (g1.block _ (Array.getElem?_eq_some_iff.1 Q0).1 (fun e => by cases e; omega)).trans Q0
  have hlt1 := (Array.getElem?_eq_some_iff.1 Q1).1
  have bn := below_new w1 (.cells #[.int .i64 (v0 / 64), .int .i64 (v0 / 8 % 8), .int .i64 (v0 % 8), .int .i64 0, .int .i64 0, .int .i64 0, .int .i64 0, .int .i64 0, .int .i64 0, .int .i64 0, .int .i64 0] 25)
  have S : PkSt w (w1.alloc (.cells #[.int .i64 (v0 / 64), .int .i64 (v0 / 8 % 8), .int .i64 (v0 % 8), .int .i64 0, .int .i64 0, .int .i64 0, .int .i64 0, .int .i64 0, .int .i64 0, .int .i64 0, .int .i64 0] 25)) a w.heap.size w1.heap.size (restP s 1) ⟨v0 / 64, v0 / 8 % 8, v0 % 8, 0, 0, 0, 0, 0, 0, 0, 0⟩ :=
    ⟨R1.next bn, blk_next bn Q1, blk_new _ _, al, Nat.le_refl _, by omega, by omega, grownP_trans (grownP_trans G0 g1) (grownP_below bn)⟩
  clear Q0 R0 G0 Q1 R1 g1 bn HN0 hge
  obtain ⟨B, hB⟩ : ∃ B, w1.heap.size = B := ⟨_, rfl⟩
  have cells := trivial
  clear hB B
  have HN := Lib.hid (fun (W : World) (h : Rp W a (restP s 1)) (hp : 1 + 1 ≤ s.size) => show Calls Tryd.prog 62 #[.pointer (some ⟨a, 0, none⟩), .int .i64 1] W fun e w' => e = .returned (.int .i64 (by1 s 1)) ∧ Rp w' a (restP s 2) ∧ W.grownBy w' (some a) from number_at hs h 1 hp (by omega))
  obtain ⟨v1, hv⟩ : ∃ v, by1 s 1 = v := ⟨_, rfl⟩
  rw [hv] at HPK HN
  clear hv
  go_wp2_with fail
  generalize w1.alloc (.cells #[.int .i64 (v0 / 64), .int .i64 (v0 / 8 % 8), .int .i64 (v0 % 8), .int .i64 0, .int .i64 0, .int .i64 0, .int .i64 0, .int .i64 0, .int .i64 0, .int .i64 0, .int .i64 0] 25) = W at *
  rcases Nat.lt_or_ge s.size 2 with hlt | hge
  · refine (show Calls Tryd.prog 62 #[.pointer (some ⟨a, 0, none⟩), .int .i64 1] _ fun e w' => e = .panicked gaveUp ∧ World.grownBy _ w' (some a) from number_off hs S.rd 1 (by omega) (by omega) (by omega)).mono ?_
    rintro e w2 ⟨rfl, g⟩
    exact ⟨rfl, .inr ⟨rpOk_short (by omega), rfl⟩, grownP_trans S.gr g⟩
  refine (HN.out _ S.rd hge).mono ?_
  rintro e w2 ⟨rfl, R, g⟩
  have S2 := S.call R g
  have f := packetP_thaw S2.box 3 (by omega)
  obtain ⟨x0, x1, x2, x3, x4, x5, x6, x7, x8, x9, x10⟩ := packet_cells S2.box
  have S3 := S2.put 3 v1 ⟨v0 / 64, v0 / 8 % 8, v0 % 8, v1, 0, 0, 0, 0, 0, 0, 0⟩ rfl
  dsimp only at x0 x1 x2 x3 x4 x5 x6 x7 x8 x9 x10
  clear S R g HN hge S2
  go_wp2_with fail
  generalize w2.setCell ⟨w1.heap.size, 3, none⟩ (.int .i64 v1) = W at *
  clear x0 x1 x2 x3 x4 x5 x6 x7 x8 x9 x10 f
  have S := S3
  clear S3 w2
  have HN := Lib.hid (fun (W : World) (h : Rp W a (restP s 2)) (hp : 2 + 1 ≤ s.size) => show Calls Tryd.prog 62 #[.pointer (some ⟨a, 0, none⟩), .int .i64 1] W fun e w' => e = .returned (.int .i64 (by1 s 2)) ∧ Rp w' a (restP s 3) ∧ W.grownBy w' (some a) from number_at hs h 1 hp (by omega))
  obtain ⟨v2, hv⟩ : ∃ v, by1 s 2 = v := ⟨_, rfl⟩
  rw [hv] at HPK HN
  clear hv
  rcases Nat.lt_or_ge s.size 3 with hlt | hge
  · refine (show Calls Tryd.prog 62 #[.pointer (some ⟨a, 0, none⟩), .int .i64 1] _ fun e w' => e = .panicked gaveUp ∧ World.grownBy _ w' (some a) from number_off hs S.rd 1 (by omega) (by omega) (by omega)).mono ?_
    rintro e w2 ⟨rfl, g⟩
    exact ⟨rfl, .inr ⟨rpOk_short (by omega), rfl⟩, grownP_trans S.gr g⟩
  refine (HN.out _ S.rd hge).mono ?_
  rintro e w2 ⟨rfl, R, g⟩
  have S2 := S.call R g
  have f := packetP_thaw S2.box 4 (by omega)
  obtain ⟨x0, x1, x2, x3, x4, x5, x6, x7, x8, x9, x10⟩ := packet_cells S2.box
  have S3 := S2.put 4 v2 ⟨v0 / 64, v0 / 8 % 8, v0 % 8, v1, v2, 0, 0, 0, 0, 0, 0⟩ rfl
  dsimp only at x0 x1 x2 x3 x4 x5 x6 x7 x8 x9 x10
  clear S R g HN hge S2
  go_wp2_with fail
  generalize w2.setCell ⟨w1.heap.size, 4, none⟩ (.int .i64 v2) = W at *
  clear x0 x1 x2 x3 x4 x5 x6 x7 x8 x9 x10 f
  have S := S3
  clear S3 w2
  by_cases hx : s.size < 4 ∨ by1 s 3 ≠ 236
  · refine (show Calls Tryd.prog 63 #[.pointer (some ⟨a, 0, none⟩), .int .i64 236, .int .i64 1] _ fun e w' => e = .panicked gaveUp ∧ World.grownBy _ w' (some a) from expect_off hs S.rd 1 236 (by omega) (by omega) hx).mono ?_
    rintro e w2 ⟨rfl, g⟩
    exact ⟨rfl, .inr ⟨hx.elim (fun h => rpOk_short (by omega)) (fun h => rpOk_b3 h), rfl⟩, grownP_trans S.gr g⟩
  have HX3 := Lib.hid (show 4 ≤ s.size ∧ by1 s 3 = 236 from ⟨by omega, Decidable.byContradiction (fun h => hx (.inr h))⟩)
  clear hx
  refine (show Calls Tryd.prog 63 #[.pointer (some ⟨a, 0, none⟩), .int .i64 236, .int .i64 1] _ fun e w' => e = .returned (.tuple #[]) ∧ Rp w' a (restP s 4) ∧ World.grownBy _ w' (some a) from expect_at hs S.rd 1 236 HX3.out.1 (by omega) HX3.out.2).mono ?_
  rintro e w2 ⟨rfl, R, g⟩
  have S2 := S.call R g
  clear S R g
  go_wp2_with fail
  have S := S2
  clear S2
  have HN := Lib.hid (fun (W : World) (h : Rp W a (restP s 4)) (hp : 4 + 4 ≤ s.size) => show Calls Tryd.prog 62 #[.pointer (some ⟨a, 0, none⟩), .int .i64 4] W fun e w' => e = .returned (.int .i64 (by4 s 4)) ∧ Rp w' a (restP s 8) ∧ W.grownBy w' (some a) from number_at hs h 4 hp (by omega))
  obtain ⟨v4, hv⟩ : ∃ v, by4 s 4 = v := ⟨_, rfl⟩
  rw [hv] at HPK HN
  clear hv
  rcases Nat.lt_or_ge s.size 8 with hlt | hge
  · refine (show Calls Tryd.prog 62 #[.pointer (some ⟨a, 0, none⟩), .int .i64 4] _ fun e w' => e = .panicked gaveUp ∧ World.grownBy _ w' (some a) from number_off hs S.rd 4 (by omega) (by omega) (by omega)).mono ?_
    rintro e w2 ⟨rfl, g⟩
    exact ⟨rfl, .inr ⟨rpOk_short (by omega), rfl⟩, grownP_trans S.gr g⟩
  refine (HN.out _ S.rd hge).mono ?_
  rintro e w2 ⟨rfl, R, g⟩
  have S2 := S.call R g
  have f := packetP_thaw S2.box 5 (by omega)
  obtain ⟨x0, x1, x2, x3, x4, x5, x6, x7, x8, x9, x10⟩ := packet_cells S2.box
  have S3 := S2.put 5 v4 ⟨v0 / 64, v0 / 8 % 8, v0 % 8, v1, v2, v4, 0, 0, 0, 0, 0⟩ rfl
  dsimp only at x0 x1 x2 x3 x4 x5 x6 x7 x8 x9 x10
  clear S R g HN hge S2
  go_wp2_with fail
  generalize w2.setCell ⟨w1.heap.size, 5, none⟩ (.int .i64 v4) = W at *
  clear x0 x1 x2 x3 x4 x5 x6 x7 x8 x9 x10 f
  have S := S3
  clear S3 w2
  have HN := Lib.hid (fun (W : World) (h : Rp W a (restP s 8)) (hp : 8 + 4 ≤ s.size) => show Calls Tryd.prog 62 #[.pointer (some ⟨a, 0, none⟩), .int .i64 4] W fun e w' => e = .returned (.int .i64 (by4 s 8)) ∧ Rp w' a (restP s 12) ∧ W.grownBy w' (some a) from number_at hs h 4 hp (by omega))
  obtain ⟨v5, hv⟩ : ∃ v, by4 s 8 = v := ⟨_, rfl⟩
  rw [hv] at HPK HN
  clear hv
  rcases Nat.lt_or_ge s.size 12 with hlt | hge
  · refine (show Calls Tryd.prog 62 #[.pointer (some ⟨a, 0, none⟩), .int .i64 4] _ fun e w' => e = .panicked gaveUp ∧ World.grownBy _ w' (some a) from number_off hs S.rd 4 (by omega) (by omega) (by omega)).mono ?_
    rintro e w2 ⟨rfl, g⟩
    exact ⟨rfl, .inr ⟨rpOk_short (by omega), rfl⟩, grownP_trans S.gr g⟩
  refine (HN.out _ S.rd hge).mono ?_
  rintro e w2 ⟨rfl, R, g⟩
  have S2 := S.call R g
  have f := packetP_thaw S2.box 6 (by omega)
  obtain ⟨x0, x1, x2, x3, x4, x5, x6, x7, x8, x9, x10⟩ := packet_cells S2.box
  have S3 := S2.put 6 v5 ⟨v0 / 64, v0 / 8 % 8, v0 % 8, v1, v2, v4, v5, 0, 0, 0, 0⟩ rfl
  dsimp only at x0 x1 x2 x3 x4 x5 x6 x7 x8 x9 x10
  clear S R g HN hge S2
  go_wp2_with fail
  generalize w2.setCell ⟨w1.heap.size, 6, none⟩ (.int .i64 v5) = W at *
  clear x0 x1 x2 x3 x4 x5 x6 x7 x8 x9 x10 f
  have S := S3
  clear S3 w2
  by_cases hx : s.size < 16 ∨ by4 s 12 ≠ 0
  · refine (show Calls Tryd.prog 63 #[.pointer (some ⟨a, 0, none⟩), .int .i64 0, .int .i64 4] _ fun e w' => e = .panicked gaveUp ∧ World.grownBy _ w' (some a) from expect_off hs S.rd 4 0 (by omega) (by omega) hx).mono ?_
    rintro e w2 ⟨rfl, g⟩
    exact ⟨rfl, .inr ⟨hx.elim (fun h => rpOk_short (by omega)) (fun h => rpOk_b12 h), rfl⟩, grownP_trans S.gr g⟩
  have HX12 := Lib.hid (show 16 ≤ s.size ∧ by4 s 12 = 0 from ⟨by omega, Decidable.byContradiction (fun h => hx (.inr h))⟩)
  clear hx
  refine (show Calls Tryd.prog 63 #[.pointer (some ⟨a, 0, none⟩), .int .i64 0, .int .i64 4] _ fun e w' => e = .returned (.tuple #[]) ∧ Rp w' a (restP s 16) ∧ World.grownBy _ w' (some a) from expect_at hs S.rd 4 0 HX12.out.1 (by omega) HX12.out.2).mono ?_
  rintro e w2 ⟨rfl, R, g⟩
  have S2 := S.call R g
  clear S R g
  go_wp2_with fail
  have S := S2
  clear S2
  have HN := Lib.hid (fun (W : World) (h : Rp W a (restP s 16)) (hp : 24 ≤ s.size) (hn : stampOk (s.extract 16 24) = true) => show Calls Tryd.prog 64 #[.pointer (some ⟨a, 0, none⟩)] W fun e w' => e = .returned (.int .i64 (stampT (s.extract 16 24))) ∧ Rp w' a (restP s 24) ∧ W.grownBy w' (some a) from time_at hs h hp hn)
  obtain ⟨t0, hv⟩ : ∃ v, stampT (s.extract 16 24) = v := ⟨_, rfl⟩
  rw [hv] at HPK HN
  clear hv
  by_cases hx : s.size < 24 ∨ stampOk (s.extract 16 24) = false
  · refine (time_off hs S.rd hx).mono ?_
    rintro e w2 ⟨rfl, g⟩
    exact ⟨rfl, .inr ⟨hx.elim (fun h => rpOk_short (by omega)) (fun h => rpOk_st (rpSt_1 h)), rfl⟩, grownP_trans S.gr g⟩
  have hge : 24 ≤ s.size := by omega
  have HX16 := Lib.hid (show stampOk (s.extract 16 24) = true by
    cases h : stampOk (s.extract 16 24) with
    | true => rfl
    | false => exact absurd (.inr h) hx)
  have HG16 := Lib.hid hge
  clear hx
  refine (HN.out _ S.rd hge HX16.out).mono ?_
  rintro e w2 ⟨rfl, R, g⟩
  have S2 := S.call R g
  have f := packetP_thaw S2.box 7 (by omega)
  obtain ⟨x0, x1, x2, x3, x4, x5, x6, x7, x8, x9, x10⟩ := packet_cells S2.box
  have S3 := S2.put 7 t0 ⟨v0 / 64, v0 / 8 % 8, v0 % 8, v1, v2, v4, v5, t0, 0, 0, 0⟩ rfl
  dsimp only at x0 x1 x2 x3 x4 x5 x6 x7 x8 x9 x10
  clear S R g HN hge S2
  go_wp2_with fail
  generalize w2.setCell ⟨w1.heap.size, 7, none⟩ (.int .i64 t0) = W at *
  clear x0 x1 x2 x3 x4 x5 x6 x7 x8 x9 x10 f
  have S := S3
  clear S3 w2
  have HN := Lib.hid (fun (W : World) (h : Rp W a (restP s 24)) (hp : 32 ≤ s.size) (hn : stampOk (s.extract 24 32) = true) => show Calls Tryd.prog 64 #[.pointer (some ⟨a, 0, none⟩)] W fun e w' => e = .returned (.int .i64 (stampT (s.extract 24 32))) ∧ Rp w' a (restP s 32) ∧ W.grownBy w' (some a) from time_at hs h hp hn)
  obtain ⟨t1, hv⟩ : ∃ v, stampT (s.extract 24 32) = v := ⟨_, rfl⟩
  rw [hv] at HPK HN
  clear hv
  by_cases hx : s.size < 32 ∨ stampOk (s.extract 24 32) = false
  · refine (time_off hs S.rd hx).mono ?_
    rintro e w2 ⟨rfl, g⟩
    exact ⟨rfl, .inr ⟨hx.elim (fun h => rpOk_short (by omega)) (fun h => rpOk_st (rpSt_2 h)), rfl⟩, grownP_trans S.gr g⟩
  have hge : 32 ≤ s.size := by omega
  have HX24 := Lib.hid (show stampOk (s.extract 24 32) = true by
    cases h : stampOk (s.extract 24 32) with
    | true => rfl
    | false => exact absurd (.inr h) hx)
  have HG24 := Lib.hid hge
  clear hx
  refine (HN.out _ S.rd hge HX24.out).mono ?_
  rintro e w2 ⟨rfl, R, g⟩
  have S2 := S.call R g
  have f := packetP_thaw S2.box 8 (by omega)
  obtain ⟨x0, x1, x2, x3, x4, x5, x6, x7, x8, x9, x10⟩ := packet_cells S2.box
  have S3 := S2.put 8 t1 ⟨v0 / 64, v0 / 8 % 8, v0 % 8, v1, v2, v4, v5, t0, t1, 0, 0⟩ rfl
  dsimp only at x0 x1 x2 x3 x4 x5 x6 x7 x8 x9 x10
  clear S R g HN hge S2
  go_wp2_with fail
  generalize w2.setCell ⟨w1.heap.size, 8, none⟩ (.int .i64 t1) = W at *
  clear x0 x1 x2 x3 x4 x5 x6 x7 x8 x9 x10 f
  have S := S3
  clear S3 w2
  have HN := Lib.hid (fun (W : World) (h : Rp W a (restP s 32)) (hp : 40 ≤ s.size) (hn : stampOk (s.extract 32 40) = true) => show Calls Tryd.prog 64 #[.pointer (some ⟨a, 0, none⟩)] W fun e w' => e = .returned (.int .i64 (stampT (s.extract 32 40))) ∧ Rp w' a (restP s 40) ∧ W.grownBy w' (some a) from time_at hs h hp hn)
  obtain ⟨t2, hv⟩ : ∃ v, stampT (s.extract 32 40) = v := ⟨_, rfl⟩
  rw [hv] at HPK HN
  clear hv
  by_cases hx : s.size < 40 ∨ stampOk (s.extract 32 40) = false
  · refine (time_off hs S.rd hx).mono ?_
    rintro e w2 ⟨rfl, g⟩
    exact ⟨rfl, .inr ⟨hx.elim (fun h => rpOk_short (by omega)) (fun h => rpOk_st (rpSt_3 h)), rfl⟩, grownP_trans S.gr g⟩
  have hge : 40 ≤ s.size := by omega
  have HX32 := Lib.hid (show stampOk (s.extract 32 40) = true by
    cases h : stampOk (s.extract 32 40) with
    | true => rfl
    | false => exact absurd (.inr h) hx)
  have HG32 := Lib.hid hge
  clear hx
  refine (HN.out _ S.rd hge HX32.out).mono ?_
  rintro e w2 ⟨rfl, R, g⟩
  have S2 := S.call R g
  have f := packetP_thaw S2.box 9 (by omega)
  obtain ⟨x0, x1, x2, x3, x4, x5, x6, x7, x8, x9, x10⟩ := packet_cells S2.box
  have S3 := S2.put 9 t2 ⟨v0 / 64, v0 / 8 % 8, v0 % 8, v1, v2, v4, v5, t0, t1, t2, 0⟩ rfl
  dsimp only at x0 x1 x2 x3 x4 x5 x6 x7 x8 x9 x10
  clear S R g HN hge S2
  go_wp2_with fail
  generalize w2.setCell ⟨w1.heap.size, 9, none⟩ (.int .i64 t2) = W at *
  clear x0 x1 x2 x3 x4 x5 x6 x7 x8 x9 x10 f
  have S := S3
  clear S3 w2
  have HN := Lib.hid (fun (W : World) (h : Rp W a (restP s 40)) (hp : 48 ≤ s.size) (hn : stampOk (s.extract 40 48) = true) => show Calls Tryd.prog 64 #[.pointer (some ⟨a, 0, none⟩)] W fun e w' => e = .returned (.int .i64 (stampT (s.extract 40 48))) ∧ Rp w' a (restP s 48) ∧ W.grownBy w' (some a) from time_at hs h hp hn)
  obtain ⟨t3, hv⟩ : ∃ v, stampT (s.extract 40 48) = v := ⟨_, rfl⟩
  rw [hv] at HPK HN
  clear hv
  by_cases hx : s.size < 48 ∨ stampOk (s.extract 40 48) = false
  · refine (time_off hs S.rd hx).mono ?_
    rintro e w2 ⟨rfl, g⟩
    exact ⟨rfl, .inr ⟨hx.elim (fun h => rpOk_short (by omega)) (fun h => rpOk_st (rpSt_4 h)), rfl⟩, grownP_trans S.gr g⟩
  have hge : 48 ≤ s.size := by omega
  have HX40 := Lib.hid (show stampOk (s.extract 40 48) = true by
    cases h : stampOk (s.extract 40 48) with
    | true => rfl
    | false => exact absurd (.inr h) hx)
  have HG40 := Lib.hid hge
  clear hx
  refine (HN.out _ S.rd hge HX40.out).mono ?_
  rintro e w2 ⟨rfl, R, g⟩
  have S2 := S.call R g
  have f := packetP_thaw S2.box 10 (by omega)
  obtain ⟨x0, x1, x2, x3, x4, x5, x6, x7, x8, x9, x10⟩ := packet_cells S2.box
  have S3 := S2.put 10 t3 ⟨v0 / 64, v0 / 8 % 8, v0 % 8, v1, v2, v4, v5, t0, t1, t2, t3⟩ rfl
  dsimp only at x0 x1 x2 x3 x4 x5 x6 x7 x8 x9 x10
  clear S R g HN hge S2
  go_upto_region 13 with (fail)
  generalize w2.setCell ⟨w1.heap.size, 10, none⟩ (.int .i64 t3) = W at *
  clear x0 x1 x2 x3 x4 x5 x6 x7 x8 x9 x10 f
  have S := S3
  clear S3 w2
  obtain ⟨q, hq⟩ : ∃ q, (⟨v0 / 64, v0 / 8 % 8, v0 % 8, v1, v2, v4, v5, t0, t1, t2, t3⟩ : Pk) = q := ⟨_, rfl⟩
  rw [hq] at S HPK
  obtain ⟨x0, x1, x2, x3, x4, x5, x6, x7, x8, x9, x10⟩ := packet_cells S.box
  have f := packetP_thaw S.res
  have f0 := f 0 (by omega)
  have f1 := f 1 (by omega)
  have f2 := f 2 (by omega)
  have f3 := f 3 (by omega)
  have f4 := f 4 (by omega)
  have f5 := f 5 (by omega)
  have f6 := f 6 (by omega)
  have f7 := f 7 (by omega)
  have f8 := f 8 (by omega)
  have f9 := f 9 (by omega)
  have f10 := f 10 (by omega)
  clear f hsz1
  obtain ⟨z0, z1, z2, z3, z4, z5, z6, z7, z8, z9, z10⟩ := packet_cells S.res
  go_wp2_with fail
  obtain ⟨V, hV⟩ : ∃ V, V = (((((((((((W.setCell ⟨w.heap.size, 0, none⟩ (.int .i64 q.leap)).setCell ⟨w.heap.size, 1, none⟩ (.int .i64 q.version)).setCell ⟨w.heap.size, 2, none⟩ (.int .i64 q.mode)).setCell ⟨w.heap.size, 3, none⟩ (.int .i64 q.stratum)).setCell ⟨w.heap.size, 4, none⟩ (.int .i64 q.poll)).setCell ⟨w.heap.size, 5, none⟩ (.int .i64 q.delay)).setCell ⟨w.heap.size, 6, none⟩ (.int .i64 q.disp)).setCell ⟨w.heap.size, 7, none⟩ (.int .i64 q.ref)).setCell ⟨w.heap.size, 8, none⟩ (.int .i64 q.orig)).setCell ⟨w.heap.size, 9, none⟩ (.int .i64 q.recv)).setCell ⟨w.heap.size, 10, none⟩ (.int .i64 q.xmit)) := ⟨_, rfl⟩
  have hK : V.heap[w.heap.size]? = some (.cells #[.int .i64 q.leap, .int .i64 q.version, .int .i64 q.mode, .int .i64 q.stratum, .int .i64 q.poll, .int .i64 q.delay, .int .i64 q.disp, .int .i64 q.ref, .int .i64 q.orig, .int .i64 q.recv, .int .i64 q.xmit] 25) := by
    rw [hV]
    exact rp_put S.res q
  have hR : Rp V a (restP s 48) := by
    rw [hV]
    exact rp_other S.rd (by omega) q
  have hG : w.grownBy V (some a) := by
    rw [hV]
    exact rp_gr S.gr (Nat.le_refl _) q
  rw [← hV]
  clear hV x0 x1 x2 x3 x4 x5 x6 x7 x8 x9 x10 z0 z1 z2 z3 z4 z5 z6 z7 z8 z9 z10 f0 f1 f2 f3 f4 f5 f6 f7 f8 f9 f10
  obtain ⟨rx0, rx1, rx2, rx3, rx4, rx5, rx6, rx7, rx8, rx9, rx10⟩ := packet_cells hK
  try simp only [Exit.inBlock, Exit.then]
  refine bodyPost_ret (by simp [results, Tryd.results49, go_sem, rx0, rx1, rx2, rx3, rx4, rx5, rx6, rx7, rx8, rx9, rx10]; try rfl) rfl ?_
  refine ⟨.inl ⟨HG40.out, HX3.out.2, HX12.out.2, ?_, ?_, hR⟩, hG⟩
  · unfold rpSt
    rw [HX16.out, HX24.out, HX32.out, HX40.out]; rfl
  · rw [HPK.out]
end Go.Proofs.YteecemjbkpkpaaaDoor
