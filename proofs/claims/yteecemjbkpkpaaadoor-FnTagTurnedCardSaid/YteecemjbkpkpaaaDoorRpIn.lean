/- The program's packetIn: what a text holds, or nothing. -/
import Derived.Test.YteecemjbkpkpaaaDoorRpPacketC
import Derived.Defers
import Derived.Recover
import Derived.Laws.Pointers
namespace Go.Proofs.YteecemjbkpkpaaaDoor
open Go.ChangeShapes Go.WideShapes Go.ChangeAt Go.RowKit
set_option linter.unusedVariables false
set_option linter.unusedSimpArgs false

theorem caught_p (b c : Nat) (q : Pk) (ok : Bool) (u : TypeId) (pv : Value) (older : List PanicEntry) (w : World) (hb : w.heap[b]? = some (.cells #[.int .i64 q.leap, .int .i64 q.version, .int .i64 q.mode, .int .i64 q.stratum, .int .i64 q.poll, .int .i64 q.delay, .int .i64 q.disp, .int .i64 q.ref, .int .i64 q.orig, .int .i64 q.recv, .int .i64 q.xmit] 25)) (hc : w.heap[c]? = some (.cells #[.bool ok] 4)) (hne : b ≠ c) :
    CallsD Tryd.prog 48 #[.pointer (some ⟨b, 0, none⟩), .pointer (some ⟨c, 0, none⟩)] (.panicking ({ v := .iface u pv, recovered := false } :: older)) w fun e u' w' =>
      e = .returned (.tuple #[]) ∧ u' = .panicking ({ v := .iface u pv, recovered := true } :: older) ∧ w'.heap[b]? = some (.cells #[.int .i64 zeroPk.leap, .int .i64 zeroPk.version, .int .i64 zeroPk.mode, .int .i64 zeroPk.stratum, .int .i64 zeroPk.poll, .int .i64 zeroPk.delay, .int .i64 zeroPk.disp, .int .i64 zeroPk.ref, .int .i64 zeroPk.orig, .int .i64 zeroPk.recv, .int .i64 zeroPk.xmit] 25) ∧ w'.heap[c]? = some (.cells #[.bool false] 4) ∧ ∀ W : World, W.heap.size ≤ b → W.heap.size ≤ c → W.grownBy w none → W.grownBy w' none := by
  have f := packetP_thaw hb
  have f0 := f 0 (by omega)
  have f1 := f 1 (by omega)
  have f2 := f 2 (by omega)
  have f3 := f 3 (by omega)
  have f4 := f 4 (by omega)
  have f5 := f 5 (by omega)
  have f6 := f 6 (by omega)
  have f7 := f 7 (by omega)
  have f8 := f 8 (by omega)
  have f9 := f 9 (by omega)
  have f10 := f 10 (by omega)
  clear f
  obtain ⟨z0, z1, z2, z3, z4, z5, z6, z7, z8, z9, z10⟩ := packet_cells hb
  have g0 : w.frozen? ⟨c, 0, none⟩ = false := by simp [World.frozen?, hc]
  have c0 : w.cell? ⟨c, 0, none⟩ = some (.bool ok) := by simp [World.cell?, hc]
  refine callsD_of_wpS Tryd.func48 rfl fun c₀ cs hu => ?_
  apply wpS_seq
  apply wpS_region
  simp [wpOpsS, go_sem, recoverD, hu, Tryd.ntmps48, Exit.thenS]
  refine wpS_cond (t := true) (by simp [Act.eval, Array.replicate]) ?_
  simp only [if_true]
  refine wpS_of_wp ?_
  go_wp2_with fail
  obtain ⟨V, hV⟩ : ∃ V, V = (((((((((((w.setCell ⟨b, 0, none⟩ (.int .i64 0)).setCell ⟨b, 1, none⟩ (.int .i64 0)).setCell ⟨b, 2, none⟩ (.int .i64 0)).setCell ⟨b, 3, none⟩ (.int .i64 0)).setCell ⟨b, 4, none⟩ (.int .i64 0)).setCell ⟨b, 5, none⟩ (.int .i64 0)).setCell ⟨b, 6, none⟩ (.int .i64 0)).setCell ⟨b, 7, none⟩ (.int .i64 0)).setCell ⟨b, 8, none⟩ (.int .i64 0)).setCell ⟨b, 9, none⟩ (.int .i64 0)).setCell ⟨b, 10, none⟩ (.int .i64 0)) := ⟨_, rfl⟩
  have hK : V.heap[b]? = some (.cells #[.int .i64 zeroPk.leap, .int .i64 zeroPk.version, .int .i64 zeroPk.mode, .int .i64 zeroPk.stratum, .int .i64 zeroPk.poll, .int .i64 zeroPk.delay, .int .i64 zeroPk.disp, .int .i64 zeroPk.ref, .int .i64 zeroPk.orig, .int .i64 zeroPk.recv, .int .i64 zeroPk.xmit] 25) := by
    rw [hV]
    exact rp_put hb zeroPk
  have hC : V.heap[c]? = some (.cells #[.bool ok] 4) := by
    rw [hV]
    exact rp_other hc hne zeroPk
  have hG : ∀ W : World, W.heap.size ≤ b → W.grownBy w none → W.grownBy V none := by
    intro W h1 h2
    rw [hV]
    exact rp_gr h2 h1 zeroPk
  rw [← hV]
  clear hV
  simp [bodyPostS, results, Tryd.results48]
  exact ⟨heapP_other hK (Ne.symm hne) _ _, heapP_set hC 0 _, fun W h1 h2 h3 => rp_gr1 (hG W h1 h3) h2 _ _⟩
theorem idle_p (b c : Nat) (w : World) :
    CallsD Tryd.prog 48 #[.pointer (some ⟨b, 0, none⟩), .pointer (some ⟨c, 0, none⟩)] .returning w fun e u' w' => e = .returned (.tuple #[]) ∧ u' = .returning ∧ w' = w := by
  refine callsD_of_wpS Tryd.func48 rfl fun c₀ cs hu => ?_
  apply wpS_seq
  apply wpS_region
  simp [wpOpsS, go_sem, recoverD, hu, Tryd.ntmps48, Exit.thenS]
  refine wpS_cond (t := false) (by simp [Act.eval, Array.replicate]) ?_
  simp only [Bool.false_eq_true, if_false]
  refine wpS_of_wp (wp_skip ?_)
  cases c₀
  simp_all [bodyPostS, results, Tryd.results48]
def InPost (w : World) (s : ByteArray) : Ending → World → Prop := fun e w' => ∃ (p : Pk) (ok : Bool), e = .returned (.tuple #[.agg #[.int .i64 p.leap, .int .i64 p.version, .int .i64 p.mode, .int .i64 p.stratum, .int .i64 p.poll, .int .i64 p.delay, .int .i64 p.disp, .int .i64 p.ref, .int .i64 p.orig, .int .i64 p.recv, .int .i64 p.xmit], .bool ok]) ∧
  ((ok = true ∧ p = rpPk s ∧ s.size = 48 ∧ by1 s 3 = 236 ∧ by4 s 12 = 0 ∧ rpSt s = true) ∨ (ok = false ∧ rpOk s = false)) ∧ w.grownBy w' none
theorem grownP_out {w W W' : World} {a : Nat} (h : w.grownBy W none) (ha : w.heap.size ≤ a) (g : W.grownBy W' (some a)) : w.grownBy W' none :=
  ⟨g.os.trans h.os, g.tape.trans h.tape, g.output.trans h.output, Nat.le_trans h.size g.size, fun j hj hne => (g.block j (Nat.lt_of_lt_of_le hj h.size) (fun e => absurd (Option.some.inj e) (by omega))).trans (h.block j hj hne)⟩
set_option maxRecDepth 100000 in
set_option maxHeartbeats 4000000 in
theorem packetIn_p (s : ByteArray) (hs : s.size ≤ 1048576) (w : World) :
    Calls Tryd.prog 33 #[.string s] w (InPost w s) := by
  have hmf : ∀ (fn : Fn) (first cap : Array Value) (w : World), (Instr.makeFunc fn first cap).run Tryd.prog w = .ok (.func fn first cap) w := fun _ _ _ _ => rfl
  obtain ⟨W, hW⟩ : ∃ W, W = ((w.alloc (.cells #[.int .i64 zeroPk.leap, .int .i64 zeroPk.version, .int .i64 zeroPk.mode, .int .i64 zeroPk.stratum, .int .i64 zeroPk.poll, .int .i64 zeroPk.delay, .int .i64 zeroPk.disp, .int .i64 zeroPk.ref, .int .i64 zeroPk.orig, .int .i64 zeroPk.recv, .int .i64 zeroPk.xmit] 25)).alloc (.cells #[.bool false] 4)).alloc (.cells #[.string s] 74) := ⟨_, rfl⟩
  have hB : W.heap[w.heap.size]? = some (.cells #[.int .i64 zeroPk.leap, .int .i64 zeroPk.version, .int .i64 zeroPk.mode, .int .i64 zeroPk.stratum, .int .i64 zeroPk.poll, .int .i64 zeroPk.delay, .int .i64 zeroPk.disp, .int .i64 zeroPk.ref, .int .i64 zeroPk.orig, .int .i64 zeroPk.recv, .int .i64 zeroPk.xmit] 25) := by
    rw [hW]
    exact blk_alloc (blk_alloc (blk_new w _) _) _
  have hC : W.heap[w.heap.size + 1]? = some (.cells #[.bool false] 4) := by
    rw [hW]
    have := blk_alloc (blk_new (w.alloc (.cells #[.int .i64 zeroPk.leap, .int .i64 zeroPk.version, .int .i64 zeroPk.mode, .int .i64 zeroPk.stratum, .int .i64 zeroPk.poll, .int .i64 zeroPk.delay, .int .i64 zeroPk.disp, .int .i64 zeroPk.ref, .int .i64 zeroPk.orig, .int .i64 zeroPk.recv, .int .i64 zeroPk.xmit] 25)) (.cells #[.bool false] 4)) (.cells #[.string s] 74)
    simpa only [World.size_alloc] using this
  have hR : Rp W (w.heap.size + 1 + 1) s := by
    rw [hW]
    have := blk_new ((w.alloc (.cells #[.int .i64 zeroPk.leap, .int .i64 zeroPk.version, .int .i64 zeroPk.mode, .int .i64 zeroPk.stratum, .int .i64 zeroPk.poll, .int .i64 zeroPk.delay, .int .i64 zeroPk.disp, .int .i64 zeroPk.ref, .int .i64 zeroPk.orig, .int .i64 zeroPk.recv, .int .i64 zeroPk.xmit] 25)).alloc (.cells #[.bool false] 4)) (.cells #[.string s] 74)
    unfold Rp
    simpa only [World.size_alloc] using this
  have hG : w.grownBy W none := by
    rw [hW]
    exact grownP_trans (grownP_trans (World.grownBy_alloc _ _ none) (World.grownBy_alloc _ _ none)) (World.grownBy_alloc _ _ none)
  have HP := Lib.hid (packet_p s hs _ W hR)
  go_enter_defers Tryd.func33, Tryd.ntmps33
  go_wp2_with fail
  rw [show ((w.alloc (.cells #[.int .i64 0, .int .i64 0, .int .i64 0, .int .i64 0, .int .i64 0, .int .i64 0, .int .i64 0, .int .i64 0, .int .i64 0, .int .i64 0, .int .i64 0] 25)).alloc (.cells #[.bool false] 4)).alloc (.cells #[.string s] 74) = W from hW.symm]
  clear hW hR
  refine HP.out.mono ?_
  rintro e w1 ⟨hx | ⟨hno, rfl⟩, g⟩
  · obtain ⟨h48, h236, h0, hst, rfl, R⟩ := hx
    have hB1 := (g.block _ (Array.getElem?_eq_some_iff.1 hB).1 (fun e => absurd (Option.some.inj e) (by omega))).trans hB
    have hC1 := (g.block _ (Array.getElem?_eq_some_iff.1 hC).1 (fun e => absurd (Option.some.inj e) (by omega))).trans hC
    have hG1 := grownP_out hG (by omega) g
    clear HP hB hC g hG
    obtain ⟨q, hq⟩ : ∃ q, rpPk s = q := ⟨_, rfl⟩
    have f := packetP_thaw hB1
    have f0 := f 0 (by omega)
    have f1 := f 1 (by omega)
    have f2 := f 2 (by omega)
    have f3 := f 3 (by omega)
    have f4 := f 4 (by omega)
    have f5 := f 5 (by omega)
    have f6 := f 6 (by omega)
    have f7 := f 7 (by omega)
    have f8 := f 8 (by omega)
    have f9 := f 9 (by omega)
    have f10 := f 10 (by omega)
    clear f
    obtain ⟨z0, z1, z2, z3, z4, z5, z6, z7, z8, z9, z10⟩ := packet_cells hB1
    rw [hq]
    go_wp2_with fail
    obtain ⟨V, hV⟩ : ∃ V, V = (((((((((((w1.setCell ⟨w.heap.size, 0, none⟩ (.int .i64 q.leap)).setCell ⟨w.heap.size, 1, none⟩ (.int .i64 q.version)).setCell ⟨w.heap.size, 2, none⟩ (.int .i64 q.mode)).setCell ⟨w.heap.size, 3, none⟩ (.int .i64 q.stratum)).setCell ⟨w.heap.size, 4, none⟩ (.int .i64 q.poll)).setCell ⟨w.heap.size, 5, none⟩ (.int .i64 q.delay)).setCell ⟨w.heap.size, 6, none⟩ (.int .i64 q.disp)).setCell ⟨w.heap.size, 7, none⟩ (.int .i64 q.ref)).setCell ⟨w.heap.size, 8, none⟩ (.int .i64 q.orig)).setCell ⟨w.heap.size, 9, none⟩ (.int .i64 q.recv)).setCell ⟨w.heap.size, 10, none⟩ (.int .i64 q.xmit)) := ⟨_, rfl⟩
    have hB2 : V.heap[w.heap.size]? = some (.cells #[.int .i64 q.leap, .int .i64 q.version, .int .i64 q.mode, .int .i64 q.stratum, .int .i64 q.poll, .int .i64 q.delay, .int .i64 q.disp, .int .i64 q.ref, .int .i64 q.orig, .int .i64 q.recv, .int .i64 q.xmit] 25) := by
      rw [hV]
      exact rp_put hB1 q
    have hC2 : V.heap[w.heap.size + 1]? = some (.cells #[.bool false] 4) := by
      rw [hV]
      exact rp_other hC1 (by omega) q
    have hR2 : Rp V (w.heap.size + 1 + 1) (restP s 48) := by
      rw [hV]
      exact rp_other R (by omega) q
    have hG2 : w.grownBy V none := by
      rw [hV]
      exact rp_gr hG1 (Nat.le_refl _) q
    rw [← hV]
    clear hV f0 f1 f2 f3 f4 f5 f6 f7 f8 f9 f10 z0 z1 z2 z3 z4 z5 z6 z7 z8 z9 z10 hB1 hC1 R hG1
    by_cases hz : s.size = 48
    · refine (end_ok _ _ (by rw [restP_size]; omega) V hR2).mono ?_
      rintro e w2 ⟨rfl, rfl⟩
      have f := packetP_thaw hB2
      have f0 := f 0 (by omega)
      have f1 := f 1 (by omega)
      have f2 := f 2 (by omega)
      have f3 := f 3 (by omega)
      have f4 := f 4 (by omega)
      have f5 := f 5 (by omega)
      have f6 := f 6 (by omega)
      have f7 := f 7 (by omega)
      have f8 := f 8 (by omega)
      have f9 := f 9 (by omega)
      have f10 := f 10 (by omega)
      clear f
      obtain ⟨z0, z1, z2, z3, z4, z5, z6, z7, z8, z9, z10⟩ := packet_cells hB2
      have g0 : V.frozen? ⟨w.heap.size + 1, 0, none⟩ = false := by simp [World.frozen?, hC2]
      have c0 : V.cell? ⟨w.heap.size + 1, 0, none⟩ = some (.bool false) := by simp [World.cell?, hC2]
      go_wp2_with fail
      obtain ⟨X, hX⟩ : ∃ X, X = (((((((((((V.setCell ⟨w.heap.size, 0, none⟩ (.int .i64 q.leap)).setCell ⟨w.heap.size, 1, none⟩ (.int .i64 q.version)).setCell ⟨w.heap.size, 2, none⟩ (.int .i64 q.mode)).setCell ⟨w.heap.size, 3, none⟩ (.int .i64 q.stratum)).setCell ⟨w.heap.size, 4, none⟩ (.int .i64 q.poll)).setCell ⟨w.heap.size, 5, none⟩ (.int .i64 q.delay)).setCell ⟨w.heap.size, 6, none⟩ (.int .i64 q.disp)).setCell ⟨w.heap.size, 7, none⟩ (.int .i64 q.ref)).setCell ⟨w.heap.size, 8, none⟩ (.int .i64 q.orig)).setCell ⟨w.heap.size, 9, none⟩ (.int .i64 q.recv)).setCell ⟨w.heap.size, 10, none⟩ (.int .i64 q.xmit)).setCell ⟨w.heap.size + 1, 0, none⟩ (.bool true) := ⟨_, rfl⟩
      have hB3 : X.heap[w.heap.size]? = some (.cells #[.int .i64 q.leap, .int .i64 q.version, .int .i64 q.mode, .int .i64 q.stratum, .int .i64 q.poll, .int .i64 q.delay, .int .i64 q.disp, .int .i64 q.ref, .int .i64 q.orig, .int .i64 q.recv, .int .i64 q.xmit] 25) := by
        rw [hX]
        exact heapP_other (rp_put hB2 q) (by omega) _ _
      have hC3 : X.heap[w.heap.size + 1]? = some (.cells #[.bool true] 4) := by
        rw [hX]
        exact heapP_set (rp_other hC2 (by omega) q) 0 _
      have hG3 : w.grownBy X none := by
        rw [hX]
        exact rp_gr1 (rp_gr hG2 (Nat.le_refl _) q) (by omega) _ _
      rw [← hX]
      clear hX f0 f1 f2 f3 f4 f5 f6 f7 f8 f9 f10 z0 z1 z2 z3 z4 z5 z6 z7 z8 z9 z10 g0 c0 hB2 hC2 hR2 hG2
      obtain ⟨y0, y1, y2, y3, y4, y5, y6, y7, y8, y9, y10⟩ := packet_cells hB3
      have y : X.cell? ⟨w.heap.size + 1, 0, none⟩ = some (.bool true) := by simp [World.cell?, hC3]
      refine leaves_cons (f := 48) (args := #[.pointer (some ⟨w.heap.size, 0, none⟩), .pointer (some ⟨w.heap.size + 1, 0, none⟩)]) (by simp) (by simp [go_sem]) ?_
      refine (idle_p _ _ _).mono ?_
      rintro e u' w'' ⟨rfl, rfl, rfl⟩
      simp [Leaves, settle, results, Tryd.results33, go_sem, y0, y1, y2, y3, y4, y5, y6, y7, y8, y9, y10, y]
      exact ⟨q, true, rfl, .inl ⟨rfl, hq.symm, hz, h236, h0, hst⟩, hG3⟩
    · refine (end_no _ _ (by rw [restP_size]; omega) V hR2).mono ?_
      rintro e w2 ⟨rfl, rfl⟩
      refine leaves_cons (f := 48) (args := #[.pointer (some ⟨w.heap.size, 0, none⟩), .pointer (some ⟨w.heap.size + 1, 0, none⟩)]) (by simp) (by simp [go_sem]) ?_
      refine (caught_p w.heap.size (w.heap.size + 1) q false _ _ [] V hB2 hC2 (by omega)).mono ?_
      rintro e u' w'' ⟨rfl, rfl, hB3, hC3, hG3⟩
      have hG4 := hG3 w (Nat.le_refl _) (by omega) hG2
      obtain ⟨y0, y1, y2, y3, y4, y5, y6, y7, y8, y9, y10⟩ := packet_cells hB3
      have y : w''.cell? ⟨w.heap.size + 1, 0, none⟩ = some (.bool false) := by simp [World.cell?, hC3]
      simp [Leaves, settle, results, Tryd.results33, go_sem, y0, y1, y2, y3, y4, y5, y6, y7, y8, y9, y10, y]
      exact ⟨zeroPk, false, rfl, .inr ⟨rfl, by unfold rpOk; rw [decide_eq_false hz]; simp⟩, hG4⟩
  · have hB1 := (g.block _ (Array.getElem?_eq_some_iff.1 hB).1 (fun e => absurd (Option.some.inj e) (by omega))).trans hB
    have hC1 := (g.block _ (Array.getElem?_eq_some_iff.1 hC).1 (fun e => absurd (Option.some.inj e) (by omega))).trans hC
    have hG1 := grownP_out hG (by omega) g
    refine leaves_cons (f := 48) (args := #[.pointer (some ⟨w.heap.size, 0, none⟩), .pointer (some ⟨w.heap.size + 1, 0, none⟩)]) (by simp) (by simp [go_sem]) ?_
    refine (caught_p w.heap.size (w.heap.size + 1) zeroPk false _ _ [] w1 hB1 hC1 (by omega)).mono ?_
    rintro e u' w'' ⟨rfl, rfl, hB3, hC3, hG3⟩
    have hG4 := hG3 w (Nat.le_refl _) (by omega) hG1
    obtain ⟨y0, y1, y2, y3, y4, y5, y6, y7, y8, y9, y10⟩ := packet_cells hB3
    have y : w''.cell? ⟨w.heap.size + 1, 0, none⟩ = some (.bool false) := by simp [World.cell?, hC3]
    simp [Leaves, settle, results, Tryd.results33, go_sem, y0, y1, y2, y3, y4, y5, y6, y7, y8, y9, y10, y]
    exact ⟨zeroPk, false, rfl, .inr ⟨rfl, hno⟩, hG4⟩
end Go.Proofs.YteecemjbkpkpaaaDoor
