/- The program's SampleOk by what its check refuses; the reference's. -/
import Derived.Test.YtbkkgkmllplbaaaGreatDoorLd
import Derived.Test.YtbkkgkmllplbaaaGreatDoorSm
import Derived.Test.YtbkkgkmllplbaaaGreatDoorErr
namespace Go.Proofs.YtbkkgkmllplbaaaGreatDoor
open Go.ChangeShapes Go.WideShapes Go.ChangeAt Go.RowKit
set_option linter.unusedVariables false
set_option linter.unusedSimpArgs false

/-- A refusal for this reason; nothing that lay has turned. -/
def Refused (why : Addr) (W : World) : Ending → World → Prop := fun e w' =>
  ∃ b, e = .returned (.iface 63 (.pointer (some ⟨b, 0, none⟩))) ∧ w'.cell? ⟨b, 1, none⟩ = some (.iface 151 (.pointer (some why))) ∧ Below W.heap.size W w'

set_option maxHeartbeats 1000000 in
theorem check_right (s : Sm) (h : s.ok = true) (W : World) :
    Calls Tryz.prog 24 #[.agg #[.int .i64 s.off, .int .i64 s.delay, .int .i64 s.disp, .int .i64 s.at_]] W fun e w' => e = .returned .nilIface ∧ Below W.heap.size W w' := by
  obtain ⟨⟨a0, a1⟩, ⟨b0, b1⟩, ⟨c0, c1⟩, ⟨d0, d1⟩⟩ := Sm.ok_iff.1 h
  have h1 := inB_yes a0 a1
  have h2 := inB_yes b0 b1
  have h3 := inB_yes d0 d1
  clear h a0 a1 b0 b1 d0 d1
  go_enter Tryz.func24, Tryz.ntmps24
  go_wp2_with (first | (go_at_call 38; refine (within_c _ _ _ _).mono ?_; rintro e w1 ⟨rfl, rfl⟩) | (go_at_call 39; refine (isTime_c _ _).mono ?_; rintro e w1 ⟨rfl, rfl⟩))
  go_returns
  exact ⟨rfl, by go_grown⟩

theorem check_off (s : Sm) (h1 : inB (-1000000000000) s.off 1000000000000 = false) (W : World) {ao an au : Addr} (L : Ld W ao an au) :
    Calls Tryz.prog 24 #[.agg #[.int .i64 s.off, .int .i64 s.delay, .int .i64 s.disp, .int .i64 s.at_]] W (Refused ao W) := by
  have l0 := cell_lt L.outside.cell
  have k0 := L.outside.cell
  go_enter Tryz.func24, Tryz.ntmps24
  go_wp2_with (first | (go_at_call 38; refine (within_c _ _ _ _).mono ?_; rintro e w1 ⟨rfl, rfl⟩) | (go_at_call 39; refine (isTime_c _ _).mono ?_; rintro e w1 ⟨rfl, rfl⟩))
  go_returns
  exact ⟨_, rfl, by simp, by go_grown⟩

theorem check_delay (s : Sm) (h1 : inB (-1000000000000) s.off 1000000000000 = true) (h2 : inB 0 s.delay 1000000000000 = false) (W : World) {ao an au : Addr} (L : Ld W ao an au) :
    Calls Tryz.prog 24 #[.agg #[.int .i64 s.off, .int .i64 s.delay, .int .i64 s.disp, .int .i64 s.at_]] W (Refused ao W) := by
  have l0 := cell_lt L.outside.cell
  have k0 := L.outside.cell
  go_enter Tryz.func24, Tryz.ntmps24
  go_wp2_with (first | (go_at_call 38; refine (within_c _ _ _ _).mono ?_; rintro e w1 ⟨rfl, rfl⟩) | (go_at_call 39; refine (isTime_c _ _).mono ?_; rintro e w1 ⟨rfl, rfl⟩))
  go_returns
  exact ⟨_, rfl, by simp, by go_grown⟩

theorem check_at (s : Sm) (h1 : inB (-1000000000000) s.off 1000000000000 = true) (h2 : inB 0 s.delay 1000000000000 = true) (h3 : inB 0 s.at_ 4000000000000000 = false) (W : World) {ao an au : Addr} (L : Ld W ao an au) :
    Calls Tryz.prog 24 #[.agg #[.int .i64 s.off, .int .i64 s.delay, .int .i64 s.disp, .int .i64 s.at_]] W (Refused an W) := by
  have l0 := cell_lt L.noTime.cell
  have k0 := L.noTime.cell
  go_enter Tryz.func24, Tryz.ntmps24
  go_wp2_with (first | (go_at_call 38; refine (within_c _ _ _ _).mono ?_; rintro e w1 ⟨rfl, rfl⟩) | (go_at_call 39; refine (isTime_c _ _).mono ?_; rintro e w1 ⟨rfl, rfl⟩))
  go_returns
  exact ⟨_, rfl, by simp, by go_grown⟩

theorem check_low (s : Sm) (h1 : inB (-1000000000000) s.off 1000000000000 = true) (h2 : inB 0 s.delay 1000000000000 = true) (h3 : inB 0 s.at_ 4000000000000000 = true) (h4 : s.disp < 0) (W : World) {ao an au : Addr} (L : Ld W ao an au) :
    Calls Tryz.prog 24 #[.agg #[.int .i64 s.off, .int .i64 s.delay, .int .i64 s.disp, .int .i64 s.at_]] W (Refused ao W) := by
  have l0 := cell_lt L.outside.cell
  have k0 := L.outside.cell
  go_enter Tryz.func24, Tryz.ntmps24
  go_wp2_with (first | (go_at_call 38; refine (within_c _ _ _ _).mono ?_; rintro e w1 ⟨rfl, rfl⟩) | (go_at_call 39; refine (isTime_c _ _).mono ?_; rintro e w1 ⟨rfl, rfl⟩))
  go_returns
  exact ⟨_, rfl, by simp, by go_grown⟩

theorem check_unsure (s : Sm) (h1 : inB (-1000000000000) s.off 1000000000000 = true) (h2 : inB 0 s.delay 1000000000000 = true) (h3 : inB 0 s.at_ 4000000000000000 = true) (h4 : 0 ≤ s.disp) (h5 : 16000000 < s.disp) (W : World) {ao an au : Addr} (L : Ld W ao an au) :
    Calls Tryz.prog 24 #[.agg #[.int .i64 s.off, .int .i64 s.delay, .int .i64 s.disp, .int .i64 s.at_]] W (Refused au W) := by
  have l0 := cell_lt L.unsure.cell
  have k0 := L.unsure.cell
  go_enter Tryz.func24, Tryz.ntmps24
  go_wp2_with (first | (go_at_call 38; refine (within_c _ _ _ _).mono ?_; rintro e w1 ⟨rfl, rfl⟩) | (go_at_call 39; refine (isTime_c _ _).mono ?_; rintro e w1 ⟨rfl, rfl⟩))
  go_returns
  exact ⟨_, rfl, by simp, by go_grown⟩

/-- All but the greatest Disp is right. -/
def Sm.base (s : Sm) : Bool := inB (-1000000000000) s.off 1000000000000 && inB 0 s.delay 1000000000000 && inB 0 s.at_ 4000000000000000 && decide (0 ≤ s.disp)
theorem Sm.ok_base (s : Sm) : s.ok = (s.base && decide (s.disp ≤ 16000000)) := by
  simp only [Sm.ok, Sm.base, inB]
  cases decide (-1000000000000 ≤ s.off) <;> cases decide (s.off ≤ 1000000000000) <;> cases decide (0 ≤ s.delay) <;> cases decide (s.delay ≤ 1000000000000) <;> cases decide (0 ≤ s.disp) <;> cases decide (s.disp ≤ 16000000) <;> cases decide (0 ≤ s.at_) <;> cases decide (s.at_ ≤ 4000000000000000) <;> rfl

/-- What is not right but for its Disp's being too great is refused for another reason. -/
theorem check_wrong (s : Sm) (h : s.base = false) (W : World) {ao an au : Addr} (L : Ld W ao an au) :
    Calls Tryz.prog 24 #[.agg #[.int .i64 s.off, .int .i64 s.delay, .int .i64 s.disp, .int .i64 s.at_]] W fun e w' => Refused ao W e w' ∨ Refused an W e w' := by
  cases h1 : inB (-1000000000000) s.off 1000000000000 with
  | false => exact (check_off s h1 W L).mono fun _ _ h => Or.inl h
  | true =>
    cases h2 : inB 0 s.delay 1000000000000 with
    | false => exact (check_delay s h1 h2 W L).mono fun _ _ h => Or.inl h
    | true =>
      cases h3 : inB 0 s.at_ 4000000000000000 with
      | false => exact (check_at s h1 h2 h3 W L).mono fun _ _ h => Or.inr h
      | true =>
        have h4 : s.disp < 0 := by
          simp only [Sm.base, h1, h2, h3, Bool.true_and, decide_eq_false_iff_not] at h
          omega
        exact (check_low s h1 h2 h3 h4 W L).mono fun _ _ h => Or.inl h

theorem base_parts {s : Sm} (h : s.base = true) : inB (-1000000000000) s.off 1000000000000 = true ∧ inB 0 s.delay 1000000000000 = true ∧ inB 0 s.at_ 4000000000000000 = true ∧ 0 ≤ s.disp := by
  simpa [Sm.base, Bool.and_eq_true, and_assoc] using h

/-- Whatever is not right is refused. -/
theorem check_no (s : Sm) (h : s.ok = false) (W : World) {ao an au : Addr} (L : Ld W ao an au) :
    Calls Tryz.prog 24 #[.agg #[.int .i64 s.off, .int .i64 s.delay, .int .i64 s.disp, .int .i64 s.at_]] W fun e w' => ∃ why, Refused why W e w' := by
  cases hb : s.base with
  | false => exact (check_wrong s hb W L).mono fun _ _ h => h.elim (fun h => ⟨_, h⟩) (fun h => ⟨_, h⟩)
  | true =>
    obtain ⟨h1, h2, h3, h4⟩ := base_parts hb
    have h5 : 16000000 < s.disp := by
      rw [Sm.ok_base, hb, Bool.true_and, decide_eq_false_iff_not] at h
      omega
    exact (check_unsure s h1 h2 h3 h4 h5 W L).mono fun _ _ h => ⟨_, h⟩

theorem isRefusal_nil (W : World) : Calls Tryz.prog 23 #[.nilIface] W fun e w' => e = .returned (.bool false) ∧ Below W.heap.size W w' := by
  go_enter Tryz.func23, Tryz.ntmps23
  go_wp2_with (go_at_call 37; refine (as_nil _ _).mono ?_; rintro e w' ⟨rfl, rfl⟩)
  go_returns
  exact ⟨rfl, by go_grown⟩

theorem isRefusal_hit (b : Addr) (W : World) {ao an au : Addr} (L : Ld W ao an au) : Calls Tryz.prog 23 #[.iface 63 (.pointer (some b))] W fun e w' => e = .returned (.bool true) ∧ Below W.heap.size W w' := by
  have L1 := L.next (w' := W.alloc (.cells #[.pointer none] 63)) (by go_grown)
  have hc : (W.alloc (.cells #[.pointer none] 63)).cell? ⟨W.heap.size, 0, none⟩ = some (.pointer none) := by simp
  have hf : (W.alloc (.cells #[.pointer none] 63)).frozen? ⟨W.heap.size, 0, none⟩ = false := by simp
  have hA := as_hit b ⟨W.heap.size, 0, none⟩ (.pointer none) _ L1.et hc hf
  go_enter Tryz.func23, Tryz.ntmps23
  go_wp2_with (go_at_call 37; refine hA.mono ?_; rintro e w' ⟨rfl, rfl⟩)
  go_returns
  exact ⟨rfl, by go_grown⟩

theorem sampleOk_impl (s : Sm) (W : World) {ao an au : Addr} (L : Ld W ao an au) :
    Calls Tryz.prog 13 #[.agg #[.int .i64 s.off, .int .i64 s.delay, .int .i64 s.disp, .int .i64 s.at_]] W fun e w' => e = .returned (.bool s.ok) ∧ Below W.heap.size W w' := by
  cases h : s.ok with
  | true =>
    go_enter Tryz.func13, Tryz.ntmps13
    go_wp2_with fail
    refine (check_right s h _).mono ?_
    rintro e w1 ⟨rfl, hb1⟩
    go_wp2_with fail
    refine (isRefusal_nil _).mono ?_
    rintro e w2 ⟨rfl, hb2⟩
    go_wp2_with fail
    go_returns
    exact ⟨rfl, grow_next (grow_next (by go_grown) hb1) hb2⟩
  | false =>
    have g0 : Below W.heap.size W (W.alloc (.cells #[.int .i64 s.off, .int .i64 s.delay, .int .i64 s.disp, .int .i64 s.at_] 23)) := by go_grown
    go_enter Tryz.func13, Tryz.ntmps13
    go_wp2_with fail
    refine (check_no s h _ (L.next g0)).mono ?_
    rintro e w1 ⟨why, b, rfl, hc1, hb1⟩
    go_wp2_with fail
    refine (isRefusal_hit _ _ ((L.next g0).next hb1)).mono ?_
    rintro e w2 ⟨rfl, hb2⟩
    go_wp2_with fail
    go_returns
    exact ⟨rfl, grow_next (grow_next g0 hb1) hb2⟩

set_option maxHeartbeats 1000000 in
theorem sampleOk_spec (s : Sm) (w : World) :
    Calls Tryz.prog 21 #[.agg #[.int .i64 s.off, .int .i64 s.delay, .int .i64 s.disp, .int .i64 s.at_]] w fun e w' => e = .returned (.bool s.ok) ∧ Below w.heap.size w w' := by
  go_enter Tryz.func21, Tryz.ntmps21
  go_wp2_with (first | (go_at_call 34; refine (l1In_c _ _ _ _).mono ?_; rintro e w1 ⟨rfl, rfl⟩) | (go_at_call 35; refine (l1Time_c _ _).mono ?_; rintro e w1 ⟨rfl, rfl⟩))
  all_goals (go_returns; exact ⟨by simp [Sm.ok, *], by go_grown⟩)

theorem list4 {α : Type} (l : List α) (h : l.length = 4) : ∃ a b c d, l = [a, b, c, d] :=
  match l, h with
  | [a, b, c, d], _ => ⟨a, b, c, d, rfl⟩

theorem eqSample_same (p : Sm) (w : World) :
    Calls Tryz.prog 7 #[.agg #[.int .i64 p.off, .int .i64 p.delay, .int .i64 p.disp, .int .i64 p.at_], .agg #[.int .i64 p.off, .int .i64 p.delay, .int .i64 p.disp, .int .i64 p.at_]] w fun e w' => e = .returned (.bool true) ∧ Below w.heap.size w w' := by
  go_enter Tryz.func7, Tryz.ntmps7
  go_wp2
  go_returns
  exact ⟨rfl, by go_grown⟩

theorem sample_cells {W : World} {b : Nat} {T : TypeId} {q : Sm} (h : W.heap[b]? = some (.cells #[.int .i64 q.off, .int .i64 q.delay, .int .i64 q.disp, .int .i64 q.at_] T)) : W.cell? ⟨b, 0, none⟩ = some (.int .i64 q.off) ∧ W.cell? ⟨b, 1, none⟩ = some (.int .i64 q.delay) ∧ W.cell? ⟨b, 2, none⟩ = some (.int .i64 q.disp) ∧ W.cell? ⟨b, 3, none⟩ = some (.int .i64 q.at_) := by
  simp [World.cell?, h]
theorem sample_thaw {W : World} {b : Nat} {T : TypeId} {q : Sm} (h : W.heap[b]? = some (.cells #[.int .i64 q.off, .int .i64 q.delay, .int .i64 q.disp, .int .i64 q.at_] T)) : W.frozen? ⟨b, 0, none⟩ = false ∧ W.frozen? ⟨b, 1, none⟩ = false ∧ W.frozen? ⟨b, 2, none⟩ = false ∧ W.frozen? ⟨b, 3, none⟩ = false := by
  refine ⟨?_, ?_, ?_, ?_⟩ <;> simp [World.frozen?, h]
theorem sample_put {W : World} {b : Nat} {T : TypeId} {q : Sm} (h : W.heap[b]? = some (.cells #[.int .i64 q.off, .int .i64 q.delay, .int .i64 q.disp, .int .i64 q.at_] T)) (r : Sm) :
    ((((W.setCell ⟨b, 0, none⟩ (.int .i64 r.off)).setCell ⟨b, 1, none⟩ (.int .i64 r.delay)).setCell ⟨b, 2, none⟩ (.int .i64 r.disp)).setCell ⟨b, 3, none⟩ (.int .i64 r.at_)).heap[b]? = some (.cells #[.int .i64 r.off, .int .i64 r.delay, .int .i64 r.disp, .int .i64 r.at_] T) := by
  simp [World.setCell, Array.getElem?_modify, h]
theorem below_put {w W : World} {b : Nat} (h : Below w.heap.size w W) (hb : w.heap.size ≤ b) (o : Nat) (v : Value) : Below w.heap.size w (W.setCell ⟨b, o, none⟩ v) := h.setCell hb v
end Go.Proofs.YtbkkgkmllplbaaaGreatDoor
