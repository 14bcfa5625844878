/- The program's Adjusted and Slewed by a clock's numbers. -/
import Derived.Test.YtlabmnfmijbpfaaCkI
import Derived.Test.YtlabmnfmijbpfaaCkTwo
import Derived.Deep.CutRange
import Derived.Deep.RegionHeld3
namespace Go.Proofs.Ytlabmnfmijbpfaa
open Go.ChangeShapes Go.WideShapes Go.ChangeAt Go.RowKit
set_option linter.unusedVariables false
set_option linter.unusedSimpArgs false

theorem ckOk_dec {c : Ck} {b : Bool} (h : c.ok = b) (w : World) : Calls Try.prog 17 #[.agg #[.int .i64 c.st, .int .i64 c.off, .int .i64 c.fr, .int .i64 c.poll, .int .i64 c.calm]] w fun e w' => e = .returned (.bool b) ∧ Below w.heap.size w w' := h ▸ clockOk_impl c w
theorem ckOk_decS {c : Ck} {b : Bool} (h : c.ok = b) (w : World) : Calls Try.prog 18 #[.agg #[.int .i64 c.st, .int .i64 c.off, .int .i64 c.fr, .int .i64 c.poll, .int .i64 c.calm]] w fun e w' => e = .returned (.bool b) ∧ Below w.heap.size w w' := h ▸ clockOk_spec c w

/-- What Adjusted answers. -/
def AdjPost (w : World) (c : Ck) (n : Int) (b : Bool) : Ending → World → Prop := fun e w' => e = .returned (.tuple #[.agg #[.int .i64 c.st, .int .i64 c.off, .int .i64 c.fr, .int .i64 c.poll, .int .i64 c.calm], .int .i64 n, .bool b]) ∧ Below w.heap.size w w'

theorem adjV_no {c : Ck} {o g : Int} (h : adjOk c o g = false) : adjV c o g = Ck.zero ∧ stepV c o g = 0 := by
  unfold adjV stepV; rw [h]; exact ⟨rfl, rfl⟩
theorem adjOk_of (c : Ck) (o g : Int) : (c.ok = false ∧ adjOk c o g = false) ∨ (c.ok = true ∧ inB (-1000000000000) o 1000000000000 = false ∧ adjOk c o g = false) ∨ (c.ok = true ∧ inB (-1000000000000) o 1000000000000 = true ∧ inB 1 g 100000 = false ∧ adjOk c o g = false) ∨ (c.ok = true ∧ inB (-1000000000000) o 1000000000000 = true ∧ inB 1 g 100000 = true ∧ adjOk c o g = true) := by
  unfold adjOk
  cases c.ok <;> cases inB (-1000000000000) o 1000000000000 <;> cases inB 1 g 100000 <;> simp

theorem great_at0 (w : World) : (Instr.index 54 (.agg #[.func (.func 43) #[] #[], .func (.func 44) #[] #[], .func (.func 43) #[] #[]]) (.int .i64 0)).run Try.prog w = .ok (.func (.func 43) #[] #[]) w := by kernel_rfl
theorem great_at1 (w : World) : (Instr.index 54 (.agg #[.func (.func 43) #[] #[], .func (.func 44) #[] #[], .func (.func 43) #[] #[]]) (.int .i64 1)).run Try.prog w = .ok (.func (.func 44) #[] #[]) w := by kernel_rfl
theorem great_at2 (w : World) : (Instr.index 54 (.agg #[.func (.func 43) #[] #[], .func (.func 44) #[] #[], .func (.func 43) #[] #[]]) (.int .i64 2)).run Try.prog w = .ok (.func (.func 43) #[] #[]) w := by kernel_rfl

set_option maxHeartbeats 8000000 in
theorem great_impl0 (off fr poll calm o g : Int) (h0 : (⟨0, off, fr, poll, calm⟩ : Ck).ok = true) (h1 : inB (-1000000000000) o 1000000000000 = true) (h2 : inB 1 g 100000 = true) (hu : unB o 128000 = false) (w : World) :
    Calls Try.prog 14 #[.agg #[.int .i64 0, .int .i64 off, .int .i64 fr, .int .i64 poll, .int .i64 calm], .int .i64 o, .int .i64 g] w (AdjPost w ⟨1, 0, fr, 4, 0⟩ o true) := by
  have HS := Lib.hid (fun w => stepped_c ⟨0, off, fr, poll, calm⟩ o w)
  have H0 := Lib.hid (fun w => ckOk_dec h0 w)
  have HU := Lib.hid (fun w => unB_dec (by omega) (by omega) hu w)
  obtain ⟨GT, hGT⟩ : ∃ GT : Value, GT = .agg #[.func (.func 43) #[] #[], .func (.func 44) #[] #[], .func (.func 43) #[] #[]] := ⟨_, rfl⟩
  have HG : Hid (∀ w, Calls Try.prog 34 #[] w fun e w' => e = .returned GT ∧ Below w.heap.size w w') := Lib.hid (fun w => hGT ▸ whenGreat_c w)
  have x0 : ∀ w : World, (Instr.index 54 GT (.int .i64 0)).run Try.prog w = .ok (.func (.func 43) #[] #[]) w := fun w => by rw [hGT]; exact great_at0 w
  have X0 := Lib.hid x0
  clear h0 hu hGT x0
  dsimp only at H0 HS ⊢
  go_enter Try.func14, Try.ntmps14
  go_wp2_with fail
  refine (H0.out _).mono ?_
  rintro e w1 ⟨rfl, hb⟩
  have T := (Two.new w ⟨0, off, fr, poll, calm⟩ Ck.zero).next hb
  have X := T.cells.1
  dsimp only at X
  obtain ⟨l1, m1⟩ := T.lt
  clear hb
  go_upto_region 5 with (first | (go_at_call 31; refine (within_c _ _ _ _).mono ?_; rintro e w1 ⟨rfl, rfl⟩) | (go_at_call 32; refine (HU.out _).mono ?_; rintro e w1 ⟨rfl, rfl⟩))
  go_cut [9, 10] from 31 to 40 (fun n k wx => ∃ b, n = .pointer (some ⟨b, 0, none⟩) ∧ k = .int .i64 o ∧ Two w wx ⟨0, off, fr, poll, calm⟩ Ck.zero ∧ wx.heap[b]? = some (.cells #[.int .i64 ((⟨1, 0, fr, 4, 0⟩ : Ck)).st, .int .i64 ((⟨1, 0, fr, 4, 0⟩ : Ck)).off, .int .i64 ((⟨1, 0, fr, 4, 0⟩ : Ck)).fr, .int .i64 ((⟨1, 0, fr, 4, 0⟩ : Ck)).poll, .int .i64 ((⟨1, 0, fr, 4, 0⟩ : Ck)).calm] 25))
  case first =>
    clear H0 HU h1 h2
    have x0 := X0.out
    have Xd := T.drew.cells.1
    dsimp only at Xd
    go_region_held3 (fun w' => w'.cell? ⟨w.heap.size, 0, none⟩ = some (.int .i64 0) ∧ w'.cell? ⟨w.heap.size, 1, none⟩ = some (.int .i64 off) ∧ w'.cell? ⟨w.heap.size, 2, none⟩ = some (.int .i64 fr) ∧ w'.cell? ⟨w.heap.size, 3, none⟩ = some (.int .i64 poll) ∧ w'.cell? ⟨w.heap.size, 4, none⟩ = some (.int .i64 calm)) (first | with_reducible assumption | with_reducible exact (T.alloc _).drew.cells.1 | with_reducible exact (T.drew.alloc _).cells.1 | with_reducible exact (T2.alloc _).cells.1 | with_reducible exact (T3.alloc _).cells.1 | with_reducible exact (T3.other T2.lt.1 ⟨1, 0, fr, 4, 0⟩).cells.1 | with_reducible exact (T3.other T.lt.1 ⟨1, 0, fr, 4, 0⟩).cells.1 | with_reducible exact (T3.other (by have := T.lt.1; have := T2.grown.size; simp only [World.size_alloc] at *; omega) ⟨1, 0, fr, 4, 0⟩).cells.1) (first
      | (go_at_call 34; refine (HG.out _).mono ?_; rintro e w2 ⟨rfl, hb2⟩
         have T2 : Two w w2 ⟨0, off, fr, poll, calm⟩ Ck.zero := by first | with_reducible exact T.drew.next hb2 | with_reducible exact (T.drew.alloc _).next hb2 | with_reducible exact (T.alloc _).drew.next hb2
         have Y := T2.cells.1; dsimp only at Y; have m2 := T2.lt.2)
      | (go_at_call 43; refine (HS.out _).mono ?_; rintro e w3 ⟨rfl, hb3⟩
         have T3 : Two w w3 ⟨0, off, fr, poll, calm⟩ Ck.zero := by first | with_reducible exact T2.next hb3 | with_reducible exact (T2.alloc _).next hb3
         have Z := T3.cells.1; dsimp only at Z
         (first | (have N3 := blk_next hb3 (blk_next hb2 (blk_newd w1 (.cells #[.int .i64 Ck.zero.st, .int .i64 Ck.zero.off, .int .i64 Ck.zero.fr, .int .i64 Ck.zero.poll, .int .i64 Ck.zero.calm] 25)))) | (have N3 := blk_next hb3 (blk_new w2 (.cells #[.int .i64 Ck.zero.st, .int .i64 Ck.zero.off, .int .i64 Ck.zero.fr, .int .i64 Ck.zero.poll, .int .i64 Ck.zero.calm] 25))) | (have N3 := True.intro))
         (first | (have N4 := ck_cells N3; have N5 := ck_thaw N3; dsimp only [Ck.zero] at N4) | skip)))
    all_goals
      try clear N4 N5
      go_wp2_with fail
      go_meet
      first
        | (with_reducible exact ⟨_, rfl, rfl, T3.alloc _, blk_new _ _⟩)
        | (with_reducible exact ⟨_, rfl, rfl, T3.other T2.lt.1 ⟨1, 0, fr, 4, 0⟩, ck_put N3 ⟨1, 0, fr, 4, 0⟩⟩)
        | (with_reducible exact ⟨_, rfl, rfl, T3.other T.lt.1 ⟨1, 0, fr, 4, 0⟩, ck_put N3 ⟨1, 0, fr, 4, 0⟩⟩)
  case rest =>
    obtain ⟨b, rfl, rfl, T4, hN⟩ := hcut
    clear X m1 l1 T
    have X := T4.cells
    have N := ck_cells hN
    have F := T4.fin ⟨1, 0, fr, 4, 0⟩ _ rfl
    dsimp only [Ck.zero] at X N F
    clear T4 hN
    go_wp2_with fail
    refine bodyPost_ret (by simp [results, Try.results14, go_sem, F]; try rfl) rfl ?_
    exact ⟨rfl, F.2⟩

set_option maxHeartbeats 8000000 in
theorem great_impl1 (off fr poll calm o g : Int) (h0 : (⟨1, off, fr, poll, calm⟩ : Ck).ok = true) (h1 : inB (-1000000000000) o 1000000000000 = true) (h2 : inB 1 g 100000 = true) (hu : unB o 128000 = false) (w : World) :
    Calls Try.prog 14 #[.agg #[.int .i64 1, .int .i64 off, .int .i64 fr, .int .i64 poll, .int .i64 calm], .int .i64 o, .int .i64 g] w (AdjPost w ⟨2, off, fr, poll, calm⟩ 0 true) := by
  have HS := Lib.hid (fun w => spiked_c ⟨1, off, fr, poll, calm⟩ o w)
  have H0 := Lib.hid (fun w => ckOk_dec h0 w)
  have HU := Lib.hid (fun w => unB_dec (by omega) (by omega) hu w)
  obtain ⟨GT, hGT⟩ : ∃ GT : Value, GT = .agg #[.func (.func 43) #[] #[], .func (.func 44) #[] #[], .func (.func 43) #[] #[]] := ⟨_, rfl⟩
  have HG : Hid (∀ w, Calls Try.prog 34 #[] w fun e w' => e = .returned GT ∧ Below w.heap.size w w') := Lib.hid (fun w => hGT ▸ whenGreat_c w)
  have x0 : ∀ w : World, (Instr.index 54 GT (.int .i64 1)).run Try.prog w = .ok (.func (.func 44) #[] #[]) w := fun w => by rw [hGT]; exact great_at1 w
  have X0 := Lib.hid x0
  clear h0 hu hGT x0
  dsimp only at H0 HS ⊢
  go_enter Try.func14, Try.ntmps14
  go_wp2_with fail
  refine (H0.out _).mono ?_
  rintro e w1 ⟨rfl, hb⟩
  have T := (Two.new w ⟨1, off, fr, poll, calm⟩ Ck.zero).next hb
  have X := T.cells.1
  dsimp only at X
  obtain ⟨l1, m1⟩ := T.lt
  clear hb
  go_upto_region 5 with (first | (go_at_call 31; refine (within_c _ _ _ _).mono ?_; rintro e w1 ⟨rfl, rfl⟩) | (go_at_call 32; refine (HU.out _).mono ?_; rintro e w1 ⟨rfl, rfl⟩))
  go_cut [9, 10] from 31 to 40 (fun n k wx => ∃ b, n = .pointer (some ⟨b, 0, none⟩) ∧ k = .int .i64 0 ∧ Two w wx ⟨1, off, fr, poll, calm⟩ Ck.zero ∧ wx.heap[b]? = some (.cells #[.int .i64 ((⟨2, off, fr, poll, calm⟩ : Ck)).st, .int .i64 ((⟨2, off, fr, poll, calm⟩ : Ck)).off, .int .i64 ((⟨2, off, fr, poll, calm⟩ : Ck)).fr, .int .i64 ((⟨2, off, fr, poll, calm⟩ : Ck)).poll, .int .i64 ((⟨2, off, fr, poll, calm⟩ : Ck)).calm] 25))
  case first =>
    clear H0 HU h1 h2
    have x0 := X0.out
    have Xd := T.drew.cells.1
    dsimp only at Xd
    go_region_held3 (fun w' => w'.cell? ⟨w.heap.size, 0, none⟩ = some (.int .i64 1) ∧ w'.cell? ⟨w.heap.size, 1, none⟩ = some (.int .i64 off) ∧ w'.cell? ⟨w.heap.size, 2, none⟩ = some (.int .i64 fr) ∧ w'.cell? ⟨w.heap.size, 3, none⟩ = some (.int .i64 poll) ∧ w'.cell? ⟨w.heap.size, 4, none⟩ = some (.int .i64 calm)) (first | with_reducible assumption | with_reducible exact (T.alloc _).drew.cells.1 | with_reducible exact (T.drew.alloc _).cells.1 | with_reducible exact (T2.alloc _).cells.1 | with_reducible exact (T3.alloc _).cells.1 | with_reducible exact (T3.other T2.lt.1 ⟨2, off, fr, poll, calm⟩).cells.1 | with_reducible exact (T3.other T.lt.1 ⟨2, off, fr, poll, calm⟩).cells.1 | with_reducible exact (T3.other (by have := T.lt.1; have := T2.grown.size; simp only [World.size_alloc] at *; omega) ⟨2, off, fr, poll, calm⟩).cells.1) (first
      | (go_at_call 34; refine (HG.out _).mono ?_; rintro e w2 ⟨rfl, hb2⟩
         have T2 : Two w w2 ⟨1, off, fr, poll, calm⟩ Ck.zero := by first | with_reducible exact T.drew.next hb2 | with_reducible exact (T.drew.alloc _).next hb2 | with_reducible exact (T.alloc _).drew.next hb2
         have Y := T2.cells.1; dsimp only at Y; have m2 := T2.lt.2)
      | (go_at_call 44; refine (HS.out _).mono ?_; rintro e w3 ⟨rfl, hb3⟩
         have T3 : Two w w3 ⟨1, off, fr, poll, calm⟩ Ck.zero := by first | with_reducible exact T2.next hb3 | with_reducible exact (T2.alloc _).next hb3
         have Z := T3.cells.1; dsimp only at Z
         (first | (have N3 := blk_next hb3 (blk_next hb2 (blk_newd w1 (.cells #[.int .i64 Ck.zero.st, .int .i64 Ck.zero.off, .int .i64 Ck.zero.fr, .int .i64 Ck.zero.poll, .int .i64 Ck.zero.calm] 25)))) | (have N3 := blk_next hb3 (blk_new w2 (.cells #[.int .i64 Ck.zero.st, .int .i64 Ck.zero.off, .int .i64 Ck.zero.fr, .int .i64 Ck.zero.poll, .int .i64 Ck.zero.calm] 25))) | (have N3 := True.intro))
         (first | (have N4 := ck_cells N3; have N5 := ck_thaw N3; dsimp only [Ck.zero] at N4) | skip)))
    all_goals
      try clear N4 N5
      go_wp2_with fail
      go_meet
      first
        | (with_reducible exact ⟨_, rfl, rfl, T3.alloc _, blk_new _ _⟩)
        | (with_reducible exact ⟨_, rfl, rfl, T3.other T2.lt.1 ⟨2, off, fr, poll, calm⟩, ck_put N3 ⟨2, off, fr, poll, calm⟩⟩)
        | (with_reducible exact ⟨_, rfl, rfl, T3.other T.lt.1 ⟨2, off, fr, poll, calm⟩, ck_put N3 ⟨2, off, fr, poll, calm⟩⟩)
  case rest =>
    obtain ⟨b, rfl, rfl, T4, hN⟩ := hcut
    clear X m1 l1 T
    have X := T4.cells
    have N := ck_cells hN
    have F := T4.fin ⟨2, off, fr, poll, calm⟩ _ rfl
    dsimp only [Ck.zero] at X N F
    clear T4 hN
    go_wp2_with fail
    refine bodyPost_ret (by simp [results, Try.results14, go_sem, F]; try rfl) rfl ?_
    exact ⟨rfl, F.2⟩

set_option maxHeartbeats 8000000 in
theorem great_impl2 (off fr poll calm o g : Int) (h0 : (⟨2, off, fr, poll, calm⟩ : Ck).ok = true) (h1 : inB (-1000000000000) o 1000000000000 = true) (h2 : inB 1 g 100000 = true) (hu : unB o 128000 = false) (w : World) :
    Calls Try.prog 14 #[.agg #[.int .i64 2, .int .i64 off, .int .i64 fr, .int .i64 poll, .int .i64 calm], .int .i64 o, .int .i64 g] w (AdjPost w ⟨1, 0, fr, 4, 0⟩ o true) := by
  have HS := Lib.hid (fun w => stepped_c ⟨2, off, fr, poll, calm⟩ o w)
  have H0 := Lib.hid (fun w => ckOk_dec h0 w)
  have HU := Lib.hid (fun w => unB_dec (by omega) (by omega) hu w)
  obtain ⟨GT, hGT⟩ : ∃ GT : Value, GT = .agg #[.func (.func 43) #[] #[], .func (.func 44) #[] #[], .func (.func 43) #[] #[]] := ⟨_, rfl⟩
  have HG : Hid (∀ w, Calls Try.prog 34 #[] w fun e w' => e = .returned GT ∧ Below w.heap.size w w') := Lib.hid (fun w => hGT ▸ whenGreat_c w)
  have x0 : ∀ w : World, (Instr.index 54 GT (.int .i64 2)).run Try.prog w = .ok (.func (.func 43) #[] #[]) w := fun w => by rw [hGT]; exact great_at2 w
  have X0 := Lib.hid x0
  clear h0 hu hGT x0
  dsimp only at H0 HS ⊢
  go_enter Try.func14, Try.ntmps14
  go_wp2_with fail
  refine (H0.out _).mono ?_
  rintro e w1 ⟨rfl, hb⟩
  have T := (Two.new w ⟨2, off, fr, poll, calm⟩ Ck.zero).next hb
  have X := T.cells.1
  dsimp only at X
  obtain ⟨l1, m1⟩ := T.lt
  clear hb
  go_upto_region 5 with (first | (go_at_call 31; refine (within_c _ _ _ _).mono ?_; rintro e w1 ⟨rfl, rfl⟩) | (go_at_call 32; refine (HU.out _).mono ?_; rintro e w1 ⟨rfl, rfl⟩))
  go_cut [9, 10] from 31 to 40 (fun n k wx => ∃ b, n = .pointer (some ⟨b, 0, none⟩) ∧ k = .int .i64 o ∧ Two w wx ⟨2, off, fr, poll, calm⟩ Ck.zero ∧ wx.heap[b]? = some (.cells #[.int .i64 ((⟨1, 0, fr, 4, 0⟩ : Ck)).st, .int .i64 ((⟨1, 0, fr, 4, 0⟩ : Ck)).off, .int .i64 ((⟨1, 0, fr, 4, 0⟩ : Ck)).fr, .int .i64 ((⟨1, 0, fr, 4, 0⟩ : Ck)).poll, .int .i64 ((⟨1, 0, fr, 4, 0⟩ : Ck)).calm] 25))
  case first =>
    clear H0 HU h1 h2
    have x0 := X0.out
    have Xd := T.drew.cells.1
    dsimp only at Xd
    go_region_held3 (fun w' => w'.cell? ⟨w.heap.size, 0, none⟩ = some (.int .i64 2) ∧ w'.cell? ⟨w.heap.size, 1, none⟩ = some (.int .i64 off) ∧ w'.cell? ⟨w.heap.size, 2, none⟩ = some (.int .i64 fr) ∧ w'.cell? ⟨w.heap.size, 3, none⟩ = some (.int .i64 poll) ∧ w'.cell? ⟨w.heap.size, 4, none⟩ = some (.int .i64 calm)) (first | with_reducible assumption | with_reducible exact (T.alloc _).drew.cells.1 | with_reducible exact (T.drew.alloc _).cells.1 | with_reducible exact (T2.alloc _).cells.1 | with_reducible exact (T3.alloc _).cells.1 | with_reducible exact (T3.other T2.lt.1 ⟨1, 0, fr, 4, 0⟩).cells.1 | with_reducible exact (T3.other T.lt.1 ⟨1, 0, fr, 4, 0⟩).cells.1 | with_reducible exact (T3.other (by have := T.lt.1; have := T2.grown.size; simp only [World.size_alloc] at *; omega) ⟨1, 0, fr, 4, 0⟩).cells.1) (first
      | (go_at_call 34; refine (HG.out _).mono ?_; rintro e w2 ⟨rfl, hb2⟩
         have T2 : Two w w2 ⟨2, off, fr, poll, calm⟩ Ck.zero := by first | with_reducible exact T.drew.next hb2 | with_reducible exact (T.drew.alloc _).next hb2 | with_reducible exact (T.alloc _).drew.next hb2
         have Y := T2.cells.1; dsimp only at Y; have m2 := T2.lt.2)
      | (go_at_call 43; refine (HS.out _).mono ?_; rintro e w3 ⟨rfl, hb3⟩
         have T3 : Two w w3 ⟨2, off, fr, poll, calm⟩ Ck.zero := by first | with_reducible exact T2.next hb3 | with_reducible exact (T2.alloc _).next hb3
         have Z := T3.cells.1; dsimp only at Z
         (first | (have N3 := blk_next hb3 (blk_next hb2 (blk_newd w1 (.cells #[.int .i64 Ck.zero.st, .int .i64 Ck.zero.off, .int .i64 Ck.zero.fr, .int .i64 Ck.zero.poll, .int .i64 Ck.zero.calm] 25)))) | (have N3 := blk_next hb3 (blk_new w2 (.cells #[.int .i64 Ck.zero.st, .int .i64 Ck.zero.off, .int .i64 Ck.zero.fr, .int .i64 Ck.zero.poll, .int .i64 Ck.zero.calm] 25))) | (have N3 := True.intro))
         (first | (have N4 := ck_cells N3; have N5 := ck_thaw N3; dsimp only [Ck.zero] at N4) | skip)))
    all_goals
      try clear N4 N5
      go_wp2_with fail
      go_meet
      first
        | (with_reducible exact ⟨_, rfl, rfl, T3.alloc _, blk_new _ _⟩)
        | (with_reducible exact ⟨_, rfl, rfl, T3.other T2.lt.1 ⟨1, 0, fr, 4, 0⟩, ck_put N3 ⟨1, 0, fr, 4, 0⟩⟩)
        | (with_reducible exact ⟨_, rfl, rfl, T3.other T.lt.1 ⟨1, 0, fr, 4, 0⟩, ck_put N3 ⟨1, 0, fr, 4, 0⟩⟩)
  case rest =>
    obtain ⟨b, rfl, rfl, T4, hN⟩ := hcut
    clear X m1 l1 T
    have X := T4.cells
    have N := ck_cells hN
    have F := T4.fin ⟨1, 0, fr, 4, 0⟩ _ rfl
    dsimp only [Ck.zero] at X N F
    clear T4 hN
    go_wp2_with fail
    refine bodyPost_ret (by simp [results, Try.results14, go_sem, F]; try rfl) rfl ?_
    exact ⟨rfl, F.2⟩

set_option maxHeartbeats 1000000 in
theorem adjusted_impl (c : Ck) (o g : Int) (w : World) :
    Calls Try.prog 14 #[.agg #[.int .i64 c.st, .int .i64 c.off, .int .i64 c.fr, .int .i64 c.poll, .int .i64 c.calm], .int .i64 o, .int .i64 g] w (AdjPost w (adjV c o g) (stepV c o g) (adjOk c o g)) := by
  rcases adjOk_of c o g with ⟨h0, h⟩ | ⟨h0, h1, h⟩ | ⟨h0, h1, h2, h⟩ | ⟨h0, h1, h2, h⟩
  · obtain ⟨e1, e2⟩ := adjV_no h
    rw [e1, e2, h]
    dsimp only [Ck.zero]
    have H0 := Lib.hid (fun w => ckOk_dec h0 w)
    clear e1 e2 h h0
    go_enter Try.func14, Try.ntmps14
    go_wp2_with fail
    refine (H0.out _).mono ?_
    rintro e w1 ⟨rfl, hb⟩
    have T := (Two.new w c Ck.zero).next hb
    have X := T.cells
    have F := T.fin Ck.zero _ rfl
    dsimp only [Ck.zero] at X F
    clear T hb
    go_wp2_with fail
    refine bodyPost_ret (by simp [results, Try.results14, go_sem, F]; try rfl) rfl ?_
    exact ⟨rfl, F.2⟩
  · obtain ⟨e1, e2⟩ := adjV_no h
    rw [e1, e2, h]
    dsimp only [Ck.zero]
    have H0 := Lib.hid (fun w => ckOk_dec h0 w)
    clear e1 e2 h h0
    go_enter Try.func14, Try.ntmps14
    go_wp2_with fail
    refine (H0.out _).mono ?_
    rintro e w1 ⟨rfl, hb⟩
    have T := (Two.new w c Ck.zero).next hb
    have X := T.cells
    have F := T.fin Ck.zero _ rfl
    dsimp only [Ck.zero] at X F
    clear T hb
    go_wp2_with (go_at_call 31; refine (within_c _ _ _ _).mono ?_; rintro e w1 ⟨rfl, rfl⟩)
    refine bodyPost_ret (by simp [results, Try.results14, go_sem, F]; try rfl) rfl ?_
    exact ⟨rfl, F.2⟩
  · obtain ⟨e1, e2⟩ := adjV_no h
    rw [e1, e2, h]
    dsimp only [Ck.zero]
    have H0 := Lib.hid (fun w => ckOk_dec h0 w)
    clear e1 e2 h h0
    go_enter Try.func14, Try.ntmps14
    go_wp2_with fail
    refine (H0.out _).mono ?_
    rintro e w1 ⟨rfl, hb⟩
    have T := (Two.new w c Ck.zero).next hb
    have X := T.cells
    have F := T.fin Ck.zero _ rfl
    dsimp only [Ck.zero] at X F
    clear T hb
    go_wp2_with (go_at_call 31; refine (within_c _ _ _ _).mono ?_; rintro e w1 ⟨rfl, rfl⟩)
    refine bodyPost_ret (by simp [results, Try.results14, go_sem, F]; try rfl) rfl ?_
    exact ⟨rfl, F.2⟩
  · obtain ⟨⟨o0, o1⟩, ⟨g0, g1⟩⟩ := (adjOk_iff.1 h).2
    cases hu : unB o 128000 with
    | true =>
      have e1 : adjV c o g = followedV c o g := by unfold adjV; rw [h, hu]; rfl
      have e2 : stepV c o g = 0 := by unfold stepV; rw [h, hu]; rfl
      obtain ⟨v, hv⟩ : ∃ v, v = followedV c o g := ⟨_, rfl⟩
      rw [e1, e2, h, ← hv]
      have H0 := Lib.hid (fun w => ckOk_dec h0 w)
      have HU := Lib.hid (fun w => unB_dec (by omega) (by omega) hu w)
      have HF : Hid (∀ w, Calls Try.prog 33 #[.agg #[.int .i64 c.st, .int .i64 c.off, .int .i64 c.fr, .int .i64 c.poll, .int .i64 c.calm], .int .i64 o, .int .i64 g] w fun e w' => e = .returned (.agg #[.int .i64 v.st, .int .i64 v.off, .int .i64 v.fr, .int .i64 v.poll, .int .i64 v.calm]) ∧ Below w.heap.size w w') := Lib.hid (fun w => hv ▸ followed_c c h0 o g hu g0 g1 w)
      clear e1 e2 h h0 hu hv
      go_enter Try.func14, Try.ntmps14
      go_wp2_with fail
      refine (H0.out _).mono ?_
      rintro e w1 ⟨rfl, hb⟩
      have T := (Two.new w c Ck.zero).next hb
      have X := T.cells
      dsimp only [Ck.zero] at X
      clear hb
      go_wp2_with (first | (go_at_call 31; refine (within_c _ _ _ _).mono ?_; rintro e w1 ⟨rfl, rfl⟩) | (go_at_call 32; refine (HU.out _).mono ?_; rintro e w1 ⟨rfl, rfl⟩) | (go_at_call 33; refine (HF.out _).mono ?_; rintro e w2 ⟨rfl, hb⟩; have T2 := T.next hb; have Y := T2.cells; dsimp only [Ck.zero] at Y; clear X))
      have F := T2.fin v _ rfl
      refine bodyPost_ret (by simp [results, Try.results14, go_sem, F]; try rfl) rfl ?_
      exact ⟨rfl, F.2⟩
    | false =>
      obtain ⟨st, off, fr, poll, calm⟩ := c
      obtain ⟨⟨s0, s1⟩, _⟩ := Ck.ok_iff.1 h0
      dsimp only at s0 s1
      rcases (show st = 0 ∨ st = 1 ∨ st = 2 by omega) with rfl | rfl | rfl
      · have e1 : adjV ⟨0, off, fr, poll, calm⟩ o g = ⟨1, 0, fr, 4, 0⟩ := by unfold adjV greatV; rw [h, hu]; rfl
        have e2 : stepV ⟨0, off, fr, poll, calm⟩ o g = o := by unfold stepV; rw [h, hu]; rfl
        rw [e1, e2, h]
        exact great_impl0 off fr poll calm o g h0 h1 h2 hu w
      · have e1 : adjV ⟨1, off, fr, poll, calm⟩ o g = ⟨2, off, fr, poll, calm⟩ := by unfold adjV greatV; rw [h, hu]; rfl
        have e2 : stepV ⟨1, off, fr, poll, calm⟩ o g = 0 := by unfold stepV; rw [h, hu]; rfl
        rw [e1, e2, h]
        exact great_impl1 off fr poll calm o g h0 h1 h2 hu w
      · have e1 : adjV ⟨2, off, fr, poll, calm⟩ o g = ⟨1, 0, fr, 4, 0⟩ := by unfold adjV greatV; rw [h, hu]; rfl
        have e2 : stepV ⟨2, off, fr, poll, calm⟩ o g = o := by unfold stepV; rw [h, hu]; rfl
        rw [e1, e2, h]
        exact great_impl2 off fr poll calm o g h0 h1 h2 hu w
end Go.Proofs.Ytlabmnfmijbpfaa
