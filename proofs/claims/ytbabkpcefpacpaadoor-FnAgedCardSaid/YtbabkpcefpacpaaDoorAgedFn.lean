/- As time goes on a sample is told less surely; two times are one, but for a second's part: at all drawn samples and times. -/
import Derived.Test.YtbabkpcefpacpaaDoorAged
import Derived.Test.YtbabkpcefpacpaaDoorDrawAged
import Derived.Test.YtbabkpcefpacpaaDoorTie
import Derived.Test.YtbabkpcefpacpaaDoorCards
import Derived.Deep.RegionHeld3
namespace Go.Proofs.YtbabkpcefpacpaaDoor
open Go.ChangeShapes Go.WideShapes Go.ChangeAt Go.RowKit
set_option linter.unusedVariables false
set_option linter.unusedSimpArgs false

theorem three_cells {W : World} {b c d : Nat} {T : TypeId} {p q r : Sm} (h : W.heap[b]? = some (.cells #[.int .i64 p.off, .int .i64 p.delay, .int .i64 p.disp, .int .i64 p.at_] T)) (h' : W.heap[c]? = some (.cells #[.int .i64 q.off, .int .i64 q.delay, .int .i64 q.disp, .int .i64 q.at_] T)) (h'' : W.heap[d]? = some (.cells #[.int .i64 r.off, .int .i64 r.delay, .int .i64 r.disp, .int .i64 r.at_] T)) : (W.cell? ⟨b, 0, none⟩ = some (.int .i64 p.off) ∧ W.cell? ⟨b, 1, none⟩ = some (.int .i64 p.delay) ∧ W.cell? ⟨b, 2, none⟩ = some (.int .i64 p.disp) ∧ W.cell? ⟨b, 3, none⟩ = some (.int .i64 p.at_)) ∧ (W.cell? ⟨c, 0, none⟩ = some (.int .i64 q.off) ∧ W.cell? ⟨c, 1, none⟩ = some (.int .i64 q.delay) ∧ W.cell? ⟨c, 2, none⟩ = some (.int .i64 q.disp) ∧ W.cell? ⟨c, 3, none⟩ = some (.int .i64 q.at_)) ∧ (W.cell? ⟨d, 0, none⟩ = some (.int .i64 r.off) ∧ W.cell? ⟨d, 1, none⟩ = some (.int .i64 r.delay) ∧ W.cell? ⟨d, 2, none⟩ = some (.int .i64 r.disp) ∧ W.cell? ⟨d, 3, none⟩ = some (.int .i64 r.at_)) := ⟨sample_cells h, sample_cells h', sample_cells h''⟩
theorem four_cells {W : World} {b c d f : Nat} {T : TypeId} {p q r t : Sm} (h : W.heap[b]? = some (.cells #[.int .i64 p.off, .int .i64 p.delay, .int .i64 p.disp, .int .i64 p.at_] T)) (h' : W.heap[c]? = some (.cells #[.int .i64 q.off, .int .i64 q.delay, .int .i64 q.disp, .int .i64 q.at_] T)) (h'' : W.heap[d]? = some (.cells #[.int .i64 r.off, .int .i64 r.delay, .int .i64 r.disp, .int .i64 r.at_] T)) (h3 : W.heap[f]? = some (.cells #[.int .i64 t.off, .int .i64 t.delay, .int .i64 t.disp, .int .i64 t.at_] T)) : (W.cell? ⟨b, 0, none⟩ = some (.int .i64 p.off) ∧ W.cell? ⟨b, 1, none⟩ = some (.int .i64 p.delay) ∧ W.cell? ⟨b, 2, none⟩ = some (.int .i64 p.disp) ∧ W.cell? ⟨b, 3, none⟩ = some (.int .i64 p.at_)) ∧ (W.cell? ⟨c, 0, none⟩ = some (.int .i64 q.off) ∧ W.cell? ⟨c, 1, none⟩ = some (.int .i64 q.delay) ∧ W.cell? ⟨c, 2, none⟩ = some (.int .i64 q.disp) ∧ W.cell? ⟨c, 3, none⟩ = some (.int .i64 q.at_)) ∧ (W.cell? ⟨d, 0, none⟩ = some (.int .i64 r.off) ∧ W.cell? ⟨d, 1, none⟩ = some (.int .i64 r.delay) ∧ W.cell? ⟨d, 2, none⟩ = some (.int .i64 r.disp) ∧ W.cell? ⟨d, 3, none⟩ = some (.int .i64 r.at_)) ∧ (W.cell? ⟨f, 0, none⟩ = some (.int .i64 t.off) ∧ W.cell? ⟨f, 1, none⟩ = some (.int .i64 t.delay) ∧ W.cell? ⟨f, 2, none⟩ = some (.int .i64 t.disp) ∧ W.cell? ⟨f, 3, none⟩ = some (.int .i64 t.at_)) := ⟨sample_cells h, sample_cells h', sample_cells h'', sample_cells h3⟩
theorem reach_val {s : Sm} {r : Int} (h : reachV s = r) (w : World) : Calls Tryd.prog 22 #[.agg #[.int .i64 s.off, .int .i64 s.delay, .int .i64 s.disp, .int .i64 s.at_]] w fun e w' => e = .returned (.int .i64 r) ∧ Below w.heap.size w w' := h ▸ reach_spec s w
theorem reach_valI {s : Sm} {r : Int} (h : reachV s = r) (W : World) (ao an au : Addr) (L : Ld W ao an au) : Calls Tryd.prog 23 #[.agg #[.int .i64 s.off, .int .i64 s.delay, .int .i64 s.disp, .int .i64 s.at_]] W fun e w' => e = .returned (.int .i64 r) ∧ Below W.heap.size W w' := h ▸ reach_impl s W L
theorem agedV_yes {s : Sm} {now : Int} (h : agedOk s now = true) : agedV s now = agedOf s now := by unfold agedV; rw [h]; rfl
theorem aged_valI {s v : Sm} {now : Int} {k : Bool} (h : agedV s now = v) (hk : agedOk s now = k) (W : World) (ao an au ab : Addr) (tx : List UInt8) (L : Ld W ao an au) (B : Sent W 3 tx ab) :
    Calls Tryd.prog 21 #[.agg #[.int .i64 s.off, .int .i64 s.delay, .int .i64 s.disp, .int .i64 s.at_], .int .i64 now] W fun e w' => e = .returned (.tuple #[.agg #[.int .i64 v.off, .int .i64 v.delay, .int .i64 v.disp, .int .i64 v.at_], .bool k]) ∧ Below W.heap.size W w' := h ▸ hk ▸ aged_impl s now W L B
theorem aged_val {s v : Sm} {now : Int} {k : Bool} (h : agedV s now = v) (hk : agedOk s now = k) (W : World) :
    Calls Tryd.prog 20 #[.agg #[.int .i64 s.off, .int .i64 s.delay, .int .i64 s.disp, .int .i64 s.at_], .int .i64 now] W fun e w' => e = .returned (.tuple #[.agg #[.int .i64 v.off, .int .i64 v.delay, .int .i64 v.disp, .int .i64 v.at_], .bool k]) ∧ Below W.heap.size W w' := h ▸ hk ▸ aged_spec s now W

/-- What the law asks of the numbers. -/
theorem aged_numbers {s : Sm} {now : Int} (h : agedOk s now = true) : ∃ da dm db ra rs : Int,
    agedV s now = ⟨s.off, s.delay, da, now⟩ ∧ (⟨s.off, s.delay, da, now⟩ : Sm).ok = true ∧
    agedOk s (s.at_ + (now - s.at_) / 2) = true ∧ agedV s (s.at_ + (now - s.at_) / 2) = ⟨s.off, s.delay, dm, s.at_ + (now - s.at_) / 2⟩ ∧
    agedOk ⟨s.off, s.delay, dm, s.at_ + (now - s.at_) / 2⟩ now = true ∧ agedV ⟨s.off, s.delay, dm, s.at_ + (now - s.at_) / 2⟩ now = ⟨s.off, s.delay, db, now⟩ ∧
    agedOk s s.at_ = true ∧ agedV s s.at_ = s ∧ reachV ⟨s.off, s.delay, da, now⟩ = ra ∧ reachV s = rs ∧ rs ≤ ra ∧ da ≤ db ∧ db ≤ da + 15 ∧ 0 ≤ da ∧ da ≤ 16000000 := by
  obtain ⟨hs, ⟨n0, n1⟩, ha⟩ := agedOk_iff.1 h
  obtain ⟨⟨a0, a1⟩, ⟨b0, b1⟩, ⟨c0, c1⟩, ⟨d0, d1⟩⟩ := Sm.ok_iff.1 hs
  obtain ⟨da, hda⟩ : ∃ d, min 16000000 (s.disp + begun (now - s.at_) * 15) = d := ⟨_, rfl⟩
  obtain ⟨dm, hdm⟩ : ∃ d, min 16000000 (s.disp + begun (s.at_ + (now - s.at_) / 2 - s.at_) * 15) = d := ⟨_, rfl⟩
  obtain ⟨db, hdb⟩ : ∃ d, min 16000000 (dm + begun (now - (s.at_ + (now - s.at_) / 2)) * 15) = d := ⟨_, rfl⟩
  have k1 : agedOk s (s.at_ + (now - s.at_) / 2) = true := agedOk_iff.2 ⟨hs, ⟨by omega, by omega⟩, by omega⟩
  have oa : (⟨s.off, s.delay, da, now⟩ : Sm).ok = true := by
    rw [Sm.ok_iff]; dsimp only; unfold begun at hda; omega
  have om : (⟨s.off, s.delay, dm, s.at_ + (now - s.at_) / 2⟩ : Sm).ok = true := by
    rw [Sm.ok_iff]; dsimp only; unfold begun at hdm; omega
  have k2 : agedOk ⟨s.off, s.delay, dm, s.at_ + (now - s.at_) / 2⟩ now = true := agedOk_iff.2 ⟨om, ⟨n0, n1⟩, by dsimp only; omega⟩
  have k3 : agedOk s s.at_ = true := agedOk_iff.2 ⟨hs, ⟨d0, d1⟩, Int.le_refl _⟩
  have e1 : agedV s now = ⟨s.off, s.delay, da, now⟩ := by rw [agedV_yes h]; unfold agedOf; rw [hda]
  have e2 : agedV s (s.at_ + (now - s.at_) / 2) = ⟨s.off, s.delay, dm, s.at_ + (now - s.at_) / 2⟩ := by rw [agedV_yes k1]; unfold agedOf; rw [hdm]
  have e3 : agedV ⟨s.off, s.delay, dm, s.at_ + (now - s.at_) / 2⟩ now = ⟨s.off, s.delay, db, now⟩ := by rw [agedV_yes k2]; unfold agedOf; dsimp only; rw [hdb]
  have e4 : agedV s s.at_ = s := by
    rw [agedV_yes k3]; unfold agedOf begun
    have : min 16000000 (s.disp + (s.at_ - s.at_ + 999999) / 1000000 * 15) = s.disp := by omega
    rw [this]
  refine ⟨da, dm, db, _, _, e1, oa, k1, e2, k2, e3, k3, e4, rfl, rfl, ?_, ?_, ?_, ?_, ?_⟩
  · rw [(reachV_bounds _ oa).1, (reachV_bounds _ hs).1]
    dsimp only
    unfold begun at hda
    omega
  all_goals
    unfold begun at hda hdm hdb
    omega

set_option maxRecDepth 100000 in
set_option maxHeartbeats 8000000 in
theorem agedLaw_walk (w : World) {ao an au ab : Addr} {tx : List UInt8} (L : Ld w ao an au) (B : Sent w 3 tx ab) (x : Option Addr) (n cap z : Nat) (hz : z = n ∧ Code w.heap.size w (.slice x n cap) n) :
    Calls Tryd.prog 9 #[.slice x n cap] w fun e w' => e = .returned (.bool true) ∧ Below w.heap.size w w' := by
  obtain ⟨_, hc⟩ := hz
  by_cases hbig : n ≤ 1048576
  · go_enter Tryd.func9, Tryd.ntmps9
    go_wp2_with (go_at_call 24; go_in)
    refine (drawAged_c x n cap _ hc hbig).mono ?_
    rintro e w1 ⟨s, now, rfl, hb1⟩
    have S1 := blk_new w1 (.cells #[.int .i64 s.off, .int .i64 s.delay, .int .i64 s.disp, .int .i64 s.at_] 25)
    have g1 : Below w.heap.size w (w1.alloc (.cells #[.int .i64 s.off, .int .i64 s.delay, .int .i64 s.disp, .int .i64 s.at_] 25)) := hb1.alloc (by have := hb1.size; omega) _
    cases hok : agedOk s now with
    | false =>
      obtain ⟨v, hv⟩ : ∃ v, agedV s now = v := ⟨_, rfl⟩
      have HI := Lib.hid (fun W {ao an au ab tx} L B => aged_valI hv hok W ao an au ab tx L B)
      have HS := Lib.hid (fun W => aged_val hv hok W)
      clear hv hok
      go_wp2_with fail
      refine (HI.out _ (L.next g1) (B.next g1)).mono ?_
      rintro e w2 ⟨rfl, hb2⟩
      have S2 := blk_next hb2 S1
      have A2 := blk_new w2 (.cells #[.int .i64 v.off, .int .i64 v.delay, .int .i64 v.disp, .int .i64 v.at_] 25)
      have S2' := blk_alloc S2 (.cells #[.int .i64 v.off, .int .i64 v.delay, .int .i64 v.disp, .int .i64 v.at_] 25)
      have g2 := grow_next g1 hb2
      have g2' : Below w.heap.size w (w2.alloc (.cells #[.int .i64 v.off, .int .i64 v.delay, .int .i64 v.disp, .int .i64 v.at_] 25)) := g2.alloc (by have := g2.size; omega) _
      obtain ⟨x0, x1, x2, x3⟩ := sample_cells S2
      have l2 := cell_lt x0
      go_wp2_with fail
      refine (HS.out _).mono ?_
      rintro e w3 ⟨rfl, hb3⟩
      have S3 := blk_alloc (blk_next hb3 S2') (.cells #[.int .i64 v.off, .int .i64 v.delay, .int .i64 v.disp, .int .i64 v.at_] 25)
      have A3 := blk_alloc (blk_next hb3 A2) (.cells #[.int .i64 v.off, .int .i64 v.delay, .int .i64 v.disp, .int .i64 v.at_] 25)
      have W3 := blk_new w3 (.cells #[.int .i64 v.off, .int .i64 v.delay, .int .i64 v.disp, .int .i64 v.at_] 25)
      have g3 := grow_next g2' hb3
      have g3' : Below w.heap.size w (w3.alloc (.cells #[.int .i64 v.off, .int .i64 v.delay, .int .i64 v.disp, .int .i64 v.at_] 25)) := g3.alloc (by have := g3.size; omega) _
      clear x0 x1 x2 x3
      go_wp2_with fail
      refine (drawReach_c x n cap _ (hc.next g3') hbig).mono ?_
      rintro e w4 ⟨y, rfl, hb4⟩
      have S4 := blk_alloc (blk_next hb4 S3) (.cells #[.int .i64 y.off, .int .i64 y.delay, .int .i64 y.disp, .int .i64 y.at_] 25)
      have A4 := blk_alloc (blk_next hb4 A3) (.cells #[.int .i64 y.off, .int .i64 y.delay, .int .i64 y.disp, .int .i64 y.at_] 25)
      have W4 := blk_alloc (blk_next hb4 W3) (.cells #[.int .i64 y.off, .int .i64 y.delay, .int .i64 y.disp, .int .i64 y.at_] 25)
      have Y4 := blk_new w4 (.cells #[.int .i64 y.off, .int .i64 y.delay, .int .i64 y.disp, .int .i64 y.at_] 25)
      have g4 := grow_next g3' hb4
      have g4' : Below w.heap.size w (w4.alloc (.cells #[.int .i64 y.off, .int .i64 y.delay, .int .i64 y.disp, .int .i64 y.at_] 25)) := g4.alloc (by have := g4.size; omega) _
      have l4 := (Array.getElem?_eq_some_iff.1 (blk_next hb4 S3)).1
      have l4a := (Array.getElem?_eq_some_iff.1 (blk_next hb4 A3)).1
      have l4w := (Array.getElem?_eq_some_iff.1 (blk_next hb4 W3)).1
      obtain ⟨ry, hry⟩ : ∃ r, reachV y = r := ⟨_, rfl⟩
      have HRI := Lib.hid (fun W {ao an au} L => reach_valI hry W ao an au L)
      have HRS := Lib.hid (fun w => reach_val hry w)
      clear hry hb1 hb2 hb3 hb4 S1 S2 S2' A2 S3 A3 W3 g1 g2 g2' g3 g3' g4 hc
      go_wp2_with fail
      go_region_held3 (fun w' => (w'.cell? ⟨w2.heap.size, 0, none⟩ = some (.int .i64 v.off) ∧ w'.cell? ⟨w2.heap.size, 1, none⟩ = some (.int .i64 v.delay) ∧ w'.cell? ⟨w2.heap.size, 2, none⟩ = some (.int .i64 v.disp) ∧ w'.cell? ⟨w2.heap.size, 3, none⟩ = some (.int .i64 v.at_)) ∧ (w'.cell? ⟨w3.heap.size, 0, none⟩ = some (.int .i64 v.off) ∧ w'.cell? ⟨w3.heap.size, 1, none⟩ = some (.int .i64 v.delay) ∧ w'.cell? ⟨w3.heap.size, 2, none⟩ = some (.int .i64 v.disp) ∧ w'.cell? ⟨w3.heap.size, 3, none⟩ = some (.int .i64 v.at_)) ∧ (w'.cell? ⟨w4.heap.size, 0, none⟩ = some (.int .i64 y.off) ∧ w'.cell? ⟨w4.heap.size, 1, none⟩ = some (.int .i64 y.delay) ∧ w'.cell? ⟨w4.heap.size, 2, none⟩ = some (.int .i64 y.disp) ∧ w'.cell? ⟨w4.heap.size, 3, none⟩ = some (.int .i64 y.at_))) (exact three_cells (by assumption) (by assumption) (by assumption))
        (first
          | (go_at_call 23; refine (HRI.out _ (L.next (by first | assumption | exact Below.drew (by assumption)))).mono ?_; rintro e wn ⟨rfl, hbn⟩; have X1 := blk_next hbn (b := w1.heap.size) (o := .cells #[.int .i64 s.off, .int .i64 s.delay, .int .i64 s.disp, .int .i64 s.at_] 25) (by assumption); have X2 := blk_next hbn (b := w2.heap.size) (o := .cells #[.int .i64 v.off, .int .i64 v.delay, .int .i64 v.disp, .int .i64 v.at_] 25) (by assumption); have X3 := blk_next hbn (b := w3.heap.size) (o := .cells #[.int .i64 v.off, .int .i64 v.delay, .int .i64 v.disp, .int .i64 v.at_] 25) (by assumption); have X4 := blk_next hbn (b := w4.heap.size) (o := .cells #[.int .i64 y.off, .int .i64 y.delay, .int .i64 y.disp, .int .i64 y.at_] 25) (by assumption); have G : Below w.heap.size w wn := grow_next (by first | assumption | exact Below.drew (by assumption)) hbn)
          | (go_at_call 22; refine (HRS.out _).mono ?_; rintro e wn ⟨rfl, hbn⟩; have X1 := blk_next hbn (b := w1.heap.size) (o := .cells #[.int .i64 s.off, .int .i64 s.delay, .int .i64 s.disp, .int .i64 s.at_] 25) (by assumption); have X2 := blk_next hbn (b := w2.heap.size) (o := .cells #[.int .i64 v.off, .int .i64 v.delay, .int .i64 v.disp, .int .i64 v.at_] 25) (by assumption); have X3 := blk_next hbn (b := w3.heap.size) (o := .cells #[.int .i64 v.off, .int .i64 v.delay, .int .i64 v.disp, .int .i64 v.at_] 25) (by assumption); have X4 := blk_next hbn (b := w4.heap.size) (o := .cells #[.int .i64 y.off, .int .i64 y.delay, .int .i64 y.disp, .int .i64 y.at_] 25) (by assumption); have G : Below w.heap.size w wn := grow_next (by first | assumption | exact Below.drew (by assumption)) hbn))
      go_wp2_with fail
      go_region_held3 (fun w' => (w'.cell? ⟨w2.heap.size, 0, none⟩ = some (.int .i64 v.off) ∧ w'.cell? ⟨w2.heap.size, 1, none⟩ = some (.int .i64 v.delay) ∧ w'.cell? ⟨w2.heap.size, 2, none⟩ = some (.int .i64 v.disp) ∧ w'.cell? ⟨w2.heap.size, 3, none⟩ = some (.int .i64 v.at_)) ∧ (w'.cell? ⟨w3.heap.size, 0, none⟩ = some (.int .i64 v.off) ∧ w'.cell? ⟨w3.heap.size, 1, none⟩ = some (.int .i64 v.delay) ∧ w'.cell? ⟨w3.heap.size, 2, none⟩ = some (.int .i64 v.disp) ∧ w'.cell? ⟨w3.heap.size, 3, none⟩ = some (.int .i64 v.at_)) ∧ (w'.cell? ⟨w4.heap.size, 0, none⟩ = some (.int .i64 y.off) ∧ w'.cell? ⟨w4.heap.size, 1, none⟩ = some (.int .i64 y.delay) ∧ w'.cell? ⟨w4.heap.size, 2, none⟩ = some (.int .i64 y.disp) ∧ w'.cell? ⟨w4.heap.size, 3, none⟩ = some (.int .i64 y.at_))) (exact three_cells (by assumption) (by assumption) (by assumption))
        (first
          | (go_at_call 23; refine (HRI.out _ (L.next (by first | assumption | exact Below.drew (by assumption)))).mono ?_; rintro e wn ⟨rfl, hbn⟩; have X1 := blk_next hbn (b := w1.heap.size) (o := .cells #[.int .i64 s.off, .int .i64 s.delay, .int .i64 s.disp, .int .i64 s.at_] 25) (by assumption); have X2 := blk_next hbn (b := w2.heap.size) (o := .cells #[.int .i64 v.off, .int .i64 v.delay, .int .i64 v.disp, .int .i64 v.at_] 25) (by assumption); have X3 := blk_next hbn (b := w3.heap.size) (o := .cells #[.int .i64 v.off, .int .i64 v.delay, .int .i64 v.disp, .int .i64 v.at_] 25) (by assumption); have X4 := blk_next hbn (b := w4.heap.size) (o := .cells #[.int .i64 y.off, .int .i64 y.delay, .int .i64 y.disp, .int .i64 y.at_] 25) (by assumption); have G : Below w.heap.size w wn := grow_next (by first | assumption | exact Below.drew (by assumption)) hbn)
          | (go_at_call 22; refine (HRS.out _).mono ?_; rintro e wn ⟨rfl, hbn⟩; have X1 := blk_next hbn (b := w1.heap.size) (o := .cells #[.int .i64 s.off, .int .i64 s.delay, .int .i64 s.disp, .int .i64 s.at_] 25) (by assumption); have X2 := blk_next hbn (b := w2.heap.size) (o := .cells #[.int .i64 v.off, .int .i64 v.delay, .int .i64 v.disp, .int .i64 v.at_] 25) (by assumption); have X3 := blk_next hbn (b := w3.heap.size) (o := .cells #[.int .i64 v.off, .int .i64 v.delay, .int .i64 v.disp, .int .i64 v.at_] 25) (by assumption); have X4 := blk_next hbn (b := w4.heap.size) (o := .cells #[.int .i64 y.off, .int .i64 y.delay, .int .i64 y.disp, .int .i64 y.at_] 25) (by assumption); have G : Below w.heap.size w wn := grow_next (by first | assumption | exact Below.drew (by assumption)) hbn))
      go_wp2_with fail
      go_returns
      exact ⟨rfl, by assumption⟩
    | true =>
      obtain ⟨da, dm, db, ra, rs, e1, oa, k1, e2, k2, e3, k3, e4, er, es, m1, m2, m3, m4, m5⟩ := aged_numbers hok
      have HI := Lib.hid (fun W {ao an au ab tx} L B => aged_valI e1 hok W ao an au ab tx L B)
      have HS := Lib.hid (fun W => aged_val e1 hok W)
      have HM := Lib.hid (fun W {ao an au ab tx} L B => aged_valI e2 k1 W ao an au ab tx L B)
      have HB := Lib.hid (fun W {ao an au ab tx} L B => aged_valI e3 k2 W ao an au ab tx L B)
      have HE := Lib.hid (fun W {ao an au ab tx} L B => aged_valI e4 k3 W ao an au ab tx L B)
      have HOK : Hid (∀ (W : World) {ao an au : Addr}, Ld W ao an au → Calls Tryd.prog 16 #[.agg #[.int .i64 s.off, .int .i64 s.delay, .int .i64 da, .int .i64 now]] W fun e w' => e = .returned (.bool true) ∧ Below W.heap.size W w') := Lib.hid (fun W {ao an au} (L : Ld W ao an au) => sampleOk_decI oa W L)
      have HRA : Hid (∀ (W : World) {ao an au : Addr}, Ld W ao an au → Calls Tryd.prog 23 #[.agg #[.int .i64 s.off, .int .i64 s.delay, .int .i64 da, .int .i64 now]] W fun e w' => e = .returned (.int .i64 ra) ∧ Below W.heap.size W w') := Lib.hid (fun W {ao an au} L => reach_valI er W ao an au L)
      have HRB := Lib.hid (fun W {ao an au} L => reach_valI es W ao an au L)
      obtain ⟨hs, ⟨n0, n1⟩, ha⟩ := agedOk_iff.1 hok
      obtain ⟨⟨a0, a1⟩, ⟨b0, b1⟩, ⟨c0, c1⟩, ⟨d0, d1⟩⟩ := Sm.ok_iff.1 hs
      clear e1 oa k1 e2 k2 e3 k3 e4 er es hok hs
      go_wp2_with fail
      refine (HI.out _ (L.next g1) (B.next g1)).mono ?_
      rintro e w2 ⟨rfl, hb2⟩
      have S2 := blk_next hb2 S1
      have A2 := blk_new w2 (.cells #[.int .i64 s.off, .int .i64 s.delay, .int .i64 da, .int .i64 now] 25)
      have S2' := blk_alloc S2 (.cells #[.int .i64 s.off, .int .i64 s.delay, .int .i64 da, .int .i64 now] 25)
      have g2 := grow_next g1 hb2
      have g2' : Below w.heap.size w (w2.alloc (.cells #[.int .i64 s.off, .int .i64 s.delay, .int .i64 da, .int .i64 now] 25)) := g2.alloc (by have := g2.size; omega) _
      obtain ⟨x0, x1, x2, x3⟩ := sample_cells S2
      have l2 := cell_lt x0
      go_wp2_with fail
      refine (HS.out _).mono ?_
      rintro e w3 ⟨rfl, hb3⟩
      have S3 := blk_alloc (blk_next hb3 S2') (.cells #[.int .i64 s.off, .int .i64 s.delay, .int .i64 da, .int .i64 now] 25)
      have A3 := blk_alloc (blk_next hb3 A2) (.cells #[.int .i64 s.off, .int .i64 s.delay, .int .i64 da, .int .i64 now] 25)
      have W3 := blk_new w3 (.cells #[.int .i64 s.off, .int .i64 s.delay, .int .i64 da, .int .i64 now] 25)
      have g3 := grow_next g2' hb3
      have g3' : Below w.heap.size w (w3.alloc (.cells #[.int .i64 s.off, .int .i64 s.delay, .int .i64 da, .int .i64 now] 25)) := g3.alloc (by have := g3.size; omega) _
      clear x0 x1 x2 x3
      go_wp2_with fail
      refine (drawReach_c x n cap _ (hc.next g3') hbig).mono ?_
      rintro e w4 ⟨y, rfl, hb4⟩
      have S4 := blk_alloc (blk_next hb4 S3) (.cells #[.int .i64 y.off, .int .i64 y.delay, .int .i64 y.disp, .int .i64 y.at_] 25)
      have A4 := blk_alloc (blk_next hb4 A3) (.cells #[.int .i64 y.off, .int .i64 y.delay, .int .i64 y.disp, .int .i64 y.at_] 25)
      have W4 := blk_alloc (blk_next hb4 W3) (.cells #[.int .i64 y.off, .int .i64 y.delay, .int .i64 y.disp, .int .i64 y.at_] 25)
      have Y4 := blk_new w4 (.cells #[.int .i64 y.off, .int .i64 y.delay, .int .i64 y.disp, .int .i64 y.at_] 25)
      have g4 := grow_next g3' hb4
      have g4' : Below w.heap.size w (w4.alloc (.cells #[.int .i64 y.off, .int .i64 y.delay, .int .i64 y.disp, .int .i64 y.at_] 25)) := g4.alloc (by have := g4.size; omega) _
      have l4 := (Array.getElem?_eq_some_iff.1 (blk_next hb4 S3)).1
      have l4a := (Array.getElem?_eq_some_iff.1 (blk_next hb4 A3)).1
      have l4w := (Array.getElem?_eq_some_iff.1 (blk_next hb4 W3)).1
      obtain ⟨ry, hry⟩ : ∃ r, reachV y = r := ⟨_, rfl⟩
      have HRI := Lib.hid (fun W {ao an au} L => reach_valI hry W ao an au L)
      have HRS := Lib.hid (fun w => reach_val hry w)
      clear hry hb1 hb2 hb3 hb4 S1 S2 S2' A2 S3 A3 W3 g1 g2 g2' g3 g3' g4 hc
      go_wp2_with fail
      go_region_held3 (fun w' => (w'.cell? ⟨w2.heap.size, 0, none⟩ = some (.int .i64 s.off) ∧ w'.cell? ⟨w2.heap.size, 1, none⟩ = some (.int .i64 s.delay) ∧ w'.cell? ⟨w2.heap.size, 2, none⟩ = some (.int .i64 da) ∧ w'.cell? ⟨w2.heap.size, 3, none⟩ = some (.int .i64 now)) ∧ (w'.cell? ⟨w3.heap.size, 0, none⟩ = some (.int .i64 s.off) ∧ w'.cell? ⟨w3.heap.size, 1, none⟩ = some (.int .i64 s.delay) ∧ w'.cell? ⟨w3.heap.size, 2, none⟩ = some (.int .i64 da) ∧ w'.cell? ⟨w3.heap.size, 3, none⟩ = some (.int .i64 now)) ∧ (w'.cell? ⟨w4.heap.size, 0, none⟩ = some (.int .i64 y.off) ∧ w'.cell? ⟨w4.heap.size, 1, none⟩ = some (.int .i64 y.delay) ∧ w'.cell? ⟨w4.heap.size, 2, none⟩ = some (.int .i64 y.disp) ∧ w'.cell? ⟨w4.heap.size, 3, none⟩ = some (.int .i64 y.at_))) (exact three_cells (p := ⟨s.off, s.delay, da, now⟩) (q := ⟨s.off, s.delay, da, now⟩) (by assumption) (by assumption) (by assumption))
        (first
          | (go_at_call 23; refine (HRI.out _ (L.next (by first | assumption | exact Below.drew (by assumption)))).mono ?_; rintro e wn ⟨rfl, hbn⟩; have X1 := blk_next hbn (b := w1.heap.size) (o := .cells #[.int .i64 s.off, .int .i64 s.delay, .int .i64 s.disp, .int .i64 s.at_] 25) (by assumption); have X2 := blk_next hbn (b := w2.heap.size) (o := .cells #[.int .i64 s.off, .int .i64 s.delay, .int .i64 da, .int .i64 now] 25) (by assumption); have X3 := blk_next hbn (b := w3.heap.size) (o := .cells #[.int .i64 s.off, .int .i64 s.delay, .int .i64 da, .int .i64 now] 25) (by assumption); have X4 := blk_next hbn (b := w4.heap.size) (o := .cells #[.int .i64 y.off, .int .i64 y.delay, .int .i64 y.disp, .int .i64 y.at_] 25) (by assumption); have G : Below w.heap.size w wn := grow_next (by first | assumption | exact Below.drew (by assumption)) hbn)
          | (go_at_call 22; refine (HRS.out _).mono ?_; rintro e wn ⟨rfl, hbn⟩; have X1 := blk_next hbn (b := w1.heap.size) (o := .cells #[.int .i64 s.off, .int .i64 s.delay, .int .i64 s.disp, .int .i64 s.at_] 25) (by assumption); have X2 := blk_next hbn (b := w2.heap.size) (o := .cells #[.int .i64 s.off, .int .i64 s.delay, .int .i64 da, .int .i64 now] 25) (by assumption); have X3 := blk_next hbn (b := w3.heap.size) (o := .cells #[.int .i64 s.off, .int .i64 s.delay, .int .i64 da, .int .i64 now] 25) (by assumption); have X4 := blk_next hbn (b := w4.heap.size) (o := .cells #[.int .i64 y.off, .int .i64 y.delay, .int .i64 y.disp, .int .i64 y.at_] 25) (by assumption); have G : Below w.heap.size w wn := grow_next (by first | assumption | exact Below.drew (by assumption)) hbn))
      have q0 : 0 ≤ (now - s.at_) / 2 := by omega
      have q1 : s.at_ + (now - s.at_) / 2 ≤ now := by omega
      have S5 := X1
      have A5 := X2
      have l5 := (Array.getElem?_eq_some_iff.1 X1).1
      have l5a := (Array.getElem?_eq_some_iff.1 X2).1
      obtain ⟨x0, x1, x2, x3⟩ := sample_cells X1
      have G5 := G
      go_wp2_with fail
      refine (HM.out _ (L.next (by assumption)) (B.next (by assumption))).mono ?_
      rintro e w5 ⟨rfl, hb5⟩
      have S6 := blk_alloc (blk_next hb5 S5) (.cells #[.int .i64 s.off, .int .i64 s.delay, .int .i64 dm, .int .i64 (s.at_ + (now - s.at_) / 2)] 25)
      have A6 := blk_alloc (blk_next hb5 A5) (.cells #[.int .i64 s.off, .int .i64 s.delay, .int .i64 dm, .int .i64 (s.at_ + (now - s.at_) / 2)] 25)
      have M6 := blk_new w5 (.cells #[.int .i64 s.off, .int .i64 s.delay, .int .i64 dm, .int .i64 (s.at_ + (now - s.at_) / 2)] 25)
      have g5 := grow_next G5 hb5
      have g6 : Below w.heap.size w (w5.alloc (.cells #[.int .i64 s.off, .int .i64 s.delay, .int .i64 dm, .int .i64 (s.at_ + (now - s.at_) / 2)] 25)) := g5.alloc (by have := g5.size; omega) _
      go_wp2_with fail
      refine (HB.out _ (L.next g6) (B.next g6)).mono ?_
      rintro e w6 ⟨rfl, hb6⟩
      have S7 := blk_alloc (blk_next hb6 S6) (.cells #[.int .i64 s.off, .int .i64 s.delay, .int .i64 db, .int .i64 now] 25)
      have A7 := blk_alloc (blk_next hb6 A6) (.cells #[.int .i64 s.off, .int .i64 s.delay, .int .i64 db, .int .i64 now] 25)
      have D7 := blk_new w6 (.cells #[.int .i64 s.off, .int .i64 s.delay, .int .i64 db, .int .i64 now] 25)
      have g6' := grow_next g6 hb6
      have g7 : Below w.heap.size w (w6.alloc (.cells #[.int .i64 s.off, .int .i64 s.delay, .int .i64 db, .int .i64 now] 25)) := g6'.alloc (by have := g6'.size; omega) _
      have l7 := (Array.getElem?_eq_some_iff.1 (blk_next hb6 S6)).1
      have l7a := (Array.getElem?_eq_some_iff.1 (blk_next hb6 A6)).1
      clear x0 x1 x2 x3
      obtain ⟨x0, x1, x2, x3⟩ := sample_cells (blk_next hb6 S6)
      go_wp2_with fail
      refine (HE.out _ (L.next g7) (B.next g7)).mono ?_
      rintro e w7 ⟨rfl, hb7⟩
      have S8 := blk_alloc (blk_next hb7 S7) (.cells #[.int .i64 s.off, .int .i64 s.delay, .int .i64 s.disp, .int .i64 s.at_] 25)
      have A8 := blk_alloc (blk_next hb7 A7) (.cells #[.int .i64 s.off, .int .i64 s.delay, .int .i64 s.disp, .int .i64 s.at_] 25)
      have D8 := blk_alloc (blk_next hb7 D7) (.cells #[.int .i64 s.off, .int .i64 s.delay, .int .i64 s.disp, .int .i64 s.at_] 25)
      have E8 := blk_new w7 (.cells #[.int .i64 s.off, .int .i64 s.delay, .int .i64 s.disp, .int .i64 s.at_] 25)
      have g7' := grow_next g7 hb7
      have g8 : Below w.heap.size w (w7.alloc (.cells #[.int .i64 s.off, .int .i64 s.delay, .int .i64 s.disp, .int .i64 s.at_] 25)) := g7'.alloc (by have := g7'.size; omega) _
      have l8 := (Array.getElem?_eq_some_iff.1 (blk_next hb7 S7)).1
      have l8a := (Array.getElem?_eq_some_iff.1 (blk_next hb7 A7)).1
      have l8d := (Array.getElem?_eq_some_iff.1 (blk_next hb7 D7)).1
      clear x0 x1 x2 x3 S5 A5 S6 A6 M6 S7 A7 D7 g5 g6 g6' g7 g7' hb5 hb6 hb7 G5
      go_wp2_with fail
      go_region_held3 (fun w' => (w'.cell? ⟨w1.heap.size, 0, none⟩ = some (.int .i64 s.off) ∧ w'.cell? ⟨w1.heap.size, 1, none⟩ = some (.int .i64 s.delay) ∧ w'.cell? ⟨w1.heap.size, 2, none⟩ = some (.int .i64 s.disp) ∧ w'.cell? ⟨w1.heap.size, 3, none⟩ = some (.int .i64 s.at_)) ∧ (w'.cell? ⟨w2.heap.size, 0, none⟩ = some (.int .i64 s.off) ∧ w'.cell? ⟨w2.heap.size, 1, none⟩ = some (.int .i64 s.delay) ∧ w'.cell? ⟨w2.heap.size, 2, none⟩ = some (.int .i64 da) ∧ w'.cell? ⟨w2.heap.size, 3, none⟩ = some (.int .i64 now)) ∧ (w'.cell? ⟨w6.heap.size, 0, none⟩ = some (.int .i64 s.off) ∧ w'.cell? ⟨w6.heap.size, 1, none⟩ = some (.int .i64 s.delay) ∧ w'.cell? ⟨w6.heap.size, 2, none⟩ = some (.int .i64 db) ∧ w'.cell? ⟨w6.heap.size, 3, none⟩ = some (.int .i64 now)) ∧ (w'.cell? ⟨w7.heap.size, 0, none⟩ = some (.int .i64 s.off) ∧ w'.cell? ⟨w7.heap.size, 1, none⟩ = some (.int .i64 s.delay) ∧ w'.cell? ⟨w7.heap.size, 2, none⟩ = some (.int .i64 s.disp) ∧ w'.cell? ⟨w7.heap.size, 3, none⟩ = some (.int .i64 s.at_))) (exact four_cells (p := s) (q := ⟨s.off, s.delay, da, now⟩) (r := ⟨s.off, s.delay, db, now⟩) (t := s) (by assumption) (by assumption) (by assumption) (by assumption))
        (first
          | (go_at_call 16; refine (HOK.out _ (L.next (by first | assumption | exact Below.drew (by assumption)))).mono ?_; rintro e wn ⟨rfl, hbn⟩; have X0 := blk_next hbn (b := w1.heap.size) (o := .cells #[.int .i64 s.off, .int .i64 s.delay, .int .i64 s.disp, .int .i64 s.at_] 25) (by assumption); have X1 := blk_next hbn (b := w2.heap.size) (o := .cells #[.int .i64 s.off, .int .i64 s.delay, .int .i64 da, .int .i64 now] 25) (by assumption); have X2 := blk_next hbn (b := w6.heap.size) (o := .cells #[.int .i64 s.off, .int .i64 s.delay, .int .i64 db, .int .i64 now] 25) (by assumption); have X3 := blk_next hbn (b := w7.heap.size) (o := .cells #[.int .i64 s.off, .int .i64 s.delay, .int .i64 s.disp, .int .i64 s.at_] 25) (by assumption); have G : Below w.heap.size w wn := grow_next (by first | assumption | exact Below.drew (by assumption)) hbn)
          | (go_at_call 23; first | (with_reducible refine (HRA.out _ (L.next (by first | assumption | exact Below.drew (by assumption)))).mono ?_; rintro e wn ⟨rfl, hbn⟩; have X0 := blk_next hbn (b := w1.heap.size) (o := .cells #[.int .i64 s.off, .int .i64 s.delay, .int .i64 s.disp, .int .i64 s.at_] 25) (by assumption); have X1 := blk_next hbn (b := w2.heap.size) (o := .cells #[.int .i64 s.off, .int .i64 s.delay, .int .i64 da, .int .i64 now] 25) (by assumption); have X2 := blk_next hbn (b := w6.heap.size) (o := .cells #[.int .i64 s.off, .int .i64 s.delay, .int .i64 db, .int .i64 now] 25) (by assumption); have X3 := blk_next hbn (b := w7.heap.size) (o := .cells #[.int .i64 s.off, .int .i64 s.delay, .int .i64 s.disp, .int .i64 s.at_] 25) (by assumption); have G : Below w.heap.size w wn := grow_next (by first | assumption | exact Below.drew (by assumption)) hbn) | (with_reducible refine (HRB.out _ (L.next (by first | assumption | exact Below.drew (by assumption)))).mono ?_; rintro e wn ⟨rfl, hbn⟩; have X0 := blk_next hbn (b := w1.heap.size) (o := .cells #[.int .i64 s.off, .int .i64 s.delay, .int .i64 s.disp, .int .i64 s.at_] 25) (by assumption); have X1 := blk_next hbn (b := w2.heap.size) (o := .cells #[.int .i64 s.off, .int .i64 s.delay, .int .i64 da, .int .i64 now] 25) (by assumption); have X2 := blk_next hbn (b := w6.heap.size) (o := .cells #[.int .i64 s.off, .int .i64 s.delay, .int .i64 db, .int .i64 now] 25) (by assumption); have X3 := blk_next hbn (b := w7.heap.size) (o := .cells #[.int .i64 s.off, .int .i64 s.delay, .int .i64 s.disp, .int .i64 s.at_] 25) (by assumption); have G : Below w.heap.size w wn := grow_next (by first | assumption | exact Below.drew (by assumption)) hbn)))
      go_wp2_with fail
      have wd : IntKind.i64.wrap (da + 15) = da + 15 := Go.IntWalk.i64_in _ (by omega)
      have we : db ≤ IntKind.i64.wrap (da + 15) := by rw [wd]; exact m3
      go_returns
      exact ⟨by simp [we], by assumption⟩
  · go_enter Tryd.func9, Tryd.ntmps9
    go_wp2_with (go_at_call 24; go_in)
    go_returns
    exact ⟨rfl, Below.refl _ _⟩
theorem agedLaw_met (os : Os) (args : Array Value) : laidMetH Tryd.prog Rows.fnAgedRow.laid ((World.doorLaid Tryd.prog 400 os).forCall (fun _ _ => 0) ⟨#[], args, []⟩).memory :=
  laidMetH_of_parts3 (fuel := 8) (laidMet_of_run' 8 (by kernel_rfl) (by kernel_rfl)) (by kernel_rfl) (by kernel_rfl)
set_option maxRecDepth 100000 in
theorem agedLaw_lifted (os : Os) (started : os.Started) (H : Type) (enc : TypeId × Value → H) :
    ReturnsInHanded {} Tryd.checked os 9 .any (fun w args => (Rows.fnAgedSpec.pre enc Tryd.prog Tryd.f9 [] false w args ∧ laidMetH Tryd.prog Rows.fnAgedRow.laid w) ∧ sizedMet enc Tryd.prog Tryd.f9 (OpenSpec.ofChange Rows.fnAgedSpec) false w args) (Rows.fnAgedSpec.post enc Tryd.prog Tryd.f9 false true false false) := by
  refine lifted_of_walk_laid (C := Tryd.checked) own started (by as_aux_lemma => kernel_rfl) Tryd.func9
    (ChangeSpec.witness_shaped (enc := enc) (C := Tryd.checked) (os := os) (X := fun w _ => laidMetH Tryd.prog Rows.fnAgedRow.laid w) false (World.doorLaid Tryd.prog 400 os) #[.slice none 0 0] 8 rfl (World.shaped_of_RefB (by kernel_rfl) (by kernel_rfl)) (by kernel_rfl) (by kernel_rfl) (by kernel_rfl) (agedLaw_met os _))
    laidOut (by as_aux_lemma => kernel_rfl) (by as_aux_lemma => kernel_rfl) rfl boolType
    (fun ds gs h hg => by
      match ds, gs, h, hg with
      | [_], [_, _, _, _], _, _ => rfl)
    ?_
  intro W base args ds q hval hA hL
  have laidRow : Rows.fnAgedRow.laid = Rows.fnAgedRow.laid := rfl
  obtain ⟨ao, an, au, L⟩ := ld_of hL (by simp [Rows.fnAgedRow, handleD, sentD, Rows.laid_errors_errorType, Rows.laid_loop_example_g00656_impl_errNoTime, Rows.laid_loop_example_g00656_impl_errOutside, Rows.laid_loop_example_g00656_impl_errUnsure, Rows.laid_loop_example_g00656_impl_errBack]) (by simp [Rows.fnAgedRow, handleD, sentD, Rows.laid_errors_errorType, Rows.laid_loop_example_g00656_impl_errNoTime, Rows.laid_loop_example_g00656_impl_errOutside, Rows.laid_loop_example_g00656_impl_errUnsure, Rows.laid_loop_example_g00656_impl_errBack]) (by simp [Rows.fnAgedRow, handleD, sentD, Rows.laid_errors_errorType, Rows.laid_loop_example_g00656_impl_errNoTime, Rows.laid_loop_example_g00656_impl_errOutside, Rows.laid_loop_example_g00656_impl_errUnsure, Rows.laid_loop_example_g00656_impl_errBack]) (by simp [Rows.fnAgedRow, handleD, sentD, Rows.laid_errors_errorType, Rows.laid_loop_example_g00656_impl_errNoTime, Rows.laid_loop_example_g00656_impl_errOutside, Rows.laid_loop_example_g00656_impl_errUnsure, Rows.laid_loop_example_g00656_impl_errBack])
  obtain ⟨ab, B⟩ := sentH_of (n := "loop.example/g00656/impl.errBack") (text := [116, 105, 109, 101, 32, 103, 111, 101, 115, 32, 98, 97, 99, 107]) (g := 3) hL (by simp [Rows.fnAgedRow, handleD, sentD, Rows.laid_errors_errorType, Rows.laid_loop_example_g00656_impl_errNoTime, Rows.laid_loop_example_g00656_impl_errOutside, Rows.laid_loop_example_g00656_impl_errUnsure, Rows.laid_loop_example_g00656_impl_errBack]) (by simp [Rows.fnAgedRow, handleD, sentD, Rows.laid_errors_errorType, Rows.laid_loop_example_g00656_impl_errNoTime, Rows.laid_loop_example_g00656_impl_errOutside, Rows.laid_loop_example_g00656_impl_errUnsure, Rows.laid_loop_example_g00656_impl_errBack]) (by kernel_rfl) (by kernel_rfl)
  clear hL
  rw [Tryd.params9] at hA hval
  obtain ⟨v0, vs0, d0, ds0, p0, q0, hargs, rfl, rfl, h0, r0⟩ := trodAll_cons hA
  obtain ⟨rfl, rfl, rfl⟩ := trodAll_nil r0
  obtain rfl : args = #[v0] := by cases args; simp_all
  obtain ⟨a0, len0, cap0, z0, rfl, w0⟩ := open_bytes Tryd.underlying35 Tryd.underlying5 (by as_aux_lemma => kernel_rfl) (hval 0 35 v0 rfl rfl) h0
  exact agedLaw_walk W L B a0 len0 cap0 z0 w0

theorem agedLaw_facts : joinedFacts Tryd.pinned.checked.prog 9 Tryd.f9 Rows.fnAgedSpec Rows.fnAgedRow = true :=
  facts_of (P := Tryd.prog) (by as_aux_lemma => kernel_rfl) laidOut mapsRow (by as_aux_lemma => kernel_rfl) (by as_aux_lemma => kernel_rfl) rfl noStops rfl noKnobs (by as_aux_lemma => kernel_rfl) (by as_aux_lemma => kernel_rfl) (by as_aux_lemma => kernel_rfl) (by as_aux_lemma => kernel_rfl) (by as_aux_lemma => kernel_rfl) (by as_aux_lemma => kernel_rfl) (by as_aux_lemma => kernel_rfl) (by as_aux_lemma => kernel_rfl) (by as_aux_lemma => kernel_rfl) (by as_aux_lemma => kernel_rfl) (by as_aux_lemma => kernel_rfl) (by as_aux_lemma => kernel_rfl) (by as_aux_lemma => kernel_rfl) keysPlain rfl heard enters finals isMake rfl rfl rfl (by as_aux_lemma => kernel_rfl) (by as_aux_lemma => kernel_rfl)

theorem agedLaw_row : Rows.FnAgedSaid :=
  OpenClaim.holds_of_wide 9 Tryd.f9 rfl rfl rfl rfl rfl rfl rfl ⟨rfl, rfl, rfl, rfl, rfl⟩ rfl rfl rfl rfl rfl (by as_aux_lemma => kernel_rfl) Tryd.func9 agedLaw_facts
    (of_decide_eq_true (by as_aux_lemma => kernel_rfl)) (by unfold Func.isWrapper; first | (rw [if_pos (by decide +kernel)]; kernel_rfl) | (rw [if_neg (by decide +kernel)]; exact ⟨rfl, rfl⟩))
    (fun os started H enc _ => agedLaw_lifted os started H enc)

/-- The given statement. -/
theorem agedLaw_holds : Rows.FnAgedCardSaid :=
  Claim7.holds_tied_plain_at .later [] Rows.fnAgedCard.laidKinds true Rows.fnAgedCard.stood.harness true
    agedLaw_row (fun _ h => by cases h) (by kernel_rfl) (fun _ h => by cases h) fnAged_row_tie rfl ⟨rfl, rfl⟩ (by kernel_rfl) rfl
    (fun f fn hf hfn => by
      obtain rfl : f = 9 := Option.some.inj ((show Tryd.prog.funcNamed "loop.example/g00656/laws.FnAged" = some 9 by kernel_rfl).symm.trans hf) |>.symm
      obtain rfl : fn = Tryd.f9 := (Option.some.inj (Tryd.func9.symm.trans hfn)).symm
      exact ⟨by kernel_rfl, fun j t ht => noStandIn (by rw [Tryd.params9]; kernel_rfl) j t ht⟩)
    (by kernel_rfl)
#print axioms agedLaw_holds
end Go.Proofs.YtbabkpcefpacpaaDoor
