/- What is answered fits what was asked, and nothing that was asked at another time: at all drawn questions and times. -/
import Derived.Test.YtdogfcmedlgnaaaFitsDraw
import Derived.Deep.RegionHeld3
import Derived.Lib.QuietBelow
namespace Go.Proofs.Ytdogfcmedlgnaaa
open Go.ChangeShapes Go.WideShapes Go.ChangeAt Go.RowKit Go.Sort
set_option linter.unusedVariables false
set_option linter.unusedSimpArgs false

theorem asked_lit {now poll : Int} (h : askOk now poll = true) : askPk now poll = ⟨0, 4, 3, 0, poll, 0, 0, 0, 0, 0, now⟩ ∧ (⟨0, 4, 3, 0, poll, 0, 0, 0, 0, 0, now⟩ : Pk).ok = true := by
  refine ⟨by unfold askPk; rw [h]; rfl, ?_⟩
  unfold askOk at h
  exact (Bool.and_eq_true _ _ ▸ h).2
theorem fits_valI {q a : Pk} {k : Bool} (h : fitsB q a = k) (w : World) : Calls Try.prog 15 #[.agg #[.int .i64 q.leap, .int .i64 q.version, .int .i64 q.mode, .int .i64 q.stratum, .int .i64 q.poll, .int .i64 q.delay, .int .i64 q.disp, .int .i64 q.ref, .int .i64 q.orig, .int .i64 q.recv, .int .i64 q.xmit], .agg #[.int .i64 a.leap, .int .i64 a.version, .int .i64 a.mode, .int .i64 a.stratum, .int .i64 a.poll, .int .i64 a.delay, .int .i64 a.disp, .int .i64 a.ref, .int .i64 a.orig, .int .i64 a.recv, .int .i64 a.xmit]] w fun e w' => e = .returned (.bool k) ∧ Below w.heap.size w w' := h ▸ fits_impl q a w
theorem fits_val {q a : Pk} {k : Bool} (h : fitsB q a = k) (w : World) : Calls Try.prog 16 #[.agg #[.int .i64 q.leap, .int .i64 q.version, .int .i64 q.mode, .int .i64 q.stratum, .int .i64 q.poll, .int .i64 q.delay, .int .i64 q.disp, .int .i64 q.ref, .int .i64 q.orig, .int .i64 q.recv, .int .i64 q.xmit], .agg #[.int .i64 a.leap, .int .i64 a.version, .int .i64 a.mode, .int .i64 a.stratum, .int .i64 a.poll, .int .i64 a.delay, .int .i64 a.disp, .int .i64 a.ref, .int .i64 a.orig, .int .i64 a.recv, .int .i64 a.xmit]] w fun e w' => e = .returned (.bool k) ∧ Below w.heap.size w w' := h ▸ fits_spec q a w
theorem ok_valI {q : Pk} {k : Bool} (h : q.ok = k) (w : World) : Calls Try.prog 17 #[.agg #[.int .i64 q.leap, .int .i64 q.version, .int .i64 q.mode, .int .i64 q.stratum, .int .i64 q.poll, .int .i64 q.delay, .int .i64 q.disp, .int .i64 q.ref, .int .i64 q.orig, .int .i64 q.recv, .int .i64 q.xmit]] w fun e w' => e = .returned (.bool k) ∧ Below w.heap.size w w' := h ▸ packetOk_impl_below q w
theorem asked_valI {now poll : Int} {v : Pk} {k : Bool} (h : askPk now poll = v) (hk : askOk now poll = k) (w : World) :
    Calls Try.prog 9 #[.int .i64 now, .int .i64 poll] w fun e w' => e = .returned (.tuple #[.agg #[.int .i64 v.leap, .int .i64 v.version, .int .i64 v.mode, .int .i64 v.stratum, .int .i64 v.poll, .int .i64 v.delay, .int .i64 v.disp, .int .i64 v.ref, .int .i64 v.orig, .int .i64 v.recv, .int .i64 v.xmit], .bool k]) ∧ Below w.heap.size w w' := h ▸ hk ▸ asked_impl now poll w
theorem asked_val {now poll : Int} {v : Pk} {k : Bool} (h : askPk now poll = v) (hk : askOk now poll = k) (w : World) :
    Calls Try.prog 10 #[.int .i64 now, .int .i64 poll] w fun e w' => e = .returned (.tuple #[.agg #[.int .i64 v.leap, .int .i64 v.version, .int .i64 v.mode, .int .i64 v.stratum, .int .i64 v.poll, .int .i64 v.delay, .int .i64 v.disp, .int .i64 v.ref, .int .i64 v.orig, .int .i64 v.recv, .int .i64 v.xmit], .bool k]) ∧ Below w.heap.size w w' := h ▸ hk ▸ asked_spec now poll w
theorem ans_valI {p : Pk} {st rv xm : Int} {v : Pk} {k : Bool} (h : ansPk p st rv xm = v) (hk : ansOk p st rv xm = k) (w : World) :
    Calls Try.prog 12 #[.agg #[.int .i64 p.leap, .int .i64 p.version, .int .i64 p.mode, .int .i64 p.stratum, .int .i64 p.poll, .int .i64 p.delay, .int .i64 p.disp, .int .i64 p.ref, .int .i64 p.orig, .int .i64 p.recv, .int .i64 p.xmit], .int .i64 st, .int .i64 rv, .int .i64 xm] w fun e w' => e = .returned (.tuple #[.agg #[.int .i64 v.leap, .int .i64 v.version, .int .i64 v.mode, .int .i64 v.stratum, .int .i64 v.poll, .int .i64 v.delay, .int .i64 v.disp, .int .i64 v.ref, .int .i64 v.orig, .int .i64 v.recv, .int .i64 v.xmit], .bool k]) ∧ Below w.heap.size w w' := h ▸ hk ▸ answered_impl p st rv xm w
theorem ans_val {p : Pk} {st rv xm : Int} {v : Pk} {k : Bool} (h : ansPk p st rv xm = v) (hk : ansOk p st rv xm = k) (w : World) :
    Calls Try.prog 13 #[.agg #[.int .i64 p.leap, .int .i64 p.version, .int .i64 p.mode, .int .i64 p.stratum, .int .i64 p.poll, .int .i64 p.delay, .int .i64 p.disp, .int .i64 p.ref, .int .i64 p.orig, .int .i64 p.recv, .int .i64 p.xmit], .int .i64 st, .int .i64 rv, .int .i64 xm] w fun e w' => e = .returned (.tuple #[.agg #[.int .i64 v.leap, .int .i64 v.version, .int .i64 v.mode, .int .i64 v.stratum, .int .i64 v.poll, .int .i64 v.delay, .int .i64 v.disp, .int .i64 v.ref, .int .i64 v.orig, .int .i64 v.recv, .int .i64 v.xmit], .bool k]) ∧ Below w.heap.size w w' := h ▸ hk ▸ answered_spec p st rv xm w

/-- What the law asks of an answer. -/
theorem ans_numbers {p : Pk} {st a b : Int} (h : ansOk p st a b = true) :
    ansPk p st a b = ⟨0, p.version, 4, st, p.poll, 0, 0, 0, p.xmit, a, b⟩ ∧ (⟨0, p.version, 4, st, p.poll, 0, 0, 0, p.xmit, a, b⟩ : Pk).ok = true ∧
    fitsB p ⟨0, p.version, 4, st, p.poll, 0, 0, 0, p.xmit, a, b⟩ = true ∧
    fitsB ⟨p.leap, p.version, p.mode, p.stratum, p.poll, p.delay, p.disp, p.ref, p.orig, p.recv, p.xmit + 1⟩ ⟨0, p.version, 4, st, p.poll, 0, 0, 0, p.xmit, a, b⟩ = false ∧
    fitsB ⟨0, p.version, 4, st, p.poll, 0, 0, 0, p.xmit, a, b⟩ p = false ∧ 0 ≤ p.xmit ∧ p.xmit ≤ 4000000000000000 := by
  have h0 := h
  unfold ansOk at h
  rw [Bool.and_eq_true] at h
  obtain ⟨h1, h2⟩ := h
  have h3 : p.ok = true := by
    unfold Pk.asks at h1
    simp only [Bool.and_eq_true] at h1
    exact h1.1.1
  have h4 : (p.ans st a b).ok = true := by
    unfold Pk.answers at h2
    simp only [Bool.and_eq_true] at h2
    exact h2.1.1.1
  have b1 : 0 ≤ p.xmit ∧ p.xmit ≤ 4000000000000000 := by
    have h5 := h3
    simp only [Pk.ok, Pk.times, Bool.and_eq_true, inB_iff] at h5
    omega
  refine ⟨by unfold ansPk; rw [h0]; rfl, h4, ?_, ?_, ?_, b1.1, b1.2⟩
  · have e : fitsB p (p.ans st a b) = true := by
      unfold fitsB
      rw [h1, h2]
      simp [Pk.ans]
    exact e
  · unfold fitsB
    have : ((p.xmit + 1 : Int) == p.xmit) = false := by simp; omega
    dsimp only
    rw [this, Bool.and_false]
  · have e : (⟨0, p.version, 4, st, p.poll, 0, 0, 0, p.xmit, a, b⟩ : Pk).asks = false := by
      unfold Pk.asks
      simp
    unfold fitsB
    rw [e, Bool.false_and, Bool.false_and]

set_option maxRecDepth 100000 in
set_option maxHeartbeats 64000000 in
theorem answers_walk (w : World) (x : Option Addr) (n cap z : Nat) (hz : z = n ∧ Code w.heap.size w (.slice x n cap) n) :
    Calls Try.prog 3 #[.slice x n cap] w fun e w' => e = .returned (.bool true) ∧ Below w.heap.size w w' := by
  obtain ⟨_, hc⟩ := hz
  by_cases hbig : n ≤ 1048576
  · go_enter Try.func3, Try.ntmps3
    go_wp2_with (go_at_call 7; go_in)
    refine (drawAsked_c x n cap _ hc hbig).mono ?_
    rintro e w1 ⟨now, poll, _, _, rfl, hb1⟩
    cases hok : askOk now poll with
    | false =>
      obtain ⟨q, hq⟩ : ∃ q, askPk now poll = q := ⟨_, rfl⟩
      have HAI := Lib.hid (asked_valI hq hok)
      have HAS := Lib.hid (asked_val hq hok)
      clear hq hok
      go_wp2_with fail
      refine (HAI.out _).mono ?_
      rintro e w2 ⟨rfl, hb2⟩
      have g2 := grow_next hb1 hb2
      have B2 := blk_new w2 (.cells #[.int .i64 q.leap, .int .i64 q.version, .int .i64 q.mode, .int .i64 q.stratum, .int .i64 q.poll, .int .i64 q.delay, .int .i64 q.disp, .int .i64 q.ref, .int .i64 q.orig, .int .i64 q.recv, .int .i64 q.xmit] 27)
      have g2' : Below w.heap.size w (w2.alloc (.cells #[.int .i64 q.leap, .int .i64 q.version, .int .i64 q.mode, .int .i64 q.stratum, .int .i64 q.poll, .int .i64 q.delay, .int .i64 q.disp, .int .i64 q.ref, .int .i64 q.orig, .int .i64 q.recv, .int .i64 q.xmit] 27)) := g2.alloc (by have := g2.size; omega) _
      go_wp2_with fail
      refine (HAS.out _).mono ?_
      rintro e w3 ⟨rfl, hb3⟩
      have g3 := grow_next g2' hb3
      have B3 := blk_alloc (blk_next hb3 B2) (.cells #[.int .i64 q.leap, .int .i64 q.version, .int .i64 q.mode, .int .i64 q.stratum, .int .i64 q.poll, .int .i64 q.delay, .int .i64 q.disp, .int .i64 q.ref, .int .i64 q.orig, .int .i64 q.recv, .int .i64 q.xmit] 27)
      have C3 := blk_new w3 (.cells #[.int .i64 q.leap, .int .i64 q.version, .int .i64 q.mode, .int .i64 q.stratum, .int .i64 q.poll, .int .i64 q.delay, .int .i64 q.disp, .int .i64 q.ref, .int .i64 q.orig, .int .i64 q.recv, .int .i64 q.xmit] 27)
      have g3' : Below w.heap.size w (w3.alloc (.cells #[.int .i64 q.leap, .int .i64 q.version, .int .i64 q.mode, .int .i64 q.stratum, .int .i64 q.poll, .int .i64 q.delay, .int .i64 q.disp, .int .i64 q.ref, .int .i64 q.orig, .int .i64 q.recv, .int .i64 q.xmit] 27)) := g3.alloc (by have := g3.size; omega) _
      go_wp2_with fail
      refine (drawAnswered_c x n cap _ (hc.next g3') hbig).mono ?_
      rintro e w4 ⟨p, st, a, b, rfl, hb4⟩
      have g4 := grow_next g3' hb4
      have B4 := blk_alloc (blk_next hb4 B3) (.cells #[.int .i64 p.leap, .int .i64 p.version, .int .i64 p.mode, .int .i64 p.stratum, .int .i64 p.poll, .int .i64 p.delay, .int .i64 p.disp, .int .i64 p.ref, .int .i64 p.orig, .int .i64 p.recv, .int .i64 p.xmit] 27)
      have C4 := blk_alloc (blk_next hb4 C3) (.cells #[.int .i64 p.leap, .int .i64 p.version, .int .i64 p.mode, .int .i64 p.stratum, .int .i64 p.poll, .int .i64 p.delay, .int .i64 p.disp, .int .i64 p.ref, .int .i64 p.orig, .int .i64 p.recv, .int .i64 p.xmit] 27)
      have D4 := blk_new w4 (.cells #[.int .i64 p.leap, .int .i64 p.version, .int .i64 p.mode, .int .i64 p.stratum, .int .i64 p.poll, .int .i64 p.delay, .int .i64 p.disp, .int .i64 p.ref, .int .i64 p.orig, .int .i64 p.recv, .int .i64 p.xmit] 27)
      have g4' : Below w.heap.size w (w4.alloc (.cells #[.int .i64 p.leap, .int .i64 p.version, .int .i64 p.mode, .int .i64 p.stratum, .int .i64 p.poll, .int .i64 p.delay, .int .i64 p.disp, .int .i64 p.ref, .int .i64 p.orig, .int .i64 p.recv, .int .i64 p.xmit] 27)) := g4.alloc (by have := g4.size; omega) _
      clear hb2 hb3 g2 g2' g3 B2 B3 C3
      cases hak : ansOk p st a b with
      | false =>
        obtain ⟨r, hr⟩ : ∃ r, ansPk p st a b = r := ⟨_, rfl⟩
        have HRI := Lib.hid (ans_valI hr hak)
        have HRS := Lib.hid (ans_val hr hak)
        clear hr hak
        go_wp2_with fail
        refine (HRI.out _).mono ?_
        rintro e w5 ⟨rfl, hb5⟩
        have g5 := grow_next g4' hb5
        have B5 := blk_alloc (blk_next hb5 B4) (.cells #[.int .i64 r.leap, .int .i64 r.version, .int .i64 r.mode, .int .i64 r.stratum, .int .i64 r.poll, .int .i64 r.delay, .int .i64 r.disp, .int .i64 r.ref, .int .i64 r.orig, .int .i64 r.recv, .int .i64 r.xmit] 27)
        have C5 := blk_alloc (blk_next hb5 C4) (.cells #[.int .i64 r.leap, .int .i64 r.version, .int .i64 r.mode, .int .i64 r.stratum, .int .i64 r.poll, .int .i64 r.delay, .int .i64 r.disp, .int .i64 r.ref, .int .i64 r.orig, .int .i64 r.recv, .int .i64 r.xmit] 27)
        have D5 := blk_alloc (blk_next hb5 D4) (.cells #[.int .i64 r.leap, .int .i64 r.version, .int .i64 r.mode, .int .i64 r.stratum, .int .i64 r.poll, .int .i64 r.delay, .int .i64 r.disp, .int .i64 r.ref, .int .i64 r.orig, .int .i64 r.recv, .int .i64 r.xmit] 27)
        have E5 := blk_new w5 (.cells #[.int .i64 r.leap, .int .i64 r.version, .int .i64 r.mode, .int .i64 r.stratum, .int .i64 r.poll, .int .i64 r.delay, .int .i64 r.disp, .int .i64 r.ref, .int .i64 r.orig, .int .i64 r.recv, .int .i64 r.xmit] 27)
        have g5' : Below w.heap.size w (w5.alloc (.cells #[.int .i64 r.leap, .int .i64 r.version, .int .i64 r.mode, .int .i64 r.stratum, .int .i64 r.poll, .int .i64 r.delay, .int .i64 r.disp, .int .i64 r.ref, .int .i64 r.orig, .int .i64 r.recv, .int .i64 r.xmit] 27)) := g5.alloc (by have := g5.size; omega) _
        obtain ⟨px0, px1, px2, px3, px4, px5, px6, px7, px8, px9, px10⟩ := packet_cells (blk_next hb5 D4)
        have l5 := (Array.getElem?_eq_some_iff.1 (blk_next hb5 D4)).1
        go_wp2_with fail
        refine (HRS.out _).mono ?_
        rintro e w6 ⟨rfl, hb6⟩
        have g6 := grow_next g5' hb6
        have B6 := blk_alloc (blk_next hb6 B5) (.cells #[.int .i64 r.leap, .int .i64 r.version, .int .i64 r.mode, .int .i64 r.stratum, .int .i64 r.poll, .int .i64 r.delay, .int .i64 r.disp, .int .i64 r.ref, .int .i64 r.orig, .int .i64 r.recv, .int .i64 r.xmit] 27)
        have C6 := blk_alloc (blk_next hb6 C5) (.cells #[.int .i64 r.leap, .int .i64 r.version, .int .i64 r.mode, .int .i64 r.stratum, .int .i64 r.poll, .int .i64 r.delay, .int .i64 r.disp, .int .i64 r.ref, .int .i64 r.orig, .int .i64 r.recv, .int .i64 r.xmit] 27)
        have D6 := blk_alloc (blk_next hb6 D5) (.cells #[.int .i64 r.leap, .int .i64 r.version, .int .i64 r.mode, .int .i64 r.stratum, .int .i64 r.poll, .int .i64 r.delay, .int .i64 r.disp, .int .i64 r.ref, .int .i64 r.orig, .int .i64 r.recv, .int .i64 r.xmit] 27)
        have E6 := blk_alloc (blk_next hb6 E5) (.cells #[.int .i64 r.leap, .int .i64 r.version, .int .i64 r.mode, .int .i64 r.stratum, .int .i64 r.poll, .int .i64 r.delay, .int .i64 r.disp, .int .i64 r.ref, .int .i64 r.orig, .int .i64 r.recv, .int .i64 r.xmit] 27)
        have F6 := blk_new w6 (.cells #[.int .i64 r.leap, .int .i64 r.version, .int .i64 r.mode, .int .i64 r.stratum, .int .i64 r.poll, .int .i64 r.delay, .int .i64 r.disp, .int .i64 r.ref, .int .i64 r.orig, .int .i64 r.recv, .int .i64 r.xmit] 27)
        have g6' : Below w.heap.size w (w6.alloc (.cells #[.int .i64 r.leap, .int .i64 r.version, .int .i64 r.mode, .int .i64 r.stratum, .int .i64 r.poll, .int .i64 r.delay, .int .i64 r.disp, .int .i64 r.ref, .int .i64 r.orig, .int .i64 r.recv, .int .i64 r.xmit] 27)) := g6.alloc (by have := g6.size; omega) _
        clear px0 px1 px2 px3 px4 px5 px6 px7 px8 px9 px10
        go_wp2_with fail
        refine (drawFits_c x n cap _ (hc.next g6') hbig).mono ?_
        rintro e w7 ⟨x1, y1, rfl, hb7⟩
        have g7 := grow_next g6' hb7
        have B7 := blk_alloc (blk_alloc (blk_next hb7 B6) (.cells #[.int .i64 x1.leap, .int .i64 x1.version, .int .i64 x1.mode, .int .i64 x1.stratum, .int .i64 x1.poll, .int .i64 x1.delay, .int .i64 x1.disp, .int .i64 x1.ref, .int .i64 x1.orig, .int .i64 x1.recv, .int .i64 x1.xmit] 27)) (.cells #[.int .i64 y1.leap, .int .i64 y1.version, .int .i64 y1.mode, .int .i64 y1.stratum, .int .i64 y1.poll, .int .i64 y1.delay, .int .i64 y1.disp, .int .i64 y1.ref, .int .i64 y1.orig, .int .i64 y1.recv, .int .i64 y1.xmit] 27)
        have C7 := blk_alloc (blk_alloc (blk_next hb7 C6) (.cells #[.int .i64 x1.leap, .int .i64 x1.version, .int .i64 x1.mode, .int .i64 x1.stratum, .int .i64 x1.poll, .int .i64 x1.delay, .int .i64 x1.disp, .int .i64 x1.ref, .int .i64 x1.orig, .int .i64 x1.recv, .int .i64 x1.xmit] 27)) (.cells #[.int .i64 y1.leap, .int .i64 y1.version, .int .i64 y1.mode, .int .i64 y1.stratum, .int .i64 y1.poll, .int .i64 y1.delay, .int .i64 y1.disp, .int .i64 y1.ref, .int .i64 y1.orig, .int .i64 y1.recv, .int .i64 y1.xmit] 27)
        have D7 := blk_alloc (blk_alloc (blk_next hb7 D6) (.cells #[.int .i64 x1.leap, .int .i64 x1.version, .int .i64 x1.mode, .int .i64 x1.stratum, .int .i64 x1.poll, .int .i64 x1.delay, .int .i64 x1.disp, .int .i64 x1.ref, .int .i64 x1.orig, .int .i64 x1.recv, .int .i64 x1.xmit] 27)) (.cells #[.int .i64 y1.leap, .int .i64 y1.version, .int .i64 y1.mode, .int .i64 y1.stratum, .int .i64 y1.poll, .int .i64 y1.delay, .int .i64 y1.disp, .int .i64 y1.ref, .int .i64 y1.orig, .int .i64 y1.recv, .int .i64 y1.xmit] 27)
        have E7 := blk_alloc (blk_alloc (blk_next hb7 E6) (.cells #[.int .i64 x1.leap, .int .i64 x1.version, .int .i64 x1.mode, .int .i64 x1.stratum, .int .i64 x1.poll, .int .i64 x1.delay, .int .i64 x1.disp, .int .i64 x1.ref, .int .i64 x1.orig, .int .i64 x1.recv, .int .i64 x1.xmit] 27)) (.cells #[.int .i64 y1.leap, .int .i64 y1.version, .int .i64 y1.mode, .int .i64 y1.stratum, .int .i64 y1.poll, .int .i64 y1.delay, .int .i64 y1.disp, .int .i64 y1.ref, .int .i64 y1.orig, .int .i64 y1.recv, .int .i64 y1.xmit] 27)
        have F7 := blk_alloc (blk_alloc (blk_next hb7 F6) (.cells #[.int .i64 x1.leap, .int .i64 x1.version, .int .i64 x1.mode, .int .i64 x1.stratum, .int .i64 x1.poll, .int .i64 x1.delay, .int .i64 x1.disp, .int .i64 x1.ref, .int .i64 x1.orig, .int .i64 x1.recv, .int .i64 x1.xmit] 27)) (.cells #[.int .i64 y1.leap, .int .i64 y1.version, .int .i64 y1.mode, .int .i64 y1.stratum, .int .i64 y1.poll, .int .i64 y1.delay, .int .i64 y1.disp, .int .i64 y1.ref, .int .i64 y1.orig, .int .i64 y1.recv, .int .i64 y1.xmit] 27)
        have X7 := blk_alloc (blk_new w7 (.cells #[.int .i64 x1.leap, .int .i64 x1.version, .int .i64 x1.mode, .int .i64 x1.stratum, .int .i64 x1.poll, .int .i64 x1.delay, .int .i64 x1.disp, .int .i64 x1.ref, .int .i64 x1.orig, .int .i64 x1.recv, .int .i64 x1.xmit] 27)) (.cells #[.int .i64 y1.leap, .int .i64 y1.version, .int .i64 y1.mode, .int .i64 y1.stratum, .int .i64 y1.poll, .int .i64 y1.delay, .int .i64 y1.disp, .int .i64 y1.ref, .int .i64 y1.orig, .int .i64 y1.recv, .int .i64 y1.xmit] 27)
        have Y7 := blk_new (w7.alloc (.cells #[.int .i64 x1.leap, .int .i64 x1.version, .int .i64 x1.mode, .int .i64 x1.stratum, .int .i64 x1.poll, .int .i64 x1.delay, .int .i64 x1.disp, .int .i64 x1.ref, .int .i64 x1.orig, .int .i64 x1.recv, .int .i64 x1.xmit] 27)) (.cells #[.int .i64 y1.leap, .int .i64 y1.version, .int .i64 y1.mode, .int .i64 y1.stratum, .int .i64 y1.poll, .int .i64 y1.delay, .int .i64 y1.disp, .int .i64 y1.ref, .int .i64 y1.orig, .int .i64 y1.recv, .int .i64 y1.xmit] 27)
        simp only [World.size_alloc] at Y7
        have g7' : Below w.heap.size w ((w7.alloc (.cells #[.int .i64 x1.leap, .int .i64 x1.version, .int .i64 x1.mode, .int .i64 x1.stratum, .int .i64 x1.poll, .int .i64 x1.delay, .int .i64 x1.disp, .int .i64 x1.ref, .int .i64 x1.orig, .int .i64 x1.recv, .int .i64 x1.xmit] 27)).alloc (.cells #[.int .i64 y1.leap, .int .i64 y1.version, .int .i64 y1.mode, .int .i64 y1.stratum, .int .i64 y1.poll, .int .i64 y1.delay, .int .i64 y1.disp, .int .i64 y1.ref, .int .i64 y1.orig, .int .i64 y1.recv, .int .i64 y1.xmit] 27)) := (g7.alloc (by have := g7.size; omega) _).alloc (by have := g7.size; simp; omega) _
        obtain ⟨fxy, hf⟩ : ∃ k, fitsB x1 y1 = k := ⟨_, rfl⟩
        have HFI := Lib.hid (fits_valI hf)
        have HFS := Lib.hid (fits_val hf)
        clear hf hc hb1 hb4 hb5 hb6 hb7 g3' g4 g4' g5 g5' g6 g6' g7 B4 C4 D4 B5 C5 D5 E5 B6 C6 D6 E6 F6 l5
        all_goals
          go_wp2_with fail
          generalize hW7 : (w7.alloc (.cells #[.int .i64 x1.leap, .int .i64 x1.version, .int .i64 x1.mode, .int .i64 x1.stratum, .int .i64 x1.poll, .int .i64 x1.delay, .int .i64 x1.disp, .int .i64 x1.ref, .int .i64 x1.orig, .int .i64 x1.recv, .int .i64 x1.xmit] 27)).alloc (.cells #[.int .i64 y1.leap, .int .i64 y1.version, .int .i64 y1.mode, .int .i64 y1.stratum, .int .i64 y1.poll, .int .i64 y1.delay, .int .i64 y1.disp, .int .i64 y1.ref, .int .i64 y1.orig, .int .i64 y1.recv, .int .i64 y1.xmit] 27) = W7 at *
          clear hW7
          obtain ⟨bz0, bz1, bz2, bz3, bz4, bz5, bz6, bz7, bz8, bz9, bz10⟩ := packet_cells (q := q) B7
          have kb0 := cell_regrown bz0
          have kb1 := cell_regrown bz1
          have kb2 := cell_regrown bz2
          have kb3 := cell_regrown bz3
          have kb4 := cell_regrown bz4
          have kb5 := cell_regrown bz5
          have kb6 := cell_regrown bz6
          have kb7 := cell_regrown bz7
          have kb8 := cell_regrown bz8
          have kb9 := cell_regrown bz9
          have kb10 := cell_regrown bz10
          clear bz0 bz1 bz2 bz3 bz4 bz5 bz6 bz7 bz8 bz9 bz10
          obtain ⟨cz0, cz1, cz2, cz3, cz4, cz5, cz6, cz7, cz8, cz9, cz10⟩ := packet_cells (q := q) C7
          have kc0 := cell_regrown cz0
          have kc1 := cell_regrown cz1
          have kc2 := cell_regrown cz2
          have kc3 := cell_regrown cz3
          have kc4 := cell_regrown cz4
          have kc5 := cell_regrown cz5
          have kc6 := cell_regrown cz6
          have kc7 := cell_regrown cz7
          have kc8 := cell_regrown cz8
          have kc9 := cell_regrown cz9
          have kc10 := cell_regrown cz10
          clear cz0 cz1 cz2 cz3 cz4 cz5 cz6 cz7 cz8 cz9 cz10
          obtain ⟨ez0, ez1, ez2, ez3, ez4, ez5, ez6, ez7, ez8, ez9, ez10⟩ := packet_cells (q := r) E7
          have ke0 := cell_regrown ez0
          have ke1 := cell_regrown ez1
          have ke2 := cell_regrown ez2
          have ke3 := cell_regrown ez3
          have ke4 := cell_regrown ez4
          have ke5 := cell_regrown ez5
          have ke6 := cell_regrown ez6
          have ke7 := cell_regrown ez7
          have ke8 := cell_regrown ez8
          have ke9 := cell_regrown ez9
          have ke10 := cell_regrown ez10
          clear ez0 ez1 ez2 ez3 ez4 ez5 ez6 ez7 ez8 ez9 ez10
          obtain ⟨fz0, fz1, fz2, fz3, fz4, fz5, fz6, fz7, fz8, fz9, fz10⟩ := packet_cells (q := r) F7
          have kf0 := cell_regrown fz0
          have kf1 := cell_regrown fz1
          have kf2 := cell_regrown fz2
          have kf3 := cell_regrown fz3
          have kf4 := cell_regrown fz4
          have kf5 := cell_regrown fz5
          have kf6 := cell_regrown fz6
          have kf7 := cell_regrown fz7
          have kf8 := cell_regrown fz8
          have kf9 := cell_regrown fz9
          have kf10 := cell_regrown fz10
          clear fz0 fz1 fz2 fz3 fz4 fz5 fz6 fz7 fz8 fz9 fz10
          obtain ⟨xz0, xz1, xz2, xz3, xz4, xz5, xz6, xz7, xz8, xz9, xz10⟩ := packet_cells (q := x1) X7
          have kx0 := cell_regrown xz0
          have kx1 := cell_regrown xz1
          have kx2 := cell_regrown xz2
          have kx3 := cell_regrown xz3
          have kx4 := cell_regrown xz4
          have kx5 := cell_regrown xz5
          have kx6 := cell_regrown xz6
          have kx7 := cell_regrown xz7
          have kx8 := cell_regrown xz8
          have kx9 := cell_regrown xz9
          have kx10 := cell_regrown xz10
          clear xz0 xz1 xz2 xz3 xz4 xz5 xz6 xz7 xz8 xz9 xz10
          obtain ⟨yz0, yz1, yz2, yz3, yz4, yz5, yz6, yz7, yz8, yz9, yz10⟩ := packet_cells (q := y1) Y7
          have ky0 := cell_regrown yz0
          have ky1 := cell_regrown yz1
          have ky2 := cell_regrown yz2
          have ky3 := cell_regrown yz3
          have ky4 := cell_regrown yz4
          have ky5 := cell_regrown yz5
          have ky6 := cell_regrown yz6
          have ky7 := cell_regrown yz7
          have ky8 := cell_regrown yz8
          have ky9 := cell_regrown yz9
          have ky10 := cell_regrown yz10
          clear yz0 yz1 yz2 yz3 yz4 yz5 yz6 yz7 yz8 yz9 yz10
          have CI := Lib.hid (fun d os => Calls.regrown_of (HFI.out (grow (redrawn W7 d) os)))
          have CS := Lib.hid (fun d os => Calls.regrown_of (HFS.out (grow (redrawn W7 d) os)))
          refine wp_region_quiet_below (by kernel_rfl) (by kernel_rfl) ?_
          repeat ((with_reducible refine wpQuiet_step (fun K hK => ?_)); go_simp; first | ((with_reducible refine hK _ ?_); clear hK K) | (rw [if_neg (by intro h; exact nomatch h)]; (with_reducible refine hK _ ?_); clear hK K) | (apply Exists.intro; (with_reducible refine ⟨fun _ => ?_, hK _ ?_⟩); (first | with_reducible exact CI.out _ _ | with_reducible exact CS.out _ _); clear hK K))
          with_reducible refine wpQuiet_nil ?_
          intro _ hw'
          obtain ⟨⟨dq, osq⟩, hw''⟩ := hw'
          subst hw''
          have g8 := grow_next g7' (below_regrown W7 dq osq)
          have D8 := blk_next (below_regrown W7 dq osq) D7
          have E8 := blk_next (below_regrown W7 dq osq) E7
          clear kb0 kb1 kb2 kb3 kb4 kb5 kb6 kb7 kb8 kb9 kb10 kc0 kc1 kc2 kc3 kc4 kc5 kc6 kc7 kc8 kc9 kc10 ke0 ke1 ke2 ke3 ke4 ke5 ke6 ke7 ke8 ke9 ke10 kf0 kf1 kf2 kf3 kf4 kf5 kf6 kf7 kf8 kf9 kf10 kx0 kx1 kx2 kx3 kx4 kx5 kx6 kx7 kx8 kx9 kx10 ky0 ky1 ky2 ky3 ky4 ky5 ky6 ky7 ky8 ky9 ky10
          clear B7 C7 D7 E7 F7 X7 Y7 CI CS
          go_wp2_with fail
          go_returns
          exact ⟨rfl, g8⟩
      | true =>
        obtain ⟨hr, hro, hf1, hf2, hf3, hx0, hx1⟩ := ans_numbers hak
        have hHRI := fun w => ans_valI hr hak w
        dsimp only at hHRI
        have HRI := Lib.hid hHRI
        clear hHRI
        have hHRS := fun w => ans_val hr hak w
        dsimp only at hHRS
        have HRS := Lib.hid hHRS
        clear hHRS
        have hHRO := fun w => ok_valI hro w
        dsimp only at hHRO
        have HRO := Lib.hid hHRO
        clear hHRO
        have hHF1 := fun w => fits_valI hf1 w
        dsimp only at hHF1
        have HF1 := Lib.hid hHF1
        clear hHF1
        have hHF2 := fun w => fits_valI hf2 w
        dsimp only at hHF2
        have HF2 := Lib.hid hHF2
        clear hHF2
        have hHF3 := fun w => fits_valI hf3 w
        dsimp only at hHF3
        have HF3 := Lib.hid hHF3
        clear hHF3
        clear hr hak hro hf1 hf2 hf3
        go_wp2_with fail
        refine (HRI.out _).mono ?_
        rintro e w5 ⟨rfl, hb5⟩
        have g5 := grow_next g4' hb5
        have B5 := blk_alloc (blk_next hb5 B4) (.cells #[.int .i64 0, .int .i64 p.version, .int .i64 4, .int .i64 st, .int .i64 p.poll, .int .i64 0, .int .i64 0, .int .i64 0, .int .i64 p.xmit, .int .i64 a, .int .i64 b] 27)
        have C5 := blk_alloc (blk_next hb5 C4) (.cells #[.int .i64 0, .int .i64 p.version, .int .i64 4, .int .i64 st, .int .i64 p.poll, .int .i64 0, .int .i64 0, .int .i64 0, .int .i64 p.xmit, .int .i64 a, .int .i64 b] 27)
        have D5 := blk_alloc (blk_next hb5 D4) (.cells #[.int .i64 0, .int .i64 p.version, .int .i64 4, .int .i64 st, .int .i64 p.poll, .int .i64 0, .int .i64 0, .int .i64 0, .int .i64 p.xmit, .int .i64 a, .int .i64 b] 27)
        have E5 := blk_new w5 (.cells #[.int .i64 0, .int .i64 p.version, .int .i64 4, .int .i64 st, .int .i64 p.poll, .int .i64 0, .int .i64 0, .int .i64 0, .int .i64 p.xmit, .int .i64 a, .int .i64 b] 27)
        have g5' : Below w.heap.size w (w5.alloc (.cells #[.int .i64 0, .int .i64 p.version, .int .i64 4, .int .i64 st, .int .i64 p.poll, .int .i64 0, .int .i64 0, .int .i64 0, .int .i64 p.xmit, .int .i64 a, .int .i64 b] 27)) := g5.alloc (by have := g5.size; omega) _
        obtain ⟨px0, px1, px2, px3, px4, px5, px6, px7, px8, px9, px10⟩ := packet_cells (blk_next hb5 D4)
        have l5 := (Array.getElem?_eq_some_iff.1 (blk_next hb5 D4)).1
        go_wp2_with fail
        refine (HRS.out _).mono ?_
        rintro e w6 ⟨rfl, hb6⟩
        have g6 := grow_next g5' hb6
        have B6 := blk_alloc (blk_next hb6 B5) (.cells #[.int .i64 0, .int .i64 p.version, .int .i64 4, .int .i64 st, .int .i64 p.poll, .int .i64 0, .int .i64 0, .int .i64 0, .int .i64 p.xmit, .int .i64 a, .int .i64 b] 27)
        have C6 := blk_alloc (blk_next hb6 C5) (.cells #[.int .i64 0, .int .i64 p.version, .int .i64 4, .int .i64 st, .int .i64 p.poll, .int .i64 0, .int .i64 0, .int .i64 0, .int .i64 p.xmit, .int .i64 a, .int .i64 b] 27)
        have D6 := blk_alloc (blk_next hb6 D5) (.cells #[.int .i64 0, .int .i64 p.version, .int .i64 4, .int .i64 st, .int .i64 p.poll, .int .i64 0, .int .i64 0, .int .i64 0, .int .i64 p.xmit, .int .i64 a, .int .i64 b] 27)
        have E6 := blk_alloc (blk_next hb6 E5) (.cells #[.int .i64 0, .int .i64 p.version, .int .i64 4, .int .i64 st, .int .i64 p.poll, .int .i64 0, .int .i64 0, .int .i64 0, .int .i64 p.xmit, .int .i64 a, .int .i64 b] 27)
        have F6 := blk_new w6 (.cells #[.int .i64 0, .int .i64 p.version, .int .i64 4, .int .i64 st, .int .i64 p.poll, .int .i64 0, .int .i64 0, .int .i64 0, .int .i64 p.xmit, .int .i64 a, .int .i64 b] 27)
        have g6' : Below w.heap.size w (w6.alloc (.cells #[.int .i64 0, .int .i64 p.version, .int .i64 4, .int .i64 st, .int .i64 p.poll, .int .i64 0, .int .i64 0, .int .i64 0, .int .i64 p.xmit, .int .i64 a, .int .i64 b] 27)) := g6.alloc (by have := g6.size; omega) _
        clear px0 px1 px2 px3 px4 px5 px6 px7 px8 px9 px10
        go_wp2_with fail
        refine (drawFits_c x n cap _ (hc.next g6') hbig).mono ?_
        rintro e w7 ⟨x1, y1, rfl, hb7⟩
        have g7 := grow_next g6' hb7
        have B7 := blk_alloc (blk_alloc (blk_next hb7 B6) (.cells #[.int .i64 x1.leap, .int .i64 x1.version, .int .i64 x1.mode, .int .i64 x1.stratum, .int .i64 x1.poll, .int .i64 x1.delay, .int .i64 x1.disp, .int .i64 x1.ref, .int .i64 x1.orig, .int .i64 x1.recv, .int .i64 x1.xmit] 27)) (.cells #[.int .i64 y1.leap, .int .i64 y1.version, .int .i64 y1.mode, .int .i64 y1.stratum, .int .i64 y1.poll, .int .i64 y1.delay, .int .i64 y1.disp, .int .i64 y1.ref, .int .i64 y1.orig, .int .i64 y1.recv, .int .i64 y1.xmit] 27)
        have C7 := blk_alloc (blk_alloc (blk_next hb7 C6) (.cells #[.int .i64 x1.leap, .int .i64 x1.version, .int .i64 x1.mode, .int .i64 x1.stratum, .int .i64 x1.poll, .int .i64 x1.delay, .int .i64 x1.disp, .int .i64 x1.ref, .int .i64 x1.orig, .int .i64 x1.recv, .int .i64 x1.xmit] 27)) (.cells #[.int .i64 y1.leap, .int .i64 y1.version, .int .i64 y1.mode, .int .i64 y1.stratum, .int .i64 y1.poll, .int .i64 y1.delay, .int .i64 y1.disp, .int .i64 y1.ref, .int .i64 y1.orig, .int .i64 y1.recv, .int .i64 y1.xmit] 27)
        have D7 := blk_alloc (blk_alloc (blk_next hb7 D6) (.cells #[.int .i64 x1.leap, .int .i64 x1.version, .int .i64 x1.mode, .int .i64 x1.stratum, .int .i64 x1.poll, .int .i64 x1.delay, .int .i64 x1.disp, .int .i64 x1.ref, .int .i64 x1.orig, .int .i64 x1.recv, .int .i64 x1.xmit] 27)) (.cells #[.int .i64 y1.leap, .int .i64 y1.version, .int .i64 y1.mode, .int .i64 y1.stratum, .int .i64 y1.poll, .int .i64 y1.delay, .int .i64 y1.disp, .int .i64 y1.ref, .int .i64 y1.orig, .int .i64 y1.recv, .int .i64 y1.xmit] 27)
        have E7 := blk_alloc (blk_alloc (blk_next hb7 E6) (.cells #[.int .i64 x1.leap, .int .i64 x1.version, .int .i64 x1.mode, .int .i64 x1.stratum, .int .i64 x1.poll, .int .i64 x1.delay, .int .i64 x1.disp, .int .i64 x1.ref, .int .i64 x1.orig, .int .i64 x1.recv, .int .i64 x1.xmit] 27)) (.cells #[.int .i64 y1.leap, .int .i64 y1.version, .int .i64 y1.mode, .int .i64 y1.stratum, .int .i64 y1.poll, .int .i64 y1.delay, .int .i64 y1.disp, .int .i64 y1.ref, .int .i64 y1.orig, .int .i64 y1.recv, .int .i64 y1.xmit] 27)
        have F7 := blk_alloc (blk_alloc (blk_next hb7 F6) (.cells #[.int .i64 x1.leap, .int .i64 x1.version, .int .i64 x1.mode, .int .i64 x1.stratum, .int .i64 x1.poll, .int .i64 x1.delay, .int .i64 x1.disp, .int .i64 x1.ref, .int .i64 x1.orig, .int .i64 x1.recv, .int .i64 x1.xmit] 27)) (.cells #[.int .i64 y1.leap, .int .i64 y1.version, .int .i64 y1.mode, .int .i64 y1.stratum, .int .i64 y1.poll, .int .i64 y1.delay, .int .i64 y1.disp, .int .i64 y1.ref, .int .i64 y1.orig, .int .i64 y1.recv, .int .i64 y1.xmit] 27)
        have X7 := blk_alloc (blk_new w7 (.cells #[.int .i64 x1.leap, .int .i64 x1.version, .int .i64 x1.mode, .int .i64 x1.stratum, .int .i64 x1.poll, .int .i64 x1.delay, .int .i64 x1.disp, .int .i64 x1.ref, .int .i64 x1.orig, .int .i64 x1.recv, .int .i64 x1.xmit] 27)) (.cells #[.int .i64 y1.leap, .int .i64 y1.version, .int .i64 y1.mode, .int .i64 y1.stratum, .int .i64 y1.poll, .int .i64 y1.delay, .int .i64 y1.disp, .int .i64 y1.ref, .int .i64 y1.orig, .int .i64 y1.recv, .int .i64 y1.xmit] 27)
        have Y7 := blk_new (w7.alloc (.cells #[.int .i64 x1.leap, .int .i64 x1.version, .int .i64 x1.mode, .int .i64 x1.stratum, .int .i64 x1.poll, .int .i64 x1.delay, .int .i64 x1.disp, .int .i64 x1.ref, .int .i64 x1.orig, .int .i64 x1.recv, .int .i64 x1.xmit] 27)) (.cells #[.int .i64 y1.leap, .int .i64 y1.version, .int .i64 y1.mode, .int .i64 y1.stratum, .int .i64 y1.poll, .int .i64 y1.delay, .int .i64 y1.disp, .int .i64 y1.ref, .int .i64 y1.orig, .int .i64 y1.recv, .int .i64 y1.xmit] 27)
        simp only [World.size_alloc] at Y7
        have g7' : Below w.heap.size w ((w7.alloc (.cells #[.int .i64 x1.leap, .int .i64 x1.version, .int .i64 x1.mode, .int .i64 x1.stratum, .int .i64 x1.poll, .int .i64 x1.delay, .int .i64 x1.disp, .int .i64 x1.ref, .int .i64 x1.orig, .int .i64 x1.recv, .int .i64 x1.xmit] 27)).alloc (.cells #[.int .i64 y1.leap, .int .i64 y1.version, .int .i64 y1.mode, .int .i64 y1.stratum, .int .i64 y1.poll, .int .i64 y1.delay, .int .i64 y1.disp, .int .i64 y1.ref, .int .i64 y1.orig, .int .i64 y1.recv, .int .i64 y1.xmit] 27)) := (g7.alloc (by have := g7.size; omega) _).alloc (by have := g7.size; simp; omega) _
        obtain ⟨fxy, hf⟩ : ∃ k, fitsB x1 y1 = k := ⟨_, rfl⟩
        have HFI := Lib.hid (fits_valI hf)
        have HFS := Lib.hid (fits_val hf)
        clear hf hc hb1 hb4 hb5 hb6 hb7 g3' g4 g4' g5 g5' g6 g6' g7 B4 C4 D4 B5 C5 D5 E5 B6 C6 D6 E6 F6 l5
        all_goals
          go_wp2_with fail
          generalize hW7 : (w7.alloc (.cells #[.int .i64 x1.leap, .int .i64 x1.version, .int .i64 x1.mode, .int .i64 x1.stratum, .int .i64 x1.poll, .int .i64 x1.delay, .int .i64 x1.disp, .int .i64 x1.ref, .int .i64 x1.orig, .int .i64 x1.recv, .int .i64 x1.xmit] 27)).alloc (.cells #[.int .i64 y1.leap, .int .i64 y1.version, .int .i64 y1.mode, .int .i64 y1.stratum, .int .i64 y1.poll, .int .i64 y1.delay, .int .i64 y1.disp, .int .i64 y1.ref, .int .i64 y1.orig, .int .i64 y1.recv, .int .i64 y1.xmit] 27) = W7 at *
          clear hW7
          obtain ⟨bz0, bz1, bz2, bz3, bz4, bz5, bz6, bz7, bz8, bz9, bz10⟩ := packet_cells (q := q) B7
          have kb0 := cell_regrown bz0
          have kb1 := cell_regrown bz1
          have kb2 := cell_regrown bz2
          have kb3 := cell_regrown bz3
          have kb4 := cell_regrown bz4
          have kb5 := cell_regrown bz5
          have kb6 := cell_regrown bz6
          have kb7 := cell_regrown bz7
          have kb8 := cell_regrown bz8
          have kb9 := cell_regrown bz9
          have kb10 := cell_regrown bz10
          clear bz0 bz1 bz2 bz3 bz4 bz5 bz6 bz7 bz8 bz9 bz10
          obtain ⟨cz0, cz1, cz2, cz3, cz4, cz5, cz6, cz7, cz8, cz9, cz10⟩ := packet_cells (q := q) C7
          have kc0 := cell_regrown cz0
          have kc1 := cell_regrown cz1
          have kc2 := cell_regrown cz2
          have kc3 := cell_regrown cz3
          have kc4 := cell_regrown cz4
          have kc5 := cell_regrown cz5
          have kc6 := cell_regrown cz6
          have kc7 := cell_regrown cz7
          have kc8 := cell_regrown cz8
          have kc9 := cell_regrown cz9
          have kc10 := cell_regrown cz10
          clear cz0 cz1 cz2 cz3 cz4 cz5 cz6 cz7 cz8 cz9 cz10
          obtain ⟨ez0, ez1, ez2, ez3, ez4, ez5, ez6, ez7, ez8, ez9, ez10⟩ := packet_cells (q := ⟨0, p.version, 4, st, p.poll, 0, 0, 0, p.xmit, a, b⟩) E7
          dsimp only at ez0 ez1 ez2 ez3 ez4 ez5 ez6 ez7 ez8 ez9 ez10
          have ke0 := cell_regrown ez0
          have ke1 := cell_regrown ez1
          have ke2 := cell_regrown ez2
          have ke3 := cell_regrown ez3
          have ke4 := cell_regrown ez4
          have ke5 := cell_regrown ez5
          have ke6 := cell_regrown ez6
          have ke7 := cell_regrown ez7
          have ke8 := cell_regrown ez8
          have ke9 := cell_regrown ez9
          have ke10 := cell_regrown ez10
          clear ez0 ez1 ez2 ez3 ez4 ez5 ez6 ez7 ez8 ez9 ez10
          obtain ⟨fz0, fz1, fz2, fz3, fz4, fz5, fz6, fz7, fz8, fz9, fz10⟩ := packet_cells (q := ⟨0, p.version, 4, st, p.poll, 0, 0, 0, p.xmit, a, b⟩) F7
          dsimp only at fz0 fz1 fz2 fz3 fz4 fz5 fz6 fz7 fz8 fz9 fz10
          have kf0 := cell_regrown fz0
          have kf1 := cell_regrown fz1
          have kf2 := cell_regrown fz2
          have kf3 := cell_regrown fz3
          have kf4 := cell_regrown fz4
          have kf5 := cell_regrown fz5
          have kf6 := cell_regrown fz6
          have kf7 := cell_regrown fz7
          have kf8 := cell_regrown fz8
          have kf9 := cell_regrown fz9
          have kf10 := cell_regrown fz10
          clear fz0 fz1 fz2 fz3 fz4 fz5 fz6 fz7 fz8 fz9 fz10
          obtain ⟨xz0, xz1, xz2, xz3, xz4, xz5, xz6, xz7, xz8, xz9, xz10⟩ := packet_cells (q := x1) X7
          have kx0 := cell_regrown xz0
          have kx1 := cell_regrown xz1
          have kx2 := cell_regrown xz2
          have kx3 := cell_regrown xz3
          have kx4 := cell_regrown xz4
          have kx5 := cell_regrown xz5
          have kx6 := cell_regrown xz6
          have kx7 := cell_regrown xz7
          have kx8 := cell_regrown xz8
          have kx9 := cell_regrown xz9
          have kx10 := cell_regrown xz10
          clear xz0 xz1 xz2 xz3 xz4 xz5 xz6 xz7 xz8 xz9 xz10
          obtain ⟨yz0, yz1, yz2, yz3, yz4, yz5, yz6, yz7, yz8, yz9, yz10⟩ := packet_cells (q := y1) Y7
          have ky0 := cell_regrown yz0
          have ky1 := cell_regrown yz1
          have ky2 := cell_regrown yz2
          have ky3 := cell_regrown yz3
          have ky4 := cell_regrown yz4
          have ky5 := cell_regrown yz5
          have ky6 := cell_regrown yz6
          have ky7 := cell_regrown yz7
          have ky8 := cell_regrown yz8
          have ky9 := cell_regrown yz9
          have ky10 := cell_regrown yz10
          clear yz0 yz1 yz2 yz3 yz4 yz5 yz6 yz7 yz8 yz9 yz10
          have CI := Lib.hid (fun d os => Calls.regrown_of (HFI.out (grow (redrawn W7 d) os)))
          have CS := Lib.hid (fun d os => Calls.regrown_of (HFS.out (grow (redrawn W7 d) os)))
          refine wp_region_quiet_below (by kernel_rfl) (by kernel_rfl) ?_
          repeat ((with_reducible refine wpQuiet_step (fun K hK => ?_)); go_simp; first | ((with_reducible refine hK _ ?_); clear hK K) | (rw [if_neg (by intro h; exact nomatch h)]; (with_reducible refine hK _ ?_); clear hK K) | (apply Exists.intro; (with_reducible refine ⟨fun _ => ?_, hK _ ?_⟩); (first | with_reducible exact CI.out _ _ | with_reducible exact CS.out _ _); clear hK K))
          with_reducible refine wpQuiet_nil ?_
          intro _ hw'
          obtain ⟨⟨dq, osq⟩, hw''⟩ := hw'
          subst hw''
          have g8 := grow_next g7' (below_regrown W7 dq osq)
          have D8 := blk_next (below_regrown W7 dq osq) D7
          have E8 := blk_next (below_regrown W7 dq osq) E7
          clear kb0 kb1 kb2 kb3 kb4 kb5 kb6 kb7 kb8 kb9 kb10 kc0 kc1 kc2 kc3 kc4 kc5 kc6 kc7 kc8 kc9 kc10 ke0 ke1 ke2 ke3 ke4 ke5 ke6 ke7 ke8 ke9 ke10 kf0 kf1 kf2 kf3 kf4 kf5 kf6 kf7 kf8 kf9 kf10 kx0 kx1 kx2 kx3 kx4 kx5 kx6 kx7 kx8 kx9 kx10 ky0 ky1 ky2 ky3 ky4 ky5 ky6 ky7 ky8 ky9 ky10
          clear B7 C7 D7 E7 F7 X7 Y7 CI CS
          generalize hW8 : grow (redrawn W7 dq) osq = W8 at *
          clear hW8 g7'
          obtain ⟨d0, d1, d2, d3, d4, d5, d6, d7, d8, d9, d10⟩ := packet_cells (q := p) D8
          obtain ⟨e0, e1, e2, e3, e4, e5, e6, e7, e8, e9, e10⟩ := packet_cells (q := ⟨0, p.version, 4, st, p.poll, 0, 0, 0, p.xmit, a, b⟩) E8
          dsimp only at e0 e1 e2 e3 e4 e5 e6 e7 e8 e9 e10
          have ld := (Array.getElem?_eq_some_iff.1 D8).1
          have le := (Array.getElem?_eq_some_iff.1 E8).1
          have O9 := blk_new W8 (.cells #[.int .i64 p.leap, .int .i64 p.version, .int .i64 p.mode, .int .i64 p.stratum, .int .i64 p.poll, .int .i64 p.delay, .int .i64 p.disp, .int .i64 p.ref, .int .i64 p.orig, .int .i64 p.recv, .int .i64 (p.xmit + 1)] 27)
          have D9 := blk_alloc D8 (.cells #[.int .i64 p.leap, .int .i64 p.version, .int .i64 p.mode, .int .i64 p.stratum, .int .i64 p.poll, .int .i64 p.delay, .int .i64 p.disp, .int .i64 p.ref, .int .i64 p.orig, .int .i64 p.recv, .int .i64 (p.xmit + 1)] 27)
          have E9 := blk_alloc E8 (.cells #[.int .i64 p.leap, .int .i64 p.version, .int .i64 p.mode, .int .i64 p.stratum, .int .i64 p.poll, .int .i64 p.delay, .int .i64 p.disp, .int .i64 p.ref, .int .i64 p.orig, .int .i64 p.recv, .int .i64 (p.xmit + 1)] 27)
          have g9 : Below w.heap.size w (W8.alloc (.cells #[.int .i64 p.leap, .int .i64 p.version, .int .i64 p.mode, .int .i64 p.stratum, .int .i64 p.poll, .int .i64 p.delay, .int .i64 p.disp, .int .i64 p.ref, .int .i64 p.orig, .int .i64 p.recv, .int .i64 (p.xmit + 1)] 27)) := g8.alloc (by have := g8.size; omega) _
          go_wp2_with fail
          refine (HRO.out _).mono ?_
          rintro e w10 ⟨rfl, hb10⟩
          have g10 := grow_next g9 hb10
          clear d0 d1 d2 d3 d4 d5 d6 d7 d8 d9 d10
          clear e0 e1 e2 e3 e4 e5 e6 e7 e8 e9 e10
          have D10 := blk_next hb10 D9
          have E10 := blk_next hb10 E9
          have O10 := blk_next hb10 O9
          clear D9 E9 O9
          obtain ⟨d0, d1, d2, d3, d4, d5, d6, d7, d8, d9, d10⟩ := packet_cells (q := p) D10
          obtain ⟨e0, e1, e2, e3, e4, e5, e6, e7, e8, e9, e10⟩ := packet_cells (q := ⟨0, p.version, 4, st, p.poll, 0, 0, 0, p.xmit, a, b⟩) E10
          dsimp only at e0 e1 e2 e3 e4 e5 e6 e7 e8 e9 e10
          go_wp2_with fail
          refine (HF1.out _).mono ?_
          rintro e w11 ⟨rfl, hb11⟩
          have g11 := grow_next g10 hb11
          clear d0 d1 d2 d3 d4 d5 d6 d7 d8 d9 d10
          clear e0 e1 e2 e3 e4 e5 e6 e7 e8 e9 e10
          have D11 := blk_next hb11 D10
          have E11 := blk_next hb11 E10
          have O11 := blk_next hb11 O10
          clear D10 E10 O10
          obtain ⟨o0, o1, o2, o3, o4, o5, o6, o7, o8, o9, o10⟩ := packet_cells (q := ⟨p.leap, p.version, p.mode, p.stratum, p.poll, p.delay, p.disp, p.ref, p.orig, p.recv, p.xmit + 1⟩) O11
          dsimp only at o0 o1 o2 o3 o4 o5 o6 o7 o8 o9 o10
          obtain ⟨e0, e1, e2, e3, e4, e5, e6, e7, e8, e9, e10⟩ := packet_cells (q := ⟨0, p.version, 4, st, p.poll, 0, 0, 0, p.xmit, a, b⟩) E11
          dsimp only at e0 e1 e2 e3 e4 e5 e6 e7 e8 e9 e10
          go_wp2_with fail
          refine (HF2.out _).mono ?_
          rintro e w12 ⟨rfl, hb12⟩
          have g12 := grow_next g11 hb12
          clear o0 o1 o2 o3 o4 o5 o6 o7 o8 o9 o10
          clear e0 e1 e2 e3 e4 e5 e6 e7 e8 e9 e10
          have D12 := blk_next hb12 D11
          have E12 := blk_next hb12 E11
          have O12 := blk_next hb12 O11
          clear D11 E11 O11
          obtain ⟨e0, e1, e2, e3, e4, e5, e6, e7, e8, e9, e10⟩ := packet_cells (q := ⟨0, p.version, 4, st, p.poll, 0, 0, 0, p.xmit, a, b⟩) E12
          dsimp only at e0 e1 e2 e3 e4 e5 e6 e7 e8 e9 e10
          obtain ⟨d0, d1, d2, d3, d4, d5, d6, d7, d8, d9, d10⟩ := packet_cells (q := p) D12
          go_wp2_with fail
          refine (HF3.out _).mono ?_
          rintro e w13 ⟨rfl, hb13⟩
          have g13 := grow_next g12 hb13
          clear e0 e1 e2 e3 e4 e5 e6 e7 e8 e9 e10
          clear d0 d1 d2 d3 d4 d5 d6 d7 d8 d9 d10
          have D13 := blk_next hb13 D12
          have E13 := blk_next hb13 E12
          have O13 := blk_next hb13 O12
          clear D12 E12 O12
          obtain ⟨d0, d1, d2, d3, d4, d5, d6, d7, d8, d9, d10⟩ := packet_cells (q := p) D13
          obtain ⟨e0, e1, e2, e3, e4, e5, e6, e7, e8, e9, e10⟩ := packet_cells (q := ⟨0, p.version, 4, st, p.poll, 0, 0, 0, p.xmit, a, b⟩) E13
          dsimp only at e0 e1 e2 e3 e4 e5 e6 e7 e8 e9 e10
          go_wp2_with fail
          go_returns
          exact ⟨rfl, g13⟩
    | true =>
      obtain ⟨hq, hqo⟩ := asked_lit hok
      have hHAI := fun w => asked_valI hq hok w
      dsimp only at hHAI
      have HAI := Lib.hid hHAI
      clear hHAI
      have hHAS := fun w => asked_val hq hok w
      dsimp only at hHAS
      have HAS := Lib.hid hHAS
      clear hHAS
      have hHQOK := fun w => ok_valI hqo w
      dsimp only at hHQOK
      have HQOK := Lib.hid hHQOK
      clear hHQOK
      clear hq hqo hok
      go_wp2_with fail
      refine (HAI.out _).mono ?_
      rintro e w2 ⟨rfl, hb2⟩
      have g2 := grow_next hb1 hb2
      have B2 := blk_new w2 (.cells #[.int .i64 0, .int .i64 4, .int .i64 3, .int .i64 0, .int .i64 poll, .int .i64 0, .int .i64 0, .int .i64 0, .int .i64 0, .int .i64 0, .int .i64 now] 27)
      have g2' : Below w.heap.size w (w2.alloc (.cells #[.int .i64 0, .int .i64 4, .int .i64 3, .int .i64 0, .int .i64 poll, .int .i64 0, .int .i64 0, .int .i64 0, .int .i64 0, .int .i64 0, .int .i64 now] 27)) := g2.alloc (by have := g2.size; omega) _
      go_wp2_with fail
      refine (HAS.out _).mono ?_
      rintro e w3 ⟨rfl, hb3⟩
      have g3 := grow_next g2' hb3
      have B3 := blk_alloc (blk_next hb3 B2) (.cells #[.int .i64 0, .int .i64 4, .int .i64 3, .int .i64 0, .int .i64 poll, .int .i64 0, .int .i64 0, .int .i64 0, .int .i64 0, .int .i64 0, .int .i64 now] 27)
      have C3 := blk_new w3 (.cells #[.int .i64 0, .int .i64 4, .int .i64 3, .int .i64 0, .int .i64 poll, .int .i64 0, .int .i64 0, .int .i64 0, .int .i64 0, .int .i64 0, .int .i64 now] 27)
      have g3' : Below w.heap.size w (w3.alloc (.cells #[.int .i64 0, .int .i64 4, .int .i64 3, .int .i64 0, .int .i64 poll, .int .i64 0, .int .i64 0, .int .i64 0, .int .i64 0, .int .i64 0, .int .i64 now] 27)) := g3.alloc (by have := g3.size; omega) _
      go_wp2_with fail
      refine (drawAnswered_c x n cap _ (hc.next g3') hbig).mono ?_
      rintro e w4 ⟨p, st, a, b, rfl, hb4⟩
      have g4 := grow_next g3' hb4
      have B4 := blk_alloc (blk_next hb4 B3) (.cells #[.int .i64 p.leap, .int .i64 p.version, .int .i64 p.mode, .int .i64 p.stratum, .int .i64 p.poll, .int .i64 p.delay, .int .i64 p.disp, .int .i64 p.ref, .int .i64 p.orig, .int .i64 p.recv, .int .i64 p.xmit] 27)
      have C4 := blk_alloc (blk_next hb4 C3) (.cells #[.int .i64 p.leap, .int .i64 p.version, .int .i64 p.mode, .int .i64 p.stratum, .int .i64 p.poll, .int .i64 p.delay, .int .i64 p.disp, .int .i64 p.ref, .int .i64 p.orig, .int .i64 p.recv, .int .i64 p.xmit] 27)
      have D4 := blk_new w4 (.cells #[.int .i64 p.leap, .int .i64 p.version, .int .i64 p.mode, .int .i64 p.stratum, .int .i64 p.poll, .int .i64 p.delay, .int .i64 p.disp, .int .i64 p.ref, .int .i64 p.orig, .int .i64 p.recv, .int .i64 p.xmit] 27)
      have g4' : Below w.heap.size w (w4.alloc (.cells #[.int .i64 p.leap, .int .i64 p.version, .int .i64 p.mode, .int .i64 p.stratum, .int .i64 p.poll, .int .i64 p.delay, .int .i64 p.disp, .int .i64 p.ref, .int .i64 p.orig, .int .i64 p.recv, .int .i64 p.xmit] 27)) := g4.alloc (by have := g4.size; omega) _
      clear hb2 hb3 g2 g2' g3 B2 B3 C3
      cases hak : ansOk p st a b with
      | false =>
        obtain ⟨r, hr⟩ : ∃ r, ansPk p st a b = r := ⟨_, rfl⟩
        have HRI := Lib.hid (ans_valI hr hak)
        have HRS := Lib.hid (ans_val hr hak)
        clear hr hak
        go_wp2_with fail
        refine (HRI.out _).mono ?_
        rintro e w5 ⟨rfl, hb5⟩
        have g5 := grow_next g4' hb5
        have B5 := blk_alloc (blk_next hb5 B4) (.cells #[.int .i64 r.leap, .int .i64 r.version, .int .i64 r.mode, .int .i64 r.stratum, .int .i64 r.poll, .int .i64 r.delay, .int .i64 r.disp, .int .i64 r.ref, .int .i64 r.orig, .int .i64 r.recv, .int .i64 r.xmit] 27)
        have C5 := blk_alloc (blk_next hb5 C4) (.cells #[.int .i64 r.leap, .int .i64 r.version, .int .i64 r.mode, .int .i64 r.stratum, .int .i64 r.poll, .int .i64 r.delay, .int .i64 r.disp, .int .i64 r.ref, .int .i64 r.orig, .int .i64 r.recv, .int .i64 r.xmit] 27)
        have D5 := blk_alloc (blk_next hb5 D4) (.cells #[.int .i64 r.leap, .int .i64 r.version, .int .i64 r.mode, .int .i64 r.stratum, .int .i64 r.poll, .int .i64 r.delay, .int .i64 r.disp, .int .i64 r.ref, .int .i64 r.orig, .int .i64 r.recv, .int .i64 r.xmit] 27)
        have E5 := blk_new w5 (.cells #[.int .i64 r.leap, .int .i64 r.version, .int .i64 r.mode, .int .i64 r.stratum, .int .i64 r.poll, .int .i64 r.delay, .int .i64 r.disp, .int .i64 r.ref, .int .i64 r.orig, .int .i64 r.recv, .int .i64 r.xmit] 27)
        have g5' : Below w.heap.size w (w5.alloc (.cells #[.int .i64 r.leap, .int .i64 r.version, .int .i64 r.mode, .int .i64 r.stratum, .int .i64 r.poll, .int .i64 r.delay, .int .i64 r.disp, .int .i64 r.ref, .int .i64 r.orig, .int .i64 r.recv, .int .i64 r.xmit] 27)) := g5.alloc (by have := g5.size; omega) _
        obtain ⟨px0, px1, px2, px3, px4, px5, px6, px7, px8, px9, px10⟩ := packet_cells (blk_next hb5 D4)
        have l5 := (Array.getElem?_eq_some_iff.1 (blk_next hb5 D4)).1
        go_wp2_with fail
        refine (HRS.out _).mono ?_
        rintro e w6 ⟨rfl, hb6⟩
        have g6 := grow_next g5' hb6
        have B6 := blk_alloc (blk_next hb6 B5) (.cells #[.int .i64 r.leap, .int .i64 r.version, .int .i64 r.mode, .int .i64 r.stratum, .int .i64 r.poll, .int .i64 r.delay, .int .i64 r.disp, .int .i64 r.ref, .int .i64 r.orig, .int .i64 r.recv, .int .i64 r.xmit] 27)
        have C6 := blk_alloc (blk_next hb6 C5) (.cells #[.int .i64 r.leap, .int .i64 r.version, .int .i64 r.mode, .int .i64 r.stratum, .int .i64 r.poll, .int .i64 r.delay, .int .i64 r.disp, .int .i64 r.ref, .int .i64 r.orig, .int .i64 r.recv, .int .i64 r.xmit] 27)
        have D6 := blk_alloc (blk_next hb6 D5) (.cells #[.int .i64 r.leap, .int .i64 r.version, .int .i64 r.mode, .int .i64 r.stratum, .int .i64 r.poll, .int .i64 r.delay, .int .i64 r.disp, .int .i64 r.ref, .int .i64 r.orig, .int .i64 r.recv, .int .i64 r.xmit] 27)
        have E6 := blk_alloc (blk_next hb6 E5) (.cells #[.int .i64 r.leap, .int .i64 r.version, .int .i64 r.mode, .int .i64 r.stratum, .int .i64 r.poll, .int .i64 r.delay, .int .i64 r.disp, .int .i64 r.ref, .int .i64 r.orig, .int .i64 r.recv, .int .i64 r.xmit] 27)
        have F6 := blk_new w6 (.cells #[.int .i64 r.leap, .int .i64 r.version, .int .i64 r.mode, .int .i64 r.stratum, .int .i64 r.poll, .int .i64 r.delay, .int .i64 r.disp, .int .i64 r.ref, .int .i64 r.orig, .int .i64 r.recv, .int .i64 r.xmit] 27)
        have g6' : Below w.heap.size w (w6.alloc (.cells #[.int .i64 r.leap, .int .i64 r.version, .int .i64 r.mode, .int .i64 r.stratum, .int .i64 r.poll, .int .i64 r.delay, .int .i64 r.disp, .int .i64 r.ref, .int .i64 r.orig, .int .i64 r.recv, .int .i64 r.xmit] 27)) := g6.alloc (by have := g6.size; omega) _
        clear px0 px1 px2 px3 px4 px5 px6 px7 px8 px9 px10
        go_wp2_with fail
        refine (drawFits_c x n cap _ (hc.next g6') hbig).mono ?_
        rintro e w7 ⟨x1, y1, rfl, hb7⟩
        have g7 := grow_next g6' hb7
        have B7 := blk_alloc (blk_alloc (blk_next hb7 B6) (.cells #[.int .i64 x1.leap, .int .i64 x1.version, .int .i64 x1.mode, .int .i64 x1.stratum, .int .i64 x1.poll, .int .i64 x1.delay, .int .i64 x1.disp, .int .i64 x1.ref, .int .i64 x1.orig, .int .i64 x1.recv, .int .i64 x1.xmit] 27)) (.cells #[.int .i64 y1.leap, .int .i64 y1.version, .int .i64 y1.mode, .int .i64 y1.stratum, .int .i64 y1.poll, .int .i64 y1.delay, .int .i64 y1.disp, .int .i64 y1.ref, .int .i64 y1.orig, .int .i64 y1.recv, .int .i64 y1.xmit] 27)
        have C7 := blk_alloc (blk_alloc (blk_next hb7 C6) (.cells #[.int .i64 x1.leap, .int .i64 x1.version, .int .i64 x1.mode, .int .i64 x1.stratum, .int .i64 x1.poll, .int .i64 x1.delay, .int .i64 x1.disp, .int .i64 x1.ref, .int .i64 x1.orig, .int .i64 x1.recv, .int .i64 x1.xmit] 27)) (.cells #[.int .i64 y1.leap, .int .i64 y1.version, .int .i64 y1.mode, .int .i64 y1.stratum, .int .i64 y1.poll, .int .i64 y1.delay, .int .i64 y1.disp, .int .i64 y1.ref, .int .i64 y1.orig, .int .i64 y1.recv, .int .i64 y1.xmit] 27)
        have D7 := blk_alloc (blk_alloc (blk_next hb7 D6) (.cells #[.int .i64 x1.leap, .int .i64 x1.version, .int .i64 x1.mode, .int .i64 x1.stratum, .int .i64 x1.poll, .int .i64 x1.delay, .int .i64 x1.disp, .int .i64 x1.ref, .int .i64 x1.orig, .int .i64 x1.recv, .int .i64 x1.xmit] 27)) (.cells #[.int .i64 y1.leap, .int .i64 y1.version, .int .i64 y1.mode, .int .i64 y1.stratum, .int .i64 y1.poll, .int .i64 y1.delay, .int .i64 y1.disp, .int .i64 y1.ref, .int .i64 y1.orig, .int .i64 y1.recv, .int .i64 y1.xmit] 27)
        have E7 := blk_alloc (blk_alloc (blk_next hb7 E6) (.cells #[.int .i64 x1.leap, .int .i64 x1.version, .int .i64 x1.mode, .int .i64 x1.stratum, .int .i64 x1.poll, .int .i64 x1.delay, .int .i64 x1.disp, .int .i64 x1.ref, .int .i64 x1.orig, .int .i64 x1.recv, .int .i64 x1.xmit] 27)) (.cells #[.int .i64 y1.leap, .int .i64 y1.version, .int .i64 y1.mode, .int .i64 y1.stratum, .int .i64 y1.poll, .int .i64 y1.delay, .int .i64 y1.disp, .int .i64 y1.ref, .int .i64 y1.orig, .int .i64 y1.recv, .int .i64 y1.xmit] 27)
        have F7 := blk_alloc (blk_alloc (blk_next hb7 F6) (.cells #[.int .i64 x1.leap, .int .i64 x1.version, .int .i64 x1.mode, .int .i64 x1.stratum, .int .i64 x1.poll, .int .i64 x1.delay, .int .i64 x1.disp, .int .i64 x1.ref, .int .i64 x1.orig, .int .i64 x1.recv, .int .i64 x1.xmit] 27)) (.cells #[.int .i64 y1.leap, .int .i64 y1.version, .int .i64 y1.mode, .int .i64 y1.stratum, .int .i64 y1.poll, .int .i64 y1.delay, .int .i64 y1.disp, .int .i64 y1.ref, .int .i64 y1.orig, .int .i64 y1.recv, .int .i64 y1.xmit] 27)
        have X7 := blk_alloc (blk_new w7 (.cells #[.int .i64 x1.leap, .int .i64 x1.version, .int .i64 x1.mode, .int .i64 x1.stratum, .int .i64 x1.poll, .int .i64 x1.delay, .int .i64 x1.disp, .int .i64 x1.ref, .int .i64 x1.orig, .int .i64 x1.recv, .int .i64 x1.xmit] 27)) (.cells #[.int .i64 y1.leap, .int .i64 y1.version, .int .i64 y1.mode, .int .i64 y1.stratum, .int .i64 y1.poll, .int .i64 y1.delay, .int .i64 y1.disp, .int .i64 y1.ref, .int .i64 y1.orig, .int .i64 y1.recv, .int .i64 y1.xmit] 27)
        have Y7 := blk_new (w7.alloc (.cells #[.int .i64 x1.leap, .int .i64 x1.version, .int .i64 x1.mode, .int .i64 x1.stratum, .int .i64 x1.poll, .int .i64 x1.delay, .int .i64 x1.disp, .int .i64 x1.ref, .int .i64 x1.orig, .int .i64 x1.recv, .int .i64 x1.xmit] 27)) (.cells #[.int .i64 y1.leap, .int .i64 y1.version, .int .i64 y1.mode, .int .i64 y1.stratum, .int .i64 y1.poll, .int .i64 y1.delay, .int .i64 y1.disp, .int .i64 y1.ref, .int .i64 y1.orig, .int .i64 y1.recv, .int .i64 y1.xmit] 27)
        simp only [World.size_alloc] at Y7
        have g7' : Below w.heap.size w ((w7.alloc (.cells #[.int .i64 x1.leap, .int .i64 x1.version, .int .i64 x1.mode, .int .i64 x1.stratum, .int .i64 x1.poll, .int .i64 x1.delay, .int .i64 x1.disp, .int .i64 x1.ref, .int .i64 x1.orig, .int .i64 x1.recv, .int .i64 x1.xmit] 27)).alloc (.cells #[.int .i64 y1.leap, .int .i64 y1.version, .int .i64 y1.mode, .int .i64 y1.stratum, .int .i64 y1.poll, .int .i64 y1.delay, .int .i64 y1.disp, .int .i64 y1.ref, .int .i64 y1.orig, .int .i64 y1.recv, .int .i64 y1.xmit] 27)) := (g7.alloc (by have := g7.size; omega) _).alloc (by have := g7.size; simp; omega) _
        obtain ⟨fxy, hf⟩ : ∃ k, fitsB x1 y1 = k := ⟨_, rfl⟩
        have HFI := Lib.hid (fits_valI hf)
        have HFS := Lib.hid (fits_val hf)
        clear hf hc hb1 hb4 hb5 hb6 hb7 g3' g4 g4' g5 g5' g6 g6' g7 B4 C4 D4 B5 C5 D5 E5 B6 C6 D6 E6 F6 l5
        all_goals
          go_wp2_with fail
          generalize hW7 : (w7.alloc (.cells #[.int .i64 x1.leap, .int .i64 x1.version, .int .i64 x1.mode, .int .i64 x1.stratum, .int .i64 x1.poll, .int .i64 x1.delay, .int .i64 x1.disp, .int .i64 x1.ref, .int .i64 x1.orig, .int .i64 x1.recv, .int .i64 x1.xmit] 27)).alloc (.cells #[.int .i64 y1.leap, .int .i64 y1.version, .int .i64 y1.mode, .int .i64 y1.stratum, .int .i64 y1.poll, .int .i64 y1.delay, .int .i64 y1.disp, .int .i64 y1.ref, .int .i64 y1.orig, .int .i64 y1.recv, .int .i64 y1.xmit] 27) = W7 at *
          clear hW7
          obtain ⟨bz0, bz1, bz2, bz3, bz4, bz5, bz6, bz7, bz8, bz9, bz10⟩ := packet_cells (q := ⟨0, 4, 3, 0, poll, 0, 0, 0, 0, 0, now⟩) B7
          dsimp only at bz0 bz1 bz2 bz3 bz4 bz5 bz6 bz7 bz8 bz9 bz10
          have kb0 := cell_regrown bz0
          have kb1 := cell_regrown bz1
          have kb2 := cell_regrown bz2
          have kb3 := cell_regrown bz3
          have kb4 := cell_regrown bz4
          have kb5 := cell_regrown bz5
          have kb6 := cell_regrown bz6
          have kb7 := cell_regrown bz7
          have kb8 := cell_regrown bz8
          have kb9 := cell_regrown bz9
          have kb10 := cell_regrown bz10
          clear bz0 bz1 bz2 bz3 bz4 bz5 bz6 bz7 bz8 bz9 bz10
          obtain ⟨cz0, cz1, cz2, cz3, cz4, cz5, cz6, cz7, cz8, cz9, cz10⟩ := packet_cells (q := ⟨0, 4, 3, 0, poll, 0, 0, 0, 0, 0, now⟩) C7
          dsimp only at cz0 cz1 cz2 cz3 cz4 cz5 cz6 cz7 cz8 cz9 cz10
          have kc0 := cell_regrown cz0
          have kc1 := cell_regrown cz1
          have kc2 := cell_regrown cz2
          have kc3 := cell_regrown cz3
          have kc4 := cell_regrown cz4
          have kc5 := cell_regrown cz5
          have kc6 := cell_regrown cz6
          have kc7 := cell_regrown cz7
          have kc8 := cell_regrown cz8
          have kc9 := cell_regrown cz9
          have kc10 := cell_regrown cz10
          clear cz0 cz1 cz2 cz3 cz4 cz5 cz6 cz7 cz8 cz9 cz10
          obtain ⟨ez0, ez1, ez2, ez3, ez4, ez5, ez6, ez7, ez8, ez9, ez10⟩ := packet_cells (q := r) E7
          have ke0 := cell_regrown ez0
          have ke1 := cell_regrown ez1
          have ke2 := cell_regrown ez2
          have ke3 := cell_regrown ez3
          have ke4 := cell_regrown ez4
          have ke5 := cell_regrown ez5
          have ke6 := cell_regrown ez6
          have ke7 := cell_regrown ez7
          have ke8 := cell_regrown ez8
          have ke9 := cell_regrown ez9
          have ke10 := cell_regrown ez10
          clear ez0 ez1 ez2 ez3 ez4 ez5 ez6 ez7 ez8 ez9 ez10
          obtain ⟨fz0, fz1, fz2, fz3, fz4, fz5, fz6, fz7, fz8, fz9, fz10⟩ := packet_cells (q := r) F7
          have kf0 := cell_regrown fz0
          have kf1 := cell_regrown fz1
          have kf2 := cell_regrown fz2
          have kf3 := cell_regrown fz3
          have kf4 := cell_regrown fz4
          have kf5 := cell_regrown fz5
          have kf6 := cell_regrown fz6
          have kf7 := cell_regrown fz7
          have kf8 := cell_regrown fz8
          have kf9 := cell_regrown fz9
          have kf10 := cell_regrown fz10
          clear fz0 fz1 fz2 fz3 fz4 fz5 fz6 fz7 fz8 fz9 fz10
          obtain ⟨xz0, xz1, xz2, xz3, xz4, xz5, xz6, xz7, xz8, xz9, xz10⟩ := packet_cells (q := x1) X7
          have kx0 := cell_regrown xz0
          have kx1 := cell_regrown xz1
          have kx2 := cell_regrown xz2
          have kx3 := cell_regrown xz3
          have kx4 := cell_regrown xz4
          have kx5 := cell_regrown xz5
          have kx6 := cell_regrown xz6
          have kx7 := cell_regrown xz7
          have kx8 := cell_regrown xz8
          have kx9 := cell_regrown xz9
          have kx10 := cell_regrown xz10
          clear xz0 xz1 xz2 xz3 xz4 xz5 xz6 xz7 xz8 xz9 xz10
          obtain ⟨yz0, yz1, yz2, yz3, yz4, yz5, yz6, yz7, yz8, yz9, yz10⟩ := packet_cells (q := y1) Y7
          have ky0 := cell_regrown yz0
          have ky1 := cell_regrown yz1
          have ky2 := cell_regrown yz2
          have ky3 := cell_regrown yz3
          have ky4 := cell_regrown yz4
          have ky5 := cell_regrown yz5
          have ky6 := cell_regrown yz6
          have ky7 := cell_regrown yz7
          have ky8 := cell_regrown yz8
          have ky9 := cell_regrown yz9
          have ky10 := cell_regrown yz10
          clear yz0 yz1 yz2 yz3 yz4 yz5 yz6 yz7 yz8 yz9 yz10
          have CI := Lib.hid (fun d os => Calls.regrown_of (HFI.out (grow (redrawn W7 d) os)))
          have CS := Lib.hid (fun d os => Calls.regrown_of (HFS.out (grow (redrawn W7 d) os)))
          have CO := Lib.hid (fun d os => Calls.regrown_of (HQOK.out (grow (redrawn W7 d) os)))
          refine wp_region_quiet_below (by kernel_rfl) (by kernel_rfl) ?_
          repeat ((with_reducible refine wpQuiet_step (fun K hK => ?_)); go_simp; first | ((with_reducible refine hK _ ?_); clear hK K) | (rw [if_neg (by intro h; exact nomatch h)]; (with_reducible refine hK _ ?_); clear hK K) | (apply Exists.intro; (with_reducible refine ⟨fun _ => ?_, hK _ ?_⟩); (first | with_reducible exact CI.out _ _ | with_reducible exact CS.out _ _ | with_reducible exact CO.out _ _); clear hK K))
          with_reducible refine wpQuiet_nil ?_
          intro _ hw'
          obtain ⟨⟨dq, osq⟩, hw''⟩ := hw'
          subst hw''
          have g8 := grow_next g7' (below_regrown W7 dq osq)
          have D8 := blk_next (below_regrown W7 dq osq) D7
          have E8 := blk_next (below_regrown W7 dq osq) E7
          clear kb0 kb1 kb2 kb3 kb4 kb5 kb6 kb7 kb8 kb9 kb10 kc0 kc1 kc2 kc3 kc4 kc5 kc6 kc7 kc8 kc9 kc10 ke0 ke1 ke2 ke3 ke4 ke5 ke6 ke7 ke8 ke9 ke10 kf0 kf1 kf2 kf3 kf4 kf5 kf6 kf7 kf8 kf9 kf10 kx0 kx1 kx2 kx3 kx4 kx5 kx6 kx7 kx8 kx9 kx10 ky0 ky1 ky2 ky3 ky4 ky5 ky6 ky7 ky8 ky9 ky10
          clear B7 C7 D7 E7 F7 X7 Y7 CI CS CO
          go_wp2_with fail
          go_returns
          exact ⟨rfl, g8⟩
      | true =>
        obtain ⟨hr, hro, hf1, hf2, hf3, hx0, hx1⟩ := ans_numbers hak
        have hHRI := fun w => ans_valI hr hak w
        dsimp only at hHRI
        have HRI := Lib.hid hHRI
        clear hHRI
        have hHRS := fun w => ans_val hr hak w
        dsimp only at hHRS
        have HRS := Lib.hid hHRS
        clear hHRS
        have hHRO := fun w => ok_valI hro w
        dsimp only at hHRO
        have HRO := Lib.hid hHRO
        clear hHRO
        have hHF1 := fun w => fits_valI hf1 w
        dsimp only at hHF1
        have HF1 := Lib.hid hHF1
        clear hHF1
        have hHF2 := fun w => fits_valI hf2 w
        dsimp only at hHF2
        have HF2 := Lib.hid hHF2
        clear hHF2
        have hHF3 := fun w => fits_valI hf3 w
        dsimp only at hHF3
        have HF3 := Lib.hid hHF3
        clear hHF3
        clear hr hak hro hf1 hf2 hf3
        go_wp2_with fail
        refine (HRI.out _).mono ?_
        rintro e w5 ⟨rfl, hb5⟩
        have g5 := grow_next g4' hb5
        have B5 := blk_alloc (blk_next hb5 B4) (.cells #[.int .i64 0, .int .i64 p.version, .int .i64 4, .int .i64 st, .int .i64 p.poll, .int .i64 0, .int .i64 0, .int .i64 0, .int .i64 p.xmit, .int .i64 a, .int .i64 b] 27)
        have C5 := blk_alloc (blk_next hb5 C4) (.cells #[.int .i64 0, .int .i64 p.version, .int .i64 4, .int .i64 st, .int .i64 p.poll, .int .i64 0, .int .i64 0, .int .i64 0, .int .i64 p.xmit, .int .i64 a, .int .i64 b] 27)
        have D5 := blk_alloc (blk_next hb5 D4) (.cells #[.int .i64 0, .int .i64 p.version, .int .i64 4, .int .i64 st, .int .i64 p.poll, .int .i64 0, .int .i64 0, .int .i64 0, .int .i64 p.xmit, .int .i64 a, .int .i64 b] 27)
        have E5 := blk_new w5 (.cells #[.int .i64 0, .int .i64 p.version, .int .i64 4, .int .i64 st, .int .i64 p.poll, .int .i64 0, .int .i64 0, .int .i64 0, .int .i64 p.xmit, .int .i64 a, .int .i64 b] 27)
        have g5' : Below w.heap.size w (w5.alloc (.cells #[.int .i64 0, .int .i64 p.version, .int .i64 4, .int .i64 st, .int .i64 p.poll, .int .i64 0, .int .i64 0, .int .i64 0, .int .i64 p.xmit, .int .i64 a, .int .i64 b] 27)) := g5.alloc (by have := g5.size; omega) _
        obtain ⟨px0, px1, px2, px3, px4, px5, px6, px7, px8, px9, px10⟩ := packet_cells (blk_next hb5 D4)
        have l5 := (Array.getElem?_eq_some_iff.1 (blk_next hb5 D4)).1
        go_wp2_with fail
        refine (HRS.out _).mono ?_
        rintro e w6 ⟨rfl, hb6⟩
        have g6 := grow_next g5' hb6
        have B6 := blk_alloc (blk_next hb6 B5) (.cells #[.int .i64 0, .int .i64 p.version, .int .i64 4, .int .i64 st, .int .i64 p.poll, .int .i64 0, .int .i64 0, .int .i64 0, .int .i64 p.xmit, .int .i64 a, .int .i64 b] 27)
        have C6 := blk_alloc (blk_next hb6 C5) (.cells #[.int .i64 0, .int .i64 p.version, .int .i64 4, .int .i64 st, .int .i64 p.poll, .int .i64 0, .int .i64 0, .int .i64 0, .int .i64 p.xmit, .int .i64 a, .int .i64 b] 27)
        have D6 := blk_alloc (blk_next hb6 D5) (.cells #[.int .i64 0, .int .i64 p.version, .int .i64 4, .int .i64 st, .int .i64 p.poll, .int .i64 0, .int .i64 0, .int .i64 0, .int .i64 p.xmit, .int .i64 a, .int .i64 b] 27)
        have E6 := blk_alloc (blk_next hb6 E5) (.cells #[.int .i64 0, .int .i64 p.version, .int .i64 4, .int .i64 st, .int .i64 p.poll, .int .i64 0, .int .i64 0, .int .i64 0, .int .i64 p.xmit, .int .i64 a, .int .i64 b] 27)
        have F6 := blk_new w6 (.cells #[.int .i64 0, .int .i64 p.version, .int .i64 4, .int .i64 st, .int .i64 p.poll, .int .i64 0, .int .i64 0, .int .i64 0, .int .i64 p.xmit, .int .i64 a, .int .i64 b] 27)
        have g6' : Below w.heap.size w (w6.alloc (.cells #[.int .i64 0, .int .i64 p.version, .int .i64 4, .int .i64 st, .int .i64 p.poll, .int .i64 0, .int .i64 0, .int .i64 0, .int .i64 p.xmit, .int .i64 a, .int .i64 b] 27)) := g6.alloc (by have := g6.size; omega) _
        clear px0 px1 px2 px3 px4 px5 px6 px7 px8 px9 px10
        go_wp2_with fail
        refine (drawFits_c x n cap _ (hc.next g6') hbig).mono ?_
        rintro e w7 ⟨x1, y1, rfl, hb7⟩
        have g7 := grow_next g6' hb7
        have B7 := blk_alloc (blk_alloc (blk_next hb7 B6) (.cells #[.int .i64 x1.leap, .int .i64 x1.version, .int .i64 x1.mode, .int .i64 x1.stratum, .int .i64 x1.poll, .int .i64 x1.delay, .int .i64 x1.disp, .int .i64 x1.ref, .int .i64 x1.orig, .int .i64 x1.recv, .int .i64 x1.xmit] 27)) (.cells #[.int .i64 y1.leap, .int .i64 y1.version, .int .i64 y1.mode, .int .i64 y1.stratum, .int .i64 y1.poll, .int .i64 y1.delay, .int .i64 y1.disp, .int .i64 y1.ref, .int .i64 y1.orig, .int .i64 y1.recv, .int .i64 y1.xmit] 27)
        have C7 := blk_alloc (blk_alloc (blk_next hb7 C6) (.cells #[.int .i64 x1.leap, .int .i64 x1.version, .int .i64 x1.mode, .int .i64 x1.stratum, .int .i64 x1.poll, .int .i64 x1.delay, .int .i64 x1.disp, .int .i64 x1.ref, .int .i64 x1.orig, .int .i64 x1.recv, .int .i64 x1.xmit] 27)) (.cells #[.int .i64 y1.leap, .int .i64 y1.version, .int .i64 y1.mode, .int .i64 y1.stratum, .int .i64 y1.poll, .int .i64 y1.delay, .int .i64 y1.disp, .int .i64 y1.ref, .int .i64 y1.orig, .int .i64 y1.recv, .int .i64 y1.xmit] 27)
        have D7 := blk_alloc (blk_alloc (blk_next hb7 D6) (.cells #[.int .i64 x1.leap, .int .i64 x1.version, .int .i64 x1.mode, .int .i64 x1.stratum, .int .i64 x1.poll, .int .i64 x1.delay, .int .i64 x1.disp, .int .i64 x1.ref, .int .i64 x1.orig, .int .i64 x1.recv, .int .i64 x1.xmit] 27)) (.cells #[.int .i64 y1.leap, .int .i64 y1.version, .int .i64 y1.mode, .int .i64 y1.stratum, .int .i64 y1.poll, .int .i64 y1.delay, .int .i64 y1.disp, .int .i64 y1.ref, .int .i64 y1.orig, .int .i64 y1.recv, .int .i64 y1.xmit] 27)
        have E7 := blk_alloc (blk_alloc (blk_next hb7 E6) (.cells #[.int .i64 x1.leap, .int .i64 x1.version, .int .i64 x1.mode, .int .i64 x1.stratum, .int .i64 x1.poll, .int .i64 x1.delay, .int .i64 x1.disp, .int .i64 x1.ref, .int .i64 x1.orig, .int .i64 x1.recv, .int .i64 x1.xmit] 27)) (.cells #[.int .i64 y1.leap, .int .i64 y1.version, .int .i64 y1.mode, .int .i64 y1.stratum, .int .i64 y1.poll, .int .i64 y1.delay, .int .i64 y1.disp, .int .i64 y1.ref, .int .i64 y1.orig, .int .i64 y1.recv, .int .i64 y1.xmit] 27)
        have F7 := blk_alloc (blk_alloc (blk_next hb7 F6) (.cells #[.int .i64 x1.leap, .int .i64 x1.version, .int .i64 x1.mode, .int .i64 x1.stratum, .int .i64 x1.poll, .int .i64 x1.delay, .int .i64 x1.disp, .int .i64 x1.ref, .int .i64 x1.orig, .int .i64 x1.recv, .int .i64 x1.xmit] 27)) (.cells #[.int .i64 y1.leap, .int .i64 y1.version, .int .i64 y1.mode, .int .i64 y1.stratum, .int .i64 y1.poll, .int .i64 y1.delay, .int .i64 y1.disp, .int .i64 y1.ref, .int .i64 y1.orig, .int .i64 y1.recv, .int .i64 y1.xmit] 27)
        have X7 := blk_alloc (blk_new w7 (.cells #[.int .i64 x1.leap, .int .i64 x1.version, .int .i64 x1.mode, .int .i64 x1.stratum, .int .i64 x1.poll, .int .i64 x1.delay, .int .i64 x1.disp, .int .i64 x1.ref, .int .i64 x1.orig, .int .i64 x1.recv, .int .i64 x1.xmit] 27)) (.cells #[.int .i64 y1.leap, .int .i64 y1.version, .int .i64 y1.mode, .int .i64 y1.stratum, .int .i64 y1.poll, .int .i64 y1.delay, .int .i64 y1.disp, .int .i64 y1.ref, .int .i64 y1.orig, .int .i64 y1.recv, .int .i64 y1.xmit] 27)
        have Y7 := blk_new (w7.alloc (.cells #[.int .i64 x1.leap, .int .i64 x1.version, .int .i64 x1.mode, .int .i64 x1.stratum, .int .i64 x1.poll, .int .i64 x1.delay, .int .i64 x1.disp, .int .i64 x1.ref, .int .i64 x1.orig, .int .i64 x1.recv, .int .i64 x1.xmit] 27)) (.cells #[.int .i64 y1.leap, .int .i64 y1.version, .int .i64 y1.mode, .int .i64 y1.stratum, .int .i64 y1.poll, .int .i64 y1.delay, .int .i64 y1.disp, .int .i64 y1.ref, .int .i64 y1.orig, .int .i64 y1.recv, .int .i64 y1.xmit] 27)
        simp only [World.size_alloc] at Y7
        have g7' : Below w.heap.size w ((w7.alloc (.cells #[.int .i64 x1.leap, .int .i64 x1.version, .int .i64 x1.mode, .int .i64 x1.stratum, .int .i64 x1.poll, .int .i64 x1.delay, .int .i64 x1.disp, .int .i64 x1.ref, .int .i64 x1.orig, .int .i64 x1.recv, .int .i64 x1.xmit] 27)).alloc (.cells #[.int .i64 y1.leap, .int .i64 y1.version, .int .i64 y1.mode, .int .i64 y1.stratum, .int .i64 y1.poll, .int .i64 y1.delay, .int .i64 y1.disp, .int .i64 y1.ref, .int .i64 y1.orig, .int .i64 y1.recv, .int .i64 y1.xmit] 27)) := (g7.alloc (by have := g7.size; omega) _).alloc (by have := g7.size; simp; omega) _
        obtain ⟨fxy, hf⟩ : ∃ k, fitsB x1 y1 = k := ⟨_, rfl⟩
        have HFI := Lib.hid (fits_valI hf)
        have HFS := Lib.hid (fits_val hf)
        clear hf hc hb1 hb4 hb5 hb6 hb7 g3' g4 g4' g5 g5' g6 g6' g7 B4 C4 D4 B5 C5 D5 E5 B6 C6 D6 E6 F6 l5
        all_goals
          go_wp2_with fail
          generalize hW7 : (w7.alloc (.cells #[.int .i64 x1.leap, .int .i64 x1.version, .int .i64 x1.mode, .int .i64 x1.stratum, .int .i64 x1.poll, .int .i64 x1.delay, .int .i64 x1.disp, .int .i64 x1.ref, .int .i64 x1.orig, .int .i64 x1.recv, .int .i64 x1.xmit] 27)).alloc (.cells #[.int .i64 y1.leap, .int .i64 y1.version, .int .i64 y1.mode, .int .i64 y1.stratum, .int .i64 y1.poll, .int .i64 y1.delay, .int .i64 y1.disp, .int .i64 y1.ref, .int .i64 y1.orig, .int .i64 y1.recv, .int .i64 y1.xmit] 27) = W7 at *
          clear hW7
          obtain ⟨bz0, bz1, bz2, bz3, bz4, bz5, bz6, bz7, bz8, bz9, bz10⟩ := packet_cells (q := ⟨0, 4, 3, 0, poll, 0, 0, 0, 0, 0, now⟩) B7
          dsimp only at bz0 bz1 bz2 bz3 bz4 bz5 bz6 bz7 bz8 bz9 bz10
          have kb0 := cell_regrown bz0
          have kb1 := cell_regrown bz1
          have kb2 := cell_regrown bz2
          have kb3 := cell_regrown bz3
          have kb4 := cell_regrown bz4
          have kb5 := cell_regrown bz5
          have kb6 := cell_regrown bz6
          have kb7 := cell_regrown bz7
          have kb8 := cell_regrown bz8
          have kb9 := cell_regrown bz9
          have kb10 := cell_regrown bz10
          clear bz0 bz1 bz2 bz3 bz4 bz5 bz6 bz7 bz8 bz9 bz10
          obtain ⟨cz0, cz1, cz2, cz3, cz4, cz5, cz6, cz7, cz8, cz9, cz10⟩ := packet_cells (q := ⟨0, 4, 3, 0, poll, 0, 0, 0, 0, 0, now⟩) C7
          dsimp only at cz0 cz1 cz2 cz3 cz4 cz5 cz6 cz7 cz8 cz9 cz10
          have kc0 := cell_regrown cz0
          have kc1 := cell_regrown cz1
          have kc2 := cell_regrown cz2
          have kc3 := cell_regrown cz3
          have kc4 := cell_regrown cz4
          have kc5 := cell_regrown cz5
          have kc6 := cell_regrown cz6
          have kc7 := cell_regrown cz7
          have kc8 := cell_regrown cz8
          have kc9 := cell_regrown cz9
          have kc10 := cell_regrown cz10
          clear cz0 cz1 cz2 cz3 cz4 cz5 cz6 cz7 cz8 cz9 cz10
          obtain ⟨ez0, ez1, ez2, ez3, ez4, ez5, ez6, ez7, ez8, ez9, ez10⟩ := packet_cells (q := ⟨0, p.version, 4, st, p.poll, 0, 0, 0, p.xmit, a, b⟩) E7
          dsimp only at ez0 ez1 ez2 ez3 ez4 ez5 ez6 ez7 ez8 ez9 ez10
          have ke0 := cell_regrown ez0
          have ke1 := cell_regrown ez1
          have ke2 := cell_regrown ez2
          have ke3 := cell_regrown ez3
          have ke4 := cell_regrown ez4
          have ke5 := cell_regrown ez5
          have ke6 := cell_regrown ez6
          have ke7 := cell_regrown ez7
          have ke8 := cell_regrown ez8
          have ke9 := cell_regrown ez9
          have ke10 := cell_regrown ez10
          clear ez0 ez1 ez2 ez3 ez4 ez5 ez6 ez7 ez8 ez9 ez10
          obtain ⟨fz0, fz1, fz2, fz3, fz4, fz5, fz6, fz7, fz8, fz9, fz10⟩ := packet_cells (q := ⟨0, p.version, 4, st, p.poll, 0, 0, 0, p.xmit, a, b⟩) F7
          dsimp only at fz0 fz1 fz2 fz3 fz4 fz5 fz6 fz7 fz8 fz9 fz10
          have kf0 := cell_regrown fz0
          have kf1 := cell_regrown fz1
          have kf2 := cell_regrown fz2
          have kf3 := cell_regrown fz3
          have kf4 := cell_regrown fz4
          have kf5 := cell_regrown fz5
          have kf6 := cell_regrown fz6
          have kf7 := cell_regrown fz7
          have kf8 := cell_regrown fz8
          have kf9 := cell_regrown fz9
          have kf10 := cell_regrown fz10
          clear fz0 fz1 fz2 fz3 fz4 fz5 fz6 fz7 fz8 fz9 fz10
          obtain ⟨xz0, xz1, xz2, xz3, xz4, xz5, xz6, xz7, xz8, xz9, xz10⟩ := packet_cells (q := x1) X7
          have kx0 := cell_regrown xz0
          have kx1 := cell_regrown xz1
          have kx2 := cell_regrown xz2
          have kx3 := cell_regrown xz3
          have kx4 := cell_regrown xz4
          have kx5 := cell_regrown xz5
          have kx6 := cell_regrown xz6
          have kx7 := cell_regrown xz7
          have kx8 := cell_regrown xz8
          have kx9 := cell_regrown xz9
          have kx10 := cell_regrown xz10
          clear xz0 xz1 xz2 xz3 xz4 xz5 xz6 xz7 xz8 xz9 xz10
          obtain ⟨yz0, yz1, yz2, yz3, yz4, yz5, yz6, yz7, yz8, yz9, yz10⟩ := packet_cells (q := y1) Y7
          have ky0 := cell_regrown yz0
          have ky1 := cell_regrown yz1
          have ky2 := cell_regrown yz2
          have ky3 := cell_regrown yz3
          have ky4 := cell_regrown yz4
          have ky5 := cell_regrown yz5
          have ky6 := cell_regrown yz6
          have ky7 := cell_regrown yz7
          have ky8 := cell_regrown yz8
          have ky9 := cell_regrown yz9
          have ky10 := cell_regrown yz10
          clear yz0 yz1 yz2 yz3 yz4 yz5 yz6 yz7 yz8 yz9 yz10
          have CI := Lib.hid (fun d os => Calls.regrown_of (HFI.out (grow (redrawn W7 d) os)))
          have CS := Lib.hid (fun d os => Calls.regrown_of (HFS.out (grow (redrawn W7 d) os)))
          have CO := Lib.hid (fun d os => Calls.regrown_of (HQOK.out (grow (redrawn W7 d) os)))
          refine wp_region_quiet_below (by kernel_rfl) (by kernel_rfl) ?_
          repeat ((with_reducible refine wpQuiet_step (fun K hK => ?_)); go_simp; first | ((with_reducible refine hK _ ?_); clear hK K) | (rw [if_neg (by intro h; exact nomatch h)]; (with_reducible refine hK _ ?_); clear hK K) | (apply Exists.intro; (with_reducible refine ⟨fun _ => ?_, hK _ ?_⟩); (first | with_reducible exact CI.out _ _ | with_reducible exact CS.out _ _ | with_reducible exact CO.out _ _); clear hK K))
          with_reducible refine wpQuiet_nil ?_
          intro _ hw'
          obtain ⟨⟨dq, osq⟩, hw''⟩ := hw'
          subst hw''
          have g8 := grow_next g7' (below_regrown W7 dq osq)
          have D8 := blk_next (below_regrown W7 dq osq) D7
          have E8 := blk_next (below_regrown W7 dq osq) E7
          clear kb0 kb1 kb2 kb3 kb4 kb5 kb6 kb7 kb8 kb9 kb10 kc0 kc1 kc2 kc3 kc4 kc5 kc6 kc7 kc8 kc9 kc10 ke0 ke1 ke2 ke3 ke4 ke5 ke6 ke7 ke8 ke9 ke10 kf0 kf1 kf2 kf3 kf4 kf5 kf6 kf7 kf8 kf9 kf10 kx0 kx1 kx2 kx3 kx4 kx5 kx6 kx7 kx8 kx9 kx10 ky0 ky1 ky2 ky3 ky4 ky5 ky6 ky7 ky8 ky9 ky10
          clear B7 C7 D7 E7 F7 X7 Y7 CI CS CO
          generalize hW8 : grow (redrawn W7 dq) osq = W8 at *
          clear hW8 g7'
          obtain ⟨d0, d1, d2, d3, d4, d5, d6, d7, d8, d9, d10⟩ := packet_cells (q := p) D8
          obtain ⟨e0, e1, e2, e3, e4, e5, e6, e7, e8, e9, e10⟩ := packet_cells (q := ⟨0, p.version, 4, st, p.poll, 0, 0, 0, p.xmit, a, b⟩) E8
          dsimp only at e0 e1 e2 e3 e4 e5 e6 e7 e8 e9 e10
          have ld := (Array.getElem?_eq_some_iff.1 D8).1
          have le := (Array.getElem?_eq_some_iff.1 E8).1
          have O9 := blk_new W8 (.cells #[.int .i64 p.leap, .int .i64 p.version, .int .i64 p.mode, .int .i64 p.stratum, .int .i64 p.poll, .int .i64 p.delay, .int .i64 p.disp, .int .i64 p.ref, .int .i64 p.orig, .int .i64 p.recv, .int .i64 (p.xmit + 1)] 27)
          have D9 := blk_alloc D8 (.cells #[.int .i64 p.leap, .int .i64 p.version, .int .i64 p.mode, .int .i64 p.stratum, .int .i64 p.poll, .int .i64 p.delay, .int .i64 p.disp, .int .i64 p.ref, .int .i64 p.orig, .int .i64 p.recv, .int .i64 (p.xmit + 1)] 27)
          have E9 := blk_alloc E8 (.cells #[.int .i64 p.leap, .int .i64 p.version, .int .i64 p.mode, .int .i64 p.stratum, .int .i64 p.poll, .int .i64 p.delay, .int .i64 p.disp, .int .i64 p.ref, .int .i64 p.orig, .int .i64 p.recv, .int .i64 (p.xmit + 1)] 27)
          have g9 : Below w.heap.size w (W8.alloc (.cells #[.int .i64 p.leap, .int .i64 p.version, .int .i64 p.mode, .int .i64 p.stratum, .int .i64 p.poll, .int .i64 p.delay, .int .i64 p.disp, .int .i64 p.ref, .int .i64 p.orig, .int .i64 p.recv, .int .i64 (p.xmit + 1)] 27)) := g8.alloc (by have := g8.size; omega) _
          go_wp2_with fail
          refine (HRO.out _).mono ?_
          rintro e w10 ⟨rfl, hb10⟩
          have g10 := grow_next g9 hb10
          clear d0 d1 d2 d3 d4 d5 d6 d7 d8 d9 d10
          clear e0 e1 e2 e3 e4 e5 e6 e7 e8 e9 e10
          have D10 := blk_next hb10 D9
          have E10 := blk_next hb10 E9
          have O10 := blk_next hb10 O9
          clear D9 E9 O9
          obtain ⟨d0, d1, d2, d3, d4, d5, d6, d7, d8, d9, d10⟩ := packet_cells (q := p) D10
          obtain ⟨e0, e1, e2, e3, e4, e5, e6, e7, e8, e9, e10⟩ := packet_cells (q := ⟨0, p.version, 4, st, p.poll, 0, 0, 0, p.xmit, a, b⟩) E10
          dsimp only at e0 e1 e2 e3 e4 e5 e6 e7 e8 e9 e10
          go_wp2_with fail
          refine (HF1.out _).mono ?_
          rintro e w11 ⟨rfl, hb11⟩
          have g11 := grow_next g10 hb11
          clear d0 d1 d2 d3 d4 d5 d6 d7 d8 d9 d10
          clear e0 e1 e2 e3 e4 e5 e6 e7 e8 e9 e10
          have D11 := blk_next hb11 D10
          have E11 := blk_next hb11 E10
          have O11 := blk_next hb11 O10
          clear D10 E10 O10
          obtain ⟨o0, o1, o2, o3, o4, o5, o6, o7, o8, o9, o10⟩ := packet_cells (q := ⟨p.leap, p.version, p.mode, p.stratum, p.poll, p.delay, p.disp, p.ref, p.orig, p.recv, p.xmit + 1⟩) O11
          dsimp only at o0 o1 o2 o3 o4 o5 o6 o7 o8 o9 o10
          obtain ⟨e0, e1, e2, e3, e4, e5, e6, e7, e8, e9, e10⟩ := packet_cells (q := ⟨0, p.version, 4, st, p.poll, 0, 0, 0, p.xmit, a, b⟩) E11
          dsimp only at e0 e1 e2 e3 e4 e5 e6 e7 e8 e9 e10
          go_wp2_with fail
          refine (HF2.out _).mono ?_
          rintro e w12 ⟨rfl, hb12⟩
          have g12 := grow_next g11 hb12
          clear o0 o1 o2 o3 o4 o5 o6 o7 o8 o9 o10
          clear e0 e1 e2 e3 e4 e5 e6 e7 e8 e9 e10
          have D12 := blk_next hb12 D11
          have E12 := blk_next hb12 E11
          have O12 := blk_next hb12 O11
          clear D11 E11 O11
          obtain ⟨e0, e1, e2, e3, e4, e5, e6, e7, e8, e9, e10⟩ := packet_cells (q := ⟨0, p.version, 4, st, p.poll, 0, 0, 0, p.xmit, a, b⟩) E12
          dsimp only at e0 e1 e2 e3 e4 e5 e6 e7 e8 e9 e10
          obtain ⟨d0, d1, d2, d3, d4, d5, d6, d7, d8, d9, d10⟩ := packet_cells (q := p) D12
          go_wp2_with fail
          refine (HF3.out _).mono ?_
          rintro e w13 ⟨rfl, hb13⟩
          have g13 := grow_next g12 hb13
          clear e0 e1 e2 e3 e4 e5 e6 e7 e8 e9 e10
          clear d0 d1 d2 d3 d4 d5 d6 d7 d8 d9 d10
          have D13 := blk_next hb13 D12
          have E13 := blk_next hb13 E12
          have O13 := blk_next hb13 O12
          clear D12 E12 O12
          obtain ⟨d0, d1, d2, d3, d4, d5, d6, d7, d8, d9, d10⟩ := packet_cells (q := p) D13
          obtain ⟨e0, e1, e2, e3, e4, e5, e6, e7, e8, e9, e10⟩ := packet_cells (q := ⟨0, p.version, 4, st, p.poll, 0, 0, 0, p.xmit, a, b⟩) E13
          dsimp only at e0 e1 e2 e3 e4 e5 e6 e7 e8 e9 e10
          go_wp2_with fail
          go_returns
          exact ⟨rfl, g13⟩
  · go_enter Try.func3, Try.ntmps3
    go_wp2_with (go_at_call 7; go_in)
    go_returns
    exact ⟨rfl, Below.refl _ _⟩

set_option maxRecDepth 100000 in
theorem answers_lifted (os : Os) (started : os.Started) (H : Type) (enc : TypeId × Value → H) :
    ReturnsInHanded {} Try.checked os 3 .any (Rows.fnAnswersSpec.pre6 enc Try.prog Try.f3 Rows.fnAnswersRow.domain false) (Rows.fnAnswersSpec.post enc Try.prog Try.f3 false true false false) := by
  refine lifted_of_walk (C := Try.checked) own started (by as_aux_lemma => kernel_rfl) Try.func3
    (ChangeSpec.witness6 (enc := enc) (C := Try.checked) false ⟨#[], #[.slice none 0 0], []⟩ 8 (by as_aux_lemma => kernel_rfl) (by as_aux_lemma => kernel_rfl) (by as_aux_lemma => kernel_rfl) (by as_aux_lemma => kernel_rfl) (by as_aux_lemma => kernel_rfl))
    laidOut rfl (by as_aux_lemma => kernel_rfl) (by as_aux_lemma => kernel_rfl) boolType
    (fun ds h => by
      match ds, h with
      | [_], _ => rfl)
    ?_
  intro W base args ds q hval hA
  rw [Try.params3] at hA hval
  obtain ⟨v0, vs0, d0, ds0, p0, q0, hargs, rfl, rfl, h0, r0⟩ := trodAll_cons hA
  obtain ⟨rfl, rfl, rfl⟩ := trodAll_nil r0
  obtain rfl : args = #[v0] := by cases args; simp_all
  obtain ⟨a0, len0, cap0, z0, rfl, w0⟩ := open_bytes Try.underlying22 Try.underlying5 (by as_aux_lemma => kernel_rfl) (hval 0 22 v0 rfl rfl) h0
  exact answers_walk W a0 len0 cap0 z0 w0

theorem answers_facts : joinedFacts Try.pinned.checked.prog 3 Try.f3 Rows.fnAnswersSpec Rows.fnAnswersRow = true :=
  facts_of (P := Try.prog) (by as_aux_lemma => kernel_rfl) laidOut mapsRow (by as_aux_lemma => kernel_rfl) (by as_aux_lemma => kernel_rfl) rfl noStops rfl noKnobs (by as_aux_lemma => kernel_rfl) (by as_aux_lemma => kernel_rfl) (by as_aux_lemma => kernel_rfl) (by as_aux_lemma => kernel_rfl) (by as_aux_lemma => kernel_rfl) (by as_aux_lemma => kernel_rfl) (by as_aux_lemma => kernel_rfl) (by as_aux_lemma => kernel_rfl) (by as_aux_lemma => kernel_rfl) rfl (by as_aux_lemma => kernel_rfl) (by as_aux_lemma => kernel_rfl) (by as_aux_lemma => kernel_rfl) keysPlain rfl heard enters finals isMake rfl rfl rfl (by as_aux_lemma => kernel_rfl) (by as_aux_lemma => kernel_rfl)

/-- The given statement. -/
theorem answers_holds : Rows.FnAnswersSaid :=
  OpenClaim.holds_of_wide 3 Try.f3 rfl rfl rfl rfl rfl rfl rfl ⟨rfl, rfl, rfl, rfl, rfl⟩ rfl rfl rfl rfl rfl (by as_aux_lemma => kernel_rfl) Try.func3 answers_facts
    (of_decide_eq_true (by as_aux_lemma => kernel_rfl)) (by unfold Func.isWrapper; first | (rw [if_pos (by decide +kernel)]; kernel_rfl) | (rw [if_neg (by decide +kernel)]; exact ⟨rfl, rfl⟩))
    (fun os started H enc _ => answers_lifted os started H enc)
#print axioms answers_holds
end Go.Proofs.Ytdogfcmedlgnaaa
