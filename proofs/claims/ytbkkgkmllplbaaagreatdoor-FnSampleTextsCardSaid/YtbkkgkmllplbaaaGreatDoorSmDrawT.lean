/- A drawn sample's text, perhaps hurt. -/
import Derived.Test.YtbkkgkmllplbaaaGreatDoorDraw3
import Derived.Test.YtbkkgkmllplbaaaGreatDoorHurt
import Derived.Test.YtbkkgkmllplbaaaGreatDoorSmText
namespace Go.Proofs.YtbkkgkmllplbaaaGreatDoor
open Go.ChangeShapes Go.WideShapes Go.ChangeAt Go.RowKit
set_option linter.unusedVariables false
set_option linter.unusedSimpArgs false

theorem Sm.text_size (c : Sm) : c.text.size ≤ 109 := by
  unfold Sm.text
  cases h : c.ok with
  | false => exact Nat.zero_le _
  | true =>
    obtain ⟨⟨a0, a1⟩, ⟨b0, b1⟩, ⟨c0, c1⟩, ⟨d0, d1⟩⟩ := Sm.ok_iff.1 h
    have z1 := decB_le c.off (by omega) (by omega)
    have z2 := decB_le c.delay (by omega) (by omega)
    have z3 := decB_le c.disp (by omega) (by omega)
    have z4 := decB_le c.at_ (by omega) (by omega)
    show c.words.size ≤ 109
    unfold Sm.words
    have zb : (⟨#[32]⟩ : ByteArray).size = 1 := rfl
    simp only [ByteArray.size_append, zb]
    omega
def AnyTextS (m : Nat) (w : World) : Ending → World → Prop := fun e w' => ∃ s : ByteArray, s.size ≤ m ∧ e = .returned (.string s) ∧ Below w.heap.size w w'
set_option maxHeartbeats 1000000 in
theorem drawReadSample_c (x : Option Addr) (n cap : Nat) (w : World) (hc : Code w.heap.size w (.slice x n cap) n) (hn : n ≤ 1048576) : Calls Tryz.prog 11 #[.slice x n cap] w (AnyTextS 200 w) := by
  go_enter Tryz.func11, Tryz.ntmps11
  go_wp2_with fail
  refine (open_c x n cap _).mono ?_
  rintro e w1 ⟨rfl, rfl⟩
  go_wp2_with fail
  have hr1 := rd_open hc hn
  have g1 := below_new w (.cells #[.slice x n cap, .int .i64 0] 59)
  refine (drawSampleOk_c x n cap _ (hc.next g1) hn).mono ?_
  rintro e w2 ⟨c, rfl, hg2⟩
  have hr2 : Rd w2 w.heap.size := hr1.kept (row := none) ⟨hg2.os, hg2.tape, hg2.output, hg2.size, fun k hk _ => hg2.block k hk⟩ (by simp)
  have hb2 := grow_next g1 hg2
  have HT := Lib.hid (sampleText_spec c w2)
  have hsz := c.text_size
  obtain ⟨s, es⟩ : ∃ s, c.text = s := ⟨_, rfl⟩
  rw [es] at hsz HT
  clear es
  go_wp2_with fail
  refine HT.out.mono ?_
  rintro e w3 ⟨rfl, hb3⟩
  have hb23 := grow_next hb2 hb3
  have hr3 : Rd w3 w.heap.size := hr2.kept (row := none) ⟨hb3.os, hb3.tape, hb3.output, hb3.size, fun k hk _ => hb3.block k hk⟩ (by simp)
  clear HT hr1 hr2 hg2 hb2 g1
  go_wp2_with fail
  refine (once_c _ 2 (by omega) (by omega) _ hr3).mono ?_
  rintro e w4 ⟨b, rfl, hr4, hg4⟩
  have hb4 := grown_below hb23 hg4 (Nat.le_refl _)
  cases b with
  | true =>
    go_wp2_with fail
    go_returns
    exact ⟨s, by omega, rfl, hb4⟩
  | false =>
    go_wp2_with fail
    refine (hurt_c _ s (by omega) _ hr4).mono ?_
    rintro e w5 ⟨u, hu, rfl, hr5, hg5⟩
    go_wp2_with fail
    go_returns
    exact ⟨u, by omega, rfl, grown_below hb4 hg5 (Nat.le_refl _)⟩
end Go.Proofs.YtbkkgkmllplbaaaGreatDoor
