/- What is drawn for ShiftedAll: any number and some answers, in a row of the call's own. -/
import Derived.Test.YtiaiihagoopkfaaRegDraw
import Derived.Test.YtiaiihagoopkfaaRegAll
import Derived.Laws.AppendOwn
import Derived.Laws.OwnMore
namespace Go.Proofs.Ytiaiihagoopkfaa
open Go.ChangeShapes Go.WideShapes Go.ChangeAt Go.RowKit Go.Deep
set_option linter.unusedVariables false
set_option linter.unusedSimpArgs false

/-- A row of answers of the call's own. -/
def BlRow (base : Nat) (W : World) (v : Value) (l : List Bool) : Prop := W.ownsRow base 4 1 v l.length (l.map Value.bool)
theorem BlRow.form {base : Nat} {W : World} {v : Value} {l : List Bool} (h : BlRow base W v l) : ∃ x cap, v = .slice x l.length cap ∧ l.length ≤ cap ∧ cap ≤ maxLen ∧ ((x = none ∧ cap = 0 ∧ l = []) ∨ ∃ g, x = some ⟨g, 0, none⟩ ∧ base ≤ g ∧ g < W.heap.size) ∧ Bls W.heap.size W x l := by
  have h0 := h
  rcases h.2 with ⟨e, e0⟩ | ⟨g, c, cur, e, hb, hg, hn, hc, _, htk⟩
  · have := List.eq_nil_of_length_eq_zero e0
    subst this
    exact ⟨none, 0, e, Nat.le_refl _, Nat.zero_le _, .inl ⟨rfl, rfl, rfl⟩, .inl rfl⟩
  · subst e
    refine ⟨_, c, rfl, hn, hc, .inr ⟨g, rfl, hb, (Array.getElem?_eq_some_iff.1 hg).1⟩, .inr ⟨g, 0, rfl, (Array.getElem?_eq_some_iff.1 hg).1, fun i v hi => ?_⟩⟩
    have hil := (List.getElem?_eq_some_iff.1 hi).1
    rw [Nat.zero_add, World.ownsRow.cellAt h0 _ (by simpa using hil), List.getElem?_map, hi]
    rfl
theorem ownsRow_low {base base' : Nat} {W : World} {e : TypeId} {k : Nat} {v : Value} {n : Nat} {xs : List Value} (h : W.ownsRow base e k v n xs) (hb : base' ≤ base) : W.ownsRow base' e k v n xs := by
  refine ⟨h.1, ?_⟩
  rcases h.2 with e | ⟨g, c, cur, e, hg, r⟩
  · exact .inl e
  · exact .inr ⟨g, c, cur, e, Nat.le_trans hb hg, r⟩
theorem grown_ownB {w b c : World} {a : Nat} {row : Option Nat} (h : w.grownBy b (some a)) (hg : b.grownBy c row) (hrow : ∀ k, row = some k → w.heap.size ≤ k) : w.grownBy c (some a) :=
  ⟨hg.os.trans h.os, hg.tape.trans h.tape, hg.output.trans h.output, Nat.le_trans h.size hg.size, fun i hi hne => (hg.block i (Nat.lt_of_lt_of_le hi h.size) (fun e => by have := hrow i e.symm; omega)).trans (h.block i hi hne)⟩

def AnyBls (w : World) : Ending → World → Prop := fun e w' => ∃ (v : Int) (x : Option Addr) (cap : Nat) (l : List Bool), e = .returned (.tuple #[.int .i64 v, .slice x l.length cap]) ∧ l.length ≤ 11 ∧ BlRow w.heap.size w' (.slice x l.length cap) l ∧ Below w.heap.size w w'

set_option maxHeartbeats 1000000 in
theorem drawShiftedAll_c (x : Option Addr) (n cap : Nat) (w : World) (hc : Code w.heap.size w (.slice x n cap) n) (hn : n ≤ 1048576) : Calls Try.prog 29 #[.slice x n cap] w (AnyBls w) := by
  obtain ⟨i0, hi, hz0, hz1, hz2⟩ := info_partsT infoBl
  have HI0 := Lib.hid hi
  have HZ0 := Lib.hid hz0
  have HZ1 := Lib.hid hz1
  have HZ2 := Lib.hid hz2
  clear hi hz0 hz1 hz2
  go_enter Try.func29, Try.ntmps29
  go_wp2_with fail
  refine (open_c x n cap _).mono ?_
  rintro e w1 ⟨rfl, rfl⟩
  have hro := rd_open hc hn
  have hbo : Below w.heap.size w (w.alloc (.cells #[.slice x n cap, .int .i64 0] 65)) := (Below.refl _ _).alloc (Nat.le_refl _) _
  have hco := hc.next hbo
  have hlt1 : w.heap.size < (w.alloc (.cells #[.slice x n cap, .int .i64 0] 65)).heap.size := by simp
  obtain ⟨b1, eb⟩ : ∃ b1, b1 = w.heap.size := ⟨_, rfl⟩
  rw [← eb] at hro ⊢
  obtain ⟨W1, hW1⟩ : ∃ W1, w.alloc (.cells #[.slice x n cap, .int .i64 0] 65) = W1 := ⟨_, rfl⟩
  rw [hW1] at hro hbo hco hlt1 ⊢
  clear hW1
  have EB := Lib.hid eb
  clear eb
  go_wp2_with fail
  refine (drawShifted_c x n cap _ hco hn).mono ?_
  rintro e w2 ⟨v, b, v0, v1, rfl, hb2⟩
  have hr2 : Rd w2 b1 := hro.kept (row := none) ⟨hb2.os, hb2.tape, hb2.output, hb2.size, fun k hk _ => hb2.block k hk⟩ (by simp)
  have hbb2 := grow_next hbo hb2
  have hlt2 : w.heap.size < w2.heap.size := Nat.lt_of_lt_of_le hlt1 hb2.size
  have hrow0 := World.ownsRow_made (base := w2.heap.size) (e := 4) (size := 1) w2 #[] 0 (Nat.le_refl _) (by simp [maxLen]) rfl
  have hg0 := World.grownBy_alloc w2 (.cells #[] 4) (some b1)
  have hr0 := hr2.kept (World.grownBy_alloc w2 (.cells #[] 4) none) (by simp)
  clear hb2 hr2 hro hbo hco hlt1
  go_wp2_with fail
  refine (below_c b1 12 11 (by omega) (by omega) (by omega) _ hr0).mono ?_
  rintro e w3 ⟨j', j0, j1, rfl, hr3, hg3⟩
  have hrow3 := hrow0.kept hg3 (.inr (by simp [Value.ownBlock]; have := EB.out; omega))
  have hg03 := grown_trans hg0 hg3
  clear hrow0 hg3 hg0 hr0
  obtain ⟨j, rfl⟩ := Int.eq_ofNat_of_zero_le j0
  go_wp2_with fail
  go_loopw [7, 8] (fun o i wr => ∃ (k : Nat) (l : List Bool), k ≤ j ∧ i = .int .i64 k ∧ l.length + k = j ∧ wr.ownsRow w2.heap.size 4 1 o l.length (l.map Value.bool) ∧ Rd wr b1 ∧ w2.grownBy wr (some b1)) (fun _ i _ => (intOf i).toNat)
  case atStart => exact ⟨j, [], Nat.le_refl _, rfl, by simp, hrow3, hr3, hg03⟩
  case round =>
    obtain ⟨k, l, hk, rfl, hlk, hrow, hr, hg⟩ := hrel
    by_cases hk0 : 0 < k
    · have hk1 : (0 : Int) < (k : Int) := by omega
      go_wp2_with fail
      refine (once_c b1 2 (by omega) (by omega) _ hr).mono ?_
      rintro e w4 ⟨c, rfl, hr4, hg4⟩
      have hrow4 := hrow.kept hg4 (.inr (fun e => by have := (hrow.lt b1 e).1; have := EB.out; omega))
      have hg04 := grown_trans hg hg4
      have hsz : w2.heap.size ≤ w4.heap.size := hg04.size
      clear hrow hr hg hg4
      go_wp2_with (at_builtin; refine wpList_append_own _ rfl _ _ 28 rfl w2.heap.size 4 i0 (.bool false) 1 1 Try.underlying28 HI0.out HZ0.out HZ1.out HZ2.out rfl (by decide) _ _ _ rfl (hrow4.alloc _) ⟨w4.heap.size, 0, none⟩ 1 1 [.bool c] rfl rfl (cell_one_new w4 _ _) (by simp [Value.oneCell']) (by unfold maxLen; omega) (by omega) (by simp; omega) ?_; intro v' w5 hown' hgrow _)
      have hgrow' : (w4.alloc (.cells #[.bool c] 4)).grownBy w5 u7.ownBlock := hgrow
      clear hgrow
      go_roundw
      case rel =>
        exact ⟨k - 1, l ++ [c], by omega, by rw [show ((k - 1 : Nat) : Int) = (k : Int) - 1 from by omega], by simp; omega, by simpa using hown',
          (hr4.kept (World.grownBy_alloc w4 _ none) (by simp)).kept hgrow' (fun g hg => by have := (hrow4.lt g hg).1; have := EB.out; omega),
          grown_ownB (grown_trans hg04 (World.grownBy_alloc w4 _ _)) hgrow' (fun g hg => (hrow4.lt g hg).1)⟩
      case measure => simp [intOf]; omega
    · have hk1 : ¬ (0 : Int) < (k : Int) := by omega
      obtain ⟨x, cap, rfl⟩ := ownsRow_formT hrow
      have hgB := grown_below hbb2 hg (by have := EB.out; omega)
      go_wp2_with fail
      go_returns
      exact ⟨v, x, cap, l, rfl, by omega, ownsRow_low hrow (by omega), hgB⟩
end Go.Proofs.Ytiaiihagoopkfaa
