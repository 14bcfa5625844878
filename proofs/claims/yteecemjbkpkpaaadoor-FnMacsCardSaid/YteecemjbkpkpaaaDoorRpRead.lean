/- The program's reader of a packet: what it takes, and where it gives up. -/
import Derived.Test.YteecemjbkpkpaaaDoorMgb
import Derived.WalkLawsBesides
namespace Go.Proofs.YteecemjbkpkpaaaDoor
open Go.ChangeShapes Go.WideShapes Go.ChangeAt Go.RowKit
set_option linter.unusedVariables false
set_option linter.unusedSimpArgs false

/-- What the reader gives up with. -/
def noPacketB : ByteArray := ⟨#[116, 104, 101, 115, 101, 32, 97, 114, 101, 32, 116, 104, 101, 32, 98, 121, 116, 101, 115, 32, 111, 102, 32, 110, 111, 32, 112, 97, 99, 107, 101, 116]⟩
def gaveUp : List PanicEntry := [{ v := .iface 9 (.string noPacketB), recovered := false }]
/-- The reader at this block has this left. -/
def Rp (w : World) (a : Nat) (t : ByteArray) : Prop := w.heap[a]? = some (.cells #[.string t] 74)
theorem rp_cell {w : World} {a : Nat} {t : ByteArray} (h : Rp w a t) : w.cell? ⟨a, 0, none⟩ = some (.string t) ∧ w.frozen? ⟨a, 0, none⟩ = false := by
  unfold Rp at h
  simp [World.cell?, World.frozen?, h]
theorem rp_set {w : World} {a : Nat} {t : ByteArray} (h : Rp w a t) (u : ByteArray) : Rp (w.setCell ⟨a, 0, none⟩ (.string u)) a u := by
  unfold Rp at h ⊢
  simp [World.setCell, Array.getElem?_modify, h]
theorem grownP_set (w : World) (a : Nat) (v : Value) : w.grownBy (w.setCell ⟨a, 0, none⟩ v) (some a) :=
  ⟨rfl, rfl, rfl, by simp [World.setCell], fun j hj hne => by
    have : a ≠ j := fun e => hne (by rw [e])
    simp [World.setCell, Array.getElem?_modify, this]⟩
theorem grownP_trans {a b c : World} {row : Option Nat} (h : a.grownBy b row) (k : b.grownBy c row) : a.grownBy c row :=
  ⟨k.os.trans h.os, k.tape.trans h.tape, k.output.trans h.output, Nat.le_trans h.size k.size, fun j hj hne => (k.block j (Nat.lt_of_lt_of_le hj h.size) hne).trans (h.block j hj hne)⟩
theorem grownP_below {w b : World} {row : Option Nat} (h : Below w.heap.size w b) : w.grownBy b row := ⟨h.os, h.tape, h.output, h.size, fun i hi _ => h.block i hi⟩
theorem Rp.next {w w' : World} {a : Nat} {t : ByteArray} (h : Rp w a t) (hb : Below w.heap.size w w') : Rp w' a t := by
  unfold Rp at h ⊢
  exact (hb.block a (Array.getElem?_eq_some_iff.1 h).1).trans h

set_option maxHeartbeats 1000000 in
theorem take_ok (a : Nat) (t : ByteArray) (c : Nat) (hc : c ≤ t.size) (ht : t.size ≤ 1048576) (w : World) (h : Rp w a t) :
    Calls Tryd.prog 68 #[.pointer (some ⟨a, 0, none⟩), .int .i64 c] w fun e w' => e = .returned (.string (t.extract 0 c)) ∧ Rp w' a (t.extract c t.size) ∧ w.grownBy w' (some a) := by
  obtain ⟨c0, f0⟩ := rp_cell h
  have hs := rp_set h (t.extract c t.size)
  have hd : decide ((t.size : Int) < (c : Int)) = false := decide_eq_false (by omega)
  go_enter Tryd.func68, Tryd.ntmps68
  go_wp2_with fail
  go_returns
  exact ⟨rfl, hs, grownP_set _ _ _⟩
theorem take_no (a : Nat) (t : ByteArray) (c : Nat) (hc : t.size < c) (hc2 : c ≤ 1000) (w : World) (h : Rp w a t) :
    Calls Tryd.prog 68 #[.pointer (some ⟨a, 0, none⟩), .int .i64 c] w fun e w' => e = .panicked gaveUp ∧ w = w' := by
  obtain ⟨c0, f0⟩ := rp_cell h
  have hd : decide ((t.size : Int) < (c : Int)) = true := decide_eq_true (by omega)
  go_enter Tryd.func68, Tryd.ntmps68
  go_wp2_with fail
  exact ⟨rfl, rfl, rfl⟩
set_option maxHeartbeats 1000000 in
theorem number_ok (a : Nat) (t : ByteArray) (c : Nat) (hc : c ≤ t.size) (hc4 : c ≤ 4) (ht : t.size ≤ 1048576) (w : World) (h : Rp w a t) :
    Calls Tryd.prog 62 #[.pointer (some ⟨a, 0, none⟩), .int .i64 c] w fun e w' => e = .returned (.int .i64 (getB (t.extract 0 c))) ∧ Rp w' a (t.extract c t.size) ∧ w.grownBy w' (some a) := by
  have HG := Lib.hid (get_impl (t.extract 0 c) (by rw [ByteArray.size_extract]; omega))
  go_enter Tryd.func62, Tryd.ntmps62
  go_wp2_with fail
  refine (take_ok a t c hc ht _ h).mono ?_
  rintro e w1 ⟨rfl, h1, g1⟩
  go_wp2_with fail
  refine (HG.out _).mono ?_
  rintro e w2 ⟨rfl, rfl⟩
  go_wp2_with fail
  go_returns
  exact ⟨rfl, h1, g1⟩
theorem number_no (a : Nat) (t : ByteArray) (c : Nat) (hc : t.size < c) (hc2 : c ≤ 1000) (w : World) (h : Rp w a t) :
    Calls Tryd.prog 62 #[.pointer (some ⟨a, 0, none⟩), .int .i64 c] w fun e w' => e = .panicked gaveUp ∧ w = w' := by
  go_enter Tryd.func62, Tryd.ntmps62
  go_wp2_with fail
  refine (take_no a t c hc hc2 _ h).mono ?_
  rintro e w1 ⟨rfl, rfl⟩
  exact ⟨rfl, rfl, rfl⟩
set_option maxHeartbeats 1000000 in
theorem expect_ok (a : Nat) (t : ByteArray) (c : Nat) (n : Int) (hc : c ≤ t.size) (hc4 : c ≤ 4) (ht : t.size ≤ 1048576) (hn : getB (t.extract 0 c) = n) (w : World) (h : Rp w a t) :
    Calls Tryd.prog 63 #[.pointer (some ⟨a, 0, none⟩), .int .i64 n, .int .i64 c] w fun e w' => e = .returned (.tuple #[]) ∧ Rp w' a (t.extract c t.size) ∧ w.grownBy w' (some a) := by
  have HN := Lib.hid (number_ok a t c hc hc4 ht w h)
  rw [hn] at HN
  have hd : (n != n) = false := by simp
  clear hn
  go_enter Tryd.func63, Tryd.ntmps63
  go_wp2_with fail
  refine HN.out.mono ?_
  rintro e w1 ⟨rfl, h1, g1⟩
  go_wp2_with fail
  first | go_end0 | refine bodyPost_ret (results_none rfl _ _ _) rfl ?_
  exact ⟨rfl, h1, g1⟩
set_option maxHeartbeats 1000000 in
theorem expect_no (a : Nat) (t : ByteArray) (c : Nat) (n : Int) (hc4 : c ≤ 4) (ht : t.size ≤ 1048576) (hn : t.size < c ∨ getB (t.extract 0 c) ≠ n) (w : World) (h : Rp w a t) :
    Calls Tryd.prog 63 #[.pointer (some ⟨a, 0, none⟩), .int .i64 n, .int .i64 c] w fun e w' => e = .panicked gaveUp ∧ w.grownBy w' (some a) := by
  by_cases hc : c ≤ t.size
  · have HN := Lib.hid (number_ok a t c hc hc4 ht w h)
    have hd : (getB (t.extract 0 c) != n) = true := by
      rcases hn with h | h
      · omega
      · simp [h]
    obtain ⟨m, hm⟩ : ∃ m, getB (t.extract 0 c) = m := ⟨_, rfl⟩
    rw [hm] at HN hd
    clear hn hm
    go_enter Tryd.func63, Tryd.ntmps63
    go_wp2_with fail
    refine HN.out.mono ?_
    rintro e w1 ⟨rfl, h1, g1⟩
    go_wp2_with fail
    exact ⟨rfl, rfl, g1⟩
  · go_enter Tryd.func63, Tryd.ntmps63
    go_wp2_with fail
    refine (number_no a t c (by omega) (by omega) _ h).mono ?_
    rintro e w1 ⟨rfl, rfl⟩
    exact ⟨rfl, rfl, World.grownBy.refl _ _⟩
set_option maxHeartbeats 1000000 in
theorem time_ok (a : Nat) (t : ByteArray) (hc : 8 ≤ t.size) (ht : t.size ≤ 1048576) (hn : stampOk (t.extract 0 8) = true) (w : World) (h : Rp w a t) :
    Calls Tryd.prog 64 #[.pointer (some ⟨a, 0, none⟩)] w fun e w' => e = .returned (.int .i64 (stampT (t.extract 0 8))) ∧ Rp w' a (t.extract 8 t.size) ∧ w.grownBy w' (some a) := by
  have HS := Lib.hid (readStamp_impl (t.extract 0 8))
  rw [hn] at HS
  obtain ⟨m, hm⟩ : ∃ m, stampT (t.extract 0 8) = m := ⟨_, rfl⟩
  rw [hm] at HS ⊢
  clear hn hm
  go_enter Tryd.func64, Tryd.ntmps64
  go_wp2_with fail
  refine (take_ok a t 8 hc ht _ h).mono ?_
  rintro e w1 ⟨rfl, h1, g1⟩
  go_wp2_with fail
  refine (HS.out _).mono ?_
  rintro e w2 ⟨rfl, hb2⟩
  have h2 := h1.next hb2
  go_wp2_with fail
  go_returns
  exact ⟨rfl, h2, grownP_trans g1 (grownP_below hb2)⟩
set_option maxHeartbeats 1000000 in
theorem time_no (a : Nat) (t : ByteArray) (ht : t.size ≤ 1048576) (hn : t.size < 8 ∨ stampOk (t.extract 0 8) = false) (w : World) (h : Rp w a t) :
    Calls Tryd.prog 64 #[.pointer (some ⟨a, 0, none⟩)] w fun e w' => e = .panicked gaveUp ∧ w.grownBy w' (some a) := by
  by_cases hc : 8 ≤ t.size
  · have hn' : stampOk (t.extract 0 8) = false := hn.resolve_left (by omega)
    have HS := Lib.hid (readStamp_impl (t.extract 0 8))
    rw [hn'] at HS
    obtain ⟨m, hm⟩ : ∃ m, stampT (t.extract 0 8) = m := ⟨_, rfl⟩
    rw [hm] at HS
    clear hn hn' hm
    go_enter Tryd.func64, Tryd.ntmps64
    go_wp2_with fail
    refine (take_ok a t 8 hc ht _ h).mono ?_
    rintro e w1 ⟨rfl, h1, g1⟩
    go_wp2_with fail
    refine (HS.out _).mono ?_
    rintro e w2 ⟨rfl, hb2⟩
    go_wp2_with fail
    exact ⟨rfl, rfl, grownP_trans g1 (grownP_below hb2)⟩
  · go_enter Tryd.func64, Tryd.ntmps64
    go_wp2_with fail
    refine (take_no a t 8 (by omega) (by omega) _ h).mono ?_
    rintro e w1 ⟨rfl, rfl⟩
    exact ⟨rfl, rfl, World.grownBy.refl _ _⟩
theorem end_ok (a : Nat) (t : ByteArray) (hz : t.size = 0) (w : World) (h : Rp w a t) :
    Calls Tryd.prog 50 #[.pointer (some ⟨a, 0, none⟩)] w fun e w' => e = .returned (.tuple #[]) ∧ w = w' := by
  obtain ⟨c0, f0⟩ := rp_cell h
  have hl : t.toList.isEmpty = true := by
    rw [ByteArray.toList_eq, List.isEmpty_iff, ← List.length_eq_zero_iff]
    simpa using hz
  go_enter Tryd.func50, Tryd.ntmps50
  go_wp2_with fail
  first | go_end0 | refine bodyPost_ret (results_none rfl _ _ _) rfl ?_
  exact ⟨rfl, rfl⟩
theorem end_no (a : Nat) (t : ByteArray) (hz : t.size ≠ 0) (w : World) (h : Rp w a t) :
    Calls Tryd.prog 50 #[.pointer (some ⟨a, 0, none⟩)] w fun e w' => e = .panicked gaveUp ∧ w = w' := by
  obtain ⟨c0, f0⟩ := rp_cell h
  have hl : t.toList.isEmpty = false := by
    rw [ByteArray.toList_eq]
    cases ht : t.data.toList with
    | nil => exact absurd (by have := congrArg List.length ht; simpa using this) hz
    | cons _ _ => rfl
  go_enter Tryd.func50, Tryd.ntmps50
  go_wp2_with fail
  exact ⟨rfl, rfl, rfl⟩
end Go.Proofs.YteecemjbkpkpaaaDoor
