/- Rows of texts of the call's own: held against each other, marked, looked at again. -/
import Derived.Test.YtgmjdalfbebgbaaPut4
import Derived.Test.YtgmjdalfbebgbaaKeep
import Derived.Laws.OwnMore
import Derived.Deep.QuietTactic
import Derived.BigQuiet
import Derived.Deep.RegionWith
import Derived.Lib.Hide
import Derived.IntWalk
namespace Go.Proofs.Ytgmjdalfbebgbaa
open Go.ChangeShapes Go.WideShapes Go.ChangeAt Go.RowKit
set_option linter.unusedVariables false
set_option linter.unusedSimpArgs false

def StrRow (base : Nat) (W : World) (x : Option Addr) (cap : Nat) (l : List ByteArray) : Prop := W.ownsRow base 9 1 (.slice x l.length cap) l.length (l.map Value.string)
section
variable {base : Nat} {W W' : World} {x : Option Addr} {cap : Nat} {l : List ByteArray}
theorem StrRow.at_ {k : Nat} {z : ByteArray} (h : StrRow base W x cap l) (hk : l[k]? = some z) : ∃ g, x = some ⟨g, 0, none⟩ ∧ base ≤ g ∧ g < W.heap.size ∧ W.cell? ⟨g, k, none⟩ = some (.string z) ∧ W.frozen? ⟨g, k, none⟩ = false := by
  have hkl := (List.getElem?_eq_some_iff.1 hk).1
  have h0 := h
  rcases h.2 with ⟨e, e0⟩ | ⟨g, c, cur, e, hb, hg, _, _, _, htk⟩
  · omega
  · simp only [Value.slice.injEq] at e
    obtain ⟨rfl, _, rfl⟩ := e
    refine ⟨g, rfl, hb, (Array.getElem?_eq_some_iff.1 hg).1, ?_, World.ownsRow.frozenAt h0 _⟩
    rw [World.ownsRow.cellAt h0 _ (by omega), List.getElem?_map, hk]
    rfl
theorem StrRow.keep {row : Option Nat} (h : StrRow base W x cap l) (hg : W.grownBy W' row) (hne : ∀ g, x = some ⟨g, 0, none⟩ → some g ≠ row) : StrRow base W' x cap l := by
  refine ⟨h.1, ?_⟩
  rcases h.2 with e | ⟨g, c, cur, e, hb', hgg, r⟩
  · exact .inl e
  · refine .inr ⟨g, c, cur, e, hb', (hg.block g (Array.getElem?_eq_some_iff.1 hgg).1 (hne g ?_)).trans hgg, r⟩
    simp only [Value.slice.injEq] at e
    exact e.1
theorem StrRow.next (h : StrRow base W x cap l) (hb : Below W.heap.size W W') : StrRow base W' x cap l :=
  h.keep (row := none) ⟨hb.os, hb.tape, hb.output, hb.size, fun k hk _ => hb.block k hk⟩ (fun _ _ => by simp)
theorem StrRow.lt (h : StrRow base W x cap l) : ∀ g, x = some ⟨g, 0, none⟩ → g < W.heap.size := fun g e => by
  subst e
  exact (World.ownsRow.lt h g rfl).2
theorem StrRow.ge (h : StrRow base W x cap l) : ∀ g, x = some ⟨g, 0, none⟩ → base ≤ g := fun g e => by
  subst e
  exact (World.ownsRow.lt h g rfl).1
theorem StrRow.put {g k : Nat} (h : StrRow base W (some ⟨g, 0, none⟩) cap l) (hk : k < l.length) (z : ByteArray) : StrRow base (W.setCell ⟨g, k, none⟩ (.string z)) (some ⟨g, 0, none⟩) cap (l.set k z) := by
  unfold StrRow at h ⊢
  have := (World.ownsRow.stored h k (.string z)).1
  simpa using this
end
theorem getS {l : List ByteArray} {k : Nat} (h : k < l.length) : ∃ z, l[k]? = some z := ⟨_, List.getElem?_eq_getElem h⟩
theorem str_row {base : Nat} {w : World} {v : Value} {c : List ByteArray} (h : w.ownsRow base 9 1 v c.length (c.map Value.string)) : ∃ x cap, v = .slice x c.length cap ∧ StrRow base w x cap c := by
  rcases id h with ⟨_, ⟨rfl, h0⟩ | ⟨g, cap, cur, rfl, _⟩⟩
  · refine ⟨none, 0, ?_, ?_⟩
    · rw [h0]
    · unfold StrRow; rw [h0] at h ⊢; exact h
  · exact ⟨_, cap, rfl, h⟩

/-- The digits of a number, ahead of what stands. -/
def dgs (k : Nat) (out : ByteArray) : ByteArray := if h : k = 0 then out else dgs (k / 10) (strOfNums [48 + (k : Int) % 10] ++ out)
termination_by k
decreasing_by omega
/-- The text of a mark. -/
def markT (k : Nat) : ByteArray := ⟨#[109]⟩ ++ dgs k ⟨#[]⟩
theorem dgs_size : ∀ (k : Nat) (out : ByteArray), (dgs k out).size ≤ out.size + k := by
  intro k
  induction k using Nat.strongRecOn with
  | ind k ih =>
    intro out
    rw [dgs]
    split
    · omega
    · have := ih (k / 10) (by omega) (strOfNums [48 + (k : Int) % 10] ++ out)
      rw [ByteArray.size_append] at this
      have e : (strOfNums [48 + (k : Int) % 10]).size = 1 := rfl
      omega
theorem convert1 {x0 : Int} (W : World) (g : Nat) (h0 : W.cell? ⟨g, 0, none⟩ = some (.int .u8 x0)) :
    (convert 57 9 (.slice (some ⟨g, 0, none⟩) 1 1)).run Try.prog W = .ok (.string (strOfNums [x0])) W :=
  run_convert_bytes_arg (P := Try.prog) W 57 5 Try.underlying57 Try.underlying5 g 0 1 1 [x0] rfl (fun i hi => by
    match i, hi with
    | 0, _ => exact h0) 9 Try.underlying9
set_option maxHeartbeats 1000000 in
theorem markText_c (k0 : Nat) (h0 : 1 ≤ k0) (h1 : k0 ≤ 4194304) (w : World) :
    Calls Try.prog 89 #[.int .i64 k0] w fun e w' => e = .returned (.string (markT k0)) ∧ Below w.heap.size w w' := by
  have HD := Lib.hid (show ∀ (k : Nat) (out : ByteArray), k ≠ 0 → dgs k out = dgs (k / 10) (strOfNums [48 + (k : Int) % 10] ++ out) from fun k out h => by rw [dgs]; simp [h])
  have HZ := Lib.hid (show ∀ (out : ByteArray), dgs 0 out = out from fun out => by rw [dgs]; simp)
  have HM := Lib.hid (show markT k0 = ⟨#[109]⟩ ++ dgs k0 ⟨#[]⟩ from rfl)
  obtain ⟨D, hD⟩ : ∃ D, dgs k0 ⟨#[]⟩ = D := ⟨_, rfl⟩
  obtain ⟨M, hM⟩ : ∃ M, markT k0 = M := ⟨_, rfl⟩
  have hDs := dgs_size k0 ⟨#[]⟩
  rw [hD] at hDs HM
  rw [hM] at HM ⊢
  have HDD := Lib.hid hD
  have hcv := @convert1
  have hz1 : ∀ a : Int, (strOfNums [a]).size = 1 := fun _ => rfl
  have hz0 : (⟨#[]⟩ : ByteArray).size = 0 := rfl
  have hzm : (⟨#[109]⟩ : ByteArray).size = 1 := rfl
  rw [hz0] at hDs
  clear hD hM
  go_enter Try.func89, Try.ntmps89
  go_wp2_with fail
  go_loopw [0, 3] (fun a o wr => ∃ (k : Nat) (out : ByteArray), a = .int .i64 k ∧ o = .string out ∧ out.size + k ≤ k0 ∧ Hid (dgs k out = D) ∧ Below w.heap.size w wr) (fun a _ _ => (intOf a).toNat)
  case atStart => exact ⟨k0, ⟨#[]⟩, rfl, rfl, by rw [hz0]; omega, Lib.hid HDD.out, Below.refl _ _⟩
  case round =>
    obtain ⟨k, out, rfl, rfl, hs, HK, hb⟩ := hrel
    by_cases hk : k = 0
    · subst hk
      have HE := Lib.hid (show M = ⟨#[109]⟩ ++ out by rw [HM.out, ← HK.out, HZ.out])
      go_wp2_with fail
      go_returns
      exact ⟨by rw [HE.out]; rfl, hb⟩
    · have HN := Lib.hid (show dgs (k / 10) (strOfNums [48 + (k : Int) % 10] ++ out) = D by rw [← HD.out k out hk, HK.out])
      have hk0 : 0 < k := by omega
      have c1 : (wr.alloc (.cells #[.int .u8 (48 + (k : Int) % 10)] 5)).cell? ⟨wr.heap.size, 0, none⟩ = some (.int .u8 (48 + (k : Int) % 10)) := by simp
      have hc := hcv _ _ c1
      have hss : (strOfNums [48 + (k : Int) % 10] ++ out).size + k / 10 ≤ k0 := by rw [ByteArray.size_append, hz1]; omega
      clear hk c1
      go_wp2_with fail
      go_roundw
      case rel => exact ⟨k / 10, _, by go_num, rfl, hss, HN, hb.alloc hb.size _⟩
      case measure => simp [intOf]; omega

/-- So many marks. -/
def marksS (k0 n : Nat) : List ByteArray := (List.range n).map fun (i : Nat) => markT (k0 + i)
theorem marksS_length (k0 n : Nat) : (marksS k0 n).length = n := by simp [marksS]
theorem marksS_at {k0 n k : Nat} (h : k < n) : (marksS k0 n)[k]? = some (markT (k0 + k)) := by simp [marksS, h]
theorem marksS_set {l : List ByteArray} {k0 : Nat} {k : Nat} (h : k < l.length) : (marksS k0 k ++ l.drop k).set k (markT (k0 + k)) = marksS k0 (k + 1) ++ l.drop (k + 1) := by
  have hl := marksS_length k0 k
  rw [List.set_append_right _ _ (by omega), hl, Nat.sub_self]
  rw [List.drop_eq_getElem_cons h, List.set_cons_zero]
  have : marksS k0 (k + 1) = marksS k0 k ++ [markT (k0 + k)] := by simp [marksS, List.range_succ]
  rw [this, List.append_assoc]
  rfl
theorem growS_set {w a : World} {g : Nat} (h : w.grownBy a (some g)) (k : Nat) (v : Value) : w.grownBy (a.setCell ⟨g, k, none⟩ v) (some g) :=
  ⟨h.os, h.tape, h.output, by have := h.size; simpa [World.setCell] using this, fun j hj hne => by
    rw [← h.block j hj hne]
    have : g ≠ j := fun e => hne (by rw [e])
    simp [World.setCell, Array.getElem?_modify, this]⟩
theorem growS_next {w a b : World} {row : Option Nat} (h : w.grownBy a row) (hb : Below a.heap.size a b) : w.grownBy b row :=
  ⟨hb.os.trans h.os, hb.tape.trans h.tape, hb.output.trans h.output, Nat.le_trans h.size hb.size, fun j hj hne => (hb.block j (Nat.lt_of_lt_of_le hj h.size)).trans (h.block j hj hne)⟩
/-- Marked: the row holds the marks, nothing else has turned. -/
def MarkedS (base : Nat) (w : World) (x : Option Addr) (cap n k0 : Nat) : Ending → World → Prop := fun e w' =>
  e = .returned (.int .i64 ((k0 : Int) + n)) ∧ StrRow base w' x cap (marksS k0 n) ∧ w.grownBy w' (x.map (·.block))

end Go.Proofs.Ytgmjdalfbebgbaa
