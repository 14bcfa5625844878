/- Rows of numbers of the call's own: held against each other, marked, looked at again. -/
import Derived.Test.YtoejeekepagfcaaChimers
import Derived.Test.YtoejeekepagfcaaIvsL
import Derived.Laws.OwnMore
namespace Go.Proofs.Ytoejeekepagfcaa
open Go.ChangeShapes Go.WideShapes Go.ChangeAt Go.RowKit
set_option linter.unusedVariables false
set_option linter.unusedSimpArgs false

def IntRow (base : Nat) (W : World) (x : Option Addr) (cap : Nat) (l : List Int) : Prop := W.ownsRow base 2 1 (.slice x l.length cap) l.length (l.map (Value.int .i64))
section
variable {base : Nat} {W W' : World} {x : Option Addr} {cap : Nat} {l : List Int}
theorem IntRow.at_ {k : Nat} {z : Int} (h : IntRow base W x cap l) (hk : l[k]? = some z) : ∃ g, x = some ⟨g, 0, none⟩ ∧ base ≤ g ∧ g < W.heap.size ∧ W.cell? ⟨g, k, none⟩ = some (.int .i64 z) ∧ W.frozen? ⟨g, k, none⟩ = false := by
  have hkl := (List.getElem?_eq_some_iff.1 hk).1
  have h0 := h
  rcases h.2 with ⟨e, e0⟩ | ⟨g, c, cur, e, hb, hg, _, _, _, htk⟩
  · omega
  · simp only [Value.slice.injEq] at e
    obtain ⟨rfl, _, rfl⟩ := e
    refine ⟨g, rfl, hb, (Array.getElem?_eq_some_iff.1 hg).1, ?_, World.ownsRow.frozenAt h0 _⟩
    rw [World.ownsRow.cellAt h0 _ (by omega), List.getElem?_map, hk]
    rfl
theorem IntRow.keep {row : Option Nat} (h : IntRow base W x cap l) (hg : W.grownBy W' row) (hne : ∀ g, x = some ⟨g, 0, none⟩ → some g ≠ row) : IntRow base W' x cap l := by
  refine ⟨h.1, ?_⟩
  rcases h.2 with e | ⟨g, c, cur, e, hb', hgg, r⟩
  · exact .inl e
  · refine .inr ⟨g, c, cur, e, hb', (hg.block g (Array.getElem?_eq_some_iff.1 hgg).1 (hne g ?_)).trans hgg, r⟩
    simp only [Value.slice.injEq] at e
    exact e.1
theorem IntRow.next (h : IntRow base W x cap l) (hb : Below W.heap.size W W') : IntRow base W' x cap l :=
  h.keep (row := none) ⟨hb.os, hb.tape, hb.output, hb.size, fun k hk _ => hb.block k hk⟩ (fun _ _ => by simp)
theorem IntRow.lt (h : IntRow base W x cap l) : ∀ g, x = some ⟨g, 0, none⟩ → g < W.heap.size := fun g e => by
  subst e
  exact (World.ownsRow.lt h g rfl).2
theorem IntRow.ge (h : IntRow base W x cap l) : ∀ g, x = some ⟨g, 0, none⟩ → base ≤ g := fun g e => by
  subst e
  exact (World.ownsRow.lt h g rfl).1
theorem IntRow.put {g k : Nat} (h : IntRow base W (some ⟨g, 0, none⟩) cap l) (hk : k < l.length) (z : Int) : IntRow base (W.setCell ⟨g, k, none⟩ (.int .i64 z)) (some ⟨g, 0, none⟩) cap (l.set k z) := by
  unfold IntRow at h ⊢
  have := (World.ownsRow.stored h k (.int .i64 z)).1
  simpa using this
end

set_option maxHeartbeats 1000000 in
theorem eqInt64S_c (l : List Int) (n : Nat) (hn : Hid (n = l.length)) (hm : n ≤ 1048576) (b b' : Nat) (x y : Option Addr) (cap cap' : Nat) (w : World) (h : IntRow b w x cap l) (h' : IntRow b' w y cap' l) :
    Calls Try.prog 21 #[.slice x n cap, .slice y n cap'] w fun e w' => e = .returned (.bool true) ∧ Below w.heap.size w w' := by
  go_enter Try.func21, Try.ntmps21
  go_wp2
  go_loopw [5] (fun i wr => ∃ k : Nat, k ≤ n ∧ i = .int .i64 k ∧ Below w.heap.size w wr) (fun i _ => n - (intOf i).toNat)
  case atStart => exact ⟨0, Nat.zero_le _, rfl, Below.refl _ _⟩
  case round =>
    obtain ⟨k, hk, rfl, hb⟩ := hrel
    by_cases hlt : k < n
    · obtain ⟨v, hv⟩ := get_at (l := l) (k := k) (by rw [← hn.out]; exact hlt)
      obtain ⟨g, rfl, _, _, c0, _⟩ := (h.next hb).at_ hv
      obtain ⟨g', rfl, _, _, c1, _⟩ := (h'.next hb).at_ hv
      have HV := Lib.hid hv
      clear hv
      go_wp2_with fail
      go_quiet (fail)
      go_wp2_with fail
      go_roundw
      case rel => exact ⟨k + 1, by omega, by go_num, grow_drew hb _⟩
      case measure => simp [intOf]; omega
    · go_wp2_with fail
      go_returns
      exact ⟨rfl, hb⟩

/-- So many marks. -/
def marks (k0 : Int) (n : Nat) : List Int := (List.range n).map fun (i : Nat) => k0 + (i : Int)
theorem marks_length (k0 : Int) (n : Nat) : (marks k0 n).length = n := by simp [marks]
theorem marks_at {k0 : Int} {n k : Nat} (h : k < n) : (marks k0 n)[k]? = some (k0 + k) := by simp [marks, h]
theorem marks_set {l : List Int} {k0 : Int} {k : Nat} (h : k < l.length) : (marks k0 k ++ l.drop k).set k (k0 + k) = marks k0 (k + 1) ++ l.drop (k + 1) := by
  have hl := marks_length k0 k
  rw [List.set_append_right _ _ (by omega), hl, Nat.sub_self]
  rw [List.drop_eq_getElem_cons h, List.set_cons_zero]
  have : marks k0 (k + 1) = marks k0 k ++ [k0 + (k : Int)] := by simp [marks, List.range_succ]
  rw [this, List.append_assoc]
  rfl

/-- Marked: the row holds the marks, nothing else has turned. -/
def Marked (base : Nat) (w : World) (x : Option Addr) (cap n : Nat) (k0 : Int) : Ending → World → Prop := fun e w' =>
  e = .returned (.int .i64 (k0 + n)) ∧ IntRow base w' x cap (marks k0 n) ∧ w.grownBy w' (x.map (·.block))

theorem grown_set {w a : World} {g : Nat} (h : w.grownBy a (some g)) (k : Nat) (v : Value) : w.grownBy (a.setCell ⟨g, k, none⟩ v) (some g) :=
  ⟨h.os, h.tape, h.output, by have := h.size; simpa [World.setCell] using this, fun j hj hne => by
    rw [← h.block j hj hne]
    have : g ≠ j := fun e => hne (by rw [e])
    simp [World.setCell, Array.getElem?_modify, this]⟩

set_option maxHeartbeats 1000000 in
theorem markInt64S_c (l : List Int) (n : Nat) (hn : Hid (n = l.length)) (hm : n ≤ 1048576) (k0 : Int) (h0 : 0 ≤ k0) (h1 : k0 ≤ 1048576) (base : Nat) (x : Option Addr) (cap : Nat) (w : World) (h : IntRow base w x cap l) :
    Calls Try.prog 23 #[.slice x n cap, .int .i64 k0] w (Marked base w x cap n k0) := by
  go_enter Try.func23, Try.ntmps23
  go_wp2
  go_loopw [1, 5] (fun m i wr => ∃ k : Nat, k ≤ n ∧ i = .int .i64 k ∧ m = .int .i64 (k0 + k) ∧ IntRow base wr x cap (marks k0 k ++ l.drop k) ∧ w.grownBy wr (x.map (·.block))) (fun _ i _ => n - (intOf i).toNat)
  case atStart => exact ⟨0, Nat.zero_le _, rfl, by simp, by simpa [marks] using h, World.grownBy.refl _ _⟩
  case round =>
    obtain ⟨k, hk, rfl, rfl, hr, hg⟩ := hrel
    by_cases hlt : k < n
    · have hkl : k < l.length := by rw [← hn.out]; exact hlt
      obtain ⟨v, hv⟩ : ∃ v, (marks k0 k ++ l.drop k)[k]? = some v := get_at (by rw [List.length_append, marks_length, List.length_drop]; omega)
      obtain ⟨g, rfl, hbg, _, c0, f0⟩ := hr.at_ hv
      have hp := hr.put (k := k) (by rw [List.length_append, marks_length, List.length_drop]; omega) (k0 + k)
      rw [marks_set hkl] at hp
      have hg' := grown_set hg k (.int .i64 (k0 + k))
      clear hv
      go_wp2_with fail
      go_roundw
      case rel => exact ⟨k + 1, by omega, by go_num, by rw [show ((k + 1 : Nat) : Int) = (k : Int) + 1 from by omega, Int.add_assoc], hp, hg'⟩
      case measure => simp [intOf]; omega
    · have e : k = n := by omega
      have hr' : IntRow base wr x cap (marks k0 n) := by
        rw [e, List.drop_of_length_le (by rw [← hn.out]; exact Nat.le_refl _), List.append_nil] at hr
        exact hr
      have HE := Lib.hid e
      clear e hr
      go_wp2_with fail
      go_returns
      exact ⟨by rw [HE.out]; rfl, hr', hg⟩

theorem heldInt64S_c (n : Nat) (hm : n ≤ 1048576) (k0 : Int) (h0 : 0 ≤ k0) (h1 : k0 ≤ 1048576) (base : Nat) (x : Option Addr) (cap : Nat) (w : World) (h : IntRow base w x cap (marks k0 n)) :
    Calls Try.prog 24 #[.slice x n cap, .int .i64 k0] w fun e w' => e = .returned (.int .i64 (k0 + n)) ∧ w = w' := by
  go_enter Try.func24, Try.ntmps24
  go_wp2
  go_loop [1, 5] (fun m i => ∃ k : Nat, k ≤ n ∧ i = .int .i64 k ∧ m = .int .i64 (k0 + k)) (fun _ i => n - (intOf i).toNat)
  case atStart => exact ⟨0, Nat.zero_le _, rfl, by simp⟩
  case round =>
    obtain ⟨k, hk, rfl, rfl⟩ := hrel
    by_cases hlt : k < n
    · obtain ⟨g, rfl, _, _, c0, _⟩ := h.at_ (marks_at hlt)
      go_wp2_with fail
      go_round
      case rel => exact ⟨k + 1, by omega, by go_num, by rw [show ((k + 1 : Nat) : Int) = (k : Int) + 1 from by omega, Int.add_assoc]⟩
      case measure => simp [intOf]; omega
    · have HE := Lib.hid (show k = n by omega)
      go_wp2_with fail
      go_returns
      exact ⟨by rw [HE.out]; rfl, rfl⟩
end Go.Proofs.Ytoejeekepagfcaa
