/- Slices of pointers to peers that read as lists; pointers to each of a slice. -/
import Derived.Test.YtfcmcelhndppnaaDoorPeersOkI
import Derived.Laws.AppendOwn
namespace Go.Proofs.YtfcmcelhndppnaaDoor
open Go.ChangeShapes Go.WideShapes Go.ChangeAt Go.RowKit Go.Deep
set_option linter.unusedVariables false
set_option linter.unusedSimpArgs false

/-- At this address lies this peer, in a block below B. -/
def PrAt (B : Nat) (w : World) (a : Addr) (v : Pr) : Prop := ∃ b off, a = ⟨b, off, none⟩ ∧ b < B ∧ w.cell? ⟨b, off, none⟩ = some (.int .i64 v.id) ∧ w.cell? ⟨b, off + 1, none⟩ = some (.int .i64 v.str) ∧ w.cell? ⟨b, off + 2, none⟩ = some (.int .i64 v.s.off) ∧ w.cell? ⟨b, off + 3, none⟩ = some (.int .i64 v.s.delay) ∧ w.cell? ⟨b, off + 4, none⟩ = some (.int .i64 v.s.disp) ∧ w.cell? ⟨b, off + 5, none⟩ = some (.int .i64 v.s.at_)
/-- A slice of pointers that read as these peers. -/
def PtrPrs (B : Nat) (w : World) (y : Option Addr) (l : List Pr) : Prop :=
  l = [] ∨ ∃ g o, y = some ⟨g, o, none⟩ ∧ g < B ∧ ∀ i v, l[i]? = some v → ∃ a, w.cell? ⟨g, o + i, none⟩ = some (.pointer (some a)) ∧ PrAt B w a v

section
variable {B B' : Nat} {w w' : World} {a : Addr} {v : Pr} {y : Option Addr} {l : List Pr}
theorem PrAt.below (h : PrAt B w a v) (hb : Below B w w') : PrAt B w' a v := by
  obtain ⟨b, off, e, hlt, c0, c1, c2, c3, c4, c5⟩ := h
  exact ⟨b, off, e, hlt, (hb.cell (p := ⟨b, off, none⟩) hlt).trans c0, (hb.cell (p := ⟨b, off + 1, none⟩) hlt).trans c1, (hb.cell (p := ⟨b, off + 2, none⟩) hlt).trans c2, (hb.cell (p := ⟨b, off + 3, none⟩) hlt).trans c3, (hb.cell (p := ⟨b, off + 4, none⟩) hlt).trans c4, (hb.cell (p := ⟨b, off + 5, none⟩) hlt).trans c5⟩
theorem PrAt.mono (h : PrAt B w a v) (hB : B ≤ B') : PrAt B' w a v := by
  obtain ⟨b, off, e, hlt, c⟩ := h
  exact ⟨b, off, e, by omega, c⟩
theorem PrAt.next (h : PrAt w.heap.size w a v) (hb : Below w.heap.size w w') : PrAt w'.heap.size w' a v := (h.below hb).mono hb.size
theorem PtrPrs.next (h : PtrPrs w.heap.size w y l) (hb : Below w.heap.size w w') : PtrPrs w'.heap.size w' y l := by
  rcases h with h | ⟨g, o, e, hlt, hc⟩
  · exact .inl h
  · refine .inr ⟨g, o, e, Nat.lt_of_lt_of_le hlt hb.size, fun i v hi => ?_⟩
    obtain ⟨a, ha, hp⟩ := hc i v hi
    exact ⟨a, (hb.cell (p := ⟨g, o + i, none⟩) hlt).trans ha, hp.next hb⟩
theorem PtrPrs.at_ {i : Nat} (h : PtrPrs B w y l) (hi : l[i]? = some v) : ∃ g o a, y = some ⟨g, o, none⟩ ∧ g < B ∧ w.cell? ⟨g, o + i, none⟩ = some (.pointer (some a)) ∧ PrAt B w a v := by
  rcases h with rfl | ⟨g, o, e, hlt, hc⟩
  · simp at hi
  · obtain ⟨a, ha, hp⟩ := hc i v hi
    exact ⟨g, o, a, e, hlt, ha, hp⟩
end

theorem Prs.to_at {B : Nat} {w : World} {b off i : Nat} {l : List Pr} {v : Pr} (h : Prs B w (some ⟨b, off, none⟩) l) (hi : l[i]? = some v) : PrAt B w ⟨b, off + i * 6, none⟩ v := by
  obtain ⟨b', off', e, hlt, c⟩ := h.at_ hi
  simp only [Option.some.injEq, Addr.mk.injEq] at e
  obtain ⟨rfl, rfl, _⟩ := e
  exact ⟨_, _, rfl, hlt, c⟩

theorem infoPtr : (Tryd.prog.info? 62).map (fun i => (i.zero, i.size, i.bytes)) = some (some (.pointer none), 1, 8) := by kernel_rfl

def ptrsTo (b off k : Nat) : List Value := (List.range k).map fun i => .pointer (some ⟨b, off + i * 6, none⟩)
theorem ptrsTo_next (b off k : Nat) : ptrsTo b off (k + 1) = ptrsTo b off k ++ [.pointer (some ⟨b, off + k * 6, none⟩)] := by
  simp [ptrsTo, List.range_succ]
theorem ptrsTo_at {b off k i : Nat} (h : i < k) : (ptrsTo b off k)[i]? = some (.pointer (some ⟨b, off + i * 6, none⟩)) := by
  simp [ptrsTo, h]

theorem cell_one_ptr (w : World) (v : Value) (t : TypeId) : ∀ j u, [v][j]? = some u → (w.alloc (.cells #[v] t)).cell? ((⟨w.heap.size, 0, none⟩ : Addr).add j) = some u := by
  intro j u hu
  cases j with
  | zero =>
    simp at hu
    subst hu
    simp [Addr.add]
  | succ j => simp at hu
theorem grownBy_belowP {W w1 w2 : World} {B : Nat} {row : Option Nat} (h : Below B W w1) (hB : B ≤ w1.heap.size) (hg : w1.grownBy w2 row) (hr : ∀ k, row = some k → B ≤ k) : Below B W w2 :=
  h.grown hg hB (fun j e => hr j e)

/-- Pointers to each of them: a slice of the call's own. -/
def FreshPtrs (n b off : Nat) (W : World) : Ending → World → Prop := fun e w' => ∃ v, e = .returned v ∧ w'.ownsRow W.heap.size 62 1 v n (ptrsTo b off n) ∧ Below W.heap.size W w'

set_option maxHeartbeats 1000000 in
theorem pointersTo_c (n : Nat) (hm : n ≤ 1048576) (b off cap : Nat) (w : World) :
    Calls Tryd.prog 30 #[.slice (some ⟨b, off, none⟩) n cap] w (FreshPtrs n b off w) := by
  obtain ⟨i0, hi, hz0, hz1, hz2⟩ := info_partsT infoPtr
  have HI0 := Lib.hid hi
  have HZ0 := Lib.hid hz0
  have HZ1 := Lib.hid hz1
  have HZ2 := Lib.hid hz2
  clear hi hz0 hz1 hz2
  go_enter Tryd.func30, Tryd.ntmps30
  go_wp2
  go_loopw [3, 7] (fun o i wr => ∃ k : Nat, k ≤ n ∧ i = .int .i64 k ∧ wr.ownsRow w.heap.size 62 1 o k (ptrsTo b off k) ∧ Below w.heap.size w wr) (fun _ i _ => n - (intOf i).toNat)
  case atStart => exact ⟨0, Nat.zero_le _, rfl, World.ownsRow_nil _ _ _ _, Below.refl _ _⟩
  case round =>
    obtain ⟨k, hk, rfl, hrow, hb⟩ := hrel
    by_cases hlt : k < n
    · have HP := Lib.hid (ptrsTo_next b off k)
      go_wp2_with (at_builtin; refine wpList_append_own _ rfl _ _ 49 rfl w.heap.size 62 i0 (.pointer none) 1 8 Tryd.underlying49 HI0.out HZ0.out HZ1.out HZ2.out rfl (by decide) _ _ _ rfl (hrow.alloc _) ⟨wr.heap.size, 0, none⟩ 1 1 [.pointer (some ⟨b, off + k * 6, none⟩)] rfl rfl (by simpa using cell_one_ptr wr (.pointer (some ⟨b, off + k * 6, none⟩)) 62) (by simp [Value.oneCell']) (by unfold maxLen; omega) (by omega) (by have := hb.size; simp at this ⊢; omega) ?_; intro v' w4 hown' hgrow _)
      have hgrow' : (wr.alloc (.cells #[.pointer (some ⟨b, off + k * 6, none⟩)] 62)).grownBy w4 u3.ownBlock := hgrow
      clear hgrow
      go_roundw
      case rel =>
        exact ⟨k + 1, by omega, by go_num, by rw [HP.out]; simpa using hown',
          grownBy_belowP (hb.alloc (by have := hb.size; omega) (.cells #[.pointer (some ⟨b, off + k * 6, none⟩)] 62)) (by have := hb.size; simp at this ⊢; omega) hgrow' (fun g hg => (hrow.lt g hg).1)⟩
      case measure => simp [intOf]; omega
    · have e : k = n := by omega
      subst e
      go_wp2_with fail
      go_returns
      exact ⟨_, rfl, hrow, hb⟩
end Go.Proofs.YtfcmcelhndppnaaDoor
