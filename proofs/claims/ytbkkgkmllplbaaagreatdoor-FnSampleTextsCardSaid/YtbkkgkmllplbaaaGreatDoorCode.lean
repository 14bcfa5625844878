/- The drawn laws' input: a slice of bytes that came in; a reader over it: what the reference's drawing needs of it, and no more. -/
import Derived.Test.YtbkkgkmllplbaaaGreatDoorKeep
import Derived.Laws.AppendOwn
import Derived.BigQuiet
import Derived.Deep.AppendLies
namespace Go.Proofs.YtbkkgkmllplbaaaGreatDoor
open Go.ChangeShapes Go.WideShapes Go.ChangeAt Go.RowKit
set_option linter.unusedVariables false

/-- A slice of bytes that can be read: it has none, or n cells of it hold bytes, in a block below B. -/
def Code (B : Nat) (w : World) (sv : Value) (n : Nat) : Prop :=
  (n = 0 ∧ ∃ x cap, sv = .slice x 0 cap) ∨ ∃ b off cap, sv = .slice (some ⟨b, off, none⟩) n cap ∧ b < B ∧ ∀ i, i < n → ∃ z : Int, 0 ≤ z ∧ z ≤ 255 ∧ w.cell? ⟨b, off + i, none⟩ = some (.int .u8 z)

theorem Code.below {B : Nat} {w w' : World} {sv : Value} {n : Nat} (h : Code B w sv n) (hb : Below B w w') : Code B w' sv n := by
  rcases h with h | ⟨b, off, cap, e, hlt, hc⟩
  · exact .inl h
  · exact .inr ⟨b, off, cap, e, hlt, fun i hi => by
      obtain ⟨z, h0, h1, hz⟩ := hc i hi
      exact ⟨z, h0, h1, (hb.cell (p := ⟨b, off + i, none⟩) hlt).trans hz⟩⟩

theorem Code.mono {B B' : Nat} {w : World} {sv : Value} {n : Nat} (h : Code B w sv n) (hB : B ≤ B') : Code B' w sv n := by
  rcases h with h | ⟨b, off, cap, e, hlt, hc⟩
  · exact .inl h
  · exact .inr ⟨b, off, cap, e, by omega, hc⟩
theorem Code.next {w w' : World} {sv : Value} {n : Nat} (h : Code w.heap.size w sv n) (hb : Below w.heap.size w w') : Code w'.heap.size w' sv n := (h.below hb).mono hb.size

theorem open_bytes {H : Type} {enc : TypeId × Value → H} {P : Program} {w : World} {held : Bool} {r : Reach} {b0 : Nat} {t u : TypeId} {v : Value} {d : DataW H} {q : List MemPlace}
    (ht : P.underlying t = some (.slice u)) (hu : P.underlying u = some (.int .u8)) (hC : P.cellsOf u = 1)
    (hv : Value.okWide P w r b0 t v) (h : DataW.Trod enc P w 0 (fun _ => true) held t v d q) : ∃ a len cap n, v = .slice a len cap ∧ (n = len ∧ Code w.heap.size w v len) := by
  obtain ⟨a0, len0, cap0, rfl⟩ := okWide_slice ht hv
  refine ⟨a0, len0, cap0, len0, rfl, rfl, ?_⟩
  have k0 := h
  obtain ⟨fuel, hf⟩ := h
  rcases open_ints ht hu hC hf with ⟨hcs, _⟩ | ⟨x, l, c, zs, hcs, _, hl, hm, hz, _, hcell, hwz⟩
  · simp [Value.cells] at hcs
    obtain ⟨rfl, rfl, rfl⟩ := hcs
    exact .inl ⟨rfl, _, _, rfl⟩
  · simp [Value.cells] at hcs
    obtain ⟨rfl, rfl, rfl⟩ := hcs
    obtain ⟨b, off, spot⟩ := x
    have hzl : zs.length = cap0 := by simpa using hz
    by_cases hn : len0 = 0
    · subst hn
      exact .inl ⟨rfl, _, _, rfl⟩
    · have hc0 := hcell 0 (by omega)
      have hspot : spot = none := by simpa [Addr.add] using World.cell?_spot hc0
      subst hspot
      refine .inr ⟨b, off, cap0, rfl, World.block_lt_of_cell? w _ hc0, fun i hi => ?_⟩
      have hci := hcell i (by omega)
      have hadd : (⟨b, off, none⟩ : Addr).add i = ⟨b, off + i, none⟩ := by unfold Addr.add; split <;> simp_all
      rw [hadd] at hci
      have hw := hwz (zs.getD i 0) (by rw [List.getD_eq_getElem?_getD, List.getElem?_eq_getElem (by omega)]; exact List.getElem_mem _)
      have hb := bounds_u8 hw
      exact ⟨_, hb.1, hb.2, hci⟩

/-- The reader: its slice and its place. -/
structure RdAt (w : World) (a : Nat) (sv : Value) (n p : Nat) : Prop where
  blk : w.heap[a]? = some (.cells #[sv, .int .i64 p] 59 (0, 0))
  le : p ≤ n
  small : n ≤ 1048576
  code : Code a w sv n

/-- A reader stands in block a. -/
def Rd (w : World) (a : Nat) : Prop := ∃ sv n p, RdAt w a sv n p

theorem Rd.kept {w w' : World} {a : Nat} {row : Option Nat} (h : Rd w a) (hg : w.grownBy w' row) (hr : ∀ k, row = some k → a < k) : Rd w' a := by
  obtain ⟨sv, n, p, hb, hle, hs, hc⟩ := h
  have hlt : a < w.heap.size := (Array.getElem?_eq_some_iff.1 hb).1
  have hne : ∀ k, k ≤ a → some k ≠ row := fun k hk e => by have := hr k e.symm; omega
  refine ⟨sv, n, p, (hg.block a hlt (hne a (Nat.le_refl _))).trans hb, hle, hs, ?_⟩
  rcases hc with hc | ⟨b, off, cap, e, hltb, hcell⟩
  · exact .inl hc
  · exact .inr ⟨b, off, cap, e, hltb, fun i hi => by
      obtain ⟨z, h0, h1, hz⟩ := hcell i hi
      exact ⟨z, h0, h1, hg.cell hz (hne b (by omega))⟩⟩

/-- What a reading leaves: a number within bounds, the reader where it stood, all else as it was. -/
def RdPost (lo hi : Int) (a : Nat) (w : World) : Ending → World → Prop := fun e w' => ∃ v : Int, lo ≤ v ∧ v ≤ hi ∧ e = .returned (.int .i64 v) ∧ Rd w' a ∧ w.grownBy w' (some a)

theorem grown_place (w : World) (a : Nat) (v : Value) (q q' : Nat) : w.grownBy (((w.drewN q).setCell ⟨a, 1, none⟩ v).drewN q') (some a) :=
  ⟨rfl, rfl, rfl, by simp [World.setCell], fun k _ hk => Below.heap_setCell (w.drewN q) ⟨a, 1, none⟩ v k (fun e => hk (by rw [e]))⟩

theorem grown_drew (w : World) (q : Nat) (row : Option Nat) : w.grownBy (w.drewN q) row := ⟨rfl, rfl, rfl, Nat.le_refl _, fun _ _ _ => rfl⟩
theorem RdAt.drew {w : World} {a : Nat} {sv : Value} {n p : Nat} (h : RdAt w a sv n p) (q : Nat) : RdAt (w.drewN q) a sv n p := ⟨h.blk, h.le, h.small, by
  rcases h.code with hc | ⟨b, off, cap, e, hltb, hcell⟩
  · exact .inl hc
  · exact .inr ⟨b, off, cap, e, hltb, hcell⟩⟩

theorem RdAt.step {w : World} {a : Nat} {sv : Value} {n p : Nat} (h : RdAt w a sv n p) (hp : p < n) (q q' : Nat) : Rd (((w.drewN q).setCell ⟨a, 1, none⟩ (.int .i64 ((p : Int) + 1))).drewN q') a := by
  obtain ⟨hb, hle, hs, hc⟩ := h
  obtain ⟨hlt, hk⟩ := Array.getElem?_eq_some_iff.1 hb
  refine ⟨sv, n, p + 1, ?_, by omega, hs, ?_⟩
  · show (w.heap.modify a _)[a]? = _
    rw [Array.getElem?_eq_getElem (by rw [Array.size_modify]; exact hlt), Array.getElem_modify_self, hk]
    rfl
  · rcases hc with hc | ⟨b, off, cap, e, hltb, hcell⟩
    · exact .inl hc
    · exact .inr ⟨b, off, cap, e, hltb, fun i hi => by
        obtain ⟨z, h0, h1, hz⟩ := hcell i hi
        exact ⟨z, h0, h1, (grown_place w a _ q q').cell hz (by simp; omega)⟩⟩

theorem next_c (a : Nat) (w : World) (h : Rd w a) : Calls Tryz.prog 43 #[.pointer (some ⟨a, 0, none⟩)] w (RdPost 0 255 a w) := by
  obtain ⟨sv, n, p, hR⟩ := h
  obtain ⟨hb, hle, hs, hc⟩ := id hR
  have hc0 : w.cell? ⟨a, 0, none⟩ = some sv := by simp [World.cell?, hb]
  have hc1 : w.cell? ⟨a, 1, none⟩ = some (.int .i64 p) := by simp [World.cell?, hb]
  have hf1 : w.frozen? ⟨a, 1, none⟩ = false := by simp [World.frozen?, hb]
  by_cases hlt : p < n
  · rcases hc with ⟨rfl, _⟩ | ⟨b, off, cap, rfl, hltb, hcell⟩
    · omega
    · obtain ⟨z, z0, z1, hz⟩ := hcell p hlt
      have hne : b ≠ a := by omega
      have hpn : (p : Int) < (n : Int) := by omega
      have x1 : ∀ q v, ((w.drewN q).setCell ⟨a, 1, none⟩ v).cell? ⟨a, 1, none⟩ = some v := fun q v => World.cell?_setCell_same' _ _ _ (by rw [World.cell?_drewN, hc1]; rfl)
      have x0 : ∀ q v, ((w.drewN q).setCell ⟨a, 1, none⟩ v).cell? ⟨a, 0, none⟩ = some (.slice (some ⟨b, off, none⟩) n cap) := fun q v => (World.cell?_setCell_other (w := w.drewN q) (a := ⟨a, 1, none⟩) (b := ⟨a, 0, none⟩) (v := v) (by simp)).trans hc0
      have xz : ∀ q v, ((w.drewN q).setCell ⟨a, 1, none⟩ v).cell? ⟨b, off + p, none⟩ = some (.int .u8 z) := fun q v => (World.cell?_setCell_other (w := w.drewN q) (a := ⟨a, 1, none⟩) (b := ⟨b, off + p, none⟩) (v := v) (by simp <;> omega)).trans hz
      have p0 : (0 : Int) ≤ (p : Int) := Int.natCast_nonneg _
      have pe : ((p : Int) + 1 - 1) = p := by omega
      go_enter Tryz.func43, Tryz.ntmps43
      go_wp2
      go_quiet (fail)
      go_wp2
      go_quiet (fail)
      go_wp2
      go_returns
      exact ⟨z, z0, z1, rfl, hR.step hlt _ _, grown_place _ _ _ _ _⟩
  · have hnp : (n : Int) ≤ (p : Int) := by omega
    have e : ∃ x cap, sv = .slice x n cap := by
      rcases hc with ⟨e0, x, cap, e⟩ | ⟨b, off, cap, e, _⟩
      · exact ⟨x, cap, by rw [e0]; exact e⟩
      · exact ⟨_, cap, e⟩
    obtain ⟨x, cap, rfl⟩ := e
    go_enter Tryz.func43, Tryz.ntmps43
    go_wp2
    go_quiet (fail)
    go_wp2
    go_returns
    exact ⟨0, by omega, by omega, rfl, ⟨_, n, p, hR.drew _⟩, grown_drew _ _ _⟩

end Go.Proofs.YtbkkgkmllplbaaaGreatDoor
