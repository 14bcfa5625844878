/- The reader, told by its bytes and its place: where a value must be known ahead of a statement whose order is open. -/
import Derived.Test.YtbkkgkmllplbaaaGreatDoorReader
namespace Go.Proofs.YtbkkgkmllplbaaaGreatDoor
open Go.ChangeShapes Go.WideShapes Go.ChangeAt Go.RowKit
set_option linter.unusedVariables false

def CodeZ (B : Nat) (w : World) (sv : Value) (zs : List Int) : Prop :=
  (zs = [] ∧ ∃ x cap, sv = .slice x 0 cap) ∨ ∃ b off cap, sv = .slice (some ⟨b, off, none⟩) zs.length cap ∧ b < B ∧ ∀ i, i < zs.length → w.cell? ⟨b, off + i, none⟩ = some (.int .u8 (zs.getD i 0))

structure RdZ (w : World) (a : Nat) (zs : List Int) (p : Nat) : Prop where
  blk : ∃ sv, w.heap[a]? = some (.cells #[sv, .int .i64 p] 59 (0, 0)) ∧ CodeZ a w sv zs
  le : p ≤ zs.length
  small : zs.length ≤ 1048576
  bytes : ∀ i, 0 ≤ zs.getD i 0 ∧ zs.getD i 0 ≤ 255

theorem list_choose {P : Nat → Int → Prop} : ∀ n : Nat, (∀ i, i < n → ∃ z, P i z) → ∃ zs : List Int, zs.length = n ∧ ∀ i, i < n → P i (zs.getD i 0)
  | 0, _ => ⟨[], rfl, fun i h => absurd h (Nat.not_lt_zero _)⟩
  | n + 1, h => by
    obtain ⟨zs, hl, hz⟩ := list_choose n (fun i hi => h i (by omega))
    obtain ⟨z, hzn⟩ := h n (by omega)
    refine ⟨zs ++ [z], by simp [hl], fun i hi => ?_⟩
    by_cases e : i = n
    · subst e
      have : (zs ++ [z]).getD i 0 = z := by simp [List.getD, ← hl]
      rw [this]; exact hzn
    · have : (zs ++ [z]).getD i 0 = zs.getD i 0 := by
        simp only [List.getD]
        rw [List.getElem?_append_left (by omega)]
      rw [this]; exact hz i (by omega)

theorem Rd.toZ {w : World} {a : Nat} (h : Rd w a) : ∃ zs p, RdZ w a zs p := by
  obtain ⟨sv, n, p, hb, hle, hs, hc⟩ := h
  rcases hc with ⟨e0, x, cap, e⟩ | ⟨b, off, cap, e, hlt, hcell⟩
  · subst e0
    exact ⟨[], p, ⟨sv, hb, .inl ⟨rfl, x, cap, e⟩⟩, by simpa using hle, by simp, fun i => by simp⟩
  · obtain ⟨zs, hl, hz⟩ := list_choose n hcell
    refine ⟨zs, p, ⟨sv, hb, .inr ⟨b, off, cap, by rw [hl]; exact e, hlt, fun i hi => (hz i (by omega)).2.2⟩⟩, by omega, by omega, fun i => ?_⟩
    by_cases hi : i < n
    · exact ⟨(hz i hi).1, (hz i hi).2.1⟩
    · have : zs.getD i 0 = 0 := by simp only [List.getD]; rw [List.getElem?_eq_none (by omega)]; rfl
      rw [this]; omega

theorem RdZ.toRd {w : World} {a : Nat} {zs : List Int} {p : Nat} (h : RdZ w a zs p) : Rd w a := by
  obtain ⟨⟨sv, hb, hc⟩, hle, hs, hby⟩ := h
  refine ⟨sv, zs.length, p, hb, hle, hs, ?_⟩
  rcases hc with ⟨e0, x, cap, e⟩ | ⟨b, off, cap, e, hlt, hcell⟩
  · subst e0
    exact .inl ⟨rfl, x, cap, e⟩
  · exact .inr ⟨b, off, cap, e, hlt, fun i hi => ⟨_, (hby i).1, (hby i).2, hcell i hi⟩⟩

theorem RdZ.kept {w w' : World} {a : Nat} {zs : List Int} {p : Nat} {row : Option Nat} (h : RdZ w a zs p) (hg : w.grownBy w' row) (hr : ∀ k, row = some k → a < k) : RdZ w' a zs p := by
  obtain ⟨⟨sv, hb, hc⟩, hle, hs, hby⟩ := h
  have hlt : a < w.heap.size := (Array.getElem?_eq_some_iff.1 hb).1
  have hne : ∀ k, k ≤ a → some k ≠ row := fun k hk e => by have := hr k e.symm; omega
  refine ⟨⟨sv, (hg.block a hlt (hne a (Nat.le_refl _))).trans hb, ?_⟩, hle, hs, hby⟩
  rcases hc with hc | ⟨b, off, cap, e, hltb, hcell⟩
  · exact .inl hc
  · exact .inr ⟨b, off, cap, e, hltb, fun i hi => hg.cell (hcell i hi) (hne b (by omega))⟩

theorem RdZ.step {w : World} {a : Nat} {zs : List Int} {p : Nat} (h : RdZ w a zs p) (hp : p < zs.length) (q q' : Nat) : RdZ (((w.drewN q).setCell ⟨a, 1, none⟩ (.int .i64 ((p : Int) + 1))).drewN q') a zs (p + 1) := by
  obtain ⟨⟨sv, hb, hc⟩, hle, hs, hby⟩ := h
  obtain ⟨hlt, hk⟩ := Array.getElem?_eq_some_iff.1 hb
  refine ⟨⟨sv, ?_, ?_⟩, by omega, hs, hby⟩
  · show (w.heap.modify a _)[a]? = _
    rw [Array.getElem?_eq_getElem (by rw [Array.size_modify]; exact hlt), Array.getElem_modify_self, hk]
    rfl
  · rcases hc with hc | ⟨b, off, cap, e, hltb, hcell⟩
    · exact .inl hc
    · exact .inr ⟨b, off, cap, e, hltb, fun i hi => (grown_place w a _ q q').cell (hcell i hi) (by simp; omega)⟩

def nextP (zs : List Int) (p : Nat) : Nat := if p < zs.length then p + 1 else p

theorem next_z (a : Nat) (zs : List Int) (p : Nat) (w : World) (h : RdZ w a zs p) : Calls Tryz.prog 43 #[.pointer (some ⟨a, 0, none⟩)] w fun e w' => e = .returned (.int .i64 (zs.getD p 0)) ∧ RdZ w' a zs (nextP zs p) ∧ w.grownBy w' (some a) := by
  obtain ⟨⟨sv, hb, hc⟩, hle, hs, hby⟩ := id h
  have hc0 : w.cell? ⟨a, 0, none⟩ = some sv := by simp [World.cell?, hb]
  have hc1 : w.cell? ⟨a, 1, none⟩ = some (.int .i64 p) := by simp [World.cell?, hb]
  have hf1 : w.frozen? ⟨a, 1, none⟩ = false := by simp [World.frozen?, hb]
  by_cases hlt : p < zs.length
  · rcases hc with ⟨rfl, _⟩ | ⟨b, off, cap, rfl, hltb, hcell⟩
    · simp at hlt
    · obtain ⟨z, ez⟩ : ∃ z, zs.getD p 0 = z := ⟨_, rfl⟩
      have hz := hcell p hlt
      have hby' := hby p
      rw [ez] at hz hby' ⊢
      obtain ⟨z0, z1⟩ := hby'
      obtain ⟨n, en⟩ : ∃ n, zs.length = n := ⟨_, rfl⟩
      have hst := h.step hlt
      have enp : nextP zs p = p + 1 := if_pos hlt
      rw [enp]
      rw [en] at hlt hb hc0 hs
      have HST := Lib.hid hst
      have hne : b ≠ a := by omega
      have hpn : (p : Int) < (n : Int) := by omega
      have x1 : ∀ q v, ((w.drewN q).setCell ⟨a, 1, none⟩ v).cell? ⟨a, 1, none⟩ = some v := fun q v => World.cell?_setCell_same' _ _ _ (by rw [World.cell?_drewN, hc1]; rfl)
      have x0 : ∀ q v, ((w.drewN q).setCell ⟨a, 1, none⟩ v).cell? ⟨a, 0, none⟩ = some (.slice (some ⟨b, off, none⟩) n cap) := fun q v => (World.cell?_setCell_other (w := w.drewN q) (a := ⟨a, 1, none⟩) (b := ⟨a, 0, none⟩) (v := v) (by simp)).trans hc0
      have xz : ∀ q v, ((w.drewN q).setCell ⟨a, 1, none⟩ v).cell? ⟨b, off + p, none⟩ = some (.int .u8 z) := fun q v => (World.cell?_setCell_other (w := w.drewN q) (a := ⟨a, 1, none⟩) (b := ⟨b, off + p, none⟩) (v := v) (by simp <;> omega)).trans hz
      have p0 : (0 : Int) ≤ (p : Int) := Int.natCast_nonneg _
      have pe : ((p : Int) + 1 - 1) = p := by omega
      clear hst ez en hle hby hcell h enp
      go_enter Tryz.func43, Tryz.ntmps43
      go_wp2
      go_quiet (fail)
      go_wp2
      go_quiet (fail)
      go_wp2
      go_returns
      exact ⟨rfl, HST.out _ _, grown_place _ _ _ _ _⟩
  · have hnp : (zs.length : Int) ≤ (p : Int) := by omega
    have e : ∃ x cap, sv = .slice x zs.length cap := by
      rcases hc with ⟨e0, x, cap, e⟩ | ⟨b, off, cap, e, _⟩
      · exact ⟨x, cap, by rw [e0]; exact e⟩
      · exact ⟨_, cap, e⟩
    obtain ⟨x, cap, rfl⟩ := e
    have ez : zs.getD p 0 = 0 := by simp only [List.getD]; rw [List.getElem?_eq_none (by omega)]; rfl
    have enp : nextP zs p = p := if_neg hlt
    rw [ez, enp]
    clear ez enp hby
    go_enter Tryz.func43, Tryz.ntmps43
    go_wp2
    go_quiet (fail)
    go_wp2
    go_returns
    exact ⟨rfl, h.kept (grown_drew _ _ none) (by simp), grown_drew _ _ _⟩

/-- What 'below' gives, and where it leaves the reader. -/
def belowV (zs : List Int) (p : Nat) (n : Int) : Int := if n ≤ 256 then zs.getD p 0 % n else (zs.getD p 0 * 256 + zs.getD (nextP zs p) 0) % n
def belowP (zs : List Int) (p : Nat) (n : Int) : Nat := if n ≤ 256 then nextP zs p else nextP zs (nextP zs p)
theorem belowV_range (zs : List Int) (p : Nat) (n : Int) (h : 1 ≤ n) : 0 ≤ belowV zs p n ∧ belowV zs p n < n := by
  unfold belowV
  split <;> exact ⟨Int.emod_nonneg _ (by omega), Int.emod_lt_of_pos _ (by omega)⟩

theorem below_z (a : Nat) (zs : List Int) (p : Nat) (n : Int) (h2 : 2 ≤ n) (hn : n ≤ 256) (w : World) (h : RdZ w a zs p) : Calls Tryz.prog 30 #[.pointer (some ⟨a, 0, none⟩), .int .i64 n] w fun e w' => e = .returned (.int .i64 (belowV zs p n)) ∧ RdZ w' a zs (belowP zs p n) ∧ w.grownBy w' (some a) := by
  have ev : belowV zs p n = zs.getD p 0 % n := if_pos hn
  have ep : belowP zs p n = nextP zs p := if_pos hn
  rw [ev, ep]
  obtain ⟨b0, b1⟩ := h.bytes p
  have hc := next_z a zs p w h
  obtain ⟨z, ez⟩ : ∃ z, zs.getD p 0 = z := ⟨_, rfl⟩
  rw [ez] at hc b0 b1 ⊢
  have HC := Lib.hid hc
  clear ev ep ez hc
  go_enter Tryz.func30, Tryz.ntmps30
  go_wp2_with fail
  refine HC.out.mono ?_
  rintro e w1 ⟨rfl, hr, hg⟩
  go_wp2_with fail
  go_returns
  exact ⟨rfl, hr, hg⟩
end Go.Proofs.YtbkkgkmllplbaaaGreatDoor
