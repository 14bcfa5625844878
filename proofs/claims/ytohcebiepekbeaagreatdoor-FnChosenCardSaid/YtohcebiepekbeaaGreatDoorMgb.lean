/- The drawn laws' input: a slice of bytes that came in; a reader over it: what the reference's drawing needs of it, and no more. -/
import Derived.Test.YtohcebiepekbeaaGreatDoorMga
import Derived.Laws.AppendOwn
import Derived.BigQuiet
import Derived.Deep.AppendLies
import Derived.Test.YtohcebiepekbeaaGreatDoorSampleOk
import Derived.Test.YtohcebiepekbeaaGreatDoorPeersL
import Derived.Test.YtohcebiepekbeaaGreatDoorPrRow
import Derived.Laws.OwnMore
import Derived.Deep.RegionHeld3
import Derived.Deep.RegionWith
import Derived.IntWalk
import Derived.Deep.Cut
namespace Go.Proofs.YtohcebiepekbeaaGreatDoor
open Go.ChangeShapes Go.WideShapes Go.ChangeAt Go.RowKit
set_option linter.unusedVariables false

/-- A slice of bytes that can be read: it has none, or n cells of it hold bytes, in a block below B. -/
def Code (B : Nat) (w : World) (sv : Value) (n : Nat) : Prop :=
  (n = 0 ∧ ∃ x cap, sv = .slice x 0 cap) ∨ ∃ b off cap, sv = .slice (some ⟨b, off, none⟩) n cap ∧ b < B ∧ ∀ i, i < n → ∃ z : Int, 0 ≤ z ∧ z ≤ 255 ∧ w.cell? ⟨b, off + i, none⟩ = some (.int .u8 z)

theorem Code.below {B : Nat} {w w' : World} {sv : Value} {n : Nat} (h : Code B w sv n) (hb : Below B w w') : Code B w' sv n := by
  rcases h with h | ⟨b, off, cap, e, hlt, hc⟩
  · exact .inl h
  · exact .inr ⟨b, off, cap, e, hlt, fun i hi => by
      obtain ⟨z, h0, h1, hz⟩ := hc i hi
      exact ⟨z, h0, h1, (hb.cell (p := ⟨b, off + i, none⟩) hlt).trans hz⟩⟩

theorem Code.mono {B B' : Nat} {w : World} {sv : Value} {n : Nat} (h : Code B w sv n) (hB : B ≤ B') : Code B' w sv n := by
  rcases h with h | ⟨b, off, cap, e, hlt, hc⟩
  · exact .inl h
  · exact .inr ⟨b, off, cap, e, by omega, hc⟩
theorem Code.next {w w' : World} {sv : Value} {n : Nat} (h : Code w.heap.size w sv n) (hb : Below w.heap.size w w') : Code w'.heap.size w' sv n := (h.below hb).mono hb.size

theorem open_bytes {H : Type} {enc : TypeId × Value → H} {P : Program} {w : World} {held : Bool} {r : Reach} {b0 : Nat} {t u : TypeId} {v : Value} {d : DataW H} {q : List MemPlace}
    (ht : P.underlying t = some (.slice u)) (hu : P.underlying u = some (.int .u8)) (hC : P.cellsOf u = 1)
    (hv : Value.okWide P w r b0 t v) (h : DataW.Trod enc P w 0 (fun _ => true) held t v d q) : ∃ a len cap n, v = .slice a len cap ∧ (n = len ∧ Code w.heap.size w v len) := by
  obtain ⟨a0, len0, cap0, rfl⟩ := okWide_slice ht hv
  refine ⟨a0, len0, cap0, len0, rfl, rfl, ?_⟩
  have k0 := h
  obtain ⟨fuel, hf⟩ := h
  rcases open_ints ht hu hC hf with ⟨hcs, _⟩ | ⟨x, l, c, zs, hcs, _, hl, hm, hz, _, hcell, hwz⟩
  · simp [Value.cells] at hcs
    obtain ⟨rfl, rfl, rfl⟩ := hcs
    exact .inl ⟨rfl, _, _, rfl⟩
  · simp [Value.cells] at hcs
    obtain ⟨rfl, rfl, rfl⟩ := hcs
    obtain ⟨b, off, spot⟩ := x
    have hzl : zs.length = cap0 := by simpa using hz
    by_cases hn : len0 = 0
    · subst hn
      exact .inl ⟨rfl, _, _, rfl⟩
    · have hc0 := hcell 0 (by omega)
      have hspot : spot = none := by simpa [Addr.add] using World.cell?_spot hc0
      subst hspot
      refine .inr ⟨b, off, cap0, rfl, World.block_lt_of_cell? w _ hc0, fun i hi => ?_⟩
      have hci := hcell i (by omega)
      have hadd : (⟨b, off, none⟩ : Addr).add i = ⟨b, off + i, none⟩ := by unfold Addr.add; split <;> simp_all
      rw [hadd] at hci
      have hw := hwz (zs.getD i 0) (by rw [List.getD_eq_getElem?_getD, List.getElem?_eq_getElem (by omega)]; exact List.getElem_mem _)
      have hb := bounds_u8 hw
      exact ⟨_, hb.1, hb.2, hci⟩

/-- The reader: its slice and its place. -/
structure RdAt (w : World) (a : Nat) (sv : Value) (n p : Nat) : Prop where
  blk : w.heap[a]? = some (.cells #[sv, .int .i64 p] 97 (0, 0))
  le : p ≤ n
  small : n ≤ 1048576
  code : Code a w sv n

/-- A reader stands in block a. -/
def Rd (w : World) (a : Nat) : Prop := ∃ sv n p, RdAt w a sv n p

theorem Rd.kept {w w' : World} {a : Nat} {row : Option Nat} (h : Rd w a) (hg : w.grownBy w' row) (hr : ∀ k, row = some k → a < k) : Rd w' a := by
  obtain ⟨sv, n, p, hb, hle, hs, hc⟩ := h
  have hlt : a < w.heap.size := (Array.getElem?_eq_some_iff.1 hb).1
  have hne : ∀ k, k ≤ a → some k ≠ row := fun k hk e => by have := hr k e.symm; omega
  refine ⟨sv, n, p, (hg.block a hlt (hne a (Nat.le_refl _))).trans hb, hle, hs, ?_⟩
  rcases hc with hc | ⟨b, off, cap, e, hltb, hcell⟩
  · exact .inl hc
  · exact .inr ⟨b, off, cap, e, hltb, fun i hi => by
      obtain ⟨z, h0, h1, hz⟩ := hcell i hi
      exact ⟨z, h0, h1, hg.cell hz (hne b (by omega))⟩⟩

/-- What a reading leaves: a number within bounds, the reader where it stood, all else as it was. -/
def RdPost (lo hi : Int) (a : Nat) (w : World) : Ending → World → Prop := fun e w' => ∃ v : Int, lo ≤ v ∧ v ≤ hi ∧ e = .returned (.int .i64 v) ∧ Rd w' a ∧ w.grownBy w' (some a)

theorem grown_place (w : World) (a : Nat) (v : Value) (q q' : Nat) : w.grownBy (((w.drewN q).setCell ⟨a, 1, none⟩ v).drewN q') (some a) :=
  ⟨rfl, rfl, rfl, by simp [World.setCell], fun k _ hk => Below.heap_setCell (w.drewN q) ⟨a, 1, none⟩ v k (fun e => hk (by rw [e]))⟩

theorem grown_drew (w : World) (q : Nat) (row : Option Nat) : w.grownBy (w.drewN q) row := ⟨rfl, rfl, rfl, Nat.le_refl _, fun _ _ _ => rfl⟩
theorem RdAt.drew {w : World} {a : Nat} {sv : Value} {n p : Nat} (h : RdAt w a sv n p) (q : Nat) : RdAt (w.drewN q) a sv n p := ⟨h.blk, h.le, h.small, by
  rcases h.code with hc | ⟨b, off, cap, e, hltb, hcell⟩
  · exact .inl hc
  · exact .inr ⟨b, off, cap, e, hltb, hcell⟩⟩

theorem RdAt.step {w : World} {a : Nat} {sv : Value} {n p : Nat} (h : RdAt w a sv n p) (hp : p < n) (q q' : Nat) : Rd (((w.drewN q).setCell ⟨a, 1, none⟩ (.int .i64 ((p : Int) + 1))).drewN q') a := by
  obtain ⟨hb, hle, hs, hc⟩ := h
  obtain ⟨hlt, hk⟩ := Array.getElem?_eq_some_iff.1 hb
  refine ⟨sv, n, p + 1, ?_, by omega, hs, ?_⟩
  · show (w.heap.modify a _)[a]? = _
    rw [Array.getElem?_eq_getElem (by rw [Array.size_modify]; exact hlt), Array.getElem_modify_self, hk]
    rfl
  · rcases hc with hc | ⟨b, off, cap, e, hltb, hcell⟩
    · exact .inl hc
    · exact .inr ⟨b, off, cap, e, hltb, fun i hi => by
        obtain ⟨z, h0, h1, hz⟩ := hcell i hi
        exact ⟨z, h0, h1, (grown_place w a _ q q').cell hz (by simp; omega)⟩⟩

theorem next_c (a : Nat) (w : World) (h : Rd w a) : Calls Tryz.prog 88 #[.pointer (some ⟨a, 0, none⟩)] w (RdPost 0 255 a w) := by
  obtain ⟨sv, n, p, hR⟩ := h
  obtain ⟨hb, hle, hs, hc⟩ := id hR
  have hc0 : w.cell? ⟨a, 0, none⟩ = some sv := by simp [World.cell?, hb]
  have hc1 : w.cell? ⟨a, 1, none⟩ = some (.int .i64 p) := by simp [World.cell?, hb]
  have hf1 : w.frozen? ⟨a, 1, none⟩ = false := by simp [World.frozen?, hb]
  by_cases hlt : p < n
  · rcases hc with ⟨rfl, _⟩ | ⟨b, off, cap, rfl, hltb, hcell⟩
    · omega
    · obtain ⟨z, z0, z1, hz⟩ := hcell p hlt
      have hne : b ≠ a := by omega
      have hpn : (p : Int) < (n : Int) := by omega
      have x1 : ∀ q v, ((w.drewN q).setCell ⟨a, 1, none⟩ v).cell? ⟨a, 1, none⟩ = some v := fun q v => World.cell?_setCell_same' _ _ _ (by rw [World.cell?_drewN, hc1]; rfl)
      have x0 : ∀ q v, ((w.drewN q).setCell ⟨a, 1, none⟩ v).cell? ⟨a, 0, none⟩ = some (.slice (some ⟨b, off, none⟩) n cap) := fun q v => (World.cell?_setCell_other (w := w.drewN q) (a := ⟨a, 1, none⟩) (b := ⟨a, 0, none⟩) (v := v) (by simp)).trans hc0
      have xz : ∀ q v, ((w.drewN q).setCell ⟨a, 1, none⟩ v).cell? ⟨b, off + p, none⟩ = some (.int .u8 z) := fun q v => (World.cell?_setCell_other (w := w.drewN q) (a := ⟨a, 1, none⟩) (b := ⟨b, off + p, none⟩) (v := v) (by simp <;> omega)).trans hz
      have p0 : (0 : Int) ≤ (p : Int) := Int.natCast_nonneg _
      have pe : ((p : Int) + 1 - 1) = p := by omega
      go_enter Tryz.func88, Tryz.ntmps88
      go_wp2
      go_quiet (fail)
      go_wp2
      go_quiet (fail)
      go_wp2
      go_returns
      exact ⟨z, z0, z1, rfl, hR.step hlt _ _, grown_place _ _ _ _ _⟩
  · have hnp : (n : Int) ≤ (p : Int) := by omega
    have e : ∃ x cap, sv = .slice x n cap := by
      rcases hc with ⟨e0, x, cap, e⟩ | ⟨b, off, cap, e, _⟩
      · exact ⟨x, cap, by rw [e0]; exact e⟩
      · exact ⟨_, cap, e⟩
    obtain ⟨x, cap, rfl⟩ := e
    go_enter Tryz.func88, Tryz.ntmps88
    go_wp2
    go_quiet (fail)
    go_wp2
    go_returns
    exact ⟨0, by omega, by omega, rfl, ⟨_, n, p, hR.drew _⟩, grown_drew _ _ _⟩

end Go.Proofs.YtohcebiepekbeaaGreatDoor

namespace Go.Proofs.YtohcebiepekbeaaGreatDoor
open Go.ChangeShapes Go.WideShapes Go.ChangeAt Go.RowKit
set_option linter.unusedVariables false

theorem grown_trans {a b c : World} {row : Option Nat} (h : a.grownBy b row) (k : b.grownBy c row) : a.grownBy c row :=
  ⟨k.os.trans h.os, k.tape.trans h.tape, k.output.trans h.output, Nat.le_trans h.size k.size, fun i hi hne => (k.block i (Nat.lt_of_lt_of_le hi h.size) hne).trans (h.block i hi hne)⟩

theorem RdPost.weaken {lo hi lo' hi' : Int} {a : Nat} {w : World} {e : Ending} {w' : World} (h : RdPost lo hi a w e w') (h0 : lo' ≤ lo) (h1 : hi ≤ hi') : RdPost lo' hi' a w e w' := by
  obtain ⟨v, v0, v1, rest⟩ := h
  exact ⟨v, by omega, by omega, rest⟩

set_option maxHeartbeats 1000000 in
theorem below_c (a : Nat) (n m : Int) (hn : n ≤ 4611686018427387904) (h0 : 0 ≤ m) (hm : n - 1 ≤ m) (w : World) (h : Rd w a) : Calls Tryz.prog 60 #[.pointer (some ⟨a, 0, none⟩), .int .i64 n] w (RdPost 0 m a w) := by
  by_cases h1 : n ≤ 1
  · go_enter Tryz.func60, Tryz.ntmps60
    go_wp2_with fail
    go_returns
    exact ⟨0, by omega, by omega, rfl, h, World.grownBy.refl _ _⟩
  · by_cases h2 : n ≤ 256
    · go_enter Tryz.func60, Tryz.ntmps60
      go_wp2_with fail
      refine (next_c a _ h).mono ?_
      rintro e w1 ⟨v, v0, v1, rfl, hr, hg⟩
      go_wp2_with fail
      go_returns
      exact ⟨v % n, Int.emod_nonneg _ (by omega), by have := Int.emod_lt_of_pos v (show 0 < n by omega); omega, rfl, hr, hg⟩
    · go_enter Tryz.func60, Tryz.ntmps60
      go_wp2_with fail
      refine (next_c a _ h).mono ?_
      rintro e w1 ⟨v, v0, v1, rfl, hr, hg⟩
      go_wp2_with fail
      refine (next_c a _ hr).mono ?_
      rintro e w2 ⟨u, u0, u1, rfl, hr2, hg2⟩
      go_wp2_with fail
      go_returns
      exact ⟨(v * 256 + u) % n, Int.emod_nonneg _ (by omega), by have := Int.emod_lt_of_pos (v * 256 + u) (show 0 < n by omega); omega, rfl, hr2, grown_trans hg hg2⟩

/-- A yes or a no, the reader where it stood. -/
def RdBool (a : Nat) (w : World) : Ending → World → Prop := fun e w' => ∃ b : Bool, e = .returned (.bool b) ∧ Rd w' a ∧ w.grownBy w' (some a)

theorem once_c (a : Nat) (n : Int) (hn : n ≤ 4611686018427387904) (h0 : 1 ≤ n) (w : World) (h : Rd w a) : Calls Tryz.prog 31 #[.pointer (some ⟨a, 0, none⟩), .int .i64 n] w (RdBool a w) := by
  go_enter Tryz.func31, Tryz.ntmps31
  go_wp2_with fail
  refine (below_c a n (n - 1) hn (by omega) (by omega) _ h).mono ?_
  rintro e w1 ⟨v, v0, v1, rfl, hr, hg⟩
  go_wp2_with fail
  go_returns
  exact ⟨_, rfl, hr, hg⟩

/-- A word, the reader where it stood. -/
def RdWord (a : Nat) (w : World) : Ending → World → Prop := fun e w' => ∃ u : Int, 0 ≤ u ∧ u ≤ 18446744073709551615 ∧ e = .returned (.int .u64 u) ∧ Rd w' a ∧ w.grownBy w' (some a)

set_option maxHeartbeats 1000000 in
theorem word_c (a : Nat) (w : World) (h : Rd w a) : Calls Tryz.prog 111 #[.pointer (some ⟨a, 0, none⟩)] w (RdWord a w) := by
  go_enter Tryz.func111, Tryz.ntmps111
  go_wp2
  go_loopw [3, 4] (fun x i wr => ∃ (k : Nat) (u : Int), k ≤ 8 ∧ i = .int .i64 k ∧ x = .int .u64 u ∧ 0 ≤ u ∧ u ≤ 18446744073709551615 ∧ Rd wr a ∧ w.grownBy wr (some a)) (fun _ i _ => 8 - (intOf i).toNat)
  case atStart => exact ⟨0, 0, by omega, rfl, rfl, by omega, by omega, h, World.grownBy.refl _ _⟩
  case round =>
    obtain ⟨k, u, hk, rfl, rfl, u0, u1, hr, hg⟩ := hrel
    by_cases hlt : k < 8
    · go_wp2_with fail
      refine (next_c a _ hr).mono ?_
      rintro e w1 ⟨v, v0, v1, rfl, hr1, hg1⟩
      go_wp2_with fail
      go_roundw
      case rel =>
        have hb := bounds_u64 (wf_bits .or .u64 (IntKind.u64.wrap (u * 256)) v)
        exact ⟨k + 1, _, by omega, by go_num, rfl, hb.1, hb.2, hr1, grown_trans hg hg1⟩
      case measure => simp [intOf]; omega
    · go_wp2_with fail
      go_returns
      exact ⟨u, u0, u1, rfl, hr, hg⟩

theorem wrap64_range (n : Int) : -9223372036854775808 ≤ wrap64 n ∧ wrap64 n ≤ 9223372036854775807 := by unfold wrap64; omega
theorem small_range {n : Int} (h0 : -4611686018427387904 ≤ n) (h1 : n ≤ 4611686018427387904) : -9223372036854775808 ≤ n ∧ n ≤ 9223372036854775807 := by omega

/-- Any number at all. -/
def RdAny (a : Nat) (w : World) : Ending → World → Prop := RdPost (-9223372036854775808) 9223372036854775807 a w

set_option maxHeartbeats 1000000 in
theorem near_c (a : Nat) (lo hi : Int) (hl : -2305843009213693952 ≤ lo) (hh : hi ≤ 2305843009213693952) (hlh : lo ≤ hi) (w : World) (h : Rd w a) : Calls Tryz.prog 89 #[.pointer (some ⟨a, 0, none⟩), .int .i64 lo, .int .i64 hi] w (RdAny a w) := by
  go_enter Tryz.func89, Tryz.ntmps89
  go_wp2_with fail
  refine (below_c a 8 7 (by omega) (by omega) (by omega) _ h).mono ?_
  rintro e w1 ⟨v, v0, v1, rfl, hr, hg⟩
  by_cases c0 : v = 0
  · subst c0
    go_wp2_with fail
    go_returns
    exact ⟨lo, by omega, by omega, rfl, hr, hg⟩
  · by_cases c1 : v = 1
    · subst c1
      go_wp2_with fail
      go_returns
      exact ⟨hi, by omega, by omega, rfl, hr, hg⟩
    · go_wp2_with fail
      refine (word_c a _ hr).mono ?_
      rintro e w2 ⟨u, u0, u1, rfl, hr2, hg2⟩
      go_wp2_with fail
      go_returns
      refine ⟨_, ?_, ?_, rfl, hr2, grown_trans hg hg2⟩
      · exact (wrap64_range _).1
      · exact (wrap64_range _).2

set_option maxHeartbeats 1000000 in
theorem off_c (a : Nat) (lo hi : Int) (hl : -2305843009213693952 ≤ lo) (hh : hi ≤ 2305843009213693952) (hlh : lo ≤ hi) (w : World) (h : Rd w a) : Calls Tryz.prog 61 #[.pointer (some ⟨a, 0, none⟩), .int .i64 lo, .int .i64 hi] w (RdAny a w) := by
  go_enter Tryz.func61, Tryz.ntmps61
  go_wp2_with fail
  refine (once_c a 24 (by omega) (by omega) _ h).mono ?_
  rintro e w1 ⟨b, rfl, hr, hg⟩
  cases b with
  | false =>
    go_wp2_with fail
    refine (near_c a lo hi hl hh hlh _ hr).mono ?_
    rintro e w2 ⟨v, v0, v1, rfl, hr2, hg2⟩
    go_wp2_with fail
    go_returns
    exact ⟨v, v0, v1, rfl, hr2, grown_trans hg hg2⟩
  | true =>
    have ha : a < w1.heap.size := by
      obtain ⟨_, _, _, hb, _⟩ := hr
      exact (Array.getElem?_eq_some_iff.1 hb).1
    go_wp2_with fail
    refine (below_c a 4 3 (by omega) (by omega) (by omega) _ (hr.kept (World.grownBy_alloc w1 _ none) (by simp))).mono ?_
    rintro e w2 ⟨v, v0, v1, rfl, hr2, hg2⟩
    have hblk : w2.heap[w1.heap.size]? = some (.cells #[.int .i64 (lo - 1), .int .i64 (hi + 1), .int .i64 (-9223372036854775808), .int .i64 9223372036854775807] 2) :=
      (hg2.block _ (by simp) (fun e => by cases e; omega)).trans (blk_new w1 _)
    have d0 : w2.cell? ⟨w1.heap.size, 0, none⟩ = some (.int .i64 (lo - 1)) := by simp [World.cell?, hblk]
    have d1 : w2.cell? ⟨w1.heap.size, 1, none⟩ = some (.int .i64 (hi + 1)) := by simp [World.cell?, hblk]
    have d2 : w2.cell? ⟨w1.heap.size, 2, none⟩ = some (.int .i64 (-9223372036854775808)) := by simp [World.cell?, hblk]
    have d3 : w2.cell? ⟨w1.heap.size, 3, none⟩ = some (.int .i64 9223372036854775807) := by simp [World.cell?, hblk]
    have hg3 := grown_trans hg (grown_trans (World.grownBy_alloc w1 _ _) hg2)
    clear hblk
    rcases (show v = 0 ∨ v = 1 ∨ v = 2 ∨ v = 3 by omega) with rfl | rfl | rfl | rfl
    all_goals
      go_wp2_with fail
      go_returns
      exact ⟨_, by omega, by omega, rfl, hr2, hg3⟩

end Go.Proofs.YtohcebiepekbeaaGreatDoor

namespace Go.Proofs.YtohcebiepekbeaaGreatDoor
open Go.ChangeShapes Go.WideShapes Go.ChangeAt Go.RowKit
set_option linter.unusedVariables false

theorem open_c (x : Option Addr) (n cap : Nat) (w : World) : Calls Tryz.prog 30 #[.slice x n cap] w fun e w' => e = .returned (.pointer (some ⟨w.heap.size, 0, none⟩)) ∧ w' = w.alloc (.cells #[.slice x n cap, .int .i64 0] 97) := by
  go_enter Tryz.func30, Tryz.ntmps30
  go_wp2
  go_returns
  exact ⟨rfl, rfl⟩

theorem rd_open {w : World} {x : Option Addr} {n cap : Nat} (hc : Code w.heap.size w (.slice x n cap) n) (hn : n ≤ 1048576) : Rd (w.alloc (.cells #[.slice x n cap, .int .i64 0] 97)) w.heap.size :=
  ⟨_, n, 0, blk_new w _, Nat.zero_le _, hn, hc.below ((Below.refl _ _).alloc (Nat.le_refl _) _)⟩

/-- Any number; nothing that lay has turned. -/
def AnyInt (w : World) : Ending → World → Prop := fun e w' => ∃ v : Int, -9223372036854775808 ≤ v ∧ v ≤ 9223372036854775807 ∧ e = .returned (.int .i64 v) ∧ Below w.heap.size w w'

theorem grown_below {w a b : World} {k : Nat} (h : Below w.heap.size w a) (hg : a.grownBy b (some k)) (hk : w.heap.size ≤ k) : Below w.heap.size w b :=
  h.grown hg h.size (fun j e => by cases e; exact hk)

end Go.Proofs.YtohcebiepekbeaaGreatDoor

namespace Go.Proofs.YtohcebiepekbeaaGreatDoor
open Go.ChangeShapes Go.WideShapes Go.ChangeAt Go.RowKit
set_option linter.unusedVariables false
set_option linter.unusedSimpArgs false

theorem rd_put {w : World} {a b o : Nat} {v : Value} (h : Rd w a) (hb : a < b) : Rd (w.setCell ⟨b, o, none⟩ v) a :=
  h.kept (row := some b) ⟨rfl, rfl, rfl, by simp [World.setCell], fun k _ hk => by
    have hk' : b ≠ k := fun e => hk (by rw [e])
    simp [World.setCell, Array.getElem?_modify, hk']⟩ (fun k e => by cases e; exact hb)

theorem grown_put {u w : World} {b o : Nat} {v : Value} {row : Option Nat} (h : u.grownBy w row) (hb : u.heap.size ≤ b) : u.grownBy (w.setCell ⟨b, o, none⟩ v) row :=
  ⟨h.os, h.tape, h.output, by have := h.size; simpa [World.setCell] using this, fun k hk hne => by
    have hk' : b ≠ k := by omega
    rw [← h.block k hk hne]
    simp [World.setCell, Array.getElem?_modify, hk']⟩

/-- Some sample at this time, the reader where it stood. -/
def RdSm (at' : Int) (a : Nat) (w : World) : Ending → World → Prop := fun e w' => ∃ s : Sm, s.at_ = at' ∧ e = .returned (.agg #[.int .i64 s.off, .int .i64 s.delay, .int .i64 s.disp, .int .i64 s.at_]) ∧ Rd w' a ∧ w.grownBy w' (some a)

set_option maxHeartbeats 2000000 in
theorem sample_c (at' : Int) (a : Nat) (w : World) (h : Rd w a) : Calls Tryz.prog 59 #[.pointer (some ⟨a, 0, none⟩), .int .i64 at'] w (RdSm at' a w) := by
  have ha : a < w.heap.size := by
    obtain ⟨_, _, _, hb, _⟩ := h
    exact (Array.getElem?_eq_some_iff.1 hb).1
  go_enter Tryz.func59, Tryz.ntmps59
  go_wp2_with fail
  refine (below_c _ 20000 19999 (by omega) (by omega) (by omega) _ (h.kept (World.grownBy_alloc w _ none) (by simp))).mono ?_
  rintro e w1 ⟨o, o0, o1, rfl, hr1, hg1⟩
  go_wp2_with fail
  refine (below_c _ 30000 29999 (by omega) (by omega) (by omega) _ hr1).mono ?_
  rintro e w2 ⟨d, d0, d1, rfl, hr2, hg2⟩
  have hg2 := grown_trans hg1 hg2
  go_wp2_with fail
  refine (below_c _ 2000 1999 (by omega) (by omega) (by omega) _ hr2).mono ?_
  rintro e w3 ⟨p, p0, p1, rfl, hr3, hg3⟩
  have hg3 := grown_trans hg2 hg3
  go_wp2_with fail
  have s3 := hg3.size
  simp only [World.size_alloc] at s3
  refine (below_c _ 40 39 (by omega) (by omega) (by omega) _ (hr3.kept (World.grownBy_alloc w3 _ none) (by simp))).mono ?_
  rintro e w4 ⟨c, c0, c1, rfl, hr4, hg4⟩
  have s4 := hg4.size
  simp only [World.size_alloc] at s4
  have hZ3 : w3.heap[w.heap.size]? = some (.cells #[.int .i64 0, .int .i64 0, .int .i64 0, .int .i64 0] 23) := (hg3.block _ (by simp) (fun e => by simp only [Option.some.injEq] at e; omega)).trans (blk_new w _)
  have hZ4 : w4.heap[w.heap.size]? = some (.cells #[.int .i64 0, .int .i64 0, .int .i64 0, .int .i64 0] 23) := (hg4.block _ (by simp; omega) (fun e => by simp only [Option.some.injEq] at e; omega)).trans (blk_alloc hZ3 _)
  have hP4 : w4.heap[w3.heap.size]? = some (.cells #[.int .i64 (o - 10000), .int .i64 d, .int .i64 p, .int .i64 at'] 23) := (hg4.block _ (by simp) (fun e => by simp only [Option.some.injEq] at e; omega)).trans (blk_new w3 _)
  have G4 : w.grownBy w4 (some a) := grown_trans (grown_trans (World.grownBy_alloc w _ _) hg3) (grown_trans (World.grownBy_alloc w3 _ _) hg4)
  by_cases e38 : c = 38
  · subst e38
    go_wp2_with fail
    refine (off_c _ (-1000000000000) 1000000000000 (by omega) (by omega) (by omega) _ hr4).mono ?_
    rintro e w5 ⟨u, u0, u1, rfl, hr5, hg5⟩
    have hZ5 := (hg5.block _ (Array.getElem?_eq_some_iff.1 hZ4).1 (fun e => by simp only [Option.some.injEq] at e; omega)).trans hZ4
    have hP5 := (hg5.block _ (Array.getElem?_eq_some_iff.1 hP4).1 (fun e => by simp only [Option.some.injEq] at e; omega)).trans hP4
    have hZ6 : (w5.setCell ⟨w3.heap.size, 0, none⟩ (.int .i64 u)).heap[w.heap.size]? = some (.cells #[.int .i64 0, .int .i64 0, .int .i64 0, .int .i64 0] 23) := by
      have : w3.heap.size ≠ w.heap.size := by omega
      simp [World.setCell, Array.getElem?_modify, this, hZ5]
    have hP6 : (w5.setCell ⟨w3.heap.size, 0, none⟩ (.int .i64 u)).heap[w3.heap.size]? = some (.cells #[.int .i64 u, .int .i64 d, .int .i64 p, .int .i64 at'] 23) := by
      simp [World.setCell, Array.getElem?_modify, hP5]
    obtain ⟨Z0, Z1, Z2, Z3⟩ := sample_cells (q := ⟨0, 0, 0, 0⟩) hZ6
    obtain ⟨Y0, Y1, Y2, Y3⟩ := sample_thaw (q := ⟨0, 0, 0, 0⟩) hZ6
    obtain ⟨C0, C1, C2, C3⟩ := sample_cells (q := ⟨u, d, p, at'⟩) hP6
    have B0 := (sample_cells (q := ⟨o - 10000, d, p, at'⟩) hP5).1
    have D0 := (sample_thaw (q := ⟨o - 10000, d, p, at'⟩) hP5).1
    dsimp only at C0 C1 C2 C3 B0 D0
    go_wp2_with fail
    obtain ⟨W, hW⟩ : ∃ W, W = (((((w5.setCell ⟨w3.heap.size, 0, none⟩ (.int .i64 u)).setCell ⟨w.heap.size, 0, none⟩ (.int .i64 (u))).setCell ⟨w.heap.size, 1, none⟩ (.int .i64 (d))).setCell ⟨w.heap.size, 2, none⟩ (.int .i64 (p))).setCell ⟨w.heap.size, 3, none⟩ (.int .i64 (at'))) := ⟨_, rfl⟩
    have K : W.heap[w.heap.size]? = some (.cells #[.int .i64 (u), .int .i64 (d), .int .i64 (p), .int .i64 (at')] 23) := by
      rw [hW]
      exact sample_put (q := ⟨0, 0, 0, 0⟩) hZ6 ⟨u, d, p, at'⟩
    obtain ⟨R0, R1, R2, R3⟩ := sample_cells (q := ⟨u, d, p, at'⟩) K
    dsimp only at R0 R1 R2 R3
    have hWr : Rd W a := by
      subst hW
      repeat (refine rd_put ?_ (by omega))
      exact hr5
    have hWg : w.grownBy W (some a) := by
      subst hW
      repeat (refine grown_put ?_ (by omega))
      exact (grown_trans G4 hg5)
    rw [← hW]
    clear hW
    try simp only [Exit.inBlock, Exit.then]
    refine bodyPost_ret (by simp [results, Tryz.results59, go_sem, R0, R1, R2, R3]; try rfl) rfl ?_
    exact ⟨⟨u, d, p, at'⟩, rfl, rfl, hWr, hWg⟩
  · by_cases e39 : c = 39
    · subst e39
      go_wp2_with fail
      refine (off_c _ 0 1000000000000 (by omega) (by omega) (by omega) _ hr4).mono ?_
      rintro e w5 ⟨u, u0, u1, rfl, hr5, hg5⟩
      have hZ5 := (hg5.block _ (Array.getElem?_eq_some_iff.1 hZ4).1 (fun e => by simp only [Option.some.injEq] at e; omega)).trans hZ4
      have hP5 := (hg5.block _ (Array.getElem?_eq_some_iff.1 hP4).1 (fun e => by simp only [Option.some.injEq] at e; omega)).trans hP4
      have hZ6 : (w5.setCell ⟨w3.heap.size, 1, none⟩ (.int .i64 u)).heap[w.heap.size]? = some (.cells #[.int .i64 0, .int .i64 0, .int .i64 0, .int .i64 0] 23) := by
        have : w3.heap.size ≠ w.heap.size := by omega
        simp [World.setCell, Array.getElem?_modify, this, hZ5]
      have hP6 : (w5.setCell ⟨w3.heap.size, 1, none⟩ (.int .i64 u)).heap[w3.heap.size]? = some (.cells #[.int .i64 (o - 10000), .int .i64 u, .int .i64 p, .int .i64 at'] 23) := by
        simp [World.setCell, Array.getElem?_modify, hP5]
      obtain ⟨Z0, Z1, Z2, Z3⟩ := sample_cells (q := ⟨0, 0, 0, 0⟩) hZ6
      obtain ⟨Y0, Y1, Y2, Y3⟩ := sample_thaw (q := ⟨0, 0, 0, 0⟩) hZ6
      obtain ⟨C0, C1, C2, C3⟩ := sample_cells (q := ⟨o - 10000, u, p, at'⟩) hP6
      have B0 := (sample_cells (q := ⟨o - 10000, d, p, at'⟩) hP5).2.1
      have D0 := (sample_thaw (q := ⟨o - 10000, d, p, at'⟩) hP5).2.1
      dsimp only at C0 C1 C2 C3 B0 D0
      go_wp2_with fail
      obtain ⟨W, hW⟩ : ∃ W, W = (((((w5.setCell ⟨w3.heap.size, 1, none⟩ (.int .i64 u)).setCell ⟨w.heap.size, 0, none⟩ (.int .i64 (o - 10000))).setCell ⟨w.heap.size, 1, none⟩ (.int .i64 (u))).setCell ⟨w.heap.size, 2, none⟩ (.int .i64 (p))).setCell ⟨w.heap.size, 3, none⟩ (.int .i64 (at'))) := ⟨_, rfl⟩
      have K : W.heap[w.heap.size]? = some (.cells #[.int .i64 (o - 10000), .int .i64 (u), .int .i64 (p), .int .i64 (at')] 23) := by
        rw [hW]
        exact sample_put (q := ⟨0, 0, 0, 0⟩) hZ6 ⟨o - 10000, u, p, at'⟩
      obtain ⟨R0, R1, R2, R3⟩ := sample_cells (q := ⟨o - 10000, u, p, at'⟩) K
      dsimp only at R0 R1 R2 R3
      have hWr : Rd W a := by
        subst hW
        repeat (refine rd_put ?_ (by omega))
        exact hr5
      have hWg : w.grownBy W (some a) := by
        subst hW
        repeat (refine grown_put ?_ (by omega))
        exact (grown_trans G4 hg5)
      rw [← hW]
      clear hW
      try simp only [Exit.inBlock, Exit.then]
      refine bodyPost_ret (by simp [results, Tryz.results59, go_sem, R0, R1, R2, R3]; try rfl) rfl ?_
      exact ⟨⟨o - 10000, u, p, at'⟩, rfl, rfl, hWr, hWg⟩
    · obtain ⟨Z0, Z1, Z2, Z3⟩ := sample_cells (q := ⟨0, 0, 0, 0⟩) hZ4
      obtain ⟨Y0, Y1, Y2, Y3⟩ := sample_thaw (q := ⟨0, 0, 0, 0⟩) hZ4
      obtain ⟨C0, C1, C2, C3⟩ := sample_cells (q := ⟨o - 10000, d, p, at'⟩) hP4
      dsimp only at C0 C1 C2 C3
      go_wp2_with fail
      obtain ⟨W, hW⟩ : ∃ W, W = ((((w4.setCell ⟨w.heap.size, 0, none⟩ (.int .i64 (o - 10000))).setCell ⟨w.heap.size, 1, none⟩ (.int .i64 (d))).setCell ⟨w.heap.size, 2, none⟩ (.int .i64 (p))).setCell ⟨w.heap.size, 3, none⟩ (.int .i64 (at'))) := ⟨_, rfl⟩
      have K : W.heap[w.heap.size]? = some (.cells #[.int .i64 (o - 10000), .int .i64 (d), .int .i64 (p), .int .i64 (at')] 23) := by
        rw [hW]
        exact sample_put (q := ⟨0, 0, 0, 0⟩) hZ4 ⟨o - 10000, d, p, at'⟩
      obtain ⟨R0, R1, R2, R3⟩ := sample_cells (q := ⟨o - 10000, d, p, at'⟩) K
      dsimp only at R0 R1 R2 R3
      have hWr : Rd W a := by
        subst hW
        repeat (refine rd_put ?_ (by omega))
        exact hr4
      have hWg : w.grownBy W (some a) := by
        subst hW
        repeat (refine grown_put ?_ (by omega))
        exact G4
      rw [← hW]
      clear hW
      try simp only [Exit.inBlock, Exit.then]
      refine bodyPost_ret (by simp [results, Tryz.results59, go_sem, R0, R1, R2, R3]; try rfl) rfl ?_
      exact ⟨⟨o - 10000, d, p, at'⟩, rfl, rfl, hWr, hWg⟩
end Go.Proofs.YtohcebiepekbeaaGreatDoor

namespace Go.Proofs.YtohcebiepekbeaaGreatDoor
open Go.ChangeShapes Go.WideShapes Go.ChangeAt Go.RowKit
set_option linter.unusedVariables false
set_option linter.unusedSimpArgs false

/-- Some peers, so many at most; the reader where it stood. -/
def RdPrs (m : Nat) (a : Nat) (w : World) : Ending → World → Prop := fun e w' =>
  ∃ (x : Option Addr) (cap : Nat) (l : List Pr), e = .returned (.slice x l.length cap) ∧ l.length ≤ m ∧ PrRow w.heap.size w' x cap l ∧ Rd w' a ∧ w.grownBy w' (some a)

theorem grown_ownP {w b c : World} {a : Nat} {row : Option Nat} (h : w.grownBy b (some a)) (hg : b.grownBy c row) (hrow : ∀ k, row = some k → w.heap.size ≤ k) : w.grownBy c (some a) :=
  ⟨hg.os.trans h.os, hg.tape.trans h.tape, hg.output.trans h.output, Nat.le_trans h.size hg.size, fun i hi hne => (hg.block i (Nat.lt_of_lt_of_le hi h.size) (fun e => by have := hrow i e.symm; omega)).trans (h.block i hi hne)⟩

/-- What lies while peers are drawn: a row of the call's own, the reader where it stood. -/
structure PD (w wr : World) (a : Nat) (o : Value) (l : List Pr) : Prop where
  low : a < w.heap.size
  row : wr.ownsRow w.heap.size 49 6 o l.length (flatPr l)
  rd : Rd wr a
  grown : w.grownBy wr (some a)
section
variable {w wr w' : World} {a : Nat} {o : Value} {l : List Pr}
theorem PD.grow (h : PD w wr a o l) (hr : Rd w' a) (hg : wr.grownBy w' (some a)) : PD w w' a o l :=
  ⟨h.low, h.row.kept hg (.inr (fun e => by have := (h.row.lt a e).1; have := h.low; omega)), hr, grown_trans h.grown hg⟩
theorem PD.alloc (h : PD w wr a o l) (b : Obj) : PD w (wr.alloc b) a o l :=
  ⟨h.low, h.row.alloc b, h.rd.kept (World.grownBy_alloc wr _ none) (by simp), grown_trans h.grown (World.grownBy_alloc wr _ _)⟩
theorem PD.drew (h : PD w wr a o l) : PD w wr.drew a o l :=
  h.grow (h.rd.kept (row := none) ⟨rfl, rfl, rfl, Nat.le_refl _, fun _ _ _ => rfl⟩ (by simp)) ⟨rfl, rfl, rfl, Nat.le_refl _, fun _ _ _ => rfl⟩
theorem PD.app {p : Pr} {o' : Value} {T : TypeId} {cs : Array Value} (h : PD w wr a o l) (hown : w'.ownsRow w.heap.size 49 6 o' (l.length + 1) (flatPr l ++ p.cells)) (hg : (wr.alloc (.cells cs T)).grownBy w' o.ownBlock) : PD w w' a o' (l ++ [p]) :=
  ⟨h.low, by rw [flatPr_append, List.length_append]; simpa [flatPr] using hown, (h.alloc (.cells cs T)).rd.kept hg (fun k e => by have := (h.row.lt k e).1; have := h.low; omega),
   grown_ownP (h.alloc (.cells cs T)).grown hg (fun k e => (h.row.lt k e).1)⟩
theorem PD.put {b i : Nat} {v : Value} (h : PD w wr a o l) (hb : ∀ k, o.ownBlock = some k → k < b) (hw : w.heap.size ≤ b) : PD w (wr.setCell ⟨b, i, none⟩ v) a o l := by
  have hg : wr.grownBy (wr.setCell ⟨b, i, none⟩ v) (some b) := ⟨rfl, rfl, rfl, by simp [World.setCell], fun j hj hne => by
    have : b ≠ j := fun e => hne (by rw [e])
    simp [World.setCell, Array.getElem?_modify, this]⟩
  have hlow := h.low
  refine ⟨h.low, h.row.kept hg ?_, h.rd.kept hg (fun k e => by simp only [Option.some.injEq] at e; omega), grown_ownP h.grown hg (fun k e => by simp only [Option.some.injEq] at e; omega)⟩
  cases ho : o.ownBlock with
  | none => exact .inl rfl
  | some k => exact .inr (fun e => by simp only [Option.some.injEq] at e; have := hb k ho; omega)
theorem PD.size (h : PD w wr a o l) : w.heap.size ≤ wr.heap.size := h.grown.size
end
theorem rd_blkP {w w' : World} {a k : Nat} {o : Obj} (hg : w.grownBy w' (some a)) (h : w.heap[k]? = some o) (hne : k ≠ a) : w'.heap[k]? = some o :=
  (hg.block k (Array.getElem?_eq_some_iff.1 h).1 (fun e => by simp only [Option.some.injEq] at e; omega)).trans h

/-- One step of a region that draws: an append onto a row of the caller's own. -/
theorem step_append_ownP {P : Program} {ops : Array Oper} {o : Oper} {a : Act} {w : World} {K : Act → World → Prop} {Q : Exit → Act → World → Prop} {E : Prop} (hgd : o.guard = none) (s x : Operand) (t : TypeId)
    (ho : o.op = .call { callee := .builtin .append, args := #[s, x], argTypes := #[t, t] })
    (base : Nat) (e : TypeId) (i : TypeInfo) (z : Value) (size bytes : Nat) (ht : P.underlying t = some (.slice e)) (hi : P.info? e = some i) (hz : i.zero = some z)
    (hsize : i.size = size) (hby : i.bytes = bytes) (hzs : z.cells.size = size) (hsz : 0 < size)
    (v : Value) (n : Nat) (xs : List Value) (hs : a.eval s = v) (hown : w.ownsRow base e size v n xs)
    (ad : Addr) (m c : Nat) (news : List Value) (hx : a.eval x = .slice (some ad) m c) (hl : news.length = m * size) (hnews : ∀ j u, news[j]? = some u → w.cell? (ad.add j) = some u) (h1 : ∀ u ∈ news, u.oneCell' = true)
    (h63 : n + m ≤ maxLen) (hbytes : (n + m) * bytes ≤ 140737488355328) (hbase : base ≤ w.heap.size)
    (h : ∀ v' w', w'.ownsRow base e size v' (n + m) (xs ++ news) → w.grownBy w' v.ownBlock → (v' = .slice none 0 0 ↔ v = .slice none 0 0 ∧ m = 0) → K (a.put o.dst v') w') :
    if Region.wanted o (yielded ops a.tmps) = true then Oper.wp P o a w K Q else E := by
  have hw : Region.wanted o (yielded ops a.tmps) = true := by simp [Region.wanted, hgd]
  rw [if_pos hw]
  exact wp_append_own w s x t ho base e i z size bytes ht hi hz hsize hby hzs hsz v n xs hs hown ad m c news hx hl hnews h1 h63 hbytes hbase h

set_option maxHeartbeats 4000000 in
set_option maxRecDepth 100000 in
theorem peers_c (a : Nat) (m : Nat) (hm : m ≤ 100) (w : World) (h : Rd w a) : Calls Tryz.prog 50 #[.pointer (some ⟨a, 0, none⟩), .int .i64 m] w (RdPrs m a w) := by
  obtain ⟨i0, hi, hz0, hz1, hz2⟩ := info_partsT infoPr'
  have HI0 := Lib.hid hi
  have HZ0 := Lib.hid hz0
  have HZ1 := Lib.hid hz1
  have HZ2 := Lib.hid hz2
  clear hi hz0 hz1 hz2
  have ha : a < w.heap.size := by
    obtain ⟨_, _, _, hb, _⟩ := h
    exact (Array.getElem?_eq_some_iff.1 hb).1
  go_enter Tryz.func50, Tryz.ntmps50
  go_wp2_with fail
  have D0 : PD w (w.alloc (.cells #[] 49)) a (.slice (some ⟨w.heap.size, 0, none⟩) 0 0) [] :=
    ⟨ha, World.ownsRow_made (base := w.heap.size) (e := 49) (size := 6) w #[] 0 (Nat.le_refl _) (by simp [maxLen]) rfl, h.kept (World.grownBy_alloc w _ none) (by simp), World.grownBy_alloc w _ _⟩
  refine (below_c a ((m : Int) + 1) m (by omega) (by omega) (by omega) _ D0.rd).mono ?_
  rintro e w2 ⟨v, v0, v1, rfl, hr2, hg2⟩
  have D2 := D0.grow hr2 hg2
  clear D0 hg2 hr2
  obtain ⟨j, rfl⟩ := Int.eq_ofNat_of_zero_le v0
  go_wp2_with fail
  go_loopw [5, 6, 7] (fun o d i wr => ∃ (k : Nat) (l : List Pr) (n : Int), k ≤ j ∧ i = .int .i64 k ∧ l.length + k = j ∧ d = .int .i64 n ∧ 0 ≤ n ∧ n ≤ 3 * (l.length : Int) ∧ PD w wr a o l) (fun _ _ i _ => (intOf i).toNat)
  case atStart => exact ⟨j, [], 0, Nat.le_refl _, rfl, by simp, rfl, by omega, by simp, D2⟩
  case round =>
    obtain ⟨k, l, n, hk, rfl, hlk, rfl, n0, n1, D⟩ := hrel
    by_cases hk0 : 0 < k
    · have hk1 : (0 : Int) < (k : Int) := by omega
      have hln : (l.length : Int) ≤ 100 := by omega
      go_wp2_with fail
      refine (below_c a 3 2 (by omega) (by omega) (by omega) _ D.rd).mono ?_
      rintro e w3 ⟨c, c0, c1, rfl, hr3, hg3⟩
      have D3 := D.grow hr3 hg3
      clear D hg3 hr3
      go_wp2_with fail
      refine (below_c a 1048576 1048575 (by omega) (by omega) (by omega) _ D3.rd).mono ?_
      rintro e w4 ⟨t, t0, t1, rfl, hr4, hg4⟩
      have D4 := D3.grow hr4 hg4
      clear D3 hg4 hr4
      go_wp2_with fail
      refine (sample_c t a _ D4.rd).mono ?_
      rintro e w5 ⟨s, hst, rfl, hr5, hg5⟩
      have D5 := (D4.grow hr5 hg5).alloc (.cells #[.int .i64 s.off, .int .i64 s.delay, .int .i64 s.disp, .int .i64 s.at_] 23)
      have P5 := blk_new w5 (.cells #[.int .i64 s.off, .int .i64 s.delay, .int .i64 s.disp, .int .i64 s.at_] 23)
      have L5 : w.heap.size ≤ w5.heap.size := (D4.grow hr5 hg5).size
      have HB : Hid (∀ k, u5.ownBlock = some k → k < w5.heap.size) := Lib.hid (fun k e => ((D4.grow hr5 hg5).row.lt k e).2)
      clear D4 hg5 hr5 hst
      go_wp2_with fail
      refine (once_c a 4 (by omega) (by omega) _ D5.rd).mono ?_
      rintro e w6 ⟨b, rfl, hr6, hg6⟩
      have D6 := D5.grow hr6 hg6
      have P6 := rd_blkP hg6 P5 (by omega)
      clear D5 P5 hg6 hr6
      have HU := Lib.hid (show ∀ u : Int, 0 ≤ u → u ≤ 2 → IntKind.i64.wrap (1 + u) = 1 + u from fun u _ _ => IntWalk.i64_in _ (by omega))
      cases b with
      | true =>
        go_wp2_with fail
        have Dd := D6.drew
        obtain ⟨x0, x1, x2, x3⟩ := sample_cells P6
        have Pd : w6.drew.heap[w5.heap.size]? = some (.cells #[.int .i64 s.off, .int .i64 s.delay, .int .i64 s.disp, .int .i64 s.at_] 23) := P6
        have X : w6.drew.cell? ⟨w5.heap.size, 0, none⟩ = some (.int .i64 s.off) ∧ w6.drew.cell? ⟨w5.heap.size, 1, none⟩ = some (.int .i64 s.delay) ∧ w6.drew.cell? ⟨w5.heap.size, 2, none⟩ = some (.int .i64 s.disp) ∧ w6.drew.cell? ⟨w5.heap.size, 3, none⟩ = some (.int .i64 s.at_) := ⟨x0, x1, x2, x3⟩
        clear x0 x1 x2 x3
        go_region_held3 (fun w' => w'.cell? ⟨w5.heap.size, 0, none⟩ = some (.int .i64 s.off) ∧ w'.cell? ⟨w5.heap.size, 1, none⟩ = some (.int .i64 s.delay) ∧ w'.cell? ⟨w5.heap.size, 2, none⟩ = some (.int .i64 s.disp) ∧ w'.cell? ⟨w5.heap.size, 3, none⟩ = some (.int .i64 s.at_)) (first | with_reducible exact X9 | with_reducible exact X8 | with_reducible exact X | with_reducible assumption | with_reducible exact sample_cells (blk_alloc P8 _))
          (first
           | (refine step_append_ownP rfl _ _ 38 rfl w.heap.size 49 i0 (.agg #[.int .i64 0, .int .i64 0, .int .i64 0, .int .i64 0, .int .i64 0, .int .i64 0]) 6 48 Tryz.underlying38 HI0.out HZ0.out HZ1.out HZ2.out rfl (by decide) u5 l.length (flatPr l) (by simp [Act.eval, Act.put]) (D8.row.alloc _) ⟨w8.heap.size, 0, none⟩ 1 1 (Pr.cells ⟨n + (1 + c), 1 + u, s⟩) (by simp [Act.eval, Act.put]) rfl (cell_six_new w8 ⟨n + (1 + c), 1 + u, s⟩ _) (by simp [Pr.cells, Value.oneCell']) (by unfold maxLen; omega) (by omega) (by have := D8.size; simp; omega) ?_; intro v9 w9 hown9 hgr9 hno9; have P9 : w9.heap[w5.heap.size]? = some (.cells #[.int .i64 s.off, .int .i64 s.delay, .int .i64 s.disp, .int .i64 s.at_] 23) := (hgr9.block w5.heap.size (by have := (Array.getElem?_eq_some_iff.1 P8).1; simp; omega) (fun e => by have := HB.out _ e.symm; omega)).trans (blk_alloc P8 _); have X9 := sample_cells P9)
           | (go_at_call 60; (with_reducible refine (below_c a 3 2 (by omega) (by omega) (by omega) _ Dd.rd).mono ?_); rintro e w8 ⟨u, u0, u1, rfl, hr8, hg8⟩
              have D8 := Dd.grow hr8 hg8
              have P8 := rd_blkP hg8 Pd (by omega)
              have X8 := sample_cells P8
              have hw := HU.out u u0 u1))
        have D9 := D8.app (p := ⟨n + (1 + c), 1 + u, s⟩) hown9 hgr9
        clear hown9 hgr9 hno9 X9 P9 P8 X8 D8
        go_wp2_with fail
        go_roundw
        case rel => exact ⟨k - 1, l ++ [⟨n + (1 + c), 1 + u, s⟩], n + (1 + c), by omega, by rw [show ((k - 1 : Nat) : Int) = (k : Int) - 1 from by omega], by simp; omega, rfl, by omega, by simp; omega, D9⟩
        case measure => simp [intOf]; omega
      | false =>
        go_wp2_with fail
        refine (below_c a 300 299 (by omega) (by omega) (by omega) _ D6.rd).mono ?_
        rintro e w7 ⟨z, z0, z1, rfl, hr7, hg7⟩
        have D7 := D6.grow hr7 hg7
        have P7 := rd_blkP hg7 P6 (by omega)
        clear D6 P6 hg7 hr7
        obtain ⟨y0, _, _, _⟩ := sample_cells P7
        have f0 : w7.frozen? ⟨w5.heap.size, 0, none⟩ = false := by simp [World.frozen?, P7]
        have P6 : (w7.setCell ⟨w5.heap.size, 0, none⟩ (.int .i64 z)).heap[w5.heap.size]? = some (.cells #[.int .i64 z, .int .i64 s.delay, .int .i64 s.disp, .int .i64 s.at_] 23) := by simp [World.setCell, Array.getElem?_modify, P7]
        have D6 := D7.put (b := w5.heap.size) (i := 0) (v := .int .i64 z) HB.out L5
        obtain ⟨w6, hw6⟩ : ∃ w6, w6 = w7.setCell ⟨w5.heap.size, 0, none⟩ (.int .i64 z) := ⟨_, rfl⟩
        go_upto_region 10 with (fail)
        rw [← hw6] at P6 D6 ⊢
        clear hw6 D7 P7
        have Dd := D6.drew
        obtain ⟨x0, x1, x2, x3⟩ := sample_cells (q := ⟨z, s.delay, s.disp, s.at_⟩) P6
        have Pd : w6.drew.heap[w5.heap.size]? = some (.cells #[.int .i64 z, .int .i64 s.delay, .int .i64 s.disp, .int .i64 s.at_] 23) := P6
        have X : w6.drew.cell? ⟨w5.heap.size, 0, none⟩ = some (.int .i64 z) ∧ w6.drew.cell? ⟨w5.heap.size, 1, none⟩ = some (.int .i64 s.delay) ∧ w6.drew.cell? ⟨w5.heap.size, 2, none⟩ = some (.int .i64 s.disp) ∧ w6.drew.cell? ⟨w5.heap.size, 3, none⟩ = some (.int .i64 s.at_) := ⟨x0, x1, x2, x3⟩
        clear x0 x1 x2 x3
        go_region_held3 (fun w' => w'.cell? ⟨w5.heap.size, 0, none⟩ = some (.int .i64 z) ∧ w'.cell? ⟨w5.heap.size, 1, none⟩ = some (.int .i64 s.delay) ∧ w'.cell? ⟨w5.heap.size, 2, none⟩ = some (.int .i64 s.disp) ∧ w'.cell? ⟨w5.heap.size, 3, none⟩ = some (.int .i64 s.at_)) (first | with_reducible exact X9 | with_reducible exact X8 | with_reducible exact X | with_reducible assumption | with_reducible exact sample_cells (q := ⟨z, s.delay, s.disp, s.at_⟩) (blk_alloc P8 _))
          (first
           | (refine step_append_ownP rfl _ _ 38 rfl w.heap.size 49 i0 (.agg #[.int .i64 0, .int .i64 0, .int .i64 0, .int .i64 0, .int .i64 0, .int .i64 0]) 6 48 Tryz.underlying38 HI0.out HZ0.out HZ1.out HZ2.out rfl (by decide) u5 l.length (flatPr l) (by simp [Act.eval, Act.put]) (D8.row.alloc _) ⟨w8.heap.size, 0, none⟩ 1 1 (Pr.cells ⟨n + (1 + c), 1 + u, ⟨z, s.delay, s.disp, s.at_⟩⟩) (by simp [Act.eval, Act.put]) rfl (cell_six_new w8 ⟨n + (1 + c), 1 + u, ⟨z, s.delay, s.disp, s.at_⟩⟩ _) (by simp [Pr.cells, Value.oneCell']) (by unfold maxLen; omega) (by omega) (by have := D8.size; simp; omega) ?_; intro v9 w9 hown9 hgr9 hno9; have P9 : w9.heap[w5.heap.size]? = some (.cells #[.int .i64 z, .int .i64 s.delay, .int .i64 s.disp, .int .i64 s.at_] 23) := (hgr9.block w5.heap.size (by have := (Array.getElem?_eq_some_iff.1 P8).1; simp; omega) (fun e => by have := HB.out _ e.symm; omega)).trans (blk_alloc P8 _); have X9 := sample_cells (q := ⟨z, s.delay, s.disp, s.at_⟩) P9)
           | (go_at_call 60; (with_reducible refine (below_c a 3 2 (by omega) (by omega) (by omega) _ Dd.rd).mono ?_); rintro e w8 ⟨u, u0, u1, rfl, hr8, hg8⟩
              have D8 := Dd.grow hr8 hg8
              have P8 := rd_blkP hg8 Pd (by omega)
              have X8 := sample_cells (q := ⟨z, s.delay, s.disp, s.at_⟩) P8
              have hw := HU.out u u0 u1))
        have D9 := D8.app (p := ⟨n + (1 + c), 1 + u, ⟨z, s.delay, s.disp, s.at_⟩⟩) hown9 hgr9
        clear hown9 hgr9 hno9 X9 P9 P8 X8 D8
        go_wp2_with fail
        go_roundw
        case rel => exact ⟨k - 1, l ++ [⟨n + (1 + c), 1 + u, ⟨z, s.delay, s.disp, s.at_⟩⟩], n + (1 + c), by omega, by rw [show ((k - 1 : Nat) : Int) = (k : Int) - 1 from by omega], by simp; omega, rfl, by omega, by simp; omega, D9⟩
        case measure => simp [intOf]; omega
    · have hk1 : ¬ (0 : Int) < (k : Int) := by omega
      go_wp2_with fail
      refine (once_c a 30 (by omega) (by omega) _ D.rd).mono ?_
      rintro e w3 ⟨b, rfl, hr3, hg3⟩
      have D3 := D.grow hr3 hg3
      obtain ⟨x, cap, rfl⟩ := ownsRow_formT D3.row
      clear D hg3 hr3
      have hlj : l.length ≤ m := by omega
      cases b with
      | false =>
        go_wp2_with fail
        go_returns
        exact ⟨x, cap, l, rfl, hlj, D3.row, D3.rd, D3.grown⟩
      | true =>
        cases l with
        | nil =>
          go_wp2_with fail
          go_returns
          exact ⟨x, cap, [], rfl, hlj, D3.row, D3.rd, D3.grown⟩
        | cons v r =>
          obtain ⟨q, hq⟩ : ∃ q, q = (v :: r).length := ⟨_, rfl⟩
          have hn0 : 0 < q := by rw [hq]; simp
          have hn1' : (0 : Int) < (q : Int) := by omega
          have hnm : q ≤ m := by rw [hq]; exact hlj
          have HN := Lib.hid hq
          rw [← hq]
          clear hq hlj hlk n1
          go_wp2_with fail
          refine (off_c a 1 15 (by omega) (by omega) (by omega) _ D3.rd).mono ?_
          rintro e w4 ⟨u, u0, u1, rfl, hr4, hg4⟩
          have D4 := D3.grow hr4 hg4
          have hrow5 := D4.row
          rcases D4.row.2 with ⟨e, e0⟩ | ⟨g, c, cur, e, hbg, hg, _⟩
          · simp at e0
          · simp only [Value.slice.injEq] at e
            obtain ⟨rfl, _, rfl⟩ := e
            have c1 := World.ownsRow.cellAt hrow5 1 (by simp; omega)
            have f1 := World.ownsRow.frozenAt hrow5 1
            have hst := World.ownsRow.stored hrow5 1 (.int .i64 u)
            have e1 : (flatPr (v :: r))[1]? = some (.int .i64 v.str) := rfl
            rw [e1] at c1
            have hst1 : (w4.setCell ⟨g, 1, none⟩ (.int .i64 u)).ownsRow w.heap.size 49 6 (.slice (some ⟨g, 0, none⟩) (v :: r).length cap) (v :: r).length (flatPr (⟨v.id, u, v.s⟩ :: r)) := hst.1
            have hr5 := D4.rd.kept hst.2 (fun k e => by simp only [Option.some.injEq] at e; omega)
            have hg5 := grown_ownP D4.grown hst.2 (fun k e => by simp only [Option.some.injEq] at e; omega)
            rw [← HN.out] at hst1
            have HS := Lib.hid hst1
            clear hst hst1 D3 D4 hrow5 e1 hg hr4 hg4
            go_wp2_with fail
            go_returns
            refine ⟨_, cap, ⟨v.id, u, v.s⟩ :: r, by rw [HN.out]; rfl, by have := HN.out; simp at this ⊢; omega, ?_, hr5, hg5⟩
            have := HS.out
            rw [HN.out] at this
            exact this

/-- Some peers, so many at most, in a row of the call's own; nothing that lay has turned. -/
def AnyPrs (m : Nat) (w : World) : Ending → World → Prop := fun e w' =>
  ∃ (x : Option Addr) (cap : Nat) (l : List Pr), e = .returned (.slice x l.length cap) ∧ l.length ≤ m ∧ l.length ≤ cap ∧ cap ≤ maxLen ∧ Prs w'.heap.size w' x l ∧ Below w.heap.size w w'

end Go.Proofs.YtohcebiepekbeaaGreatDoor

namespace Go.Proofs.YtohcebiepekbeaaGreatDoor
open Go.ChangeShapes Go.WideShapes Go.ChangeAt Go.RowKit
set_option linter.unusedVariables false
set_option linter.unusedSimpArgs false

theorem drawChosen_c (x : Option Addr) (n cap : Nat) (w : World) (hc : Code w.heap.size w (.slice x n cap) n) (hn : n ≤ 1048576) : Calls Tryz.prog 22 #[.slice x n cap] w (AnyPrs 7 w) := by
  go_enter Tryz.func22, Tryz.ntmps22
  go_wp2_with fail
  refine (open_c x n cap _).mono ?_
  rintro e w1 ⟨rfl, rfl⟩
  have hr1 := rd_open hc hn
  go_wp2_with fail
  refine (peers_c _ 7 (by omega) _ hr1).mono ?_
  rintro e w2 ⟨y, c, l, rfl, hl, hrow, hr2, hg2⟩
  have g2 := grown_below (below_new w (.cells #[.slice x n cap, .int .i64 0] 97)) hg2 (Nat.le_refl _)
  go_wp2_with fail
  go_returns
  exact ⟨y, c, l, rfl, hl, hrow.cap_.1, hrow.cap_.2, hrow.prs, g2⟩
end Go.Proofs.YtohcebiepekbeaaGreatDoor
