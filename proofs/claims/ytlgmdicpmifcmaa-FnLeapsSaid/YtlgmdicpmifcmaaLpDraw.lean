/- The reference's drawing of leaps: some list of four at most; nothing that lay has turned. -/
import Derived.Test.YtlgmdicpmifcmaaDraw0
import Derived.Test.YtlgmdicpmifcmaaLpI2
import Derived.Laws.AppendOwn
import Derived.Laws.OwnMore
import Derived.Deep.RegionWith
namespace Go.Proofs.Ytlgmdicpmifcmaa
open Go.ChangeShapes Go.WideShapes Go.ChangeAt Go.RowKit
set_option linter.unusedVariables false
set_option linter.unusedSimpArgs false

theorem LpRow.low {base base' : Nat} {W : World} {x : Option Addr} {cap : Nat} {l : List Lp} (h : LpRow base W x cap l) (hb : base' ≤ base) : LpRow base' W x cap l := by
  refine ⟨h.1, ?_⟩
  rcases h.2 with e | ⟨g, c, cur, e, hg, r⟩
  · exact .inl e
  · exact .inr ⟨g, c, cur, e, Nat.le_trans hb hg, r⟩
theorem LpRow.lps {base : Nat} {W : World} {x : Option Addr} {cap : Nat} {l : List Lp} (h : LpRow base W x cap l) : Lps W.heap.size W x l := by
  have h0 := h
  rcases h.2 with ⟨e, e0⟩ | ⟨g, c, cur, e, hb, hg, _⟩
  · exact .inl (List.eq_nil_of_length_eq_zero e0)
  · simp only [Value.slice.injEq] at e
    obtain ⟨rfl, _, rfl⟩ := e
    refine .inr ⟨g, 0, rfl, (Array.getElem?_eq_some_iff.1 hg).1, fun i v j z hi hj => ?_⟩
    obtain ⟨c0, c1⟩ := h0.atg hi
    match j, hj with
    | 0, hj =>
      simp [Lp.row] at hj
      subst hj
      simpa using c0
    | 1, hj =>
      simp [Lp.row] at hj
      subst hj
      simpa using c1
    | j + 2, hj => simp [Lp.row] at hj
theorem LpRow.keepR {base : Nat} {W W' : World} {x : Option Addr} {cap : Nat} {l : List Lp} {row : Option Nat} (h : LpRow base W x cap l) (hg : W.grownBy W' row) (hne : ∀ k, row = some k → k < base) : LpRow base W' x cap l := by
  refine ⟨h.1, ?_⟩
  rcases h.2 with e | ⟨g, c, cur, e, hb', hgg, r⟩
  · exact .inl e
  · exact .inr ⟨g, c, cur, e, hb', (hg.block g (Array.getElem?_eq_some_iff.1 hgg).1 (fun e2 => by have := hne g e2.symm; omega)).trans hgg, r⟩
theorem grown_ownL {w b c : World} {a : Nat} {row : Option Nat} (h : w.grownBy b (some a)) (hg : b.grownBy c row) (hrow : ∀ k, row = some k → w.heap.size ≤ k) : w.grownBy c (some a) :=
  ⟨hg.os.trans h.os, hg.tape.trans h.tape, hg.output.trans h.output, Nat.le_trans h.size hg.size, fun i hi hne => (hg.block i (Nat.lt_of_lt_of_le hi h.size) (fun e => by have := hrow i e.symm; omega)).trans (h.block i hi hne)⟩
theorem cell_two_newL (w : World) (u v : Value) (t : TypeId) : ∀ j z, [u, v][j]? = some z → (w.alloc (.cells #[u, v] t)).cell? ((⟨w.heap.size, 0, none⟩ : Addr).add j) = some z := by
  intro j z hz
  match j, hz with
  | 0, hz => simp at hz; subst hz; simp [Addr.add]
  | 1, hz => simp at hz; subst hz; simp [Addr.add]
  | j + 2, hz => simp at hz

theorem grown_undrew {w w' : World} {row : Option Nat} (h : w.drew.grownBy w' row) : w.grownBy w' row := ⟨h.os, h.tape, h.output, h.size, h.block⟩
theorem Rd.drewR {w : World} {a : Nat} (h : Rd w a) : Rd w.drew a := h.kept (row := none) ⟨rfl, rfl, rfl, Nat.le_refl _, fun _ _ _ => rfl⟩ (by simp)

/-- Some leaps; the reader where it stood. -/
def RdLps (a : Nat) (w : World) : Ending → World → Prop := fun e w' =>
  ∃ (x : Option Addr) (cap : Nat) (l : List Lp), e = .returned (.slice x l.length cap) ∧ l.length ≤ 4 ∧ LpRow w.heap.size w' x cap l ∧ Rd w' a ∧ w.grownBy w' (some a)

theorem grown_setL {w a : World} {g : Nat} (k : Nat) (v : Value) : a.grownBy (a.setCell ⟨g, k, none⟩ v) (some g) :=
  ⟨rfl, rfl, rfl, by simp [World.setCell], fun j hj hne => by
    have : g ≠ j := fun e => hne (by rw [e])
    simp [World.setCell, Array.getElem?_modify, this]⟩

set_option maxHeartbeats 2000000 in
theorem leaps_c (a : Nat) (w : World) (h : Rd w a) : Calls Try.prog 34 #[.pointer (some ⟨a, 0, none⟩)] w (RdLps a w) := by
  obtain ⟨i0, hi, hz0, hz1, hz2⟩ := info_partsT infoLpI
  have HI0 := Lib.hid hi
  have HZ0 := Lib.hid hz0
  have HZ1 := Lib.hid hz1
  have HZ2 := Lib.hid hz2
  clear hi hz0 hz1 hz2
  have ha : a < w.heap.size := by
    obtain ⟨_, _, _, hb, _⟩ := h
    exact (Array.getElem?_eq_some_iff.1 hb).1
  go_enter Try.func34, Try.ntmps34
  go_wp2_with fail
  have hrow0 := World.ownsRow_made (base := w.heap.size) (e := 30) (size := 2) w #[] 0 (Nat.le_refl _) (by simp [maxLen]) rfl
  refine (below_c a 100000 99999 (by omega) (by omega) (by omega) _ (h.kept (World.grownBy_alloc w _ none) (by simp))).mono ?_
  rintro e w2 ⟨s0, s00, s01, rfl, hr2, hg2⟩
  have hrow2 := hrow0.kept hg2 (.inr (by simp [Value.ownBlock]; omega))
  have hg02 := grown_trans (World.grownBy_alloc w (.cells #[] 30) (some a)) hg2
  clear hrow0 hg2
  go_wp2_with fail
  refine (below_c a 5 4 (by omega) (by omega) (by omega) _ hr2).mono ?_
  rintro e w3 ⟨j', j0, j1, rfl, hr3, hg3⟩
  have hrow3 := hrow2.kept hg3 (.inr (by simp [Value.ownBlock]; omega))
  have hg03 := grown_trans hg02 hg3
  clear hrow2 hg3 hr2 hg02
  obtain ⟨j, rfl⟩ := Int.eq_ofNat_of_zero_le j0
  go_wp2_with fail
  go_loopw [3, 4, 5] (fun o t i wr => ∃ (k : Nat) (l : List Lp) (u : Int), k ≤ j ∧ i = .int .i64 k ∧ t = .int .i64 u ∧ 0 ≤ u ∧ u ≤ 1000000 + 300000 * (l.length : Int) ∧ l.length + k = j ∧ wr.ownsRow w.heap.size 30 2 o l.length (flatLp l) ∧ Rd wr a ∧ w.grownBy wr (some a)) (fun _ _ i _ => (intOf i).toNat)
  case atStart => exact ⟨j, [], 86400 + s0, Nat.le_refl _, rfl, rfl, by omega, by simp; omega, by simp, hrow3, hr3, hg03⟩
  case round =>
    obtain ⟨k, l, u, hk, rfl, rfl, u0, u1, hlk, hrow, hr, hg⟩ := hrel
    by_cases hk0 : 0 < k
    · have hk1 : (0 : Int) < (k : Int) := by omega
      go_wp2_with fail
      refine (below_c a 2 1 (by omega) (by omega) (by omega) _ hr).mono ?_
      rintro e w4 ⟨c, c0, c1, rfl, hr4, hg4⟩
      have hrow4 := hrow.kept hg4 (.inr (fun e => by have := (hrow.lt a e).1; omega))
      have hg04 := grown_trans hg hg4
      have hsz : w.heap.size ≤ w4.heap.size := hg04.size
      clear hrow hr hg hg4
      have hF := Lib.hid (flatLp_append l [⟨u, c * 2 - 1⟩])
      have hl4 : l.length ≤ 4 := by omega
      go_wp2_with (at_builtin; refine wpList_append_own _ rfl _ _ 25 rfl w.heap.size 30 i0 (.agg #[.int .i64 0, .int .i64 0]) 2 16 Try.underlying25 HI0.out HZ0.out HZ1.out HZ2.out rfl (by decide) _ _ _ rfl (hrow4.alloc _) ⟨w4.heap.size, 0, none⟩ 1 1 [.int .i64 u, .int .i64 (c * 2 - 1)] rfl rfl (cell_two_newL w4 _ _ _) (by simp [Value.oneCell']) (by unfold maxLen; omega) (by omega) (by simp; omega) ?_; intro v' w5 hown' hgrow _)
      have hgrow' : (w4.alloc (.cells #[.int .i64 u, .int .i64 (c * 2 - 1)] 30)).grownBy w5 u3.ownBlock := hgrow
      clear hgrow
      have hr5 := (hr4.kept (World.grownBy_alloc w4 (.cells #[.int .i64 u, .int .i64 (c * 2 - 1)] 30) none) (by simp)).kept hgrow' (fun g hg => by have := (hrow4.lt g hg).1; omega)
      have hg05 := grown_ownL (grown_trans hg04 (World.grownBy_alloc w4 (.cells #[.int .i64 u, .int .i64 (c * 2 - 1)] 30) _)) hgrow' (fun g hg => (hrow4.lt g hg).1)
      refine (below_c a 100000 99999 (by omega) (by omega) (by omega) _ hr5).mono ?_
      rintro e w6 ⟨d, d0, d1, rfl, hr6, hg6⟩
      have hrow6 := hown'.kept hg6 (.inr (fun e => by have := (hown'.lt a e).1; omega))
      have hg06 := grown_trans hg05 hg6
      go_wp2_with fail
      go_roundw
      case rel =>
        exact ⟨k - 1, l ++ [⟨u, c * 2 - 1⟩], u + (172800 + d), by omega, by rw [show ((k - 1 : Nat) : Int) = (k : Int) - 1 from by omega], rfl, by omega, by simp; omega, by simp; omega, by rw [hF.out]; simpa [flatLp, Lp.cells] using hrow6, hr6, hg06⟩
      case measure => simp [intOf]; omega
    · have hk1 : ¬ (0 : Int) < (k : Int) := by omega
      go_wp2_with fail
      refine (once_c a 20 (by omega) (by omega) _ hr).mono ?_
      rintro e w4 ⟨b, rfl, hr4, hg4⟩
      have hrow4 := hrow.kept hg4 (.inr (fun e => by have := (hrow.lt a e).1; omega))
      have hg04 := grown_trans hg hg4
      obtain ⟨x, cap, rfl⟩ := ownsRow_formT hrow4
      clear hrow hr hg hg4
      have hlj : l.length ≤ 4 := by omega
      cases b with
      | false =>
        go_wp2_with fail
        go_returns
        exact ⟨x, cap, l, rfl, hlj, hrow4, hr4, hg04⟩
      | true =>
        rcases (show l = [] ∨ (∃ v, l = [v]) ∨ ∃ v y r, l = v :: y :: r by
          match l with
          | [] => exact .inl rfl
          | [v] => exact .inr (.inl ⟨v, rfl⟩)
          | v :: y :: r => exact .inr (.inr ⟨v, y, r, rfl⟩)) with rfl | ⟨v, rfl⟩ | ⟨v, y, r, rfl⟩
        · go_wp2_with fail
          go_returns
          exact ⟨x, cap, [], rfl, hlj, hrow4, hr4, hg04⟩
        · go_wp2_with fail
          go_returns
          exact ⟨x, cap, [v], rfl, hlj, hrow4, hr4, hg04⟩
        · have hrow5 : LpRow w.heap.size w4 x cap (v :: y :: r) := hrow4
          obtain ⟨n, hn⟩ : ∃ n, n = (v :: y :: r).length := ⟨_, rfl⟩
          have hn1 : 1 < n := by rw [hn]; simp
          have hn0 : (1 : Int) < (n : Int) := by omega
          have hn00 : (0 : Int) < (n : Int) := by omega
          have hnm : n ≤ 4 := by rw [hn]; exact hlj
          have HN := Lib.hid hn
          rw [← hn] at hrow4 ⊢
          obtain ⟨g, rfl, hgb, _⟩ := hrow5.at_ (k := 0) (e := v) rfl
          clear hn hlj
          have C4 := hrow5.atg (k := 0) (v := v) rfl
          have D4 := hrow5.atg (k := 1) (v := y) rfl
          obtain ⟨C40, _⟩ := C4
          obtain ⟨D40, _⟩ := D4
          rw [Nat.zero_mul] at C40
          rw [Nat.one_mul] at D40
          have F4 := World.ownsRow.frozenAt hrow4 2
          go_wp2_with fail
          go_region_with (go_at_call 37; refine (off_c a 0 172800 (by omega) (by omega) (by omega) _ ?_).mono ?_; (exact hr4.drewR); rintro e w5 ⟨z, z0, z1, rfl, hr5, hg5'⟩; have hg5 := grown_undrew hg5'; have hrow6 : LpRow w.heap.size w5 (some ⟨g, 0, none⟩) cap (v :: y :: r) := hrow5.keepR (row := some a) hg5 (fun k e => by cases e; exact ha); have C50 := (hrow6.atg (k := 0) (v := v) rfl).1; have D50 := (hrow6.atg (k := 1) (v := y) rfl).1; rw [Nat.zero_mul] at C50; rw [Nat.one_mul] at D50; have F5 := World.ownsRow.frozenAt hrow6 2)
          all_goals
            have hst := World.ownsRow.stored hrow6 2 (.int .i64 (IntKind.i64.wrap (v.at_ + z)))
            have hst1 : LpRow w.heap.size (w5.setCell ⟨g, 2, none⟩ (.int .i64 (IntKind.i64.wrap (v.at_ + z)))) (some ⟨g, 0, none⟩) cap (v :: ⟨IntKind.i64.wrap (v.at_ + z), y.add⟩ :: r) := hst.1
            have hr7 := hr5.kept hst.2 (fun k e => by simp only [Option.some.injEq] at e; omega)
            have hg7 := grown_ownL (grown_trans hg04 hg5) hst.2 (fun k e => by simp only [Option.some.injEq] at e; omega)
            have HS := Lib.hid hst1
            clear hst hst1 hrow6 hrow5 hrow4
            go_wp2_with fail
            go_returns
            exact ⟨some ⟨g, 0, none⟩, cap, v :: ⟨IntKind.i64.wrap (v.at_ + z), y.add⟩ :: r, by rw [HN.out]; rfl, by have := HN.out; simp at this ⊢; omega, HS.out, hr7, hg7⟩

end Go.Proofs.Ytlgmdicpmifcmaa
