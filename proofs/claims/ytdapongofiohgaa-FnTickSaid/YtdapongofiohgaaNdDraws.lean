/- The reference's drawn nodes, as its Draw functions give them. -/
import Derived.Test.YtdapongofiohgaaNdDraw
import Derived.Test.YtdapongofiohgaaDraw1
namespace Go.Proofs.Ytdapongofiohgaa
open Go.ChangeShapes Go.WideShapes Go.ChangeAt Go.RowKit
set_option linter.unusedVariables false
set_option linter.unusedSimpArgs false

/-- A row of the call's own is a list of nodes. -/
theorem nds_own {base m cap : Nat} {w : World} {y : Option Addr} {E : List Np} (h : w.ownsRow base 48 4 (.slice y m cap) m (flatNp E)) (hm : m = E.length) (hp : PeersAll base w (.slice y m cap) E) : Nds w.heap.size w y (E.map Np.v) := by
  have h0 := h
  rcases h.2 with ⟨_, e0⟩ | ⟨g, c, cur, e, hb, hg, _⟩
  · left
    have : E = [] := List.eq_nil_of_length_eq_zero (by omega)
    subst this
    rfl
  · right
    simp only [Value.slice.injEq] at e
    obtain ⟨rfl, _, _⟩ := e
    refine ⟨g, 0, rfl, (Array.getElem?_eq_some_iff.1 hg).1, fun i v hi => ?_⟩
    rw [List.getElem?_map] at hi
    cases he : E[i]? with
    | none => rw [he] at hi; cases hi
    | some e =>
      rw [he] at hi
      simp only [Option.map_some, Option.some.injEq] at hi
      subst hi
      have hil := (List.getElem?_eq_some_iff.1 he).1
      have hc : ∀ j z, j < 4 → e.cells[j]? = some z → w.cell? ⟨g, i * 4 + j, none⟩ = some z := fun j z hj hz => by
        rw [World.ownsRow.cellAt h0 _ (by omega)]
        exact flatNp_at he hz
      have hi3 := (hp e (List.mem_of_getElem? he)).1.ints
      refine ⟨e.px, e.pc, ?_, ?_, ?_, ?_, hi3.1, hi3.2.1, hi3.2.2⟩
      · rw [Nat.zero_add]; exact hc 0 _ (by omega) rfl
      · rw [Nat.zero_add]; exact hc 1 _ (by omega) rfl
      · rw [Nat.zero_add]; exact hc 2 _ (by omega) rfl
      · rw [Nat.zero_add]; exact hc 3 _ (by omega) rfl
def AnyNds (w : World) : Ending → World → Prop := fun e w' =>
  ∃ (y : Option Addr) (m cap : Nat) (l : List Nd), e = .returned (.slice y m cap) ∧ Hid (m = l.length) ∧ m ≤ 8 ∧ Nds w'.heap.size w' y l ∧ Below w.heap.size w w'
set_option maxHeartbeats 1000000 in
theorem drawNodesOk_c (x : Option Addr) (n cap : Nat) (w : World) (hc : Code w.heap.size w (.slice x n cap) n) (hn : n ≤ 1048576) : Calls Try.prog 26 #[.slice x n cap] w (AnyNds w) := by
  go_enter Try.func26, Try.ntmps26
  go_wp2_with fail
  refine (open_c x n cap _).mono ?_
  rintro e w1 ⟨rfl, rfl⟩
  go_wp2_with fail
  refine (nodes_c _ _ (rd_open hc hn)).mono ?_
  rintro e w2 ⟨y, m, c, E, rfl, hm, hm1, hm8, hr, hp, hrd, hg⟩
  have hnd := nds_own hr hm hp
  have HM : Hid (m = (E.map Np.v).length) := Lib.hid (by rw [List.length_map]; exact hm)
  clear hr hm hp hrd
  go_wp2_with fail
  go_returns
  exact ⟨y, m, c, _, rfl, HM, hm8, hnd, grown_below (below_new w _) hg (Nat.le_refl _)⟩
/-- The same, with where all lies. -/
def AnyNp (w : World) : Ending → World → Prop := fun e w' =>
  ∃ (y : Option Addr) (m cap : Nat) (E : List Np), e = .returned (.slice y m cap) ∧ Hid (m = E.length) ∧ 1 ≤ m ∧ m ≤ 8 ∧ w'.ownsRow w.heap.size 48 4 (.slice y m cap) m (flatNp E) ∧ PeersAll w.heap.size w' (.slice y m cap) E ∧ Below w.heap.size w w'
theorem PeersAll.low {base base' : Nat} {w : World} {o : Value} {E : List Np} (h : PeersAll base w o E) (hb : base' ≤ base) : PeersAll base' w o E := fun e he => ⟨own_lowerN (h e he).1 hb, (h e he).2⟩
set_option maxHeartbeats 1000000 in
theorem drawNodesOk_np (x : Option Addr) (n cap : Nat) (w : World) (hc : Code w.heap.size w (.slice x n cap) n) (hn : n ≤ 1048576) : Calls Try.prog 26 #[.slice x n cap] w (AnyNp w) := by
  go_enter Try.func26, Try.ntmps26
  go_wp2_with fail
  refine (open_c x n cap _).mono ?_
  rintro e w1 ⟨rfl, rfl⟩
  go_wp2_with fail
  refine (nodes_c _ _ (rd_open hc hn)).mono ?_
  rintro e w2 ⟨y, m, c, E, rfl, hm, hm1, hm8, hr, hp, hrd, hg⟩
  have HM := Lib.hid hm
  have HR := Lib.hid (own_lowerN hr (base' := w.heap.size) (by simp))
  have HP := Lib.hid (hp.low (base' := w.heap.size) (by simp))
  clear hr hm hp hrd
  go_wp2_with fail
  go_returns
  exact ⟨y, m, c, E, rfl, HM, hm1, hm8, HR.out, HP.out, grown_below (below_new w _) hg (Nat.le_refl _)⟩
end Go.Proofs.Ytdapongofiohgaa
