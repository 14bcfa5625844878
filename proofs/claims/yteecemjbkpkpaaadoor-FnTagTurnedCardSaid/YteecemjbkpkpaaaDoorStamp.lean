/- For every int64 the program's StampBytes answers as the reference. -/
import Derived.Test.YteecemjbkpkpaaaDoorBytesOf
namespace Go.Proofs.YteecemjbkpkpaaaDoor
open Go.ChangeShapes Go.WideShapes Go.ChangeAt Go.RowKit
set_option linter.unusedVariables false

/-- A time's stamp; nothing where it is none. -/
def stampB (t : Int) : ByteArray := if 0 ≤ t ∧ t ≤ 4000000000000000 then put4 (t / 1000000) ++ put4 (t % 1000000 * 4294967296 / 1000000) else ⟨#[]⟩

theorem stamp_spec (t : Int) (h0 : 0 ≤ t) (h1 : t ≤ 4000000000000000) (w : World) :
    Calls Tryd.prog 53 #[.int .i64 t] w fun e w' => e = .returned (.string (stampB t)) ∧ Below w.heap.size w w' := by
  have e : stampB t = put4 (t / 1000000) ++ put4 (t % 1000000 * 4294967296 / 1000000) := if_pos ⟨h0, h1⟩
  rw [e]
  go_enter Tryd.func53, Tryd.ntmps53
  go_wp2_with fail
  refine (put_spec _ (by omega) (by omega) _).mono ?_
  rintro e w1 ⟨rfl, hb1⟩
  go_wp2_with fail
  refine (put_spec _ (by omega) (by omega) _).mono ?_
  rintro e w2 ⟨rfl, hb2⟩
  go_wp2_with fail
  go_returns
  exact ⟨rfl, hb1.trans (hb2.mono hb1.size)⟩

theorem stampBytes_spec (t : Int) (w : World) :
    Calls Tryd.prog 51 #[.int .i64 t] w fun e w' => e = .returned (.string (stampB t)) ∧ Below w.heap.size w w' := by
  by_cases h0 : 0 ≤ t
  · by_cases h1 : t ≤ 4000000000000000
    · go_enter Tryd.func51, Tryd.ntmps51
      go_wp2_with (first | (go_at_call 38; go_in) | (go_at_call 37; go_in) | (go_at_call 53; refine (stamp_spec _ (by omega) (by omega) _).mono ?_; rintro e w1 ⟨rfl, hb1⟩))
      go_returns
      exact ⟨rfl, hb1⟩
    · have e : stampB t = ⟨#[]⟩ := if_neg (by omega)
      rw [e]
      go_enter Tryd.func51, Tryd.ntmps51
      go_wp2
      go_returns
      exact ⟨rfl, Below.refl _ _⟩
  · have e : stampB t = ⟨#[]⟩ := if_neg (by omega)
    rw [e]
    go_enter Tryd.func51, Tryd.ntmps51
    go_wp2
    go_returns
    exact ⟨rfl, Below.refl _ _⟩

theorem secondsOf_yes (t : Int) (h0 : 0 ≤ t) (h1 : t ≤ 4000000000000000) (w : World) :
    Calls Tryd.prog 44 #[.int .i64 t] w fun e w' => e = .returned (.tuple #[.int .i64 (t / 1000000), .int .i64 (t % 1000000)]) ∧ w = w' := by
  go_enter Tryd.func44, Tryd.ntmps44
  go_wp2
  go_returns
  exact ⟨rfl, rfl⟩

theorem secondsOf_no (t : Int) (h : ¬ (0 ≤ t ∧ t ≤ 4000000000000000)) (w : World) :
    Calls Tryd.prog 44 #[.int .i64 t] w fun e w' => e = .returned (.tuple #[.int .i64 (-1), .int .i64 (-1)]) ∧ w = w' := by
  by_cases h0 : 0 ≤ t
  · have h1 : ¬ t ≤ 4000000000000000 := by omega
    clear h
    go_enter Tryd.func44, Tryd.ntmps44
    go_wp2
    go_returns
    exact ⟨rfl, rfl⟩
  · clear h
    go_enter Tryd.func44, Tryd.ntmps44
    go_wp2
    go_returns
    exact ⟨rfl, rfl⟩

theorem stampBytes_impl (t : Int) (w : World) :
    Calls Tryd.prog 30 #[.int .i64 t] w fun e w' => e = .returned (.string (stampB t)) ∧ Below w.heap.size w w' := by
  by_cases h : 0 ≤ t ∧ t ≤ 4000000000000000
  · have e : stampB t = put4 (t / 1000000) ++ put4 (t % 1000000 * 4294967296 / 1000000) := if_pos h
    rw [e]
    have hq : 0 ≤ t / 1000000 := by omega
    go_enter Tryd.func30, Tryd.ntmps30
    go_wp2_with fail
    refine (secondsOf_yes t h.1 h.2 _).mono ?_
    rintro e w1 ⟨rfl, rfl⟩
    go_wp2_with fail
    refine (bytesOf4 _ (by omega) (by omega) _).mono ?_
    rintro e w1 ⟨rfl, hb1⟩
    go_wp2_with fail
    refine (bytesOf4 _ (by omega) (by omega) _).mono ?_
    rintro e w2 ⟨rfl, hb2⟩
    go_wp2_with fail
    go_returns
    exact ⟨rfl, hb1.trans (hb2.mono hb1.size)⟩
  · have e : stampB t = ⟨#[]⟩ := if_neg h
    rw [e]
    have h' := h
    clear h
    go_enter Tryd.func30, Tryd.ntmps30
    go_wp2_with fail
    refine (secondsOf_no t h' _).mono ?_
    rintro e w1 ⟨rfl, rfl⟩
    go_wp2_with fail
    go_returns
    exact ⟨rfl, Below.refl _ _⟩

end Go.Proofs.YteecemjbkpkpaaaDoor
