/- A number in decimal read: the reference's way, whole. -/
import Derived.Test.YtbkkgkmllplbaaaGreatDoorNumS
namespace Go.Proofs.YtbkkgkmllplbaaaGreatDoor
open Go.ChangeShapes Go.WideShapes Go.ChangeAt Go.RowKit
set_option linter.unusedVariables false
set_option linter.unusedSimpArgs false

set_option maxHeartbeats 1000000 in
theorem l1Num_empty (s : ByteArray) (w : World) (h0 : s.size < 1) : Calls Tryz.prog 26 #[.string s] w fun e w' => e = numEnd none ∧ Below w.heap.size w w' := by
  have q1 : decide ((s.size : Int) < 1) = true := decide_eq_true (by omega)
  have q3 : decide ((1 : Int) < s.size) = false := decide_eq_false (by omega)
  go_enter Tryz.func26, Tryz.ntmps26
  go_wp2_with fail
  go_returns
  exact ⟨rfl, Below.refl _ _⟩
set_option maxHeartbeats 1000000 in
theorem l1Num_long (s : ByteArray) (hneg : negL s.data.toList = false) (w : World) (h16 : 16 < s.size) : Calls Tryz.prog 26 #[.string s] w fun e w' => e = numEnd none ∧ Below w.heap.size w w' := by
  have h0 : 0 < s.size := by omega
  have h1 : 1 < s.size := by omega
  have q1 : decide ((s.size : Int) < 1) = false := decide_eq_false (by omega)
  have q2 : decide ((16 : Int) < s.size) = true := decide_eq_true (by omega)
  have q3 : decide ((1 : Int) < s.size) = true := decide_eq_true (by omega)
  rw [negL_long h0 h1] at hneg
  have hreg : ((s[0].toNat : Int) == 45) = false ∨ (((s[0].toNat : Int) == 45) = true ∧ (((s[1].toNat : Int) != 48) = false ∨ (((s[1].toNat : Int) != 48) = true ∧ ((s[1].toNat : Int) != 45) = false))) := by
    rw [bne, bne]
    rw [show ((s[0].toNat : Int) == 45) = (s[0] == 45) from u8_beq s[0] 45 (by decide), show ((s[1].toNat : Int) == 48) = (s[1] == 48) from u8_beq s[1] 48 (by decide), show ((s[1].toNat : Int) == 45) = (s[1] == 45) from u8_beq s[1] 45 (by decide)]
    rw [bne, bne] at hneg
    revert hneg
    cases (s[0] == 45) <;> cases (s[1] == 48) <;> cases (s[1] == 45) <;> decide
  clear hneg
  rcases hreg with e | ⟨e, f | ⟨f, g⟩⟩
  · go_enter Tryz.func26, Tryz.ntmps26
    go_wp2_with fail
    go_returns
    exact ⟨rfl, Below.refl _ _⟩
  · go_enter Tryz.func26, Tryz.ntmps26
    go_wp2_with fail
    go_returns
    exact ⟨rfl, Below.refl _ _⟩
  · go_enter Tryz.func26, Tryz.ntmps26
    go_wp2_with fail
    go_returns
    exact ⟨rfl, Below.refl _ _⟩
set_option maxHeartbeats 1000000 in
theorem l1Num_nought (s : ByteArray) (w : World) (h16 : s.size ≤ 16) (h1 : 1 < s.size) (hz : s[0] = 48) : Calls Tryz.prog 26 #[.string s] w fun e w' => e = numEnd none ∧ Below w.heap.size w w' := by
  have h0 : 0 < s.size := by omega
  have q1 : decide ((s.size : Int) < 1) = false := decide_eq_false (by omega)
  have q2 : decide ((16 : Int) < s.size) = false := decide_eq_false (by omega)
  have q3 : decide ((1 : Int) < s.size) = true := decide_eq_true (by omega)
  have z1 : ((s[0].toNat : Int) == 48) = true := (u8_beq s[0] 48 (by decide)).trans (by rw [hz]; rfl)
  have y0 : ((s[0].toNat : Int) == 45) = false := (u8_beq s[0] 45 (by decide)).trans (by rw [hz]; rfl)
  clear hz
  go_enter Tryz.func26, Tryz.ntmps26
  go_wp2_with fail
  go_returns
  exact ⟨rfl, Below.refl _ _⟩
theorem l1Num_pos (s : ByteArray) (hneg : negL s.data.toList = false) (w : World) :
    Calls Tryz.prog 26 #[.string s] w fun e w' => e = numEnd ((digL s.data.toList).map fun (m : Nat) => (m : Int)) ∧ Below w.heap.size w w' := by
  have hl : s.data.toList.length = s.size := by simp
  unfold digL
  rw [hl]
  by_cases h0 : s.size < 1
  · rw [if_pos (.inl h0)]
    exact l1Num_empty s w h0
  · by_cases h16 : 16 < s.size
    · rw [if_pos (.inr (.inl h16))]
      exact l1Num_long s hneg w h16
    · have hat := at_data (s := s) (k := 0) (by omega)
      by_cases hz : s.size = 1 ∨ s[0] ≠ 48
      · rw [if_neg]
        · exact l1Num_loop s hneg w (by omega) (by omega) hz
        · rintro (h | h | ⟨h, h'⟩)
          · exact h0 h
          · exact h16 h
          · rw [hat] at h
            rcases hz with hz | hz
            · omega
            · exact hz (Option.some.inj h)
      · have h1 : 1 < s.size := by omega
        have hz' : s[0] = 48 := Classical.byContradiction fun h => hz (.inr h)
        rw [if_pos (.inr (.inr ⟨by rw [hat, hz'], h1⟩))]
        exact l1Num_nought s w (by omega) h1 hz'
set_option maxHeartbeats 1000000 in
theorem l1Num_neg (s : ByteArray) (hs : s.size ≤ 1048576) (hneg : negL s.data.toList = true) (w : World) :
    Calls Tryz.prog 26 #[.string s] w fun e w' => e = numEnd ((digL s.data.toList.tail).map fun (m : Nat) => -(m : Int)) ∧ Below w.heap.size w w' := by
  have hl : s.data.toList.length = s.size := by simp
  have h1 : 1 < s.size := by
    rw [← hl]
    cases h : s.data.toList with
    | nil => rw [h] at hneg; cases hneg
    | cons b r =>
      cases r with
      | nil => rw [h] at hneg; cases hneg
      | cons c r => simp
  have h0 : 0 < s.size := by omega
  have hn := hneg
  rw [negL_long h0 h1] at hn
  have he : (s.extract 1 s.size).data.toList = s.data.toList.tail := by rw [Lib.extract_to_end, List.drop_one]
  have hnt : negL (s.extract 1 s.size).data.toList = false := by
    rw [he]
    cases h : s.data.toList with
    | nil => rfl
    | cons b r =>
      cases r with
      | nil => rfl
      | cons c r =>
        rw [h] at hneg
        simp only [negL, Bool.and_eq_true] at hneg
        cases r with
        | nil => rfl
        | cons d r =>
          have : (c == 45) = false := by have := hneg.2.2; simpa [bne] using this
          rw [List.tail_cons]
          simp [negL, this]
  have HC := Lib.hid (fun w => l1Num_pos (s.extract 1 s.size) hnt w)
  rw [he] at HC
  have q3 : decide ((1 : Int) < s.size) = true := decide_eq_true (by omega)
  have y0 : ((s[0].toNat : Int) == 45) = true := by
    rw [show ((s[0].toNat : Int) == 45) = (s[0] == 45) from u8_beq s[0] 45 (by decide)]
    revert hn; cases (s[0] == 45) <;> simp
  have y1 : ((s[1].toNat : Int) != 48) = true := by
    rw [bne, show ((s[1].toNat : Int) == 48) = (s[1] == 48) from u8_beq s[1] 48 (by decide)]
    revert hn; rw [bne]; cases (s[1] == 48) <;> simp
  have y2 : ((s[1].toNat : Int) != 45) = true := by
    rw [bne, show ((s[1].toNat : Int) == 45) = (s[1] == 45) from u8_beq s[1] 45 (by decide)]
    revert hn; rw [bne, bne]; cases (s[1] == 45) <;> simp
  have hlt : ∀ m, digL s.data.toList.tail = some m → m ≤ 9999999999999999 := fun m h => digL_lt h
  obtain ⟨v, hv⟩ : ∃ v, digL s.data.toList.tail = v := ⟨_, rfl⟩
  rw [hv] at HC hlt ⊢
  clear hv hn hneg hnt he hl
  cases v with
  | none =>
    clear hlt
    simp only [Option.map_none, numEnd] at HC ⊢
    go_enter Tryz.func26, Tryz.ntmps26
    go_wp2_with fail
    refine (HC.out _).mono ?_
    rintro e w1 ⟨rfl, hb1⟩
    go_wp2_with fail
    go_returns
    exact ⟨rfl, hb1⟩
  | some m =>
    have hm := hlt m rfl
    have wn : IntKind.i64.wrap (-(m : Int)) = -(m : Int) := IntWalk.i64_in _ (by omega)
    clear hlt
    simp only [Option.map_some, numEnd] at HC ⊢
    go_enter Tryz.func26, Tryz.ntmps26
    go_wp2_with fail
    refine (HC.out _).mono ?_
    rintro e w1 ⟨rfl, hb1⟩
    go_wp2_with fail
    go_returns
    exact ⟨rfl, hb1⟩
theorem l1Num_c (s : ByteArray) (hs : s.size ≤ 1048576) (w : World) :
    Calls Tryz.prog 26 #[.string s] w fun e w' => e = numEnd (numV s) ∧ Below w.heap.size w w' := by
  unfold numV
  cases h : negL s.data.toList with
  | false => exact l1Num_pos s h w
  | true => exact l1Num_neg s hs h w
end Go.Proofs.YtbkkgkmllplbaaaGreatDoor
