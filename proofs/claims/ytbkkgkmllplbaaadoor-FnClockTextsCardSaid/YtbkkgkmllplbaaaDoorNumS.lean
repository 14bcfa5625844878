/- A number in decimal read: the reference's way. -/
import Derived.Test.YtbkkgkmllplbaaaDoorDecMath
namespace Go.Proofs.YtbkkgkmllplbaaaDoor
open Go.ChangeShapes Go.WideShapes Go.ChangeAt Go.RowKit
set_option linter.unusedVariables false
set_option linter.unusedSimpArgs false

def numEnd (v : Option Int) : Ending := match v with
  | some n => .returned (.tuple #[.int .i64 n, .bool true])
  | none => .returned (.tuple #[.int .i64 0, .bool false])
theorem at_data {s : ByteArray} {k : Nat} (h : k < s.size) : s.data.toList[k]? = some s[k] := by
  rw [Array.getElem?_toList]
  exact Array.getElem?_eq_getElem (by exact h)
theorem negL_long {s : ByteArray} (h0 : 0 < s.size) (h1 : 1 < s.size) : negL s.data.toList = (s[0] == 45 && (s[1] != 48 && s[1] != 45)) := by
  have e0 := at_data h0
  have e1 := at_data h1
  cases hl : s.data.toList with
  | nil => rw [hl] at e0; cases e0
  | cons b r =>
    cases r with
    | nil => rw [hl] at e1; cases e1
    | cons c r =>
      rw [hl] at e0 e1
      have x0 : b = s[0] := Option.some.inj e0
      have x1 : c = s[1] := Option.some.inj e1
      simp only [negL, x0, x1]
theorem u8_beq (b : UInt8) (c : Nat) (hc : c < 256) : ((b.toNat : Int) == (c : Int)) = (b == UInt8.ofNat c) := by
  have e : (UInt8.ofNat c).toNat = c := by rw [UInt8.toNat_ofNat']; omega
  rw [Bool.eq_iff_iff, beq_iff_eq, beq_iff_eq, ← UInt8.toNat_inj, e]
  omega
theorem decFrom_stop {l : List UInt8} {k : Nat} {b : UInt8} (hb : l[k]? = some b) (hd : Lib.digitVal b = none) : Lib.decFrom 0 l = none := by
  cases e : Lib.decFrom 0 l with
  | none => rfl
  | some n =>
    obtain ⟨d, h⟩ := Lib.digit_of_decFrom l 0 n e k b hb
    rw [hd] at h
    cases h
set_option maxHeartbeats 2000000 in
/-- The loop. -/
theorem l1Num_loop (s : ByteArray) (hneg : negL s.data.toList = false) (w : World) (h0 : 0 < s.size) (h16 : s.size ≤ 16) (hz : s.size = 1 ∨ s[0] ≠ 48) :
    Calls Tryd.prog 43 #[.string s] w fun e w' => e = numEnd ((Lib.decFrom 0 s.data.toList).map fun (m : Nat) => (m : Int)) ∧ Below w.heap.size w w' := by
  have HD := Lib.hid (fun k => @at_data s k)
  have HR : Hid (∃ b0 b1 b2 : Bool, True) := Lib.hid ⟨false, false, false, trivial⟩
  have hreg : (s.size = 1) ∨ (1 < s.size ∧ s[0] ≠ 48 ∧ ((s[0] == 45) = false ∨ ((s[0] == 45) = true ∧ ((∃ h : 1 < s.size, (s[1] == 48) = true) ∨ (∃ h : 1 < s.size, (s[1] == 48) = false ∧ (s[1] == 45) = true))))) := by
    rcases hz with hz | hz
    · exact .inl hz
    · by_cases h1 : 1 < s.size
      · refine .inr ⟨h1, hz, ?_⟩
        rw [negL_long h0 h1] at hneg
        cases e0 : (s[0] == 45) with
        | false => exact .inl rfl
        | true =>
          right
          refine ⟨rfl, ?_⟩
          rw [e0] at hneg
          cases e1 : (s[1] == 48) with
          | true => exact .inl ⟨h1, e1⟩
          | false =>
            right
            refine ⟨h1, e1, ?_⟩
            cases e2 : (s[1] == 45) with
            | true => rfl
            | false => simp [bne, e1, e2] at hneg
      · exact .inl (by omega)
  clear hneg hz HR
  have H16 := Lib.hid h16
  have q1 : decide ((s.size : Int) < 1) = false := decide_eq_false (by omega)
  have q2 : decide ((16 : Int) < s.size) = false := decide_eq_false (by omega)
  rcases hreg with e1 | ⟨h1, hz, hreg⟩
  · have q3 : decide ((1 : Int) < s.size) = false := decide_eq_false (by omega)
    clear e1
    rcases Bool.eq_false_or_eq_true ((s[0].toNat : Int) == 48) with z1 | z1
    ·
      go_enter Tryd.func43, Tryd.ntmps43
      go_wp2_with fail
      go_loopw [6, 7] (fun n i wr => ∃ (k m : Nat), k ≤ s.size ∧ i = .int .i64 k ∧ n = .int .i64 m ∧ Hid (Lib.decFrom 0 (s.data.toList.take k) = some m) ∧ Below w.heap.size w wr) (fun _ i _ => s.size - (intOf i).toNat)
      case atStart => exact ⟨0, 0, Nat.zero_le _, rfl, rfl, Lib.hid rfl, Below.refl _ _⟩
      case round =>
        obtain ⟨k, m, hk, rfl, rfl, HM, hb0⟩ := hrel
        by_cases hlt : k < s.size
        · have hm : m < 1000000000000000 := by
            have h1 := Lib.decFrom_lt _ 0 m HM.out
            have h2 : (s.data.toList.take k).length ≤ 15 := by
              rw [List.length_take]
              have := H16.out
              omega
            have h3 : 10 ^ (s.data.toList.take k).length ≤ 10 ^ 15 := Nat.pow_le_pow_right (by decide) h2
            omega
          have hv := HD.out k hlt
          have HV := Lib.hid hv
          have hb := s[k].toNat_lt
          by_cases d0 : s[k].toNat < 48
          · have r1 : decide ((s[k].toNat : Int) < 48) = true := decide_eq_true (by omega)
            have HN := Lib.hid (decFrom_stop hv (by unfold Lib.digitVal; rw [if_neg (by omega)]))
            clear hv hm d0
            go_wp2_with fail
            go_returns
            exact ⟨by rw [HN.out]; rfl, hb0⟩
          · have r1 : decide ((s[k].toNat : Int) < 48) = false := decide_eq_false (by omega)
            by_cases d1 : 57 < s[k].toNat
            · have r2 : decide ((57 : Int) < s[k].toNat) = true := decide_eq_true (by omega)
              have HN := Lib.hid (decFrom_stop hv (by unfold Lib.digitVal; rw [if_neg (by omega)]))
              clear hv hm d0 d1
              go_wp2_with fail
              go_returns
              exact ⟨by rw [HN.out]; rfl, hb0⟩
            · have r2 : decide ((57 : Int) < s[k].toNat) = false := decide_eq_false (by omega)
              have HN := Lib.hid (Lib.decFrom_take _ k 0 m _ (s[k].toNat - 48) HM.out hv (by unfold Lib.digitVal; rw [if_pos (by omega)]))
              have w1 : IntKind.i64.wrap (10 * (m : Int)) = 10 * (m : Int) := IntWalk.i64_in _ (by omega)
              have w2 : IntKind.u8.wrap ((s[k].toNat : Int) - 48) = (s[k].toNat : Int) - 48 := by rw [IntKind.wrap_u8]; omega
              have w3 : IntKind.i64.wrap ((s[k].toNat : Int) - 48) = (s[k].toNat : Int) - 48 := IntWalk.i64_in _ (by omega)
              have w4 : IntKind.i64.wrap (10 * (m : Int) + ((s[k].toNat : Int) - 48)) = ((m * 10 + (s[k].toNat - 48) : Nat) : Int) := by rw [IntWalk.i64_in _ (by omega)]; omega
              have w5 : IntKind.i64.wrap ((k : Int) + 1) = ((k + 1 : Nat) : Int) := by rw [IntWalk.i64_in _ (by omega)]; omega
              clear hv d0 d1
              go_wp2_with fail
              go_roundw
              case rel => exact ⟨k + 1, _, by omega, by go_num, rfl, HN, hb0⟩
              case measure => simp [intOf]; omega
        · have HE := Lib.hid (show Lib.decFrom 0 s.data.toList = some m by
            have := HM.out
            rwa [List.take_of_length_le (by simp only [Array.length_toList]; show s.size ≤ k; omega)] at this)
          go_wp2_with fail
          go_returns
          exact ⟨by rw [HE.out]; rfl, hb0⟩
    ·
      go_enter Tryd.func43, Tryd.ntmps43
      go_wp2_with fail
      go_loopw [6, 7] (fun n i wr => ∃ (k m : Nat), k ≤ s.size ∧ i = .int .i64 k ∧ n = .int .i64 m ∧ Hid (Lib.decFrom 0 (s.data.toList.take k) = some m) ∧ Below w.heap.size w wr) (fun _ i _ => s.size - (intOf i).toNat)
      case atStart => exact ⟨0, 0, Nat.zero_le _, rfl, rfl, Lib.hid rfl, Below.refl _ _⟩
      case round =>
        obtain ⟨k, m, hk, rfl, rfl, HM, hb0⟩ := hrel
        by_cases hlt : k < s.size
        · have hm : m < 1000000000000000 := by
            have h1 := Lib.decFrom_lt _ 0 m HM.out
            have h2 : (s.data.toList.take k).length ≤ 15 := by
              rw [List.length_take]
              have := H16.out
              omega
            have h3 : 10 ^ (s.data.toList.take k).length ≤ 10 ^ 15 := Nat.pow_le_pow_right (by decide) h2
            omega
          have hv := HD.out k hlt
          have HV := Lib.hid hv
          have hb := s[k].toNat_lt
          by_cases d0 : s[k].toNat < 48
          · have r1 : decide ((s[k].toNat : Int) < 48) = true := decide_eq_true (by omega)
            have HN := Lib.hid (decFrom_stop hv (by unfold Lib.digitVal; rw [if_neg (by omega)]))
            clear hv hm d0
            go_wp2_with fail
            go_returns
            exact ⟨by rw [HN.out]; rfl, hb0⟩
          · have r1 : decide ((s[k].toNat : Int) < 48) = false := decide_eq_false (by omega)
            by_cases d1 : 57 < s[k].toNat
            · have r2 : decide ((57 : Int) < s[k].toNat) = true := decide_eq_true (by omega)
              have HN := Lib.hid (decFrom_stop hv (by unfold Lib.digitVal; rw [if_neg (by omega)]))
              clear hv hm d0 d1
              go_wp2_with fail
              go_returns
              exact ⟨by rw [HN.out]; rfl, hb0⟩
            · have r2 : decide ((57 : Int) < s[k].toNat) = false := decide_eq_false (by omega)
              have HN := Lib.hid (Lib.decFrom_take _ k 0 m _ (s[k].toNat - 48) HM.out hv (by unfold Lib.digitVal; rw [if_pos (by omega)]))
              have w1 : IntKind.i64.wrap (10 * (m : Int)) = 10 * (m : Int) := IntWalk.i64_in _ (by omega)
              have w2 : IntKind.u8.wrap ((s[k].toNat : Int) - 48) = (s[k].toNat : Int) - 48 := by rw [IntKind.wrap_u8]; omega
              have w3 : IntKind.i64.wrap ((s[k].toNat : Int) - 48) = (s[k].toNat : Int) - 48 := IntWalk.i64_in _ (by omega)
              have w4 : IntKind.i64.wrap (10 * (m : Int) + ((s[k].toNat : Int) - 48)) = ((m * 10 + (s[k].toNat - 48) : Nat) : Int) := by rw [IntWalk.i64_in _ (by omega)]; omega
              have w5 : IntKind.i64.wrap ((k : Int) + 1) = ((k + 1 : Nat) : Int) := by rw [IntWalk.i64_in _ (by omega)]; omega
              clear hv d0 d1
              go_wp2_with fail
              go_roundw
              case rel => exact ⟨k + 1, _, by omega, by go_num, rfl, HN, hb0⟩
              case measure => simp [intOf]; omega
        · have HE := Lib.hid (show Lib.decFrom 0 s.data.toList = some m by
            have := HM.out
            rwa [List.take_of_length_le (by simp only [Array.length_toList]; show s.size ≤ k; omega)] at this)
          go_wp2_with fail
          go_returns
          exact ⟨by rw [HE.out]; rfl, hb0⟩
  · have q3 : decide ((1 : Int) < s.size) = true := decide_eq_true (by omega)
    have z1 : ((s[0].toNat : Int) == 48) = false := (u8_beq s[0] 48 (by decide)).trans (beq_eq_false_iff_ne.2 hz)
    clear hz
    rcases hreg with e | ⟨e, ⟨_, f⟩ | ⟨_, f, g⟩⟩
    · have y0 : ((s[0].toNat : Int) == 45) = false := (u8_beq s[0] 45 (by decide)).trans e
      clear e
      go_enter Tryd.func43, Tryd.ntmps43
      go_wp2_with fail
      go_loopw [6, 7] (fun n i wr => ∃ (k m : Nat), k ≤ s.size ∧ i = .int .i64 k ∧ n = .int .i64 m ∧ Hid (Lib.decFrom 0 (s.data.toList.take k) = some m) ∧ Below w.heap.size w wr) (fun _ i _ => s.size - (intOf i).toNat)
      case atStart => exact ⟨0, 0, Nat.zero_le _, rfl, rfl, Lib.hid rfl, Below.refl _ _⟩
      case round =>
        obtain ⟨k, m, hk, rfl, rfl, HM, hb0⟩ := hrel
        by_cases hlt : k < s.size
        · have hm : m < 1000000000000000 := by
            have h1 := Lib.decFrom_lt _ 0 m HM.out
            have h2 : (s.data.toList.take k).length ≤ 15 := by
              rw [List.length_take]
              have := H16.out
              omega
            have h3 : 10 ^ (s.data.toList.take k).length ≤ 10 ^ 15 := Nat.pow_le_pow_right (by decide) h2
            omega
          have hv := HD.out k hlt
          have HV := Lib.hid hv
          have hb := s[k].toNat_lt
          by_cases d0 : s[k].toNat < 48
          · have r1 : decide ((s[k].toNat : Int) < 48) = true := decide_eq_true (by omega)
            have HN := Lib.hid (decFrom_stop hv (by unfold Lib.digitVal; rw [if_neg (by omega)]))
            clear hv hm d0
            go_wp2_with fail
            go_returns
            exact ⟨by rw [HN.out]; rfl, hb0⟩
          · have r1 : decide ((s[k].toNat : Int) < 48) = false := decide_eq_false (by omega)
            by_cases d1 : 57 < s[k].toNat
            · have r2 : decide ((57 : Int) < s[k].toNat) = true := decide_eq_true (by omega)
              have HN := Lib.hid (decFrom_stop hv (by unfold Lib.digitVal; rw [if_neg (by omega)]))
              clear hv hm d0 d1
              go_wp2_with fail
              go_returns
              exact ⟨by rw [HN.out]; rfl, hb0⟩
            · have r2 : decide ((57 : Int) < s[k].toNat) = false := decide_eq_false (by omega)
              have HN := Lib.hid (Lib.decFrom_take _ k 0 m _ (s[k].toNat - 48) HM.out hv (by unfold Lib.digitVal; rw [if_pos (by omega)]))
              have w1 : IntKind.i64.wrap (10 * (m : Int)) = 10 * (m : Int) := IntWalk.i64_in _ (by omega)
              have w2 : IntKind.u8.wrap ((s[k].toNat : Int) - 48) = (s[k].toNat : Int) - 48 := by rw [IntKind.wrap_u8]; omega
              have w3 : IntKind.i64.wrap ((s[k].toNat : Int) - 48) = (s[k].toNat : Int) - 48 := IntWalk.i64_in _ (by omega)
              have w4 : IntKind.i64.wrap (10 * (m : Int) + ((s[k].toNat : Int) - 48)) = ((m * 10 + (s[k].toNat - 48) : Nat) : Int) := by rw [IntWalk.i64_in _ (by omega)]; omega
              have w5 : IntKind.i64.wrap ((k : Int) + 1) = ((k + 1 : Nat) : Int) := by rw [IntWalk.i64_in _ (by omega)]; omega
              clear hv d0 d1
              go_wp2_with fail
              go_roundw
              case rel => exact ⟨k + 1, _, by omega, by go_num, rfl, HN, hb0⟩
              case measure => simp [intOf]; omega
        · have HE := Lib.hid (show Lib.decFrom 0 s.data.toList = some m by
            have := HM.out
            rwa [List.take_of_length_le (by simp only [Array.length_toList]; show s.size ≤ k; omega)] at this)
          go_wp2_with fail
          go_returns
          exact ⟨by rw [HE.out]; rfl, hb0⟩
    · have y0 : ((s[0].toNat : Int) == 45) = true := (u8_beq s[0] 45 (by decide)).trans e
      have y1 : ((s[1].toNat : Int) != 48) = false := by rw [bne, show ((s[1].toNat : Int) == 48) = true from (u8_beq s[1] 48 (by decide)).trans f]; rfl
      clear e f
      go_enter Tryd.func43, Tryd.ntmps43
      go_wp2_with fail
      go_loopw [6, 7] (fun n i wr => ∃ (k m : Nat), k ≤ s.size ∧ i = .int .i64 k ∧ n = .int .i64 m ∧ Hid (Lib.decFrom 0 (s.data.toList.take k) = some m) ∧ Below w.heap.size w wr) (fun _ i _ => s.size - (intOf i).toNat)
      case atStart => exact ⟨0, 0, Nat.zero_le _, rfl, rfl, Lib.hid rfl, Below.refl _ _⟩
      case round =>
        obtain ⟨k, m, hk, rfl, rfl, HM, hb0⟩ := hrel
        by_cases hlt : k < s.size
        · have hm : m < 1000000000000000 := by
            have h1 := Lib.decFrom_lt _ 0 m HM.out
            have h2 : (s.data.toList.take k).length ≤ 15 := by
              rw [List.length_take]
              have := H16.out
              omega
            have h3 : 10 ^ (s.data.toList.take k).length ≤ 10 ^ 15 := Nat.pow_le_pow_right (by decide) h2
            omega
          have hv := HD.out k hlt
          have HV := Lib.hid hv
          have hb := s[k].toNat_lt
          by_cases d0 : s[k].toNat < 48
          · have r1 : decide ((s[k].toNat : Int) < 48) = true := decide_eq_true (by omega)
            have HN := Lib.hid (decFrom_stop hv (by unfold Lib.digitVal; rw [if_neg (by omega)]))
            clear hv hm d0
            go_wp2_with fail
            go_returns
            exact ⟨by rw [HN.out]; rfl, hb0⟩
          · have r1 : decide ((s[k].toNat : Int) < 48) = false := decide_eq_false (by omega)
            by_cases d1 : 57 < s[k].toNat
            · have r2 : decide ((57 : Int) < s[k].toNat) = true := decide_eq_true (by omega)
              have HN := Lib.hid (decFrom_stop hv (by unfold Lib.digitVal; rw [if_neg (by omega)]))
              clear hv hm d0 d1
              go_wp2_with fail
              go_returns
              exact ⟨by rw [HN.out]; rfl, hb0⟩
            · have r2 : decide ((57 : Int) < s[k].toNat) = false := decide_eq_false (by omega)
              have HN := Lib.hid (Lib.decFrom_take _ k 0 m _ (s[k].toNat - 48) HM.out hv (by unfold Lib.digitVal; rw [if_pos (by omega)]))
              have w1 : IntKind.i64.wrap (10 * (m : Int)) = 10 * (m : Int) := IntWalk.i64_in _ (by omega)
              have w2 : IntKind.u8.wrap ((s[k].toNat : Int) - 48) = (s[k].toNat : Int) - 48 := by rw [IntKind.wrap_u8]; omega
              have w3 : IntKind.i64.wrap ((s[k].toNat : Int) - 48) = (s[k].toNat : Int) - 48 := IntWalk.i64_in _ (by omega)
              have w4 : IntKind.i64.wrap (10 * (m : Int) + ((s[k].toNat : Int) - 48)) = ((m * 10 + (s[k].toNat - 48) : Nat) : Int) := by rw [IntWalk.i64_in _ (by omega)]; omega
              have w5 : IntKind.i64.wrap ((k : Int) + 1) = ((k + 1 : Nat) : Int) := by rw [IntWalk.i64_in _ (by omega)]; omega
              clear hv d0 d1
              go_wp2_with fail
              go_roundw
              case rel => exact ⟨k + 1, _, by omega, by go_num, rfl, HN, hb0⟩
              case measure => simp [intOf]; omega
        · have HE := Lib.hid (show Lib.decFrom 0 s.data.toList = some m by
            have := HM.out
            rwa [List.take_of_length_le (by simp only [Array.length_toList]; show s.size ≤ k; omega)] at this)
          go_wp2_with fail
          go_returns
          exact ⟨by rw [HE.out]; rfl, hb0⟩
    · have y0 : ((s[0].toNat : Int) == 45) = true := (u8_beq s[0] 45 (by decide)).trans e
      have y1 : ((s[1].toNat : Int) != 48) = true := by rw [bne, show ((s[1].toNat : Int) == 48) = false from (u8_beq s[1] 48 (by decide)).trans f]; rfl
      have y2 : ((s[1].toNat : Int) != 45) = false := by rw [bne, show ((s[1].toNat : Int) == 45) = true from (u8_beq s[1] 45 (by decide)).trans g]; rfl
      clear e f g
      go_enter Tryd.func43, Tryd.ntmps43
      go_wp2_with fail
      go_loopw [6, 7] (fun n i wr => ∃ (k m : Nat), k ≤ s.size ∧ i = .int .i64 k ∧ n = .int .i64 m ∧ Hid (Lib.decFrom 0 (s.data.toList.take k) = some m) ∧ Below w.heap.size w wr) (fun _ i _ => s.size - (intOf i).toNat)
      case atStart => exact ⟨0, 0, Nat.zero_le _, rfl, rfl, Lib.hid rfl, Below.refl _ _⟩
      case round =>
        obtain ⟨k, m, hk, rfl, rfl, HM, hb0⟩ := hrel
        by_cases hlt : k < s.size
        · have hm : m < 1000000000000000 := by
            have h1 := Lib.decFrom_lt _ 0 m HM.out
            have h2 : (s.data.toList.take k).length ≤ 15 := by
              rw [List.length_take]
              have := H16.out
              omega
            have h3 : 10 ^ (s.data.toList.take k).length ≤ 10 ^ 15 := Nat.pow_le_pow_right (by decide) h2
            omega
          have hv := HD.out k hlt
          have HV := Lib.hid hv
          have hb := s[k].toNat_lt
          by_cases d0 : s[k].toNat < 48
          · have r1 : decide ((s[k].toNat : Int) < 48) = true := decide_eq_true (by omega)
            have HN := Lib.hid (decFrom_stop hv (by unfold Lib.digitVal; rw [if_neg (by omega)]))
            clear hv hm d0
            go_wp2_with fail
            go_returns
            exact ⟨by rw [HN.out]; rfl, hb0⟩
          · have r1 : decide ((s[k].toNat : Int) < 48) = false := decide_eq_false (by omega)
            by_cases d1 : 57 < s[k].toNat
            · have r2 : decide ((57 : Int) < s[k].toNat) = true := decide_eq_true (by omega)
              have HN := Lib.hid (decFrom_stop hv (by unfold Lib.digitVal; rw [if_neg (by omega)]))
              clear hv hm d0 d1
              go_wp2_with fail
              go_returns
              exact ⟨by rw [HN.out]; rfl, hb0⟩
            · have r2 : decide ((57 : Int) < s[k].toNat) = false := decide_eq_false (by omega)
              have HN := Lib.hid (Lib.decFrom_take _ k 0 m _ (s[k].toNat - 48) HM.out hv (by unfold Lib.digitVal; rw [if_pos (by omega)]))
              have w1 : IntKind.i64.wrap (10 * (m : Int)) = 10 * (m : Int) := IntWalk.i64_in _ (by omega)
              have w2 : IntKind.u8.wrap ((s[k].toNat : Int) - 48) = (s[k].toNat : Int) - 48 := by rw [IntKind.wrap_u8]; omega
              have w3 : IntKind.i64.wrap ((s[k].toNat : Int) - 48) = (s[k].toNat : Int) - 48 := IntWalk.i64_in _ (by omega)
              have w4 : IntKind.i64.wrap (10 * (m : Int) + ((s[k].toNat : Int) - 48)) = ((m * 10 + (s[k].toNat - 48) : Nat) : Int) := by rw [IntWalk.i64_in _ (by omega)]; omega
              have w5 : IntKind.i64.wrap ((k : Int) + 1) = ((k + 1 : Nat) : Int) := by rw [IntWalk.i64_in _ (by omega)]; omega
              clear hv d0 d1
              go_wp2_with fail
              go_roundw
              case rel => exact ⟨k + 1, _, by omega, by go_num, rfl, HN, hb0⟩
              case measure => simp [intOf]; omega
        · have HE := Lib.hid (show Lib.decFrom 0 s.data.toList = some m by
            have := HM.out
            rwa [List.take_of_length_le (by simp only [Array.length_toList]; show s.size ≤ k; omega)] at this)
          go_wp2_with fail
          go_returns
          exact ⟨by rw [HE.out]; rfl, hb0⟩
end Go.Proofs.YtbkkgkmllplbaaaDoor
