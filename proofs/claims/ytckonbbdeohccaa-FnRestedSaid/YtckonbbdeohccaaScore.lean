/- The laws' score of a client; two limiters held against each other by the laws. -/
import Derived.Test.YtckonbbdeohccaaCameI
import Derived.BigQuiet
namespace Go.Proofs.Ytckonbbdeohccaa
open Go.ChangeShapes Go.WideShapes Go.ChangeAt Go.RowKit
set_option linter.unusedVariables false
set_option linter.unusedSimpArgs false
set_option maxRecDepth 100000

def scoreV (l : List Cl) (i : Int) : Int := match clAt l i with | some c => c.score | none => 0
theorem scoreV_hit {l : List Cl} {i : Int} {k : Nat} {v : Cl} (hv : l[k]? = some v) (hlt : ∀ a ∈ l.take k, a.id ≠ i) (e : v.id = i) : scoreV l i = v.score := by
  unfold scoreV clAt
  obtain ⟨hk, e2⟩ := List.getElem?_eq_some_iff.1 hv
  have hd : l.drop k = v :: l.drop (k + 1) := by rw [List.drop_eq_getElem_cons hk, e2]
  have e3 : l = l.take k ++ (v :: l.drop (k + 1)) := by rw [← hd, List.take_append_drop]
  have hf : l.find? (fun c => c.id == i) = some v := by
    rw [e3, List.find?_append, List.find?_eq_none.2 (fun a ha => by simpa using hlt a ha), List.find?_cons_of_pos (by simpa using e)]
    rfl
  rw [hf]
theorem scoreV_none {l : List Cl} {i : Int} (h : ∀ a ∈ l, a.id ≠ i) : scoreV l i = 0 := by
  unfold scoreV clAt
  rw [List.find?_eq_none.2 (fun a ha => by simpa using h a ha)]
set_option maxHeartbeats 2000000 in
theorem score_c (l : List Cl) (n : Nat) (hn : Hid (n = l.length)) (hm : n ≤ maxLen) (i : Int) (x : Option Addr) (cap : Nat) (w : World) (h : Cls w.heap.size w x l) :
    Calls Try.prog 32 #[.agg #[.slice x n cap], .int .i64 i] w fun e w' => e = .returned (.int .i64 (scoreV l i)) ∧ Below w.heap.size w w' := by
  unfold maxLen at hm
  have Q0 := blk_new w (.cells #[.slice x n cap] 28)
  have B0 : Below w.heap.size w (w.alloc (.cells #[.slice x n cap] 28)) := below_new _ _
  have h0 := h.next B0
  go_enter Try.func32, Try.ntmps32
  go_upto_region 2 with (fail)
  generalize w.alloc (.cells #[.slice x n cap] 28) = w0 at *
  obtain ⟨c0, _⟩ := one_cell Q0
  go_loop [5] (fun s => ∃ k : Nat, k ≤ n ∧ s = .int .i64 k ∧ Hid (∀ a ∈ l.take k, a.id ≠ i)) (fun s => n - (RowKit.intOf s).toNat)
  case atStart => exact ⟨0, Nat.zero_le _, rfl, Lib.hid (fun a ha => by simp at ha)⟩
  case round =>
    obtain ⟨k, hk, rfl, HLT⟩ := hrel
    by_cases hlt : k < n
    · obtain ⟨v, hv⟩ := getC (l := l) (k := k) (by rw [← hn.out]; exact hlt)
      obtain ⟨b, off, rfl, hbB, d0, d1, d2⟩ := h0.at_ hv
      have hkn : (k : Int) < (n : Int) := by omega
      have HV0 := Lib.hid hv
      clear hv
      by_cases hvi : v.id = i
      · have hq : (v.id == i) = true := by rw [beq_iff_eq]; exact hvi
        have HS := Lib.hid (scoreV_hit HV0.out HLT.out hvi)
        clear hvi
        go_wp2_with fail
        go_returns
        exact ⟨by rw [HS.out]; rfl, B0⟩
      · have hq : (v.id == i) = false := by rw [beq_eq_false_iff_ne]; exact hvi
        have HLT2 : Hid (∀ a ∈ l.take (k + 1), a.id ≠ i) := Lib.hid (fun a ha => by
          rw [take_nextC HV0.out] at ha
          rcases List.mem_append.1 ha with ha | ha
          · exact HLT.out a ha
          · rw [List.mem_singleton.1 ha]; exact hvi)
        clear hvi
        go_wp2_with fail
        go_round
        case rel => exact ⟨k + 1, by omega, by go_num, HLT2⟩
        case measure => simp [RowKit.intOf]; omega
    · have hkn : ¬ (k : Int) < (n : Int) := by omega
      have HS : Hid (scoreV l i = 0) := Lib.hid (scoreV_none (fun a ha => HLT.out a (by rw [List.take_of_length_le (by have := hn.out; omega)]; exact ha)))
      go_wp2_with fail
      go_returns
      exact ⟨by rw [HS.out]; rfl, B0⟩
set_option maxHeartbeats 2000000 in
theorem sameLimiter_c (l : List Cl) (n : Nat) (hn : Hid (n = l.length)) (hm : n ≤ maxLen) (x y : Option Addr) (cap cap' : Nat) (w : World) (h : Cls w.heap.size w x l) (h' : Cls w.heap.size w y l) :
    Calls Try.prog 29 #[.agg #[.slice x n cap], .agg #[.slice y n cap']] w fun e w' => e = .returned (.bool true) ∧ Below w.heap.size w w' := by
  unfold maxLen at hm
  have Z0 := blk_alloc (blk_new w (.cells #[.slice x n cap] 28)) (.cells #[.slice y n cap'] 28)
  have Z1 := blk_new (w.alloc (.cells #[.slice x n cap] 28)) (.cells #[.slice y n cap'] 28)
  simp only [World.size_alloc] at Z1
  have g2 : Below w.heap.size w ((w.alloc (.cells #[.slice x n cap] 28)).alloc (.cells #[.slice y n cap'] 28)) := by go_grown
  have h0 := h.next g2
  have h0' := h'.next g2
  go_enter Try.func29, Try.ntmps29
  go_upto_region 1 with (fail)
  generalize (w.alloc (.cells #[.slice x n cap] 28)).alloc (.cells #[.slice y n cap'] 28) = w0 at *
  obtain ⟨a0, _⟩ := one_cell Z0
  obtain ⟨a1, _⟩ := one_cell Z1
  go_wp2_with fail
  clear a0 a1
  go_loopw [5] (fun i wr => ∃ k : Nat, k ≤ n ∧ i = .int .i64 k ∧ Below w0.heap.size w0 wr) (fun i _ => n - (RowKit.intOf i).toNat)
  case atStart => exact ⟨0, Nat.zero_le _, rfl, Below.refl _ _⟩
  case round =>
    obtain ⟨k, hk, rfl, hb⟩ := hrel
    obtain ⟨c0, _⟩ := one_cell (blk_next hb Z0)
    obtain ⟨c1, _⟩ := one_cell (blk_next hb Z1)
    by_cases hlt : k < n
    · obtain ⟨v, hv⟩ := getC (l := l) (k := k) (by rw [← hn.out]; exact hlt)
      obtain ⟨b, off, rfl, hbB, d0, d1, d2⟩ := (h0.next hb).at_ hv
      obtain ⟨b', off', rfl, hbB', e0, e1, e2⟩ := (h0'.next hb).at_ hv
      clear hv
      have hkn : (k : Int) < (n : Int) := by omega
      go_wp2_with fail
      go_quiet (fail)
      go_wp2_with fail
      go_roundw
      case rel => exact ⟨k + 1, by omega, by go_num, grow_drew hb _⟩
      case measure => simp [RowKit.intOf]; omega
    · have hkn : ¬ (k : Int) < (n : Int) := by omega
      go_wp2_with fail
      go_returns
      exact ⟨rfl, grow_next g2 hb⟩
end Go.Proofs.Ytckonbbdeohccaa
