/- Disks copied and held against each other by the laws. -/
import Derived.Test.YtgmjdalfbebgbaaDkSz
namespace Go.Proofs.Ytgmjdalfbebgbaa
open Go.ChangeShapes Go.WideShapes Go.ChangeAt Go.RowKit
set_option linter.unusedVariables false
set_option linter.unusedSimpArgs false
set_option maxRecDepth 100000

theorem toFile_c (f : Fl) (w : World) : Calls Try.prog 82 #[.agg #[.string f.name, .string f.data]] w fun e w' => e = .returned (.agg #[.string f.name, .string f.data]) ∧ Below w.heap.size w w' := by
  go_enter Try.func82, Try.ntmps82
  go_wp2
  go_returns
  exact ⟨rfl, by go_grown⟩
theorem toDOp_c (o : Dp) (w : World) : Calls Try.prog 19 #[.agg #[.int .i64 o.kind, .string o.name, .string o.to, .string o.data]] w fun e w' => e = .returned (.agg #[.int .i64 o.kind, .string o.name, .string o.to, .string o.data]) ∧ Below w.heap.size w w' := by
  go_enter Try.func19, Try.ntmps19
  go_wp2
  go_returns
  exact ⟨rfl, by go_grown⟩
theorem eqFile_c (f : Fl) (w : World) : Calls Try.prog 87 #[.agg #[.string f.name, .string f.data], .agg #[.string f.name, .string f.data]] w fun e w' => e = .returned (.bool true) ∧ Below w.heap.size w w' := by
  go_enter Try.func87, Try.ntmps87
  go_wp2
  go_returns
  exact ⟨rfl, by go_grown⟩
theorem eqDOp_c (o : Dp) (w : World) : Calls Try.prog 88 #[.agg #[.int .i64 o.kind, .string o.name, .string o.to, .string o.data], .agg #[.int .i64 o.kind, .string o.name, .string o.to, .string o.data]] w fun e w' => e = .returned (.bool true) ∧ Below w.heap.size w w' := by
  go_enter Try.func88, Try.ntmps88
  go_wp2
  go_returns
  exact ⟨rfl, by go_grown⟩
/-- A row of the call's own, full. -/
def FreshG {α : Type} (C : Cells α) (T : TypeId) (n : Nat) (W : World) (l : List α) : Ending → World → Prop := fun e w' => ∃ g, e = .returned (.slice (some ⟨g, 0, none⟩) n n) ∧ FTab (n * C.size) T w' g (flatG C l) ∧ W.heap.size ≤ g ∧ Below W.heap.size W w'
set_option maxHeartbeats 2000000 in
theorem toFileS_c (l : List Fl) (n : Nat) (hn : Hid (n = l.length)) (hm : n ≤ 1048576) (x : Option Addr) (cap : Nat) (w : World) (h : GAt flC w.heap.size w x l) :
    Calls Try.prog 45 #[.slice x n cap] w (FreshG flC 84 n w l) := by
  have hmk := run_make_tab (P := Try.prog) Try.underlying28 infoFl n (by omega) hm
  have hT : FTab (n * 2) 84 (w.alloc (.cells (madeCells (Value.agg #[.string ⟨#[]⟩, .string ⟨#[]⟩]).cells (n * 2)) 84)) w.heap.size [] := FTab.made (k := 0) w
  go_enter Try.func45, Try.ntmps45
  go_wp2
  go_loopw [4] (fun i wr => ∃ k : Nat, k ≤ n ∧ i = .int .i64 k ∧ FTab (n * 2) 84 wr w.heap.size (flatG flC (l.take k)) ∧ Below w.heap.size w wr) (fun i _ => n - (RowKit.intOf i).toNat)
  case atStart => exact ⟨0, Nat.zero_le _, rfl, hT, by go_grown⟩
  case round =>
    obtain ⟨k, hk, rfl, ht, hb⟩ := hrel
    clear hmk
    by_cases hlt : k < n
    · obtain ⟨v, hv⟩ := getG (l := l) (k := k) (by rw [← hn.out]; exact hlt)
      obtain ⟨b, off, rfl, hbB, c0, c1⟩ := (h.next hb).fl hv
      have HV := Lib.hid (take_nextG hv)
      have HK := Lib.hid (show (flatG flC (l.take k)).length = k * 2 by rw [flatG_len, List.length_take]; have := hn.out; show min k l.length * 2 = k * 2; omega)
      clear hv
      go_wp2_with fail
      refine (toFile_c v _).mono ?_
      rintro e w1 ⟨rfl, hb1⟩
      have ht1 := ht.next hb1
      have g1 := grow_next hb hb1
      obtain ⟨⟨u0, r0⟩, f0⟩ := ht1.room (o := k * 2) (by omega)
      obtain ⟨⟨u1, r1⟩, f1⟩ := ht1.room (o := k * 2 + 1) (by omega)
      have hp := (ht1.push (k := k * 2) HK.out.symm (by omega) (.string v.name)).push (k := k * 2 + 1) (by rw [List.length_append, HK.out]; rfl) (by omega) (.string v.data)
      have HP : Hid (flatG flC (l.take k) ++ [.string v.name] ++ [.string v.data] = flatG flC (l.take (k + 1))) := Lib.hid (by rw [HV.out, flatG_append, flatG_one1, List.append_assoc]; rfl)
      rw [HP.out] at hp
      have G := below_setCell (below_setCell g1 (Nat.le_refl w.heap.size) (k * 2) (.string v.name)) (Nat.le_refl w.heap.size) (k * 2 + 1) (.string v.data)
      go_wp2_with fail
      go_roundw
      case rel => exact ⟨k + 1, by omega, by go_num, hp, G⟩
      case measure => simp [RowKit.intOf]; omega
    · have e : k = n := by omega
      have hT' : FTab (n * 2) 84 wr w.heap.size (flatG flC l) := by
        rw [e, hn.out, List.take_length] at ht
        rw [hn.out]
        exact ht
      clear e
      go_wp2_with fail
      go_returns
      exact ⟨_, rfl, hT', Nat.le_refl _, hb⟩
set_option maxHeartbeats 2000000 in
theorem toDOpS_c (l : List Dp) (n : Nat) (hn : Hid (n = l.length)) (hm : n ≤ 1048576) (x : Option Addr) (cap : Nat) (w : World) (h : GAt dpC w.heap.size w x l) :
    Calls Try.prog 46 #[.slice x n cap] w (FreshG dpC 40 n w l) := by
  have hmk := run_make_tab (P := Try.prog) Try.underlying29 infoDp n (by omega) hm
  have hT : FTab (n * 4) 40 (w.alloc (.cells (madeCells (Value.agg #[.int .i64 0, .string ⟨#[]⟩, .string ⟨#[]⟩, .string ⟨#[]⟩]).cells (n * 4)) 40)) w.heap.size [] := FTab.made (k := 0) w
  go_enter Try.func46, Try.ntmps46
  go_wp2
  go_loopw [4] (fun i wr => ∃ k : Nat, k ≤ n ∧ i = .int .i64 k ∧ FTab (n * 4) 40 wr w.heap.size (flatG dpC (l.take k)) ∧ Below w.heap.size w wr) (fun i _ => n - (RowKit.intOf i).toNat)
  case atStart => exact ⟨0, Nat.zero_le _, rfl, hT, by go_grown⟩
  case round =>
    obtain ⟨k, hk, rfl, ht, hb⟩ := hrel
    clear hmk
    by_cases hlt : k < n
    · obtain ⟨v, hv⟩ := getG (l := l) (k := k) (by rw [← hn.out]; exact hlt)
      obtain ⟨b, off, rfl, hbB, c0, c1, c2, c3⟩ := (h.next hb).dp hv
      have HV := Lib.hid (take_nextG hv)
      have HK := Lib.hid (show (flatG dpC (l.take k)).length = k * 4 by rw [flatG_len, List.length_take]; have := hn.out; show min k l.length * 4 = k * 4; omega)
      clear hv
      go_wp2_with fail
      refine (toDOp_c v _).mono ?_
      rintro e w1 ⟨rfl, hb1⟩
      have ht1 := ht.next hb1
      have g1 := grow_next hb hb1
      obtain ⟨⟨u0, r0⟩, f0⟩ := ht1.room (o := k * 4) (by omega)
      obtain ⟨⟨u1, r1⟩, f1⟩ := ht1.room (o := k * 4 + 1) (by omega)
      obtain ⟨⟨u2, r2⟩, f2⟩ := ht1.room (o := k * 4 + 2) (by omega)
      obtain ⟨⟨u3, r3⟩, f3⟩ := ht1.room (o := k * 4 + 3) (by omega)
      have hp := (((ht1.push (k := k * 4) HK.out.symm (by omega) (.int .i64 v.kind)).push (k := k * 4 + 1) (by rw [List.length_append, HK.out]; rfl) (by omega) (.string v.name)).push (k := k * 4 + 2) (by rw [List.length_append, List.length_append, HK.out]; rfl) (by omega) (.string v.to)).push (k := k * 4 + 3) (by rw [List.length_append, List.length_append, List.length_append, HK.out]; rfl) (by omega) (.string v.data)
      have HP : Hid (flatG dpC (l.take k) ++ [.int .i64 v.kind] ++ [.string v.name] ++ [.string v.to] ++ [.string v.data] = flatG dpC (l.take (k + 1))) := Lib.hid (by rw [HV.out, flatG_append, flatG_one1, List.append_assoc, List.append_assoc, List.append_assoc]; rfl)
      rw [HP.out] at hp
      have G := below_setCell (below_setCell (below_setCell (below_setCell g1 (Nat.le_refl w.heap.size) (k * 4) (.int .i64 v.kind)) (Nat.le_refl w.heap.size) (k * 4 + 1) (.string v.name)) (Nat.le_refl w.heap.size) (k * 4 + 2) (.string v.to)) (Nat.le_refl w.heap.size) (k * 4 + 3) (.string v.data)
      go_wp2_with fail
      go_roundw
      case rel => exact ⟨k + 1, by omega, by go_num, hp, G⟩
      case measure => simp [RowKit.intOf]; omega
    · have e : k = n := by omega
      have hT' : FTab (n * 4) 40 wr w.heap.size (flatG dpC l) := by
        rw [e, hn.out, List.take_length] at ht
        rw [hn.out]
        exact ht
      clear e
      go_wp2_with fail
      go_returns
      exact ⟨_, rfl, hT', Nat.le_refl _, hb⟩
end Go.Proofs.Ytgmjdalfbebgbaa
