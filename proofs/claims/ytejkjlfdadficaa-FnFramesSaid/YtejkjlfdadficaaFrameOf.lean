/- For every text the program's FrameOf answers as the reference. -/
import Derived.Test.YtejkjlfdadficaaCrc
import Derived.Test.YtejkjlfdadficaaKeep
import Derived.Deep.RegionWith
import Derived.Lib.Hide
import Derived.IntWalk
namespace Go.Proofs.Ytejkjlfdadficaa
open Go.ChangeShapes Go.WideShapes Go.ChangeAt Go.RowKit
set_option linter.unusedVariables false
set_option linter.unusedSimpArgs false

theorem slice_cells {W : World} {b : Nat} {T : TypeId} {x0 x1 x2 x3 : Int} (h : W.heap[b]? = some (.cells #[.int .u8 x0, .int .u8 x1, .int .u8 x2, .int .u8 x3] T)) :
    W.cell? ⟨b, 0, none⟩ = some (.int .u8 x0) ∧ W.cell? ⟨b, 1, none⟩ = some (.int .u8 x1) ∧ W.cell? ⟨b, 2, none⟩ = some (.int .u8 x2) ∧ W.cell? ⟨b, 3, none⟩ = some (.int .u8 x3) := by
  simp [World.cell?, h]
theorem convert4 {x0 x1 x2 x3 : Int} (W : World) (g : Nat) (h0 : W.cell? ⟨g, 0, none⟩ = some (.int .u8 x0)) (h1 : W.cell? ⟨g, 1, none⟩ = some (.int .u8 x1)) (h2 : W.cell? ⟨g, 2, none⟩ = some (.int .u8 x2)) (h3 : W.cell? ⟨g, 3, none⟩ = some (.int .u8 x3)) :
    (convert 29 9 (.slice (some ⟨g, 0, none⟩) 4 4)).run Try.prog W = .ok (.string (strOfNums [x0, x1, x2, x3])) W :=
  run_convert_bytes_arg (P := Try.prog) W 29 5 Try.underlying29 Try.underlying5 g 0 4 4 [x0, x1, x2, x3] rfl (fun i hi => by
    match i, hi with
    | 0, _ => exact h0
    | 1, _ => exact h1
    | 2, _ => exact h2
    | 3, _ => exact h3) 9 Try.underlying9
/-- A text's frame; nothing where it is too long. -/
def frameB (s : ByteArray) : ByteArray := if s.size ≤ 100000 then headB s ++ s else ⟨#[]⟩
theorem crcB_size (s : ByteArray) : (crcB s).size = 4 := rfl
theorem headB_size (s : ByteArray) : (headB s).size = 8 := by unfold headB; rw [ByteArray.size_append, crcB_size]; rfl

theorem frameOf_impl (s : ByteArray) (hs : s.size ≤ 1048576) (w : World) :
    Calls Try.prog 7 #[.string s] w fun e w' => e = .returned (.string (frameB s)) ∧ Below w.heap.size w w' := by
  unfold frameB
  by_cases hlt : s.size ≤ 100000
  · rw [if_pos hlt]
    have hz := headB_size s
    have HC := Lib.hid (head_impl s hs)
    obtain ⟨h, hh⟩ : ∃ h, headB s = h := ⟨_, rfl⟩
    rw [hh] at hz HC ⊢
    clear hh
    go_enter Try.func7, Try.ntmps7
    go_wp2_with fail
    refine (HC.out _).mono ?_
    rintro e w1 ⟨rfl, hb1⟩
    go_wp2_with fail
    go_returns
    exact ⟨rfl, hb1⟩
  · rw [if_neg hlt]
    go_enter Try.func7, Try.ntmps7
    go_wp2_with fail
    go_returns
    exact ⟨rfl, Below.refl _ _⟩
set_option maxRecDepth 100000 in
set_option maxHeartbeats 1000000 in
theorem frameOf_spec (s : ByteArray) (hs : s.size ≤ 1048576) (w : World) :
    Calls Try.prog 6 #[.string s] w fun e w' => e = .returned (.string (frameB s)) ∧ Below w.heap.size w w' := by
  unfold frameB
  by_cases hlt : s.size ≤ 100000
  · rw [if_pos hlt]
    have hcz := crcB_size s
    have HC := Lib.hid (sum_spec s hs)
    obtain ⟨n, hn⟩ : ∃ n, n = s.size := ⟨_, rfl⟩
    have e : headB s ++ s = (strOfNums [(n : Int) / 16777216 % 256, (n : Int) / 65536 % 256, (n : Int) / 256 % 256, (n : Int) % 256] ++ crcB s) ++ s := by rw [hn]; rfl
    have hz : (strOfNums [(n : Int) / 16777216 % 256, (n : Int) / 65536 % 256, (n : Int) / 256 % 256, (n : Int) % 256]).size = 4 := rfl
    obtain ⟨c, hc⟩ : ∃ c, crcB s = c := ⟨_, rfl⟩
    rw [hc] at hcz HC e
    rw [e]
    obtain ⟨y3, h3⟩ : ∃ y, y = (n : Int) / 16777216 % 256 := ⟨_, rfl⟩
    obtain ⟨y2, h2⟩ : ∃ y, y = (n : Int) / 65536 % 256 := ⟨_, rfl⟩
    obtain ⟨y1, h1⟩ : ∃ y, y = (n : Int) / 256 % 256 := ⟨_, rfl⟩
    obtain ⟨y0, h0⟩ : ∃ y, y = (n : Int) % 256 := ⟨_, rfl⟩
    rw [← h3, ← h2, ← h1, ← h0] at hz ⊢
    have u3 : IntKind.u8.wrap ((n : Int) / 16777216) = y3 := by rw [IntKind.wrap_u8, h3]
    have u2 : IntKind.u8.wrap ((n : Int) / 65536) = y2 := by rw [IntKind.wrap_u8, h2]
    have u1 : IntKind.u8.wrap ((n : Int) / 256) = y1 := by rw [IntKind.wrap_u8, h1]
    have u0 : IntKind.u8.wrap (n : Int) = y0 := by rw [IntKind.wrap_u8, h0]
    have hcv := @convert4 y3 y2 y1 y0
    clear h3 h2 h1 h0
    clear hc e
    rw [← hn] at hlt
    have HN := Lib.hid hn.symm
    have hn' := hn.symm
    clear hn
    go_enter Try.func6, Try.ntmps6
    go_wp2_with fail
    go_region_with (go_at_call 17; (with_reducible refine (HC.out _).mono ?_); rintro e w1 ⟨rfl, hb1⟩; (first | (have N1 := blk_next hb1 (blk_newd w (.cells #[.int .u8 y3, .int .u8 y2, .int .u8 y1, .int .u8 y0] 5)); have M1 := slice_cells N1) | skip))
    all_goals
      go_wp2_with fail
      go_returns
      first
        | exact ⟨rfl, grow_next (below_newd w _) hb1⟩
        | exact ⟨rfl, (grow_next (below_drewR (Below.refl _ w)) hb1).alloc (grow_next (below_drewR (Below.refl _ w)) hb1).size _⟩
  · rw [if_neg hlt]
    go_enter Try.func6, Try.ntmps6
    go_wp2_with fail
    go_returns
    exact ⟨rfl, Below.refl _ _⟩

theorem frameOf_walk (s : ByteArray) (hs : s.size ≤ maxLen) (w : World) :
    Calls Try.prog 3 #[.string s] w fun e w' => e = .returned (.bool true) ∧ Below w.heap.size w w' := by
  unfold maxLen at hs
  by_cases hbig : s.size ≤ 1048576
  · have HS := Lib.hid (frameOf_spec s hbig)
    have HI := Lib.hid (frameOf_impl s hbig)
    obtain ⟨f, hf⟩ : ∃ f, frameB s = f := ⟨_, rfl⟩
    rw [hf] at HS HI
    clear hf
    go_enter Try.func3, Try.ntmps3
    go_wp2_with fail
    refine (HS.out _).mono ?_
    rintro e w1 ⟨rfl, hb1⟩
    go_wp2_with fail
    refine (HI.out _).mono ?_
    rintro e w2 ⟨rfl, hb2⟩
    go_wp2_with fail
    go_returns
    exact ⟨rfl, hb1.trans (hb2.mono hb1.size)⟩
  · go_enter Try.func3, Try.ntmps3
    go_wp2_with fail
    go_returns
    exact ⟨rfl, Below.refl _ _⟩
set_option maxRecDepth 100000 in
theorem frameOf_lifted (os : Os) (started : os.Started) (H : Type) (enc : TypeId × Value → H) :
    ReturnsInHanded {} Try.checked os 3 .any (Rows.fnExactFrameOfSpec.pre6 enc Try.prog Try.f3 Rows.fnExactFrameOfRow.domain false) (Rows.fnExactFrameOfSpec.post enc Try.prog Try.f3 false true false false) := by
  refine lifted_of_walk (C := Try.checked) own started (by as_aux_lemma => kernel_rfl) Try.func3
    (ChangeSpec.witness6 (enc := enc) (C := Try.checked) false ⟨#[], #[.string ByteArray.empty], []⟩ 8 (by as_aux_lemma => kernel_rfl) (by as_aux_lemma => kernel_rfl) (by as_aux_lemma => kernel_rfl) (by as_aux_lemma => kernel_rfl) (by as_aux_lemma => kernel_rfl))
    laidOut rfl (by as_aux_lemma => kernel_rfl) (by as_aux_lemma => kernel_rfl) boolType
    (fun ds h => by
      match ds, h with
      | [_], _ => rfl)
    ?_
  intro W base args ds q hval hA
  rw [Try.params3] at hA hval
  obtain ⟨v0, vs0, d0, ds0, p0, q0, hargs, rfl, rfl, h0, r0⟩ := trodAll_cons hA
  obtain ⟨rfl, rfl, rfl⟩ := trodAll_nil r0
  obtain rfl : args = #[v0] := by cases args; simp_all
  obtain ⟨a0, rfl, rfl, rfl, w0⟩ := Go.ChangeMaps.open_string Try.underlying9 (hval 0 9 v0 rfl rfl) h0
  exact frameOf_walk a0 w0 W

theorem frameOf_facts : joinedFacts Try.pinned.checked.prog 3 Try.f3 Rows.fnExactFrameOfSpec Rows.fnExactFrameOfRow = true :=
  facts_of (P := Try.prog) (by as_aux_lemma => kernel_rfl) laidOut mapsRow (by as_aux_lemma => kernel_rfl) (by as_aux_lemma => kernel_rfl) rfl noStops rfl noKnobs (by as_aux_lemma => kernel_rfl) (by as_aux_lemma => kernel_rfl) (by as_aux_lemma => kernel_rfl) (by as_aux_lemma => kernel_rfl) (by as_aux_lemma => kernel_rfl) (by as_aux_lemma => kernel_rfl) (by as_aux_lemma => kernel_rfl) (by as_aux_lemma => kernel_rfl) (by as_aux_lemma => kernel_rfl) rfl (by as_aux_lemma => kernel_rfl) (by as_aux_lemma => kernel_rfl) (by as_aux_lemma => kernel_rfl) keysPlain rfl heard enters finals isMake rfl rfl rfl (by as_aux_lemma => kernel_rfl) (by as_aux_lemma => kernel_rfl)

/-- The given statement. -/
theorem frameOf_holds : Rows.FnExactFrameOfSaid :=
  OpenClaim.holds_of_wide 3 Try.f3 rfl rfl rfl rfl rfl rfl rfl ⟨rfl, rfl, rfl, rfl, rfl⟩ rfl rfl rfl rfl rfl (by as_aux_lemma => kernel_rfl) Try.func3 frameOf_facts
    (of_decide_eq_true (by as_aux_lemma => kernel_rfl)) (by unfold Func.isWrapper; first | (rw [if_pos (by decide +kernel)]; kernel_rfl) | (rw [if_neg (by decide +kernel)]; exact ⟨rfl, rfl⟩))
    (fun os started H enc _ => frameOf_lifted os started H enc)
#print axioms frameOf_holds
end Go.Proofs.Ytejkjlfdadficaa
