/- For every disk and name the program's ReadFile answers as the reference; its argument stays as it was. -/
import Derived.Test.YtgmjdalfbebgbaaDkTo2
import Derived.Test.YtgmjdalfbebgbaaDkRf
namespace Go.Proofs.Ytgmjdalfbebgbaa
open Go.ChangeShapes Go.WideShapes Go.ChangeAt Go.RowKit
set_option linter.unusedVariables false
set_option linter.unusedSimpArgs false

theorem SzD.half2 {d : Dk} (h : SzD d) : ∀ o ∈ d.ops, o.data.size ≤ 549755813888 := fun o ho => by have := (h.ops o ho).2.2; omega
theorem readV_two (d : Dk) (k : List UInt8) : ∃ (a : ByteArray) (b : Bool), readV d k = .tuple #[.string a, .bool b] := by
  unfold readV
  split
  · cases flAt d.live k with
    | none => exact ⟨_, _, rfl⟩
    | some f => exact ⟨_, _, rfl⟩
  · exact ⟨_, _, rfl⟩
set_option maxRecDepth 100000 in
set_option maxHeartbeats 8000000 in
theorem rfl_walk (W : World) (x y z : Option Addr) (n m q cx cy cz : Nat) (d : Dk) (h : n ≤ maxLen ∧ m ≤ maxLen ∧ q ≤ maxLen ∧ DkAt W.heap.size W x y z n m q d ∧ DkBig d) (s : ByteArray) (hsm : s.size ≤ maxLen) :
    Calls Try.prog 7 #[.agg #[.slice x n cx, .slice y m cy, .slice z q cz], .string s] W fun e w' => e = .returned (.bool true) ∧ Below W.heap.size W w' := by
  obtain ⟨hn, hm, hq, hd, hbig⟩ := h
  have HX : Hid (n = d.live.length ∧ m = d.safe.length ∧ q = d.ops.length) := Lib.hid ⟨hd.hn, hd.hm, hd.hq⟩
  have HZ := Lib.hid (fun W h => szDisk_c d hbig x y z n m q cx cy cz hn hm hq W h)
  have B0 : Below W.heap.size W (W.alloc (.cells #[.slice x n cx, .slice y m cy, .slice z q cz] 25)) := below_new _ _
  have Q0 := blk_new W (.cells #[.slice x n cx, .slice y m cy, .slice z q cz] 25)
  have r0 := hd.next B0
  clear hbig hn hm hq hd
  go_enter Try.func7, Try.ntmps7
  go_upto_region 1 with (fail)
  generalize W.alloc (.cells #[.slice x n cx, .slice y m cy, .slice z q cz] 25) = W0 at *
  obtain ⟨q0, q1, q2⟩ := three_cellsD Q0
  by_cases hlong : s.size ≤ 1048576
  case neg =>
    have g0 : (1048576 : Int) < (s.size : Int) := by omega
    have d0 : decide ((1048576 : Int) < (s.size : Int)) = true := decide_eq_true g0
    go_wp2_with fail
    go_returns
    exact ⟨rfl, B0⟩
  have gl : ¬ (1048576 : Int) < (s.size : Int) := by omega
  have dl : decide ((1048576 : Int) < (s.size : Int)) = false := decide_eq_false gl
  go_upto_region 5 with (go_at_call 12; (with_reducible refine (HZ.out _ r0).mono ?_); rintro e w0 ⟨r, rfl, hb0, hr⟩)
  have b0 := grow_next B0 hb0
  have Q1 := blk_next hb0 Q0
  have r1 := r0.next hb0
  clear q0 q1 q2 HZ Q0 r0
  obtain ⟨q0, q1, q2⟩ := three_cellsD Q1
  rcases hr with rfl | ⟨hr0, _, hsz⟩
  · go_wp2_with fail
    go_returns
    exact ⟨rfl, b0⟩
  · have d0 : decide (r < 0) = false := decide_eq_false (by omega)
    have g0 : ¬ r < 0 := by omega
    have HN : Hid (n ≤ 1048576 ∧ m ≤ 1048576 ∧ q ≤ 1048576) := Lib.hid (by
      obtain ⟨h1, h2, h3⟩ := HX.out
      exact ⟨by rw [h1]; exact hsz.nl, by rw [h2]; exact hsz.ns, by rw [h3]; exact hsz.no⟩)
    have HT := Lib.hid (fun x y z cx cy cz W h => toDisk_c d x y z n m q cx cy cz HN.out.1 HN.out.2.1 HN.out.2.2 W h)
    have HE := Lib.hid (fun x y z x' y' z' cx cy cz cx' cy' cz' W h h' => eqDisk_c d x y z x' y' z' n m q cx cy cz cx' cy' cz' (by have := HN.out.1; unfold maxLen; omega) (by have := HN.out.2.1; unfold maxLen; omega) (by have := HN.out.2.2; unfold maxLen; omega) W h h')
    obtain ⟨a, o, ho⟩ := readV_two d s.toList
    have HS := Lib.hid (fun x y z cx cy cz hy W h => (ho ▸ readFileS_c d hsz.small hsz.half2 s x y z n m q cx cy cz hy W h : Calls Try.prog 30 #[.agg #[.slice x n cx, .slice y m cy, .slice z q cz], .string s] W fun e w' => e = .returned (.tuple #[.string a, .bool o]) ∧ Below W.heap.size W w'))
    have HI := Lib.hid (fun x y z cx cy cz W h => (ho ▸ readFile_c d hsz.small s x y z n m q cx cy cz W h : Calls Try.prog 31 #[.agg #[.slice x n cx, .slice y m cy, .slice z q cz], .string s] W fun e w' => e = .returned (.tuple #[.string a, .bool o]) ∧ Below W.heap.size W w'))
    have hoo : (o != o) = false := by cases o <;> rfl
    clear ho hsz hr0
    go_upto_region 8 with (first
      | (go_at_call 14; (with_reducible refine (HT.out _ _ _ _ _ _ _ r1).mono ?_); rintro e w1 ⟨a1, a2, a3, rfl, t1, _, _, _, hb1⟩; have y1 := t1.at_ HX.out.1 HX.out.2.1 HX.out.2.2)
      | (go_at_call 30; (with_reducible refine (HS.out _ _ _ _ _ _ (by simp) _ y1).mono ?_); rintro e w2 ⟨rfl, hb2⟩))
    have b2 := grow_next (grow_next b0 hb1) hb2
    have Q3 := blk_next hb2 (blk_next hb1 Q1)
    have r3 := (r1.next hb1).next hb2
    clear q0 q1 q2 Q1 r1 y1 t1 b0
    obtain ⟨q0, q1, q2⟩ := three_cellsD Q3
    go_upto_region 9 with (go_at_call 14; (with_reducible refine (HT.out _ _ _ _ _ _ _ r3).mono ?_); rintro e w3 ⟨c1, c2, c3, rfl, t3, _, _, _, hb3⟩)
    have b3 := grow_next b2 hb3
    have B4 : Below w3.heap.size w3 (w3.alloc (.cells #[.slice (some ⟨c1, 0, none⟩) n n, .slice (some ⟨c2, 0, none⟩) m m, .slice (some ⟨c3, 0, none⟩) q q] 31)) := below_new _ _
    have b4 := grow_next b3 B4
    have N4 := blk_new w3 (.cells #[.slice (some ⟨c1, 0, none⟩) n n, .slice (some ⟨c2, 0, none⟩) m m, .slice (some ⟨c3, 0, none⟩) q q] 31)
    have y4 := (t3.next B4).at_ HX.out.1 HX.out.2.1 HX.out.2.2
    have r4 := (r3.next hb3).next B4
    have Q4 := blk_next B4 (blk_next hb3 Q3)
    generalize hW4 : w3.alloc (.cells #[.slice (some ⟨c1, 0, none⟩) n n, .slice (some ⟨c2, 0, none⟩) m m, .slice (some ⟨c3, 0, none⟩) q q] 31) = W4 at *
    obtain ⟨x0, x1, x2⟩ := three_cellsD N4
    clear q0 q1 q2 Q3 r3 t3
    go_upto_region 10 with (go_at_call 31; (with_reducible refine (HI.out _ _ _ _ _ _ _ y4).mono ?_); rintro e w5 ⟨rfl, hb5⟩)
    have b5 := grow_next b4 hb5
    have y5 := y4.next hb5
    have r5 := r4.next hb5
    have Q5 := blk_next hb5 Q4
    have N5 := blk_next hb5 N4
    clear x0 x1 x2 Q4 N4 y4 r4 hW4
    have gd := below_drewS w5
    have r6 := r5.next gd
    have y6 := y5.next gd
    have Q6 := blk_next gd Q5
    have N6 := blk_next gd N5
    have b6 := grow_next b5 gd
    go_wp2_with fail
    generalize hW6 : w5.drew = W6 at *
    obtain ⟨q0, q1, q2⟩ := three_cellsD Q6
    obtain ⟨x0, x1, x2⟩ := three_cellsD N6
    clear gd r5 y5 Q5 N5
    go_region_with (first
      | (go_at_call 14; (with_reducible refine (HT.out _ _ _ _ _ _ _ r6).mono ?_); rintro e w7 ⟨e1, e2, e3, rfl, t7, _, _, _, hb7⟩; have b7 := grow_next b6 hb7; have y7 := y6.next hb7; have z7 := t7.at_ HX.out.1 HX.out.2.1 HX.out.2.2; have Q7 := blk_next hb7 Q6; have N7 := blk_next hb7 N6; obtain ⟨q70, q71, q72⟩ := three_cellsD Q7; obtain ⟨x70, x71, x72⟩ := three_cellsD N7)
      | (go_at_call 16; (with_reducible refine (HE.out _ _ _ _ _ _ _ _ _ _ _ _ _ y7 z7).mono ?_); rintro e w8 ⟨rfl, hb8⟩; have b8 := grow_next b7 hb8))
    all_goals
      go_wp2_with fail
      go_returns
      exact ⟨rfl, b8⟩

set_option maxRecDepth 100000 in
theorem rfl_lifted (os : Os) (started : os.Started) (H : Type) (enc : TypeId × Value → H) :
    ReturnsInHanded {} Try.checked os 7 .any (Rows.fnExactReadFileSpec.pre6 enc Try.prog Try.f7 Rows.fnExactReadFileRow.domain false) (Rows.fnExactReadFileSpec.post enc Try.prog Try.f7 false true false false) := by
  refine lifted_of_walk (C := Try.checked) own started (by as_aux_lemma => kernel_rfl) Try.func7
    (ChangeSpec.witness6 (enc := enc) (C := Try.checked) false ⟨#[], #[.agg #[.slice none 0 0, .slice none 0 0, .slice none 0 0], .string ByteArray.empty], []⟩ 8 (by as_aux_lemma => kernel_rfl) (by as_aux_lemma => kernel_rfl) (by as_aux_lemma => kernel_rfl) (by as_aux_lemma => kernel_rfl) (by as_aux_lemma => kernel_rfl))
    laidOut rfl (by as_aux_lemma => kernel_rfl) (by as_aux_lemma => kernel_rfl) boolType
    (fun ds h => by
      match ds, h with
      | [_, _], _ => rfl)
    ?_
  intro W base args ds q hval hA
  rw [Try.params7] at hA hval
  obtain ⟨v0, vs0, d0, ds0, p0, q0, hargs, rfl, rfl, h0, r0⟩ := trodAll_cons hA
  obtain ⟨v1, vs1, d1, ds1, p1, q1, rfl, rfl, rfl, h1, r1⟩ := trodAll_cons r0
  obtain ⟨rfl, rfl, rfl⟩ := trodAll_nil r1
  obtain rfl : args = #[v0, v1] := by cases args; simp_all
  obtain ⟨x0, y0, z0, n0, m0, k0, cx0, cy0, cz0, D0, rfl, w0⟩ := open_disk (hval 0 25 v0 rfl rfl) h0
  obtain ⟨a1, rfl, rfl, rfl, w1⟩ := Go.ChangeMaps.open_string Try.underlying9 (hval 1 9 v1 rfl rfl) h1
  exact rfl_walk W x0 y0 z0 n0 m0 k0 cx0 cy0 cz0 D0 w0 a1 w1

set_option maxHeartbeats 4000000 in
theorem rfl_facts : joinedFacts Try.pinned.checked.prog 7 Try.f7 Rows.fnExactReadFileSpec Rows.fnExactReadFileRow = true :=
  facts_of (P := Try.prog) (by as_aux_lemma => kernel_rfl) laidOut mapsRow (by as_aux_lemma => kernel_rfl) (by as_aux_lemma => kernel_rfl) rfl noStops rfl noKnobs (by as_aux_lemma => kernel_rfl) (by as_aux_lemma => kernel_rfl) (by as_aux_lemma => kernel_rfl) (by as_aux_lemma => kernel_rfl) (by as_aux_lemma => kernel_rfl) (by as_aux_lemma => kernel_rfl) (by as_aux_lemma => kernel_rfl) (by as_aux_lemma => kernel_rfl) (by as_aux_lemma => kernel_rfl) rfl (by as_aux_lemma => kernel_rfl) (by as_aux_lemma => kernel_rfl) (by as_aux_lemma => kernel_rfl) keysPlain rfl heard enters finals isMake rfl rfl rfl (by as_aux_lemma => kernel_rfl) (by as_aux_lemma => kernel_rfl)

/-- The given statement. -/
theorem rfl_holds : Rows.FnExactReadFileSaid :=
  OpenClaim.holds_of_wide 7 Try.f7 rfl rfl rfl rfl rfl rfl rfl ⟨rfl, rfl, rfl, rfl, rfl⟩ rfl rfl rfl rfl rfl (by as_aux_lemma => kernel_rfl) Try.func7 rfl_facts
    (of_decide_eq_true (by as_aux_lemma => kernel_rfl)) (by unfold Func.isWrapper; first | (rw [if_pos (by decide +kernel)]; kernel_rfl) | (rw [if_neg (by decide +kernel)]; exact ⟨rfl, rfl⟩))
    (fun os started H enc _ => rfl_lifted os started H enc)
#print axioms rfl_holds
end Go.Proofs.Ytgmjdalfbebgbaa
