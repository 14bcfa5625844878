/- A file's data out of a disk: the program's and the reference's. -/
import Derived.Test.YtgmjdalfbebgbaaDkOkS
namespace Go.Proofs.Ytgmjdalfbebgbaa
open Go.ChangeShapes Go.WideShapes Go.ChangeAt Go.RowKit
set_option linter.unusedVariables false
set_option linter.unusedSimpArgs false
set_option maxRecDepth 100000

def foundV (o : Option Fl) : Value := match o with | some f => .tuple #[.string f.data, .bool true] | none => .tuple #[.string ⟨#[]⟩, .bool false]
def readV (d : Dk) (k : List UInt8) : Value := if diskOk d = true then foundV (flAt d.live k) else .tuple #[.string ⟨#[]⟩, .bool false]
set_option maxHeartbeats 4000000 in
theorem dataOf_c (d : Dk) (s : ByteArray) (x y z : Option Addr) (n m q cx cy cz : Nat) (hb : n ≤ 1099511627776) (w : World) (h : DkAt w.heap.size w x y z n m q d) :
    Calls Try.prog 67 #[.agg #[.slice x n cx, .slice y m cy, .slice z q cz], .string s] w fun e w' => e = .returned (foundV (flAt d.live s.toList)) ∧ Below w.heap.size w w' := by
  have Z0 := blk_new w (.cells #[.slice x n cx, .slice y m cy, .slice z q cz] 31)
  have B0 : Below w.heap.size w (w.alloc (.cells #[.slice x n cx, .slice y m cy, .slice z q cz] 31)) := below_new _ _
  have L0 := h.live.next B0
  have hn : Hid (n = d.live.length) := Lib.hid h.hn
  obtain ⟨l, hl⟩ : ∃ l, d.live = l := ⟨_, rfl⟩
  rw [hl] at L0 hn
  rw [hl]
  clear h hl
  go_enter Try.func67, Try.ntmps67
  go_upto_region 1 with fail
  obtain ⟨W, hW⟩ : ∃ W, W = w.alloc (.cells #[.slice x n cx, .slice y m cy, .slice z q cz] 31) := ⟨_, rfl⟩
  rw [← hW] at Z0 B0 L0
  rw [← hW]
  clear hW
  obtain ⟨c0, c1, c2⟩ := three_cellsD Z0
  go_wp2_with fail
  clear c0 c1 c2
  go_loopw [11] (fun i wr => ∃ k : Nat, k ≤ n ∧ i = .int .i64 k ∧ Hid (∀ i < k, ∀ g, l[i]? = some g → g.key ≠ s.toList) ∧ Below W.heap.size W wr) (fun i _ => n - (RowKit.intOf i).toNat)
  case atStart => exact ⟨0, Nat.zero_le _, rfl, Lib.hid (fun i hi => by omega), Below.refl _ _⟩
  case round =>
    obtain ⟨k, hk, rfl, HE, hbw⟩ := hrel
    by_cases hlt : k < n
    · obtain ⟨f, hf⟩ := getG (l := l) (k := k) (by rw [← hn.out]; exact hlt)
      obtain ⟨g, off, rfl, _, d0, d1⟩ := (L0.next hbw).fl hf
      have hkn : (k : Int) < (n : Int) := by omega
      have hw1 : IntKind.i64.wrap ((k : Int) + 1) = (k : Int) + 1 := IntWalk.i64_in _ (by omega)
      have HF := Lib.hid hf
      obtain ⟨e0, e1⟩ := two_new wr (.string f.name) (.string f.data) 84
      have B1 := grow_next B0 (hbw.alloc hbw.size (.cells #[.string f.name, .string f.data] 84))
      have B2 := hbw.alloc hbw.size (.cells #[.string f.name, .string f.data] 84)
      clear hf
      cases hq : (f.name.toList == s.toList) with
      | true =>
        have HR : Hid (flAt l s.toList = some f) := Lib.hid (idxF_hit HF.out HE.out (by unfold Fl.key; simpa using hq)).2
        go_wp2_with fail
        go_returns
        exact ⟨by rw [HR.out]; rfl, B1⟩
      | false =>
        have HE2 : Hid (∀ i < k + 1, ∀ g, l[i]? = some g → g.key ≠ s.toList) := Lib.hid (fun i hi g hg => by
          by_cases e : i = k
          · rw [e, HF.out] at hg
            rw [← Option.some.inj hg]
            unfold Fl.key
            simpa using hq
          · exact HE.out i (by omega) g hg)
        go_wp2_with fail
        go_roundw
        case rel => exact ⟨k + 1, by omega, by go_num, HE2, B2⟩
        case measure => simp [RowKit.intOf]; omega
    · have hkn : ¬ (k : Int) < (n : Int) := by omega
      have HR : Hid (flAt l s.toList = none) := Lib.hid (idxF_miss (fun g hg => by
        obtain ⟨j, hj⟩ := List.mem_iff_getElem?.1 hg
        exact HE.out j (by have := (List.getElem?_eq_some_iff.1 hj).1; have := hn.out; omega) g hj)).2
      go_wp2_with fail
      go_returns
      exact ⟨by rw [HR.out]; rfl, grow_next B0 hbw⟩
set_option maxHeartbeats 4000000 in
theorem readFile_c (d : Dk) (hs : SmallD d) (s : ByteArray) (x y z : Option Addr) (n m q cx cy cz : Nat) (w : World) (h : DkAt w.heap.size w x y z n m q d) :
    Calls Try.prog 31 #[.agg #[.slice x n cx, .slice y m cy, .slice z q cz], .string s] w fun e w' => e = .returned (readV d s.toList) ∧ Below w.heap.size w w' := by
  have Z0 := blk_new w (.cells #[.slice x n cx, .slice y m cy, .slice z q cz] 31)
  have B0 : Below w.heap.size w (w.alloc (.cells #[.slice x n cx, .slice y m cy, .slice z q cz] 31)) := below_new _ _
  have D0 := h.next B0
  have HS := Lib.hid hs
  have hn : n ≤ 1099511627776 := by have := hs.live.1; have := h.hn; omega
  clear h hs
  go_enter Try.func31, Try.ntmps31
  go_upto_region 1 with fail
  obtain ⟨W, hW⟩ : ∃ W, W = w.alloc (.cells #[.slice x n cx, .slice y m cy, .slice z q cz] 31) := ⟨_, rfl⟩
  rw [← hW] at Z0 B0 D0
  rw [← hW]
  clear hW
  obtain ⟨c0, c1, c2⟩ := three_cellsD Z0
  have HI := Lib.hid (diskOk_c d HS.out x y z n m q cx cy cz W D0)
  cases hd : diskOk d with
  | false =>
    have HR : Hid (readV d s.toList = .tuple #[.string ⟨#[]⟩, .bool false]) := Lib.hid (by unfold readV; rw [hd]; rfl)
    rw [hd] at HI
    clear hd
    go_wp2_with (go_at_call 15; (with_reducible refine HI.out.mono ?_); rintro e w1 ⟨rfl, hb1⟩)
    go_returns
    exact ⟨by rw [HR.out]; rfl, grow_next B0 hb1⟩
  | true =>
    have HR : Hid (readV d s.toList = foundV (flAt d.live s.toList)) := Lib.hid (by unfold readV; rw [hd]; rfl)
    rw [hd] at HI
    clear hd
    go_upto_region 3 with (go_at_call 15; (with_reducible refine HI.out.mono ?_); rintro e w1 ⟨rfl, hb1⟩)
    have D1 := D0.next hb1
    have B1 := grow_next B0 hb1
    have Z1 := blk_next hb1 Z0
    clear c0 c1 c2 HI
    obtain ⟨c0, c1, c2⟩ := three_cellsD Z1
    have HO := Lib.hid (dataOf_c d s x y z n m q cx cy cz hn w1 D1)
    rw [← HR.out] at HO
    cases ho : flAt d.live s.toList with
    | none =>
      have HV : Hid (readV d s.toList = .tuple #[.string ⟨#[]⟩, .bool false]) := Lib.hid (by rw [HR.out, ho]; rfl)
      rw [HV.out] at HO
      clear ho
      go_wp2_with (go_at_call 67; (with_reducible refine HO.out.mono ?_); rintro e w2 ⟨rfl, hb2⟩)
      go_returns
      exact ⟨by rw [HV.out]; rfl, grow_next B1 hb2⟩
    | some f =>
      have HV : Hid (readV d s.toList = .tuple #[.string f.data, .bool true]) := Lib.hid (by rw [HR.out, ho]; rfl)
      rw [HV.out] at HO
      clear ho
      go_wp2_with (go_at_call 67; (with_reducible refine HO.out.mono ?_); rintro e w2 ⟨rfl, hb2⟩)
      go_returns
      exact ⟨by rw [HV.out]; rfl, grow_next B1 hb2⟩
set_option maxHeartbeats 4000000 in
theorem readFileS_c (d : Dk) (hs : SmallD d) (hods : ∀ o ∈ d.ops, o.data.size ≤ 549755813888) (s : ByteArray) (x y z : Option Addr) (n m q cx cy cz : Nat) (hy : y = none → cy = 0) (w : World) (h : DkAt w.heap.size w x y z n m q d) :
    Calls Try.prog 30 #[.agg #[.slice x n cx, .slice y m cy, .slice z q cz], .string s] w fun e w' => e = .returned (readV d s.toList) ∧ Below w.heap.size w w' := by
  have Z0 := blk_new w (.cells #[.slice x n cx, .slice y m cy, .slice z q cz] 31)
  have B0 : Below w.heap.size w (w.alloc (.cells #[.slice x n cx, .slice y m cy, .slice z q cz] 31)) := below_new _ _
  have D0 := h.next B0
  have hn : n ≤ 1099511627776 := by have := hs.live.1; have := h.hn; omega
  have HN := Lib.hid h.hn
  have HI := Lib.hid (fun W h => diskOkS_c d hs hods x y z n m q cx cy cz hy W h)
  clear h hs hods hy
  go_enter Try.func30, Try.ntmps30
  go_upto_region 1 with fail
  obtain ⟨W, hW⟩ : ∃ W, W = w.alloc (.cells #[.slice x n cx, .slice y m cy, .slice z q cz] 31) := ⟨_, rfl⟩
  rw [← hW] at Z0 B0 D0
  rw [← hW]
  clear hW
  obtain ⟨c0, c1, c2⟩ := three_cellsD Z0
  cases hd : diskOk d with
  | false =>
    have HR : Hid (readV d s.toList = .tuple #[.string ⟨#[]⟩, .bool false]) := Lib.hid (by unfold readV; rw [hd]; rfl)
    rw [hd] at HI
    clear hd
    go_wp2_with (go_at_call 13; (with_reducible refine (HI.out _ D0).mono ?_); rintro e w1 ⟨rfl, hb1⟩)
    go_returns
    exact ⟨by rw [HR.out]; rfl, grow_next B0 hb1⟩
  | true =>
    have HR : Hid (readV d s.toList = foundV (flAt d.live s.toList)) := Lib.hid (by unfold readV; rw [hd]; rfl)
    rw [hd] at HI
    clear hd
    go_upto_region 3 with (go_at_call 13; (with_reducible refine (HI.out _ D0).mono ?_); rintro e w1 ⟨rfl, hb1⟩)
    have D1 := D0.next hb1
    have B1 := grow_next B0 hb1
    have Z1 := blk_next hb1 Z0
    clear c0 c1 c2 HI
    obtain ⟨c0, c1, c2⟩ := three_cellsD Z1
    have HAT := Lib.hid (l10At_c d.live s n HN hn x cx w1 D1.live)
    rcases idxF_cases d.live s.toList with ⟨hi, hfa⟩ | ⟨j, f, hi, hf, hfa, hk⟩
    · have HV : Hid (readV d s.toList = .tuple #[.string ⟨#[]⟩, .bool false]) := Lib.hid (by rw [HR.out, hfa]; rfl)
      rw [hi] at HAT
      clear hi hfa
      go_wp2_with (go_at_call 66; (with_reducible refine HAT.out.mono ?_); rintro e w2 ⟨rfl, rfl⟩)
      go_returns
      exact ⟨by rw [HV.out]; rfl, B1⟩
    · have HV : Hid (readV d s.toList = .tuple #[.string f.data, .bool true]) := Lib.hid (by rw [HR.out, hfa]; rfl)
      rw [hi] at HAT
      have hjl : j < n := by rw [HN.out]; exact (List.getElem?_eq_some_iff.1 hf).1
      have g1 : ¬ (j : Int) < 0 := by omega
      obtain ⟨b, off, rfl, _, d0, d1⟩ := D1.live.fl hf
      clear hi hfa hf hk
      go_wp2_with (go_at_call 66; (with_reducible refine HAT.out.mono ?_); rintro e w2 ⟨rfl, rfl⟩)
      go_returns
      exact ⟨by rw [HV.out]; rfl, B1⟩
end Go.Proofs.Ytgmjdalfbebgbaa
