/- The size of a disk, as the laws reckon it: where it is not past the bound, every part is short. -/
import Derived.Test.YtgmjdalfbebgbaaDkOpen
namespace Go.Proofs.Ytgmjdalfbebgbaa
open Go.ChangeShapes Go.WideShapes Go.ChangeAt Go.RowKit
set_option linter.unusedVariables false
set_option linter.unusedSimpArgs false
set_option maxRecDepth 100000

/-- What is left: nothing (-1), or no more than there was, and this holds. -/
def LeftG (W : World) (left : Int) (P : Prop) : Ending → World → Prop := fun e w' => ∃ r : Int, e = .returned (.int .i64 r) ∧ Below W.heap.size W w' ∧ (r = -1 ∨ (0 ≤ r ∧ r ≤ left ∧ P))
def FlSz (f : Fl) : Prop := f.name.size ≤ 1048576 ∧ f.data.size ≤ 1048576
def DpSz (o : Dp) : Prop := o.name.size ≤ 1048576 ∧ o.to.size ≤ 1048576 ∧ o.data.size ≤ 1048576
theorem sub_wrap {left : Int} {n : Nat} (h0 : 0 ≤ left) (h1 : left ≤ 1048576) (hn : n ≤ maxLen) : IntKind.i64.wrap (left - (n : Int)) = left - (n : Int) := by
  unfold maxLen at hn
  exact IntWalk.i64_in _ (by omega)
set_option maxHeartbeats 2000000 in
theorem szFile_c (f : Fl) (hf : FlBig f) (left : Int) (h0 : 0 ≤ left) (h1 : left ≤ 1048576) (w : World) :
    Calls Try.prog 78 #[.agg #[.string f.name, .string f.data], .int .i64 left] w (LeftG w left (FlSz f)) := by
  have B0 : Below w.heap.size w (w.alloc (.cells #[.string f.name, .string f.data] 104)) := below_new _ _
  obtain ⟨c0, c1⟩ := two_new w (.string f.name) (.string f.data) 104
  have hw0 := sub_wrap (n := f.name.size) h0 h1 hf.1
  go_enter Try.func78, Try.ntmps78
  obtain ⟨a, ha⟩ : ∃ a : Int, left - (f.name.size : Int) = a := ⟨_, rfl⟩
  rw [ha] at hw0
  by_cases hn : a < 0
  · have d0 : decide (a < 0) = true := decide_eq_true hn
    go_wp2_with fail
    go_returns
    exact ⟨-1, rfl, B0, .inl rfl⟩
  · have ha0 : 0 ≤ a := by omega
    have ha1 : a ≤ 1048576 := by omega
    have hw1 := sub_wrap (n := f.data.size) ha0 ha1 hf.2
    have HQ : Hid (0 ≤ a - (f.data.size : Int) → a - (f.data.size : Int) ≤ left ∧ FlSz f) := Lib.hid (fun h => ⟨by omega, by unfold FlSz; omega⟩)
    obtain ⟨b, hb⟩ : ∃ b : Int, a - (f.data.size : Int) = b := ⟨_, rfl⟩
    rw [hb] at hw1 HQ
    have d0 : decide (a < 0) = false := decide_eq_false hn
    by_cases hn2 : b < 0
    · have d1 : decide (b < 0) = true := decide_eq_true hn2
      clear ha0 ha1 hf
      go_wp2_with fail
      go_returns
      exact ⟨-1, rfl, B0, .inl rfl⟩
    · have d1 : decide (b < 0) = false := decide_eq_false hn2
      have HGE : Hid (0 ≤ b) := Lib.hid (by omega)
      have HR := Lib.hid (HQ.out HGE.out)
      clear ha0 ha1 HQ hf
      go_wp2_with fail
      go_returns
      exact ⟨b, rfl, B0, .inr ⟨HGE.out, HR.out.1, HR.out.2⟩⟩
set_option maxHeartbeats 2000000 in
theorem szFileS_c (l : List Fl) (n : Nat) (hn : Hid (n = l.length)) (hm : n ≤ maxLen) (hf : ∀ f ∈ l, FlBig f) (left : Int) (h0 : 0 ≤ left) (h1 : left ≤ 1048576) (x : Option Addr) (cap : Nat) (w : World) (h : GAt flC w.heap.size w x l) :
    Calls Try.prog 39 #[.slice x n cap, .int .i64 left] w (LeftG w left (n ≤ 1048576 ∧ ∀ f ∈ l, FlSz f)) := by
  have hw0 := sub_wrap (n := n) h0 h1 hm
  unfold maxLen at hm
  have HB := Lib.hid hf
  clear hf
  go_enter Try.func39, Try.ntmps39
  obtain ⟨a, ha⟩ : ∃ a : Int, left - (n : Int) = a := ⟨_, rfl⟩
  rw [ha] at hw0
  by_cases hneg : a < 0
  · have d0 : decide (a < 0) = true := decide_eq_true hneg
    go_wp2_with fail
    go_returns
    exact ⟨-1, rfl, Below.refl _ _, .inl rfl⟩
  · have d0 : decide (a < 0) = false := decide_eq_false hneg
    have hn1 : n ≤ 1048576 := by omega
    have ha1 : a ≤ left := by omega
    have ha0 : 0 ≤ a := by omega
    go_wp2_with fail
    have HA : Hid (a ≤ left ∧ 0 ≤ a) := Lib.hid ⟨ha1, ha0⟩
    clear ha hw0 d0 hneg ha1 ha0
    go_loopw [1, 5] (fun r i wr => ∃ (k : Nat) (b : Int), k ≤ n ∧ i = .int .i64 k ∧ r = .int .i64 b ∧ 0 ≤ b ∧ b ≤ left ∧ Hid (∀ f ∈ l.take k, FlSz f) ∧ Below w.heap.size w wr) (fun _ i _ => n - (RowKit.intOf i).toNat)
    case atStart => exact ⟨0, a, Nat.zero_le _, rfl, rfl, HA.out.2, HA.out.1, Lib.hid (by simp), Below.refl _ _⟩
    case round =>
      obtain ⟨k, b, hk, rfl, rfl, hb0, hb1, HT, hbw⟩ := hrel
      by_cases hlt : k < n
      · obtain ⟨f, hf⟩ := getG (l := l) (k := k) (by rw [← hn.out]; exact hlt)
        obtain ⟨g, off, rfl, _, d0, d1⟩ := (h.next hbw).fl hf
        have hkn : (k : Int) < (n : Int) := by omega
        have hw1 : IntKind.i64.wrap ((k : Int) + 1) = (k : Int) + 1 := IntWalk.i64_in _ (by omega)
        have HS := Lib.hid (szFile_c f (HB.out f (List.mem_of_getElem? hf)) b hb0 (by omega) wr)
        have HN := Lib.hid (take_nextG hf)
        clear hf
        go_upto_region 8 with (go_at_call 78; (with_reducible refine HS.out.mono ?_); rintro e w1 ⟨r, rfl, hb2, hr⟩)
        rcases hr with rfl | ⟨hr0, hr1, hr2⟩
        · go_wp2_with fail
          go_returns
          exact ⟨-1, rfl, grow_next hbw hb2, .inl rfl⟩
        · have hr3 : ¬ r < 0 := by omega
          have d2 : decide (r < 0) = false := decide_eq_false hr3
          have HT2 : Hid (∀ f ∈ l.take (k + 1), FlSz f) := Lib.hid (by
            rw [HN.out]
            intro g hg
            rcases List.mem_append.1 hg with hg | hg
            · exact HT.out g hg
            · rw [List.mem_singleton.1 hg]; exact hr2)
          have HR1 : Hid (r ≤ left) := Lib.hid (by omega)
          have HR0 := Lib.hid hr0
          clear hr0 hr1 hr2
          go_wp2_with fail
          go_roundw
          case rel => exact ⟨k + 1, r, by omega, by go_num, rfl, HR0.out, HR1.out, HT2, grow_next hbw hb2⟩
          case measure => simp [RowKit.intOf]; omega
      · have e : k = n := by omega
        have hkn : ¬ (k : Int) < (n : Int) := by omega
        have HT2 : Hid (∀ f ∈ l, FlSz f) := Lib.hid (by
          have := HT.out
          rw [e, hn.out, List.take_length] at this
          exact this)
        clear e
        go_wp2_with fail
        go_returns
        first
        | exact ⟨b, rfl, hbw, .inr ⟨hb0, hb1, hn1, HT2.out⟩⟩
        | exact ⟨b, rfl, hbw, .inr ⟨hb0, hb1, HT2.out⟩⟩
set_option maxHeartbeats 2000000 in
theorem szDOp_c (o : Dp) (hf : DpBig o) (left : Int) (h0 : 0 ≤ left) (h1 : left ≤ 1048576) (w : World) :
    Calls Try.prog 17 #[.agg #[.int .i64 o.kind, .string o.name, .string o.to, .string o.data], .int .i64 left] w (LeftG w left (DpSz o)) := by
  have B0 : Below w.heap.size w (w.alloc (.cells #[.int .i64 o.kind, .string o.name, .string o.to, .string o.data] 36)) := below_new _ _
  obtain ⟨e0, e1, e2, e3⟩ := four_new w (.int .i64 o.kind) (.string o.name) (.string o.to) (.string o.data) 36
  have hw0 := sub_wrap (n := o.name.size) h0 h1 hf.1
  go_enter Try.func17, Try.ntmps17
  obtain ⟨a, ha⟩ : ∃ a : Int, left - (o.name.size : Int) = a := ⟨_, rfl⟩
  rw [ha] at hw0
  by_cases hn : a < 0
  · have d0 : decide (a < 0) = true := decide_eq_true hn
    go_wp2_with fail
    go_returns
    exact ⟨-1, rfl, B0, .inl rfl⟩
  · have ha0 : 0 ≤ a := by omega
    have ha1 : a ≤ 1048576 := by omega
    have hw1 := sub_wrap (n := o.to.size) ha0 ha1 hf.2.1
    obtain ⟨b, hb⟩ : ∃ b : Int, a - (o.to.size : Int) = b := ⟨_, rfl⟩
    rw [hb] at hw1
    have d0 : decide (a < 0) = false := decide_eq_false hn
    by_cases hn2 : b < 0
    · have d1 : decide (b < 0) = true := decide_eq_true hn2
      clear ha0 ha1 hf
      go_wp2_with fail
      go_returns
      exact ⟨-1, rfl, B0, .inl rfl⟩
    · have hb0 : 0 ≤ b := by omega
      have hb1 : b ≤ 1048576 := by omega
      have hw2 := sub_wrap (n := o.data.size) hb0 hb1 hf.2.2
      have HQ : Hid (0 ≤ b - (o.data.size : Int) → b - (o.data.size : Int) ≤ left ∧ DpSz o) := Lib.hid (fun h => ⟨by omega, by unfold DpSz; omega⟩)
      obtain ⟨c, hc⟩ : ∃ c : Int, b - (o.data.size : Int) = c := ⟨_, rfl⟩
      rw [hc] at hw2 HQ
      have d1 : decide (b < 0) = false := decide_eq_false hn2
      by_cases hn3 : c < 0
      · have d2 : decide (c < 0) = true := decide_eq_true hn3
        clear ha0 ha1 hb0 hb1 hf
        go_wp2_with fail
        go_returns
        exact ⟨-1, rfl, B0, .inl rfl⟩
      · have d2 : decide (c < 0) = false := decide_eq_false hn3
        have HGE : Hid (0 ≤ c) := Lib.hid (by omega)
        have HR := Lib.hid (HQ.out HGE.out)
        clear ha0 ha1 hb0 hb1 HQ hf
        go_wp2_with fail
        go_returns
        exact ⟨c, rfl, B0, .inr ⟨HGE.out, HR.out.1, HR.out.2⟩⟩
set_option maxHeartbeats 2000000 in
theorem szDOpS_c (l : List Dp) (n : Nat) (hn : Hid (n = l.length)) (hm : n ≤ maxLen) (hf : ∀ f ∈ l, DpBig f) (left : Int) (h0 : 0 ≤ left) (h1 : left ≤ 1048576) (x : Option Addr) (cap : Nat) (w : World) (h : GAt dpC w.heap.size w x l) :
    Calls Try.prog 40 #[.slice x n cap, .int .i64 left] w (LeftG w left (n ≤ 1048576 ∧ ∀ f ∈ l, DpSz f)) := by
  have hw0 := sub_wrap (n := n) h0 h1 hm
  unfold maxLen at hm
  have HB := Lib.hid hf
  clear hf
  go_enter Try.func40, Try.ntmps40
  obtain ⟨a, ha⟩ : ∃ a : Int, left - (n : Int) = a := ⟨_, rfl⟩
  rw [ha] at hw0
  by_cases hneg : a < 0
  · have d0 : decide (a < 0) = true := decide_eq_true hneg
    go_wp2_with fail
    go_returns
    exact ⟨-1, rfl, Below.refl _ _, .inl rfl⟩
  · have d0 : decide (a < 0) = false := decide_eq_false hneg
    have hn1 : n ≤ 1048576 := by omega
    have ha1 : a ≤ left := by omega
    have ha0 : 0 ≤ a := by omega
    go_wp2_with fail
    have HA : Hid (a ≤ left ∧ 0 ≤ a) := Lib.hid ⟨ha1, ha0⟩
    clear ha hw0 d0 hneg ha1 ha0
    go_loopw [1, 5] (fun r i wr => ∃ (k : Nat) (b : Int), k ≤ n ∧ i = .int .i64 k ∧ r = .int .i64 b ∧ 0 ≤ b ∧ b ≤ left ∧ Hid (∀ f ∈ l.take k, DpSz f) ∧ Below w.heap.size w wr) (fun _ i _ => n - (RowKit.intOf i).toNat)
    case atStart => exact ⟨0, a, Nat.zero_le _, rfl, rfl, HA.out.2, HA.out.1, Lib.hid (by simp), Below.refl _ _⟩
    case round =>
      obtain ⟨k, b, hk, rfl, rfl, hb0, hb1, HT, hbw⟩ := hrel
      by_cases hlt : k < n
      · obtain ⟨f, hf⟩ := getG (l := l) (k := k) (by rw [← hn.out]; exact hlt)
        obtain ⟨g, off, rfl, _, d0, d1, d2', d3⟩ := (h.next hbw).dp hf
        have hkn : (k : Int) < (n : Int) := by omega
        have hw1 : IntKind.i64.wrap ((k : Int) + 1) = (k : Int) + 1 := IntWalk.i64_in _ (by omega)
        have HS := Lib.hid (szDOp_c f (HB.out f (List.mem_of_getElem? hf)) b hb0 (by omega) wr)
        have HN := Lib.hid (take_nextG hf)
        clear hf
        go_upto_region 8 with (go_at_call 17; (with_reducible refine HS.out.mono ?_); rintro e w1 ⟨r, rfl, hb2, hr⟩)
        rcases hr with rfl | ⟨hr0, hr1, hr2⟩
        · go_wp2_with fail
          go_returns
          exact ⟨-1, rfl, grow_next hbw hb2, .inl rfl⟩
        · have hr3 : ¬ r < 0 := by omega
          have d2 : decide (r < 0) = false := decide_eq_false hr3
          have HT2 : Hid (∀ f ∈ l.take (k + 1), DpSz f) := Lib.hid (by
            rw [HN.out]
            intro g hg
            rcases List.mem_append.1 hg with hg | hg
            · exact HT.out g hg
            · rw [List.mem_singleton.1 hg]; exact hr2)
          have HR1 : Hid (r ≤ left) := Lib.hid (by omega)
          have HR0 := Lib.hid hr0
          clear hr0 hr1 hr2
          go_wp2_with fail
          go_roundw
          case rel => exact ⟨k + 1, r, by omega, by go_num, rfl, HR0.out, HR1.out, HT2, grow_next hbw hb2⟩
          case measure => simp [RowKit.intOf]; omega
      · have e : k = n := by omega
        have hkn : ¬ (k : Int) < (n : Int) := by omega
        have HT2 : Hid (∀ f ∈ l, DpSz f) := Lib.hid (by
          have := HT.out
          rw [e, hn.out, List.take_length] at this
          exact this)
        clear e
        go_wp2_with fail
        go_returns
        first
        | exact ⟨b, rfl, hbw, .inr ⟨hb0, hb1, hn1, HT2.out⟩⟩
        | exact ⟨b, rfl, hbw, .inr ⟨hb0, hb1, HT2.out⟩⟩
structure SzD (d : Dk) : Prop where
  nl : d.live.length ≤ 1048576
  live : ∀ f ∈ d.live, FlSz f
  ns : d.safe.length ≤ 1048576
  safe : ∀ f ∈ d.safe, FlSz f
  no : d.ops.length ≤ 1048576
  ops : ∀ o ∈ d.ops, DpSz o
theorem SzD.small {d : Dk} (h : SzD d) : SmallD d :=
  ⟨⟨by have := h.nl; omega, fun f hf => by have := (h.live f hf).2; omega⟩, ⟨by have := h.ns; omega, fun f hf => by have := (h.safe f hf).2; omega⟩, by have := h.no; omega, fun o ho => by have := (h.ops o ho).2.2; omega⟩
set_option maxHeartbeats 2000000 in
theorem szDisk_c (d : Dk) (hB : DkBig d) (x y z : Option Addr) (n m q cx cy cz : Nat) (hn : n ≤ maxLen) (hm : m ≤ maxLen) (hq : q ≤ maxLen) (w : World) (h : DkAt w.heap.size w x y z n m q d) :
    Calls Try.prog 12 #[.agg #[.slice x n cx, .slice y m cy, .slice z q cz], .int .i64 1048576] w (LeftG w 1048576 (SzD d)) := by
  have Z0 := blk_new w (.cells #[.slice x n cx, .slice y m cy, .slice z q cz] 25)
  have B0 : Below w.heap.size w (w.alloc (.cells #[.slice x n cx, .slice y m cy, .slice z q cz] 25)) := below_new _ _
  have D0 := h.next B0
  have HX : Hid (n = d.live.length ∧ m = d.safe.length ∧ q = d.ops.length) := Lib.hid ⟨h.hn, h.hm, h.hq⟩
  clear h
  go_enter Try.func12, Try.ntmps12
  go_upto_region 1 with fail
  obtain ⟨W, hW⟩ : ∃ W, W = w.alloc (.cells #[.slice x n cx, .slice y m cy, .slice z q cz] 25) := ⟨_, rfl⟩
  rw [← hW] at Z0 B0 D0
  rw [← hW]
  clear hW
  obtain ⟨c0, c1, c2⟩ := three_cellsD Z0
  have H0 := Lib.hid (szFileS_c d.live n (Lib.hid HX.out.1) hn hB.live 1048576 (by omega) (by omega) x cx W D0.live)
  go_upto_region 2 with (go_at_call 39; (with_reducible refine H0.out.mono ?_); rintro e w1 ⟨r, rfl, hb1, hr⟩)
  have B1 := grow_next B0 hb1
  have D1 := D0.next hb1
  have Z1 := blk_next hb1 Z0
  clear H0 c0 c1 c2 Z0 D0
  obtain ⟨c0, c1, c2⟩ := three_cellsD Z1
  rcases hr with rfl | ⟨hr0, hr1, hr2⟩
  · go_wp2_with fail
    go_returns
    exact ⟨-1, rfl, B1, .inl rfl⟩
  · have g0 : ¬ r < 0 := by omega
    have d0 : decide (r < 0) = false := decide_eq_false g0
    have H1 := Lib.hid (szFileS_c d.safe m (Lib.hid HX.out.2.1) hm hB.safe r hr0 hr1 y cy w1 D1.safe)
    have HR := Lib.hid hr2
    have HR0 := Lib.hid (And.intro hr0 hr1)
    clear hr0 hr1 hr2
    go_upto_region 5 with (go_at_call 39; (with_reducible refine H1.out.mono ?_); rintro e w2 ⟨s, rfl, hb2, hs⟩)
    have B2 := grow_next B1 hb2
    have D2 := D1.next hb2
    have Z2 := blk_next hb2 Z1
    clear H1 c0 c1 c2 Z1 D1 d0 g0
    obtain ⟨c0, c1, c2⟩ := three_cellsD Z2
    rcases hs with rfl | ⟨hs0, hs1, hs2⟩
    · go_wp2_with fail
      go_returns
      exact ⟨-1, rfl, B2, .inl rfl⟩
    · have g1 : ¬ s < 0 := by omega
      have d1 : decide (s < 0) = false := decide_eq_false g1
      have H2 := Lib.hid (szDOpS_c d.ops q (Lib.hid HX.out.2.2) hq hB.ops s hs0 (by have := HR0.out.2; omega) z cz w2 D2.ops)
      have HS := Lib.hid hs2
      have HS0 := Lib.hid (And.intro hs0 hs1)
      clear hs0 hs1 hs2
      go_upto_region 8 with (go_at_call 40; (with_reducible refine H2.out.mono ?_); rintro e w3 ⟨t, rfl, hb3, ht⟩)
      have B3 := grow_next B2 hb3
      clear H2 c0 c1 c2 d1 g1
      rcases ht with rfl | ⟨ht0, ht1, ht2⟩
      · go_wp2_with fail
        go_returns
        exact ⟨-1, rfl, B3, .inl rfl⟩
      · have g2 : ¬ t < 0 := by omega
        have d2 : decide (t < 0) = false := decide_eq_false g2
        have HT : Hid (0 ≤ t ∧ t ≤ 1048576 ∧ SzD d) := Lib.hid ⟨ht0, by have := HR0.out.2; have := HS0.out.2; omega, by
          obtain ⟨x1, x2, x3⟩ := HX.out
          exact ⟨by rw [← x1]; exact HR.out.1, HR.out.2, by rw [← x2]; exact HS.out.1, HS.out.2, by rw [← x3]; exact ht2.1, ht2.2⟩⟩
        clear ht0 ht1 ht2
        go_wp2_with fail
        go_returns
        exact ⟨t, rfl, B3, .inr HT.out⟩
end Go.Proofs.Ytgmjdalfbebgbaa
