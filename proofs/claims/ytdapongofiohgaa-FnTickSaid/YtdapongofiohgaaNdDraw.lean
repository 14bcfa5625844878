/- The reference's drawing of nodes: some list, eight at most; nothing that lay has turned. -/
import Derived.Test.YtdapongofiohgaaStage
import Derived.Test.YtdapongofiohgaaDraw0
import Derived.Deep.RegionWith
namespace Go.Proofs.Ytdapongofiohgaa
open Go.ChangeShapes Go.WideShapes Go.ChangeAt Go.RowKit
set_option linter.unusedVariables false
set_option linter.unusedSimpArgs false

theorem grown_ownN {w b c : World} {a : Nat} {row : Option Nat} (h : w.grownBy b (some a)) (k : b.grownBy c row) (hr : ∀ g, row = some g → w.heap.size ≤ g) : w.grownBy c (some a) :=
  ⟨k.os.trans h.os, k.tape.trans h.tape, k.output.trans h.output, Nat.le_trans h.size k.size, fun i hi hne => (k.block i (Nat.lt_of_lt_of_le hi h.size) (fun e => by have := hr i e.symm; omega)).trans (h.block i hi hne)⟩
theorem blk_grown {w w' : World} {a k : Nat} {o : Obj} (hg : w.grownBy w' (some a)) (h : w.heap[k]? = some o) (hne : k ≠ a) : w'.heap[k]? = some o :=
  (hg.block k (Array.getElem?_eq_some_iff.1 h).1 (fun e => by simp only [Option.some.injEq] at e; omega)).trans h
theorem rd_drewN {w : World} {a : Nat} (h : Rd w a) : Rd w.drew a := h.kept (row := none) ⟨rfl, rfl, rfl, Nat.le_refl _, fun _ _ _ => rfl⟩ (by simp)
/-- What lies while one node is drawn: its box, its peers, the reader. -/
structure BoxD (wr wx : World) (a bx : Nat) (s : Bool) (ps : List Int) (r t : Int) (px : Option Addr) (pc : Nat) : Prop where
  box : wx.heap[bx]? = some (.cells #[.bool s, .slice px ps.length pc, .int .i64 r, .int .i64 t] 48)
  row : wx.ownsRow (bx + 1) 2 1 (.slice px ps.length pc) ps.length (ps.map (Value.int .i64))
  rd : Rd wx a
  grown : wr.grownBy wx (some a)
theorem BoxD.step {wr wx wy : World} {a bx : Nat} {s : Bool} {ps : List Int} {r t : Int} {px : Option Addr} {pc : Nat} (h : BoxD wr wx a bx s ps r t px pc) (hab : a < bx) (hr : Rd wy a) (hg : wx.grownBy wy (some a)) : BoxD wr wy a bx s ps r t px pc :=
  ⟨blk_grown hg h.box (by omega), h.row.kept hg (.inr (fun e => by have := (h.row.lt a e).1; omega)), hr, grown_trans h.grown hg⟩
/-- A field of the box turned. -/
theorem BoxD.put {wr wx : World} {a bx : Nat} {s s' : Bool} {ps : List Int} {r t r' t' : Int} {px : Option Addr} {pc : Nat} (h : BoxD wr wx a bx s ps r t px pc) (hab : a < bx) (hw : wr.heap.size ≤ bx) (o : Nat) (v : Value)
    (hv : ((#[.bool s, .slice px ps.length pc, .int .i64 r, .int .i64 t] : Array Value).setIfInBounds o v) = #[.bool s', .slice px ps.length pc, .int .i64 r', .int .i64 t']) : BoxD wr (wx.setCell ⟨bx, o, none⟩ v) a bx s' ps r' t' px pc :=
  ⟨by rw [← hv]; exact heap_set h.box o v, h.row.kept (grownSet wx bx o v) (.inr (fun e => by have := (h.row.lt bx e).1; omega)), h.rd.kept (grownSet wx bx o v) (fun k e => by simp only [Option.some.injEq] at e; omega), grown_ownN h.grown (grownSet wx bx o v) (fun g e => by simp only [Option.some.injEq] at e; omega)⟩
theorem lt_of_cast {j n : Nat} (h : (j : Int) ≤ (n : Int) - 1) : j < n := by omega
theorem cast_lt {j n : Nat} (h : j < n) : (j : Int) < (n : Int) := by omega
theorem row_cell {base : Nat} {w : World} {g n cap : Nat} {ps : List Int} (h : w.ownsRow base 2 1 (.slice (some ⟨g, 0, none⟩) n cap) n (ps.map (Value.int .i64))) {j : Nat} {z : Int} (hz : ps[j]? = some z) : w.cell? ⟨g, j, none⟩ = some (.int .i64 z) := by
  have hl := h.1
  rw [List.length_map] at hl
  have hj := (List.getElem?_eq_some_iff.1 hz).1
  rw [World.ownsRow.cellAt h _ (by omega), List.getElem?_map, hz]
  rfl
theorem flatNp_set03 {E : List Np} {e : Np} (h : E[0]? = some e) (s : Int) : (flatNp E).set 3 (.int .i64 s) = flatNp (E.set 0 ⟨⟨e.v.src, e.v.peers, e.v.ref, s⟩, e.px, e.pc⟩) := by
  cases E with
  | nil => simp at h
  | cons b E =>
    simp at h
    subst h
    rfl
theorem cell3 {base : Nat} {w : World} {g n cap : Nat} {E : List Np} {e : Np} (h : w.ownsRow base 48 4 (.slice (some ⟨g, 0, none⟩) n cap) n (flatNp E)) (he : E[0]? = some e) : w.cell? ⟨g, 3, none⟩ = some (.int .i64 e.v.str) ∧ w.frozen? ⟨g, 3, none⟩ = false := by
  refine ⟨?_, World.ownsRow.frozenAt h 3⟩
  have hl := h.1
  rw [flatNp_len] at hl
  have h0 := (List.getElem?_eq_some_iff.1 he).1
  rw [World.ownsRow.cellAt h _ (by omega)]
  have := flatNp_at (k := 0) he (j := 3) (z := .int .i64 e.v.str) rfl
  simpa using this
/-- The first one's stratum turned. -/
theorem last_c {w w3 w4 : World} {a g k cap : Nat} {E : List Np} {e : Np} (hr : w3.ownsRow w.heap.size 48 4 (.slice (some ⟨g, 0, none⟩) k cap) k (flatNp E)) (hp : PeersAll w.heap.size w3 (.slice (some ⟨g, 0, none⟩) k cap) E) (hg3 : w.grownBy w3 (some a)) (he : E[0]? = some e) (hk : E.length = k)
    (h4 : Rd w4 a) (hg4 : w3.grownBy w4 (some a)) (haw : a < w.heap.size) (v : Int) :
    (w4.setCell ⟨g, 3, none⟩ (.int .i64 v)).ownsRow w.heap.size 48 4 (.slice (some ⟨g, 0, none⟩) k cap) k (flatNp (E.set 0 ⟨⟨e.v.src, e.v.peers, e.v.ref, v⟩, e.px, e.pc⟩)) ∧ PeersAll w.heap.size (w4.setCell ⟨g, 3, none⟩ (.int .i64 v)) (.slice (some ⟨g, 0, none⟩) k cap) (E.set 0 ⟨⟨e.v.src, e.v.peers, e.v.ref, v⟩, e.px, e.pc⟩) ∧ Rd (w4.setCell ⟨g, 3, none⟩ (.int .i64 v)) a ∧ w.grownBy (w4.setCell ⟨g, 3, none⟩ (.int .i64 v)) (some a) := by
  have r4 := hr.kept hg4 (.inr (fun e => by have := (hr.lt a e).1; omega))
  have hgb := (r4.lt g rfl).1
  have hs := World.ownsRow.stored r4 3 (.int .i64 v)
  refine ⟨?_, ?_, h4.kept (grownSet w4 g 3 (.int .i64 v)) (fun _ e => by simp only [Option.some.injEq] at e; omega), grown_ownN (grown_trans hg3 hg4) (grownSet w4 g 3 (.int .i64 v)) (fun _ e => by simp only [Option.some.injEq] at e; omega)⟩
  · rw [← flatNp_set03 he]
    exact hs.1
  · have hold : ∀ e0 ∈ E, PeersOwn w.heap.size (w4.setCell ⟨g, 3, none⟩ (.int .i64 v)) e0 ∧ ∀ p, (Value.slice e0.px e0.v.peers.length e0.pc).ownBlock = some p → (Value.slice (some ⟨g, 0, none⟩) k cap).ownBlock ≠ some p := fun e0 h0 => by
      have h1 := hp e0 h0
      exact ⟨(h1.1.kept hg4 (fun p hp e2 => by have := (h1.1.lt p hp).1; simp only [Option.some.injEq] at e2; omega)).kept (grownSet w4 g 3 (.int .i64 v)) (fun p hp => h1.2 p hp), h1.2⟩
    intro e0 h0
    rcases List.mem_or_eq_of_mem_set h0 with h0 | h0
    · exact hold e0 h0
    · subst h0
      exact hold e (List.mem_of_getElem? he)
/-- A list of nodes that was drawn. -/
def NodesD (w : World) (a : Nat) : Ending → World → Prop := fun e w' =>
  ∃ (y : Option Addr) (m cap : Nat) (E : List Np), e = .returned (.slice y m cap) ∧ m = E.length ∧ 1 ≤ m ∧ m ≤ 8 ∧ w'.ownsRow w.heap.size 48 4 (.slice y m cap) m (flatNp E) ∧ PeersAll w.heap.size w' (.slice y m cap) E ∧ Rd w' a ∧ w.grownBy w' (some a)
set_option maxRecDepth 100000 in
set_option maxHeartbeats 8000000 in
theorem nodes_c (a : Nat) (w : World) (h : Rd w a) : Calls Try.prog 51 #[.pointer (some ⟨a, 0, none⟩)] w (NodesD w a) := by
  obtain ⟨i0, hi, hz0, hz1, hz2⟩ := info_partsT infoNd'
  have HI0 := Lib.hid hi
  have HZ0 := Lib.hid hz0
  have HZ1 := Lib.hid hz1
  have HZ2 := Lib.hid hz2
  obtain ⟨j0, hj, hy0, hy1, hy2⟩ := info_partsT infoInt'
  have HJ0 := Lib.hid hj
  have HY0 := Lib.hid hy0
  have HY1 := Lib.hid hy1
  have HY2 := Lib.hid hy2
  clear hi hz0 hz1 hz2 hj hy0 hy1 hy2
  have haw : a < w.heap.size := by
    obtain ⟨sv, n, p, hb, _⟩ := h
    exact (Array.getElem?_eq_some_iff.1 hb).1
  have R0 := World.ownsRow_made (base := w.heap.size) (e := 48) (size := 4) w #[] 0 (Nat.le_refl _) (by simp [maxLen]) rfl
  have G0 := World.grownBy_alloc w (.cells #[] 48) (some a)
  have D0 := h.kept (World.grownBy_alloc w (.cells #[] 48) none) (by simp)
  go_enter Try.func51, Try.ntmps51
  go_wp2_with fail
  generalize w.alloc (.cells #[] 48) = w0 at *
  refine (below_c a 8 7 (by omega) (by omega) (by omega) _ D0).mono ?_
  rintro e w1 ⟨q, q0, q1, rfl, hr1, hg1⟩
  have R1 := R0.kept hg1 (.inr (by simp [Value.ownBlock]; omega))
  have G1 := grown_trans G0 hg1
  obtain ⟨qn, rfl⟩ := Int.eq_ofNat_of_zero_le q0
  obtain ⟨N, hN⟩ : ∃ N : Nat, N = 1 + qn := ⟨_, rfl⟩
  have hw1 : IntKind.i64.wrap (1 + (qn : Int)) = (N : Int) := by
    rw [show (1 + (qn : Int)) = (N : Int) by omega]
    exact IntWalk.i64_in _ (by omega)
  have hN8 : N ≤ 8 := by omega
  have hN1 : 1 ≤ N := by omega
  clear R0 G0 D0 hg1 h hN
  go_wp2_with fail
  go_loopw [3, 5] (fun o i wr => ∃ (k : Nat) (E : List Np), k ≤ N ∧ i = .int .i64 k ∧ Hid (E.length = k) ∧ wr.ownsRow w.heap.size 48 4 o k (flatNp E) ∧ PeersAll w.heap.size wr o E ∧ Rd wr a ∧ w.grownBy wr (some a)) (fun _ i _ => N - (intOf i).toNat)
  case atStart => exact ⟨0, [], Nat.zero_le _, rfl, Lib.hid rfl, R1, fun e he => by simp at he, hr1, G1⟩
  case round =>
    obtain ⟨k, E, hk, rfl, HL, hrow, hpe, hrd, hg⟩ := hrel
    obtain ⟨wo, rfl⟩ : ∃ wo, wo = wr := ⟨wr, rfl⟩
    have hsw := hg.size
    by_cases hlt : k < N
    · have hd1 : decide ((k : Int) < (N : Int)) = true := decide_eq_true (by omega)
      have X0 : BoxD wo (wo.alloc (.cells #[.bool false, .slice none 0 0, .int .i64 (-1), .int .i64 16] 48)) a wo.heap.size false [] (-1) 16 none 0 :=
        ⟨blk_new wo _, World.ownsRow_nil _ _ _ _, hrd.kept (World.grownBy_alloc wo _ none) (by simp), World.grownBy_alloc wo _ (some a)⟩
      have HR := Lib.hid hrow
      have HP := Lib.hid hpe
      have hab : a < wo.heap.size := by omega
      clear hrow hpe hrd
      go_wp2_with fail
      go_loopw [7] (fun i wx => ∃ (k2 : Nat) (ps : List Int) (px : Option Addr) (pc : Nat), k2 ≤ N ∧ i = .int .i64 k2 ∧ ps.length ≤ k2 ∧ BoxD wo wx a wo.heap.size false ps (-1) 16 px pc) (fun i _ => N - (intOf i).toNat)
      case atStart => exact ⟨0, [], none, 0, Nat.zero_le _, rfl, Nat.le_refl _, X0⟩
      case round =>
        obtain ⟨k2, ps, px, pc, hk2, rfl, hps, D⟩ := hrel
        obtain ⟨⟨x0, x1, x2, x3⟩, f0, f1, f2, f3⟩ := four_cells D.box
        by_cases hlt2 : k2 < N
        · have hd2 : decide ((k2 : Int) < (N : Int)) = true := decide_eq_true (by omega)
          cases hne : ((k2 : Int) != (k : Int)) with
          | false =>
            go_wp2_with fail
            go_roundw
            case rel => exact ⟨k2 + 1, ps, px, pc, by omega, by go_num, by omega, D⟩
            case measure => simp [intOf]; omega
          | true =>
            go_wp2_with fail
            refine (once_c a 3 (by omega) (by omega) _ D.rd).mono ?_
            rintro e w3 ⟨b, rfl, hr3, hg3⟩
            have D3 := D.step hab hr3 hg3
            clear D x0 x1 x2 x3 f0 f1 f2 f3
            obtain ⟨⟨x0, x1, x2, x3⟩, f0, f1, f2, f3⟩ := four_cells D3.box
            cases b with
            | false =>
              go_wp2_with fail
              go_roundw
              case rel => exact ⟨k2 + 1, ps, px, pc, by omega, by go_num, by omega, D3⟩
              case measure => simp [intOf]; omega
            | true =>
              have hbl : wo.heap.size < w3.heap.size := (Array.getElem?_eq_some_iff.1 D3.box).1
              have O3 := Lib.hid (D3.row.alloc (.cells #[.int .i64 k2] 2))
              have NS := Lib.hid (cell_one_new w3 (.int .i64 k2) 2)
              have D3a : BoxD wo (w3.alloc (.cells #[.int .i64 k2] 2)) a wo.heap.size false ps (-1) 16 px pc := D3.step hab (D3.rd.kept (World.grownBy_alloc w3 _ none) (by simp)) (World.grownBy_alloc w3 _ (some a))
              obtain ⟨⟨y0, y1, y2, y3⟩, e0, e1, e2, e3⟩ := four_cells D3a.box
              have hbl2 : wo.heap.size + 1 ≤ (w3.alloc (.cells #[.int .i64 k2] 2)).heap.size := by simp; omega
              go_upto_region 9 with (at_builtin; go_loud (refine wpList_append_own _ rfl _ _ 46 rfl (wo.heap.size + 1) 2 j0 (.int .i64 0) 1 8 Try.underlying46 HJ0.out HY0.out HY1.out HY2.out rfl (by decide) _ _ _ rfl O3.out ⟨w3.heap.size, 0, none⟩ 1 1 [.int .i64 k2] rfl rfl NS.out (by intro v hv; simp at hv; subst hv; rfl) (by unfold maxLen; omega) (by omega) hbl2 ?_); intro v5 w5 hown5 hgrow5 _; obtain ⟨qx, qc, rfl⟩ := ownsRow_formT hown5; have bx5 := (hgrow5.block wo.heap.size (by omega) (fun e => by have := (O3.out.lt _ e.symm).1; omega)).trans D3a.box; obtain ⟨⟨y0, y1, y2, y3⟩, e0, e1, e2, e3⟩ := four_cells bx5)
              have hlen : (ps ++ [(k2 : Int)]).length = ps.length + 1 := by rw [List.length_append]; rfl
              have hrow5 : w5.ownsRow (wo.heap.size + 1) 2 1 (.slice qx (ps ++ [(k2 : Int)]).length qc) (ps ++ [(k2 : Int)]).length ((ps ++ [(k2 : Int)]).map (Value.int .i64)) := by
                rw [hlen, List.map_append]; exact hown5
              have hge5 : ∀ g, (Value.slice px ps.length pc).ownBlock = some g → wo.heap.size + 1 ≤ g := fun g e => (O3.out.lt g e).1
              have D5 : BoxD wo (w5.setCell ⟨wo.heap.size, 1, none⟩ (.slice qx (ps.length + 1) qc)) a wo.heap.size false (ps ++ [(k2 : Int)]) (-1) 16 qx qc :=
                ⟨by rw [hlen]; exact heap_set bx5 1 _, hrow5.kept (grownSet _ _ _ _) (.inr (fun e => by have := (hrow5.lt _ e).1; omega)),
                  (D3a.rd.kept hgrow5 (fun g e => by have := hge5 g e; omega)).kept (grownSet _ _ _ _) (fun g e => by simp only [Option.some.injEq] at e; omega),
                  grown_ownN (grown_ownN D3a.grown hgrow5 (fun g e => by have := hge5 g e; omega)) (grownSet _ _ _ _) (fun g e => by simp only [Option.some.injEq] at e; omega)⟩
              have HLEN := Lib.hid hlen
              clear hlen hrow5 hge5 hgrow5 hown5 D3 D3a bx5
              go_wp2_with fail
              go_roundw
              case rel => exact ⟨k2 + 1, ps ++ [(k2 : Int)], qx, qc, by omega, by go_num, by rw [HLEN.out]; omega, D5⟩
              case measure => simp [intOf]; omega
        · have hd2 : decide ((k2 : Int) < (N : Int)) = false := decide_eq_false (by omega)
          have hps8 : ps.length ≤ 8 := by omega
          go_wp2_with fail
          refine (once_c a 4 (by omega) (by omega) _ D.rd).mono ?_
          rintro e w3 ⟨b, rfl, hr3, hg3⟩
          have D3 := D.step hab hr3 hg3
          clear D x0 x1 x2 x3 f0 f1 f2 f3
          obtain ⟨⟨x0, x1, x2, x3⟩, f0, f1, f2, f3⟩ := four_cells D3.box
          cases b with
          | true =>
            have D4 := (D3.put hab (Nat.le_refl _) 0 (.bool true) (s' := true) (r' := -1) (t' := 16) rfl).put hab (Nat.le_refl _) 3 (.int .i64 1) (s' := true) (r' := -1) (t' := 1) rfl
            clear D3
            go_upto_region 18 with (fail)
            generalize (w3.setCell ⟨wo.heap.size, 0, none⟩ (.bool true)).setCell ⟨wo.heap.size, 3, none⟩ (.int .i64 1) = w4' at *
            clear x0 x1 x2 x3 f0 f1 f2 f3
            obtain ⟨⟨x0, x1, x2, x3⟩, _⟩ := four_cells D4.box
            have rz := HR.out.kept D4.grown (.inr (fun e => by have := (HR.out.lt a e).1; omega))
            have pz : PeersAll w.heap.size w4' u3 E := fun e he => ⟨(HP.out e he).1.kept D4.grown (fun p hp e2 => by have := ((HP.out e he).1.lt p hp).1; simp only [Option.some.injEq] at e2; omega), (HP.out e he).2⟩
            have hnewz : PeersOwn w.heap.size w4' ⟨⟨true, ps, (-1), 1⟩, px, pc⟩ := own_lowerN D4.row (by omega)
            have hnlt : ∀ p, (Value.slice px ps.length pc).ownBlock = some p → wo.heap.size < p ∧ p < w4'.heap.size := fun p hp => by have := D4.row.lt p hp; omega
            have hob : ∀ p, u3.ownBlock = some p → p < wo.heap.size := fun p hp => (HR.out.lt p hp).2
            have hsz := D4.grown.size
            have gz := grown_trans hg D4.grown
            have rdz := D4.rd
            have O3 := Lib.hid (rz.alloc (.cells #[.bool true, .slice px ps.length pc, .int .i64 (-1), .int .i64 1] 48))
            have B3 : Below w4'.heap.size w4' (w4'.alloc (.cells #[.bool true, .slice px ps.length pc, .int .i64 (-1), .int .i64 1] 48)) := below_new _ _
            have NS := Lib.hid (cells_np_new w4' ⟨⟨true, ps, (-1), 1⟩, px, pc⟩ 48)
            have HZ3 := Lib.hid (show (w4'.alloc (.cells #[.bool true, .slice px ps.length pc, .int .i64 (-1), .int .i64 1] 48)).heap.size = w4'.heap.size + 1 from World.size_alloc _ _)
            have hkb : k + 1 ≤ 8 := by omega
            go_wp2_with (at_builtin; go_loud (refine wpList_append_own_at _ rfl _ _ 43 rfl w.heap.size 48 i0 (.agg #[.bool false, .slice none 0 0, .int .i64 0, .int .i64 0]) 4 48 Try.underlying43 HI0.out HZ0.out HZ1.out HZ2.out rfl (by decide) _ _ _ rfl O3.out ⟨w4'.heap.size, 0, none⟩ 1 1 (⟨⟨true, ps, (-1), 1⟩, px, pc⟩ : Np).cells rfl rfl NS.out (by simp [Np.cells, Value.oneCell']) (by unfold maxLen; omega) (by omega) (by have := HZ3.out; omega) ?_); intro v3 w4 hown4 hgrow4 _ hloc4)
            have p3 := pz.next B3
            have hnew3 := hnewz.kept (grown_of_below B3) (fun _ _ => by simp)
            have hfl : flatNp E ++ (⟨⟨true, ps, (-1), 1⟩, px, pc⟩ : Np).cells = flatNp (E ++ [⟨⟨true, ps, (-1), 1⟩, px, pc⟩]) := by rw [flatNp_append]; simp [flatNp]
            rw [hfl] at hown4
            have hPA : PeersAll w.heap.size w4 v3 (E ++ [⟨⟨true, ps, (-1), 1⟩, px, pc⟩]) := fun e he => by
              rcases List.mem_append.1 he with he | he
              · have h1 := p3 e he
                refine ⟨h1.1.kept hgrow4 (fun p hp e2 => h1.2 p hp e2), fun p hp e2 => ?_⟩
                rcases hloc4 with h4 | h4
                · rw [h4] at e2; exact h1.2 p hp e2
                · rw [h4] at e2
                  have := ((pz e he).1.lt p hp).2
                  have := HZ3.out
                  simp only [Option.some.injEq] at e2
                  omega
              · simp only [List.mem_singleton] at he
                subst he
                refine ⟨hnew3.kept hgrow4 (fun p hp e2 => by have := hnlt p hp; have := hob p e2; omega), fun p hp e2 => ?_⟩
                have h0 := hnlt p hp
                rcases hloc4 with h4 | h4
                · rw [h4] at e2; have := hob p e2; omega
                · rw [h4] at e2
                  have := HZ3.out
                  simp only [Option.some.injEq] at e2
                  omega
            have rd4 := (rdz.kept (World.grownBy_alloc w4' (.cells #[.bool true, .slice px ps.length pc, .int .i64 (-1), .int .i64 1] 48) none) (by simp)).kept hgrow4 (fun g e => by have := (O3.out.lt g e).1; omega)
            have g4 := grown_ownN (grown_trans gz (World.grownBy_alloc w4' (.cells #[.bool true, .slice px ps.length pc, .int .i64 (-1), .int .i64 1] 48) (some a))) hgrow4 (fun g e => (O3.out.lt g e).1)
            have HL1 : Hid ((E ++ [(⟨⟨true, ps, (-1), 1⟩, px, pc⟩ : Np)]).length = k + 1) := Lib.hid (by rw [List.length_append, HL.out]; rfl)
            clear hloc4 hgrow4 hnew3 p3 hfl hob hnlt D4 rz pz
            go_roundw
            case rel => exact ⟨k + 1, E ++ [(⟨⟨true, ps, (-1), 1⟩, px, pc⟩ : Np)], by omega, by go_num, HL1, hown4, hPA, rd4, g4⟩
            case measure => simp [intOf]; omega
          | false =>
            rcases Nat.eq_zero_or_pos ps.length with h0 | h0
            · have hd3 : decide ((0 : Int) < (ps.length : Int)) = false := decide_eq_false (by omega)
              have hd4 : ¬ 0 < ps.length := by omega
              clear h0
              go_upto_region 18 with (fail)
              clear x0 x1 x2 x3 f0 f1 f2 f3
              obtain ⟨⟨x0, x1, x2, x3⟩, _⟩ := four_cells D3.box
              have rz := HR.out.kept D3.grown (.inr (fun e => by have := (HR.out.lt a e).1; omega))
              have pz : PeersAll w.heap.size w3 u3 E := fun e he => ⟨(HP.out e he).1.kept D3.grown (fun p hp e2 => by have := ((HP.out e he).1.lt p hp).1; simp only [Option.some.injEq] at e2; omega), (HP.out e he).2⟩
              have hnewz : PeersOwn w.heap.size w3 ⟨⟨false, ps, (-1), 16⟩, px, pc⟩ := own_lowerN D3.row (by omega)
              have hnlt : ∀ p, (Value.slice px ps.length pc).ownBlock = some p → wo.heap.size < p ∧ p < w3.heap.size := fun p hp => by have := D3.row.lt p hp; omega
              have hob : ∀ p, u3.ownBlock = some p → p < wo.heap.size := fun p hp => (HR.out.lt p hp).2
              have hsz := D3.grown.size
              have gz := grown_trans hg D3.grown
              have rdz := D3.rd
              have O3 := Lib.hid (rz.alloc (.cells #[.bool false, .slice px ps.length pc, .int .i64 (-1), .int .i64 16] 48))
              have B3 : Below w3.heap.size w3 (w3.alloc (.cells #[.bool false, .slice px ps.length pc, .int .i64 (-1), .int .i64 16] 48)) := below_new _ _
              have NS := Lib.hid (cells_np_new w3 ⟨⟨false, ps, (-1), 16⟩, px, pc⟩ 48)
              have HZ3 := Lib.hid (show (w3.alloc (.cells #[.bool false, .slice px ps.length pc, .int .i64 (-1), .int .i64 16] 48)).heap.size = w3.heap.size + 1 from World.size_alloc _ _)
              have hkb : k + 1 ≤ 8 := by omega
              go_wp2_with (at_builtin; go_loud (refine wpList_append_own_at _ rfl _ _ 43 rfl w.heap.size 48 i0 (.agg #[.bool false, .slice none 0 0, .int .i64 0, .int .i64 0]) 4 48 Try.underlying43 HI0.out HZ0.out HZ1.out HZ2.out rfl (by decide) _ _ _ rfl O3.out ⟨w3.heap.size, 0, none⟩ 1 1 (⟨⟨false, ps, (-1), 16⟩, px, pc⟩ : Np).cells rfl rfl NS.out (by simp [Np.cells, Value.oneCell']) (by unfold maxLen; omega) (by omega) (by have := HZ3.out; omega) ?_); intro v3 w4 hown4 hgrow4 _ hloc4)
              have p3 := pz.next B3
              have hnew3 := hnewz.kept (grown_of_below B3) (fun _ _ => by simp)
              have hfl : flatNp E ++ (⟨⟨false, ps, (-1), 16⟩, px, pc⟩ : Np).cells = flatNp (E ++ [⟨⟨false, ps, (-1), 16⟩, px, pc⟩]) := by rw [flatNp_append]; simp [flatNp]
              rw [hfl] at hown4
              have hPA : PeersAll w.heap.size w4 v3 (E ++ [⟨⟨false, ps, (-1), 16⟩, px, pc⟩]) := fun e he => by
                rcases List.mem_append.1 he with he | he
                · have h1 := p3 e he
                  refine ⟨h1.1.kept hgrow4 (fun p hp e2 => h1.2 p hp e2), fun p hp e2 => ?_⟩
                  rcases hloc4 with h4 | h4
                  · rw [h4] at e2; exact h1.2 p hp e2
                  · rw [h4] at e2
                    have := ((pz e he).1.lt p hp).2
                    have := HZ3.out
                    simp only [Option.some.injEq] at e2
                    omega
                · simp only [List.mem_singleton] at he
                  subst he
                  refine ⟨hnew3.kept hgrow4 (fun p hp e2 => by have := hnlt p hp; have := hob p e2; omega), fun p hp e2 => ?_⟩
                  have h0 := hnlt p hp
                  rcases hloc4 with h4 | h4
                  · rw [h4] at e2; have := hob p e2; omega
                  · rw [h4] at e2
                    have := HZ3.out
                    simp only [Option.some.injEq] at e2
                    omega
              have rd4 := (rdz.kept (World.grownBy_alloc w3 (.cells #[.bool false, .slice px ps.length pc, .int .i64 (-1), .int .i64 16] 48) none) (by simp)).kept hgrow4 (fun g e => by have := (O3.out.lt g e).1; omega)
              have g4 := grown_ownN (grown_trans gz (World.grownBy_alloc w3 (.cells #[.bool false, .slice px ps.length pc, .int .i64 (-1), .int .i64 16] 48) (some a))) hgrow4 (fun g e => (O3.out.lt g e).1)
              have HL1 : Hid ((E ++ [(⟨⟨false, ps, (-1), 16⟩, px, pc⟩ : Np)]).length = k + 1) := Lib.hid (by rw [List.length_append, HL.out]; rfl)
              clear hloc4 hgrow4 hnew3 p3 hfl hob hnlt D3 rz pz
              go_roundw
              case rel => exact ⟨k + 1, E ++ [(⟨⟨false, ps, (-1), 16⟩, px, pc⟩ : Np)], by omega, by go_num, HL1, hown4, hPA, rd4, g4⟩
              case measure => simp [intOf]; omega
            · have hd3 : decide ((0 : Int) < (ps.length : Int)) = true := decide_eq_true (by omega)
              go_wp2_with fail
              refine (once_c a 2 (by omega) (by omega) _ D3.rd).mono ?_
              rintro e w5 ⟨b, rfl, hr5, hg5⟩
              have D5 := D3.step hab hr5 hg5
              clear D3 x0 x1 x2 x3 f0 f1 f2 f3
              obtain ⟨⟨x0, x1, x2, x3⟩, f0, f1, f2, f3⟩ := four_cells D5.box
              cases b with
              | false =>
                go_upto_region 18 with (fail)
                clear x0 x1 x2 x3 f0 f1 f2 f3
                obtain ⟨⟨x0, x1, x2, x3⟩, _⟩ := four_cells D5.box
                have rz := HR.out.kept D5.grown (.inr (fun e => by have := (HR.out.lt a e).1; omega))
                have pz : PeersAll w.heap.size w5 u3 E := fun e he => ⟨(HP.out e he).1.kept D5.grown (fun p hp e2 => by have := ((HP.out e he).1.lt p hp).1; simp only [Option.some.injEq] at e2; omega), (HP.out e he).2⟩
                have hnewz : PeersOwn w.heap.size w5 ⟨⟨false, ps, (-1), 16⟩, px, pc⟩ := own_lowerN D5.row (by omega)
                have hnlt : ∀ p, (Value.slice px ps.length pc).ownBlock = some p → wo.heap.size < p ∧ p < w5.heap.size := fun p hp => by have := D5.row.lt p hp; omega
                have hob : ∀ p, u3.ownBlock = some p → p < wo.heap.size := fun p hp => (HR.out.lt p hp).2
                have hsz := D5.grown.size
                have gz := grown_trans hg D5.grown
                have rdz := D5.rd
                have O3 := Lib.hid (rz.alloc (.cells #[.bool false, .slice px ps.length pc, .int .i64 (-1), .int .i64 16] 48))
                have B3 : Below w5.heap.size w5 (w5.alloc (.cells #[.bool false, .slice px ps.length pc, .int .i64 (-1), .int .i64 16] 48)) := below_new _ _
                have NS := Lib.hid (cells_np_new w5 ⟨⟨false, ps, (-1), 16⟩, px, pc⟩ 48)
                have HZ3 := Lib.hid (show (w5.alloc (.cells #[.bool false, .slice px ps.length pc, .int .i64 (-1), .int .i64 16] 48)).heap.size = w5.heap.size + 1 from World.size_alloc _ _)
                have hkb : k + 1 ≤ 8 := by omega
                go_wp2_with (at_builtin; go_loud (refine wpList_append_own_at _ rfl _ _ 43 rfl w.heap.size 48 i0 (.agg #[.bool false, .slice none 0 0, .int .i64 0, .int .i64 0]) 4 48 Try.underlying43 HI0.out HZ0.out HZ1.out HZ2.out rfl (by decide) _ _ _ rfl O3.out ⟨w5.heap.size, 0, none⟩ 1 1 (⟨⟨false, ps, (-1), 16⟩, px, pc⟩ : Np).cells rfl rfl NS.out (by simp [Np.cells, Value.oneCell']) (by unfold maxLen; omega) (by omega) (by have := HZ3.out; omega) ?_); intro v3 w4 hown4 hgrow4 _ hloc4)
                have p3 := pz.next B3
                have hnew3 := hnewz.kept (grown_of_below B3) (fun _ _ => by simp)
                have hfl : flatNp E ++ (⟨⟨false, ps, (-1), 16⟩, px, pc⟩ : Np).cells = flatNp (E ++ [⟨⟨false, ps, (-1), 16⟩, px, pc⟩]) := by rw [flatNp_append]; simp [flatNp]
                rw [hfl] at hown4
                have hPA : PeersAll w.heap.size w4 v3 (E ++ [⟨⟨false, ps, (-1), 16⟩, px, pc⟩]) := fun e he => by
                  rcases List.mem_append.1 he with he | he
                  · have h1 := p3 e he
                    refine ⟨h1.1.kept hgrow4 (fun p hp e2 => h1.2 p hp e2), fun p hp e2 => ?_⟩
                    rcases hloc4 with h4 | h4
                    · rw [h4] at e2; exact h1.2 p hp e2
                    · rw [h4] at e2
                      have := ((pz e he).1.lt p hp).2
                      have := HZ3.out
                      simp only [Option.some.injEq] at e2
                      omega
                  · simp only [List.mem_singleton] at he
                    subst he
                    refine ⟨hnew3.kept hgrow4 (fun p hp e2 => by have := hnlt p hp; have := hob p e2; omega), fun p hp e2 => ?_⟩
                    have h0 := hnlt p hp
                    rcases hloc4 with h4 | h4
                    · rw [h4] at e2; have := hob p e2; omega
                    · rw [h4] at e2
                      have := HZ3.out
                      simp only [Option.some.injEq] at e2
                      omega
                have rd4 := (rdz.kept (World.grownBy_alloc w5 (.cells #[.bool false, .slice px ps.length pc, .int .i64 (-1), .int .i64 16] 48) none) (by simp)).kept hgrow4 (fun g e => by have := (O3.out.lt g e).1; omega)
                have g4 := grown_ownN (grown_trans gz (World.grownBy_alloc w5 (.cells #[.bool false, .slice px ps.length pc, .int .i64 (-1), .int .i64 16] 48) (some a))) hgrow4 (fun g e => (O3.out.lt g e).1)
                have HL1 : Hid ((E ++ [(⟨⟨false, ps, (-1), 16⟩, px, pc⟩ : Np)]).length = k + 1) := Lib.hid (by rw [List.length_append, HL.out]; rfl)
                clear hloc4 hgrow4 hnew3 p3 hfl hob hnlt D5 rz pz
                go_roundw
                case rel => exact ⟨k + 1, E ++ [(⟨⟨false, ps, (-1), 16⟩, px, pc⟩ : Np)], by omega, by go_num, HL1, hown4, hPA, rd4, g4⟩
                case measure => simp [intOf]; omega
              | true =>
                obtain ⟨g, hg0⟩ : ∃ g, px = some ⟨g, 0, none⟩ := by
                  rcases D5.row.2 with ⟨_, e0⟩ | ⟨g, c, cur, e, _⟩
                  · omega
                  · simp only [Value.slice.injEq] at e
                    exact ⟨g, e.1⟩
                subst hg0
                have D6 := D5.step hab (rd_drewN D5.rd) ⟨rfl, rfl, rfl, Nat.le_refl _, fun _ _ _ => rfl⟩
                obtain ⟨⟨y0, y1, y2, y3⟩, e0, e1, e2, e3⟩ := four_cells D6.box
                clear D5
                go_wp2_with fail
                have HBL := Lib.hid (fun W (hr : Rd W a) => below_c a (ps.length : Int) ((ps.length : Int) - 1) (by omega) (by omega) (by omega) W hr)
                go_region_with (go_at_call 52; (with_reducible refine (HBL.out _ D6.rd).mono ?_); rintro e w6 ⟨v, v0, v1, rfl, hr6, hg6⟩; obtain ⟨j, rfl⟩ := Int.eq_ofNat_of_zero_le v0; have hjl := lt_of_cast v1; have hjl2 := cast_lt hjl; have D7 := D6.step hab hr6 hg6; obtain ⟨⟨z0, z1, z2, z3⟩, z4, z5, z6, z7⟩ := four_cells D7.box; obtain ⟨z, hz⟩ := getI hjl; have dz := row_cell D7.row hz)
                all_goals
                  have D8 := D7.put hab (Nat.le_refl _) 2 (.int .i64 z) (s' := false) (r' := z) (t' := 16) rfl
                  clear D6 D7 x0 x1 x2 x3 f0 f1 f2 f3 y0 y1 y2 y3 e0 e1 e2 e3 z0 z1 z2 z3 z4 z5 z6 z7 dz hz
                  generalize w6.setCell ⟨wo.heap.size, 2, none⟩ (.int .i64 z) = w7 at *
                  go_wp2_with fail
                  refine (below_c a 14 13 (by omega) (by omega) (by omega) _ D8.rd).mono ?_
                  rintro e w8 ⟨v, v0, v1, rfl, hr8, hg8⟩
                  have D9 := D8.step hab hr8 hg8
                  obtain ⟨⟨x0, x1, x2, x3⟩, f0, f1, f2, f3⟩ := four_cells D9.box
                  have hw2 : IntKind.i64.wrap (2 + v) = 2 + v := IntWalk.i64_in _ (by omega)
                  have DA := D9.put hab (Nat.le_refl _) 3 (.int .i64 (2 + v)) (s' := false) (r' := z) (t' := 2 + v) rfl
                  clear D8 D9
                  go_upto_region 18 with (fail)
                  generalize w8.setCell ⟨wo.heap.size, 3, none⟩ (.int .i64 (2 + v)) = w9 at *
                  clear x0 x1 x2 x3 f0 f1 f2 f3
                  obtain ⟨⟨x0, x1, x2, x3⟩, _⟩ := four_cells DA.box
                  have rz := HR.out.kept DA.grown (.inr (fun e => by have := (HR.out.lt a e).1; omega))
                  have pz : PeersAll w.heap.size w9 u3 E := fun e he => ⟨(HP.out e he).1.kept DA.grown (fun p hp e2 => by have := ((HP.out e he).1.lt p hp).1; simp only [Option.some.injEq] at e2; omega), (HP.out e he).2⟩
                  have hnewz : PeersOwn w.heap.size w9 ⟨⟨false, ps, z, (2 + v)⟩, (some ⟨g, 0, none⟩), pc⟩ := own_lowerN DA.row (by omega)
                  have hnlt : ∀ p, (Value.slice (some ⟨g, 0, none⟩) ps.length pc).ownBlock = some p → wo.heap.size < p ∧ p < w9.heap.size := fun p hp => by have := DA.row.lt p hp; omega
                  have hob : ∀ p, u3.ownBlock = some p → p < wo.heap.size := fun p hp => (HR.out.lt p hp).2
                  have hsz := DA.grown.size
                  have gz := grown_trans hg DA.grown
                  have rdz := DA.rd
                  have O3 := Lib.hid (rz.alloc (.cells #[.bool false, .slice (some ⟨g, 0, none⟩) ps.length pc, .int .i64 z, .int .i64 (2 + v)] 48))
                  have B3 : Below w9.heap.size w9 (w9.alloc (.cells #[.bool false, .slice (some ⟨g, 0, none⟩) ps.length pc, .int .i64 z, .int .i64 (2 + v)] 48)) := below_new _ _
                  have NS := Lib.hid (cells_np_new w9 ⟨⟨false, ps, z, (2 + v)⟩, (some ⟨g, 0, none⟩), pc⟩ 48)
                  have HZ3 := Lib.hid (show (w9.alloc (.cells #[.bool false, .slice (some ⟨g, 0, none⟩) ps.length pc, .int .i64 z, .int .i64 (2 + v)] 48)).heap.size = w9.heap.size + 1 from World.size_alloc _ _)
                  have hkb : k + 1 ≤ 8 := by omega
                  go_wp2_with (at_builtin; go_loud (refine wpList_append_own_at _ rfl _ _ 43 rfl w.heap.size 48 i0 (.agg #[.bool false, .slice none 0 0, .int .i64 0, .int .i64 0]) 4 48 Try.underlying43 HI0.out HZ0.out HZ1.out HZ2.out rfl (by decide) _ _ _ rfl O3.out ⟨w9.heap.size, 0, none⟩ 1 1 (⟨⟨false, ps, z, (2 + v)⟩, (some ⟨g, 0, none⟩), pc⟩ : Np).cells rfl rfl NS.out (by simp [Np.cells, Value.oneCell']) (by unfold maxLen; omega) (by omega) (by have := HZ3.out; omega) ?_); intro v3 w4 hown4 hgrow4 _ hloc4)
                  have p3 := pz.next B3
                  have hnew3 := hnewz.kept (grown_of_below B3) (fun _ _ => by simp)
                  have hfl : flatNp E ++ (⟨⟨false, ps, z, (2 + v)⟩, (some ⟨g, 0, none⟩), pc⟩ : Np).cells = flatNp (E ++ [⟨⟨false, ps, z, (2 + v)⟩, (some ⟨g, 0, none⟩), pc⟩]) := by rw [flatNp_append]; simp [flatNp]
                  rw [hfl] at hown4
                  have hPA : PeersAll w.heap.size w4 v3 (E ++ [⟨⟨false, ps, z, (2 + v)⟩, (some ⟨g, 0, none⟩), pc⟩]) := fun e he => by
                    rcases List.mem_append.1 he with he | he
                    · have h1 := p3 e he
                      refine ⟨h1.1.kept hgrow4 (fun p hp e2 => h1.2 p hp e2), fun p hp e2 => ?_⟩
                      rcases hloc4 with h4 | h4
                      · rw [h4] at e2; exact h1.2 p hp e2
                      · rw [h4] at e2
                        have := ((pz e he).1.lt p hp).2
                        have := HZ3.out
                        simp only [Option.some.injEq] at e2
                        omega
                    · simp only [List.mem_singleton] at he
                      subst he
                      refine ⟨hnew3.kept hgrow4 (fun p hp e2 => by have := hnlt p hp; have := hob p e2; omega), fun p hp e2 => ?_⟩
                      have h0 := hnlt p hp
                      rcases hloc4 with h4 | h4
                      · rw [h4] at e2; have := hob p e2; omega
                      · rw [h4] at e2
                        have := HZ3.out
                        simp only [Option.some.injEq] at e2
                        omega
                  have rd4 := (rdz.kept (World.grownBy_alloc w9 (.cells #[.bool false, .slice (some ⟨g, 0, none⟩) ps.length pc, .int .i64 z, .int .i64 (2 + v)] 48) none) (by simp)).kept hgrow4 (fun g e => by have := (O3.out.lt g e).1; omega)
                  have g4 := grown_ownN (grown_trans gz (World.grownBy_alloc w9 (.cells #[.bool false, .slice (some ⟨g, 0, none⟩) ps.length pc, .int .i64 z, .int .i64 (2 + v)] 48) (some a))) hgrow4 (fun g e => (O3.out.lt g e).1)
                  have HL1 : Hid ((E ++ [(⟨⟨false, ps, z, (2 + v)⟩, (some ⟨g, 0, none⟩), pc⟩ : Np)]).length = k + 1) := Lib.hid (by rw [List.length_append, HL.out]; rfl)
                  clear hloc4 hgrow4 hnew3 p3 hfl hob hnlt DA rz pz
                  go_roundw
                  case rel => exact ⟨k + 1, E ++ [(⟨⟨false, ps, z, (2 + v)⟩, (some ⟨g, 0, none⟩), pc⟩ : Np)], by omega, by go_num, HL1, hown4, hPA, rd4, g4⟩
                  case measure => simp [intOf]; omega
    · have hd1 : decide ((k : Int) < (N : Int)) = false := decide_eq_false (by omega)
      obtain ⟨y, cy, rfl⟩ := ownsRow_formT hrow
      have hkE : k = E.length := HL.out.symm
      have hk8 : k ≤ 8 := by omega
      have hk1 : 1 ≤ k := by omega
      go_wp2_with fail
      refine (once_c a 30 (by omega) (by omega) _ hrd).mono ?_
      rintro e w3 ⟨b, rfl, hr3, hg3⟩
      have r3 := hrow.kept hg3 (.inr (fun e => by have := (hrow.lt a e).1; omega))
      have p3 : PeersAll w.heap.size w3 (.slice y k cy) E := fun e he => ⟨(hpe e he).1.kept hg3 (fun p hp e2 => by have := ((hpe e he).1.lt p hp).1; simp only [Option.some.injEq] at e2; omega), (hpe e he).2⟩
      have g3 := grown_trans hg hg3
      have HKE := Lib.hid hkE
      clear hrow hpe hrd hg hg3 hkE
      cases b with
      | false =>
        go_wp2_with fail
        go_returns
        exact ⟨y, k, cy, E, rfl, HKE.out, hk1, hk8, r3, p3, hr3, g3⟩
      | true =>
        have hE0 : 0 < E.length := by rw [HL.out]; omega
        obtain ⟨e0, he0⟩ : ∃ e0, E[0]? = some e0 := ⟨_, List.getElem?_eq_getElem hE0⟩
        obtain ⟨g, hg0⟩ : ∃ g, y = some ⟨g, 0, none⟩ := by
          rcases r3.2 with ⟨_, e0⟩ | ⟨g, c, cur, e, _⟩
          · omega
          · simp only [Value.slice.injEq] at e
            exact ⟨g, e.1⟩
        subst hg0
        have hd0 : decide ((0 : Int) < (k : Int)) = true := decide_eq_true (by omega)
        have hk0 : (0 : Int) < (k : Int) := by omega
        have HOFF := Lib.hid (off_c a 2 15 (by omega) (by omega) (by omega) _ hr3)
        have HT := Lib.hid (fun (w4 : World) (hr4 : Rd w4 a) (hg4 : w3.grownBy w4 (some a)) (v : Int) => (last_c r3 p3 g3 he0 HL.out hr4 hg4 haw v : _))
        have HC := Lib.hid (fun (w4 : World) (hg4 : w3.grownBy w4 (some a)) => (cell3 (r3.kept hg4 (.inr (fun e => by have := (r3.lt a e).1; omega))) he0 : w4.cell? ⟨g, 3, none⟩ = some (.int .i64 e0.v.str) ∧ w4.frozen? ⟨g, 3, none⟩ = false))
        clear hr3 r3 p3 g3 hd1 hE0 he0
        go_wp2_with fail
        refine HOFF.out.mono ?_
        rintro e w4 ⟨v, v0, v1, rfl, hr4, hg4⟩
        obtain ⟨c3, c4⟩ := HC.out _ hg4
        have HW := Lib.hid (HT.out w4 hr4 hg4 v)
        clear hr4 hg4
        go_wp2_with fail
        go_returns
        exact ⟨_, _, _, _, rfl, by rw [List.length_set]; exact HKE.out, hk1, hk8, HW.out⟩
end Go.Proofs.Ytdapongofiohgaa
