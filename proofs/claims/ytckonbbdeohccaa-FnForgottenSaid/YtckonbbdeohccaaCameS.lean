/- Somebody comes to a limiter: the reference's way. -/
import Derived.Test.YtckonbbdeohccaaCameMath
import Derived.Test.YtckonbbdeohccaaSliceC
import Derived.Deep.RegionLaw
import Derived.Deep.Cut
import Derived.Deep.CutRange
import Derived.Deep.CutBlock
namespace Go.Proofs.Ytckonbbdeohccaa
open Go.ChangeShapes Go.WideShapes Go.ChangeAt Go.RowKit Go.Maps
set_option linter.unusedVariables false
set_option linter.unusedSimpArgs false
set_option maxRecDepth 100000

theorem cells_cl {w : World} {b : Nat} {s : Cl} {T : TypeId} (h : w.heap[b]? = some (.cells #[.int .i64 s.id, .int .i64 s.last, .int .i64 s.score] T)) : ∀ j z, s.cells[j]? = some z → w.cell? ((⟨b, 0, none⟩ : Addr).add j) = some z := by
  obtain ⟨c0, c1, c2⟩ := client_cells h
  intro j z hz
  match j, hz with
  | 0, hz => simp [Cl.cells, Cl.row] at hz; subst hz; simpa [Addr.add] using c0
  | 1, hz => simp [Cl.cells, Cl.row] at hz; subst hz; simpa [Addr.add] using c1
  | 2, hz => simp [Cl.cells, Cl.row] at hz; subst hz; simpa [Addr.add] using c2
  | j + 3, hz => simp [Cl.cells, Cl.row] at hz
set_option maxHeartbeats 8000000 in
theorem came_spec (l : List Cl) (n : Nat) (hn : Hid (n = l.length)) (hm : n ≤ maxLen) (id now : Int) (x : Option Addr) (cap : Nat) (hc : n ≤ cap) (hnil : x = none → cap = 0) (w : World) (h : Cls w.heap.size w x l) :
    Calls Try.prog 12 #[.agg #[.slice x n cap], .int .i64 id, .int .i64 now] w (CamOut w (camV l id now)) := by
  have HL := Lib.hid (fun w h => limOk_spec l n hn hm x cap w h)
  have Q0 := blk_alloc (blk_new w (.cells #[.slice x n cap] 28)) (.cells #[.slice none 0 0] 28)
  have Q1 := blk_new (w.alloc (.cells #[.slice x n cap] 28)) (.cells #[.slice none 0 0] 28)
  simp only [World.size_alloc] at Q1
  have B0 : Below w.heap.size w ((w.alloc (.cells #[.slice x n cap] 28)).alloc (.cells #[.slice none 0 0] 28)) := by go_grown
  obtain ⟨p, hp⟩ : ∃ p, inB 1 id 1000 = p := ⟨_, rfl⟩
  obtain ⟨q, hq⟩ : ∃ q, inB 0 now 1000000000 = q := ⟨_, rfl⟩
  have HP := Lib.hid (fun W => (hp ▸ l1In_c id 1 1000 W : Calls Try.prog 37 #[.int .i64 id, .int .i64 1, .int .i64 1000] W fun e w' => e = .returned (.bool p) ∧ W = w'))
  have HQ := Lib.hid (fun W => (hq ▸ l1In_c now 0 1000000000 W : Calls Try.prog 37 #[.int .i64 now, .int .i64 0, .int .i64 1000000000] W fun e w' => e = .returned (.bool q) ∧ W = w'))
  have HO : Hid ((p && q) = false → camV l id now = none) := Lib.hid (fun e => by
    unfold camV
    split
    · exact comeV_out (by rw [hp, hq]; exact e)
    · rfl)
  have HI : Hid ((p && q) = true → (inB 1 id 1000 && inB 0 now 1000000000) = true) := Lib.hid (fun e => by rw [hp, hq]; exact e)
  have HN1 : Hid (q = true → 0 ≤ now ∧ now ≤ 1000000000) := Lib.hid (fun e => inB_iff.1 (by rw [hq]; exact e))
  have HN2 : Hid (p = true → 1 ≤ id ∧ id ≤ 1000) := Lib.hid (fun e => inB_iff.1 (by rw [hp]; exact e))
  clear hp hq
  go_enter Try.func12, Try.ntmps12
  go_upto_region 1 with fail
  generalize (w.alloc (.cells #[.slice x n cap] 28)).alloc (.cells #[.slice none 0 0] 28) = W at *
  obtain ⟨c0, _⟩ := one_cell Q0
  go_wp2_with fail
  refine (HL.out _ (h.next B0)).mono ?_
  rintro e w1 ⟨rfl, b1⟩
  have B1 := grow_next B0 b1
  have R0 := blk_next b1 Q0
  have R1 := blk_next b1 Q1
  clear Q0 Q1 c0 b1 B0 HL
  have hbox : w.heap.size + 1 < w1.heap.size := (Array.getElem?_eq_some_iff.1 R1).1
  have h1 := h.next B1
  have HH := Lib.hid h
  clear h
  cases ho : limOk l with
  | false =>
    have HV : Hid (camV l id now = none) := Lib.hid (camV_no ho)
    obtain ⟨r0, r1⟩ := one_cell R1
    have V := heap_set R1 0 (.slice none 0 0)
    have G := below_setCell B1 (b := w.heap.size + 1) (by omega) 0 (.slice none 0 0)
    go_wp2_with fail
    obtain ⟨q0, _⟩ := one_cell V
    try simp only [Exit.inBlock, Exit.then]
    refine bodyPost_ret (by simp [results, Try.results12, go_sem, q0]; try rfl) rfl ?_
    exact ⟨none, 0, by rw [HV.out]; rfl, by rw [HV.out]; exact clRow_nil _ _, G⟩
  | true =>
  have hrise := (limOk_iff.1 ho).1
  have hck := (limOk_iff.1 ho).2.1
  have hn50 : n ≤ 50 := by rw [hn.out]; exact (limOk_iff.1 ho).2.2
  have HOK := Lib.hid ho
  have HCK := Lib.hid hck
  have HRS := Lib.hid hrise
  clear ho hck hrise
  go_wp2_with fail
  refine (HP.out _).mono ?_
  rintro e w2 ⟨rfl, rfl⟩
  cases p with
  | false =>
    have HV := Lib.hid (HO.out (by trivial))
    obtain ⟨r0, r1⟩ := one_cell R1
    have V := heap_set R1 0 (.slice none 0 0)
    have G := below_setCell B1 (b := w.heap.size + 1) (by omega) 0 (.slice none 0 0)
    go_wp2_with fail
    obtain ⟨q0, _⟩ := one_cell V
    try simp only [Exit.inBlock, Exit.then]
    refine bodyPost_ret (by simp [results, Try.results12, go_sem, q0]; try rfl) rfl ?_
    exact ⟨none, 0, by rw [HV.out]; rfl, by rw [HV.out]; exact clRow_nil _ _, G⟩
  | true =>
  go_wp2_with fail
  refine (HQ.out _).mono ?_
  rintro e w2 ⟨rfl, rfl⟩
  cases q with
  | false =>
    have HV := Lib.hid (HO.out (by trivial))
    obtain ⟨r0, r1⟩ := one_cell R1
    have V := heap_set R1 0 (.slice none 0 0)
    have G := below_setCell B1 (b := w.heap.size + 1) (by omega) 0 (.slice none 0 0)
    go_wp2_with fail
    obtain ⟨q0, _⟩ := one_cell V
    try simp only [Exit.inBlock, Exit.then]
    refine bodyPost_ret (by simp [results, Try.results12, go_sem, q0]; try rfl) rfl ?_
    exact ⟨none, 0, by rw [HV.out]; rfl, by rw [HV.out]; exact clRow_nil _ _, G⟩
  | true =>
  have HIN := Lib.hid (HI.out (by trivial))
  obtain ⟨n0, n1⟩ := HN1.out (by trivial)
  obtain ⟨j0, j1⟩ := HN2.out (by trivial)
  clear HO HI HN1 HN2 HP HQ
  obtain ⟨c0, _⟩ := one_cell R0
  go_upto_block 0 with fail
  go_cut [9] from 30 to 46 (fun at_ wx => (∃ k : Nat, k ≤ n ∧ at_ = .int .i64 k ∧ Hid (∀ a ∈ l.take k, a.id < id) ∧ Hid (∀ v, l[k]? = some v → id ≤ v.id)) ∧ wx = w1)
  case first =>
    go_wp2_with fail
    go_loop [9] (fun i => ∃ k : Nat, k ≤ n ∧ i = .int .i64 k ∧ Hid (∀ a ∈ l.take k, a.id < id)) (fun i => n - (RowKit.intOf i).toNat)
    case atStart => exact ⟨0, Nat.zero_le _, rfl, Lib.hid (fun a ha => by simp at ha)⟩
    case round =>
      obtain ⟨k, hk, rfl, HLT⟩ := hrel
      by_cases hlt : k < n
      · obtain ⟨v, hv⟩ := getC (l := l) (k := k) (by rw [← hn.out]; exact hlt)
        obtain ⟨b, off, rfl, hbB, d0, d1, d2⟩ := h1.at_ hv
        have hkn : (k : Int) < (n : Int) := by omega
        have HV0 := Lib.hid hv
        clear hv
        by_cases hvi : v.id < id
        · have hd := decide_eq_true hvi
          have HLT2 : Hid (∀ a ∈ l.take (k + 1), a.id < id) := Lib.hid (fun a ha => by
            rw [take_nextC HV0.out] at ha
            rcases List.mem_append.1 ha with ha | ha
            · exact HLT.out a ha
            · rw [List.mem_singleton.1 ha]; exact hvi)
          go_wp2_with fail
          go_round
          case rel => exact ⟨k + 1, by omega, by go_num, HLT2⟩
          case measure => simp [RowKit.intOf]; omega
        · have hd := decide_eq_false hvi
          have HGE : Hid (∀ u, l[k]? = some u → id ≤ u.id) := Lib.hid (fun u hu => by rw [HV0.out] at hu; rw [← Option.some.inj hu]; omega)
          go_wp2_with fail
          go_meet
          case rel => exact ⟨⟨k, hk, rfl, HLT, HGE⟩, rfl⟩
      · have hkn : ¬ (k : Int) < (n : Int) := by omega
        have HGE : Hid (∀ u, l[k]? = some u → id ≤ u.id) := Lib.hid (fun u hu => by have := (List.getElem?_eq_some_iff.1 hu).1; have := hn.out; omega)
        go_wp2_with fail
        go_meet
        case rel => exact ⟨⟨k, hk, rfl, HLT, HGE⟩, rfl⟩
  case rest =>
  obtain ⟨⟨k, hk, rfl, HLT, HGE⟩, hwc⟩ := hcut
  rw [hwc]
  clear hwc
  obtain ⟨srcH, hH, SH⟩ := slice_upto x l n cap k hn.out hk hc hnil
  obtain ⟨src0, h0, S0⟩ := slice_from x l n cap k (k : Int) rfl hn.out hk hc hnil
  have HSH := Lib.hid SH
  have HS0 := Lib.hid S0
  obtain ⟨hb, hhb⟩ : ∃ b : Bool, b = (match l[k]? with | some v => v.id == id | none => false) := ⟨_, rfl⟩
  have HB := Lib.hid hhb
  clear SH S0 hhb
  have N2 := blk_new w1 (.cells #[.int .i64 id, .int .i64 now, .int .i64 0] 52)
  have B2 := B1.alloc B1.size (.cells #[.int .i64 id, .int .i64 now, .int .i64 0] 52)
  have R02 := blk_alloc R0 (.cells #[.int .i64 id, .int .i64 now, .int .i64 0] 52)
  have R12 := blk_alloc R1 (.cells #[.int .i64 id, .int .i64 now, .int .i64 0] 52)
  have hb0 : w.heap.size < w1.heap.size := by omega
  go_upto_region 8 with fail
  obtain ⟨w1s, hw1s⟩ : ∃ s, w1.heap.size = s := ⟨_, rfl⟩
  clear hb0
  obtain ⟨W2, hW2⟩ : ∃ W2, W2 = w1.alloc (.cells #[.int .i64 id, .int .i64 now, .int .i64 0] 52) := ⟨_, rfl⟩
  rw [hw1s] at N2 hbox
  rw [← hW2] at N2 B2 R02 R12
  have h2 := HH.out.next B2
  have hs2 : w.heap.size + 1 < w1s := hbox
  rw [hw1s, ← hW2]
  clear hW2 hw1s h1 B1 R0 R1 c0 hbox
  obtain ⟨c0, _⟩ := one_cell R02
  go_cut [68] from 54 to 67 (fun c wx => c = .bool hb ∧ wx = W2)
  case first =>
    by_cases hlt : k < n
    · obtain ⟨v, hv⟩ := getC (l := l) (k := k) (by rw [← hn.out]; exact hlt)
      obtain ⟨b, off, rfl, hbB, d0, d1, d2⟩ := h2.at_ hv
      have hkn : (k : Int) < (n : Int) := by omega
      have HBV : Hid (hb = (v.id == id)) := Lib.hid (by rw [HB.out, hv])
      clear hv
      obtain ⟨q, hq⟩ : ∃ q, (v.id == id) = q := ⟨_, rfl⟩
      cases q with
      | false =>
        go_wp2_with fail
        go_meet
        case rel => exact ⟨by rw [HBV.out, hq], rfl⟩
      | true =>
        go_wp2_with fail
        go_meet
        case rel => exact ⟨by rw [HBV.out, hq], rfl⟩
    · have hkn : ¬ (k : Int) < (n : Int) := by omega
      have HBV : Hid (hb = false) := Lib.hid (by rw [HB.out, List.getElem?_eq_none (by have := hn.out; omega)])
      go_wp2_with fail
      go_meet
      case rel => exact ⟨by rw [HBV.out], rfl⟩
  case rest =>
  obtain ⟨rfl, hwc⟩ := hcut
  rw [hwc]
  clear hwc
  go_upto_if 68 with fail
  go_cut [11] from 69 to 78 (fun s wx => ∃ (O : Cl) (T : List Cl) (m : Nat), Hid (∀ B W, Cls B W x l → SrcAt W s m 3 (flatCl T)) ∧ Hid (T.length = m) ∧ k + 1 + m ≤ 51 ∧ (0 ≤ O.last ∧ O.last ≤ 1000000000) ∧ (0 ≤ O.score ∧ O.score ≤ 20) ∧
    Hid (camV l id now = if now < O.last then none else if limOk ((l.take k ++ [newC O now]) ++ T) = true then some ((l.take k ++ [newC O now]) ++ T, refC O now) else none) ∧
    wx.heap[w1s]? = some (.cells #[.int .i64 O.id, .int .i64 O.last, .int .i64 O.score] 52) ∧ wx.heap[w.heap.size]? = some (.cells #[.slice x n cap] 28) ∧ wx.heap[w.heap.size + 1]? = some (.cells #[.slice none 0 0] 28) ∧ Below w.heap.size w wx)
  case first =>
    cases hb with
    | false =>
      have HGE2 : Hid (∀ u, l[k]? = some u → id < u.id) := Lib.hid (fun u hu => by
        have h1 := HGE.out u hu
        have h2 := HB.out
        rw [hu] at h2
        have h3 : u.id ≠ id := by simpa using h2
        omega)
      have HVC := Lib.hid (camV_miss HOK.out HIN.out HLT.out HGE2.out)
      have HFULL := Lib.hid (fun h50 => next_full HOK.out HLT.out HGE2.out (newC ⟨id, now, 0⟩ now) rfl h50)
      have HV : Hid (camV l id now = if now < (⟨id, now, 0⟩ : Cl).last then none else if limOk ((l.take k ++ [newC ⟨id, now, 0⟩ now]) ++ l.drop k) = true then some ((l.take k ++ [newC ⟨id, now, 0⟩ now]) ++ l.drop k, refC ⟨id, now, 0⟩ now) else none) := Lib.hid (by
        rw [HVC.out, if_neg (show ¬ now < (⟨id, now, 0⟩ : Cl).last by show ¬ now < now; omega), ref_new]
        by_cases h50 : l.length = 50
        · rw [if_pos h50, if_neg (by rw [HFULL.out h50]; simp)]
        · rw [if_neg h50, if_pos (next_ok HOK.out (HVC.out.trans (if_neg h50)))])
      go_wp2_with fail
      go_meet
      case rel => exact ⟨⟨id, now, 0⟩, l.drop k, n - k, HS0, Lib.hid (by rw [List.length_drop, ← hn.out]), by omega, ⟨n0, n1⟩, ⟨by show (0 : Int) ≤ 0; omega, by show (0 : Int) ≤ 20; omega⟩, HV, N2, R02, R12, B2⟩
    | true =>
      have hlk : k < n := by
        rcases Nat.lt_or_ge k n with h | h
        · exact h
        · have h2 := HB.out
          rw [List.getElem?_eq_none (by have := hn.out; omega)] at h2
          cases h2
      obtain ⟨v, hv⟩ := getC (l := l) (k := k) (by rw [← hn.out]; exact hlk)
      obtain ⟨b, off, rfl, hbB, d0, d1, d2⟩ := h2.at_ hv
      have hvi : v.id = id := by
        have h2 := HB.out
        rw [hv] at h2
        have h3 : (v.id == id) = true := h2.symm
        exact beq_iff_eq.1 h3
      obtain ⟨_, v4, v5⟩ := clOk_bounds (HCK.out v (List.mem_of_getElem? hv))
      have HVC := Lib.hid (camV_hit HOK.out HIN.out hv (by rw [hvi]; exact HLT.out) hvi)
      have HV : Hid (camV l id now = if now < v.last then none else if limOk ((l.take k ++ [newC v now]) ++ l.drop (k + 1)) = true then some ((l.take k ++ [newC v now]) ++ l.drop (k + 1), refC v now) else none) := Lib.hid (by
        rw [HVC.out]
        split
        · rfl
        · rename_i hnl
          rw [if_pos (next_ok HOK.out (HVC.out.trans (if_neg hnl)))])
      obtain ⟨src1, h1', S1⟩ := slice_from (some ⟨b, off, none⟩) l n cap (k + 1) ((k : Int) + 1) (by omega) hn.out (by omega) hc hnil
      have HS1 := Lib.hid S1
      have hk1 : IntKind.i64.wrap ((k : Int) + 1) = (k : Int) + 1 := IntWalk.i64_in _ (by omega)
      have hkn : (k : Int) < (n : Int) := by omega
      clear S1 hvi hv HVC HB
      obtain ⟨⟨y0, y1, y2⟩, f0, f1, f2⟩ := three_cellsC N2
      have N3 := heap_set (heap_set (heap_set N2 0 (.int .i64 v.id)) 1 (.int .i64 v.last)) 2 (.int .i64 v.score)
      have B3 := below_setCell (below_setCell (below_setCell B2 (b := w1s) (by omega) 0 (.int .i64 v.id)) (b := w1s) (by omega) 1 (.int .i64 v.last)) (b := w1s) (by omega) 2 (.int .i64 v.score)
      have R03 := blk_other (blk_other (blk_other R02 (b' := w1s) (by omega) 0 (.int .i64 v.id)) (b' := w1s) (by omega) 1 (.int .i64 v.last)) (b' := w1s) (by omega) 2 (.int .i64 v.score)
      have R13 := blk_other (blk_other (blk_other R12 (b' := w1s) (by omega) 0 (.int .i64 v.id)) (b' := w1s) (by omega) 1 (.int .i64 v.last)) (b' := w1s) (by omega) 2 (.int .i64 v.score)
      go_upto_region 10 with fail
      generalize ((W2.setCell ⟨w1s, 0, none⟩ (.int .i64 v.id)).setCell ⟨w1s, 1, none⟩ (.int .i64 v.last)).setCell ⟨w1s, 2, none⟩ (.int .i64 v.score) = W3 at N3 B3 R03 R13 ⊢
      clear c0 d0 d1 d2 y0 y1 y2 f0 f1 f2
      obtain ⟨c0, _⟩ := one_cell R03
      go_wp2_with fail
      go_meet
      case rel => exact ⟨v, l.drop (k + 1), n - (k + 1), HS1, Lib.hid (by rw [List.length_drop, ← hn.out]), by omega, v4, v5, HV, N3, R03, R13, B3⟩
  case rest =>
  obtain ⟨O, T, m, HSX, HML, hmk, O1, O2, HV, N3, R03, R13, B3⟩ := hcut
  clear HLT HGE HB HS0 h0 N2 B2 R02 R12 h2 c0 HOK HIN HCK HRS
  generalize wc = W3 at *
  have h3 := HH.out.next B3
  obtain ⟨c0, _⟩ := one_cell R03
  obtain ⟨y0, y1, y2⟩ := client_cells (v := O) N3
  by_cases hnl : now < O.last
  · have hd3 := decide_eq_true hnl
    have HV1 : Hid (camV l id now = none) := Lib.hid (HV.out.trans (if_pos hnl))
    obtain ⟨r0, r1⟩ := one_cell R13
    have V := heap_set R13 0 (.slice none 0 0)
    have G := below_setCell B3 (b := w.heap.size + 1) (by omega) 0 (.slice none 0 0)
    go_wp2_with fail
    obtain ⟨q0, _⟩ := one_cell V
    try simp only [Exit.inBlock, Exit.then]
    refine bodyPost_ret (by simp [results, Try.results12, go_sem, q0]; try rfl) rfl ?_
    exact ⟨none, 0, by rw [HV1.out]; rfl, by rw [HV1.out]; exact clRow_nil _ _, G⟩
  have hd3 := decide_eq_false hnl
  have HV1 : Hid (camV l id now = if limOk ((l.take k ++ [newC O now]) ++ T) = true then some ((l.take k ++ [newC O now]) ++ T, refC O now) else none) := Lib.hid (HV.out.trans (if_neg hnl))
  have HLC := Lib.hid (fun W => l9Came_c O O1.1 O1.2 O2.1 O2.2 now n0 n1 W)
  obtain ⟨C, hC⟩ : ∃ C, newC O now = C := ⟨_, rfl⟩
  obtain ⟨t, ht⟩ : ∃ t, refC O now = t := ⟨_, rfl⟩
  rw [hC] at HV1 HLC
  rw [ht] at HV1 HLC
  clear HV hC ht hnl O1 O2
  go_upto_region 13 with fail
  go_cut [12, 13] from 16 to 108 (fun p r wx => ∃ s5, w.heap.size + 1 < s5 ∧ p = .pointer (some ⟨s5, 0, none⟩) ∧ r = .int .i64 t ∧ wx.heap[s5]? = some (.cells #[.int .i64 C.id, .int .i64 C.last, .int .i64 C.score] 52) ∧ wx.heap[w.heap.size]? = some (.cells #[.slice x n cap] 28) ∧ wx.heap[w.heap.size + 1]? = some (.cells #[.slice none 0 0] 28) ∧ Below w.heap.size w wx)
  case first =>
    go_wp2_with (go_at_call 38; refine (HLC.out _).mono ?_; rintro e w4 ⟨rfl, b4⟩)
    go_meet
    case rel =>
      have B4 := grow_next B3 b4
      exact ⟨w4.heap.size, by have := (Array.getElem?_eq_some_iff.1 (blk_next b4 R13)).1; omega, rfl, rfl, blk_new w4 _, blk_alloc (blk_next b4 R03) _, blk_alloc (blk_next b4 R13) _, B4.alloc B4.size _⟩
  case rest =>
  obtain ⟨s5, hs54, rfl, rfl, N5, R05, R15, B5⟩ := hcut
  clear B3 R03 R13 N3 c0 y0 y1 y2 HLC h3
  generalize wc = W5 at *
  have h5 := HH.out.next B5
  obtain ⟨c0, _⟩ := one_cell R05
  obtain ⟨y0, y1, y2⟩ := client_cells (v := C) N5
  obtain ⟨i0, hi, hz0, hz1, hz2⟩ := info_partsT infoCl'
  have HI0 := Lib.hid hi
  have HZ0 := Lib.hid hz0
  have HZ1 := Lib.hid hz1
  have HZ2 := Lib.hid hz2
  clear hi hz0 hz1 hz2
  have hsz : w.heap.size ≤ W5.heap.size := B5.size
  have hwl : s5 < W5.heap.size := (Array.getElem?_eq_some_iff.1 N5).1
  have hw0 : w.heap.size < W5.heap.size := by omega
  have bA : Below W5.heap.size W5 (W5.alloc (.cells #[] 52)).drew := below_drewC (below_new _ _)
  have bB : Below W5.heap.size W5 ((W5.alloc (.cells #[] 52)).alloc (.cells #[.int .i64 C.id, .int .i64 C.last, .int .i64 C.score] 52)).drew := below_drewC ((below_new W5 (.cells #[] 52)).alloc (below_new W5 (.cells #[] 52)).size _)
  have bC : Below W5.heap.size W5 ((W5.alloc (.cells #[.int .i64 C.id, .int .i64 C.last, .int .i64 C.score] 52)).alloc (.cells #[] 52)).drew := below_drewC ((below_new W5 (.cells #[.int .i64 C.id, .int .i64 C.last, .int .i64 C.score] 52)).alloc (below_new W5 (.cells #[.int .i64 C.id, .int .i64 C.last, .int .i64 C.score] 52)).size _)
  have M0 := World.ownsRow_made (base := W5.heap.size) (e := 52) (size := 3) W5 #[] 0 (Nat.le_refl _) (by simp [maxLen]) rfl
  have MA := Lib.hid M0.drew
  have MB := Lib.hid (M0.alloc (.cells #[.int .i64 C.id, .int .i64 C.last, .int .i64 C.score] 52)).drew
  have M1 := World.ownsRow_made (base := W5.heap.size) (e := 52) (size := 3) (W5.alloc (.cells #[.int .i64 C.id, .int .i64 C.last, .int .i64 C.score] 52)) #[] 0 (by simp) (by simp [maxLen]) rfl
  rw [World.size_alloc] at M1
  have MC := Lib.hid M1.drew
  have HBn : Hid (((W5.alloc (.cells #[] 52)).alloc (.cells #[.int .i64 C.id, .int .i64 C.last, .int .i64 C.score] 52)).drew.heap[W5.heap.size + 1]? = some (.cells #[.int .i64 C.id, .int .i64 C.last, .int .i64 C.score] 52)) := Lib.hid (by
    have := blk_new (W5.alloc (.cells #[] 52)) (.cells #[.int .i64 C.id, .int .i64 C.last, .int .i64 C.score] 52)
    rw [World.size_alloc] at this
    exact this)
  have HCn : Hid (((W5.alloc (.cells #[.int .i64 C.id, .int .i64 C.last, .int .i64 C.score] 52)).alloc (.cells #[] 52)).drew.heap[W5.heap.size]? = some (.cells #[.int .i64 C.id, .int .i64 C.last, .int .i64 C.score] 52)) := Lib.hid (blk_alloc (blk_new W5 (.cells #[.int .i64 C.id, .int .i64 C.last, .int .i64 C.score] 52)) (.cells #[] 52))
  have NA := Lib.hid (HSH.out _ _ (h5.next bA))
  have NB := Lib.hid (HSH.out _ _ (h5.next bB))
  have NC := Lib.hid (HSH.out _ _ (h5.next bC))
  have sB : W5.heap.size + 1 < ((W5.alloc (.cells #[] 52)).alloc (.cells #[.int .i64 C.id, .int .i64 C.last, .int .i64 C.score] 52)).drew.heap.size := by show _ < ((W5.alloc (.cells #[] 52)).alloc (.cells #[.int .i64 C.id, .int .i64 C.last, .int .i64 C.score] 52)).heap.size; rw [World.size_alloc, World.size_alloc]; exact Nat.lt_succ_self _
  have sC : W5.heap.size < ((W5.alloc (.cells #[.int .i64 C.id, .int .i64 C.last, .int .i64 C.score] 52)).alloc (.cells #[] 52)).drew.heap.size := by show _ < ((W5.alloc (.cells #[.int .i64 C.id, .int .i64 C.last, .int .i64 C.score] 52)).alloc (.cells #[] 52)).heap.size; rw [World.size_alloc, World.size_alloc]; omega
  have HQ1 := Lib.hid N5
  have h50k : k ≤ 50 := by omega
  clear M0 M1 N5
  go_upto_region 14 with fail
  go_cut [14] from 16 to 108 (fun v wx => wx.ownsRow W5.heap.size 52 3 v (k + 1) (flatCl (l.take k) ++ C.cells) ∧ Below W5.heap.size W5 wx)
  case first =>
    go_region_law (first
      | (refine step_append_any rfl _ _ 26 rfl W5.heap.size 52 i0 (.agg #[.int .i64 0, .int .i64 0, .int .i64 0]) 3 24 Try.underlying26 HI0.out HZ0.out HZ1.out HZ2.out rfl (by decide) v1 (0 + k) ([] ++ flatCl (l.take k)) (by simp [Act.eval, Act.put]) (hown1.alloc _) (.slice (some ⟨w2.heap.size, 0, none⟩) 1 1) 1 C.cells (by simp [Act.eval, Act.put]) (.inr ⟨⟨w2.heap.size, 0, none⟩, 1, rfl, rfl, cell_new_cl w2 C _⟩) (by simp [Cl.cells, Value.oneCell', Cl.row]) (by unfold maxLen; omega) (by omega) (by have := B2.size; simp; omega) ?_; intro v2 w3 hown2 hgr2)
      | (refine step_append_any rfl _ _ 26 rfl W5.heap.size 52 i0 (.agg #[.int .i64 0, .int .i64 0, .int .i64 0]) 3 24 Try.underlying26 HI0.out HZ0.out HZ1.out HZ2.out rfl (by decide) v1 (0 + k) ([] ++ flatCl (l.take k)) (by simp [Act.eval, Act.put]) hown1 (.slice (some ⟨W5.heap.size + 1, 0, none⟩) 1 1) 1 C.cells (by simp [Act.eval, Act.put]) (.inr ⟨⟨W5.heap.size + 1, 0, none⟩, 1, rfl, rfl, NS⟩) (by simp [Cl.cells, Value.oneCell', Cl.row]) (by unfold maxLen; omega) (by omega) (by have := B2.size; simp; omega) ?_; intro v2 w3 hown2 hgr2)
      | (refine step_append_any rfl _ _ 26 rfl W5.heap.size 52 i0 (.agg #[.int .i64 0, .int .i64 0, .int .i64 0]) 3 24 Try.underlying26 HI0.out HZ0.out HZ1.out HZ2.out rfl (by decide) v1 (0 + k) ([] ++ flatCl (l.take k)) (by simp [Act.eval, Act.put]) hown1 (.slice (some ⟨W5.heap.size, 0, none⟩) 1 1) 1 C.cells (by simp [Act.eval, Act.put]) (.inr ⟨⟨W5.heap.size, 0, none⟩, 1, rfl, rfl, NS⟩) (by simp [Cl.cells, Value.oneCell', Cl.row]) (by unfold maxLen; omega) (by omega) (by have := B2.size; simp; omega) ?_; intro v2 w3 hown2 hgr2)
      | (refine step_append_any rfl _ _ 26 rfl W5.heap.size 52 i0 (.agg #[.int .i64 0, .int .i64 0, .int .i64 0]) 3 24 Try.underlying26 HI0.out HZ0.out HZ1.out HZ2.out rfl (by decide) (.slice (some ⟨W5.heap.size, 0, none⟩) 0 0) 0 [] (by simp [Act.eval, Act.put]) MA.out srcH k (flatCl (l.take k)) (by simp [Act.eval, Act.put]) NA.out flatCl_one (by unfold maxLen; omega) (by omega) bA.size ?_; intro v1 w2 hown1 hgr1; have B2 := bA.grown hgr1 bA.size (fun k e => by simp only [Value.ownBlock, Option.some.injEq] at e; omega); obtain ⟨x0, x1, x2⟩ := client_cells (blk_next B2 HQ1.out))
      | (refine step_append_any rfl _ _ 26 rfl W5.heap.size 52 i0 (.agg #[.int .i64 0, .int .i64 0, .int .i64 0]) 3 24 Try.underlying26 HI0.out HZ0.out HZ1.out HZ2.out rfl (by decide) (.slice (some ⟨W5.heap.size, 0, none⟩) 0 0) 0 [] (by simp [Act.eval, Act.put]) MB.out srcH k (flatCl (l.take k)) (by simp [Act.eval, Act.put]) NB.out flatCl_one (by unfold maxLen; omega) (by omega) bB.size ?_; intro v1 w2 hown1 hgr1; have B2 := bB.grown hgr1 bB.size (fun k e => by simp only [Value.ownBlock, Option.some.injEq] at e; omega); have NS := cells_cl ((hgr1.block (W5.heap.size + 1) sB (by simp [Value.ownBlock])).trans HBn.out))
      | (refine step_append_any rfl _ _ 26 rfl W5.heap.size 52 i0 (.agg #[.int .i64 0, .int .i64 0, .int .i64 0]) 3 24 Try.underlying26 HI0.out HZ0.out HZ1.out HZ2.out rfl (by decide) (.slice (some ⟨W5.heap.size + 1, 0, none⟩) 0 0) 0 [] (by simp [Act.eval, Act.put]) MC.out srcH k (flatCl (l.take k)) (by simp [Act.eval, Act.put]) NC.out flatCl_one (by unfold maxLen; omega) (by omega) bC.size ?_; intro v1 w2 hown1 hgr1; have B2 := bC.grown hgr1 bC.size (fun k e => by simp only [Value.ownBlock, Option.some.injEq] at e; omega); have NS := cells_cl ((hgr1.block W5.heap.size sC (by simp [Value.ownBlock])).trans HCn.out)))
    all_goals
      have b2 := B2
      have b3 : Below W5.heap.size W5 w3 := by
        first
          | exact b2.grown hgr2 b2.size (fun k e => (hown1.lt k e).1)
          | exact (b2.alloc b2.size _).grown hgr2 (b2.alloc b2.size _).size (fun k e => (hown1.lt k e).1)
      go_wp2_with fail
      go_meet
      case rel => exact ⟨by rw [Nat.zero_add, List.nil_append] at hown2; exact hown2, b3⟩
  case rest =>
  obtain ⟨hown, B6⟩ := hcut
  generalize wc = W6 at *
  have B56 := grow_next B5 B6
  have S6 := Lib.hid (HSX.out _ _ (HH.out.next B56))
  have R16 := blk_next B6 R15
  have hs65 := B6.size
  have HOB := Lib.hid (fun j e => (hown.lt j e).1)
  have HOWN := Lib.hid hown
  obtain ⟨L, hL⟩ : ∃ L, (l.take k ++ [C]) ++ T = L := ⟨_, rfl⟩
  rw [hL] at HV1
  have hLn : L.length = k + 1 + m := by
    have := HML.out
    have := hn.out
    rw [← hL, List.length_append, List.length_append, List.length_take]
    simp
    omega
  have hLf : flatCl (l.take k) ++ C.cells ++ flatCl T = flatCl L := by rw [← hL, flatCl_append, flatCl_append]; simp [flatCl]
  have HLF := Lib.hid hLf
  have HLN := Lib.hid hLn
  clear hown hL hLn hLf MA MB MC NA NB NC HBn HCn HQ1 sB sC bA bB bC h5 c0 y0 y1 y2 R15 R05
  go_upto_region 16 with (at_builtin; go_loud (refine wpList_append_any rfl _ _ 26 rfl W5.heap.size 52 i0 (.agg #[.int .i64 0, .int .i64 0, .int .i64 0]) 3 24 Try.underlying26 HI0.out HZ0.out HZ1.out HZ2.out rfl (by decide) u14 (k + 1) _ rfl HOWN.out u11 m (flatCl T) rfl S6.out flatCl_one (by unfold maxLen; omega) (by omega) hs65 ?_); intro v7 w7 hown7 hgr7; obtain ⟨y, cy, rfl⟩ := ownsRow_formT hown7)
  rw [HLF.out] at hown7
  have hR : ClRow W5.heap.size w7 y cy L := by unfold ClRow; rw [HLN.out]; exact hown7
  have R17 := (hgr7.block (w.heap.size + 1) (by omega) (fun e => by have := HOB.out _ e.symm; omega)).trans R16
  have B7 : Below w.heap.size w w7 := B56.grown hgr7 B56.size (fun j e => by have := HOB.out _ e; omega)
  have L8 := blk_new w7 (.cells #[.slice y (k + 1 + m) cy] 28)
  have R18 := blk_alloc R17 (.cells #[.slice y (k + 1 + m) cy] 28)
  have hR8 := hR.next (below_new w7 (.cells #[.slice y (k + 1 + m) cy] 28))
  have B8 := B7.alloc B7.size (.cells #[.slice y (k + 1 + m) cy] 28)
  have hs7 := (Array.getElem?_eq_some_iff.1 R17).1
  have HLS := Lib.hid (fun W h => limOk_spec L (k + 1 + m) (Lib.hid HLN.out.symm) (by unfold maxLen; omega) y cy W h)
  obtain ⟨s7, hs7e⟩ : ∃ s, w7.heap.size = s := ⟨_, rfl⟩
  obtain ⟨W8, hW8⟩ : ∃ W, W = w7.alloc (.cells #[.slice y (k + 1 + m) cy] 28) := ⟨_, rfl⟩
  rw [← hW8] at L8 R18 hR8 B8
  rw [hs7e] at L8
  rw [← hW8]
  try rw [hs7e]
  clear hW8 hs7e hown7 hgr7 hR R17 B7 R16 B56 B6 HOWN S6
  have hsB := B5.size
  try clear HH
  try clear HOK
  try clear HCK
  try clear HRS
  try clear HIN
  try clear n0
  try clear n1
  try clear HLT
  try clear HGE
  try clear hH
  try clear h0
  try clear HSH
  try clear HS0
  try clear HS1
  try clear S6
  try clear h1'
  try clear hd
  try clear hd2
  try clear hd3
  try clear hkn
  try clear hlt
  try clear hk
  try clear hq1
  try clear hc
  try clear hnil
  try clear hm
  try clear hn50
  try clear hs2
  try clear hsz
  try clear hw0
  try clear hmk
  try clear h50k
  try clear HI0
  try clear HZ0
  try clear HZ1
  try clear HZ2
  try clear HML
  try clear HOB
  try clear HLF
  try clear HV0
  try clear hbB
  try clear d0
  try clear d1
  try clear d2
  try clear B5
  try clear hn
  try clear hs65
  try clear h3
  try clear j0
  try clear j1
  obtain ⟨l80, _⟩ := one_cell L8
  go_wp2_with fail
  refine (HLS.out _ hR8.cls).mono ?_
  rintro e w9 ⟨rfl, b9⟩
  have B9 := grow_next B8 b9
  have R19 := blk_next b9 R18
  have L9 := blk_next b9 L8
  have hR9 := hR8.next b9
  clear b9 B8 R18 L8 hR8 l80 HLS
  cases hlo : limOk L with
  | false =>
    have HV2 : Hid (camV l id now = none) := Lib.hid (by rw [HV1.out, if_neg (by rw [hlo]; simp)])
    obtain ⟨r0, r1⟩ := one_cell R19
    have V := heap_set R19 0 (.slice none 0 0)
    have G := below_setCell B9 (b := w.heap.size + 1) (by omega) 0 (.slice none 0 0)
    go_wp2_with fail
    obtain ⟨q0, _⟩ := one_cell V
    try simp only [Exit.inBlock, Exit.then]
    refine bodyPost_ret (by simp [results, Try.results12, go_sem, q0]; try rfl) rfl ?_
    exact ⟨none, 0, by rw [HV2.out]; rfl, by rw [HV2.out]; exact clRow_nil _ _, G⟩
  | true =>
    have HV2 : Hid (camV l id now = some (L, t)) := Lib.hid (by rw [HV1.out, if_pos hlo])
    obtain ⟨l90, _⟩ := one_cell L9
    obtain ⟨r0, r1⟩ := one_cell R19
    have V := heap_set R19 0 (.slice y (k + 1 + m) cy)
    have G := below_setCell B9 (b := w.heap.size + 1) (by omega) 0 (.slice y (k + 1 + m) cy)
    have gS : w9.grownBy (w9.setCell ⟨w.heap.size + 1, 0, none⟩ (.slice y (k + 1 + m) cy)) (some (w.heap.size + 1)) := grown_setC (World.grownBy.refl _ _) 0 _
    have hRa := hR9.keep gS (fun g e => by have := (e ▸ hR9).lt.1; simp only [ne_eq, Option.some.injEq]; omega)
    have hRb : ClRow w.heap.size _ y cy L := ownsRow_base_le hRa (by omega)
    clear hRa hR9 gS
    go_wp2_with fail
    obtain ⟨q0, _⟩ := one_cell V
    try simp only [Exit.inBlock, Exit.then]
    refine bodyPost_ret (by simp [results, Try.results12, go_sem, q0]; try rfl) rfl ?_
    exact ⟨y, cy, by rw [HV2.out]; show _ = Ending.returned (.tuple #[.agg #[.slice y L.length cy], .int .i64 t, .bool true]); rw [HLN.out], by rw [HV2.out]; exact hRb, G⟩
end Go.Proofs.Ytckonbbdeohccaa
