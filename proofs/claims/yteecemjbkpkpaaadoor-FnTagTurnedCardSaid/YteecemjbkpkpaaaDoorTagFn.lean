/- Where a bit of its tag is turned a packet is not read: at every drawn packet and key, each bit of the tag. -/
import Derived.Test.YteecemjbkpkpaaaDoorMacsFn
import Derived.Laws.IdiomStrings
namespace Go.Proofs.YteecemjbkpkpaaaDoor
open Go.ChangeShapes Go.WideShapes Go.ChangeAt Go.RowKit Go.Sort
set_option linter.unusedVariables false
set_option linter.unusedSimpArgs false
set_option maxRecDepth 100000

theorem numsOf_strOf (l : List Int) (h : ∀ y ∈ l, 0 ≤ y ∧ y < 256) : numsOf (strOfNums l) = l := by
  unfold numsOf strOfNums
  show List.map (fun x : UInt8 => (x.toNat : Int)) (List.map (fun n : Int => UInt8.ofNat n.toNat) l).toArray.toList = l
  rw [List.toList_toArray, List.map_map]
  refine (List.map_congr_left (fun y hy => ?_)).trans (List.map_id _)
  have := h y hy
  simp
  omega
theorem turn8 : ∀ (x : Fin 256) (c : Fin 8), 0 ≤ bits .xor .u8 ((x : Nat) : Int) ((2 : Int) ^ (c : Nat) % 256) ∧ bits .xor .u8 ((x : Nat) : Int) ((2 : Int) ^ (c : Nat) % 256) < 256 ∧ bits .xor .u8 ((x : Nat) : Int) ((2 : Int) ^ (c : Nat) % 256) ≠ ((x : Nat) : Int) := by decide +kernel
/-- A text one of whose bytes, behind its packet, is another one is no text of a packet with its tag. -/
theorem tag_turned (p : Pk) (k : ByteArray) (h : p.ok = true) (hk : k.size ≤ 1000) (i : Nat) (hi : 48 ≤ i) (hi2 : i < 80) (x : Int) (l : List Int) (hl : l = (numsOf (macV p k)).set i x) (hx0 : 0 ≤ x) (hx1 : x < 256)
    (hx : (numsOf (macV p k))[i]? ≠ some x) : rmOk (strOfNums l) k = false ∧ (strOfNums l).size = 80 := by
  obtain ⟨b1, b2, b3⟩ := rp_back p h
  have e := macV_yes h hk
  have hsz : (macV p k).size = 80 := by rw [e, ByteArray.size_append, b1, hmacB_size]
  have hls : l.length = 80 := by rw [hl, List.length_set, numsOf, List.length_map]; simpa using hsz
  have hs80 : (strOfNums l).size = 80 := by rw [strOfNums_size, hls]
  have hnl : numsOf (strOfNums l) = l := by
    refine numsOf_strOf l (fun y hy => ?_)
    rw [hl] at hy
    rcases List.mem_or_eq_of_mem_set hy with hy | rfl
    · unfold numsOf at hy
      obtain ⟨u, _, rfl⟩ := List.mem_map.1 hy
      have := u.toNat_lt
      omega
    · omega
  refine ⟨?_, hs80⟩
  have ex : (strOfNums l).extract 0 48 = p.bytes := by
    have e2 : (macV p k).extract 0 48 = p.bytes := by
      rw [e]
      first | exact ByteArray.extract_append_eq_left b1.symm | exact ByteArray.extract_append_eq_left b1
    rw [← e2]
    have e3 : ∀ s t : ByteArray, s.data.toList.take 48 = t.data.toList.take 48 → s.extract 0 48 = t.extract 0 48 := fun s t h => by
      apply ByteArray.ext
      apply Array.toList_inj.1
      simpa [ByteArray.data_extract, Array.toList_extract, List.extract_eq_take_drop] using h
    apply e3
    have e4 : (macV p k).data.toList = (numsOf (macV p k)).map fun n => UInt8.ofNat n.toNat := by
      have := congrArg ByteArray.data (strOf_numsOf (macV p k))
      have := congrArg Array.toList this
      simpa [strOfNums] using this.symm
    have e5 : (strOfNums l).data.toList = l.map fun n => UInt8.ofNat n.toNat := by simp [strOfNums]
    rw [e4, e5, hl, List.map_set, List.take_set_of_le hi]
  rw [rm_is _ _ (by omega), ex, b2, b3]
  have ne : ((macV p k).toList == (strOfNums l).toList) = false := by
    rw [beq_eq_false_iff_ne]
    intro e6
    have e7 : numsOf (macV p k) = l := by rw [toList_inj e6, hnl]
    rw [hl] at e7
    apply hx
    rw [e7, List.getElem?_set_self (by rw [numsOf, List.length_map]; simpa using (by omega : i < (macV p k).size))]
  rw [ne]
  simp
theorem bytesRow_cell (s : ByteArray) (C : Nat) (l : List Int) (hl : numsOf s = l) (j : Nat) (x : Int) (hx : l[j]? = some x) : (bytesRow s C)[j]? = some (.int .u8 x) := by
  have hj : j < s.data.size := by
    have := (List.getElem?_eq_some_iff.1 hx).1
    rw [← hl, numsOf, List.length_map] at this
    simpa using this
  rw [bytesRow_at s C j hj]
  rw [← hl, numsOf, List.getElem?_map, List.getElem?_eq_getElem (by simpa using hj)] at hx
  simpa using hx
set_option maxHeartbeats 4000000 in
theorem ftag_walk (w : World) (hp : ShaW w) (x : Option Addr) (n cap z : Nat) (hz : z = n ∧ Code w.heap.size w (.slice x n cap) n) :
    Calls Tryd.prog 4 #[.slice x n cap] w fun e w' => e = .returned (.bool true) ∧ Below w.heap.size w w' := by
  obtain ⟨_, hc⟩ := hz
  by_cases hbig : n ≤ 1048576
  · have hbi : decide ((1048576 : Int) < (n : Int)) = false := decide_eq_false (by omega)
    go_enter Tryd.func4, Tryd.ntmps4
    go_wp2_with (go_at_call 5; go_in)
    refine (drawMacText_c x n cap _ hc hbig).mono ?_
    rintro e w1 ⟨p, k, hk, rfl, hb1⟩
    have P1 := blk_new w1 (.cells #[.int .i64 p.leap, .int .i64 p.version, .int .i64 p.mode, .int .i64 p.stratum, .int .i64 p.poll, .int .i64 p.delay, .int .i64 p.disp, .int .i64 p.ref, .int .i64 p.orig, .int .i64 p.recv, .int .i64 p.xmit] 25)
    have G1 := hb1.alloc hb1.size (.cells #[.int .i64 p.leap, .int .i64 p.version, .int .i64 p.mode, .int .i64 p.stratum, .int .i64 p.poll, .int .i64 p.delay, .int .i64 p.disp, .int .i64 p.ref, .int .i64 p.orig, .int .i64 p.recv, .int .i64 p.xmit] 25)
    have HSI := Lib.hid (fun w h => macText_impl p k (by omega) w h)
    have HSS := Lib.hid (fun w => macText_s p k (by omega) w)
    have HRI := Lib.hid (fun (l : List Int) (hl : (strOfNums l).size ≤ 1048576) w h => readMac_impl (strOfNums l) k hl (by omega) w h)
    have HN := Lib.hid (fun h => macV_bad (p := p) k h)
    have HT := Lib.hid (fun h => tag_turned p k h (by omega))
    have HZ := Lib.hid (fun h => (mac_back p k h (by omega)).1)
    obtain ⟨s, hs⟩ : ∃ s, macV p k = s := ⟨_, rfl⟩
    rw [hs] at HSI HSS HN HT HZ
    clear hs hb1 hc
    have qs : (s.toList != s.toList) = false := by simp
    have qs2 : (s.toList == s.toList) = true := by simp
    obtain ⟨bp, hbp⟩ : ∃ b, p.ok = b := ⟨_, rfl⟩
    rw [hbp] at HN HT HZ
    obtain ⟨p0, p1, p2, p3, p4, p5, p6, p7, p8, p9, p10⟩ := packet_cells P1
    go_wp2_with fail
    refine (HSI.out _ (hp.next G1)).mono ?_
    rintro e w2 ⟨rfl, hb2⟩
    have P2 := blk_next hb2 P1
    have G2 := grow_next G1 hb2
    clear p0 p1 p2 p3 p4 p5 p6 p7 p8 p9 p10 P1 G1 hb2 HSI
    obtain ⟨p0, p1, p2, p3, p4, p5, p6, p7, p8, p9, p10⟩ := packet_cells P2
    go_wp2_with fail
    refine (HSS.out _).mono ?_
    rintro e w3 ⟨rfl, hb3⟩
    have P3 := blk_next hb3 P2
    have G3 := grow_next G2 hb3
    clear p0 p1 p2 p3 p4 p5 p6 p7 p8 p9 p10 P2 G2 hb3
    cases bp with
    | false =>
      have k1 := isEmptyM_of (s := s) (by rw [HN.out rfl]; rfl)
      clear HN HT HZ hbp
      obtain ⟨p0, p1, p2, p3, p4, p5, p6, p7, p8, p9, p10⟩ := packet_cells P3
      go_wp2_with fail
      refine (HSS.out _).mono ?_
      rintro e w4 ⟨rfl, hb4⟩
      go_wp2_with fail
      go_returns
      exact ⟨rfl, grow_next G3 hb4⟩
    | true =>
      have hs80 := HZ.out rfl
      have k1 := isEmptyM_not (s := s) (by omega)
      have HT1 := HT.out rfl
      clear HN HT HZ hbp HSS P3
      obtain ⟨l, hl⟩ : ∃ l, numsOf s = l := ⟨_, rfl⟩
      have hll : l.length = 80 := by rw [← hl, numsOf, List.length_map]; simpa using hs80
      have hlb : ∀ y ∈ l, 0 ≤ y ∧ y < 256 := fun y hy => by
        rw [← hl] at hy
        unfold numsOf at hy
        obtain ⟨u, _, rfl⟩ := List.mem_map.1 hy
        have := u.toNat_lt
        omega
      have HL := Lib.hid (fun C j x hx => bytesRow_cell s C l hl j x hx)
      rw [hl] at HT1
      have HT2 := Lib.hid HT1
      have HB2 := Lib.hid hlb
      have hs80i : (s.size : Int) = 80 := by omega
      have hbig' : (n : Int) ≤ 1048576 := by omega
      have HS8 := Lib.hid hs80
      clear hl HT1 hlb hs80 hs80i
      go_wp2_with fail
      go_loopw [6] (fun i wr => ∃ j : Nat, j ≤ 262 ∧ i = .int .i64 j ∧ Below w.heap.size w wr) (fun i _ => 256 - (intOf i).toNat)
      case atStart => exact ⟨0, by omega, rfl, G3⟩
      case round =>
        obtain ⟨j, hj, rfl, B⟩ := hrel
        by_cases hlt : j < 256
        · have hlt' : (j : Int) < 256 := by omega
          have hcv := run_bytes_of_string (P := Tryd.prog) wr 9 22 5 s Tryd.underlying9 Tryd.underlying22 Tryd.underlying5
          obtain ⟨C, hC⟩ : ∃ C, grownCap wr s.size 0 5 = C := ⟨_, rfl⟩
          rw [hC, HS8.out] at hcv
          have hi48 : 48 + j / 8 < l.length := by omega
          obtain ⟨q, hq⟩ : ∃ q, j / 8 = q := ⟨_, rfl⟩
          obtain ⟨c, hc⟩ : ∃ c, j % 8 = c := ⟨_, rfl⟩
          have hc8 : c < 8 := by omega
          have e1 : ((j : Int)).tdiv 8 = (q : Int) := by rw [Int.tdiv_eq_ediv_of_nonneg (by omega)]; omega
          have e2 : ((j : Int)).tmod 8 = (c : Int) := by rw [Int.tmod_eq_emod_of_nonneg (by omega)]; omega
          have e3 : IntKind.i64.wrap (48 + (q : Int)) = ((48 + q : Nat) : Int) := by rw [IntWalk.i64_in _ (by omega)]; omega
          have hq80 : 48 + q < 80 := by omega
          obtain ⟨y, hy⟩ : ∃ y, l[48 + q]? = some y := ⟨_, List.getElem?_eq_getElem (by omega)⟩
          obtain ⟨y0, y1⟩ := HB2.out y (List.mem_of_getElem? hy)
          obtain ⟨yn, rfl⟩ := Int.eq_ofNat_of_zero_le y0
          obtain ⟨t0, t1, t2⟩ := turn8 ⟨yn, by omega⟩ ⟨c, hc8⟩
          have HL1 := HL.out C
          clear hC hi48 hq hc
          go_upto_region 11 with fail
          obtain ⟨b, hb⟩ : ∃ b, wr.heap.size = b := ⟨_, rfl⟩
          have hbw : w.heap.size ≤ b := by rw [← hb]; exact B.size
          obtain ⟨W, hW⟩ : ∃ W, W = (wr.alloc (.cells (bytesRow s C) 5 ((bytesRow s C).size, (bytesRow s C).size + 1))).drew := ⟨_, rfl⟩
          have hcell : ∀ i x, l[i]? = some x → W.cell? ⟨b, i, none⟩ = some (.int .u8 x) := fun i x hx => by
            rw [hW, ← hb]
            exact (World.cell?_alloc_mark wr _ _ _ i).trans (HL1 i x hx)
          have hthaw : W.frozen? ⟨b, 48 + q, none⟩ = false := by
            rw [hW, ← hb]
            refine (World.frozen?_alloc_mark wr _ _ _ _ _).trans ?_
            have := (Array.getElem?_eq_some_iff.1 (HL1 (48 + q) _ hy)).1
            rw [decide_eq_false (by omega)]
            rfl
          have BW : Below w.heap.size w W := by
            have h := B.alloc B.size (.cells (bytesRow s C) 5 ((bytesRow s C).size, (bytesRow s C).size + 1))
            rw [hW]
            exact ⟨h.os, h.tape, h.output, h.size, h.block⟩
          rw [← hW, hb]
          have hyc := hcell _ _ hy
          have HC := Lib.hid hcell
          have HY := Lib.hid hy
          clear hW hb hcell hcv HL1 hy
          go_upto_region 12 with fail
          obtain ⟨v, hv⟩ : ∃ v, bits .xor .u8 (yn : Int) ((2 : Int) ^ c % 256) = v := ⟨_, rfl⟩
          rw [hv]
          have t0' : 0 ≤ v := by rw [← hv]; exact t0
          have t1' : v < 256 := by rw [← hv]; exact t1
          have t2' : v ≠ (yn : Int) := by rw [← hv]; exact t2
          obtain ⟨m, hm⟩ : ∃ m, m = l.set (48 + q) v := ⟨_, rfl⟩
          have hml : m.length = 80 := by rw [hm, List.length_set, hll]
          obtain ⟨r1, r2⟩ := HT2.out (48 + q) (by omega) (by omega) v m hm t0' t1' (by rw [HY.out]; intro e; exact t2' (Option.some.inj e).symm)
          obtain ⟨X, hX⟩ : ∃ X, X = W.setCell ⟨b, 48 + q, none⟩ (.int .u8 v) := ⟨_, rfl⟩
          have BX : Below w.heap.size w X := by rw [hX]; exact BW.setCell (p := ⟨b, 48 + q, none⟩) hbw _
          have hcv := run_convert_bytes_arg (P := Tryd.prog) X 22 5 Tryd.underlying22 Tryd.underlying5 b 0 80 C m hml (fun i hi => by
            rw [Nat.zero_add, hX, hm]
            by_cases hiq : i = 48 + q
            · subst hiq
              rw [World.cell?_setCell_same' _ _ _ (by rw [HC.out _ _ HY.out]; rfl)]
              simp [List.getD_eq_getElem?_getD, hll, hq80]
            · rw [World.cell?_setCell_other _ _ _ _ (by intro e; simp only [Addr.mk.injEq] at e; omega)]
              have hi' : i < l.length := by omega
              rw [HC.out i l[i] (List.getElem?_eq_getElem hi')]
              simp [List.getD_eq_getElem?_getD, List.getElem?_set_ne (Ne.symm hiq), hi', List.getElem_set_ne (Ne.symm hiq)]) 9 Tryd.underlying9
          have HR := HRI.out m (by omega) X (hp.next BX)
          have hres : rmRes (strOfNums m) k = zeroPk := by unfold rmRes; rw [r1]; rfl
          rw [r1, hres] at HR
          have HR1 := Lib.hid HR
          rw [← hX]
          clear hX hm hml r1 r2 HR hres hv t0 t1 t2 t0' t1' t2' hyc hthaw BW B HY HC
          go_wp2_with fail
          refine HR1.out.mono ?_
          rintro e w9 ⟨rfl, hb9⟩
          have B9 := grow_next BX hb9
          have B10 := B9.alloc B9.size (.cells #[.int .i64 zeroPk.leap, .int .i64 zeroPk.version, .int .i64 zeroPk.mode, .int .i64 zeroPk.stratum, .int .i64 zeroPk.poll, .int .i64 zeroPk.delay, .int .i64 zeroPk.disp, .int .i64 zeroPk.ref, .int .i64 zeroPk.orig, .int .i64 zeroPk.recv, .int .i64 zeroPk.xmit] 25)
          clear BX hb9 B9 HR1 hcv
          go_wp2_with fail
          go_roundw
          case rel => exact ⟨j + 1 + n % 7, by omega, by congr 1 <;> omega, B10⟩
          case measure => simp only [intOf]; try omega
        · have hlt' : ¬ (j : Int) < 256 := by omega
          go_wp2_with fail
          go_returns
          exact ⟨rfl, B⟩
  · have hbi : decide ((1048576 : Int) < (n : Int)) = true := decide_eq_true (by omega)
    go_enter Tryd.func4, Tryd.ntmps4
    go_wp2_with (go_at_call 5; go_in)
    go_returns
    exact ⟨rfl, Below.refl _ _⟩
theorem ftag_met (os : Os) (args : Array Value) : laidMetH Tryd.prog Rows.fnTagTurnedRow.laid ((World.doorLaid Tryd.prog 400 os).forCall (fun _ _ => 0) ⟨#[], args, []⟩).memory :=
  laidMetH_of_parts3 (fuel := 8) (laidMet_of_run' 8 (by kernel_rfl) (by kernel_rfl)) (by kernel_rfl) (by kernel_rfl)
set_option maxRecDepth 100000 in
theorem ftag_lifted (os : Os) (started : os.Started) (H : Type) (enc : TypeId × Value → H) :
    ReturnsInHanded {} Tryd.checked os 4 .any (fun w args => (Rows.fnTagTurnedSpec.pre enc Tryd.prog Tryd.f4 [] false w args ∧ laidMetH Tryd.prog Rows.fnTagTurnedRow.laid w) ∧ sizedMet enc Tryd.prog Tryd.f4 (OpenSpec.ofChange Rows.fnTagTurnedSpec) false w args) (Rows.fnTagTurnedSpec.post enc Tryd.prog Tryd.f4 false true false false) := by
  refine lifted_of_walk_laid (C := Tryd.checked) own started (by as_aux_lemma => kernel_rfl) Tryd.func4
    (ChangeSpec.witness_shaped (enc := enc) (C := Tryd.checked) (os := os) (X := fun w _ => laidMetH Tryd.prog Rows.fnTagTurnedRow.laid w) false (World.doorLaid Tryd.prog 400 os) #[.slice none 0 0] 8 rfl (World.shaped_of_RefB (by kernel_rfl) (by kernel_rfl)) (by kernel_rfl) (by kernel_rfl) (by kernel_rfl) (ftag_met os _))
    laidOut (by as_aux_lemma => kernel_rfl) (by as_aux_lemma => kernel_rfl) rfl boolType
    (fun ds gs h hg => by
      match ds, gs, h, hg with
      | [_], [_, _], _, _ => rfl)
    ?_
  intro W base args ds q hval hA hL
  have laidRow : Rows.fnTagTurnedRow.laid = Rows.fnTagTurnedRow.laid := rfl
  have hp := shaW_of hL (by rfl) (by rfl)
  clear hL
  rw [Tryd.params4] at hA hval
  obtain ⟨v0, vs0, d0, ds0, p0, q0, hargs, rfl, rfl, h0, r0⟩ := trodAll_cons hA
  obtain ⟨rfl, rfl, rfl⟩ := trodAll_nil r0
  obtain rfl : args = #[v0] := by cases args; simp_all
  obtain ⟨a0, len0, cap0, z0, rfl, w0⟩ := open_bytes Tryd.underlying22 Tryd.underlying5 (by as_aux_lemma => kernel_rfl) (hval 0 22 v0 rfl rfl) h0
  exact ftag_walk W hp a0 len0 cap0 z0 w0

set_option maxHeartbeats 4000000 in
theorem ftag_facts : joinedFacts Tryd.pinned.checked.prog 4 Tryd.f4 Rows.fnTagTurnedSpec Rows.fnTagTurnedRow = true :=
  facts_of (P := Tryd.prog) (by as_aux_lemma => kernel_rfl) laidOut mapsRow (by as_aux_lemma => kernel_rfl) (by as_aux_lemma => kernel_rfl) rfl noStops rfl noKnobs (by as_aux_lemma => kernel_rfl) (by as_aux_lemma => kernel_rfl) (by as_aux_lemma => kernel_rfl) (by as_aux_lemma => kernel_rfl) (by as_aux_lemma => kernel_rfl) (by as_aux_lemma => kernel_rfl) (by as_aux_lemma => kernel_rfl) (by as_aux_lemma => kernel_rfl) (by as_aux_lemma => kernel_rfl) (by as_aux_lemma => kernel_rfl) (by as_aux_lemma => kernel_rfl) (by as_aux_lemma => kernel_rfl) (by as_aux_lemma => kernel_rfl) keysPlain rfl heard enters finals isMake rfl rfl rfl (by as_aux_lemma => kernel_rfl) (by as_aux_lemma => kernel_rfl)

theorem ftag_row : Rows.FnTagTurnedSaid :=
  OpenClaim.holds_of_wide 4 Tryd.f4 rfl rfl rfl rfl rfl rfl rfl ⟨rfl, rfl, rfl, rfl, rfl⟩ rfl rfl rfl rfl rfl (by as_aux_lemma => kernel_rfl) Tryd.func4 ftag_facts
    (of_decide_eq_true (by as_aux_lemma => kernel_rfl)) (by unfold Func.isWrapper; first | (rw [if_pos (by decide +kernel)]; kernel_rfl) | (rw [if_neg (by decide +kernel)]; exact ⟨rfl, rfl⟩))
    (fun os started H enc _ => ftag_lifted os started H enc)

/-- The given statement. -/
theorem ftag_holds : Rows.FnTagTurnedCardSaid :=
  Claim7.holds_tied_plain_at .later [] Rows.fnTagTurnedCard.laidKinds true Rows.fnTagTurnedCard.stood.harness false
    ftag_row (fun _ h => by cases h) (by kernel_rfl) (fun _ h => by cases h) fnTagTurned_row_tie rfl ⟨rfl, rfl⟩ (by kernel_rfl) rfl
    (fun f fn hf hfn => by
      obtain rfl : f = 4 := Option.some.inj ((show Tryd.prog.funcNamed "loop.example/g00656/laws.FnTagTurned" = some 4 by kernel_rfl).symm.trans hf) |>.symm
      obtain rfl : fn = Tryd.f4 := (Option.some.inj (Tryd.func4.symm.trans hfn)).symm
      exact ⟨by kernel_rfl, fun j t ht => noStandIn (by rw [Tryd.params4]; kernel_rfl) j t ht⟩)
    (by kernel_rfl)
#print axioms ftag_holds
end Go.Proofs.YteecemjbkpkpaaaDoor
