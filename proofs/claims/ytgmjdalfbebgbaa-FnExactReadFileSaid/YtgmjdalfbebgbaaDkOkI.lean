/- The program's test of a disk. -/
import Derived.Test.YtgmjdalfbebgbaaShDo
import Derived.Test.YtgmjdalfbebgbaaShFits
import Derived.Test.YtgmjdalfbebgbaaShFiles
import Derived.Test.YtgmjdalfbebgbaaFlEq
namespace Go.Proofs.Ytgmjdalfbebgbaa
open Go.ChangeShapes Go.WideShapes Go.ChangeAt Go.RowKit Go.Maps
set_option linter.unusedVariables false
set_option linter.unusedSimpArgs false
set_option maxRecDepth 100000

/-- A disk that is no longer than a machine can hold. -/
structure SmallD (d : Dk) : Prop where
  live : SmallF d.live
  safe : SmallF d.safe
  many : d.ops.length ≤ 2097152
  ops : ∀ o ∈ d.ops, o.data.size ≤ 1099511627776
/-- Where a disk lies. -/
structure DkAt (B : Nat) (w : World) (x y z : Option Addr) (n m q : Nat) (d : Dk) : Prop where
  live : GAt flC B w x d.live
  safe : GAt flC B w y d.safe
  ops : GAt dpC B w z d.ops
  hn : n = d.live.length
  hm : m = d.safe.length
  hq : q = d.ops.length
theorem DkAt.next {w w' : World} {x y z : Option Addr} {n m q : Nat} {d : Dk} (h : DkAt w.heap.size w x y z n m q d) (hb : Below w.heap.size w w') : DkAt w'.heap.size w' x y z n m q d :=
  ⟨h.live.next hb, h.safe.next hb, h.ops.next hb, h.hn, h.hm, h.hq⟩
theorem three_cellsD {W : World} {b : Nat} {x0 x1 x2 : Value} {T : TypeId} (e : W.heap[b]? = some (.cells #[x0, x1, x2] T)) : W.cell? ⟨b, 0, none⟩ = some x0 ∧ W.cell? ⟨b, 1, none⟩ = some x1 ∧ W.cell? ⟨b, 2, none⟩ = some x2 := ⟨blk_cell e rfl, blk_cell e rfl, blk_cell e rfl⟩
theorem small_of_ok {l : List Fl} (h : filesOk l = true) : SmallF l := by
  obtain ⟨_, _, h3, h4⟩ := filesOk_iff.1 h
  exact ⟨by omega, fun f hf => by have := bytesF_mem hf; omega⟩
theorem stepV_bad {now : List Fl} {o : Dp} (h : (formV o && toldV now o && filesOk (doneV now o)) = false) : stepV now o = none := by
  unfold stepV
  rw [h]
  rfl
theorem stepV_good {now : List Fl} {o : Dp} (h : (formV o && toldV now o && filesOk (doneV now o)) = true) : stepV now o = some (doneV now o) := by
  unfold stepV
  rw [h]
  rfl
theorem diskOk_step {d : Dk} {k : Nat} (hk : k < d.ops.length) (h : chainTo d.safe d.ops (k + 1) = none) : diskOk d = false := by
  cases hd : diskOk d with
  | false => rfl
  | true =>
    obtain ⟨_, _, h3⟩ := diskOk_iff.1 hd
    rw [chainTo_bad (by omega : k + 1 ≤ d.ops.length) h] at h3
    cases h3
set_option maxHeartbeats 8000000 in
theorem diskOk_c (d : Dk) (hs : SmallD d) (x y z : Option Addr) (n m q cx cy cz : Nat) (w : World) (h : DkAt w.heap.size w x y z n m q d) :
    Calls Try.prog 15 #[.agg #[.slice x n cx, .slice y m cy, .slice z q cz]] w fun e w' => e = .returned (.bool (diskOk d)) ∧ Below w.heap.size w w' := by
  have Z0 := blk_new w (.cells #[.slice x n cx, .slice y m cy, .slice z q cz] 31)
  have B0 : Below w.heap.size w (w.alloc (.cells #[.slice x n cx, .slice y m cy, .slice z q cz] 31)) := below_new _ _
  have D0 := h.next B0
  have HS := Lib.hid hs
  have HM := Lib.hid h.hm
  have HQ := Lib.hid h.hq
  have HN := Lib.hid h.hn
  have HD := Lib.hid h
  clear hs h
  go_enter Try.func15, Try.ntmps15
  go_upto_region 1 with fail
  obtain ⟨W, hW⟩ : ∃ W, W = w.alloc (.cells #[.slice x n cx, .slice y m cy, .slice z q cz] 31) := ⟨_, rfl⟩
  rw [← hW] at Z0 B0 D0
  rw [← hW]
  clear hW
  obtain ⟨c0, c1, c2⟩ := three_cellsD Z0
  go_wp2_with fail
  refine (filesOk_c d.safe m HM HS.out.safe y cy W D0.safe).mono ?_
  rintro e w1 ⟨rfl, hb1⟩
  have B1 := grow_next B0 hb1
  have D1 := D0.next hb1
  have Z1 := blk_next hb1 Z0
  clear B0 D0 Z0 c0 c1 c2 hb1
  obtain ⟨c0, c1, c2⟩ := three_cellsD Z1
  cases hf : filesOk d.safe with
  | false =>
    have HR : Hid (diskOk d = false) := Lib.hid (by unfold diskOk; rw [hf]; rfl)
    clear hf
    go_wp2_with fail
    go_returns
    exact ⟨by rw [HR.out]; rfl, B1⟩
  | true =>
    have HF := Lib.hid hf
    clear hf
    by_cases h200 : q ≤ 200
    · have g200 : ¬ (200 : Int) < (q : Int) := by omega
      have d200 : decide ((200 : Int) < (q : Int)) = false := decide_eq_false g200
      obtain ⟨hrise, hnames, hl60, hbytes⟩ := filesOk_iff.1 HF.out
      have HSF := Lib.hid (fun W h => shelfOf_c d.safe hrise (fun f hf => by have := (nmOk_iff.1 (hnames f hf)).2; omega) m HM HS.out.safe y cy W h)
      clear hrise hnames hl60 hbytes
      go_wp2_with fail
      refine (HSF.out _ D1.safe).mono ?_
      rintro e w2 ⟨b, L0, rfl, hL0, M2, hb2⟩
      have B2 := grow_next B1 hb2
      have D2 := D1.next hb2
      have Z2 := blk_next hb2 Z1
      obtain ⟨base, hbase⟩ : ∃ base, w1.heap.size = base := ⟨_, rfl⟩
      have HB : w.heap.size ≤ base := by rw [← hbase]; exact B1.size
      have hb3 : base ≤ w2.heap.size := by rw [← hbase]; exact hb2.size
      rw [hbase] at M2
      have hzb : w.heap.size < base := by rw [← hbase]; exact (Array.getElem?_eq_some_iff.1 Z1).1
      have HOP : Hid (GAt dpC base w2 z d.ops) := Lib.hid ((HD.out.ops.below B2).mono HB)
      have HLV : Hid (GAt flC base w2 x d.live) := Lib.hid ((HD.out.live.below B2).mono HB)
      have HZ2 := Lib.hid Z2
      clear HSF hb2 B1 D1 D2 Z1 c0 c1 c2 hbase
      obtain ⟨c0, c1, c2⟩ := three_cellsD Z2
      go_wp2_with fail
      go_loopw [24] (fun i wr => ∃ (k : Nat) (L : List Sh), k ≤ q ∧ i = .int .i64 k ∧ Hid (chainTo d.safe d.ops k = some (L.map Sh.fl)) ∧ ShMap base wr b L ∧ Below base w2 wr) (fun i _ => q - (RowKit.intOf i).toNat)
      case atStart => exact ⟨0, L0, Nat.zero_le _, rfl, Lib.hid (by rw [chainTo, hL0]), M2, Below.refl _ _⟩
      case round =>
        obtain ⟨k, L, hk, rfl, HC, MM, hbw⟩ := hrel
        clear M2 Z2 c0 c1 c2
        have hwb : base ≤ wr.heap.size := Nat.le_trans hb3 hbw.size
        have Zr := (hbw.block _ hzb).trans HZ2.out
        obtain ⟨c0, c1, c2⟩ := three_cellsD Zr
        have hokn : filesOk (L.map Sh.fl) = true := chainTo_ok HF.out _ _ _ HC.out
        obtain ⟨_, _, hl60, hbytes⟩ := filesOk_iff.1 hokn
        rw [List.length_map] at hl60
        by_cases hlt : k < q
        · obtain ⟨o, ho⟩ := getG (l := d.ops) (k := k) (by rw [← HQ.out]; exact hlt)
          obtain ⟨g, off, rfl, hgB, d0, d1, d2, d3⟩ := (HOP.out.below hbw).dp ho
          have hkn : (k : Int) < (q : Int) := by omega
          have hw1 : IntKind.i64.wrap ((k : Int) + 1) = (k : Int) + 1 := IntWalk.i64_in _ (by omega)
          have hod := HS.out.ops o (List.mem_of_getElem? ho)
          have hkq : k < d.ops.length := by rw [← HQ.out]; exact hlt
          have HST := Lib.hid (chainTo_succ HC.out ho)
          have B1 : Below base w2 (wr.alloc (.cells #[.int .i64 o.kind, .string o.name, .string o.to, .string o.data] 40)) := hbw.alloc hwb _
          have M1 := MM.next (below_new wr (.cells #[.int .i64 o.kind, .string o.name, .string o.to, .string o.data] 40))
          obtain ⟨e0, e1, e2, e3⟩ := four_new wr (.int .i64 o.kind) (.string o.name) (.string o.to) (.string o.data) 40
          have HCH := Lib.hid (fun W => changeOf_c o W)
          have hold : ∀ e ∈ L, e.data.size ≤ 1099511627776 := fun e he => by
            have := bytesF_mem (l := L.map Sh.fl) (List.mem_map_of_mem he)
            have h2 : e.fl.data.size = e.data.size := rfl
            omega
          have hdb := doneV_bytes (L.map Sh.fl) o
          have hdl := doneV_len (L.map Sh.fl) o
          rw [List.length_map] at hdl
          clear ho MM
          cases hform : formV o with
          | false =>
            have HR : Hid (diskOk d = false) := Lib.hid (diskOk_step hkq (HST.out.trans (stepV_bad (by rw [hform]; rfl))))
            rw [hform] at HCH
            clear hform
            go_wp2_with fail
            refine (HCH.out _).mono ?_
            rintro e w3 ⟨rfl, hb3'⟩
            have B3 := B1.trans (hb3'.mono (Nat.le_trans hwb (by simp)))
            clear M1 HCH e0 e1 e2 e3 d0 d1 d2 d3
            go_wp2_with fail
            go_returns
            exact ⟨by rw [HR.out]; rfl, B2.trans (B3.mono HB)⟩
          | true =>
            have HFO := Lib.hid hform
            rw [hform] at HCH
            have HDO := Lib.hid (fun W (hM : ShMap base W b L) (hB : base ≤ W.heap.size) => do_c base L b o W hM hB hform hod (by omega) hold)
            clear hform
            unfold DidSh at HDO
            have HFD := Lib.hid (filesOk_done hokn HFO.out)
            obtain ⟨td, htd⟩ : ∃ t, toldV (L.map Sh.fl) o = t := ⟨_, rfl⟩
            obtain ⟨nx, hnx⟩ : ∃ t, doneV (L.map Sh.fl) o = t := ⟨_, rfl⟩
            have HTD := Lib.hid htd
            have HNX := Lib.hid hnx
            rw [htd, hnx] at HDO
            rw [hnx] at HFD hdb hdl
            clear htd hnx
            obtain ⟨cv, hcv⟩ : ∃ v, chV o = v := ⟨_, rfl⟩
            simp only [if_true] at HCH
            rw [hcv] at HCH HDO
            clear hcv
            go_wp2_with fail
            refine (HCH.out _).mono ?_
            rintro e w3 ⟨rfl, hb3'⟩
            have B3 := B1.trans (hb3'.mono (Nat.le_trans hwb (by simp)))
            have M3 := M1.next hb3'
            clear M1 HCH e0 e1 e2 e3 d0 d1 d2 d3 B1 hb3'
            go_wp2_with fail
            refine (HDO.out _ M3 (Nat.le_trans hb3 B3.size)).mono ?_
            rintro e w4 ⟨rfl, L2, hL2, M4, B4⟩
            have B5 := B3.trans B4
            clear M3 B3 B4 HDO
            cases td with
            | false =>
              have HR : Hid (diskOk d = false) := Lib.hid (diskOk_step hkq (HST.out.trans (stepV_bad (by rw [HTD.out, Bool.and_false]; rfl))))
              go_wp2_with fail
              go_returns
              exact ⟨by rw [HR.out]; rfl, B2.trans (B5.mono HB)⟩
            | true =>
              have hL2l : L2.length ≤ 61 := by have := congrArg List.length hL2; rw [List.length_map] at this; omega
              have HFI := Lib.hid (fits_c base L2 b w4 M4 (by omega) (by rw [hL2]; omega))
              have hll : L2.length = nx.length := by rw [← hL2, List.length_map]
              rw [hL2, hll, ← HFD.out] at HFI
              have HL2 := Lib.hid hL2
              clear hL2 hll hL2l hdb hdl hold hod
              go_wp2_with fail
              refine HFI.out.mono ?_
              rintro e w5 ⟨rfl, hb5⟩
              have B6 := B5.trans (hb5.mono (Nat.le_trans hb3 B5.size))
              have M6 := M4.next hb5
              clear M4 B5 hb5 HFI
              cases hfx : filesOk nx with
              | false =>
                have HR : Hid (diskOk d = false) := Lib.hid (diskOk_step hkq (HST.out.trans (stepV_bad (by rw [HNX.out, hfx, Bool.and_false]))))
                clear hfx
                go_wp2_with fail
                go_returns
                exact ⟨by rw [HR.out]; rfl, B2.trans (B6.mono HB)⟩
              | true =>
                have HC2 : Hid (chainTo d.safe d.ops (k + 1) = some (L2.map Sh.fl)) := Lib.hid (by rw [HST.out, stepV_good (by rw [HFO.out, HTD.out, HNX.out, hfx]; rfl), HNX.out, HL2.out])
                clear hfx
                go_wp2_with fail
                go_roundw
                case rel => exact ⟨k + 1, L2, by omega, by go_num, HC2, M6, B6⟩
                case measure => simp [RowKit.intOf]; omega
        · have e : k = q := by omega
          have hkn : ¬ (k : Int) < (q : Int) := by omega
          have HR : Hid (diskOk d = sameF (L.map Sh.fl) d.live) := Lib.hid (by
            have h1 := HC.out
            rw [e, HQ.out] at h1
            unfold diskOk
            rw [HF.out, h1, decide_eq_true (by rw [← HQ.out]; exact h200)]
            rfl)
          have hnames := (filesOk_iff.1 hokn).2.1
          have hsml : ∀ e ∈ L, e.name.size ≤ 1099511627776 := fun e he => by
            have := (nmOk_iff.1 (hnames e.fl (List.mem_map_of_mem he))).2
            have h2 : e.fl.name.size = e.name.size := rfl
            omega
          have HFL := Lib.hid (fun W (hM : ShMap base W b L) => files_c base L L.length (Lib.hid rfl) (by omega) hsml b W hM)
          have hlm : (L.map Sh.fl).length ≤ 60 := by rw [List.length_map]; exact hl60
          have hnl : n ≤ 1099511627776 := by have := HS.out.live.1; have := HN.out; omega
          have HEQ := Lib.hid (fun xx cc W h h' => equalF_c (L.map Sh.fl) d.live L.length n (Lib.hid (by rw [List.length_map])) HN (by omega) hnl xx x cc cx W h h')
          unfold OwnFiles at HFL
          have Md := MM.next (below_drewS wr)
          have Bd : Below base w2 wr.drew := hbw.trans ((below_drewS wr).mono hwb)
          have Zd := blk_next (below_drewS wr) Zr
          have hwd : base ≤ wr.drew.heap.size := hwb
          obtain ⟨e0, e1, e2⟩ := three_cellsD Zd
          clear MM e c0 c1 c2 hokn hl60 hbytes hnames hsml hlm hnl hlt
          go_wp2_with fail
          go_region_with (first
            | (go_at_call 53; (with_reducible refine (HFL.out _ Md).mono ?_); rintro e w5 ⟨xf, cf, rfl, hrf, hb5⟩; have Z5 := blk_next hb5 Zd; obtain ⟨a0, a1, a2⟩ := three_cellsD Z5; have B5 := Bd.trans (hb5.mono hwd); have L5 := (HLV.out.below B5).mono (Nat.le_trans hb3 B5.size))
            | (go_at_call 52; (with_reducible refine (HEQ.out _ _ _ hrf.at L5).mono ?_); rintro e w6 ⟨rfl, hb6⟩; have B6 := B5.trans (hb6.mono (Nat.le_trans hb3 B5.size))))
          all_goals
            go_wp2_with fail
            go_returns
            exact ⟨by rw [HR.out]; rfl, B2.trans (B6.mono HB)⟩
    · have g200 : (200 : Int) < (q : Int) := by omega
      have d200 : decide ((200 : Int) < (q : Int)) = true := decide_eq_true g200
      have HR : Hid (diskOk d = false) := Lib.hid (by unfold diskOk; rw [decide_eq_false (by rw [← HQ.out]; exact h200), Bool.false_and, Bool.and_false])
      go_wp2_with fail
      go_returns
      exact ⟨by rw [HR.out]; rfl, B1⟩
end Go.Proofs.Ytgmjdalfbebgbaa
