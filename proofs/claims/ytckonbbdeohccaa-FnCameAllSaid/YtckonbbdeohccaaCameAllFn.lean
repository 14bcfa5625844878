/- Who comes one behind the other is told as by itself; in two pieces it is the same: at every drawn limiter, clients and times, cut where the code's length says. -/
import Derived.Test.YtckonbbdeohccaaAllMore
import Derived.Test.YtckonbbdeohccaaCameAllS
import Derived.Test.YtckonbbdeohccaaDrawAll
import Derived.Test.YtckonbbdeohccaaScore
import Derived.Test.YtckonbbdeohccaaSameNd
import Derived.Deep.RegionWith
import Derived.Deep.Cut
import Derived.Deep.CutRange
namespace Go.Proofs.Ytckonbbdeohccaa
open Go.ChangeShapes Go.WideShapes Go.ChangeAt Go.RowKit Go.Sort
set_option linter.unusedVariables false
set_option linter.unusedSimpArgs false
set_option maxRecDepth 100000

/-- What lies for good: two boxes with limiters, their rows, two rows of numbers. -/
structure EA (W wr : World) (p q : Nat) (x : Option Addr) (cx : Nat) (l : List Cl) (y : Option Addr) (cy : Nat) (ids : List Int) (z : Option Addr) (cz : Nat) (D : List Cl) (t : Option Addr) (ct : Nat) (C : List Int) : Prop where
  low : Below W.heap.size W wr
  bp : wr.heap[p]? = some (.cells #[.slice x l.length cx] 28)
  bq : wr.heap[q]? = some (.cells #[.slice z D.length cz] 28)
  rl : ClRow W.heap.size wr x cx l
  ri : IRow W.heap.size wr y cy ids
  rn : ClRow W.heap.size wr z cz D
  rc : IRow W.heap.size wr t ct C
/-- A box with a limiter, its row, a row of numbers. -/
structure BX (W wr : World) (p : Nat) (x : Option Addr) (cx : Nat) (l : List Cl) (y : Option Addr) (cy : Nat) (C : List Int) : Prop where
  bp : wr.heap[p]? = some (.cells #[.slice x l.length cx] 28)
  rl : ClRow W.heap.size wr x cx l
  ri : IRow W.heap.size wr y cy C
section
variable {W wr w' : World} {p q r : Nat} {x : Option Addr} {cx : Nat} {l : List Cl} {y : Option Addr} {cy : Nat} {ids : List Int} {z : Option Addr} {cz : Nat} {D : List Cl} {t : Option Addr} {ct : Nat} {C : List Int}
theorem EA.next (h : EA W wr p q x cx l y cy ids z cz D t ct C) (hb : Below wr.heap.size wr w') : EA W w' p q x cx l y cy ids z cz D t ct C :=
  ⟨grow_next h.low hb, blk_next hb h.bp, blk_next hb h.bq, h.rl.next hb, h.ri.next hb, h.rn.next hb, h.rc.next hb⟩
theorem BX.next (h : BX W wr p x cx l y cy C) (hb : Below wr.heap.size wr w') : BX W w' p x cx l y cy C :=
  ⟨blk_next hb h.bp, h.rl.next hb, h.ri.next hb⟩
theorem row_box {b : Nat} (h : ClRow b wr x cx l) {u v : Value} (hN : wr.heap[r]? = some (.cells #[u] 28)) : ClRow b (wr.setCell ⟨r, 0, none⟩ v) x cx l :=
  h.keep (row := some r) (grown_setC (World.grownBy.refl wr _) 0 v) (fun g e e2 => (e ▸ h).ne_box hN (by simpa using e2.symm))
theorem ints_box {b : Nat} (h : IRow b wr y cy C) {u v : Value} (hN : wr.heap[r]? = some (.cells #[u] 28)) : IRow b (wr.setCell ⟨r, 0, none⟩ v) y cy C :=
  h.keep (row := some r) (grown_setC (World.grownBy.refl wr _) 0 v) (fun g e e2 => int_ne_box h hN g (by rw [e]; rfl) (by simpa using e2))
theorem EA.set (h : EA W wr p q x cx l y cy ids z cz D t ct C) {u : Value} (h0 : W.heap.size ≤ r) (h1 : p ≠ r) (h2 : q ≠ r) (hN : wr.heap[r]? = some (.cells #[u] 28)) (v : Value) : EA W (wr.setCell ⟨r, 0, none⟩ v) p q x cx l y cy ids z cz D t ct C :=
  ⟨below_setCell h.low h0 0 _, blk_other h.bp (b' := r) (by omega) 0 v, blk_other h.bq (b' := r) (by omega) 0 v, row_box h.rl hN, ints_box h.ri hN, row_box h.rn hN, ints_box h.rc hN⟩
theorem BX.set (h : BX W wr p x cx l y cy C) {u : Value} (h1 : p ≠ r) (hN : wr.heap[r]? = some (.cells #[u] 28)) (v : Value) : BX W (wr.setCell ⟨r, 0, none⟩ v) p x cx l y cy C :=
  ⟨blk_other h.bp (b' := r) (by omega) 0 v, row_box h.rl hN, ints_box h.ri hN⟩
end
theorem mod_nat (n m : Nat) : (n : Int) % ((m : Int) + 1) = ((n % (m + 1) : Nat) : Int) := by simp
/-- Parts of a row of one's own, as slices. -/
theorem parts_c {b : Nat} {W : World} {x : Option Addr} {cap : Nat} {l : List Int} (h : IRow b W x cap l) {k m : Nat} (hm : m = l.length) (hk : k ≤ m) :
    (∀ W, (Instr.sliceAt 35 (.slice x m cap) none (some (.int .i64 (k : Int))) none).run Try.prog W = .ok (.slice x k cap) W) ∧
    ∃ X : Option Addr, (∀ W, (Instr.sliceAt 35 (.slice x m cap) (some (.int .i64 (k : Int))) none none).run Try.prog W = .ok (.slice X (m - k) (cap - k)) W) ∧ ∀ B W, IntsAt B W x l → IntsAt B W X (l.drop k) := by
  obtain ⟨c1, c2⟩ := h.cap_
  refine ⟨fun W => ?_, (if cap = k then x else x.map (·.add k)), fun W => ?_, fun B W hi => hi.drop c1 k⟩
  · have := run_uptoI (W := W) x m cap k k rfl hk (by omega)
    rw [this]
    rcases h.own_ with e | ⟨g, e⟩
    · subst e; simp
    · subst e; simp [Addr.add]
  · exact run_fromI x m cap k k rfl hk (by omega)
set_option maxHeartbeats 8000000 in
theorem fcameall_walk (w : World) (x : Option Addr) (n cap z : Nat) (hz : z = n ∧ Code w.heap.size w (.slice x n cap) n) :
    Calls Try.prog 8 #[.slice x n cap] w fun e w' => e = .returned (.bool true) ∧ Below w.heap.size w w' := by
  obtain ⟨_, hc⟩ := hz
  by_cases hbig : n ≤ 1048576
  · have hbi : decide ((1048576 : Int) < (n : Int)) = false := decide_eq_false (by omega)
    obtain ⟨i0, hi0, hz0, hz1, hz2⟩ := info_partsT infoI64'
    have HI0 := Lib.hid hi0
    have HZ0 := Lib.hid hz0
    have HZ1 := Lib.hid hz1
    have HZ2 := Lib.hid hz2
    clear hi0 hz0 hz1 hz2
    go_enter Try.func8, Try.ntmps8
    go_wp2_with (go_at_call 26; go_in)
    refine (drawCameAll_c x n cap _ hc hbig).mono ?_
    rintro e w1 ⟨y, cy, l, yi, ci, ids, t, g, rfl, hl50, hi11, t0, t1, g0, g1, hrow, hri, hb1⟩
    obtain ⟨m, hm⟩ : ∃ m, m = ids.length := ⟨_, rfl⟩
    have HM := Lib.hid hm
    have hlm : l.length ≤ maxLen := by unfold maxLen; omega
    have him : ids.length ≤ maxLen := by unfold maxLen; omega
    have HCI := Lib.hid (fun W h h' => cameAll_impl l ids l.length m (Lib.hid rfl) HM hlm (by rw [hm]; exact him) t g (by omega) (by omega) y yi cy ci W h h')
    have HCS := Lib.hid (fun a W h h' => cameAll_spec l ids l.length m (Lib.hid rfl) HM hlm (by rw [hm]; exact him) t g (by omega) (by omega) y yi cy ci a W h h')
    have HCS := Lib.hid (HCS.out hrow.nil_)
    have HLS := Lib.hid (fun W h => limOk_spec l l.length (Lib.hid rfl) hlm y cy W h)
    obtain ⟨A, hA⟩ : ∃ A, resA l ids t g = A := ⟨_, rfl⟩
    obtain ⟨C, hC⟩ : ∃ C, resT l ids t g = C := ⟨_, rfl⟩
    have hA50 := resA_50 l ids t g
    have hC200 := resT_200 l ids t g
    rw [hA, hC] at HCI HCS
    rw [hA] at hA50
    rw [hC] at hC200
    unfold AllOut at HCI HCS
    have HA := Lib.hid hA
    have HC := Lib.hid hC
    have HSM := Lib.hid (fun a b ca cb W h h' => sameLimiter_c A A.length (Lib.hid rfl) (by unfold maxLen; omega) a b ca cb W h h')
    have HSI := Lib.hid (fun a b ca cb W h h' => sameIntsM_c C C.length (Lib.hid rfl) (by omega) a b ca cb W h h')
    have Z2 := blk_new w1 (.cells #[.slice y l.length cy] 28)
    have G2 := hb1.alloc hb1.size (.cells #[.slice y l.length cy] 28)
    have R2 := hrow.next (below_new w1 (.cells #[.slice y l.length cy] 28))
    have I2 := hri.next (below_new w1 (.cells #[.slice y l.length cy] 28))
    rw [← hm] at hi11 ⊢
    clear hc hrow hri hb1 hlm him hA hC hm
    go_upto_region 4 with (fail)
    obtain ⟨W2, hW2⟩ : ∃ W, W = w1.alloc (.cells #[.slice y l.length cy] 28) := ⟨_, rfl⟩
    obtain ⟨p, hp⟩ : ∃ p, w1.heap.size = p := ⟨_, rfl⟩
    rw [hp] at Z2
    rw [← hW2] at Z2 G2 R2 I2
    rw [← hW2]
    try rw [hp]
    clear hW2 hp
    have c3 := (one_cell Z2).1
    go_wp2_with fail
    refine (HCI.out _ R2.cls I2.ints).mono ?_
    rintro e w3 ⟨z, cz, s, cs, rfl, hrz, hrs, hb3⟩
    have S4 : EA w (w3.alloc (.cells #[.slice z A.length cz] 28)) p w3.heap.size y cy l yi ci ids z cz A s cs C :=
      ⟨(grow_next G2 hb3).alloc (grow_next G2 hb3).size _, blk_alloc (blk_next hb3 Z2) _, blk_new w3 _, (R2.next hb3).next (below_new w3 _), (I2.next hb3).next (below_new w3 _), ownsRow_base_le (hrz.next (below_new w3 _)) G2.size, ownsRow_base_le (hrs.next (below_new w3 _)) G2.size⟩
    have hpq : p < w3.heap.size := (Array.getElem?_eq_some_iff.1 (blk_next hb3 Z2)).1
    clear Z2 G2 R2 I2 hrz hrs hb3 c3
    go_upto_region 5 with (fail)
    obtain ⟨W4, hW4⟩ : ∃ W, W = w3.alloc (.cells #[.slice z A.length cz] 28) := ⟨_, rfl⟩
    obtain ⟨q, hq⟩ : ∃ p, w3.heap.size = p := ⟨_, rfl⟩
    rw [hq] at S4 hpq
    rw [← hW4] at S4
    rw [← hW4]
    try rw [hq]
    clear hW4 hq
    have c3 := (one_cell S4.bp).1
    go_wp2_with fail
    refine (HCS.out _ S4.rl.cls S4.ri.ints).mono ?_
    rintro e w5 ⟨u, cu, v, cv, rfl, hru, hrv, hb5⟩
    have S6 := (S4.next hb5).next (below_new w5 (.cells #[.slice u A.length cu] 28))
    have X6 : BX w (w5.alloc (.cells #[.slice u A.length cu] 28)) w5.heap.size u cu A v cv C := ⟨blk_new w5 _, ownsRow_base_le (hru.next (below_new w5 _)) S4.low.size, ownsRow_base_le (hrv.next (below_new w5 _)) S4.low.size⟩
    clear S4 hru hrv hb5 c3 HCI HCS
    go_upto_region 6 with (fail)
    obtain ⟨W6, hW6⟩ : ∃ W, W = w5.alloc (.cells #[.slice u A.length cu] 28) := ⟨_, rfl⟩
    obtain ⟨r, hr⟩ : ∃ p, w5.heap.size = p := ⟨_, rfl⟩
    rw [hr] at X6
    rw [← hW6] at S6 X6
    rw [← hW6]
    try rw [hr]
    clear hW6 hr
    have c7 := (one_cell S6.bq).1
    have c9 := (one_cell X6.bp).1
    have c3 := (one_cell S6.bp).1
    go_wp2_with fail
    refine (HSM.out z u cz cu _ S6.rn.cls X6.rl.cls).mono ?_
    rintro e w7 ⟨rfl, hb7⟩
    have S7 := S6.next hb7
    have X7 := X6.next hb7
    clear S6 X6 c3 c7 c9 hb7
    have c7 := (one_cell S7.bq).1
    have c9 := (one_cell X7.bp).1
    have c3 := (one_cell S7.bp).1
    go_wp2_with fail
    refine (HSI.out s v cs cv _ S7.rc.ints X7.ri.ints).mono ?_
    rintro e w8 ⟨rfl, hb8⟩
    have S8 := S7.next hb8
    have X8 := X7.next hb8
    clear S7 X7 c3 c7 c9 hb8
    have c7 := (one_cell S8.bq).1
    have c9 := (one_cell X8.bp).1
    have c3 := (one_cell S8.bp).1
    go_wp2_with fail
    refine (HLS.out _ S8.rl.cls).mono ?_
    rintro e w9 ⟨rfl, hb9⟩
    have S9 := S8.next hb9
    have X9 := X8.next hb9
    clear S8 X8 c3 c7 c9 hb9
    have c7 := (one_cell S9.bq).1
    have c9 := (one_cell X9.bp).1
    have c3 := (one_cell S9.bp).1
    cases ho : limOk l with
    | false =>
      clear ho
      go_wp2_with fail
      refine (HSM.out z u cz cu _ S9.rn.cls X9.rl.cls).mono ?_
      rintro e w10 ⟨rfl, hb10⟩
      have S10 := S9.next hb10
      have X10 := X9.next hb10
      clear S9 X9 c3 c7 c9 hb10
      go_wp2_with fail
      refine (HSI.out s v cs cv _ S10.rc.ints X10.ri.ints).mono ?_
      rintro e w11 ⟨rfl, hb11⟩
      have S11 := S10.next hb11
      go_wp2_with fail
      go_returns
      exact ⟨rfl, S11.low⟩
    | true =>
      have HO := Lib.hid ho
      clear ho X9 c9
      go_wp2_with fail
      rw [mod_nat]
      have hq1 : n % (m + 1) ≤ m := by have := Nat.mod_lt n (show 0 < m + 1 by omega); omega
      obtain ⟨k, hk⟩ : ∃ q, n % (m + 1) = q := ⟨_, rfl⟩
      rw [hk] at hq1 ⊢
      clear hk
      obtain ⟨F1, X, F2, F3⟩ := parts_c S9.ri HM.out hq1
      have HF3 := Lib.hid F3
      have f0 : (0 : Int) ≤ (k : Int) := Int.natCast_nonneg _
      have f1 : (k : Int) ≤ (m : Int) := by omega
      have HTW := Lib.hid (two_pieces (start := t) HO.out (by rw [← HM.out]; omega) g0 (by omega) (by rw [← HM.out]; exact hq1))
      have HK1 := Lib.hid (fun W h h' => cameAll_impl l (ids.take k) l.length k (Lib.hid rfl) (Lib.hid (by rw [List.length_take]; have := HM.out; omega)) (by unfold maxLen; omega) (by unfold maxLen; omega) t g (by omega) (by omega) y yi cy ci W h h')
      obtain ⟨A1, hA1⟩ : ∃ A, resA l (ids.take k) t g = A := ⟨_, rfl⟩
      obtain ⟨T1, hT1⟩ : ∃ A, resT l (ids.take k) t g = A := ⟨_, rfl⟩
      have hA150 := resA_50 l (ids.take k) t g
      have hT1200 := resT_200 l (ids.take k) t g
      rw [hA1] at hA150 HK1 HTW
      rw [hT1] at hT1200 HK1 HTW
      unfold AllOut at HK1
      have hkg : (k : Int) * g ≤ 11 * 5 := Int.mul_le_mul (by omega) (by omega) g0 (by omega)
      have hkg0 : 0 ≤ (k : Int) * g := Int.mul_nonneg (by omega) g0
      have HK2 := Lib.hid (fun xa ca W h h' => cameAll_impl A1 (ids.drop k) A1.length (m - k) (Lib.hid rfl) (Lib.hid (by rw [List.length_drop]; have := HM.out; omega)) (by unfold maxLen; omega) (by unfold maxLen; omega) (t + (k : Int) * g) g (by omega) (by omega) xa X ca (ci - k) W h h')
      rw [HTW.out.1, HA.out] at HK2
      obtain ⟨T2, hT2⟩ : ∃ A, resT A1 (ids.drop k) (t + (k : Int) * g) g = A := ⟨_, rfl⟩
      have hT2200 := resT_200 A1 (ids.drop k) (t + (k : Int) * g) g
      rw [hT2] at HK2 HTW hT2200
      unfold AllOut at HK2
      have hw1 : IntKind.i64.wrap ((k : Int) * g) = (k : Int) * g := IntWalk.i64_in _ (by omega)
      have hw2 : IntKind.i64.wrap (t + (k : Int) * g) = t + (k : Int) * g := IntWalk.i64_in _ (by omega)
      clear hA1 hT1 hT2 F3
      have hbq : q < w9.heap.size := (Array.getElem?_eq_some_iff.1 S9.bq).1
      have hbp : p < w9.heap.size := (Array.getElem?_eq_some_iff.1 S9.bp).1
      have hlow := S9.low.size
      have Sd := S9.next (below_drewL2 w9)
      have Sz := (S9.next (below_new w9 (.cells #[.slice none 0 0] 28))).next (below_drewL2 _)
      have Nz : (w9.alloc (.cells #[.slice none 0 0] 28)).drew.heap[w9.heap.size]? = some (.cells #[.slice none 0 0] 28) := blk_new w9 (.cells #[.slice none 0 0] 28)
      obtain ⟨cd, _⟩ := one_cell Sd.bp
      obtain ⟨ce, _⟩ := one_cell Sz.bp
      obtain ⟨n0, n1⟩ := one_cell Nz
      go_cut [12, 13] from 70 to 79 (fun b c wx => ∃ (r : Nat) (xa : Option Addr) (ca : Nat) (ta : Option Addr) (cta : Nat), b = .pointer (some ⟨r, 0, none⟩) ∧ c = .slice ta T1.length cta ∧ EA w wx p q y cy l yi ci ids z cz A s cs C ∧ BX w wx r xa ca A1 ta cta T1)
      case first =>
        go_region_with (first
          | (go_at_call 20; (with_reducible refine (HK1.out _ Sd.rl.cls (Sd.ri.ints.take k)).mono ?_); rintro e w10 ⟨xa, ca, ta, cta, rfl, hra, hrt, hb10⟩; have E10 := Sd.next hb10; have ra10 : ClRow w.heap.size w10 xa ca A1 := ownsRow_base_le hra Sd.low.size; have rt10 : IRow w.heap.size w10 ta cta T1 := ownsRow_base_le hrt Sd.low.size)
          | (go_at_call 20; (with_reducible refine (HK1.out _ Sz.rl.cls (Sz.ri.ints.take k)).mono ?_); rintro e w10 ⟨xa, ca, ta, cta, rfl, hra, hrt, hb10⟩; have E10 := Sz.next hb10; have ra10 : ClRow w.heap.size w10 xa ca A1 := ownsRow_base_le hra Sz.low.size; have rt10 : IRow w.heap.size w10 ta cta T1 := ownsRow_base_le hrt Sz.low.size; have N10 := blk_next hb10 Nz; obtain ⟨n40, n41⟩ := one_cell N10))
        all_goals
          go_wp2_with fail
          go_meet
          case rel =>
            first
              | exact ⟨_, xa, ca, ta, cta, rfl, rfl, E10.set (by omega) (by omega) (by omega) N10 _, ⟨heap_set N10 0 _, row_box ra10 N10, ints_box rt10 N10⟩⟩
              | exact ⟨_, xa, ca, ta, cta, rfl, rfl, E10.next (below_new w10 _), ⟨blk_new w10 _, ra10.next (below_new w10 _), rt10.next (below_new w10 _)⟩⟩
      case rest =>
      obtain ⟨r1, xa, ca, ta, cta, rfl, rfl, S12, X12⟩ := hcut
      generalize wc = W12 at *
      clear Sd Sz Nz cd ce n0 n1 S9 c7 c3 hbq hbp hlow
      have hbq : q < W12.heap.size := (Array.getElem?_eq_some_iff.1 S12.bq).1
      have hbp : p < W12.heap.size := (Array.getElem?_eq_some_iff.1 S12.bp).1
      have hbr : r1 < W12.heap.size := (Array.getElem?_eq_some_iff.1 X12.bp).1
      have hlow := S12.low.size
      have Sd := S12.next (below_drewL2 W12)
      have Sz := (S12.next (below_new W12 (.cells #[.slice none 0 0] 28))).next (below_drewL2 _)
      have Xd := X12.next (below_drewL2 W12)
      have Xz := (X12.next (below_new W12 (.cells #[.slice none 0 0] 28))).next (below_drewL2 _)
      have Nz : (W12.alloc (.cells #[.slice none 0 0] 28)).drew.heap[W12.heap.size]? = some (.cells #[.slice none 0 0] 28) := blk_new W12 (.cells #[.slice none 0 0] 28)
      obtain ⟨cd, _⟩ := one_cell Xd.bp
      obtain ⟨ce, _⟩ := one_cell Xz.bp
      obtain ⟨n0, n1⟩ := one_cell Nz
      go_upto_region 10 with fail
      go_cut [14, 15] from 80 to 93 (fun b c wx => ∃ (r : Nat) (xb : Option Addr) (cb : Nat) (tb : Option Addr) (ctb : Nat), b = .pointer (some ⟨r, 0, none⟩) ∧ c = .slice tb T2.length ctb ∧ EA w wx p q y cy l yi ci ids z cz A s cs C ∧ BX w wx r1 xa ca A1 ta cta T1 ∧ BX w wx r xb cb A tb ctb T2)
      case first =>
        go_region_with (first
          | (go_at_call 20; (with_reducible refine (HK2.out _ _ _ Xd.rl.cls (HF3.out _ _ Sd.ri.ints)).mono ?_); rintro e w10 ⟨xb, cb, tb, ctb, rfl, hra, hrt, hb10⟩; have E10 := Sd.next hb10; have X10 := Xd.next hb10; have ra10 : ClRow w.heap.size w10 xb cb A := ownsRow_base_le hra Sd.low.size; have rt10 : IRow w.heap.size w10 tb ctb T2 := ownsRow_base_le hrt Sd.low.size)
          | (go_at_call 20; (with_reducible refine (HK2.out _ _ _ Xz.rl.cls (HF3.out _ _ Sz.ri.ints)).mono ?_); rintro e w10 ⟨xb, cb, tb, ctb, rfl, hra, hrt, hb10⟩; have E10 := Sz.next hb10; have X10 := Xz.next hb10; have ra10 : ClRow w.heap.size w10 xb cb A := ownsRow_base_le hra Sz.low.size; have rt10 : IRow w.heap.size w10 tb ctb T2 := ownsRow_base_le hrt Sz.low.size; have N10 := blk_next hb10 Nz; obtain ⟨n40, n41⟩ := one_cell N10))
        all_goals
          go_wp2_with fail
          go_meet
          case rel =>
            first
              | exact ⟨_, xb, cb, tb, ctb, rfl, rfl, E10.set (by omega) (by omega) (by omega) N10 _, X10.set (by omega) N10 _, ⟨heap_set N10 0 _, row_box ra10 N10, ints_box rt10 N10⟩⟩
              | exact ⟨_, xb, cb, tb, ctb, rfl, rfl, E10.next (below_new w10 _), X10.next (below_new w10 _), ⟨blk_new w10 _, ra10.next (below_new w10 _), rt10.next (below_new w10 _)⟩⟩
      case rest =>
      obtain ⟨r2, xb, cb, tb, ctb, rfl, rfl, S13, X13, Y13⟩ := hcut
      generalize wc = W13 at *
      clear Sd Sz Xd Xz Nz cd ce n0 n1 S12 X12 hbq hbp hbr hlow HK1 HK2 F1 F2 HF3 hw1 hw2 hkg hkg0 f0 f1
      have c14 := (one_cell Y13.bp).1
      have c7 := (one_cell S13.bq).1
      go_wp2_with fail
      refine (HSM.out xb z cb cz _ Y13.rl.cls S13.rn.cls).mono ?_
      rintro e w14 ⟨rfl, hb14⟩
      have S14 := S13.next hb14
      have X14 := (X13.next hb14).ri
      have Y14 := (Y13.next hb14).ri
      clear S13 X13 Y13 c14 c7 hb14
      have R15 := World.ownsRow_made (base := w14.heap.size) (e := 2) (size := 1) w14 #[] 0 (Nat.le_refl _) (by simp [maxLen]) rfl
      have S15 := S14.next (below_new w14 (.cells #[] 2))
      have X15 := (X14.next (below_new w14 (.cells #[] 2))).src
      have Y15 := Y14.next (below_new w14 (.cells #[] 2))
      have C15 := S15.rc
      have L15 := S15.low
      have hs15 : w14.heap.size ≤ (w14.alloc (.cells #[] 2)).heap.size := by rw [World.size_alloc]; omega
      have hw14 := S14.low.size
      have hfar : ∀ g, tb = some ⟨g, 0, none⟩ → g < w14.heap.size := Y14.lt
      have hfar2 : ∀ g, s = some ⟨g, 0, none⟩ → g < w14.heap.size := S14.rc.lt
      obtain ⟨t14, ht14⟩ : ∃ t, w14.heap.size = t := ⟨_, rfl⟩
      obtain ⟨W15, hW15⟩ : ∃ W, W = w14.alloc (.cells #[] 2) := ⟨_, rfl⟩
      rw [ht14] at R15 hfar hfar2 hs15 hw14
      rw [← hW15] at R15 X15 Y15 C15 L15 hs15
      have HW15 := Lib.hid hW15
      have HT14 := Lib.hid ht14
      clear hW15 ht14
      have HCC := Lib.hid (show C = T1 ++ T2 from (HTW.out.2.1.trans HC.out).symm)
      have hCm : ((C.length : Int) == (m : Int)) = true := by
        have h1 := HTW.out.2.2.1
        have h2 := HC.out
        have h3 := HM.out
        rw [h2] at h1
        rw [beq_iff_eq, h1, h3]
      have hCl : C.length = T1.length + T2.length := by rw [HCC.out, List.length_append]
      have HCL := Lib.hid hCl
      have B1 : 0 + T1.length ≤ maxLen := by unfold maxLen; omega
      have B2 : (0 + T1.length) * 8 ≤ 140737488355328 := by omega
      have B3 : 0 + T1.length + T2.length ≤ maxLen := by unfold maxLen; omega
      have B4 : (0 + T1.length + T2.length) * 8 ≤ 140737488355328 := by omega
      clear S14 S15 X14 Y14 HTW HC HM hCl
      go_wp2_with (at_builtin; (try rw [HT14.out]); (try rw [← HW15.out]); first
        | (refine wpList_append_anyG rfl _ _ 35 rfl t14 2 i0 (.int .i64 0) 1 8 Try.underlying35 HI0.out HZ0.out HZ1.out HZ2.out rfl (by decide) _ _ _ rfl R15 (.slice ta T1.length cta) T1.length (T1.map (Value.int .i64)) rfl X15 ints_one B1 B2 hs15 ?_; intro v16 w16 hown16 hgr16; have hg16 : W15.grownBy w16 (some t14) := hgr16; have Y16 := Y15.keep hg16 (fun g e e2 => by have := hfar g e; simp only [Option.some.injEq] at e2; omega); have C16 := C15.keep hg16 (fun g e e2 => by have := hfar2 g e; simp only [Option.some.injEq] at e2; omega); have L16 := grow_ownA L15 (u := .slice (some ⟨t14, 0, none⟩) 0 0) hgr16 hw14 (fun g e => by simp only [Value.ownBlock, Option.some.injEq] at e; omega); have hs16 := Nat.le_trans hs15 hg16.size; clear R15 X15 Y15 C15 L15 hgr16 hg16 hs15)
        | (refine wpList_append_anyG rfl _ _ 35 rfl t14 2 i0 (.int .i64 0) 1 8 Try.underlying35 HI0.out HZ0.out HZ1.out HZ2.out rfl (by decide) _ _ _ rfl hown16 (.slice tb T2.length ctb) T2.length (T2.map (Value.int .i64)) rfl Y16.src ints_one B3 B4 hs16 ?_; intro v17 w17 hown17 hgr17; have C17 := C16.keep hgr17 (fun g e e2 => by have := hfar2 g e; have := (hown16.lt g e2.symm).1; omega); have L17 := grow_ownA L16 hgr17 hw14 (fun g e => (hown16.lt g e).1); obtain ⟨xx, cc, rfl, hI⟩ := int_form (T := C) (v := v17) (W := w17) (base := t14) (by rw [HCC.out, List.map_append, List.length_append]; simpa using hown17); clear hown16 Y16 C16 L16 hs16 hown17 hgr17))
      refine (HSI.out xx s cc cs _ hI.ints C17.ints).mono ?_
      rintro e w18 ⟨rfl, hb18⟩
      have L18 := grow_next L17 hb18
      clear hI C17 L17 hb18
      go_wp2_with fail
      go_returns
      exact ⟨rfl, L18⟩
  · have hbi : decide ((1048576 : Int) < (n : Int)) = true := decide_eq_true (by omega)
    go_enter Try.func8, Try.ntmps8
    go_wp2_with (go_at_call 26; go_in)
    go_returns
    exact ⟨rfl, Below.refl _ _⟩
set_option maxRecDepth 100000 in
theorem fcameall_lifted (os : Os) (started : os.Started) (H : Type) (enc : TypeId × Value → H) :
    ReturnsInHanded {} Try.checked os 8 .any (Rows.fnCameAllSpec.pre6 enc Try.prog Try.f8 Rows.fnCameAllRow.domain false) (Rows.fnCameAllSpec.post enc Try.prog Try.f8 false true false false) := by
  refine lifted_of_walk (C := Try.checked) own started (by as_aux_lemma => kernel_rfl) Try.func8
    (ChangeSpec.witness6 (enc := enc) (C := Try.checked) false ⟨#[], #[.slice none 0 0], []⟩ 8 (by as_aux_lemma => kernel_rfl) (by as_aux_lemma => kernel_rfl) (by as_aux_lemma => kernel_rfl) (by as_aux_lemma => kernel_rfl) (by as_aux_lemma => kernel_rfl))
    laidOut rfl (by as_aux_lemma => kernel_rfl) (by as_aux_lemma => kernel_rfl) boolType
    (fun ds h => by
      match ds, h with
      | [_], _ => rfl)
    ?_
  intro W base args ds q hval hA
  rw [Try.params8] at hA hval
  obtain ⟨v0, vs0, d0, ds0, p0, q0, hargs, rfl, rfl, h0, r0⟩ := trodAll_cons hA
  obtain ⟨rfl, rfl, rfl⟩ := trodAll_nil r0
  obtain rfl : args = #[v0] := by cases args; simp_all
  obtain ⟨a0, len0, cap0, z0, rfl, w0⟩ := open_bytes Try.underlying45 Try.underlying5 (by as_aux_lemma => kernel_rfl) (hval 0 45 v0 rfl rfl) h0
  exact fcameall_walk W a0 len0 cap0 z0 w0

set_option maxHeartbeats 4000000 in
theorem fcameall_facts : joinedFacts Try.pinned.checked.prog 8 Try.f8 Rows.fnCameAllSpec Rows.fnCameAllRow = true :=
  facts_of (P := Try.prog) (by as_aux_lemma => kernel_rfl) laidOut mapsRow (by as_aux_lemma => kernel_rfl) (by as_aux_lemma => kernel_rfl) rfl noStops rfl noKnobs (by as_aux_lemma => kernel_rfl) (by as_aux_lemma => kernel_rfl) (by as_aux_lemma => kernel_rfl) (by as_aux_lemma => kernel_rfl) (by as_aux_lemma => kernel_rfl) (by as_aux_lemma => kernel_rfl) (by as_aux_lemma => kernel_rfl) (by as_aux_lemma => kernel_rfl) (by as_aux_lemma => kernel_rfl) rfl (by as_aux_lemma => kernel_rfl) (by as_aux_lemma => kernel_rfl) (by as_aux_lemma => kernel_rfl) keysPlain rfl heard enters finals isMake rfl rfl rfl (by as_aux_lemma => kernel_rfl) (by as_aux_lemma => kernel_rfl)

/-- The given statement. -/
theorem fcameall_holds : Rows.FnCameAllSaid :=
  OpenClaim.holds_of_wide 8 Try.f8 rfl rfl rfl rfl rfl rfl rfl ⟨rfl, rfl, rfl, rfl, rfl⟩ rfl rfl rfl rfl rfl (by as_aux_lemma => kernel_rfl) Try.func8 fcameall_facts
    (of_decide_eq_true (by as_aux_lemma => kernel_rfl)) (by unfold Func.isWrapper; first | (rw [if_pos (by decide +kernel)]; kernel_rfl) | (rw [if_neg (by decide +kernel)]; exact ⟨rfl, rfl⟩))
    (fun os started H enc _ => fcameall_lifted os started H enc)
#print axioms fcameall_holds
end Go.Proofs.Ytckonbbdeohccaa
