/- Intervals that are all longer on both sides agree in no fewer: at all drawn intervals. -/
import Derived.Test.YtoejeekepagfcaaWideMath
import Derived.Maps.AppendAt
import Derived.Deep.RegionLaw
namespace Go.Proofs.Ytoejeekepagfcaa
open Go.ChangeShapes Go.WideShapes Go.ChangeAt Go.RowKit
set_option linter.unusedVariables false
set_option linter.unusedSimpArgs false

theorem step_append_ownA {P : Program} {ops : Array Oper} {o : Oper} {a : Act} {w : World} {K : Act → World → Prop} {Q : Exit → Act → World → Prop} {E : Prop} (hgd : o.guard = none) (s x : Operand) (t : TypeId)
    (ho : o.op = .call { callee := .builtin .append, args := #[s, x], argTypes := #[t, t] })
    (base : Nat) (e : TypeId) (i : TypeInfo) (z : Value) (size bytes : Nat) (ht : P.underlying t = some (.slice e)) (hi : P.info? e = some i) (hz : i.zero = some z)
    (hsize : i.size = size) (hby : i.bytes = bytes) (hzs : z.cells.size = size) (hsz : 0 < size)
    (v : Value) (n : Nat) (xs : List Value) (hs : a.eval s = v) (hown : w.ownsRow base e size v n xs)
    (ad : Addr) (m c : Nat) (news : List Value) (hx : a.eval x = .slice (some ad) m c) (hl : news.length = m * size) (hnews : ∀ j u, news[j]? = some u → w.cell? (ad.add j) = some u) (h1 : ∀ u ∈ news, u.oneCell' = true)
    (h63 : n + m ≤ maxLen) (hbytes : (n + m) * bytes ≤ 140737488355328) (hbase : base ≤ w.heap.size)
    (h : ∀ v' w', w'.ownsRow base e size v' (n + m) (xs ++ news) → w.grownBy w' v.ownBlock → (v'.ownBlock = v.ownBlock ∨ v'.ownBlock = some w.heap.size) → K (a.put o.dst v') w') :
    if Region.wanted o (yielded ops a.tmps) = true then Oper.wp P o a w K Q else E := by
  have hw : Region.wanted o (yielded ops a.tmps) = true := by simp [Region.wanted, hgd]
  rw [if_pos hw]
  obtain ⟨v', w', hrun, hown', hgr, _, hloc⟩ := run_append_own_at (P := P) w base t o.type e i z size bytes ht hi hz hsize hby hzs hsz v n xs hown ad m c news hl hnews h1 h63 hbytes hbase
  unfold Oper.wp
  simp [execOp, ho, resolve, invoke, builtin, hs, hx, hrun, Result.andThen]
  exact h v' w' hown' hgr hloc
theorem agr_ok {l : List Iv} {lo hi M : Int} (h : Agr l lo hi M) (hM : M ≠ 0) : okIvs l = true := by
  rcases h with ⟨a, _⟩ | ⟨_, _, _, e⟩
  · exact a
  · exact absurd e hM
theorem agr_near {l : List Iv} (hn : ∀ v ∈ l, NearIv v) {lo hi M : Int} (h : Agr l lo hi M) (hM : M ≠ 0) : -20 ≤ lo ∧ lo ≤ 40 ∧ -20 ≤ hi ∧ hi ≤ 40 := by
  have ho := (okIvs_parts (agr_ok h hM)).1
  rcases h with ⟨_, _, c⟩ | ⟨_, _, _, e⟩
  · obtain ⟨v, hv, e⟩ := c.from_
    obtain ⟨u, hu, _, e2⟩ := c.end_
    have a := near_bounds hn ho hv
    have b := near_bounds hn ho hu
    omega
  · exact absurd e hM
theorem flatIv_more (f : Iv → Iv) {l : List Iv} {k : Nat} {v : Iv} (h : l[k]? = some v) : flatIv ((l.take (k + 1)).map f) = flatIv ((l.take k).map f) ++ [.int .i64 (f v).lo, .int .i64 (f v).hi] := by
  rw [take_next h, List.map_append, flatIv_append]
  rfl
set_option maxRecDepth 100000 in
set_option maxHeartbeats 4000000 in
theorem wd_walk (w : World) (x : Option Addr) (n cap z : Nat) (hz : z = n ∧ Code w.heap.size w (.slice x n cap) n) :
    Calls Try.prog 12 #[.slice x n cap] w fun e w' => e = .returned (.bool true) ∧ Below w.heap.size w w' := by
  obtain ⟨_, hc⟩ := hz
  by_cases hbig : n ≤ 1048576
  · obtain ⟨i0, hi, hz0, hz1, hz2⟩ := info_partsT infoIv'
    have HI0 := Lib.hid hi
    have HZ0 := Lib.hid hz0
    have HZ1 := Lib.hid hz1
    have HZ2 := Lib.hid hz2
    clear hi hz0 hz1 hz2
    go_enter Try.func12, Try.ntmps12
    go_wp2_with (go_at_call 27; go_in)
    refine (drawAgreedN_c x n cap _ hc hbig).mono ?_
    rintro e w1 ⟨y, c, l, rfl, hl8, hnr, hrow, hb1⟩
    have HNR := Lib.hid hnr
    obtain ⟨m, hm⟩ : ∃ m, m = l.length := ⟨_, rfl⟩
    have hm8 : m ≤ 8 := by rw [hm]; exact hl8
    have HM := Lib.hid hm
    rw [← hm]
    clear hm hl8 hnr
    go_wp2_with fail
    refine (agreed_impl l m HM (by omega) y c _ hrow.ivs).mono ?_
    rintro e w2 ⟨lo, hi, M, rfl, hA, hb2⟩
    have HA := Lib.hid hA
    clear hA
    have g2 := grow_next hb1 hb2
    have B2 := blk_new w2 (.cells #[.int .i64 lo, .int .i64 hi] 25)
    have r2 := (hrow.next hb2).next (below_new w2 (.cells #[.int .i64 lo, .int .i64 hi] 25))
    have g2' : Below w.heap.size w (w2.alloc (.cells #[.int .i64 lo, .int .i64 hi] 25)) := g2.alloc (by have := g2.size; omega) _
    clear hrow hb1 hb2
    go_wp2_with fail
    refine (agreed_spec l m HM (by omega) y c _ r2.ivs).mono ?_
    rintro e w3 ⟨lo', hi', M', rfl, hA', hb3⟩
    obtain ⟨e1, e2, e3⟩ := HA.out.same hA'
    subst e1 e2 e3
    clear hA'
    have g3 := grow_next g2' hb3
    have B3 := blk_next hb3 B2
    have l3 := (Array.getElem?_eq_some_iff.1 B3).1
    obtain ⟨b0, b1⟩ := iv_cells (q := ⟨lo, hi⟩) B3
    have C3 := blk_new w3 (.cells #[.int .i64 lo, .int .i64 hi] 25)
    obtain ⟨c0, c1⟩ := iv_cells (q := ⟨lo, hi⟩) C3
    dsimp only at b0 b1 c0 c1
    have B3' := blk_alloc B3 (.cells #[.int .i64 lo, .int .i64 hi] 25)
    have r3 := (r2.next hb3).next (below_new w3 (.cells #[.int .i64 lo, .int .i64 hi] 25))
    have g3' : Below w.heap.size w (w3.alloc (.cells #[.int .i64 lo, .int .i64 hi] 25)) := g3.alloc (by have := g3.size; omega) _
    clear g2 g2' g3 r2 hb3 B2 B3 C3
    by_cases hM : M = 0
    · have hM1 : (M == 0) = true := by simp [hM]
      clear hM
      go_wp2_with fail
      go_returns
      exact ⟨by simp, g3'⟩
    · have hM1 : (M == 0) = false := by simp [hM]
      have HM0 := Lib.hid hM
      obtain ⟨q, hq⟩ : ∃ q : Nat, q = n % 9 := ⟨_, rfl⟩
      have hq8 : q ≤ 8 := by omega
      have hq2 : ((n : Int)).tmod 9 = (q : Int) := by rw [Int.tmod_eq_emod_of_nonneg (by omega), hq]; omega
      have hq3 : IntKind.i64.wrap (q : Int) = (q : Int) := IntWalk.i64_in _ (by omega)
      have hM' := hM
      clear hM hq
      have HOK := Lib.hid (agr_ok HA.out hM')
      clear hM'
      go_wp2_with fail
      clear b0 b1 c0 c1 l3
      generalize hW4 : w3.alloc (.cells #[.int .i64 lo, .int .i64 hi] 25) = W4 at *
      have hs4 : W4.heap.size = w3.heap.size + 1 := by rw [← hW4]; simp
      clear hW4
      have R9 := World.ownsRow_made (base := W4.heap.size) (e := 25) (size := 2) W4 #[] 0 (Nat.le_refl _) (by simp [maxLen]) rfl
      have R10 := World.ownsRow_made (base := W4.heap.size) (e := 25) (size := 2) (W4.alloc (.cells #[] 25)) #[] 0 (by simp) (by simp [maxLen]) rfl
      rw [World.size_alloc] at R10
      have R9' := R9.alloc (.cells #[] 25)
      have B4 : Below W4.heap.size W4 ((W4.alloc (.cells #[] 25)).alloc (.cells #[] 25)) := by go_grown
      clear R9
      go_loopw [9, 10, 11] (fun o9 o10 i wr => ∃ k : Nat, k ≤ m ∧ i = .int .i64 k ∧ wr.ownsRow W4.heap.size 25 2 o9 k (flatIv ((l.take k).map (Iv.wide q))) ∧ wr.ownsRow W4.heap.size 25 2 o10 k (flatIv ((l.take k).map (Iv.moved q))) ∧ Hid (∀ g, o9.ownBlock = some g → o10.ownBlock ≠ some g) ∧ Below W4.heap.size W4 wr) (fun _ _ i _ => m - (intOf i).toNat)
      case atStart => exact ⟨0, Nat.zero_le _, rfl, by rw [← hs4]; exact R9', by rw [← hs4]; exact R10, Lib.hid (fun g h1 h2 => by simp only [Value.ownBlock, Option.some.injEq] at h1 h2; omega), B4⟩
      case round =>
        obtain ⟨k, hk, rfl, r9, r10, HD, hb⟩ := hrel
        by_cases hlt : k < m
        · obtain ⟨v, hv⟩ := get_at (l := l) (k := k) (by rw [← HM.out]; exact hlt)
          obtain ⟨b, off, rfl, hbB, d0, d1⟩ := (r3.next hb).ivs.at_ hv
          have hnb := near_bounds HNR.out (okIvs_parts HOK.out).1 (List.mem_of_getElem? hv)
          have hw1 : IntKind.i64.wrap (v.lo - (q : Int)) = v.lo - (q : Int) := IntWalk.i64_in _ (by omega)
          have hw2 : IntKind.i64.wrap (v.hi + (q : Int)) = v.hi + (q : Int) := IntWalk.i64_in _ (by omega)
          have hw3 : IntKind.i64.wrap (v.lo + (q : Int)) = v.lo + (q : Int) := IntWalk.i64_in _ (by omega)
          have HF9 := Lib.hid (flatIv_more (Iv.wide q) hv)
          have HF10 := Lib.hid (flatIv_more (Iv.moved q) hv)
          have hsw := hb.size
          have HV := Lib.hid hv
          have H10 := Lib.hid r10
          have O9 := Lib.hid ((r9.alloc (.cells #[.int .i64 (v.lo - (q : Int)), .int .i64 (v.hi + (q : Int))] 25)).drew)
          have BY : Below W4.heap.size W4 (wr.alloc (.cells #[.int .i64 (v.lo - (q : Int)), .int .i64 (v.hi + (q : Int))] 25)).drew := below_drewR (hb.alloc hsw _)
          have N9 := Lib.hid (show ∀ j z, [Value.int .i64 (v.lo - (q : Int)), .int .i64 (v.hi + (q : Int))][j]? = some z → (wr.alloc (.cells #[.int .i64 (v.lo - (q : Int)), .int .i64 (v.hi + (q : Int))] 25)).drew.cell? ((⟨wr.heap.size, 0, none⟩ : Addr).add j) = some z from cell_two_new wr _ _ _)
          clear hv hnb r9 r10
          go_wp2_with fail
          go_region_law (refine step_append_ownA rfl _ _ 28 rfl W4.heap.size 25 i0 (.agg #[.int .i64 0, .int .i64 0]) 2 16 Try.underlying28 HI0.out HZ0.out HZ1.out HZ2.out rfl (by decide) u9 k (flatIv ((l.take k).map (Iv.wide q))) (by simp [Act.eval, Act.put]) O9.out ⟨wr.heap.size, 0, none⟩ 1 1 [.int .i64 (v.lo - (q : Int)), .int .i64 (v.hi + (q : Int))] (by simp [Act.eval, Act.put]) rfl N9.out (by simp [Value.oneCell']) (by unfold maxLen; omega) (by omega) BY.size ?_; intro v9 w9 hown9 hgrow9 hloc9)
          all_goals
            have b9 : Below W4.heap.size W4 w9 := BY.grown hgrow9 BY.size (fun g hg => (O9.out.lt g hg).1)
            obtain ⟨b', off', e', hbB', d0', d1'⟩ := (r3.next b9).ivs.at_ HV.out
            simp only [Option.some.injEq, Addr.mk.injEq] at e'
            obtain ⟨rfl, rfl, _⟩ := e'
            have ho10 : u10.ownBlock = none ∨ u10.ownBlock ≠ u9.ownBlock := by
              cases h : u10.ownBlock with
              | none => exact .inl rfl
              | some g => exact .inr (fun e => HD.out g e.symm h)
            have r10 := ((H10.out.alloc (.cells #[.int .i64 (v.lo - (q : Int)), .int .i64 (v.hi + (q : Int))] 25)).drew).kept hgrow9 ho10
            have HD9 : Hid (∀ g, u10.ownBlock = some g → v9.ownBlock ≠ some g ∧ g < w9.heap.size) := Lib.hid (fun g h => by
              refine ⟨fun e => ?_, (r10.lt g h).2⟩
              rcases hloc9 with h9 | h9
              · rw [h9] at e; exact HD.out g e h
              · rw [h9] at e
                have := (H10.out.lt g h).2
                have h2 := Option.some.inj e
                have h3 : (wr.alloc (.cells #[.int .i64 (v.lo - (q : Int)), .int .i64 (v.hi + (q : Int))] 25)).drew.heap.size = wr.heap.size + 1 := World.size_alloc _ _
                omega)
            have hsw9 := b9.size
            have O10 := Lib.hid ((r10.alloc (.cells #[.int .i64 (v.lo + (q : Int)), .int .i64 (v.hi + (q : Int))] 25)).drew)
            have H9 := Lib.hid hown9
            have BZ : Below W4.heap.size W4 (w9.alloc (.cells #[.int .i64 (v.lo + (q : Int)), .int .i64 (v.hi + (q : Int))] 25)).drew := below_drewR (b9.alloc hsw9 _)
            have N10 := Lib.hid (show ∀ j z, [Value.int .i64 (v.lo + (q : Int)), .int .i64 (v.hi + (q : Int))][j]? = some z → (w9.alloc (.cells #[.int .i64 (v.lo + (q : Int)), .int .i64 (v.hi + (q : Int))] 25)).drew.cell? ((⟨w9.heap.size, 0, none⟩ : Addr).add j) = some z from cell_two_new w9 _ _ _)
            clear hloc9 hgrow9 hown9 r10 ho10 N9 O9 HD d0 d1
            go_wp2_with fail
            go_region_law (refine step_append_ownA rfl _ _ 28 rfl W4.heap.size 25 i0 (.agg #[.int .i64 0, .int .i64 0]) 2 16 Try.underlying28 HI0.out HZ0.out HZ1.out HZ2.out rfl (by decide) u10 k (flatIv ((l.take k).map (Iv.moved q))) (by simp [Act.eval, Act.put]) O10.out ⟨w9.heap.size, 0, none⟩ 1 1 [.int .i64 (v.lo + (q : Int)), .int .i64 (v.hi + (q : Int))] (by simp [Act.eval, Act.put]) rfl N10.out (by simp [Value.oneCell']) (by unfold maxLen; omega) (by omega) BZ.size ?_; intro v10 w10 hown10 hgrow10 hloc10)
            all_goals
              have b10 : Below W4.heap.size W4 w10 := BZ.grown hgrow10 BZ.size (fun g hg => (O10.out.lt g hg).1)
              have hne9 : v9.ownBlock = none ∨ v9.ownBlock ≠ u10.ownBlock := by
                cases h : v9.ownBlock with
                | none => exact .inl rfl
                | some g => exact .inr (fun e => (HD9.out g e.symm).1 h)
              have hown9' := ((H9.out.alloc (.cells #[.int .i64 (v.lo + (q : Int)), .int .i64 (v.hi + (q : Int))] 25)).drew).kept hgrow10 hne9
              have HDN : Hid (∀ g, v9.ownBlock = some g → v10.ownBlock ≠ some g) := Lib.hid (fun g h e => by
                rcases hloc10 with h7 | h7
                · rw [h7] at e; exact (HD9.out g e).1 h
                · rw [h7] at e
                  have := (H9.out.lt g h).2
                  have h2 := Option.some.inj e
                  have h3 : (w9.alloc (.cells #[.int .i64 (v.lo + (q : Int)), .int .i64 (v.hi + (q : Int))] 25)).drew.heap.size = w9.heap.size + 1 := World.size_alloc _ _
                  omega)
              clear hne9 hloc10 hgrow10 HD9
              go_wp2_with fail
              go_roundw
              case rel => exact ⟨k + 1, by omega, by go_num, by rw [HF9.out]; exact hown9', by rw [HF10.out]; exact hown10, HDN, b10⟩
              case measure => simp [intOf]; omega
        · have hkm : k = m := by omega
          subst hkm
          have e : l.take k = l := by rw [HM.out, List.take_length]
          rw [e] at r9 r10
          obtain ⟨u, cu, rfl⟩ := ownsRow_formT r9
          obtain ⟨u', cu', rfl⟩ := ownsRow_formT r10
          have HL9 : Hid (k = (l.map (Iv.wide q)).length) := Lib.hid (by rw [List.length_map]; exact HM.out)
          have HL10 : Hid (k = (l.map (Iv.moved q)).length) := Lib.hid (by rw [List.length_map]; exact HM.out)
          have hrow9 : IvRow W4.heap.size wr u cu (l.map (Iv.wide q)) := by
            unfold IvRow
            rw [← HL9.out]
            exact r9
          have hrow10 : IvRow W4.heap.size wr u' cu' (l.map (Iv.moved q)) := by
            unfold IvRow
            rw [← HL10.out]
            exact r10
          have g4 := grow_next g3' hb
          have Bw := blk_next hb B3'
          clear e r9 r10 HD hb
          go_wp2_with fail
          refine (agreed_impl (l.map (Iv.wide q)) k HL9 (by omega) u cu _ hrow9.ivs).mono ?_
          rintro e w5 ⟨lo', hi', M', rfl, hA', hb5⟩
          have hge := agr_wide HNR.out HA.out HM0.out q (by omega) (by omega) hA'
          have hge1 : decide (M ≤ M') = true := decide_eq_true hge
          have B5 := below_new w5 (.cells #[.int .i64 lo', .int .i64 hi'] 25)
          have b5 := grow_next hb5 B5
          have g5 := grow_next g4 b5
          have Bw5 := blk_next b5 Bw
          have row5 := hrow10.next b5
          clear hA' hge hb5 B5 b5 g4 Bw hrow9 hrow10
          go_wp2_with fail
          generalize w5.alloc (.cells #[.int .i64 lo', .int .i64 hi'] 25) = W5 at *
          refine (agreed_impl (l.map (Iv.moved q)) k HL10 (by omega) u' cu' _ row5.ivs).mono ?_
          rintro e w6 ⟨lo2, hi2, M2, rfl, hA2, hb6⟩
          obtain ⟨e1, e2, e3⟩ := (agr_moved HNR.out HA.out HM0.out q (by omega) (by omega)).same hA2
          subst e1 e2 e3
          clear hA2
          obtain ⟨hl0, hl1, hh0, hh1⟩ := agr_near HNR.out HA.out HM0.out
          have hw1 : IntKind.i64.wrap (lo + (q : Int)) = lo + (q : Int) := IntWalk.i64_in _ (by omega)
          have hw2 : IntKind.i64.wrap (hi + (q : Int)) = hi + (q : Int) := IntWalk.i64_in _ (by omega)
          have Bw6 := blk_next hb6 Bw5
          have l6 := (Array.getElem?_eq_some_iff.1 Bw6).1
          have g6 := grow_next g5 hb6
          have C6 := blk_new w6 (.cells #[.int .i64 (lo + (q : Int)), .int .i64 (hi + (q : Int))] 25)
          have g6' : Below w.heap.size w (w6.alloc (.cells #[.int .i64 (lo + (q : Int)), .int .i64 (hi + (q : Int))] 25)) := g6.alloc g6.size _
          obtain ⟨b0, b1⟩ := iv_cells (q := ⟨lo, hi⟩) Bw6
          obtain ⟨c0, c1⟩ := iv_cells (q := ⟨lo + (q : Int), hi + (q : Int)⟩) C6
          dsimp only at b0 b1 c0 c1
          go_wp2_with fail
          go_returns
          exact ⟨by simp, g6'⟩
  · go_enter Try.func12, Try.ntmps12
    go_wp2_with (go_at_call 27; go_in)
    go_returns
    exact ⟨rfl, Below.refl _ _⟩
set_option maxRecDepth 100000 in
theorem wd_lifted (os : Os) (started : os.Started) (H : Type) (enc : TypeId × Value → H) :
    ReturnsInHanded {} Try.checked os 12 .any (Rows.fnWiderSpec.pre6 enc Try.prog Try.f12 Rows.fnWiderRow.domain false) (Rows.fnWiderSpec.post enc Try.prog Try.f12 false true false false) := by
  refine lifted_of_walk (C := Try.checked) own started (by as_aux_lemma => kernel_rfl) Try.func12
    (ChangeSpec.witness6 (enc := enc) (C := Try.checked) false ⟨#[], #[.slice none 0 0], []⟩ 8 (by as_aux_lemma => kernel_rfl) (by as_aux_lemma => kernel_rfl) (by as_aux_lemma => kernel_rfl) (by as_aux_lemma => kernel_rfl) (by as_aux_lemma => kernel_rfl))
    laidOut rfl (by as_aux_lemma => kernel_rfl) (by as_aux_lemma => kernel_rfl) boolType
    (fun ds h => by
      match ds, h with
      | [_], _ => rfl)
    ?_
  intro W base args ds q hval hA
  rw [Try.params12] at hA hval
  obtain ⟨v0, vs0, d0, ds0, p0, q0, hargs, rfl, rfl, h0, r0⟩ := trodAll_cons hA
  obtain ⟨rfl, rfl, rfl⟩ := trodAll_nil r0
  obtain rfl : args = #[v0] := by cases args; simp_all
  obtain ⟨a0, len0, cap0, z0, rfl, w0⟩ := open_bytes Try.underlying40 Try.underlying5 (by as_aux_lemma => kernel_rfl) (hval 0 40 v0 rfl rfl) h0
  exact wd_walk W a0 len0 cap0 z0 w0

theorem wd_facts : joinedFacts Try.pinned.checked.prog 12 Try.f12 Rows.fnWiderSpec Rows.fnWiderRow = true :=
  facts_of (P := Try.prog) (by as_aux_lemma => kernel_rfl) laidOut mapsRow (by as_aux_lemma => kernel_rfl) (by as_aux_lemma => kernel_rfl) rfl noStops rfl noKnobs (by as_aux_lemma => kernel_rfl) (by as_aux_lemma => kernel_rfl) (by as_aux_lemma => kernel_rfl) (by as_aux_lemma => kernel_rfl) (by as_aux_lemma => kernel_rfl) (by as_aux_lemma => kernel_rfl) (by as_aux_lemma => kernel_rfl) (by as_aux_lemma => kernel_rfl) (by as_aux_lemma => kernel_rfl) rfl (by as_aux_lemma => kernel_rfl) (by as_aux_lemma => kernel_rfl) (by as_aux_lemma => kernel_rfl) keysPlain rfl heard enters finals isMake rfl rfl rfl (by as_aux_lemma => kernel_rfl) (by as_aux_lemma => kernel_rfl)

/-- The given statement. -/
theorem wd_holds : Rows.FnWiderSaid :=
  OpenClaim.holds_of_wide 12 Try.f12 rfl rfl rfl rfl rfl rfl rfl ⟨rfl, rfl, rfl, rfl, rfl⟩ rfl rfl rfl rfl rfl (by as_aux_lemma => kernel_rfl) Try.func12 wd_facts
    (of_decide_eq_true (by as_aux_lemma => kernel_rfl)) (by unfold Func.isWrapper; first | (rw [if_pos (by decide +kernel)]; kernel_rfl) | (rw [if_neg (by decide +kernel)]; exact ⟨rfl, rfl⟩))
    (fun os started H enc _ => wd_lifted os started H enc)
#print axioms wd_holds
end Go.Proofs.Ytoejeekepagfcaa
