/- Who is left of ranked peers: the reference's way. -/
import Derived.Test.YtfcmcelhndppnaaDoorSurvMath
import Derived.Test.YtfcmcelhndppnaaDoorRankS2
import Derived.Deep.RegionLaw
namespace Go.Proofs.YtfcmcelhndppnaaDoor
open Go.ChangeShapes Go.WideShapes Go.ChangeAt Go.RowKit Go.Sort
set_option linter.unusedVariables false
set_option linter.unusedSimpArgs false

theorem l1Abs_c (d : Int) (h0 : -2000000000000 ≤ d) (h1 : d ≤ 2000000000000) (w : World) :
    Calls Tryd.prog 60 #[.int .i64 d] w fun e w' => e = .returned (.int .i64 (max d (-d))) ∧ Below w.heap.size w w' := by
  have hn : IntKind.i64.wrap (-d) = -d := IntWalk.i64_in _ (by omega)
  by_cases h : -d ≤ d
  · have e : max d (-d) = d := by omega
    rw [e]
    have hd : decide (d < -d) = false := decide_eq_false (by omega)
    have hd' : ¬ d < -d := by omega
    go_enter Tryd.func60, Tryd.ntmps60
    go_wp2
    all_goals
      go_returns
      exact ⟨by congr 2 <;> omega, Below.refl _ _⟩
  · have e : max d (-d) = -d := by omega
    rw [e]
    have hd : decide (d < -d) = true := decide_eq_true (by omega)
    have hd' : d < -d := by omega
    go_enter Tryd.func60, Tryd.ntmps60
    go_wp2
    all_goals
      go_returns
      exact ⟨by congr 2 <;> omega, Below.refl _ _⟩

set_option maxHeartbeats 2000000 in
theorem l6Apart_c (p : Pr) (hp : p.s.ok = true) (l : List Pr) (hA : AllSm l) (n : Nat) (hn : Hid (n = l.length)) (hm : n ≤ 100) (x : Option Addr) (cap : Nat) (w : World) (h : Prs w.heap.size w x l) :
    Calls Tryd.prog 46 #[.slice x n cap, .agg #[.int .i64 p.id, .int .i64 p.str, .int .i64 p.s.off, .int .i64 p.s.delay, .int .i64 p.s.disp, .int .i64 p.s.at_]] w fun e w' => e = .returned (.int .i64 (farV p l)) ∧ Below w.heap.size w w' := by
  have hpo := offs_in hp
  have gb : Below w.heap.size w (w.alloc (.cells #[.int .i64 p.id, .int .i64 p.str, .int .i64 p.s.off, .int .i64 p.s.delay, .int .i64 p.s.disp, .int .i64 p.s.at_] 40)) := below_new _ _
  have Q0 := blk_new w (.cells #[.int .i64 p.id, .int .i64 p.str, .int .i64 p.s.off, .int .i64 p.s.delay, .int .i64 p.s.disp, .int .i64 p.s.at_] 40)
  go_enter Tryd.func46, Tryd.ntmps46
  go_wp2
  go_loopw [5, 6] (fun s i wr => ∃ k : Nat, k ≤ n ∧ i = .int .i64 k ∧ s = .int .i64 (farV p (l.take k)) ∧ Below (w.alloc (.cells #[.int .i64 p.id, .int .i64 p.str, .int .i64 p.s.off, .int .i64 p.s.delay, .int .i64 p.s.disp, .int .i64 p.s.at_] 40)).heap.size (w.alloc (.cells #[.int .i64 p.id, .int .i64 p.str, .int .i64 p.s.off, .int .i64 p.s.delay, .int .i64 p.s.disp, .int .i64 p.s.at_] 40)) wr) (fun _ i _ => n - (intOf i).toNat)
  case atStart => exact ⟨0, Nat.zero_le _, rfl, rfl, Below.refl _ _⟩
  case round =>
    obtain ⟨k, hk, rfl, hs, hb0⟩ := hrel
    have hb := grow_next gb hb0
    by_cases hlt : k < n
    · obtain ⟨v, hv⟩ := getP (l := l) (k := k) (by rw [← hn.out]; exact hlt)
      obtain ⟨b, off, rfl, _⟩ := h.at_ hv
      obtain ⟨c0, c1, c2, c3, c4, c5⟩ := prs_cell (h.next hb) hv
      have hvo := offs_in (hA.at_ hv)
      have hF := farV_in hp _ (hA.take k)
      have hlen : (l.take k).length = k := by have := hn.out; simp; omega
      rw [hlen] at hF
      have hN := farV_next (p := p) hv
      obtain ⟨s, hs'⟩ : ∃ s, farV p (l.take k) = s := ⟨_, rfl⟩
      rw [hs'] at hs hF hN
      subst hs
      have hT := apartV_in hpo hvo
      have hD : IntKind.i64.wrap (v.s.off - p.s.off) = v.s.off - p.s.off := IntWalk.i64_in _ (by omega)
      have hC := fun W => l1Abs_c (v.s.off - p.s.off) (by omega) (by omega) W
      rw [show max (v.s.off - p.s.off) (-(v.s.off - p.s.off)) = apartV p.s.off v.s.off by unfold apartV; omega] at hC
      obtain ⟨t, ht⟩ : ∃ t, apartV p.s.off v.s.off = t := ⟨_, rfl⟩
      rw [ht] at hN hT hC
      have HN := Lib.hid hN
      have hw : IntKind.i64.wrap (s + t) = s + t := IntWalk.i64_in _ (by omega)
      obtain ⟨d0, d1, d2, d3, d4, d5⟩ := peer_cells (blk_next hb0 Q0)
      have kx := cell_regrown d2
      have ky := cell_regrown c2
      have KA := Lib.hid (fun d os => Calls.regrown_of (hC (grow (redrawn wr d) os)))
      clear hv hvo hF hlen hN hs' hT hC ht c0 c1 c3 c4 c5 d0 d1 d3 d4 d5 hpo
      go_wp2_with fail
      refine wp_region_quiet_below (by kernel_rfl) (by kernel_rfl) ?_
      repeat ((with_reducible refine wpQuiet_step (fun K hK => ?_)); go_simp; first | ((with_reducible refine hK _ ?_); clear hK K) | (rw [if_neg (by intro h; exact nomatch h)]; (with_reducible refine hK _ ?_); clear hK K) | (apply Exists.intro; (with_reducible refine ⟨fun _ => ?_, hK _ ?_⟩); (with_reducible exact KA.out _ _); clear hK K))
      with_reducible refine wpQuiet_nil ?_
      intro _ hw'
      obtain ⟨⟨dq1, osq1⟩, hw''⟩ := hw'
      subst hw''
      have g1 := below_regrown wr dq1 osq1
      generalize hW1 : grow (redrawn wr dq1) osq1 = W1 at *
      clear hW1 kx ky KA
      go_wp2_with fail
      go_roundw
      case rel => exact ⟨k + 1, by omega, by go_num, by rw [HN.out], grow_next hb0 g1⟩
      case measure => simp [intOf]; omega
    · have e : k = n := by omega
      have e1 : l.take k = l := by rw [e, hn.out, List.take_length]
      rw [e1] at hs
      subst hs
      clear e e1
      go_wp2_with fail
      go_returns
      exact ⟨rfl, hb⟩

/-- One step of a region that draws: an append onto a row of the caller's own. -/
theorem step_append_own {P : Program} {ops : Array Oper} {o : Oper} {a : Act} {w : World} {K : Act → World → Prop} {Q : Exit → Act → World → Prop} {E : Prop} (hgd : o.guard = none) (s x : Operand) (t : TypeId)
    (ho : o.op = .call { callee := .builtin .append, args := #[s, x], argTypes := #[t, t] })
    (base : Nat) (e : TypeId) (i : TypeInfo) (z : Value) (size bytes : Nat) (ht : P.underlying t = some (.slice e)) (hi : P.info? e = some i) (hz : i.zero = some z)
    (hsize : i.size = size) (hby : i.bytes = bytes) (hzs : z.cells.size = size) (hsz : 0 < size)
    (v : Value) (n : Nat) (xs : List Value) (hs : a.eval s = v) (hown : w.ownsRow base e size v n xs)
    (ad : Addr) (m c : Nat) (news : List Value) (hx : a.eval x = .slice (some ad) m c) (hl : news.length = m * size) (hnews : ∀ j u, news[j]? = some u → w.cell? (ad.add j) = some u) (h1 : ∀ u ∈ news, u.oneCell' = true)
    (h63 : n + m ≤ maxLen) (hbytes : (n + m) * bytes ≤ 140737488355328) (hbase : base ≤ w.heap.size)
    (h : ∀ v' w', w'.ownsRow base e size v' (n + m) (xs ++ news) → w.grownBy w' v.ownBlock → (v' = .slice none 0 0 ↔ v = .slice none 0 0 ∧ m = 0) → K (a.put o.dst v') w') :
    if Region.wanted o (yielded ops a.tmps) = true then Oper.wp P o a w K Q else E := by
  have hw : Region.wanted o (yielded ops a.tmps) = true := by simp [Region.wanted, hgd]
  rw [if_pos hw]
  exact wp_append_own w s x t ho base e i z size bytes ht hi hz hsize hby hzs hsz v n xs hs hown ad m c news hx hl hnews h1 h63 hbytes hbase h

theorem prs_news {B : Nat} {W : World} {b off : Nat} {l : List Pr} (h : Prs B W (some ⟨b, off, none⟩) l) : ∀ i u, (flatPr l)[i]? = some u → W.cell? ((⟨b, off, none⟩ : Addr).add i) = some u := by
  intro i u hi
  have hil : i < l.length * 6 := by have := (List.getElem?_eq_some_iff.1 hi).1; rwa [flatPr_len] at this
  obtain ⟨v, hv⟩ := getP (l := l) (k := i / 6) (by omega)
  obtain ⟨z, hz⟩ : ∃ z, v.row[i % 6]? = some z := ⟨v.row[i % 6]'(by simp [Pr.row]; omega), List.getElem?_eq_getElem _⟩
  have e : i / 6 * 6 + i % 6 = i := by omega
  have hb := flatPr_at hv hz
  rw [e, hi] at hb
  rw [Option.some.inj hb, add_at]
  rcases h with h | ⟨b', off', e', _, hc⟩
  · subst h; simp at hv
  · simp only [Option.some.injEq, Addr.mk.injEq] at e'
    obtain ⟨rfl, rfl, _⟩ := e'
    have := hc (i / 6) v (i % 6) z hv hz
    rw [show off + i / 6 * 6 + i % 6 = off + i by omega] at this
    exact this
theorem prs_drop {B : Nat} {W : World} {b off : Nat} {l : List Pr} (h : Prs B W (some ⟨b, off, none⟩) l) (j : Nat) : Prs B W (some ⟨b, off + j * 6, none⟩) (l.drop j) := by
  rcases h with h | ⟨b', off', e', hlt, hc⟩
  · subst h; exact .inl (by simp)
  · simp only [Option.some.injEq, Addr.mk.injEq] at e'
    obtain ⟨rfl, rfl, _⟩ := e'
    refine .inr ⟨b, off + j * 6, rfl, hlt, fun i v q z hi hq => ?_⟩
    rw [List.getElem?_drop] at hi
    have := hc (j + i) v q z hi hq
    rw [show off + j * 6 + i * 6 + q = off + (j + i) * 6 + q by omega]
    exact this
theorem prs_take {B : Nat} {W : World} {b off : Nat} {l : List Pr} (h : Prs B W (some ⟨b, off, none⟩) l) (j : Nat) : Prs B W (some ⟨b, off, none⟩) (l.take j) := by
  rcases h with h | ⟨b', off', e', hlt, hc⟩
  · subst h; exact .inl (by simp)
  · refine .inr ⟨b', off', e', hlt, fun i v q z hi hq => ?_⟩
    rw [List.getElem?_take] at hi
    split at hi
    · exact hc i v q z hi hq
    · cases hi

/-- Those that are left, wherever they lie. -/
def LeftRef (w : World) (l : List Pr) (m : Nat) : Ending → World → Prop := fun e w' =>
  ∃ b off c, e = .returned (.slice (some ⟨b, off, none⟩) m c) ∧ Prs w'.heap.size w' (some ⟨b, off, none⟩) l ∧ Below w.heap.size w w'

def lenOfS : Value → Nat
  | .slice _ n _ => n
  | _ => 0

set_option maxRecDepth 100000 in
set_option maxHeartbeats 8000000 in
theorem l6Left_c (l : List Pr) (hA : AllSm l) (n : Nat) (hn : Hid (n = l.length)) (hm : n ≤ 100) (least : Int) (hle : 1 ≤ least) (b off cap : Nat) (hnc : n ≤ cap) (hcm : cap ≤ maxLen) (w : World) (h : Prs w.heap.size w (some ⟨b, off, none⟩) l) (m0 : Nat) (hm0 : Hid (m0 = (leftV l least).length)) :
    Calls Tryd.prog 32 #[.slice (some ⟨b, off, none⟩) n cap, .int .i64 least] w (LeftRef w (leftV l least) m0) := by
  obtain ⟨i0, hi, hz0, hz1, hz2⟩ := info_partsT infoPr'
  have HI0 := Lib.hid hi
  have HZ0 := Lib.hid hz0
  have HZ1 := Lib.hid hz1
  have HZ2 := Lib.hid hz2
  clear hi hz0 hz1 hz2
  go_enter Tryd.func32, Tryd.ntmps32
  go_wp2_with fail
  go_loopw [0] (fun o wr => ∃ (k m b off c : Nat) (R : List Pr), o = .slice (some ⟨b, off, none⟩) m c ∧ Hid (m = R.length) ∧ m + k = n ∧ m ≤ c ∧ c ≤ maxLen ∧ Hid (R = leftN k l) ∧ Prs wr.heap.size wr (some ⟨b, off, none⟩) R ∧ (k = 0 ∨ least ≤ (m : Int)) ∧ Below w.heap.size w wr) (fun o _ => lenOfS o)
  case atStart => exact ⟨0, n, b, off, cap, l, rfl, hn, rfl, hnc, hcm, Lib.hid rfl, h, .inl rfl, Below.refl _ _⟩
  case round =>
    obtain ⟨k, m, b, off, c, R, rfl, hR, hmk, hmc, hcm', hV, hP, hst, hb⟩ := hrel
    have hm1 : IntKind.i64.wrap (m : Int) = (m : Int) := IntWalk.i64_in _ (by omega)
    have hAR : AllSm R := by rw [hV.out]; exact leftN_all hA k
    unfold maxLen at hcm'
    by_cases hlt : least < (m : Int)
    · have hd : decide (least < (m : Int)) = true := decide_eq_true hlt
      obtain ⟨wo, rfl⟩ : ∃ wo, wo = wr := ⟨_, rfl⟩
      go_wp2_with fail
      go_loopw [5, 6] (fun p i wi => ∃ q : Nat, q ≤ m ∧ i = .int .i64 q ∧ p = .int .i64 (worstF (farAt R) q) ∧ Below wo.heap.size wo wi) (fun _ i _ => m - (intOf i).toNat)
      case atStart => exact ⟨0, Nat.zero_le _, rfl, rfl, Below.refl _ _⟩
      case round =>
        obtain ⟨q, hq, rfl, hp, hbi⟩ := hrel
        have hPi := hP.next hbi
        by_cases hqm : q < m
        · obtain ⟨p, hp'⟩ : ∃ p, worstF (farAt R) q = p := ⟨_, rfl⟩
          have hpm : p < m := by
            rw [← hp']
            rcases Nat.eq_zero_or_pos q with h | h
            · subst h; exact hqm
            · have := worstF_lt (farAt R) h; omega
          rw [hp'] at hp
          subst hp
          obtain ⟨v, hv⟩ := getP (l := R) (k := q) (by rw [← hR.out]; exact hqm)
          obtain ⟨u, hu⟩ := getP (l := R) (k := p) (by rw [← hR.out]; exact hpm)
          have hCv := fun W h => l6Apart_c v (hAR.at_ hv) R hAR m hR (by omega) (some ⟨b, off, none⟩) c W h
          have hCu := fun W h => l6Apart_c u (hAR.at_ hu) R hAR m hR (by omega) (some ⟨b, off, none⟩) c W h
          rw [← farAt_at hv] at hCv
          rw [← farAt_at hu] at hCu
          obtain ⟨f, hf⟩ : ∃ f, farAt R q = f := ⟨_, rfl⟩
          obtain ⟨e, he⟩ : ∃ e, farAt R p = e := ⟨_, rfl⟩
          rw [hf] at hCv
          rw [he] at hCu
          obtain ⟨cx0, cx1, cx2, cx3, cx4, cx5⟩ := prs_cell hPi hv
          obtain ⟨cy0, cy1, cy2, cy3, cy4, cy5⟩ := prs_cell hPi hu
          have kx0 := cell_regrown cx0
          have kx1 := cell_regrown cx1
          have kx2 := cell_regrown cx2
          have kx3 := cell_regrown cx3
          have kx4 := cell_regrown cx4
          have kx5 := cell_regrown cx5
          have ky0 := cell_regrown cy0
          have ky1 := cell_regrown cy1
          have ky2 := cell_regrown cy2
          have ky3 := cell_regrown cy3
          have ky4 := cell_regrown cy4
          have ky5 := cell_regrown cy5
          have KA := Lib.hid (fun d os => Calls.regrown_of (hCv (grow (redrawn wr d) os) (hPi.next (below_regrown wr d os))))
          have KB := Lib.hid (fun d os => Calls.regrown_of (hCu (grow (redrawn wr d) os) (hPi.next (below_regrown wr d os))))
          clear cx0 cx1 cx2 cx3 cx4 cx5 cy0 cy1 cy2 cy3 cy4 cy5 hCv hCu hv hu
          by_cases hge : e ≤ f
          · have hgd : decide (e ≤ f) = true := decide_eq_true hge
            have E1 : Hid (worstF (farAt R) (q + 1) = q) := Lib.hid (worstF_yes (by rw [hp', hf, he]; exact hge))
            clear hp' hf he
            go_wp2_with fail
            refine wp_region_quiet_below (by kernel_rfl) (by kernel_rfl) ?_
            repeat ((with_reducible refine wpQuiet_step (fun K hK => ?_)); go_simp; first | ((with_reducible refine hK _ ?_); clear hK K) | (rw [if_neg (by intro h; exact nomatch h)]; (with_reducible refine hK _ ?_); clear hK K) | (apply Exists.intro; (with_reducible refine ⟨fun _ => ?_, hK _ ?_⟩); (first | with_reducible exact KA.out _ _ | with_reducible exact KB.out _ _); clear hK K))
            with_reducible refine wpQuiet_nil ?_
            intro _ hw'
            obtain ⟨⟨dq1, osq1⟩, hw''⟩ := hw'
            subst hw''
            have g1 := below_regrown wr dq1 osq1
            generalize hW1 : grow (redrawn wr dq1) osq1 = W1 at *
            clear hW1 kx0 kx1 kx2 kx3 kx4 kx5 ky0 ky1 ky2 ky3 ky4 ky5 KA KB
            go_wp2_with fail
            go_roundw
            case rel => exact ⟨q + 1, by omega, by go_num, by rw [E1.out], grow_next hbi g1⟩
            case measure => simp [intOf]; omega
          · have hgd : decide (e ≤ f) = false := decide_eq_false hge
            have E1 : Hid (worstF (farAt R) (q + 1) = p) := Lib.hid ((worstF_no (by rw [hp', hf, he]; exact hge)).trans hp')
            clear hp' hf he
            go_wp2_with fail
            refine wp_region_quiet_below (by kernel_rfl) (by kernel_rfl) ?_
            repeat ((with_reducible refine wpQuiet_step (fun K hK => ?_)); go_simp; first | ((with_reducible refine hK _ ?_); clear hK K) | (rw [if_neg (by intro h; exact nomatch h)]; (with_reducible refine hK _ ?_); clear hK K) | (apply Exists.intro; (with_reducible refine ⟨fun _ => ?_, hK _ ?_⟩); (first | with_reducible exact KA.out _ _ | with_reducible exact KB.out _ _); clear hK K))
            with_reducible refine wpQuiet_nil ?_
            intro _ hw'
            obtain ⟨⟨dq1, osq1⟩, hw''⟩ := hw'
            subst hw''
            have g1 := below_regrown wr dq1 osq1
            generalize hW1 : grow (redrawn wr dq1) osq1 = W1 at *
            clear hW1 kx0 kx1 kx2 kx3 kx4 kx5 ky0 ky1 ky2 ky3 ky4 ky5 KA KB
            go_wp2_with fail
            go_roundw
            case rel => exact ⟨q + 1, by omega, by go_num, by rw [E1.out], grow_next hbi g1⟩
            case measure => simp [intOf]; omega
        · have eq : q = m := by omega
          have e1 : worstF (farAt R) q = worstL R := by rw [eq, hR.out]; rfl
          rw [e1] at hp
          have hpm := worstL_lt (l := R) (by rw [← hR.out]; omega)
          rw [← hR.out] at hpm
          have hX : Hid (R.take (worstL R) ++ R.drop (worstL R + 1) = leftN (k + 1) l) := Lib.hid (by rw [leftN, ← hV.out, dropW, List.eraseIdx_eq_take_drop_succ])
          obtain ⟨p, hp'⟩ : ∃ p, worstL R = p := ⟨_, rfl⟩
          rw [hp'] at hp hpm hX
          subst hp
          have hB := grow_next hb hbi
          have hT := prs_take hPi p
          have hD := prs_drop hPi (p + 1)
          have hl1 : (flatPr (R.take p)).length = p * 6 := by rw [flatPr_len, List.length_take, ← hR.out, Nat.min_eq_left (by omega)]
          have hl2 : (flatPr (R.drop (p + 1))).length = (m - (p + 1)) * 6 := by rw [flatPr_len, List.length_drop, ← hR.out]
          have hp1 : IntKind.i64.wrap ((p : Int) + 1) = (p : Int) + 1 := IntWalk.i64_in _ (by omega)
          have hp2 : ((p : Int) + 1).toNat = p + 1 := by omega
          have hp3 : (0 : Int) ≤ (p : Int) + 1 := by omega
          have hp4 : (p : Int) + 1 ≤ (m : Int) := by omega
          have hp5 : p ≤ c := by omega
          have hp6 : p + 1 ≤ m := by omega
          have made := World.ownsRow_made (base := wr.heap.size) (e := 40) (size := 6) wr.drew #[] 0 (Nat.le_refl _) (by simp [maxLen]) rfl
          have bn : Below wr.heap.size wr (wr.drew.alloc (.cells #[] 40)) := below_newd wr _
          have hT1 := prs_news (hT.next bn)
          have hD1 := fun W (hW : Below wr.heap.size wr W) => prs_news (hD.next hW)
          obtain ⟨A, hA', hsrc⟩ : ∃ A : Addr, (if c = p + 1 then some (⟨b, off, none⟩ : Addr) else some ⟨b, off + (p + 1) * 6, none⟩) = some A ∧ Hid (∀ W, Below wr.heap.size wr W → ∀ i u, (flatPr (R.drop (p + 1)))[i]? = some u → W.cell? (A.add i) = some u) := by
            by_cases hc : c = p + 1
            · refine ⟨⟨b, off, none⟩, by simp [hc], fun W _ i u hu => ?_⟩
              rw [List.drop_of_length_le (by rw [← hR.out]; omega)] at hu
              simp [flatPr] at hu
            · exact ⟨⟨b, off + (p + 1) * 6, none⟩, by simp [hc], hD1⟩
          have HM := Lib.hid made
          have HL1 := Lib.hid hl1
          have HL2 := Lib.hid hl2
          have HT1 := Lib.hid hT1
          clear made hl1 hl2 hT1 hD1 hT hD eq e1 hp'
          go_wp2_with fail
          go_region_law (first
            | (refine step_append_own rfl _ _ 24 rfl wr.heap.size 40 i0 (.agg #[.int .i64 0, .int .i64 0, .int .i64 0, .int .i64 0, .int .i64 0, .int .i64 0]) 6 48 Tryd.underlying24 HI0.out HZ0.out HZ1.out HZ2.out rfl (by decide) v1 (0 + p) ([] ++ flatPr (R.take p)) (by simp [Act.eval, Act.put]) hown1 A (m - (p + 1)) (c - (p + 1)) (flatPr (R.drop (p + 1))) (by simp [Act.eval, Act.put]) HL2.out (hsrc.out _ B1) flatPr_one (by unfold maxLen; omega) (by omega) B1.size ?_; intro v2 w2 hown2 hgr2 hno2)
            | (refine step_append_own rfl _ _ 24 rfl wr.heap.size 40 i0 (.agg #[.int .i64 0, .int .i64 0, .int .i64 0, .int .i64 0, .int .i64 0, .int .i64 0]) 6 48 Tryd.underlying24 HI0.out HZ0.out HZ1.out HZ2.out rfl (by decide) (.slice (some ⟨wr.heap.size, 0, none⟩) 0 0) 0 [] (by simp [Act.eval, Act.put]) HM.out ⟨b, off, none⟩ p c (flatPr (R.take p)) (by simp [Act.eval, Act.put]) HL1.out HT1.out flatPr_one (by unfold maxLen; omega) (by omega) bn.size ?_; intro v1 w1 hown1 hgr1 hno1; have B1 := grown_belowN bn bn.size hgr1 (fun k e => (HM.out.lt k e).1)))
          have B2 := grown_belowN B1 B1.size hgr2 (fun k e => (hown1.lt k e).1)
          have hne : v2 ≠ .slice none 0 0 := fun e2 => by
            have := (hno1.1 (hno2.1 e2).1).1
            simp at this
          obtain ⟨g2, c2, hv2⟩ := own_some hown2 hne
          have hmm : 0 + p + (m - (p + 1)) = m - 1 := by omega
          have hR2 : Hid (m - 1 = (R.take p ++ R.drop (p + 1)).length) := Lib.hid (by rw [List.length_append, List.length_take, List.length_drop, ← hR.out]; omega)
          have hrow : PrRow wr.heap.size w2 (some ⟨g2, 0, none⟩) c2 (R.take p ++ R.drop (p + 1)) := by
            unfold PrRow
            rw [← hR2.out, flatPr_append, ← hmm, ← hv2]
            exact hown2
          have hcc := hrow.cap_
          rw [← hR2.out] at hcc
          have hP2 := hrow.prs
          rw [hmm] at hv2
          have HV2 := Lib.hid hv2
          have HP2 := Lib.hid hP2
          clear hmm hv2 hP2 hrow hown2 hown1 hgr1 hgr2 hno1 hno2 hne
          simp only [Act.put, List.getElem_toArray, List.getElem_cons_succ, List.getElem_cons_zero, List.setIfInBounds_toArray, List.set_cons_zero]
          refine ⟨?_, ?measure⟩
          (repeat apply Exists.intro)
          refine ⟨?rel, rfl⟩
          case rel => exact ⟨k + 1, m - 1, g2, 0, c2, _, HV2.out, hR2, by omega, hcc.1, hcc.2, hX, HP2.out, .inr (by omega), hB.trans (B2.mono hB.size)⟩
          case measure =>
            simp [HV2.out, lenOfS]
            omega
    · have hd : decide (least < (m : Int)) = false := decide_eq_false hlt
      have hX : Hid (R = leftV l least) := Lib.hid (hV.out.trans (left_end (by rw [← hn.out]; exact hmk) hst hlt))
      rw [hX.out] at hP
      have hmm : m = m0 := by rw [hR.out, hX.out, hm0.out]
      subst hmm
      clear hV
      go_wp2_with fail
      go_returns
      exact ⟨b, off, c, rfl, hP, hb⟩

theorem surv_spec (l : List Pr) (n : Nat) (hn : Hid (n = l.length)) (hm : n ≤ maxLen) (least : Int) (x : Option Addr) (cap : Nat) (w : World) (h : Prs w.heap.size w x l) :
    Calls Tryd.prog 15 #[.slice x n cap, .int .i64 least] w (RowPost w (survV l least) (survV l least).length) := by
  cases ho : okPrs l with
  | false =>
    have HO := Lib.hid (show Calls Tryd.prog 22 #[.slice x n cap] w fun e w' => e = .returned (.bool false) ∧ Below w.heap.size w w' from ho ▸ peersOk_spec l n hn hm x cap w h)
    rw [survV_no ho]
    clear ho
    go_enter Tryd.func15, Tryd.ntmps15
    go_wp2_with fail
    refine (HO.out).mono ?_
    rintro e w1 ⟨rfl, hb1⟩
    go_wp2_with fail
    go_returns
    exact ⟨_, rfl, World.ownsRow_made (base := w.heap.size) (e := 40) (size := 6) w1 #[] 0 hb1.size (by simp [maxLen]) rfl, hb1.alloc hb1.size _⟩
  | true =>
    have HO := Lib.hid (show Calls Tryd.prog 22 #[.slice x n cap] w fun e w' => e = .returned (.bool true) ∧ Below w.heap.size w w' from ho ▸ peersOk_spec l n hn hm x cap w h)
    by_cases h1 : 1 ≤ least
    · obtain ⟨hA, hl⟩ := okPrs_all ho
      have hI := okPrs_ids ho
      rw [survV_yes ho h1]
      have hn20 : n ≤ 20 := by have := hn.out; omega
      have hd : decide (least < 1) = false := decide_eq_false (by omega)
      have hlm : (leftV (rkV l) least).length ≤ n := by rw [leftV_length, rkV_length, hn.out]; omega
      obtain ⟨m0, hm0⟩ : ∃ m, m = (leftV (rkV l) least).length := ⟨_, rfl⟩
      rw [← hm0] at hlm ⊢
      have HM := Lib.hid hm0
      have HR : Hid (n = (rkV l).length) := Lib.hid (by rw [rkV_length]; exact hn.out)
      obtain ⟨i0, hi, hz0, hz1, hz2⟩ := info_partsT infoPr'
      have HI0 := Lib.hid hi
      have HZ0 := Lib.hid hz0
      have HZ1 := Lib.hid hz1
      have HZ2 := Lib.hid hz2
      clear ho hl hm0 hi hz0 hz1 hz2
      go_enter Tryd.func15, Tryd.ntmps15
      go_wp2_with fail
      refine (HO.out).mono ?_
      rintro e w1 ⟨rfl, hb1⟩
      have b1 : Below w.heap.size w (w1.alloc (.cells #[] 40)) := hb1.alloc hb1.size _
      have HM1 := Lib.hid (World.ownsRow_made (base := w.heap.size) (e := 40) (size := 6) w1 #[] 0 hb1.size (by simp [maxLen]) rfl)
      go_wp2_with fail
      refine (l6Rank_c l hA hI n hn (by omega) x cap _ (h.next b1)).mono ?_
      rintro e w2 ⟨g, c, rfl, hrow, hb2⟩
      have b2 := grow_next b1 hb2
      have hc := hrow.cap_
      rw [← HR.out] at hc
      have HW := Lib.hid hrow.prs
      clear hrow
      go_wp2_with fail
      refine (l6Left_c (rkV l) (rkV_all hA) n HR (by omega) least h1 g 0 c hc.1 hc.2 _ HW.out m0 HM).mono ?_
      rintro e w3 ⟨b, off, c3, rfl, hP, hb3⟩
      have b3 := grow_next b2 hb3
      have HO3 := Lib.hid (own_next (own_next HM1.out hb2) hb3)
      have HL : Hid ((flatPr (leftV (rkV l) least)).length = m0 * 6) := Lib.hid (by rw [flatPr_len, ← HM.out])
      go_wp2_with (at_builtin; refine wpList_append_own _ rfl _ _ 24 rfl w.heap.size 40 i0 (.agg #[.int .i64 0, .int .i64 0, .int .i64 0, .int .i64 0, .int .i64 0, .int .i64 0]) 6 48 Tryd.underlying24 HI0.out HZ0.out HZ1.out HZ2.out rfl (by decide) _ _ _ rfl HO3.out ⟨b, off, none⟩ m0 c3 (flatPr (leftV (rkV l) least)) rfl HL.out (prs_news hP) flatPr_one (by unfold maxLen; omega) (by omega) b3.size ?_; intro v w4 hown hgr hno)
      have b4 := grown_belowN b3 b3.size hgr (fun k e => (HO3.out.lt k e).1)
      rw [Nat.zero_add, List.nil_append] at hown
      go_returns
      exact ⟨v, rfl, hown, b4⟩
    · rw [survV_no' (by omega)]
      have hd : decide (least < 1) = true := decide_eq_true (by omega)
      have hd' : least < 1 := by omega
      clear ho
      go_enter Tryd.func15, Tryd.ntmps15
      go_wp2_with fail
      refine (HO.out).mono ?_
      rintro e w1 ⟨rfl, hb1⟩
      go_wp2_with fail
      go_returns
      exact ⟨_, rfl, World.ownsRow_made (base := w.heap.size) (e := 40) (size := 6) w1 #[] 0 hb1.size (by simp [maxLen]) rfl, hb1.alloc hb1.size _⟩
end Go.Proofs.YtfcmcelhndppnaaDoor
