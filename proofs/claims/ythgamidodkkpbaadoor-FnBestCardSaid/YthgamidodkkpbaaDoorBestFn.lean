/- No delay is less than the best one's; with a sample more the best one's is no more, unless the old best one went: at all drawn filters and samples. -/
import Derived.Test.YthgamidodkkpbaaDoorSameSm
import Derived.Test.YthgamidodkkpbaaDoorFilDraws
import Derived.Test.YthgamidodkkpbaaDoorFilOthS
import Derived.Test.YthgamidodkkpbaaDoorTie
import Derived.Test.YthgamidodkkpbaaDoorCards
import Derived.Lib.QuietBelow
namespace Go.Proofs.YthgamidodkkpbaaDoor
open Go.ChangeShapes Go.WideShapes Go.ChangeAt Go.RowKit Go.Sort
set_option linter.unusedVariables false
set_option linter.unusedSimpArgs false

/-- Was it among the first so many? -/
def inTo (l : List Sm) (b : Sm) (k : Nat) : Bool := (l.take k).any fun s => sameSm s b
theorem inTo_next {l : List Sm} {k : Nat} {v : Sm} (b : Sm) (h : l[k]? = some v) : inTo l b (k + 1) = (inTo l b k || sameSm v b) := by
  unfold inTo
  rw [take_nextS h, List.any_append]
  simp
theorem inTo_all {l : List Sm} {b : Sm} (h : b ∈ l) {k : Nat} (hk : l.length ≤ k) : inTo l b k = true := by
  unfold inTo
  rw [List.take_of_length_le hk, List.any_eq_true]
  exact ⟨b, h, sameSm_self b⟩
theorem addR_len8' (l : List Sm) (s : Sm) : (addR l s).length ≤ 8 := by
  unfold addR
  cases ho : addOk l s with
  | false => simp
  | true =>
    have hoo : okSms l = true := by
      unfold addOk at ho
      rw [Bool.and_eq_true] at ho
      exact ho.1
    exact (addV_len (okSms_all hoo).2).1
theorem sms_cell {B : Nat} {W : World} {g off k : Nat} {l : List Sm} {v : Sm} (h : Sms B W (some ⟨g, off, none⟩) l) (hv : l[k]? = some v) : W.cell? ⟨g, off + k * 4, none⟩ = some (.int .i64 v.off) ∧ W.cell? ⟨g, off + k * 4 + 1, none⟩ = some (.int .i64 v.delay) ∧ W.cell? ⟨g, off + k * 4 + 2, none⟩ = some (.int .i64 v.disp) ∧ W.cell? ⟨g, off + k * 4 + 3, none⟩ = some (.int .i64 v.at_) := by
  obtain ⟨b, o, e, _, h0, h1, h2, h3⟩ := h.at_ hv
  simp only [Option.some.injEq, Addr.mk.injEq] at e
  obtain ⟨rfl, rfl, _⟩ := e
  exact ⟨h0, h1, h2, h3⟩
theorem addR_right (l : List Sm) (s : Sm) : (addOk l s = true → bstOk (addR l s) = true) ∧ (addOk l s = true → bstV (addR l s) = bestV (addV l s)) := by
  have h : addOk l s = true → bstOk (addR l s) = true := fun ho => by
    obtain ⟨a0, a1, _⟩ := addV_ok ho
    have hl : 0 < (addV l s).length := by
      cases e : addV l s with
      | nil => rw [e] at a1; cases a1
      | cons a b => simp
    unfold bstOk
    rw [addR_yes ho, a0, decide_eq_true hl]; rfl
  exact ⟨h, fun ho => by unfold bstV; rw [h ho, addR_yes ho]; rfl⟩
set_option maxRecDepth 100000 in
set_option maxHeartbeats 8000000 in
theorem fb_walk (w : World) {ao an au : Addr} (L : Ld w ao an au) (x : Option Addr) (n cap z : Nat) (hz : z = n ∧ Code w.heap.size w (.slice x n cap) n) :
    Calls Tryd.prog 4 #[.slice x n cap] w fun e w' => e = .returned (.bool true) ∧ Below w.heap.size w w' := by
  obtain ⟨_, hc⟩ := hz
  by_cases hbig : n ≤ 1048576
  · go_enter Tryd.func4, Tryd.ntmps4
    go_wp2_with (go_at_call 7; go_in)
    refine (drawBestOf_c x n cap _ hc hbig).mono ?_
    rintro e w1 ⟨g, off, c, m, l, rfl, hm, hm8, hmc, hcm, S1, b1⟩
    have HM : Hid (m = l.length) := Lib.hid hm
    have hmm : m ≤ maxLen := by unfold maxLen; omega
    obtain ⟨q, hq⟩ : ∃ q, bstV l = q := ⟨_, rfl⟩
    obtain ⟨k, hk⟩ : ∃ k, bstOk l = k := ⟨_, rfl⟩
    have HI := Lib.hid (fun (W : World) h {ao an au} L => (show Calls Tryd.prog 16 #[.slice (some ⟨g, off, none⟩) m c] W fun e w' => e = .returned (.tuple #[.agg #[.int .i64 q.off, .int .i64 q.delay, .int .i64 q.disp, .int .i64 q.at_], .bool k]) ∧ Below W.heap.size W w' from hk ▸ hq ▸ @bestOf_impl l m HM hmm (some ⟨g, off, none⟩) c W h ao an au L))
    have HS := Lib.hid (fun (W : World) h => (show Calls Tryd.prog 17 #[.slice (some ⟨g, off, none⟩) m c] W fun e w' => e = .returned (.tuple #[.agg #[.int .i64 q.off, .int .i64 q.delay, .int .i64 q.disp, .int .i64 q.at_], .bool k]) ∧ Below W.heap.size W w' from hk ▸ hq ▸ bestOf_spec l m HM hmm (some ⟨g, off, none⟩) c W h))
    have hkk : (k != k) = false := by cases k <;> rfl
    have hke : (k == k) = true := by cases k <;> rfl
    have HK := Lib.hid hk
    have HV := Lib.hid hq
    clear hm hk hq
    go_wp2_with fail
    refine (HI.out _ S1 (L.next b1)).mono ?_
    rintro e w2 ⟨rfl, hb2⟩
    have B2 : Below w2.heap.size w2 (w2.alloc (.cells #[.int .i64 q.off, .int .i64 q.delay, .int .i64 q.disp, .int .i64 q.at_] 26)) := below_new _ _
    have b2 := grow_next (grow_next b1 hb2) B2
    have S2 := (S1.next hb2).next B2
    have Q2 := blk_new w2 (.cells #[.int .i64 q.off, .int .i64 q.delay, .int .i64 q.disp, .int .i64 q.at_] 26)
    generalize hW2 : w2.alloc (.cells #[.int .i64 q.off, .int .i64 q.delay, .int .i64 q.disp, .int .i64 q.at_] 26) = W2 at *
    clear S1 hb2
    go_wp2_with fail
    refine (HS.out _ S2).mono ?_
    rintro e w3 ⟨rfl, hb3⟩
    have B3 : Below w3.heap.size w3 (w3.alloc (.cells #[.int .i64 q.off, .int .i64 q.delay, .int .i64 q.disp, .int .i64 q.at_] 26)) := below_new _ _
    have b3 := grow_next (grow_next b2 hb3) B3
    have S3 := (S2.next hb3).next B3
    have Q3 := blk_next B3 (blk_next hb3 Q2)
    have R3 := blk_new w3 (.cells #[.int .i64 q.off, .int .i64 q.delay, .int .i64 q.disp, .int .i64 q.at_] 26)
    generalize hW3 : w3.alloc (.cells #[.int .i64 q.off, .int .i64 q.delay, .int .i64 q.disp, .int .i64 q.at_] 26) = W3 at *
    obtain ⟨x0, x1, x2, x3⟩ := sample_cells Q3
    obtain ⟨y0, y1, y2, y3⟩ := sample_cells R3
    clear S2 Q2 hW2 HI HS
    cases k with
    | false =>
      clear HK HV
      go_wp2_with fail
      go_returns
      exact ⟨rfl, b3⟩
    | true =>
      have hbo := HK.out
      unfold bstOk at hbo
      rw [Bool.and_eq_true, decide_eq_true_eq] at hbo
      have hbv := HV.out
      unfold bstV at hbv
      rw [HK.out] at hbv
      simp only [if_true] at hbv
      have hne : l ≠ [] := List.length_pos_iff.1 hbo.2
      have hqm := bestV_mem hne
      rw [hbv] at hqm
      have HIN := Lib.hid (fun k (hk : l.length ≤ k) => inTo_all hqm hk)
      have HLE := Lib.hid (fun v (hv : v ∈ l) => hbv ▸ bestV_le hv)
      have HLA := Lib.hid (fun v (hv : v ∈ l) (hd : v.delay = q.delay) => (hbv ▸ bestV_last hbo.1 hv (by rw [hbv]; exact hd) : v.at_ ≤ q.at_))
      clear HK HV hbo hbv hne hqm R3
      go_wp2_with fail
      clear hW3 y0 y1 y2 y3 x0 x1 x2 x3
      go_loopw [8, 9] (fun a i wr => ∃ (k : Nat) (b : Bool), k ≤ m ∧ i = .int .i64 k ∧ a = .bool b ∧ Hid (b = inTo l q k) ∧ Below W3.heap.size W3 wr) (fun _ i _ => m - (intOf i).toNat)
      case atStart => exact ⟨0, false, Nat.zero_le _, rfl, rfl, Lib.hid rfl, Below.refl _ _⟩
      case round =>
        obtain ⟨k, b, hk, rfl, rfl, HBK, hb⟩ := hrel
        have g4 := grow_next b3 hb
        have Q4 := blk_next hb Q3
        obtain ⟨x0, x1, x2, x3⟩ := sample_cells Q4
        by_cases hlt : k < m
        · obtain ⟨v, hv⟩ := getS (l := l) (k := k) (by rw [← HM.out]; exact hlt)
          obtain ⟨ba, oa, ea, _, n0, n1, n2, n3⟩ := (S3.next hb).at_ hv
          simp only [Option.some.injEq, Addr.mk.injEq] at ea
          obtain ⟨rfl, rfl, _⟩ := ea
          have hvm := List.mem_of_getElem? hv
          have hle := HLE.out v hvm
          have hla := HLA.out v hvm
          have HNX := Lib.hid (inTo_next q hv)
          obtain ⟨t, ht⟩ : ∃ t, sameSm v q = t := ⟨_, rfl⟩
          have HE := fun W => eq_sm v q W
          rw [ht] at HE
          have HT := Lib.hid ht
          have hd1 : decide (v.delay < q.delay) = false := decide_eq_false (by omega)
          have k0 := cell_regrown x0
          have k1 := cell_regrown x1
          have k2 := cell_regrown x2
          have k3 := cell_regrown x3
          have j0 := cell_regrown n0
          have j1 := cell_regrown n1
          have j2 := cell_regrown n2
          have j3 := cell_regrown n3
          have N4 := S3.next hb
          have HV2 := Lib.hid hv
          clear hv hvm ht n0 n1 n2 n3 x0 x1 x2 x3
          have HB2 : Hid ((b || t) = inTo l q (k + 1)) := Lib.hid (by rw [HNX.out, ← HBK.out, HT.out])
          cases hde : (v.delay == q.delay) with
          | false =>
            clear hla hle HBK HNX HT
            cases b with
            | true =>
              go_wp2_with fail
              refine wp_region_quiet_below (by kernel_rfl) (by kernel_rfl) ?_
              repeat ((with_reducible refine wpQuiet_step (fun K hK => ?_)); go_simp; first | ((with_reducible refine hK _ ?_); clear hK K) | (rw [if_neg (by intro h; exact nomatch h)]; (with_reducible refine hK _ ?_); clear hK K) | (apply Exists.intro; (with_reducible refine ⟨fun _ => ?_, hK _ ?_⟩); (fail); clear hK K))
              with_reducible refine wpQuiet_nil ?_
              intro _ hw'
              obtain ⟨⟨dq, osq⟩, hw''⟩ := hw'
              subst hw''
              have T4 := blk_next (below_regrown wr dq osq) Q4
              have M4 := N4.next (below_regrown wr dq osq)
              have h5 := grow_next hb (below_regrown wr dq osq)
              clear k0 k1 k2 k3 j0 j1 j2 j3 N4 HE
              generalize grow (redrawn wr dq) osq = W5 at *
              obtain ⟨x0, x1, x2, x3⟩ := sample_cells T4
              obtain ⟨n0, n1, n2, n3⟩ := sms_cell M4 HV2.out
              have k0 := cell_regrown x0
              have k1 := cell_regrown x1
              have k2 := cell_regrown x2
              have k3 := cell_regrown x3
              have j0 := cell_regrown n0
              have j1 := cell_regrown n1
              have j2 := cell_regrown n2
              have j3 := cell_regrown n3
              clear n0 n1 n2 n3 x0 x1 x2 x3
              go_wp2_with fail
              refine wp_region_quiet_below (by kernel_rfl) (by kernel_rfl) ?_
              repeat ((with_reducible refine wpQuiet_step (fun K hK => ?_)); go_simp; first | ((with_reducible refine hK _ ?_); clear hK K) | (rw [if_neg (by intro h; exact nomatch h)]; (with_reducible refine hK _ ?_); clear hK K) | (apply Exists.intro; (with_reducible refine ⟨fun _ => ?_, hK _ ?_⟩); (fail); clear hK K))
              with_reducible refine wpQuiet_nil ?_
              intro _ hw'
              obtain ⟨⟨dq, osq⟩, hw''⟩ := hw'
              subst hw''
              have h6 := grow_next h5 (below_regrown W5 dq osq)
              clear k0 k1 k2 k3 j0 j1 j2 j3
              generalize grow (redrawn W5 dq) osq = W6 at *
              go_wp2_with fail
              go_roundw
              case rel => exact ⟨k + 1, true, by omega, by go_num, rfl, HB2, h6⟩
              case measure => simp [intOf]; omega
            | false =>
              rw [Bool.false_or] at HB2
              go_wp2_with fail
              refine wp_region_quiet_below (by kernel_rfl) (by kernel_rfl) ?_
              repeat ((with_reducible refine wpQuiet_step (fun K hK => ?_)); go_simp; first | ((with_reducible refine hK _ ?_); clear hK K) | (rw [if_neg (by intro h; exact nomatch h)]; (with_reducible refine hK _ ?_); clear hK K) | (apply Exists.intro; (with_reducible refine ⟨fun _ => ?_, hK _ ?_⟩); (fail); clear hK K))
              with_reducible refine wpQuiet_nil ?_
              intro _ hw'
              obtain ⟨⟨dq, osq⟩, hw''⟩ := hw'
              subst hw''
              have T4 := blk_next (below_regrown wr dq osq) Q4
              have M4 := N4.next (below_regrown wr dq osq)
              have h5 := grow_next hb (below_regrown wr dq osq)
              clear k0 k1 k2 k3 j0 j1 j2 j3 N4 HE
              generalize grow (redrawn wr dq) osq = W5 at *
              obtain ⟨x0, x1, x2, x3⟩ := sample_cells T4
              obtain ⟨n0, n1, n2, n3⟩ := sms_cell M4 HV2.out
              have k0 := cell_regrown x0
              have k1 := cell_regrown x1
              have k2 := cell_regrown x2
              have k3 := cell_regrown x3
              have j0 := cell_regrown n0
              have j1 := cell_regrown n1
              have j2 := cell_regrown n2
              have j3 := cell_regrown n3
              clear n0 n1 n2 n3 x0 x1 x2 x3
              go_wp2_with fail
              refine wp_region_quiet_below (by kernel_rfl) (by kernel_rfl) ?_
              repeat ((with_reducible refine wpQuiet_step (fun K hK => ?_)); go_simp; first | ((with_reducible refine hK _ ?_); clear hK K) | (rw [if_neg (by intro h; exact nomatch h)]; (with_reducible refine hK _ ?_); clear hK K) | (apply Exists.intro; (with_reducible refine ⟨fun _ => ?_, hK _ ?_⟩); (fail); clear hK K))
              with_reducible refine wpQuiet_nil ?_
              intro _ hw'
              obtain ⟨⟨dq, osq⟩, hw''⟩ := hw'
              subst hw''
              have h6 := grow_next h5 (below_regrown W5 dq osq)
              clear k0 k1 k2 k3 j0 j1 j2 j3
              generalize grow (redrawn W5 dq) osq = W6 at *
              go_wp2_with fail
              go_roundw
              case rel => exact ⟨k + 1, t, by omega, by go_num, rfl, HB2, h6⟩
              case measure => simp [intOf]; omega
          | true =>
            have hd3 : decide (q.at_ < v.at_) = false := decide_eq_false (by have := hla (by simpa using hde); omega)
            clear hla hle HBK HNX HT
            cases b with
            | true =>
              go_wp2_with fail
              refine wp_region_quiet_below (by kernel_rfl) (by kernel_rfl) ?_
              repeat ((with_reducible refine wpQuiet_step (fun K hK => ?_)); go_simp; first | ((with_reducible refine hK _ ?_); clear hK K) | (rw [if_neg (by intro h; exact nomatch h)]; (with_reducible refine hK _ ?_); clear hK K) | (apply Exists.intro; (with_reducible refine ⟨fun _ => ?_, hK _ ?_⟩); (fail); clear hK K))
              with_reducible refine wpQuiet_nil ?_
              intro _ hw'
              obtain ⟨⟨dq, osq⟩, hw''⟩ := hw'
              subst hw''
              have T4 := blk_next (below_regrown wr dq osq) Q4
              have M4 := N4.next (below_regrown wr dq osq)
              have h5 := grow_next hb (below_regrown wr dq osq)
              clear k0 k1 k2 k3 j0 j1 j2 j3 N4 HE
              generalize grow (redrawn wr dq) osq = W5 at *
              obtain ⟨x0, x1, x2, x3⟩ := sample_cells T4
              obtain ⟨n0, n1, n2, n3⟩ := sms_cell M4 HV2.out
              have k0 := cell_regrown x0
              have k1 := cell_regrown x1
              have k2 := cell_regrown x2
              have k3 := cell_regrown x3
              have j0 := cell_regrown n0
              have j1 := cell_regrown n1
              have j2 := cell_regrown n2
              have j3 := cell_regrown n3
              clear n0 n1 n2 n3 x0 x1 x2 x3
              go_wp2_with fail
              refine wp_region_quiet_below (by kernel_rfl) (by kernel_rfl) ?_
              repeat ((with_reducible refine wpQuiet_step (fun K hK => ?_)); go_simp; first | ((with_reducible refine hK _ ?_); clear hK K) | (rw [if_neg (by intro h; exact nomatch h)]; (with_reducible refine hK _ ?_); clear hK K) | (apply Exists.intro; (with_reducible refine ⟨fun _ => ?_, hK _ ?_⟩); (fail); clear hK K))
              with_reducible refine wpQuiet_nil ?_
              intro _ hw'
              obtain ⟨⟨dq, osq⟩, hw''⟩ := hw'
              subst hw''
              have h6 := grow_next h5 (below_regrown W5 dq osq)
              clear k0 k1 k2 k3 j0 j1 j2 j3
              generalize grow (redrawn W5 dq) osq = W6 at *
              go_wp2_with fail
              go_roundw
              case rel => exact ⟨k + 1, true, by omega, by go_num, rfl, HB2, h6⟩
              case measure => simp [intOf]; omega
            | false =>
              rw [Bool.false_or] at HB2
              go_wp2_with fail
              refine wp_region_quiet_below (by kernel_rfl) (by kernel_rfl) ?_
              repeat ((with_reducible refine wpQuiet_step (fun K hK => ?_)); go_simp; first | ((with_reducible refine hK _ ?_); clear hK K) | (rw [if_neg (by intro h; exact nomatch h)]; (with_reducible refine hK _ ?_); clear hK K) | (apply Exists.intro; (with_reducible refine ⟨fun _ => ?_, hK _ ?_⟩); (fail); clear hK K))
              with_reducible refine wpQuiet_nil ?_
              intro _ hw'
              obtain ⟨⟨dq, osq⟩, hw''⟩ := hw'
              subst hw''
              have T4 := blk_next (below_regrown wr dq osq) Q4
              have M4 := N4.next (below_regrown wr dq osq)
              have h5 := grow_next hb (below_regrown wr dq osq)
              clear k0 k1 k2 k3 j0 j1 j2 j3 N4 HE
              generalize grow (redrawn wr dq) osq = W5 at *
              obtain ⟨x0, x1, x2, x3⟩ := sample_cells T4
              obtain ⟨n0, n1, n2, n3⟩ := sms_cell M4 HV2.out
              have k0 := cell_regrown x0
              have k1 := cell_regrown x1
              have k2 := cell_regrown x2
              have k3 := cell_regrown x3
              have j0 := cell_regrown n0
              have j1 := cell_regrown n1
              have j2 := cell_regrown n2
              have j3 := cell_regrown n3
              clear n0 n1 n2 n3 x0 x1 x2 x3
              go_wp2_with fail
              refine wp_region_quiet_below (by kernel_rfl) (by kernel_rfl) ?_
              repeat ((with_reducible refine wpQuiet_step (fun K hK => ?_)); go_simp; first | ((with_reducible refine hK _ ?_); clear hK K) | (rw [if_neg (by intro h; exact nomatch h)]; (with_reducible refine hK _ ?_); clear hK K) | (apply Exists.intro; (with_reducible refine ⟨fun _ => ?_, hK _ ?_⟩); (fail); clear hK K))
              with_reducible refine wpQuiet_nil ?_
              intro _ hw'
              obtain ⟨⟨dq, osq⟩, hw''⟩ := hw'
              subst hw''
              have h6 := grow_next h5 (below_regrown W5 dq osq)
              clear k0 k1 k2 k3 j0 j1 j2 j3
              generalize grow (redrawn W5 dq) osq = W6 at *
              go_wp2_with fail
              go_roundw
              case rel => exact ⟨k + 1, t, by omega, by go_num, rfl, HB2, h6⟩
              case measure => simp [intOf]; omega
        · have hbt : b = true := by rw [HBK.out]; exact HIN.out k (by rw [← HM.out]; omega)
          subst hbt
          clear HIN HLE HLA HBK
          go_wp2_with fail
          refine (drawFilterAdd_c x n cap _ (hc.next g4) hbig).mono ?_
          rintro e w5 ⟨g', off', c', m', l', s, rfl, hm', hm8', hmc', hcm', _, hS5, hb5⟩
          have HM' : Hid (m' = l'.length) := Lib.hid hm'
          have hmm' : m' ≤ maxLen := by unfold maxLen; omega
          have B5 : Below w5.heap.size w5 (w5.alloc (.cells #[.int .i64 s.off, .int .i64 s.delay, .int .i64 s.disp, .int .i64 s.at_] 26)) := below_new _ _
          have b5 := grow_next (grow_next g4 hb5) B5
          have S5 := hS5.next B5
          have Q5 := blk_new w5 (.cells #[.int .i64 s.off, .int .i64 s.delay, .int .i64 s.disp, .int .i64 s.at_] 26)
          obtain ⟨o, ho⟩ : ∃ o, bstV l' = o := ⟨_, rfl⟩
          obtain ⟨d, hd⟩ : ∃ d, bstOk l' = d := ⟨_, rfl⟩
          obtain ⟨f, hf⟩ : ∃ f, addOk l' s = f := ⟨_, rfl⟩
          obtain ⟨A, hA⟩ : ∃ A, addR l' s = A := ⟨_, rfl⟩
          obtain ⟨qa, hqa⟩ : ∃ qa, qa = A.length := ⟨_, rfl⟩
          have hq8 : qa ≤ 8 := by rw [hqa, ← hA]; exact addR_len8' l' s
          have HB := Lib.hid (fun (W : World) h {ao an au} L => (show Calls Tryd.prog 16 #[.slice (some ⟨g', off', none⟩) m' c'] W fun e w' => e = .returned (.tuple #[.agg #[.int .i64 o.off, .int .i64 o.delay, .int .i64 o.disp, .int .i64 o.at_], .bool d]) ∧ Below W.heap.size W w' from hd ▸ ho ▸ @bestOf_impl l' m' HM' hmm' (some ⟨g', off', none⟩) c' W h ao an au L))
          have HF := Lib.hid (fun (W : World) h {ao an au} L => (show Calls Tryd.prog 9 #[.slice (some ⟨g', off', none⟩) m' c', .agg #[.int .i64 s.off, .int .i64 s.delay, .int .i64 s.disp, .int .i64 s.at_]] W fun e w' => ∃ v, e = .returned (.tuple #[v, .bool f]) ∧ SRow W A qa v w' from hf ▸ hqa ▸ hA ▸ @filterAdd_impl l' s m' HM' hmm' (some ⟨g', off', none⟩) c' W h ao an au L))
          obtain ⟨p, hp⟩ : ∃ p, bstV A = p := ⟨_, rfl⟩
          obtain ⟨r, hr⟩ : ∃ r, bstOk A = r := ⟨_, rfl⟩
          have HN := Lib.hid (fun (y : Option Addr) (cp : Nat) (W : World) h {ao an au} L => (show Calls Tryd.prog 16 #[.slice y qa cp] W fun e w' => e = .returned (.tuple #[.agg #[.int .i64 p.off, .int .i64 p.delay, .int .i64 p.disp, .int .i64 p.at_], .bool r]) ∧ Below W.heap.size W w' from hr ▸ hp ▸ @bestOf_impl A qa (Lib.hid hqa) (by unfold maxLen; omega) y cp W h ao an au L))
          have HQA := Lib.hid hqa
          have key : Hid (d = true → f = true → r = true ∧ (p.delay ≤ o.delay ∨ (m' = 8 ∧ l'[0]? = some o))) := Lib.hid (fun hdt hft => by
            subst hA hp hr hd ho
            have hft' := hf.trans hft
            obtain ⟨h1, h2⟩ := addR_right l' s
            refine ⟨h1 hft', ?_⟩
            rw [h2 hft']
            unfold bstOk at hdt
            rw [Bool.and_eq_true, decide_eq_true_eq] at hdt
            have hbv : bstV l' = bestV l' := by
              unfold bstV bstOk
              rw [hdt.1, decide_eq_true hdt.2]; rfl
            rw [hbv]
            rcases bestV_add hft' (List.length_pos_iff.1 hdt.2) with h | h
            · exact .inl h
            · exact .inr ⟨by rw [HM'.out]; exact h.1, h.2⟩)
          clear hm' hS5 ho hd hf hA hqa hp hr
          generalize hW5 : w5.alloc (.cells #[.int .i64 s.off, .int .i64 s.delay, .int .i64 s.disp, .int .i64 s.at_] 26) = W5 at *
          go_wp2_with fail
          refine (HB.out _ S5 (L.next b5)).mono ?_
          rintro e w6 ⟨rfl, hb6⟩
          have B6 : Below w6.heap.size w6 (w6.alloc (.cells #[.int .i64 o.off, .int .i64 o.delay, .int .i64 o.disp, .int .i64 o.at_] 26)) := below_new _ _
          have b6 := grow_next (grow_next b5 hb6) B6
          have S6 := (S5.next hb6).next B6
          have Q6 := blk_next B6 (blk_next hb6 Q5)
          have R6 := blk_new w6 (.cells #[.int .i64 o.off, .int .i64 o.delay, .int .i64 o.disp, .int .i64 o.at_] 26)
          generalize hW6 : w6.alloc (.cells #[.int .i64 o.off, .int .i64 o.delay, .int .i64 o.disp, .int .i64 o.at_] 26) = W6 at *
          obtain ⟨x0, x1, x2, x3⟩ := sample_cells Q6
          clear S5 Q5 hW5 HB
          go_wp2_with fail
          refine (HF.out _ S6 (L.next b6)).mono ?_
          rintro e w7 ⟨v7, rfl, hrow7, hb7⟩
          obtain ⟨y7, cp7, rfl, R7⟩ := smRow_form hrow7 HQA.out
          have b7 := grow_next b6 hb7
          have S7 := S6.next hb7
          have A7 := R7.sms
          have P7 := blk_next hb7 R6
          clear S6 Q6 R6 hW6 HF hrow7 R7
          go_wp2_with fail
          refine (HN.out _ _ _ A7 (L.next b7)).mono ?_
          rintro e w8 ⟨rfl, hb8⟩
          have B8 : Below w8.heap.size w8 (w8.alloc (.cells #[.int .i64 p.off, .int .i64 p.delay, .int .i64 p.disp, .int .i64 p.at_] 26)) := below_new _ _
          have b8 := grow_next (grow_next b7 hb8) B8
          have S8 := (S7.next hb8).next B8
          have P8 := blk_next B8 (blk_next hb8 P7)
          have R8 := blk_new w8 (.cells #[.int .i64 p.off, .int .i64 p.delay, .int .i64 p.disp, .int .i64 p.at_] 26)
          generalize hW8 : w8.alloc (.cells #[.int .i64 p.off, .int .i64 p.delay, .int .i64 p.disp, .int .i64 p.at_] 26) = W8 at *
          obtain ⟨x0, x1, x2, x3⟩ := sample_cells P8
          obtain ⟨y0, y1, y2, y3⟩ := sample_cells R8
          have k0 := cell_regrown x0
          have k1 := cell_regrown x1
          have k2 := cell_regrown x2
          have k3 := cell_regrown x3
          have j0 := cell_regrown y0
          have j1 := cell_regrown y1
          have j2 := cell_regrown y2
          have j3 := cell_regrown y3
          clear S7 P7 HN A7 P8 R8
          go_wp2_with fail
          clear hW8 x0 x1 x2 x3 y0 y1 y2 y3
          cases d with
          | false =>
            refine wp_region_quiet_below (by kernel_rfl) (by kernel_rfl) ?_
            repeat ((with_reducible refine wpQuiet_step (fun K hK => ?_)); go_simp; first | ((with_reducible refine hK _ ?_); clear hK K) | (rw [if_neg (by intro h; exact nomatch h)]; (with_reducible refine hK _ ?_); clear hK K) | (apply Exists.intro; (with_reducible refine ⟨fun _ => ?_, hK _ ?_⟩); (fail); clear hK K))
            with_reducible refine wpQuiet_nil ?_
            intro _ hw'
            obtain ⟨⟨dq, osq⟩, hw''⟩ := hw'
            subst hw''
            have g9 := grow_next b8 (below_regrown W8 dq osq)
            generalize grow (redrawn W8 dq) osq = W9 at *
            go_wp2_with fail
            go_returns
            exact ⟨rfl, g9⟩
          | true =>
            cases f with
            | false =>
              refine wp_region_quiet_below (by kernel_rfl) (by kernel_rfl) ?_
              repeat ((with_reducible refine wpQuiet_step (fun K hK => ?_)); go_simp; first | ((with_reducible refine hK _ ?_); clear hK K) | (rw [if_neg (by intro h; exact nomatch h)]; (with_reducible refine hK _ ?_); clear hK K) | (apply Exists.intro; (with_reducible refine ⟨fun _ => ?_, hK _ ?_⟩); (fail); clear hK K))
              with_reducible refine wpQuiet_nil ?_
              intro _ hw'
              obtain ⟨⟨dq, osq⟩, hw''⟩ := hw'
              subst hw''
              have g9 := grow_next b8 (below_regrown W8 dq osq)
              generalize grow (redrawn W8 dq) osq = W9 at *
              go_wp2_with fail
              go_returns
              exact ⟨rfl, g9⟩
            | true =>
              obtain ⟨hr, hor⟩ := key.out rfl rfl
              subst hr
              cases hde : decide (p.delay ≤ o.delay) with
              | true =>
                clear hor
                refine wp_region_quiet_below (by kernel_rfl) (by kernel_rfl) ?_
                repeat ((with_reducible refine wpQuiet_step (fun K hK => ?_)); go_simp; first | ((with_reducible refine hK _ ?_); clear hK K) | (rw [if_neg (by intro h; exact nomatch h)]; (with_reducible refine hK _ ?_); clear hK K) | (apply Exists.intro; (with_reducible refine ⟨fun _ => ?_, hK _ ?_⟩); (fail); clear hK K))
                with_reducible refine wpQuiet_nil ?_
                intro _ hw'
                obtain ⟨⟨dq, osq⟩, hw''⟩ := hw'
                subst hw''
                have g9 := grow_next b8 (below_regrown W8 dq osq)
                generalize grow (redrawn W8 dq) osq = W9 at *
                go_wp2_with fail
                go_returns
                exact ⟨rfl, g9⟩
              | false =>
                obtain ⟨h8, hl0⟩ := hor.resolve_left (of_decide_eq_false hde)
                obtain ⟨n0, n1, n2, n3⟩ := sms_cell S8 hl0
                rw [Nat.zero_mul, Nat.add_zero] at n0 n1 n2 n3
                have i0 := cell_regrown n0
                have i1 := cell_regrown n1
                have i2 := cell_regrown n2
                have i3 := cell_regrown n3
                have HE := fun W => eq_sm o o W
                rw [sameSm_self] at HE
                have h8' : ((m' : Int) == 8) = true := by rw [h8]; rfl
                have h8a : (0 : Int) < (m' : Int) := by omega
                have h8b : 0 < m' := by omega
                clear hor hl0 n0 n1 n2 n3 h8
                refine wp_region_quiet_below (by kernel_rfl) (by kernel_rfl) ?_
                repeat ((with_reducible refine wpQuiet_step (fun K hK => ?_)); go_simp; first | ((with_reducible refine hK _ ?_); clear hK K) | (rw [if_neg (by intro h; exact nomatch h)]; (with_reducible refine hK _ ?_); clear hK K) | (apply Exists.intro; (with_reducible refine ⟨fun _ => ?_, hK _ ?_⟩); (fail); clear hK K))
                with_reducible refine wpQuiet_nil ?_
                intro _ hw'
                obtain ⟨⟨dq, osq⟩, hw''⟩ := hw'
                subst hw''
                have g9 := grow_next b8 (below_regrown W8 dq osq)
                generalize grow (redrawn W8 dq) osq = W9 at *
                go_wp2_with fail
                go_returns
                exact ⟨rfl, g9⟩
  · go_enter Tryd.func4, Tryd.ntmps4
    go_wp2_with (go_at_call 7; go_in)
    go_returns
    exact ⟨rfl, Below.refl _ _⟩
theorem fb_met (os : Os) (args : Array Value) : laidMetH Tryd.prog Rows.fnBestRow.laid ((World.doorLaid Tryd.prog 400 os).forCall (fun _ _ => 0) ⟨#[], args, []⟩).memory :=
  laidMetH_of_parts3 (fuel := 8) (laidMet_of_run' 8 (by kernel_rfl) (by kernel_rfl)) (by kernel_rfl) (by kernel_rfl)
set_option maxRecDepth 100000 in
theorem fb_lifted (os : Os) (started : os.Started) (H : Type) (enc : TypeId × Value → H) :
    ReturnsInHanded {} Tryd.checked os 4 .any (fun w args => (Rows.fnBestSpec.pre enc Tryd.prog Tryd.f4 [] false w args ∧ laidMetH Tryd.prog Rows.fnBestRow.laid w) ∧ sizedMet enc Tryd.prog Tryd.f4 (OpenSpec.ofChange Rows.fnBestSpec) false w args) (Rows.fnBestSpec.post enc Tryd.prog Tryd.f4 false true false false) := by
  refine lifted_of_walk_laid (C := Tryd.checked) own started (by as_aux_lemma => kernel_rfl) Tryd.func4
    (ChangeSpec.witness_shaped (enc := enc) (C := Tryd.checked) (os := os) (X := fun w _ => laidMetH Tryd.prog Rows.fnBestRow.laid w) false (World.doorLaid Tryd.prog 400 os) #[.slice none 0 0] 8 rfl (World.shaped_of_RefB (by kernel_rfl) (by kernel_rfl)) (by kernel_rfl) (by kernel_rfl) (by kernel_rfl) (fb_met os _))
    laidOut (by as_aux_lemma => kernel_rfl) (by as_aux_lemma => kernel_rfl) rfl boolType
    (fun ds gs h hg => by
      match ds, gs, h, hg with
      | [_], [_, _, _], _, _ => rfl)
    ?_
  intro W base args ds q hval hA hL
  have laidRow : Rows.fnBestRow.laid = Rows.fnBestRow.laid := rfl
  obtain ⟨ao, an, au, L⟩ := ld_of hL (by simp [Rows.fnBestRow, handleD, sentD, Rows.laid_errors_errorType, Rows.laid_loop_example_g00656_impl_errNoTime, Rows.laid_loop_example_g00656_impl_errOutside, Rows.laid_loop_example_g00656_impl_errUnsure]) (by simp [Rows.fnBestRow, handleD, sentD, Rows.laid_errors_errorType, Rows.laid_loop_example_g00656_impl_errNoTime, Rows.laid_loop_example_g00656_impl_errOutside, Rows.laid_loop_example_g00656_impl_errUnsure]) (by simp [Rows.fnBestRow, handleD, sentD, Rows.laid_errors_errorType, Rows.laid_loop_example_g00656_impl_errNoTime, Rows.laid_loop_example_g00656_impl_errOutside, Rows.laid_loop_example_g00656_impl_errUnsure]) (by simp [Rows.fnBestRow, handleD, sentD, Rows.laid_errors_errorType, Rows.laid_loop_example_g00656_impl_errNoTime, Rows.laid_loop_example_g00656_impl_errOutside, Rows.laid_loop_example_g00656_impl_errUnsure])
  clear hL
  rw [Tryd.params4] at hA hval
  obtain ⟨v0, vs0, d0, ds0, p0, q0, hargs, rfl, rfl, h0, r0⟩ := trodAll_cons hA
  obtain ⟨rfl, rfl, rfl⟩ := trodAll_nil r0
  obtain rfl : args = #[v0] := by cases args; simp_all
  obtain ⟨a0, len0, cap0, z0, rfl, w0⟩ := open_bytes Tryd.underlying22 Tryd.underlying5 (by as_aux_lemma => kernel_rfl) (hval 0 22 v0 rfl rfl) h0
  exact fb_walk W L a0 len0 cap0 z0 w0

theorem fb_facts : joinedFacts Tryd.pinned.checked.prog 4 Tryd.f4 Rows.fnBestSpec Rows.fnBestRow = true :=
  facts_of (P := Tryd.prog) (by as_aux_lemma => kernel_rfl) laidOut mapsRow (by as_aux_lemma => kernel_rfl) (by as_aux_lemma => kernel_rfl) rfl noStops rfl noKnobs (by as_aux_lemma => kernel_rfl) (by as_aux_lemma => kernel_rfl) (by as_aux_lemma => kernel_rfl) (by as_aux_lemma => kernel_rfl) (by as_aux_lemma => kernel_rfl) (by as_aux_lemma => kernel_rfl) (by as_aux_lemma => kernel_rfl) (by as_aux_lemma => kernel_rfl) (by as_aux_lemma => kernel_rfl) (by as_aux_lemma => kernel_rfl) (by as_aux_lemma => kernel_rfl) (by as_aux_lemma => kernel_rfl) (by as_aux_lemma => kernel_rfl) keysPlain rfl heard enters finals isMake rfl rfl rfl (by as_aux_lemma => kernel_rfl) (by as_aux_lemma => kernel_rfl)

theorem fb_row : Rows.FnBestSaid :=
  OpenClaim.holds_of_wide 4 Tryd.f4 rfl rfl rfl rfl rfl rfl rfl ⟨rfl, rfl, rfl, rfl, rfl⟩ rfl rfl rfl rfl rfl (by as_aux_lemma => kernel_rfl) Tryd.func4 fb_facts
    (of_decide_eq_true (by as_aux_lemma => kernel_rfl)) (by unfold Func.isWrapper; first | (rw [if_pos (by decide +kernel)]; kernel_rfl) | (rw [if_neg (by decide +kernel)]; exact ⟨rfl, rfl⟩))
    (fun os started H enc _ => fb_lifted os started H enc)

/-- The given statement. -/
theorem fb_holds : Rows.FnBestCardSaid :=
  Claim7.holds_tied_plain_at .later [] Rows.fnBestCard.laidKinds true Rows.fnBestCard.stood.harness true
    fb_row (fun _ h => by cases h) (by kernel_rfl) (fun _ h => by cases h) fnBest_row_tie rfl ⟨rfl, rfl⟩ (by kernel_rfl) rfl
    (fun f fn hf hfn => by
      obtain rfl : f = 4 := Option.some.inj ((show Tryd.prog.funcNamed "loop.example/g00656/laws.FnBest" = some 4 by kernel_rfl).symm.trans hf) |>.symm
      obtain rfl : fn = Tryd.f4 := (Option.some.inj (Tryd.func4.symm.trans hfn)).symm
      exact ⟨by kernel_rfl, fun j t ht => noStandIn (by rw [Tryd.params4]; kernel_rfl) j t ht⟩)
    (by kernel_rfl)
#print axioms fb_holds
end Go.Proofs.YthgamidodkkpbaaDoor
