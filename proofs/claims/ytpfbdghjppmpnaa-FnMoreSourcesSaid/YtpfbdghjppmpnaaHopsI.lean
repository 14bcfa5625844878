/- How many hops: the program's way. -/
import Derived.Test.YtpfbdghjppmpnaaHopsMath
import Derived.Test.YtpfbdghjppmpnaaNdRow
import Derived.Test.YtpfbdghjppmpnaaNdOkI
import Derived.Deep.Cut
namespace Go.Proofs.Ytpfbdghjppmpnaa
open Go.ChangeShapes Go.WideShapes Go.ChangeAt Go.RowKit
set_option linter.unusedVariables false
set_option linter.unusedSimpArgs false

def knownAt (K : List Int) (p : Int) : Int := match K[p.toNat]? with | some k => k | none => -1
theorem knownAt_of {K : List Int} {p k : Int} (h : K[p.toNat]? = some k) : knownAt K p = k := by unfold knownAt; rw [h]
def nearStep (K : List Int) (a p : Int) : Int := if knownAt K p ≠ -1 ∧ (a = -1 ∨ knownAt K p + 1 < a) then knownAt K p + 1 else a
def nearV (K : List Int) (ps : List Int) : Int := ps.foldl (nearStep K) (-1)
theorem nearV_next (K : List Int) {ps : List Int} {k : Nat} {p : Int} (h : ps[k]? = some p) : nearV K (ps.take (k + 1)) = nearStep K (nearV K (ps.take k)) p := by
  unfold nearV
  rw [List.take_add_one, h]
  simp
def hopsFromV (K : List Int) (v : Nd) : Int := if v.src then 0 else nearV K v.peers
theorem nearV_spec (K : List Int) (ps : List Int) (hge : ∀ p ∈ ps, -1 ≤ knownAt K p) : (nearV K ps = -1 ∧ ∀ p ∈ ps, knownAt K p = -1) ∨ (∃ p ∈ ps, knownAt K p ≠ -1 ∧ nearV K ps = knownAt K p + 1 ∧ ∀ q ∈ ps, knownAt K q ≠ -1 → nearV K ps ≤ knownAt K q + 1) := by
  have key : ∀ k, k ≤ ps.length → (nearV K (ps.take k) = -1 ∧ ∀ p ∈ ps.take k, knownAt K p = -1) ∨ (∃ p ∈ ps.take k, knownAt K p ≠ -1 ∧ nearV K (ps.take k) = knownAt K p + 1 ∧ ∀ q ∈ ps.take k, knownAt K q ≠ -1 → nearV K (ps.take k) ≤ knownAt K q + 1) := by
    intro k
    induction k with
    | zero => intro _; exact .inl ⟨rfl, fun p hp => by simp at hp⟩
    | succ k ih =>
      intro hk
      obtain ⟨p, hp⟩ := getI (l := ps) (k := k) (by omega)
      rw [nearV_next K hp, List.take_add_one, hp]
      have hmem : ∀ q, q ∈ ps.take k ++ (some p).toList ↔ q ∈ ps.take k ∨ q = p := fun q => by simp
      unfold nearStep
      rcases ih (by omega) with ⟨h1, h2⟩ | ⟨q, hq, h1, h2, h3⟩
      · rw [h1]
        by_cases hkp : knownAt K p = -1
        · rw [if_neg (by intro h; exact h.1 hkp)]
          exact .inl ⟨rfl, fun q hq => ((hmem q).1 hq).elim (fun h => h2 q h) (fun e => by rw [e]; exact hkp)⟩
        · rw [if_pos ⟨hkp, .inl rfl⟩]
          refine .inr ⟨p, (hmem p).2 (.inr rfl), hkp, rfl, fun q hq hqk => ?_⟩
          rcases (hmem q).1 hq with h | rfl
          · exact absurd (h2 q h) hqk
          · exact Int.le_refl _
      · by_cases hc : knownAt K p ≠ -1 ∧ (nearV K (ps.take k) = -1 ∨ knownAt K p + 1 < nearV K (ps.take k))
        · rw [if_pos hc]
          refine .inr ⟨p, (hmem p).2 (.inr rfl), hc.1, rfl, fun r hr hrk => ?_⟩
          rcases (hmem r).1 hr with h | rfl
          · have := h3 r h hrk
            have hq0 := hge q (List.mem_of_mem_take hq)
            rcases hc.2 with h5 | h5
            · omega
            · omega
          · exact Int.le_refl _
        · rw [if_neg hc]
          refine .inr ⟨q, (hmem q).2 (.inl hq), h1, h2, fun r hr hrk => ?_⟩
          rcases (hmem r).1 hr with h | rfl
          · exact h3 r h hrk
          · rcases Int.lt_or_le (knownAt K r + 1) (nearV K (ps.take k)) with h5 | h5
            · exact absurd ⟨hrk, .inr h5⟩ hc
            · exact h5
  have := key ps.length (Nat.le_refl _)
  rwa [List.take_length] at this
/-- What is known so far: behind t passes, and in the next one up to place j. -/
def Known (l : List Nd) (t j : Nat) (K : List Int) : Prop :=
  K.length = l.length ∧ ∀ (i : Nat) (k : Int), K[i]? = some k → (k = -1 ∨ ∃ m : Nat, k = m ∧ reach l m i = true ∧ m ≤ t * l.length + j) ∧ ∀ d : Nat, distIs l d i → (d < t ∨ (i < j ∧ d ≤ t)) → k = d
theorem Known.bound {l : List Nd} {t j : Nat} {K : List Int} (h : Known l t j K) {p : Int} (h0 : 0 ≤ p) (h1 : p < l.length) : -1 ≤ knownAt K p ∧ knownAt K p ≤ ((t * l.length + j : Nat) : Int) := by
  obtain ⟨k, hk⟩ := getI (l := K) (k := p.toNat) (by rw [h.1]; omega)
  rw [knownAt_of hk]
  rcases (h.2 _ _ hk).1 with h | ⟨m, rfl, _, hm⟩
  · omega
  · omega
theorem Known.start {l : List Nd} : Known l 0 0 (List.replicate l.length (-1)) :=
  ⟨List.length_replicate, fun i k hk => by
    rw [List.getElem?_replicate] at hk
    split at hk
    · simp only [Option.some.injEq] at hk
      exact ⟨.inl hk.symm, fun d _ h => by omega⟩
    · cases hk⟩
theorem Known.pass {l : List Nd} {t : Nat} {K : List Int} (h : Known l t l.length K) : Known l (t + 1) 0 K :=
  ⟨h.1, fun i k hk => by
    obtain ⟨h1, h2⟩ := h.2 i k hk
    refine ⟨?_, fun d hd ho => h2 d hd (.inr ⟨dist_in hd, by omega⟩)⟩
    rcases h1 with h1 | ⟨m, e, hr, hm⟩
    · exact .inl h1
    · exact .inr ⟨m, e, hr, by rw [Nat.succ_mul]; omega⟩⟩
theorem Known.step {l : List Nd} (hok : nodesOk l = true) {t j : Nat} {K : List Int} (h : Known l t j K) {v : Nd} (hv : l[j]? = some v) : Known l t (j + 1) (K.set j (hopsFromV K v)) := by
  have hjl := (List.getElem?_eq_some_iff.1 hv).1
  have hpin : ∀ p ∈ v.peers, 0 ≤ p ∧ p < l.length := fun p hp => by
    have := peer_in (nodesOk_at hok hv) hp
    omega
  have hkn : ∀ p ∈ v.peers, K[p.toNat]? = some (knownAt K p) := fun p hp => by
    obtain ⟨k, hk⟩ := getI (l := K) (k := p.toNat) (by rw [h.1]; have := hpin p hp; omega)
    rw [knownAt_of hk, hk]
  refine ⟨by rw [List.length_set]; exact h.1, fun i k hk => ?_⟩
  by_cases hij : i = j
  · subst hij
    rw [List.getElem?_set_self (by rw [h.1]; exact hjl)] at hk
    simp only [Option.some.injEq] at hk
    subst hk
    unfold hopsFromV
    cases hs : v.src with
    | true =>
      simp only [if_true]
      have hr : reach l 0 i = true := by rw [reach_zero hv, hs]
      refine ⟨.inr ⟨0, rfl, hr, Nat.zero_le _⟩, fun d hd _ => ?_⟩
      have : d = 0 := dist_one hd ⟨hr, fun k' hk' => absurd hk' (Nat.not_lt_zero _)⟩
      rw [this]; rfl
    | false =>
      simp only [Bool.false_eq_true, if_false]
      have hr0 : reach l 0 i = false := by rw [reach_zero hv, hs]
      refine ⟨?_, fun d hd ho => ?_⟩
      · rcases nearV_spec K v.peers (fun p hp => (h.bound (hpin p hp).1 (hpin p hp).2).1) with ⟨h1, _⟩ | ⟨p, hp, h1, h2, _⟩
        · exact .inl h1
        · rcases (h.2 _ _ (hkn p hp)).1 with h3 | ⟨m, e, hr, hm⟩
          · exact absurd h3 h1
          · refine .inr ⟨m + 1, by rw [h2, e]; rfl, ?_, by omega⟩
            rw [reach_succ hv, Bool.or_eq_true, List.any_eq_true]
            exact .inr ⟨p, hp, hr⟩
      · have hdt : d ≤ t := by omega
        obtain ⟨d', rfl⟩ : ∃ d', d = d' + 1 := ⟨d - 1, by
          have : d ≠ 0 := fun e => by subst e; have := hd.1; rw [hr0] at this; cases this
          omega⟩
        obtain ⟨v', p0, hv', hp0, hd0⟩ := dist_prev hd
        rw [hv] at hv'
        simp only [Option.some.injEq] at hv'
        subst hv'
        have hk0 := (h.2 _ _ (hkn p0 hp0)).2 d' hd0 (.inl (by omega))
        rcases nearV_spec K v.peers (fun p hp => (h.bound (hpin p hp).1 (hpin p hp).2).1) with ⟨_, h2⟩ | ⟨p, hp, h1, h2, h3⟩
        · have := h2 p0 hp0
          omega
        · have hle := h3 p0 hp0 (by omega)
          rcases (h.2 _ _ (hkn p hp)).1 with h4 | ⟨m, e, hr, hm⟩
          · exact absurd h4 h1
          · have hrm : reach l (m + 1) i = true := by
              rw [reach_succ hv, Bool.or_eq_true, List.any_eq_true]
              exact .inr ⟨p, hp, hr⟩
            rcases Nat.lt_or_ge (m + 1) (d' + 1) with hlt | hge
            · have := hd.2 (m + 1) hlt
              rw [hrm] at this
              cases this
            · omega
  · rw [List.getElem?_set_ne (Ne.symm hij)] at hk
    obtain ⟨h1, h2⟩ := h.2 i k hk
    refine ⟨?_, fun d hd ho => h2 d hd (by omega)⟩
    rcases h1 with h1 | ⟨m, e, hr, hm⟩
    · exact .inl h1
    · exact .inr ⟨m, e, hr, by omega⟩
def hopsL (l : List Nd) : List Int := (List.range l.length).map (hopsAt l l.length)
def hopsV (l : List Nd) : List Int := if nodesOk l then hopsL l else []
theorem Known.end_ {l : List Nd} {K : List Int} (h : Known l l.length 0 K) : K = hopsL l := by
  apply List.ext_getElem?
  intro i
  rcases Nat.lt_or_ge i l.length with hlt | hge
  · obtain ⟨k, hk⟩ := getI (l := K) (k := i) (by rw [h.1]; exact hlt)
    unfold hopsL
    rw [hk, List.getElem?_map, List.getElem?_range hlt]
    simp only [Option.map_some, Option.some.injEq]
    obtain ⟨h1, h2⟩ := h.2 i k hk
    rcases h1 with rfl | ⟨m, rfl, hr, _⟩
    · rw [hopsAt_no]
      cases hc : reach l l.length i with
      | false => rfl
      | true =>
        obtain ⟨d, _, hd⟩ := dist_of hc
        have := h2 d hd (.inl (dist_lt hd))
        omega
    · obtain ⟨d, _, hd⟩ := dist_of hr
      have := h2 d hd (.inl (dist_lt hd))
      rw [this, hopsAt_of hd (Nat.le_of_lt (dist_lt hd))]
  · rw [List.getElem?_eq_none (by rw [h.1]; exact hge), List.getElem?_eq_none (by unfold hopsL; rw [List.length_map, List.length_range]; exact hge)]
theorem hopsL_len (l : List Nd) : (hopsL l).length = l.length := by unfold hopsL; rw [List.length_map, List.length_range]
/-- A row of numbers of the call's own, and what stands in it. -/
def OwnInts (base : Nat) (w : World) (g cap : Nat) (K : List Int) : Prop := w.ownsRow base 2 1 (.slice (some ⟨g, 0, none⟩) K.length cap) K.length (K.map (Value.int .i64))
theorem OwnInts.cell {base : Nat} {w : World} {g cap : Nat} {K : List Int} (h : OwnInts base w g cap K) {i : Nat} {k : Int} (hk : K[i]? = some k) : w.cell? ⟨g, i, none⟩ = some (.int .i64 k) := by
  have hil := (List.getElem?_eq_some_iff.1 hk).1
  rw [World.ownsRow.cellAt h _ (by omega), List.getElem?_map, hk]
  rfl
theorem OwnInts.thaw {base : Nat} {w : World} {g cap : Nat} {K : List Int} (h : OwnInts base w g cap K) (i : Nat) : w.frozen? ⟨g, i, none⟩ = false := World.ownsRow.frozenAt h i
theorem OwnInts.put {base : Nat} {w : World} {g cap : Nat} {K : List Int} (h : OwnInts base w g cap K) (i : Nat) (k : Int) : OwnInts base (w.setCell ⟨g, i, none⟩ (.int .i64 k)) g cap (K.set i k) := by
  have := (World.ownsRow.stored h i (.int .i64 k)).1
  unfold OwnInts
  rw [List.length_set, List.map_set]
  exact this
theorem OwnInts.next {base : Nat} {w w' : World} {g cap : Nat} {K : List Int} (h : OwnInts base w g cap K) (hb : Below w.heap.size w w') : OwnInts base w' g cap K := ownsRow_next h hb
set_option maxRecDepth 100000 in
set_option maxHeartbeats 4000000 in
theorem hopsFrom_c (v : Nd) (px : Option Addr) (pc : Nat) (hm1 : v.peers.length ≤ 1048576) (K : List Int) (hin : ∀ p ∈ v.peers, 0 ≤ p ∧ p < K.length) (hKb : ∀ p ∈ v.peers, -1 ≤ knownAt K p ∧ knownAt K p ≤ 100000) (base g cap n : Nat) (hn : Hid (n = K.length)) (hn1 : n ≤ 1000) (w : World) (h : IntsAt w.heap.size w px v.peers) (hK : OwnInts base w g cap K) :
    Calls Try.prog 12 #[.agg #[.bool v.src, .slice px v.peers.length pc, .int .i64 v.ref, .int .i64 v.str], .slice (some ⟨g, 0, none⟩) n cap] w fun e w' => e = .returned (.int .i64 (hopsFromV K v)) ∧ Below w.heap.size w w' := by
  have Q0 := blk_new w (.cells #[.bool v.src, .slice px v.peers.length pc, .int .i64 v.ref, .int .i64 v.str] 31)
  have B0 : Below w.heap.size w (w.alloc (.cells #[.bool v.src, .slice px v.peers.length pc, .int .i64 v.ref, .int .i64 v.str] 31)) := below_new _ _
  have h0 := h.next B0
  have K0 := hK.next B0
  obtain ⟨m, hm⟩ : ∃ m, v.peers.length = m := ⟨_, rfl⟩
  have HM := Lib.hid hm
  obtain ⟨c0, c1, c2, c3⟩ := node_cells Q0
  rw [hm] at Q0 B0 h0 K0 c0 c1 c2 c3 hm1
  go_enter Try.func12, Try.ntmps12
  rw [hm]
  clear hm h hK
  go_upto_region 1 with (fail)
  generalize w.alloc (.cells #[.bool v.src, .slice px m pc, .int .i64 v.ref, .int .i64 v.str] 31) = w0 at *
  cases hs : v.src with
  | true =>
    rw [hs] at c0
    have HV : Hid (hopsFromV K v = 0) := Lib.hid (by unfold hopsFromV; rw [hs]; rfl)
    clear hs
    go_wp2_with fail
    go_returns
    exact ⟨by rw [HV.out]; rfl, B0⟩
  | false =>
    rw [hs] at c0
    have HV : Hid (hopsFromV K v = nearV K v.peers) := Lib.hid (by unfold hopsFromV; rw [hs]; rfl)
    clear hs
    go_wp2_with fail
    go_loop [5, 13] (fun a i => ∃ (k : Nat) (q : Int), k ≤ m ∧ i = .int .i64 k ∧ a = .int .i64 q ∧ Hid (q = nearV K (v.peers.take k))) (fun _ i => m - (intOf i).toNat)
    case atStart => exact ⟨0, -1, Nat.zero_le _, rfl, rfl, Lib.hid rfl⟩
    case round =>
      obtain ⟨k, q, hk, rfl, rfl, HQ⟩ := hrel
      by_cases hlt : k < m
      · obtain ⟨p, hp⟩ := getI (l := v.peers) (k := k) (by rw [HM.out]; exact hlt)
        obtain ⟨b', off', rfl, _, d0⟩ := h0.at_ hp
        have hpm := List.mem_of_getElem? hp
        obtain ⟨p0, p1⟩ := hin p hpm
        obtain ⟨kb0, kb1⟩ := hKb p hpm
        obtain ⟨j, rfl⟩ : ∃ j : Nat, p = (j : Int) := ⟨p.toNat, by omega⟩
        obtain ⟨a, ha⟩ := getI (l := K) (k := j) (by omega)
        have hka : knownAt K (j : Int) = a := knownAt_of (by rw [Int.toNat_natCast]; exact ha)
        have hnx := nearV_next K hp
        rw [← HQ.out] at hnx
        unfold nearStep at hnx
        rw [hka] at hnx kb0 kb1
        have hc := K0.cell ha
        have hjn : j < n := by rw [hn.out]; omega
        have hw : IntKind.i64.wrap (a + 1) = a + 1 := IntWalk.i64_in _ (by omega)
        clear hp hka ha hpm
        by_cases ha1 : a = -1
        · subst ha1
          rw [if_neg (by intro h; exact h.1 rfl)] at hnx
          have HNX := Lib.hid hnx.symm
          have hd : ((-1 : Int) != -1) = false := rfl
          clear hnx
          go_wp2_with fail
          go_round
          case rel => exact ⟨k + 1, q, by omega, by go_num, rfl, HNX⟩
          case measure => simp [intOf]; omega
        · have hd : (a != -1) = true := by simpa using ha1
          have hd' : (a == -1) = false := by simpa using ha1
          by_cases hq : q = -1
          · subst hq
            rw [if_pos ⟨ha1, .inl rfl⟩] at hnx
            have HNX := Lib.hid hnx.symm
            clear hnx ha1
            go_wp2_with fail
            go_round
            case rel => exact ⟨k + 1, a + 1, by omega, by go_num, rfl, HNX⟩
            case measure => simp [intOf]; omega
          · have hdq : (q == -1) = false := by simpa using hq
            by_cases hlo : a + 1 < q
            · rw [if_pos ⟨ha1, .inr hlo⟩] at hnx
              have HNX := Lib.hid hnx.symm
              have hdl : decide (a + 1 < q) = true := decide_eq_true hlo
              clear hnx ha1 hq hlo
              go_wp2_with fail
              go_round
              case rel => exact ⟨k + 1, a + 1, by omega, by go_num, rfl, HNX⟩
              case measure => simp [intOf]; omega
            · rw [if_neg (fun h => h.2.elim (fun h => hq h) (fun h => hlo h))] at hnx
              have HNX := Lib.hid hnx.symm
              have hdl : decide (a + 1 < q) = false := decide_eq_false hlo
              clear hnx ha1 hq hlo
              go_wp2_with fail
              go_round
              case rel => exact ⟨k + 1, q, by omega, by go_num, rfl, HNX⟩
              case measure => simp [intOf]; omega
      · have HE : Hid (q = nearV K v.peers) := Lib.hid (by rw [HQ.out, show k = m by omega, ← HM.out, List.take_length])
        go_wp2_with fail
        go_returns
        exact ⟨by rw [HV.out, ← HE.out]; rfl, B0⟩
end Go.Proofs.Ytpfbdghjppmpnaa
