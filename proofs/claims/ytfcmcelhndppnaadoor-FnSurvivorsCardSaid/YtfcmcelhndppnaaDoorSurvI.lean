/- Who is left of ranked peers: the program's way. -/
import Derived.Test.YtfcmcelhndppnaaDoorSurvMath
import Derived.Test.YtfcmcelhndppnaaDoorRankI
import Derived.Test.YtfcmcelhndppnaaDoorDeleteP
namespace Go.Proofs.YtfcmcelhndppnaaDoor
open Go.ChangeShapes Go.WideShapes Go.ChangeAt Go.RowKit Go.Sort
set_option linter.unusedVariables false
set_option linter.unusedSimpArgs false

theorem apart_c (a b : Int) (ha : -1000000000000 ≤ a ∧ a ≤ 1000000000000) (hb : -1000000000000 ≤ b ∧ b ≤ 1000000000000) (w : World) :
    Calls Tryd.prog 68 #[.int .i64 a, .int .i64 b] w fun e w' => e = .returned (.int .i64 (apartV a b)) ∧ Below w.heap.size w w' := by
  have h1 : IntKind.i64.wrap (a - b) = a - b := IntWalk.i64_in _ (by omega)
  have h2 : IntKind.i64.wrap (b - a) = b - a := IntWalk.i64_in _ (by omega)
  by_cases h : b - a ≤ a - b
  · rw [apartV_ge h]
    have hd : decide (a - b < b - a) = false := decide_eq_false (by omega)
    have hd' : ¬ a - b < b - a := by omega
    go_enter Tryd.func68, Tryd.ntmps68
    go_wp2
    all_goals
      go_returns
      exact ⟨by congr 2 <;> omega, Below.refl _ _⟩
  · rw [apartV_lt h]
    have hd : decide (a - b < b - a) = true := decide_eq_true (by omega)
    have hd' : a - b < b - a := by omega
    go_enter Tryd.func68, Tryd.ntmps68
    go_wp2
    all_goals
      go_returns
      exact ⟨by congr 2 <;> omega, Below.refl _ _⟩

set_option maxHeartbeats 2000000 in
theorem farFromAll_c (p : Pr) (hp : p.s.ok = true) (l : List Pr) (hA : AllSm l) (n : Nat) (hn : Hid (n = l.length)) (hm : n ≤ 100) (a : Addr) (y : Option Addr) (cap : Nat) (w : World) (ha : PrAt w.heap.size w a p) (h : PtrPrs w.heap.size w y l) :
    Calls Tryd.prog 61 #[.pointer (some a), .slice y n cap] w fun e w' => e = .returned (.int .i64 (farV p l)) ∧ Below w.heap.size w w' := by
  have hpo := offs_in hp
  obtain ⟨b0, o0, rfl, hb0, q0, q1, q2, q3, q4, q5⟩ := ha
  have HQ := Lib.hid q2
  clear q0 q1 q2 q3 q4 q5
  go_enter Tryd.func61, Tryd.ntmps61
  go_wp2
  go_loopw [5, 10] (fun s i wr => ∃ k : Nat, k ≤ n ∧ i = .int .i64 k ∧ s = .int .i64 (farV p (l.take k)) ∧ Below w.heap.size w wr) (fun _ i _ => n - (intOf i).toNat)
  case atStart => exact ⟨0, Nat.zero_le _, rfl, rfl, Below.refl _ _⟩
  case round =>
    obtain ⟨k, hk, rfl, hs, hb⟩ := hrel
    by_cases hlt : k < n
    · obtain ⟨v, hv⟩ := getP (l := l) (k := k) (by rw [← hn.out]; exact hlt)
      obtain ⟨g, o, z, rfl, hgB, ca, b, off, rfl, hbB, c0, c1, c2, c3, c4, c5⟩ := (h.next hb).at_ hv
      have hvo := offs_in (hA.at_ hv)
      have hF := farV_in hp _ (hA.take k)
      have hlen : (l.take k).length = k := by have := hn.out; simp; omega
      rw [hlen] at hF
      have hN := farV_next (p := p) hv
      obtain ⟨s, hs'⟩ : ∃ s, farV p (l.take k) = s := ⟨_, rfl⟩
      rw [hs'] at hs hF hN
      subst hs
      have hT := apartV_in hpo hvo
      have hC := fun W => apart_c p.s.off v.s.off hpo hvo W
      obtain ⟨t, ht⟩ : ∃ t, apartV p.s.off v.s.off = t := ⟨_, rfl⟩
      rw [ht] at hN hT hC
      have HN := Lib.hid hN
      have hw : IntKind.i64.wrap (s + t) = s + t := IntWalk.i64_in _ (by omega)
      have d2 : wr.cell? ⟨b0, o0 + 2, none⟩ = some (.int .i64 p.s.off) := (hb.cell (p := ⟨b0, o0 + 2, none⟩) hb0).trans HQ.out
      have kx := cell_regrown d2
      have ky := cell_regrown c2
      have KA := Lib.hid (fun d os => Calls.regrown_of (hC (grow (redrawn wr d) os)))
      clear hv hvo hF hlen hN hs' hT hC ht c0 c1 c3 c4 c5 hpo
      go_wp2_with fail
      refine wp_region_quiet_below (by kernel_rfl) (by kernel_rfl) ?_
      repeat ((with_reducible refine wpQuiet_step (fun K hK => ?_)); go_simp; first | ((with_reducible refine hK _ ?_); clear hK K) | (rw [if_neg (by intro h; exact nomatch h)]; (with_reducible refine hK _ ?_); clear hK K) | (apply Exists.intro; (with_reducible refine ⟨fun _ => ?_, hK _ ?_⟩); (with_reducible exact KA.out _ _); clear hK K))
      with_reducible refine wpQuiet_nil ?_
      intro _ hw'
      obtain ⟨⟨dq1, osq1⟩, hw''⟩ := hw'
      subst hw''
      have g1 := below_regrown wr dq1 osq1
      generalize hW1 : grow (redrawn wr dq1) osq1 = W1 at *
      clear hW1 kx ky KA
      go_wp2_with fail
      go_roundw
      case rel => exact ⟨k + 1, by omega, by go_num, by rw [HN.out], grow_next hb g1⟩
      case measure => simp [intOf]; omega
    · have e : k = n := by omega
      have e1 : l.take k = l := by rw [e, hn.out, List.take_length]
      rw [e1] at hs
      subst hs
      clear e e1
      go_wp2_with fail
      go_returns
      exact ⟨rfl, hb⟩

set_option maxHeartbeats 2000000 in
theorem farthest_c (l : List Pr) (hA : AllSm l) (n : Nat) (hn : Hid (n = l.length)) (hm : n ≤ 100) (y : Option Addr) (cap : Nat) (w : World) (h : PtrPrs w.heap.size w y l) :
    Calls Tryd.prog 47 #[.slice y n cap] w fun e w' => e = .returned (.int .i64 (worstL l)) ∧ Below w.heap.size w w' := by
  have h0 := farAt_nonneg hA 0
  go_enter Tryd.func47, Tryd.ntmps47
  go_wp2
  go_loopw [3, 4, 10] (fun pl mo i wr => ∃ k : Nat, k ≤ n ∧ i = .int .i64 k ∧ pl = .int .i64 (worstF (farAt l) k) ∧ mo = .int .i64 (mostF (farAt l) k) ∧ Below w.heap.size w wr) (fun _ _ i _ => n - (intOf i).toNat)
  case atStart => exact ⟨0, Nat.zero_le _, rfl, rfl, rfl, Below.refl _ _⟩
  case round =>
    obtain ⟨k, hk, rfl, hpl, hmo, hb⟩ := hrel
    by_cases hlt : k < n
    · obtain ⟨v, hv⟩ := getP (l := l) (k := k) (by rw [← hn.out]; exact hlt)
      obtain ⟨g, o, z, rfl, hgB, ca, hz⟩ := (h.next hb).at_ hv
      have hC := fun y cap w ha h => farFromAll_c v (hA.at_ hv) l hA n hn hm z y cap w ha h
      rw [← farAt_at hv] at hC
      obtain ⟨f, hf⟩ : ∃ f, farAt l k = f := ⟨_, rfl⟩
      obtain ⟨p, hp⟩ : ∃ p, worstF (farAt l) k = p := ⟨_, rfl⟩
      obtain ⟨m, hm'⟩ : ∃ m, mostF (farAt l) k = m := ⟨_, rfl⟩
      rw [hp] at hpl
      rw [hm'] at hmo
      rw [hf] at hC
      subst hpl hmo
      have HC := Lib.hid hC
      have HP := Lib.hid (h.next hb)
      have HZ := Lib.hid hz
      clear hC hv hz
      by_cases hge : m ≤ f
      · obtain ⟨e1, e2⟩ := mostF_yes h0 (show mostF (farAt l) k ≤ farAt l k by rw [hm', hf]; exact hge)
        rw [hf] at e2
        have E1 := Lib.hid e1
        have E2 := Lib.hid e2
        have hd : decide (m ≤ f) = true := decide_eq_true hge
        clear e1 e2 hf hp hm'
        go_wp2_with fail
        refine (HC.out _ cap _ HZ.out HP.out).mono ?_
        rintro e w2 ⟨rfl, hb2⟩
        go_wp2_with fail
        go_roundw
        case rel => exact ⟨k + 1, by omega, by go_num, by rw [E1.out], by rw [E2.out], grow_next hb hb2⟩
        case measure => simp [intOf]; omega
      · obtain ⟨e1, e2⟩ := mostF_no h0 (show ¬ mostF (farAt l) k ≤ farAt l k by rw [hm', hf]; exact hge)
        rw [hp] at e1
        rw [hm'] at e2
        have E1 := Lib.hid e1
        have E2 := Lib.hid e2
        have hd : decide (m ≤ f) = false := decide_eq_false hge
        clear e1 e2 hf hp hm'
        go_wp2_with fail
        refine (HC.out _ cap _ HZ.out HP.out).mono ?_
        rintro e w2 ⟨rfl, hb2⟩
        go_wp2_with fail
        go_roundw
        case rel => exact ⟨k + 1, by omega, by go_num, by rw [E1.out], by rw [E2.out], grow_next hb hb2⟩
        case measure => simp [intOf]; omega
    · have e : k = n := by omega
      have e1 : worstF (farAt l) k = worstL l := by rw [e, hn.out]; rfl
      rw [e1] at hpl
      subst hpl
      clear e e1
      go_wp2_with fail
      go_returns
      exact ⟨rfl, hb⟩

def sliceLen : Value → Nat
  | .slice _ n _ => n
  | _ => 0

/-- Pointers to those that are left. -/
def SurvPost (w : World) (l : List Pr) : Ending → World → Prop := fun r w' =>
  ∃ (y : Option Addr) (c m : Nat) (E : List Pt), r = .returned (.slice y m c) ∧ Hid (m = E.length) ∧ PtOwn w.heap.size w' y c E ∧ Hid (valsP E = l) ∧ Below w.heap.size w w'

theorem PtRow.caps {base : Nat} {W : World} {x : Option Addr} {cap : Nat} {E : List Pt} (h : PtRow base W x cap E) : E.length ≤ cap ∧ cap ≤ maxLen := by
  rcases h.2 with ⟨e, e0⟩ | ⟨g, c, cur, e, hb, hg, h1, h2, _⟩
  · simp only [Value.slice.injEq] at e
    obtain ⟨_, _, rfl⟩ := e
    exact ⟨by omega, Nat.zero_le _⟩
  · simp only [Value.slice.injEq] at e
    obtain ⟨_, _, rfl⟩ := e
    exact ⟨h1, h2⟩

set_option maxHeartbeats 2000000 in
theorem survI_c (l : List Pr) (hA : AllSm l) (hI : IdsApart l) (n : Nat) (hn : Hid (n = l.length)) (hm : n ≤ 100) (least : Int) (hle : 1 ≤ least) (x : Option Addr) (cap : Nat) (w : World) (h : PtrPrs w.heap.size w x l) {ao an au : Addr} (L : Ld w ao an au) :
    Calls Tryd.prog 33 #[.slice x n cap, .int .i64 least] w (SurvPost w (leftV (rkV l) least)) := by
  have hAr := rkV_all hA
  have hlr : n = (rkV l).length := by rw [rkV_length]; exact hn.out
  have HLR := Lib.hid hlr
  clear hlr
  go_enter Tryd.func33, Tryd.ntmps33
  go_wp2_with fail
  refine (rankedI_c l hA hI n hn hm x cap _ h L).mono ?_
  rintro e w1 ⟨y1, c1, E1, rfl, hE1, hO1, hV1, hb1⟩
  go_wp2_with fail
  go_loopw [5] (fun o wr => ∃ (k m : Nat) (y : Option Addr) (c : Nat) (E : List Pt), o = .slice y m c ∧ Hid (m = E.length) ∧ m + k = n ∧ PtOwn w.heap.size wr y c E ∧ Hid (valsP E = leftN k (rkV l)) ∧ (k = 0 ∨ least ≤ (m : Int)) ∧ Below w.heap.size w wr) (fun o _ => sliceLen o)
  case atStart => exact ⟨0, n, y1, c1, E1, rfl, hE1, rfl, hO1, hV1, .inl rfl, hb1⟩
  case round =>
    obtain ⟨k, m, y, c, E, rfl, hE, hmk, hO, hV, hst, hb⟩ := hrel
    have hm0 : IntKind.i64.wrap (m : Int) = (m : Int) := IntWalk.i64_in _ (by omega)
    by_cases hlt : least < (m : Int)
    · have hd : decide (least < (m : Int)) = true := decide_eq_true hlt
      have hpos : 0 < E.length := by have := hE.out; omega
      have hcaps := hO.row.caps
      rw [← hE.out] at hcaps
      obtain ⟨g, rfl⟩ : ∃ g, y = some ⟨g, 0, none⟩ := by
        obtain ⟨z, hz⟩ := getP (l := E) (k := 0) hpos
        obtain ⟨g, hg, _⟩ := hO.row.at_ hz
        exact ⟨g, hg⟩
      have hP := hO.row.ptrs hO.held hb.size
      rw [hV.out] at hP
      have hN : Hid (m = (leftN k (rkV l)).length) := Lib.hid (by rw [leftN_length, ← HLR.out]; omega)
      have hw := worstL_lt (l := leftN k (rkV l)) (by rw [← hN.out]; omega)
      rw [← hN.out] at hw
      have hC := farthest_c (leftN k (rkV l)) (leftN_all hAr k) m hN (by omega) (some ⟨g, 0, none⟩) c _ hP
      have hX : Hid (valsP (E.eraseIdx (worstL (leftN k (rkV l)))) = leftN (k + 1) (rkV l)) := Lib.hid (by
        have : valsP (E.eraseIdx (worstL (leftN k (rkV l)))) = (valsP E).eraseIdx (worstL (leftN k (rkV l))) := by simp [valsP, List.eraseIdx_eq_take_drop_succ, List.map_take, List.map_drop]
        rw [this, hV.out]
        rfl)
      obtain ⟨p, hp⟩ : ∃ p, worstL (leftN k (rkV l)) = p := ⟨_, rfl⟩
      rw [hp] at hw hC hX
      have HC := Lib.hid hC
      have hp1 : IntKind.i64.wrap ((p : Int) + 1) = (p : Int) + 1 := IntWalk.i64_in _ (by omega)
      clear hC hp hpos
      go_wp2_with fail
      refine (HC.out).mono ?_
      rintro e w2 ⟨rfl, hb2⟩
      have hr2 := hO.row.next hb2
      have hlt2 := hr2.lt g rfl
      have g2 := grow_next hb hb2
      have hh2 := hO.held.below (hb2.mono hb.size)
      go_wp2_with fail
      refine (delete_c w.heap.size g c m p ((p : Int) + 1) (Lib.hid rfl) E hE hw hcaps.1 hcaps.2 _ hr2).mono ?_
      rintro e w3 ⟨rfl, hr3, hg3⟩
      have g3 : Below w.heap.size w w3 := g2.grown hg3 g2.size (fun j e => by simp only [Option.some.injEq] at e; omega)
      have hb3 : Below w.heap.size w2 w3 := (Below.refl _ _).grown hg3 g2.size (fun j e => by simp only [Option.some.injEq] at e; omega)
      have hE3 : Hid (m - 1 = (E.eraseIdx p).length) := Lib.hid (by rw [List.length_eraseIdx, if_pos (by rw [← hE.out]; exact hw), ← hE.out])
      have hh3 : Held w.heap.size w3 (E.eraseIdx p) := fun z hz => (hh2.below hb3) z ((List.eraseIdx_sublist _ _).subset hz)
      have hm1 : 0 < m := by omega
      go_wp2_with fail
      go_roundw
      case rel => exact ⟨k + 1, m - 1, _, c, _, rfl, hE3, by omega, ⟨hr3, hh3⟩, hX, .inr (by omega), g3⟩
      case measure => simp [sliceLen]; omega
    · have hd : decide (least < (m : Int)) = false := decide_eq_false hlt
      have hX : Hid (valsP E = leftV (rkV l) least) := Lib.hid (hV.out.trans (left_end (by rw [← HLR.out]; exact hmk) hst hlt))
      go_wp2_with fail
      go_returns
      exact ⟨y, c, m, E, rfl, hE, hO, hX, hb⟩

theorem surv_impl (l : List Pr) (n : Nat) (hn : Hid (n = l.length)) (hm : n ≤ maxLen) (least : Int) (x : Option Addr) (cap : Nat) (w : World) (h : Prs w.heap.size w x l) {ao an au : Addr} (L : Ld w ao an au) :
    Calls Tryd.prog 16 #[.slice x n cap, .int .i64 least] w (RowPost w (survV l least) (survV l least).length) := by
  cases ho : okPrs l with
  | false =>
    have HO := Lib.hid (show Calls Tryd.prog 21 #[.slice x n cap] w fun e w' => e = .returned (.bool false) ∧ Below w.heap.size w w' from ho ▸ peersOk_impl l n hn hm x cap w h L)
    rw [survV_no ho]
    clear ho
    go_enter Tryd.func16, Tryd.ntmps16
    go_wp2_with fail
    refine (HO.out).mono ?_
    rintro e w1 ⟨rfl, hb1⟩
    go_wp2_with fail
    go_returns
    exact ⟨_, rfl, World.ownsRow_nil _ _ _ _, hb1⟩
  | true =>
    have HO := Lib.hid (show Calls Tryd.prog 21 #[.slice x n cap] w fun e w' => e = .returned (.bool true) ∧ Below w.heap.size w w' from ho ▸ peersOk_impl l n hn hm x cap w h L)
    by_cases h1 : 1 ≤ least
    · obtain ⟨hA, hl⟩ := okPrs_all ho
      have hI := okPrs_ids ho
      rw [survV_yes ho h1]
      have hn20 : n ≤ 20 := by have := hn.out; omega
      have hd : decide (least < 1) = false := decide_eq_false (by omega)
      have hlm : (leftV (rkV l) least).length ≤ n := by rw [leftV_length, rkV_length, hn.out]; omega
      obtain ⟨m0, hm0⟩ : ∃ m, m = (leftV (rkV l) least).length := ⟨_, rfl⟩
      rw [← hm0] at hlm ⊢
      have HM := Lib.hid hm0
      clear ho hl hm0
      go_enter Tryd.func16, Tryd.ntmps16
      go_wp2_with fail
      refine (HO.out).mono ?_
      rintro e w1 ⟨rfl, hb1⟩
      go_wp2_with fail
      refine (pointers_c l n hn (by omega) x cap _ (h.next hb1)).mono ?_
      rintro e w2 ⟨y, c, rfl, hy, hb2⟩
      have g2 := grow_next hb1 hb2
      go_wp2_with fail
      refine (survI_c l hA hI n hn (by omega) least h1 y c _ hy (L.next g2)).mono ?_
      rintro e w3 ⟨y3, c3, m, E, rfl, hE, hO3, hV, hb3⟩
      have g3 := grow_next g2 hb3
      have h3 := hO3.row.ptrs hO3.held hb3.size
      rw [hV.out] at h3
      have hmm : m = m0 := by rw [hE.out, HM.out, ← hV.out, valsP_len]
      subst hmm
      go_wp2_with fail
      refine (peersAt_c (leftV (rkV l) least) m HM (by omega) y3 c3 _ h3).mono ?_
      rintro e w4 ⟨v, rfl, hown, hb4⟩
      have g4 := grow_next g3 hb4
      go_wp2_with fail
      go_returns
      exact ⟨v, rfl, ownsRow_lower hown g3.size, g4⟩
    · rw [survV_no' (by omega)]
      have hd : decide (least < 1) = true := decide_eq_true (by omega)
      have hd' : least < 1 := by omega
      clear ho
      go_enter Tryd.func16, Tryd.ntmps16
      go_wp2_with fail
      refine (HO.out).mono ?_
      rintro e w1 ⟨rfl, hb1⟩
      go_wp2_with fail
      go_returns
      exact ⟨_, rfl, World.ownsRow_nil _ _ _ _, hb1⟩
end Go.Proofs.YtfcmcelhndppnaaDoor
