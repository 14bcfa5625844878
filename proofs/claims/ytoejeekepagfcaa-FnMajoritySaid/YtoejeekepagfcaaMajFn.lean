/- When more than half have a place, what they agree in lies with it in one of them: at all drawn intervals, at all places about. -/
import Derived.Test.YtoejeekepagfcaaIvsDraw
import Derived.Test.YtoejeekepagfcaaAgreeLess
import Derived.Test.YtoejeekepagfcaaMajority
namespace Go.Proofs.Ytoejeekepagfcaa
open Go.ChangeShapes Go.WideShapes Go.ChangeAt Go.RowKit
set_option linter.unusedVariables false
set_option linter.unusedSimpArgs false

theorem pigeon {α : Type} (p q : α → Bool) : ∀ (l : List α), l.length < l.countP p + l.countP q → ∃ v ∈ l, p v = true ∧ q v = true := by
  intro l
  induction l with
  | nil => intro h; simp at h
  | cons a l ih =>
    intro h
    by_cases ha : p a = true ∧ q a = true
    · exact ⟨a, by simp, ha⟩
    · have : l.length < l.countP p + l.countP q := by
        rw [List.countP_cons, List.countP_cons, List.length_cons] at h
        cases hp : p a <;> cases hq : q a <;> simp_all <;> omega
      obtain ⟨v, hv, h1⟩ := ih this
      exact ⟨v, by simp [hv], h1⟩

theorem depthV_le {l : List Iv} {lo hi M : Int} (h : Agr l lo hi M) (p : Int) : -1 ≤ depthV l p ∧ depthV l p ≤ M := by
  unfold depthV
  rcases h with ⟨a, b, c⟩ | ⟨a, _, _, d⟩
  · rw [a]
    have := c.top (okIvs_parts a).1 p
    simp
    omega
  · rcases a with a | a
    · rw [a]; simp; omega
    · subst a
      rw [d]
      split <;> simp [depthOf]

/-- One of them has the place and all of what is told. -/
def bothIn (p lo hi : Int) (v : Iv) : Bool := inB v.lo p v.hi && decide (v.lo ≤ lo) && decide (hi ≤ v.hi)
def bothTo (l : List Iv) (p lo hi : Int) (k : Nat) : Bool := (l.take k).any (bothIn p lo hi)
theorem bothTo_next {l : List Iv} {k : Nat} {v : Iv} (h : l[k]? = some v) (p lo hi : Int) : bothTo l p lo hi (k + 1) = (bothTo l p lo hi k || bothIn p lo hi v) := by
  unfold bothTo
  rw [take_next h]
  simp
theorem both_all {l : List Iv} {lo hi M : Int} (h : Agr l lo hi M) {p : Int} (hp : (l.length : Int) < 2 * depthV l p) : bothTo l p lo hi l.length = true := by
  rcases h with ⟨a, b, c⟩ | ⟨a, _, _, d⟩
  · have hd : depthV l p = depthOf l p := by unfold depthV; rw [a]; rfl
    rw [hd] at hp
    have ht := c.top (okIvs_parts a).1 p
    have hdl := c.depth
    obtain ⟨v, hv, h1, h2⟩ := pigeon (fun i : Iv => inB i.lo p i.hi) (fun i : Iv => inB i.lo lo i.hi) l (by
      have e1 : l.countP (fun i : Iv => inB i.lo p i.hi) = depthOf l p := rfl
      have e2 : l.countP (fun i : Iv => inB i.lo lo i.hi) = depthOf l lo := rfl
      rw [e1, e2]
      omega)
    unfold bothTo
    rw [List.take_length, List.any_eq_true]
    refine ⟨v, hv, ?_⟩
    have h3 := c.first v hv h2
    obtain ⟨h4, _⟩ := inB_iff.1 h2
    simp [bothIn, h1, h3, h4]
  · rcases a with a | a
    · unfold depthV at hp
      rw [a] at hp
      simp at hp
      omega
    · subst a
      unfold depthV at hp
      split at hp <;> simp [depthOf] at hp

set_option maxRecDepth 100000 in
set_option maxHeartbeats 16000000 in
theorem mf_walk (w : World) (x : Option Addr) (n cap z : Nat) (hz : z = n ∧ Code w.heap.size w (.slice x n cap) n) :
    Calls Try.prog 8 #[.slice x n cap] w fun e w' => e = .returned (.bool true) ∧ Below w.heap.size w w' := by
  obtain ⟨_, hc⟩ := hz
  by_cases hbig : n ≤ 1048576
  · go_enter Try.func8, Try.ntmps8
    go_wp2_with (go_at_call 27; go_in)
    refine (drawMajority_c x n cap _ hc hbig).mono ?_
    rintro e w1 ⟨y, c, l, rfl, hl8, hrow, hb1⟩
    obtain ⟨m, hm⟩ : ∃ m, m = l.length := ⟨_, rfl⟩
    have hm8 : m ≤ 8 := by rw [hm]; exact hl8
    have HM := Lib.hid hm
    rw [← hm]
    clear hm hl8
    go_wp2_with fail
    refine ((majority_impl l m HM (by omega) y c _ hrow.ivs).mono fun _ _ h => maj_told h).mono ?_
    rintro e w2 ⟨u, v, is, rfl, hA, hb2⟩
    have HA := Lib.hid hA
    clear hA
    have g2 := grow_next hb1 hb2
    have B2 := blk_new w2 (.cells #[.int .i64 u, .int .i64 v] 25)
    have r2 := (hrow.next hb2).next (below_new w2 (.cells #[.int .i64 u, .int .i64 v] 25))
    have g2' : Below w.heap.size w (w2.alloc (.cells #[.int .i64 u, .int .i64 v] 25)) := g2.alloc (by have := g2.size; omega) _
    clear hrow hb1 hb2
    go_wp2_with fail
    refine ((majority_spec l m HM (by omega) y c _ r2.ivs).mono fun _ _ h => maj_told h).mono ?_
    rintro e w3 ⟨u', v', is', rfl, hA', hb3⟩
    obtain ⟨e1, e2, e3⟩ := HA.out.same hA'
    subst e1 e2 e3
    clear hA'
    have g3 := grow_next g2' hb3
    have B3 := blk_next hb3 B2
    have l3 := (Array.getElem?_eq_some_iff.1 B3).1
    obtain ⟨b0, b1⟩ := iv_cells (q := ⟨u, v⟩) B3
    have C3 := blk_new w3 (.cells #[.int .i64 u, .int .i64 v] 25)
    obtain ⟨c0, c1⟩ := iv_cells (q := ⟨u, v⟩) C3
    dsimp only at b0 b1 c0 c1
    have B4 := blk_alloc B3 (.cells #[.int .i64 u, .int .i64 v] 25)
    have r4 := (r2.next hb3).next (below_new w3 (.cells #[.int .i64 u, .int .i64 v] 25))
    have g4 : Below w.heap.size w (w3.alloc (.cells #[.int .i64 u, .int .i64 v] 25)) := g3.alloc (by have := g3.size; omega) _
    clear g2 g2' g3 r2 hb3 B2 B3 C3
    obtain ⟨lo, hi, M, hAg, hu, hv, his⟩ := HA.out
    rw [← HM.out] at hu hv his
    obtain ⟨M0, M1⟩ := hAg.bounds
    rw [← HM.out] at M1
    have HG := Lib.hid hAg
    clear hAg HA
    by_cases hmaj : 2 * M ≤ (m : Int)
    · rw [if_pos hmaj] at hu hv
      have his' : is = false := by rw [his, decide_eq_true hmaj]; rfl
      subst his' hu hv
      clear his
      go_wp2_with fail
      go_loopw [8] (fun i wr => ∃ p : Int, -40 ≤ p ∧ p ≤ 41 ∧ i = .int .i64 p ∧ Below (w3.alloc (.cells #[.int .i64 0, .int .i64 0] 25)).heap.size (w3.alloc (.cells #[.int .i64 0, .int .i64 0] 25)) wr) (fun i _ => (41 - intOf i).toNat)
      case atStart => exact ⟨-40, by omega, by omega, rfl, Below.refl _ _⟩
      case round =>
        obtain ⟨p, p0, p1, rfl, hb⟩ := hrel
        have rr := r4.next hb
        clear b0 b1 c0 c1
        by_cases hp : p ≤ 40
        · have hpd : decide (p ≤ 40) = true := decide_eq_true hp
          obtain ⟨D0, D1⟩ := depthV_le HG.out p
          obtain ⟨D, hD⟩ : ∃ D, depthV l p = D := ⟨_, rfl⟩
          have HP := Lib.hid (fun w h => hD ▸ depth_impl l p m HM (by omega) y c w h)
          rw [hD] at D0 D1
          have q1 : decide (2 * D ≤ (m : Int)) = true := decide_eq_true (by omega)
          clear hD
          go_wp2_with fail
          refine (HP.out _ rr.ivs).mono ?_
          rintro e w7 ⟨rfl, hb7⟩
          have g7 := grow_next hb hb7
          go_wp2_with fail
          go_roundw
          case rel => exact ⟨p + 1, by omega, by omega, by go_num, g7⟩
          case measure => simp [intOf]; omega
        · have hpd : decide (p ≤ 40) = false := decide_eq_false hp
          have gr := grow_next g4 hb
          go_wp2_with fail
          refine (agreed_impl l m HM (by omega) y c _ rr.ivs).mono ?_
          rintro e w7 ⟨lo', hi', M', rfl, hA', hb7⟩
          obtain ⟨e1, e2, e3⟩ := HG.out.same hA'
          subst e1 e2 e3
          clear hA'
          have g7 := grow_next gr hb7
          have g7' : Below w.heap.size w (w7.alloc (.cells #[.int .i64 lo, .int .i64 hi] 25)) := g7.alloc (by have := g7.size; omega) _
          have q2 : decide ((m : Int) < 2 * M) = false := decide_eq_false (by omega)
          go_wp2_with fail
          all_goals
            go_returns
            exact ⟨by simp, g7'⟩
    · rw [if_neg hmaj] at hu hv
      have his' : is = true := by rw [his, decide_eq_false hmaj]; rfl
      subst his' hu hv
      clear his
      go_wp2_with fail
      go_loopw [8] (fun i wr => ∃ p : Int, -40 ≤ p ∧ p ≤ 41 ∧ i = .int .i64 p ∧ Below (w3.alloc (.cells #[.int .i64 u, .int .i64 v] 25)).heap.size (w3.alloc (.cells #[.int .i64 u, .int .i64 v] 25)) wr) (fun i _ => (41 - intOf i).toNat)
      case atStart => exact ⟨-40, by omega, by omega, rfl, Below.refl _ _⟩
      case round =>
        obtain ⟨p, p0, p1, rfl, hb⟩ := hrel
        have rr := r4.next hb
        clear b0 b1 c0 c1
        by_cases hp : p ≤ 40
        · have hpd : decide (p ≤ 40) = true := decide_eq_true hp
          obtain ⟨D0, D1⟩ := depthV_le HG.out p
          obtain ⟨D, hD⟩ : ∃ D, depthV l p = D := ⟨_, rfl⟩
          have HP := Lib.hid (fun w h => hD ▸ depth_impl l p m HM (by omega) y c w h)
          rw [hD] at D0 D1
          have HD := Lib.hid hD
          clear hD
          by_cases hD2 : 2 * D ≤ (m : Int)
          · have q1 : decide (2 * D ≤ (m : Int)) = true := decide_eq_true hD2
            go_wp2_with fail
            refine (HP.out _ rr.ivs).mono ?_
            rintro e w7 ⟨rfl, hb7⟩
            have g7 := grow_next hb hb7
            go_wp2_with fail
            go_roundw
            case rel => exact ⟨p + 1, by omega, by omega, by go_num, g7⟩
            case measure => simp [intOf]; omega
          · have q1 : decide (2 * D ≤ (m : Int)) = false := decide_eq_false hD2
            have HB := Lib.hid (both_all HG.out (p := p) (by rw [HD.out, ← HM.out]; omega))
            clear hD2
            go_wp2_with fail
            refine (HP.out _ rr.ivs).mono ?_
            rintro e w7 ⟨rfl, hb7⟩
            have g7 := grow_next hb hb7
            go_wp2_with fail
            go_loopw [9, 10] (fun t i wq => ∃ (k : Nat) (b : Bool), k ≤ m ∧ i = .int .i64 k ∧ t = .bool b ∧ bothTo l p u v k = b ∧ Below (w3.alloc (.cells #[.int .i64 u, .int .i64 v] 25)).heap.size (w3.alloc (.cells #[.int .i64 u, .int .i64 v] 25)) wq) (fun _ i _ => m - (intOf i).toNat)
            case atStart => exact ⟨0, false, Nat.zero_le _, rfl, rfl, by simp [bothTo], g7⟩
            case round =>
              obtain ⟨k, b, hk, rfl, rfl, hbt, hbq⟩ := hrel
              have HT := Lib.hid hbt
              clear hbt
              by_cases hlt : k < m
              · obtain ⟨q, hq⟩ := get_at (l := l) (k := k) (by rw [← HM.out]; exact hlt)
                obtain ⟨bb, off, rfl, hbB, d0, d1⟩ := (r4.next hbq).ivs.at_ hq
                have Bq := blk_next hbq B4
                obtain ⟨b0, b1⟩ := iv_cells (q := ⟨u, v⟩) Bq
                dsimp only at b0 b1
                have HN := Lib.hid (bothTo_next hq p u v)
                clear hq
                cases b with
                | true =>
                  have HR := Lib.hid (show bothTo l p u v (k + 1) = true by rw [HN.out, HT.out]; rfl)
                  go_wp2_with fail
                  go_quiet (fail)
                  go_wp2_with fail
                  go_roundw
                  case rel => exact ⟨k + 1, true, by omega, by go_num, rfl, HR.out, grow_drew hbq _⟩
                  case measure => simp [intOf]; omega
                | false =>
                  by_cases h1 : q.lo ≤ p
                  · have s1 : decide (q.lo ≤ p) = true := decide_eq_true h1
                    by_cases h2 : p ≤ q.hi
                    · have s2 : decide (p ≤ q.hi) = true := decide_eq_true h2
                      by_cases h3 : q.lo ≤ u
                      · have s3 : decide (q.lo ≤ u) = true := decide_eq_true h3
                        by_cases h4 : v ≤ q.hi
                        · have s4 : decide (v ≤ q.hi) = true := decide_eq_true h4
                          have HR := Lib.hid (show bothTo l p u v (k + 1) = true by rw [HN.out, HT.out]; simp [bothIn, inB, h1, h2, h3, h4])
                          go_wp2_with fail
                          go_quiet (fail)
                          go_wp2_with fail
                          go_roundw
                          case rel => exact ⟨k + 1, true, by omega, by go_num, rfl, HR.out, grow_drew hbq _⟩
                          case measure => simp [intOf]; omega
                        · have s4 : decide (v ≤ q.hi) = false := decide_eq_false h4
                          have HR := Lib.hid (show bothTo l p u v (k + 1) = false by rw [HN.out, HT.out]; simp [bothIn, inB, h4])
                          go_wp2_with fail
                          go_quiet (fail)
                          go_wp2_with fail
                          go_roundw
                          case rel => exact ⟨k + 1, false, by omega, by go_num, rfl, HR.out, grow_drew hbq _⟩
                          case measure => simp [intOf]; omega
                      · have s3 : decide (q.lo ≤ u) = false := decide_eq_false h3
                        have HR := Lib.hid (show bothTo l p u v (k + 1) = false by rw [HN.out, HT.out]; simp [bothIn, inB, h3])
                        go_wp2_with fail
                        go_quiet (fail)
                        go_wp2_with fail
                        go_roundw
                        case rel => exact ⟨k + 1, false, by omega, by go_num, rfl, HR.out, grow_drew hbq _⟩
                        case measure => simp [intOf]; omega
                    · have s2 : decide (p ≤ q.hi) = false := decide_eq_false h2
                      have HR := Lib.hid (show bothTo l p u v (k + 1) = false by rw [HN.out, HT.out]; simp [bothIn, inB, h2])
                      go_wp2_with fail
                      go_quiet (fail)
                      go_wp2_with fail
                      go_roundw
                      case rel => exact ⟨k + 1, false, by omega, by go_num, rfl, HR.out, grow_drew hbq _⟩
                      case measure => simp [intOf]; omega
                  · have s1 : decide (q.lo ≤ p) = false := decide_eq_false h1
                    have HR := Lib.hid (show bothTo l p u v (k + 1) = false by rw [HN.out, HT.out]; simp [bothIn, inB, h1])
                    go_wp2_with fail
                    go_quiet (fail)
                    go_wp2_with fail
                    go_roundw
                    case rel => exact ⟨k + 1, false, by omega, by go_num, rfl, HR.out, grow_drew hbq _⟩
                    case measure => simp [intOf]; omega
              · have hke : k = m := by omega
                have hbt : b = true := by
                  have := HT.out
                  rw [hke, HM.out] at this
                  rw [← this]
                  exact HB.out
                subst hbt
                clear hke
                go_wp2_with fail
                go_roundw
                case rel => exact ⟨p + 1, by omega, by omega, by go_num, hbq⟩
                case measure => simp [intOf]; omega
        · have hpd : decide (p ≤ 40) = false := decide_eq_false hp
          have gr := grow_next g4 hb
          go_wp2_with fail
          refine (agreed_impl l m HM (by omega) y c _ rr.ivs).mono ?_
          rintro e w7 ⟨lo', hi', M', rfl, hA', hb7⟩
          obtain ⟨e1, e2, e3⟩ := HG.out.same hA'
          subst e1 e2 e3
          clear hA'
          have g7 := grow_next gr hb7
          have g7' : Below w.heap.size w (w7.alloc (.cells #[.int .i64 u, .int .i64 v] 25)) := g7.alloc (by have := g7.size; omega) _
          have q2 : decide ((m : Int) < 2 * M) = true := decide_eq_true (by omega)
          have q3 : decide ((0 : Int) < M) = true := decide_eq_true (by omega)
          go_wp2_with fail
          all_goals
            go_returns
            exact ⟨by simp, g7'⟩
  · go_enter Try.func8, Try.ntmps8
    go_wp2_with (go_at_call 27; go_in)
    go_returns
    exact ⟨rfl, Below.refl _ _⟩
set_option maxRecDepth 100000 in
theorem mf_lifted (os : Os) (started : os.Started) (H : Type) (enc : TypeId × Value → H) :
    ReturnsInHanded {} Try.checked os 8 .any (Rows.fnMajoritySpec.pre6 enc Try.prog Try.f8 Rows.fnMajorityRow.domain false) (Rows.fnMajoritySpec.post enc Try.prog Try.f8 false true false false) := by
  refine lifted_of_walk (C := Try.checked) own started (by as_aux_lemma => kernel_rfl) Try.func8
    (ChangeSpec.witness6 (enc := enc) (C := Try.checked) false ⟨#[], #[.slice none 0 0], []⟩ 8 (by as_aux_lemma => kernel_rfl) (by as_aux_lemma => kernel_rfl) (by as_aux_lemma => kernel_rfl) (by as_aux_lemma => kernel_rfl) (by as_aux_lemma => kernel_rfl))
    laidOut rfl (by as_aux_lemma => kernel_rfl) (by as_aux_lemma => kernel_rfl) boolType
    (fun ds h => by
      match ds, h with
      | [_], _ => rfl)
    ?_
  intro W base args ds q hval hA
  rw [Try.params8] at hA hval
  obtain ⟨v0, vs0, d0, ds0, p0, q0, hargs, rfl, rfl, h0, r0⟩ := trodAll_cons hA
  obtain ⟨rfl, rfl, rfl⟩ := trodAll_nil r0
  obtain rfl : args = #[v0] := by cases args; simp_all
  obtain ⟨a0, len0, cap0, z0, rfl, w0⟩ := open_bytes Try.underlying40 Try.underlying5 (by as_aux_lemma => kernel_rfl) (hval 0 40 v0 rfl rfl) h0
  exact mf_walk W a0 len0 cap0 z0 w0

theorem mf_facts : joinedFacts Try.pinned.checked.prog 8 Try.f8 Rows.fnMajoritySpec Rows.fnMajorityRow = true :=
  facts_of (P := Try.prog) (by as_aux_lemma => kernel_rfl) laidOut mapsRow (by as_aux_lemma => kernel_rfl) (by as_aux_lemma => kernel_rfl) rfl noStops rfl noKnobs (by as_aux_lemma => kernel_rfl) (by as_aux_lemma => kernel_rfl) (by as_aux_lemma => kernel_rfl) (by as_aux_lemma => kernel_rfl) (by as_aux_lemma => kernel_rfl) (by as_aux_lemma => kernel_rfl) (by as_aux_lemma => kernel_rfl) (by as_aux_lemma => kernel_rfl) (by as_aux_lemma => kernel_rfl) rfl (by as_aux_lemma => kernel_rfl) (by as_aux_lemma => kernel_rfl) (by as_aux_lemma => kernel_rfl) keysPlain rfl heard enters finals isMake rfl rfl rfl (by as_aux_lemma => kernel_rfl) (by as_aux_lemma => kernel_rfl)

/-- The given statement. -/
theorem mf_holds : Rows.FnMajoritySaid :=
  OpenClaim.holds_of_wide 8 Try.f8 rfl rfl rfl rfl rfl rfl rfl ⟨rfl, rfl, rfl, rfl, rfl⟩ rfl rfl rfl rfl rfl (by as_aux_lemma => kernel_rfl) Try.func8 mf_facts
    (of_decide_eq_true (by as_aux_lemma => kernel_rfl)) (by unfold Func.isWrapper; first | (rw [if_pos (by decide +kernel)]; kernel_rfl) | (rw [if_neg (by decide +kernel)]; exact ⟨rfl, rfl⟩))
    (fun os started H enc _ => mf_lifted os started H enc)
#print axioms mf_holds
end Go.Proofs.Ytoejeekepagfcaa
