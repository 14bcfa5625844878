/- Where nobody goes round in a ring each one comes, by those it follows, to one that follows nobody: at all drawn nodes. -/
import Derived.Test.YtfdlaomgaagmgaaLoops
import Derived.Test.YtfdlaomgaagmgaaNdDraws
namespace Go.Proofs.Ytfdlaomgaagmgaa
open Go.ChangeShapes Go.WideShapes Go.ChangeAt Go.RowKit
set_option linter.unusedVariables false
set_option linter.unusedSimpArgs false

/-- Where a node's first and third cells lie. -/
theorem Nds.two_ {w : World} {x : Option Addr} {l : List Nd} (h : Nds w.heap.size w x l) {i : Nat} {v : Nd} (hv : l[i]? = some v) : ∃ (b off : Nat), x = some ⟨b, off, none⟩ ∧ w.cell? ⟨b, off + i * 4, none⟩ = some (.bool v.src) ∧ w.cell? ⟨b, off + i * 4 + 2, none⟩ = some (.int .i64 v.ref) := by
  obtain ⟨b, off, px, pc, rfl, _, c0, c1, c2, c3, _⟩ := h.at_ hv
  exact ⟨b, off, rfl, c0, c2⟩
theorem src_ref {N a : Int} {v : Nd} (h : ndOk N a v = true) (hs : v.src = true) : v.ref = -1 := by
  have h1 := (nd_parts h).2.2
  unfold standsB at h1
  rw [hs] at h1
  simp only [if_true, Bool.and_eq_true, beq_iff_eq] at h1
  exact h1.1
set_option maxRecDepth 100000 in
set_option maxHeartbeats 4000000 in
theorem fo_walk (w : World) (x : Option Addr) (n cap z : Nat) (hz : z = n ∧ Code w.heap.size w (.slice x n cap) n) :
    Calls Try.prog 4 #[.slice x n cap] w fun e w' => e = .returned (.bool true) ∧ Below w.heap.size w w' := by
  obtain ⟨_, hc⟩ := hz
  by_cases hbig : n ≤ 1048576
  · go_enter Try.func4, Try.ntmps4
    go_wp2_with (go_at_call 6; go_in)
    refine (drawLoops_c x n cap _ hc hbig).mono ?_
    rintro e w1 ⟨y, m, c, l, rfl, hm, hm8, hnd, hb1⟩
    obtain ⟨o, ho⟩ : ∃ o, loopsV l = o := ⟨_, rfl⟩
    obtain ⟨b, hb⟩ : ∃ b, nodesOk l = b := ⟨_, rfl⟩
    have hmm : m ≤ maxLen := by unfold maxLen; omega
    have HI := Lib.hid (ho ▸ loops_impl l m hm hmm y c w1 hnd : Calls Try.prog 16 #[.slice y m c] w1 fun e w' => e = .returned (.bool o) ∧ Below w1.heap.size w1 w')
    have HS := Lib.hid (fun W h => (ho ▸ loops_spec l m hm hmm y c W h : Calls Try.prog 17 #[.slice y m c] W fun e w' => e = .returned (.bool o) ∧ Below W.heap.size W w'))
    have HN := Lib.hid (fun W h => (hb ▸ nodesOk_spec l m hm hmm y c W h : Calls Try.prog 13 #[.slice y m c] W fun e w' => e = .returned (.bool b) ∧ Below W.heap.size W w'))
    have HO := Lib.hid ho
    have HB := Lib.hid hb
    have hoo : (o != o) = false := by cases o <;> rfl
    have hoo2 : (o == o) = true := by cases o <;> rfl
    clear ho hb hmm
    go_wp2_with fail
    refine HI.out.mono ?_
    rintro e w2 ⟨rfl, hb2⟩
    have n2 := hnd.next hb2
    have g2 := grow_next hb1 hb2
    clear hnd hb1 hb2
    go_wp2_with fail
    refine (HS.out _ n2).mono ?_
    rintro e w3 ⟨rfl, hb3⟩
    have n3 := n2.next hb3
    have g3 := grow_next g2 hb3
    clear n2 g2 hb3
    go_wp2_with fail
    refine (HN.out _ n3).mono ?_
    rintro e w4 ⟨rfl, hb4⟩
    have n4 := n3.next hb4
    have g4 := grow_next g3 hb4
    clear n3 g3 hb4
    cases b with
    | false =>
      go_wp2_with fail
      refine (HS.out _ n4).mono ?_
      rintro e w5 ⟨rfl, hb5⟩
      go_wp2_with fail
      go_returns
      exact ⟨rfl, grow_next g4 hb5⟩
    | true =>
      go_wp2_with fail
      go_loopw [5] (fun q wr => ∃ i : Nat, i ≤ m ∧ q = .int .i64 i ∧ w4 = wr) (fun q _ => m - (intOf q).toNat)
      case atStart => exact ⟨0, Nat.zero_le _, rfl, rfl⟩
      case round =>
        obtain ⟨i, hi, rfl, rfl⟩ := hrel
        by_cases hlt : i < m
        · have hd0 : decide ((i : Int) < (m : Int)) = true := decide_eq_true (by omega)
          have HP := Lib.hid (fun k => posOf_in HB.out (i := (i : Int)) (by omega) (by rw [← hm.out]; omega) k)
          go_wp2_with fail
          go_loopw [6, 7] (fun a q wr' => ∃ (k : Nat) (p : Int), k ≤ m + 1 ∧ q = .int .i64 k ∧ a = .int .i64 p ∧ Hid (p = posOf l i k) ∧ 0 ≤ p ∧ p < m ∧ Hid (0 < k → 0 ≤ refAt l i) ∧ w4 = wr') (fun _ q _ => m + 1 - (intOf q).toNat)
          case atStart => exact ⟨0, i, Nat.zero_le _, rfl, rfl, Lib.hid rfl, by omega, by omega, Lib.hid (fun h => absurd h (Nat.lt_irrefl _)), rfl⟩
          case round =>
            obtain ⟨k, p, hk, rfl, rfl, HQ, p0, p1, HR, rfl⟩ := hrel
            have hd2 : decide (0 ≤ p) = true := decide_eq_true p0
            obtain ⟨j, b, off, e, hj, rfl, c0⟩ := n4.ref_ p0 (by rw [← hm.out]; exact p1)
            have hj' : j < m := by rw [hm.out]; exact hj
            have hnx : posOf l i (k + 1) = refAt l p := by rw [posOf_next (by rw [← HQ.out]; omega), ← HQ.out]
            have hin := HP.out (k + 1)
            rw [hnx, ← hm.out] at hin
            obtain ⟨r, hr⟩ : ∃ r, refAt l p = r := ⟨_, rfl⟩
            rw [hr] at c0 hnx hin
            have HNX := Lib.hid hnx
            have HRP := Lib.hid hr
            subst e
            obtain ⟨v, hv⟩ := getN (l := l) (k := i) (by rw [← hm.out]; exact hlt)
            obtain ⟨b2, off2, e2, d0, d1⟩ := n4.two_ hv
            simp only [Option.some.injEq, Addr.mk.injEq, and_true] at e2
            obtain ⟨rfl, rfl⟩ := e2
            have hri : refAt l (i : Int) = v.ref := refAt_of (by simpa using hv)
            have HV := Lib.hid hv
            have HRI := Lib.hid hri
            have hst : Hid (v.src = true → k = 0) := Lib.hid (fun hs => by
              rcases Nat.eq_zero_or_pos k with h | h
              · exact h
              · have h1 := HR.out h
                have h2 := src_ref (nodesOk_at HB.out HV.out) hs
                rw [HRI.out, h2] at h1
                omega)
            have hlp : Hid (m < k → o = true) := Lib.hid (fun hmk => by
              rw [← HO.out]
              refine loopsV_hit HB.out (i := i) (by rw [← hm.out]; exact hlt) ?_
              rcases Int.lt_or_le (posOf l i l.length) 0 with hx | hx
              · have := posOf_gone hx k (by rw [← hm.out]; omega)
                rw [← HQ.out] at this
                omega
              · exact hx)
            clear hnx hr hj hv hri d1
            by_cases hr0 : 0 ≤ r ∧ k ≤ m
            · have hd3 : decide (0 ≤ r) = true := decide_eq_true hr0.1
              have hd4 : decide ((k : Int) ≤ (m : Int)) = true := decide_eq_true (by omega)
              have HR' : Hid (0 < k + 1 → 0 ≤ refAt l i) := Lib.hid (fun _ => by
                rcases Nat.eq_zero_or_pos k with h | h
                · subst h
                  have hq := HQ.out
                  change (j : Int) = (i : Int) at hq
                  rw [← hq, HRP.out]
                  exact hr0.1
                · exact HR.out h)
              have hrr := hr0.1
              have hkk : k + 1 ≤ m + 1 := by omega
              clear hr0
              go_wp2_with fail
              go_roundw
              case rel => exact ⟨k + 1, r, hkk, by go_num, rfl, Lib.hid HNX.out.symm, hrr, hin.2, HR', trivial⟩
              case measure => simp [intOf]; omega
            · have hend : ∀ (bb : Bool), (decide (0 ≤ r) = bb) → (bb = true → decide ((k : Int) ≤ (m : Int)) = false) := fun bb h1 h2 => by
                subst h2
                exact decide_eq_false (fun h => hr0 ⟨of_decide_eq_true h1, by omega⟩)
              cases hs : v.src with
              | true =>
                rw [hs] at d0
                obtain rfl := hst.out hs
                have hd5 : decide ((m : Int) < ((0 : Nat) : Int)) = false := decide_eq_false (by omega)
                have hd6 : decide ((m : Int) < 0) = false := decide_eq_false (by omega)
                have hd4 : decide (((0 : Nat) : Int) ≤ (m : Int)) = true := decide_eq_true (by omega)
                cases hd3 : decide (0 ≤ r) with
                | true => exact absurd (hend _ hd3 rfl) (by rw [hd4]; decide)
                | false =>
                  clear hend hst hs
                  cases o <;> (go_wp2_with fail; go_roundw; (case rel => exact ⟨i + 1, by omega, by go_num, trivial⟩); (case measure => simp [intOf]; omega))
              | false =>
                rw [hs] at d0
                cases hmk : decide ((m : Int) < (k : Int)) with
                | true =>
                  obtain rfl := hlp.out (by have := of_decide_eq_true hmk; omega)
                  cases hd3 : decide (0 ≤ r) with
                  | true =>
                    have hd4 := hend _ hd3 rfl
                    have hkm : ¬ k ≤ m := by have := of_decide_eq_false hd4; omega
                    clear hend hst hs
                    go_wp2_with fail
                    go_roundw
                    case rel => exact ⟨i + 1, by omega, by go_num, trivial⟩
                    case measure => simp [intOf]; omega
                  | false =>
                    clear hend hst hs
                    go_wp2_with fail
                    go_roundw
                    case rel => exact ⟨i + 1, by omega, by go_num, trivial⟩
                    case measure => simp [intOf]; omega
                | false =>
                  cases hd3 : decide (0 ≤ r) with
                  | true =>
                    have := of_decide_eq_false (hend _ hd3 rfl)
                    have := of_decide_eq_false hmk
                    omega
                  | false =>
                    have hkm : k ≤ m := by have := of_decide_eq_false hmk; omega
                    clear hend hst hs
                    cases o <;> (go_wp2_with fail; go_roundw; (case rel => exact ⟨i + 1, by omega, by go_num, trivial⟩); (case measure => simp [intOf]; omega))
        · have hd0 : decide ((i : Int) < (m : Int)) = false := decide_eq_false (by omega)
          go_wp2_with fail
          go_returns
          exact ⟨rfl, g4⟩
  · go_enter Try.func4, Try.ntmps4
    go_wp2_with (go_at_call 6; go_in)
    go_returns
    exact ⟨rfl, Below.refl _ _⟩
set_option maxRecDepth 100000 in
theorem fo_lifted (os : Os) (started : os.Started) (H : Type) (enc : TypeId × Value → H) :
    ReturnsInHanded {} Try.checked os 4 .any (Rows.fnFollowedSpec.pre6 enc Try.prog Try.f4 Rows.fnFollowedRow.domain false) (Rows.fnFollowedSpec.post enc Try.prog Try.f4 false true false false) := by
  refine lifted_of_walk (C := Try.checked) own started (by as_aux_lemma => kernel_rfl) Try.func4
    (ChangeSpec.witness6 (enc := enc) (C := Try.checked) false ⟨#[], #[.slice none 0 0], []⟩ 8 (by as_aux_lemma => kernel_rfl) (by as_aux_lemma => kernel_rfl) (by as_aux_lemma => kernel_rfl) (by as_aux_lemma => kernel_rfl) (by as_aux_lemma => kernel_rfl))
    laidOut rfl (by as_aux_lemma => kernel_rfl) (by as_aux_lemma => kernel_rfl) boolType
    (fun ds h => by
      match ds, h with
      | [_], _ => rfl)
    ?_
  intro W base args ds q hval hA
  rw [Try.params4] at hA hval
  obtain ⟨v0, vs0, d0, ds0, p0, q0, hargs, rfl, rfl, h0, r0⟩ := trodAll_cons hA
  obtain ⟨rfl, rfl, rfl⟩ := trodAll_nil r0
  obtain rfl : args = #[v0] := by cases args; simp_all
  obtain ⟨a0, len0, cap0, z0, rfl, w0⟩ := open_bytes Try.underlying22 Try.underlying5 (by as_aux_lemma => kernel_rfl) (hval 0 22 v0 rfl rfl) h0
  exact fo_walk W a0 len0 cap0 z0 w0

theorem fo_facts : joinedFacts Try.pinned.checked.prog 4 Try.f4 Rows.fnFollowedSpec Rows.fnFollowedRow = true :=
  facts_of (P := Try.prog) (by as_aux_lemma => kernel_rfl) laidOut mapsRow (by as_aux_lemma => kernel_rfl) (by as_aux_lemma => kernel_rfl) rfl noStops rfl noKnobs (by as_aux_lemma => kernel_rfl) (by as_aux_lemma => kernel_rfl) (by as_aux_lemma => kernel_rfl) (by as_aux_lemma => kernel_rfl) (by as_aux_lemma => kernel_rfl) (by as_aux_lemma => kernel_rfl) (by as_aux_lemma => kernel_rfl) (by as_aux_lemma => kernel_rfl) (by as_aux_lemma => kernel_rfl) rfl (by as_aux_lemma => kernel_rfl) (by as_aux_lemma => kernel_rfl) (by as_aux_lemma => kernel_rfl) keysPlain rfl heard enters finals isMake rfl rfl rfl (by as_aux_lemma => kernel_rfl) (by as_aux_lemma => kernel_rfl)

/-- The given statement. -/
theorem fo_holds : Rows.FnFollowedSaid :=
  OpenClaim.holds_of_wide 4 Try.f4 rfl rfl rfl rfl rfl rfl rfl ⟨rfl, rfl, rfl, rfl, rfl⟩ rfl rfl rfl rfl rfl (by as_aux_lemma => kernel_rfl) Try.func4 fo_facts
    (of_decide_eq_true (by as_aux_lemma => kernel_rfl)) (by unfold Func.isWrapper; first | (rw [if_pos (by decide +kernel)]; kernel_rfl) | (rw [if_neg (by decide +kernel)]; exact ⟨rfl, rfl⟩))
    (fun os started H enc _ => fo_lifted os started H enc)
#print axioms fo_holds
end Go.Proofs.Ytfdlaomgaagmgaa
