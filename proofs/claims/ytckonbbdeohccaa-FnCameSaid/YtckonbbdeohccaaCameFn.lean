/- Who comes is told so, its place is one, all others stay: at every drawn limiter, client and time. -/
import Derived.Test.YtckonbbdeohccaaCameUp
import Derived.Test.YtckonbbdeohccaaCameS
import Derived.Test.YtckonbbdeohccaaDrawCame
import Derived.Lib.QuietBelow
namespace Go.Proofs.Ytckonbbdeohccaa
open Go.ChangeShapes Go.WideShapes Go.ChangeAt Go.RowKit Go.Sort
set_option linter.unusedVariables false
set_option linter.unusedSimpArgs false
set_option maxRecDepth 100000

def manyC (A : List Cl) (i : Int) (j : Nat) : Nat := (A.take j).countP fun a => a.id == i
theorem many_same {A : List Cl} {i : Int} {j : Nat} {v : Cl} (hv : A[j]? = some v) (h : v.id = i) : manyC A i (j + 1) = manyC A i j + 1 := by
  unfold manyC
  rw [take_nextC hv, List.countP_append, List.countP_cons_of_pos (by simpa using h), List.countP_nil]
theorem many_else {A : List Cl} {i : Int} {j : Nat} {v : Cl} (hv : A[j]? = some v) (h : v.id ≠ i) : manyC A i (j + 1) = manyC A i j := by
  unfold manyC
  rw [take_nextC hv, List.countP_append, List.countP_cons_of_neg (by simpa using h), List.countP_nil, Nat.add_zero]
theorem many_le (A : List Cl) (i : Int) (j : Nat) : manyC A i j ≤ A.length := Nat.le_trans List.countP_le_length (by rw [List.length_take]; omega)
theorem put_many (l : List Cl) (c : Cl) : (putC l c).countP (fun a => a.id == c.id) = 1 := by
  unfold putC
  rw [List.countP_append, List.countP_cons_of_pos (by simp), List.countP_eq_zero.2 (fun a ha => by have := (List.mem_filter.1 ha).2; simp at this ⊢; omega), List.countP_eq_zero.2 (fun a ha => by have := (List.mem_filter.1 ha).2; simp at this ⊢; omega)]
theorem put_last {l : List Cl} {c a : Cl} (h : a ∈ putC l c) (e : a.id = c.id) : a = c := by
  unfold putC at h
  rcases List.mem_append.1 h with h | h
  · have := (List.mem_filter.1 h).2; simp at this; omega
  · rcases List.mem_cons.1 h with h | h
    · exact h
    · have := (List.mem_filter.1 h).2; simp at this; omega
/-- All that the law asks of what Came answers. -/
structure CamFacts (l : List Cl) (id now : Int) (A : List Cl) (T : Int) : Prop where
  one : manyC A id A.length = 1
  at_ : ∀ a ∈ A, a.id = id → a.last = now
  else_ : ∀ a ∈ A, a.id ≠ id → scoreV l a.id = a.score
  s20 : scoreV A id ≤ 20
  s4 : 4 ≤ scoreV A id
  low : scoreV A id ≤ scoreV l id + 4
  l0 : 0 ≤ scoreV l id
  l20 : scoreV l id ≤ 20
  told : T = 0 ∨ scoreV A id = 20
  ok : limOk A = true
theorem cam_facts {l : List Cl} (ho : limOk l = true) {id now : Int} {A : List Cl} {T : Int} (h : camV l id now = some (A, T)) : CamFacts l id now A T := by
  obtain ⟨h1, h2, h3⟩ := limOk_iff.1 ho
  have hok := next_ok ho h
  rw [camV_yes ho] at h
  have key : ∃ s : Int, A = putC l ⟨id, now, s⟩ ∧ s ≤ 20 ∧ 4 ≤ s ∧ s ≤ scoreV l id + 4 ∧ 0 ≤ scoreV l id ∧ scoreV l id ≤ 20 ∧ (T = 0 ∨ s = 20) := by
    unfold comeV at h
    split at h
    · cases hc : clAt l id with
      | some c =>
        rw [hc] at h
        replace h : (if now < c.last then none else some (putC l ⟨id, now, min (leftC c now + 4) 20⟩, if 20 < leftC c now + 4 then (1 : Int) else 0)) = some (A, T) := h
        have hck := h2 c (clAt_some hc).1
        unfold clOk at hck
        rw [Bool.and_eq_true, Bool.and_eq_true, inB_iff, inB_iff, inB_iff] at hck
        obtain ⟨_, s0, s1⟩ := hck
        split at h
        · cases h
        · rename_i hlt
          simp only [Option.some.injEq, Prod.mk.injEq] at h
          obtain ⟨rfl, rfl⟩ := h
          rw [scoreV_at hc]
          have l0 : 0 ≤ leftC c now := by unfold leftC; omega
          have l1 : leftC c now ≤ c.score := by unfold leftC; omega
          refine ⟨_, rfl, by omega, by omega, by omega, s0, s1, ?_⟩
          by_cases h20 : 20 < leftC c now + 4
          · exact Or.inr (by omega)
          · rw [if_neg h20]; exact Or.inl rfl
      | none =>
        rw [hc] at h
        replace h : (if l.length = 50 then none else some (putC l ⟨id, now, 4⟩, (0 : Int))) = some (A, T) := h
        split at h
        · cases h
        · simp only [Option.some.injEq, Prod.mk.injEq] at h
          obtain ⟨rfl, rfl⟩ := h
          have hz : scoreV l id = 0 := by unfold scoreV; rw [hc]
          rw [hz]
          exact ⟨4, rfl, by omega, by omega, by omega, by omega, by omega, Or.inl rfl⟩
    · cases h
  obtain ⟨s, rfl, a1, a2, a3, a4, a5, a6⟩ := key
  have hs : scoreV (putC l ⟨id, now, s⟩) id = s := scoreV_put l ⟨id, now, s⟩
  refine ⟨?_, fun a ha e => ?_, fun a ha e => ?_, by rw [hs]; exact a1, by rw [hs]; exact a2, by rw [hs]; exact a3, a4, a5, by rw [hs]; exact a6, hok⟩
  · unfold manyC
    rw [List.take_length]
    exact put_many l ⟨id, now, s⟩
  · rw [put_last ha (c := ⟨id, now, s⟩) e]
  · rcases putC_mem ha with rfl | ha
    · exact absurd rfl e
    · obtain ⟨k, hk⟩ := List.mem_iff_getElem?.1 ha
      exact scoreV_at (clAt_at h1 hk)
theorem resC_50 (l : List Cl) (id now : Int) : (resC (camV l id now)).length ≤ 50 := by
  unfold camV
  split
  · rename_i ho
    have := comeV_ok (id := id) (now := now) ho
    cases h : comeV l id now with
    | none => simp [resC]
    | some p =>
      rw [h] at this
      exact (limOk_iff.1 this).2.2
  · simp [resC]
theorem some_ok {l : List Cl} {id now : Int} {A : List Cl} {T : Int} (h : camV l id now = some (A, T)) : limOk l = true := by
  unfold camV at h
  split at h
  · assumption
  · cases h
/-- Two boxes with limiters. -/
structure EB (w wr : World) (p q : Nat) (x : Option Addr) (cx : Nat) (A : List Cl) (y : Option Addr) (cy : Nat) (B : List Cl) : Prop where
  low : Below w.heap.size w wr
  bp : wr.heap[p]? = some (.cells #[.slice x A.length cx] 28)
  bq : wr.heap[q]? = some (.cells #[.slice y B.length cy] 28)
  rA : ClRow w.heap.size wr x cx A
  rB : ClRow w.heap.size wr y cy B
theorem EB.next {w wr w' : World} {p q : Nat} {x y : Option Addr} {cx cy : Nat} {A B : List Cl} (h : EB w wr p q x cx A y cy B) (hb : Below wr.heap.size wr w') : EB w w' p q x cx A y cy B :=
  ⟨grow_next h.low hb, blk_next hb h.bp, blk_next hb h.bq, h.rA.next hb, h.rB.next hb⟩
set_option maxHeartbeats 4000000 in
theorem fcame_walk (w : World) (x : Option Addr) (n cap z : Nat) (hz : z = n ∧ Code w.heap.size w (.slice x n cap) n) :
    Calls Try.prog 6 #[.slice x n cap] w fun e w' => e = .returned (.bool true) ∧ Below w.heap.size w w' := by
  obtain ⟨_, hc⟩ := hz
  by_cases hbig : n ≤ 1048576
  · have hbi : decide ((1048576 : Int) < (n : Int)) = false := decide_eq_false (by omega)
    go_enter Try.func6, Try.ntmps6
    go_wp2_with (go_at_call 26; go_in)
    refine (drawCame_c x n cap _ hc hbig).mono ?_
    rintro e w1 ⟨y, cy, l, id, t, rfl, hl50, hids, t0, t1, hrow, hb1⟩
    have hlm : l.length ≤ maxLen := by unfold maxLen; omega
    have HCI := Lib.hid (fun W h => came_impl l l.length (Lib.hid rfl) hlm id t y cy W h)
    have HCS := Lib.hid (fun a b W h => came_spec l l.length (Lib.hid rfl) hlm id t y cy a b W h)
    have HSL := Lib.hid (fun i W h => score_c l l.length (Lib.hid rfl) hlm i y cy W h)
    have hA50 := resC_50 l id t
    have HFA : Hid (∀ A T, camV l id t = some (A, T) → CamFacts l id t A T) := Lib.hid (fun A T h => cam_facts (some_ok h) h)
    obtain ⟨o, ho⟩ : ∃ o, camV l id t = o := ⟨_, rfl⟩
    rw [ho] at HCI HCS hA50 HFA
    unfold CamOut at HCI HCS
    obtain ⟨A, hA⟩ : ∃ A, resC o = A := ⟨_, rfl⟩
    have HA := Lib.hid hA
    rw [hA] at HCI HCS hA50
    have hAm : A.length ≤ maxLen := by unfold maxLen; omega
    have HSA := Lib.hid (fun i a ca W h => score_c A A.length (Lib.hid rfl) hAm i a ca W h)
    have HSM := Lib.hid (fun a b ca cb W h h' => sameLimiter_c A A.length (Lib.hid rfl) hAm a b ca cb W h h')
    have HLA := Lib.hid (fun a ca W h => limOk_impl A A.length (Lib.hid rfl) hAm a ca W h)
    obtain ⟨cp1, _⟩ := hrow.cap_
    have hnil := hrow.nil_
    have HCS := Lib.hid (HCS.out cp1 hnil)
    have Z2 := blk_new w1 (.cells #[.slice y l.length cy] 28)
    have G2 := hb1.alloc hb1.size (.cells #[.slice y l.length cy] 28)
    have R2 := hrow.next (below_new w1 (.cells #[.slice y l.length cy] 28))
    have hc2 := hc.next G2
    clear hc hrow hb1 hl50 hlm hids ho hA cp1 hnil hA50 hAm
    go_upto_region 4 with (fail)
    obtain ⟨W2, hW2⟩ : ∃ W, W = w1.alloc (.cells #[.slice y l.length cy] 28) := ⟨_, rfl⟩
    obtain ⟨p, hp⟩ : ∃ p, w1.heap.size = p := ⟨_, rfl⟩
    rw [hp] at Z2
    rw [← hW2] at Z2 G2 R2 hc2
    rw [← hW2]
    try rw [hp]
    clear hW2 hp
    have c3 := (one_cell Z2).1
    go_wp2_with fail
    refine (HCI.out _ R2.cls).mono ?_
    rintro e w3 ⟨z, cz, rfl, hrz, hb3⟩
    have S4 : EB w (w3.alloc (.cells #[.slice z A.length cz] 28)) p w3.heap.size y cy l z cz A :=
      ⟨(grow_next G2 hb3).alloc (grow_next G2 hb3).size _, blk_alloc (blk_next hb3 Z2) _, blk_new w3 _, (R2.next hb3).next (below_new w3 _), ownsRow_base_le (hrz.next (below_new w3 _)) G2.size⟩
    have hc4 := (hc2.next hb3).next (below_new w3 (.cells #[.slice z A.length cz] 28))
    clear Z2 G2 R2 hrz hb3 c3 hc2
    go_upto_region 5 with (fail)
    obtain ⟨W4, hW4⟩ : ∃ W, W = w3.alloc (.cells #[.slice z A.length cz] 28) := ⟨_, rfl⟩
    obtain ⟨q, hq⟩ : ∃ p, w3.heap.size = p := ⟨_, rfl⟩
    rw [hq] at S4
    rw [← hW4] at S4 hc4
    rw [← hW4]
    try rw [hq]
    clear hW4 hq
    have c3 := (one_cell S4.bp).1
    go_wp2_with fail
    refine (HCS.out _ S4.rA.cls).mono ?_
    rintro e w5 ⟨u, cu, rfl, hru, hb5⟩
    have S6 := (S4.next hb5).next (below_new w5 (.cells #[.slice u A.length cu] 28))
    have Z6 := blk_new w5 (.cells #[.slice u A.length cu] 28)
    have R6 := hru.next (below_new w5 (.cells #[.slice u A.length cu] 28))
    have hc6 := (hc4.next hb5).next (below_new w5 (.cells #[.slice u A.length cu] 28))
    clear S4 hru hb5 c3 HCI HCS hc4
    go_upto_region 6 with (fail)
    obtain ⟨W6, hW6⟩ : ∃ W, W = w5.alloc (.cells #[.slice u A.length cu] 28) := ⟨_, rfl⟩
    obtain ⟨r, hr⟩ : ∃ p, w5.heap.size = p := ⟨_, rfl⟩
    rw [hr] at Z6
    rw [← hW6] at S6 Z6 R6 hc6
    rw [← hW6]
    try rw [hr]
    clear hW6 hr
    go_wp2_with fail
    refine (drawLimiterOk_c x n cap _ hc6 hbig).mono ?_
    rintro e w7 ⟨v, cv, X, rfl, hX50, hrv, hb7⟩
    have hXm : X.length ≤ maxLen := by unfold maxLen; omega
    have HLI := Lib.hid (fun W h => limOk_impl X X.length (Lib.hid rfl) hXm v cv W h)
    have HLS := Lib.hid (fun W h => limOk_spec X X.length (Lib.hid rfl) hXm v cv W h)
    obtain ⟨bx, hbx⟩ : ∃ b, limOk X = b := ⟨_, rfl⟩
    rw [hbx] at HLI HLS
    have S8 := (S6.next hb7).next (below_new w7 (.cells #[.slice v X.length cv] 28))
    have Z8 := blk_alloc (blk_next hb7 Z6) (.cells #[.slice v X.length cv] 28)
    have Y8 := blk_new w7 (.cells #[.slice v X.length cv] 28)
    have R8 := (R6.next hb7).next (below_new w7 (.cells #[.slice v X.length cv] 28))
    have V8 := hrv.next (below_new w7 (.cells #[.slice v X.length cv] 28))
    clear S6 Z6 R6 hrv hb7 hc6 hX50 hXm hbx
    go_upto_region 7 with (fail)
    obtain ⟨W8, hW8⟩ : ∃ W, W = w7.alloc (.cells #[.slice v X.length cv] 28) := ⟨_, rfl⟩
    obtain ⟨m, hm⟩ : ∃ p, w7.heap.size = p := ⟨_, rfl⟩
    rw [hm] at Y8
    rw [← hW8] at S8 Z8 Y8 R8 V8
    rw [← hW8]
    try rw [hm]
    clear hW8 hm
    have k6 := cell_regrown (one_cell S8.bq).1
    have k9 := cell_regrown (one_cell Z8).1
    have k12 := cell_regrown (one_cell Y8).1
    have KM := Lib.hid (fun d os => Calls.regrown_of (HSM.out z u cz cu (grow (redrawn W8 d) os) (S8.rB.next (below_regrown W8 d os)).cls (R8.next (below_regrown W8 d os)).cls))
    have KI := Lib.hid (fun d os => Calls.regrown_of (HLI.out (grow (redrawn W8 d) os) (V8.next (below_regrown W8 d os)).cls))
    have KS := Lib.hid (fun d os => Calls.regrown_of (HLS.out (grow (redrawn W8 d) os) (V8.next (below_regrown W8 d os)).cls))
    have hbb : (bx != bx) = false := by cases bx <;> rfl
    have hbb2 : (bx == bx) = true := by cases bx <;> rfl
    cases o with
    | none =>
      simp only [toldC, Option.isSome]
      go_wp2_with fail
      refine wp_region_quiet_below (by kernel_rfl) (by kernel_rfl) ?_
      repeat ((with_reducible refine wpQuiet_step (fun K hK => ?_)); go_simp; first | ((with_reducible refine hK _ ?_); clear hK K) | (rw [if_neg (by intro h; exact nomatch h)]; (with_reducible refine hK _ ?_); clear hK K) | (apply Exists.intro; (with_reducible refine ⟨fun _ => ?_, hK _ ?_⟩); (first | with_reducible exact KM.out _ _ | with_reducible exact KI.out _ _ | with_reducible exact KS.out _ _); clear hK K))
      with_reducible refine wpQuiet_nil ?_
      intro _ hw'
      obtain ⟨⟨dq, osq⟩, hw''⟩ := hw'
      subst hw''
      have S9 := S8.next (below_regrown W8 dq osq)
      have Z9 := blk_next (below_regrown W8 dq osq) Z8
      have Y9 := blk_next (below_regrown W8 dq osq) Y8
      have R9 := R8.next (below_regrown W8 dq osq)
      have V9 := V8.next (below_regrown W8 dq osq)
      generalize grow (redrawn W8 dq) osq = W9 at *
      clear KM KI KS k6 k9 k12 S8 Z8 Y8 R8 V8
      have k6 := cell_regrown (one_cell S9.bq).1
      have k9 := cell_regrown (one_cell Z9).1
      have k12 := cell_regrown (one_cell Y9).1
      have KM := Lib.hid (fun d os => Calls.regrown_of (HSM.out z u cz cu (grow (redrawn W9 d) os) (S9.rB.next (below_regrown W9 d os)).cls (R9.next (below_regrown W9 d os)).cls))
      have KI := Lib.hid (fun d os => Calls.regrown_of (HLI.out (grow (redrawn W9 d) os) (V9.next (below_regrown W9 d os)).cls))
      have KS := Lib.hid (fun d os => Calls.regrown_of (HLS.out (grow (redrawn W9 d) os) (V9.next (below_regrown W9 d os)).cls))
      go_wp2_with fail
      refine wp_region_quiet_below (by kernel_rfl) (by kernel_rfl) ?_
      repeat ((with_reducible refine wpQuiet_step (fun K hK => ?_)); go_simp; first | ((with_reducible refine hK _ ?_); clear hK K) | (rw [if_neg (by intro h; exact nomatch h)]; (with_reducible refine hK _ ?_); clear hK K) | (apply Exists.intro; (with_reducible refine ⟨fun _ => ?_, hK _ ?_⟩); (first | with_reducible exact KM.out _ _ | with_reducible exact KI.out _ _ | with_reducible exact KS.out _ _); clear hK K))
      with_reducible refine wpQuiet_nil ?_
      intro _ hw'
      obtain ⟨⟨dq, osq⟩, hw''⟩ := hw'
      subst hw''
      have G10 := grow_next S9.low (below_regrown W9 dq osq)
      generalize grow (redrawn W9 dq) osq = W10 at *
      clear KM KI KS k6 k9 k12 S9 Z9 Y9 R9 V9
      go_wp2_with fail
      go_returns
      exact ⟨rfl, G10⟩
    | some P =>
      obtain ⟨A2, T⟩ := P
      have hAA : A2 = A := HA.out
      subst hAA
      have HF := Lib.hid (HFA.out _ _ rfl)
      have hTT : (T != T) = false := by simp
      simp only [toldC, Option.isSome]
      clear HFA HA
      go_wp2_with fail
      refine wp_region_quiet_below (by kernel_rfl) (by kernel_rfl) ?_
      repeat ((with_reducible refine wpQuiet_step (fun K hK => ?_)); go_simp; first | ((with_reducible refine hK _ ?_); clear hK K) | (rw [if_neg (by intro h; exact nomatch h)]; (with_reducible refine hK _ ?_); clear hK K) | (apply Exists.intro; (with_reducible refine ⟨fun _ => ?_, hK _ ?_⟩); (first | with_reducible exact KM.out _ _ | with_reducible exact KI.out _ _ | with_reducible exact KS.out _ _); clear hK K))
      with_reducible refine wpQuiet_nil ?_
      intro _ hw'
      obtain ⟨⟨dq, osq⟩, hw''⟩ := hw'
      subst hw''
      have S9 := S8.next (below_regrown W8 dq osq)
      generalize grow (redrawn W8 dq) osq = W9 at *
      clear KM KI KS k6 k9 k12 S8 Z8 Y8 R8 V8 HLI HLS HSM hbb hbb2
      go_wp2_with fail
      go_loopw [13, 14] (fun c i wr => ∃ j : Nat, j ≤ A2.length ∧ c = .int .i64 (manyC A2 id j) ∧ i = .int .i64 j ∧ EB w wr p q y cy l z cz A2) (fun _ i _ => A2.length - (RowKit.intOf i).toNat)
      case atStart => exact ⟨0, Nat.zero_le _, rfl, rfl, S9⟩
      case round =>
        obtain ⟨j, hj, rfl, rfl, S⟩ := hrel
        clear S9
        have c6 := (one_cell S.bq).1
        have hmle := many_le A2 id j
        have hAm2 : A2.length ≤ 50 := (limOk_iff.1 HF.out.ok).2.2
        by_cases hlt : j < A2.length
        · obtain ⟨a, ha⟩ := getC (l := A2) (k := j) hlt
          have hmem := List.mem_of_getElem? ha
          obtain ⟨b, off, rfl, hbB, d0, d1, d2⟩ := S.rB.cls.at_ ha
          have hkn : (j : Int) < (A2.length : Int) := by omega
          have hw1 : IntKind.i64.wrap ((j : Int) + 1) = (j : Int) + 1 := IntWalk.i64_in _ (by omega)
          have hw2 : IntKind.i64.wrap ((manyC A2 id j : Int) + 1) = (manyC A2 id j : Int) + 1 := IntWalk.i64_in _ (by omega)
          by_cases hai : a.id = id
          · have hq : (a.id == id) = true := by rw [beq_iff_eq]; exact hai
            have hq2 : (a.last != t) = false := by have := HF.out.at_ a hmem hai; simp [this]
            have HMS := Lib.hid (many_same ha hai)
            clear hai ha hmem
            go_wp2_with fail
            go_roundw
            case rel => exact ⟨j + 1, by omega, by rw [HMS.out]; go_num, by go_num, S⟩
            case measure => simp [RowKit.intOf]; omega
          · have hq : (a.id == id) = false := by rw [beq_eq_false_iff_ne]; exact hai
            have HMS := Lib.hid (many_else ha hai)
            have hsc := HF.out.else_ a hmem hai
            have hq2 : (a.score != a.score) = false := by simp
            have k3 := cell_regrown (one_cell S.bp).1
            have k6 := cell_regrown c6
            have k0 := cell_regrown d0
            have k2 := cell_regrown d2
            have KL := Lib.hid (fun d os => Calls.regrown_of (HSL.out a.id (grow (redrawn wr d) os) (S.rA.next (below_regrown wr d os)).cls))
            rw [hsc] at KL
            clear hai ha hmem hsc
            go_wp2_with fail
            refine wp_region_quiet_below (by kernel_rfl) (by kernel_rfl) ?_
            repeat ((with_reducible refine wpQuiet_step (fun K hK => ?_)); go_simp; first | ((with_reducible refine hK _ ?_); clear hK K) | (rw [if_neg (by intro h; exact nomatch h)]; (with_reducible refine hK _ ?_); clear hK K) | (apply Exists.intro; (with_reducible refine ⟨fun _ => ?_, hK _ ?_⟩); (first | with_reducible exact KL.out _ _); clear hK K))
            with_reducible refine wpQuiet_nil ?_
            intro _ hw'
            obtain ⟨⟨dq, osq⟩, hw''⟩ := hw'
            subst hw''
            have S2 := S.next (below_regrown wr dq osq)
            generalize grow (redrawn wr dq) osq = w12 at *
            clear KL k3 k6 k0 k2 S c6 d0 d1 d2
            go_wp2_with fail
            go_roundw
            case rel => exact ⟨j + 1, by omega, by rw [HMS.out], by go_num, S2⟩
            case measure => simp [RowKit.intOf]; omega
        · have hkn : ¬ (j : Int) < (A2.length : Int) := by omega
          have hj2 : j = A2.length := by omega
          subst hj2
          have hone := HF.out.one
          have f1 := HF.out.s20
          have f2 := HF.out.s4
          have f3 := HF.out.low
          have f4 := HF.out.l0
          have f5 := HF.out.l20
          have f6 := HF.out.told
          have HLA2 := HLA.out z cz
          rw [HF.out.ok] at HLA2
          have HLA2 := Lib.hid HLA2
          have HSA2 := HSA.out id z cz
          have HSL2 := HSL.out id
          obtain ⟨sA, hsA⟩ : ∃ s, scoreV A2 id = s := ⟨_, rfl⟩
          obtain ⟨sL, hsL⟩ : ∃ s, scoreV l id = s := ⟨_, rfl⟩
          rw [hsA] at HSA2 f1 f2 f3 f6
          rw [hsL] at HSL2 f3 f4 f5
          have HSA2 := Lib.hid HSA2
          have HSL2 := Lib.hid HSL2
          have hw4 : IntKind.i64.wrap (sL + 4) = sL + 4 := IntWalk.i64_in _ (by omega)
          have hmin : sA ≤ min 20 (sL + 4) := by omega
          have hmin2 : decide (sA ≤ min 20 (sL + 4)) = true := decide_eq_true hmin
          have hmin3 : decide (sA ≤ min (sL + 4) 20) = true := decide_eq_true (by omega)
          have h4 : decide (4 ≤ sA) = true := decide_eq_true f2
          rw [hone]
          clear hsA hsL hone hmle HSA HSL HLA HF hlt hj hkn
          go_wp2_with fail
          have k3 := cell_regrown (one_cell S.bp).1
          have k6 := cell_regrown c6
          have KO := Lib.hid (fun d os => Calls.regrown_of (HLA2.out (grow (redrawn wr d) os) (S.rB.next (below_regrown wr d os)).cls))
          have KA := Lib.hid (fun d os => Calls.regrown_of (HSA2.out (grow (redrawn wr d) os) (S.rB.next (below_regrown wr d os)).cls))
          have KL := Lib.hid (fun d os => Calls.regrown_of (HSL2.out (grow (redrawn wr d) os) (S.rA.next (below_regrown wr d os)).cls))
          by_cases hT : T = 0
          · subst hT
            clear f6
            refine wp_region_quiet_below (by kernel_rfl) (by kernel_rfl) ?_
            repeat ((with_reducible refine wpQuiet_step (fun K hK => ?_)); go_simp; first | ((with_reducible refine hK _ ?_); clear hK K) | (rw [if_neg (by intro h; exact nomatch h)]; (with_reducible refine hK _ ?_); clear hK K) | (apply Exists.intro; (with_reducible refine ⟨fun _ => ?_, hK _ ?_⟩); (first | with_reducible exact KO.out _ _ | with_reducible exact KA.out _ _ | with_reducible exact KL.out _ _); clear hK K))
            with_reducible refine wpQuiet_nil ?_
            intro _ hw'
            obtain ⟨⟨dq, osq⟩, hw''⟩ := hw'
            subst hw''
            have S2 := S.next (below_regrown wr dq osq)
            generalize grow (redrawn wr dq) osq = w12 at *
            go_wp2_with fail
            go_returns
            exact ⟨rfl, S2.low⟩
          · have hsA : sA = 20 := f6.resolve_left hT
            have hT0 : (T == 0) = false := by rw [beq_eq_false_iff_ne]; exact hT
            subst hsA
            clear f6 hT
            refine wp_region_quiet_below (by kernel_rfl) (by kernel_rfl) ?_
            repeat ((with_reducible refine wpQuiet_step (fun K hK => ?_)); go_simp; first | ((with_reducible refine hK _ ?_); clear hK K) | (rw [if_neg (by intro h; exact nomatch h)]; (with_reducible refine hK _ ?_); clear hK K) | (apply Exists.intro; (with_reducible refine ⟨fun _ => ?_, hK _ ?_⟩); (first | with_reducible exact KO.out _ _ | with_reducible exact KA.out _ _ | with_reducible exact KL.out _ _); clear hK K))
            with_reducible refine wpQuiet_nil ?_
            intro _ hw'
            obtain ⟨⟨dq, osq⟩, hw''⟩ := hw'
            subst hw''
            have S2 := S.next (below_regrown wr dq osq)
            generalize grow (redrawn wr dq) osq = w12 at *
            go_wp2_with fail
            go_returns
            exact ⟨rfl, S2.low⟩
  · have hbi : decide ((1048576 : Int) < (n : Int)) = true := decide_eq_true (by omega)
    go_enter Try.func6, Try.ntmps6
    go_wp2_with (go_at_call 26; go_in)
    go_returns
    exact ⟨rfl, Below.refl _ _⟩
set_option maxRecDepth 100000 in
theorem fcame_lifted (os : Os) (started : os.Started) (H : Type) (enc : TypeId × Value → H) :
    ReturnsInHanded {} Try.checked os 6 .any (Rows.fnCameSpec.pre6 enc Try.prog Try.f6 Rows.fnCameRow.domain false) (Rows.fnCameSpec.post enc Try.prog Try.f6 false true false false) := by
  refine lifted_of_walk (C := Try.checked) own started (by as_aux_lemma => kernel_rfl) Try.func6
    (ChangeSpec.witness6 (enc := enc) (C := Try.checked) false ⟨#[], #[.slice none 0 0], []⟩ 8 (by as_aux_lemma => kernel_rfl) (by as_aux_lemma => kernel_rfl) (by as_aux_lemma => kernel_rfl) (by as_aux_lemma => kernel_rfl) (by as_aux_lemma => kernel_rfl))
    laidOut rfl (by as_aux_lemma => kernel_rfl) (by as_aux_lemma => kernel_rfl) boolType
    (fun ds h => by
      match ds, h with
      | [_], _ => rfl)
    ?_
  intro W base args ds q hval hA
  rw [Try.params6] at hA hval
  obtain ⟨v0, vs0, d0, ds0, p0, q0, hargs, rfl, rfl, h0, r0⟩ := trodAll_cons hA
  obtain ⟨rfl, rfl, rfl⟩ := trodAll_nil r0
  obtain rfl : args = #[v0] := by cases args; simp_all
  obtain ⟨a0, len0, cap0, z0, rfl, w0⟩ := open_bytes Try.underlying45 Try.underlying5 (by as_aux_lemma => kernel_rfl) (hval 0 45 v0 rfl rfl) h0
  exact fcame_walk W a0 len0 cap0 z0 w0

set_option maxHeartbeats 4000000 in
theorem fcame_facts : joinedFacts Try.pinned.checked.prog 6 Try.f6 Rows.fnCameSpec Rows.fnCameRow = true :=
  facts_of (P := Try.prog) (by as_aux_lemma => kernel_rfl) laidOut mapsRow (by as_aux_lemma => kernel_rfl) (by as_aux_lemma => kernel_rfl) rfl noStops rfl noKnobs (by as_aux_lemma => kernel_rfl) (by as_aux_lemma => kernel_rfl) (by as_aux_lemma => kernel_rfl) (by as_aux_lemma => kernel_rfl) (by as_aux_lemma => kernel_rfl) (by as_aux_lemma => kernel_rfl) (by as_aux_lemma => kernel_rfl) (by as_aux_lemma => kernel_rfl) (by as_aux_lemma => kernel_rfl) rfl (by as_aux_lemma => kernel_rfl) (by as_aux_lemma => kernel_rfl) (by as_aux_lemma => kernel_rfl) keysPlain rfl heard enters finals isMake rfl rfl rfl (by as_aux_lemma => kernel_rfl) (by as_aux_lemma => kernel_rfl)

/-- The given statement. -/
theorem fcame_holds : Rows.FnCameSaid :=
  OpenClaim.holds_of_wide 6 Try.f6 rfl rfl rfl rfl rfl rfl rfl ⟨rfl, rfl, rfl, rfl, rfl⟩ rfl rfl rfl rfl rfl (by as_aux_lemma => kernel_rfl) Try.func6 fcame_facts
    (of_decide_eq_true (by as_aux_lemma => kernel_rfl)) (by unfold Func.isWrapper; first | (rw [if_pos (by decide +kernel)]; kernel_rfl) | (rw [if_neg (by decide +kernel)]; exact ⟨rfl, rfl⟩))
    (fun os started H enc _ => fcame_lifted os started H enc)
#print axioms fcame_holds
end Go.Proofs.Ytckonbbdeohccaa
