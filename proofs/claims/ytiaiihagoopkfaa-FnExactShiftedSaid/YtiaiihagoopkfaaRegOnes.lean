/- How many ones a register has; whether it has one: the program's way and the reference's. -/
import Derived.Test.YtiaiihagoopkfaaReg
namespace Go.Proofs.Ytiaiihagoopkfaa
open Go.ChangeShapes Go.WideShapes Go.ChangeAt Go.RowKit Go.Shelf
set_option linter.unusedVariables false

attribute [local go_sem] Oper.semAt_some

/-- How many of these came. -/
def cameN (l : List Bool) : Int := (l.count true : Nat)
theorem cameN_nil : cameN [] = 0 := rfl
theorem cameN_true (l : List Bool) : cameN (l ++ [true]) = cameN l + 1 := by simp [cameN, List.count_append]
theorem cameN_false (l : List Bool) : cameN (l ++ [false]) = cameN l := by simp [cameN, List.count_append]
theorem cameN_le (l : List Bool) : cameN l ≤ l.length := by
  unfold cameN
  have := List.count_le_length (a := true) (l := l)
  omega
theorem cameN_ge (l : List Bool) : 0 ≤ cameN l := by unfold cameN; omega

/-- How many ones a register has. -/
def onesV (n : Int) : Int := if regB n then cameN (bitsTo n 8) else -1
theorem onesV_no {n : Int} (h : regB n = false) : onesV n = -1 := by simp [onesV, h]
theorem onesV_reg {n : Int} (h : regB n = true) : onesV n = cameN (bitsTo n 8) := by simp [onesV, h]

set_option maxHeartbeats 2000000 in
theorem ones_in (F : Fence) (m : Nat) (h1 : F.fn 16) (h2 : F.fn 38) (h3 : F.fn 42) (h4 : F.fn 40) (h5 : F.fn 50) (hro : F.round = none) (hm : 3 ≤ m) (hw : ∀ n w, CallsIn F (m - 1) Try.prog 38 #[.int .i64 n] w fun e w' => e = .returned (.bool (regB n)) ∧ w = w') (n : Int) (w : World) :
    CallsIn F m Try.prog 16 #[.int .i64 n] w fun e W' => e = .returned (.int .i64 (onesV n)) ∧ Below w.heap.size w W' := by
  have h1m : 1 ≤ m := by omega
  by_cases hr : regB n = true
  · obtain ⟨g0, g1⟩ := regB_iff.1 hr
    rw [onesV_reg hr]
    refine callsIn_of_wp_marks Try.func16 rfl h1 ?_ hro
    simp only [Try.ntmps16, List.size_toArray, List.length_cons, List.length_nil, Nat.reduceAdd, Nat.reduceSub, Array.replicate_succ, Array.replicate_zero, List.push_toArray, List.append_toArray, List.nil_append, List.cons_append]
    gi_wp2_with (first | (gi_at_call 38; refine (hw _ _).mono ?_; rintro e w1 ⟨rfl, rfl⟩) | (gi_at_call 40; refine (answersMk_in F (m - 1) h4 hro _ _).mono ?_; rintro e w' ⟨rfl, rfl⟩))
    have bK := Boxed.new w 2 (.int .i64 0)
    have bN := Boxed.new (w.alloc (.cells #[.int .i64 0] 2)) 2 (.int .i64 n)
    simp only [World.size_alloc] at bN
    have bK' := bK.alloc (.cells #[.int .i64 n] 2)
    have hB0 : Below w.heap.size w ((w.alloc (.cells #[.int .i64 0] 2)).alloc (.cells #[.int .i64 n] 2)) := by go_grown
    obtain ⟨w0, hw0⟩ : ∃ w0, (w.alloc (.cells #[.int .i64 0] 2)).alloc (.cells #[.int .i64 n] 2) = w0 := ⟨_, rfl⟩
    have hsz0 : w0.heap.size = w.heap.size + 1 + 1 := by rw [← hw0]; simp
    rw [hw0] at bN bK' hB0 ⊢
    clear hw0 bK
    refine wpIn_rangeFunc_ownG hro h1m (gf := 50) (lb := #[.pointer (some ⟨w.heap.size + 1, 0, none⟩)]) rfl h5 (enters_of Try.func50 (by kernel_rfl) rfl)
      (answers_stops F (m - 1) h5 hro (by omega) (w.heap.size + 1) n g0 g1 w0 bN) (fun h h' x => h' (h x))
      (fun W l o o' hle hl hc _ hx => hx.kept (grownBy_putObj' W l o') (fun e => by cases e; rw [show W.heap[_]? = _ from hx] at hl; cases hl; cases hc))
      (Below.refl _ _) (fun _ => rfl)
      (fun pre W => (Boxed W w.heap.size 2 (.int .i64 (cameN pre)) ∧ Boxed W (w.heap.size + 1) 2 (.int .i64 n)) ∧ Below w.heap.size w W)
      (fun _ _ _ => False)
      (OwnFrom.and (OwnFrom.and (Own.from (boxed_own _ _ (fun pre : List Bool => .int .i64 (cameN pre))) _) (Own.from (boxed_own _ _ _) _)) (ownFrom_below (Nat.le_refl _) (by omega)))
      (fun _ _ _ _ _ hs _ _ => hs)
      ⟨⟨bK', bN⟩, hB0⟩
      (fun x => { tmps := #[.int .i64 n, undef, .int .i64 0, .pointer (some ⟨w.heap.size, 0, none⟩), .bool x, .int .i64 n, .bool true, .bool false, .int .i64 n, .func (.func 50) #[] #[.pointer (some ⟨w.heap.size + 1, 0, none⟩)], .bool x, undef, undef, undef, undef], defers := [] }) ?assign ?body ?done ?stop
    case assign =>
      intro l x W K hK
      gi_wp2
      exact hK
    case body =>
      rintro l pre x W ⟨⟨hk, hx⟩, hB⟩ hlt
      have hc := hk.cell
      have hf := hk.frozen
      have hle := cameN_le pre
      have hge := cameN_ge pre
      cases x with
      | true =>
        gi_wp2
        exact ⟨(KeepsOthers.setCell _ _ _).from _, fun hx => hx.other (by omega) _, ⟨by rw [cameN_true]; exact hk.set _, hx.other (by omega) _⟩, hB.setCell (p := ⟨w.heap.size, 0, none⟩) (Nat.le_refl _) _⟩
      | false =>
        gi_wp2
        exact ⟨(KeepsOthers.refl _).from _, fun hx => hx, ⟨by rw [cameN_false]; exact hk, hx⟩, hB⟩
    case done =>
      rintro D ys W hD rfl ⟨⟨hk, hx⟩, hB⟩ hK
      have hc := hk.cell
      gi_wp2
      refine ⟨by simp, .inl ⟨_, _, rfl, run_takeDeferred hK, ?_⟩⟩
      exact ⟨_, results_tmp rfl _ _ _, rfl, hB.trans (belowK_b (w := w) (Nat.le_refl _) W D _ _ (by omega) hK rfl rfl)⟩
    case stop =>
      rintro D c pre W _ _ h _
      exact h.elim
  · have hr' : regB n = false := by simpa using hr
    rw [onesV_no hr']
    refine callsIn_of_wp_marks Try.func16 rfl h1 ?_ hro
    simp only [Try.ntmps16, List.size_toArray, List.length_cons, List.length_nil, Nat.reduceAdd, Nat.reduceSub, Array.replicate_succ, Array.replicate_zero, List.push_toArray, List.append_toArray, List.nil_append, List.cons_append]
    gi_wp2_with (first | (gi_at_call 38; refine (hw _ _).mono ?_; rintro e w1 ⟨rfl, rfl⟩))
    exact ⟨_, results_tmp rfl _ _ _, rfl, Below.refl _ _⟩

theorem ones_impl (n : Int) (w : World) : Calls Try.prog 16 #[.int .i64 n] w fun e W' => e = .returned (.int .i64 (onesV n)) ∧ Below w.heap.size w W' :=
  (callsIn_wide (n := 5)).1 (ones_in Fence.wide 5 trivial trivial trivial trivial trivial rfl (by omega) (fun n w => callsIn_wide.2 (isReg_c n w)) n w)

/-- The ones of a number, cut from behind. -/
def onesCut : Nat → Int → Int
  | 0, _ => 0
  | k + 1, n => n % 2 + onesCut k (n / 2)
theorem onesCut_zero : ∀ k, onesCut k 0 = 0
  | 0 => rfl
  | k + 1 => by simp [onesCut, onesCut_zero k]
theorem onesCut_bounds : ∀ (k : Nat) (n : Int), 0 ≤ onesCut k n ∧ onesCut k n ≤ k
  | 0, _ => by simp [onesCut]
  | k + 1, n => by
    have := onesCut_bounds k (n / 2)
    simp only [onesCut]
    omega
theorem onesCut_reg {n : Int} (h : regB n = true) : onesCut 8 n = cameN (bitsTo n 8) := by
  have := reg_all (p := fun n => onesCut 8 n == cameN (bitsTo n 8)) (by decide +kernel) h
  simpa using this

set_option maxHeartbeats 1000000 in
theorem l13Ones_c (n : Int) (h : regB n = true) (w : World) : Calls Try.prog 39 #[.int .i64 n] w fun e w' => e = .returned (.int .i64 (cameN (bitsTo n 8))) ∧ w = w' := by
  obtain ⟨g0, g1⟩ := regB_iff.1 h
  rw [← onesCut_reg h]
  obtain ⟨v, hv⟩ : ∃ v, v = onesCut 8 n := ⟨_, rfl⟩
  rw [← hv]
  have HV := Lib.hid hv
  clear hv h
  go_enter Try.func39, Try.ntmps39
  go_wp2
  go_loopw [0, 3] (fun m c wr => ∃ (j : Nat) (u a : Int), j ≤ 8 ∧ m = .int .i64 u ∧ c = .int .i64 a ∧ 0 ≤ u ∧ u < 2 ^ j ∧ 0 ≤ a ∧ a + j ≤ 8 ∧ Hid (v = a + onesCut j u) ∧ w = wr) (fun m _ _ => (intOf m).toNat)
  case atStart => exact ⟨8, n, 0, by omega, rfl, rfl, g0, by omega, by omega, by omega, Lib.hid (by rw [HV.out]; omega), rfl⟩
  case round =>
    obtain ⟨j, u, a, hj, rfl, rfl, u0, u1, a0, a1, he, rfl⟩ := hrel
    cases j with
    | zero =>
      obtain rfl : u = 0 := by omega
      go_wp2_with fail
      go_returns
      exact ⟨by rw [he.out]; simp [onesCut], rfl⟩
    | succ j =>
      have h2 : (2 : Int) ^ (j + 1) = 2 * 2 ^ j := by rw [Int.pow_succ]; omega
      rw [h2] at u1
      have hb : (2 : Int) ^ j ≤ 128 := by
        rcases (show j = 0 ∨ j = 1 ∨ j = 2 ∨ j = 3 ∨ j = 4 ∨ j = 5 ∨ j = 6 ∨ j = 7 by omega) with rfl | rfl | rfl | rfl | rfl | rfl | rfl | rfl <;> decide
      have hu : u ≤ 255 := by omega
      have he2 := Lib.hid (show v = (a + u % 2) + onesCut j (u / 2) by have := he.out; simp only [onesCut] at this; omega)
      obtain ⟨q, hq⟩ : ∃ q : Int, (2 : Int) ^ j = q := ⟨_, rfl⟩
      have HQ := Lib.hid hq
      rw [hq] at u1
      clear he h2 hb hq
      by_cases hp : 0 < u
      · go_wp2_with fail
        go_roundw
        case rel => exact ⟨j, u / 2, a + u % 2, by omega, rfl, rfl, by omega, by rw [HQ.out]; omega, by omega, by omega, he2, trivial⟩
        case measure => simp [intOf]; omega
      · obtain rfl : u = 0 := by omega
        go_wp2_with fail
        go_returns
        exact ⟨by rw [he2.out]; simp [onesCut_zero], rfl⟩

theorem ones_spec (n : Int) (w : World) : Calls Try.prog 15 #[.int .i64 n] w fun e W' => e = .returned (.int .i64 (onesV n)) ∧ w = W' := by
  cases h : regB n with
  | true =>
    rw [onesV_reg h]
    have HL := Lib.hid (l13Ones_c n h)
    go_enter Try.func15, Try.ntmps15
    go_wp2_with (first | (go_at_call 37; refine (l13Ok_c _ _).mono ?_; rintro e w1 ⟨rfl, rfl⟩) | (go_at_call 39; refine (HL.out _).mono ?_; rintro e w1 ⟨rfl, rfl⟩))
    go_returns
    exact ⟨rfl, rfl⟩
  | false =>
    rw [onesV_no h]
    go_enter Try.func15, Try.ntmps15
    go_wp2_with (first | (go_at_call 37; refine (l13Ok_c _ _).mono ?_; rintro e w1 ⟨rfl, rfl⟩))
    go_returns
    exact ⟨rfl, rfl⟩
end Go.Proofs.Ytiaiihagoopkfaa
