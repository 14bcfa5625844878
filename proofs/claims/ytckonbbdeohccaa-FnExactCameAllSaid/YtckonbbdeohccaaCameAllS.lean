/- Many come, one behind the other: the reference's way. -/
import Derived.Test.YtckonbbdeohccaaCameAllI
import Derived.Test.YtckonbbdeohccaaCameS
namespace Go.Proofs.Ytckonbbdeohccaa
open Go.ChangeShapes Go.WideShapes Go.ChangeAt Go.RowKit Go.Maps
set_option linter.unusedVariables false
set_option linter.unusedSimpArgs false
set_option maxRecDepth 100000

theorem below_drewA (w : World) : Below w.heap.size w w.drew := ⟨rfl, rfl, rfl, Nat.le_refl _, fun _ _ => rfl⟩
theorem clRow_nilA {base : Nat} {W : World} {x : Option Addr} {cap : Nat} {l : List Cl} (h : ClRow base W x cap l) : x = none → cap = 0 := by
  rcases h.2 with ⟨e, _⟩ | ⟨g, c, cur, e, _⟩
  · simp only [Value.slice.injEq] at e
    exact fun _ => e.2.2
  · simp only [Value.slice.injEq] at e
    intro e2
    rw [e2] at e
    cases e.1
theorem clRow_boxA {base : Nat} {W : World} {g cap p : Nat} {l : List Cl} {v : Value} (h : ClRow base W (some ⟨g, 0, none⟩) cap l) (hp : W.heap[p]? = some (.cells #[v] 28)) : g ≠ p := fun e => by
  subst e
  rcases h.2 with ⟨e, _⟩ | ⟨g', c, cur, e, _, hg, _⟩
  · simp at e
  · simp only [Value.slice.injEq, Option.some.injEq, Addr.mk.injEq] at e
    obtain ⟨⟨rfl, _⟩, _⟩ := e
    rw [hp] at hg
    simp at hg
theorem int_ne_box {base p : Nat} {W : World} {u v : Value} {n : Nat} {xs : List Value} (h : W.ownsRow base 2 1 u n xs) (hp : W.heap[p]? = some (.cells #[v] 28)) : ∀ g, u.ownBlock = some g → g = p → False := fun g hg e => by
  subst e
  rcases h.2 with ⟨e, _⟩ | ⟨g', c, cur, e, _, hh, _⟩
  · rw [e] at hg; simp [Value.ownBlock] at hg
  · rw [e] at hg
    simp [Value.ownBlock] at hg
    subst hg
    have := hh.symm.trans hp
    simp at this
theorem int_ne_row {base b' : Nat} {W : World} {u : Value} {n cap : Nat} {xs : List Value} {x : Option Addr} {l : List Cl} (h : W.ownsRow base 2 1 u n xs) (hr : ClRow b' W x cap l) : ∀ g, u.ownBlock = some g → x = some ⟨g, 0, none⟩ → False := fun g hg e => by
  subst e
  rcases h.2 with ⟨e, _⟩ | ⟨g', c, cur, e, _, hh, _⟩
  · rw [e] at hg; simp [Value.ownBlock] at hg
  · rw [e] at hg
    simp [Value.ownBlock] at hg
    subst hg
    rcases hr.2 with ⟨e, _⟩ | ⟨g2, c2, cur2, e, _, hh2, _⟩
    · simp at e
    · simp only [Value.slice.injEq, Option.some.injEq, Addr.mk.injEq] at e
      obtain ⟨⟨rfl, _⟩, _⟩ := e
      have := hh.symm.trans hh2
      simp at this
theorem src_cls {w : World} {x : Option Addr} {l : List Cl} {n cap : Nat} (h : Cls w.heap.size w x l) (hn : n = l.length) (hnil : x = none → cap = 0) : SrcAt w (.slice x n cap) n 3 (flatCl l) := by
  cases l with
  | nil =>
    cases x with
    | none => left; rw [hn, hnil rfl]; exact ⟨rfl, rfl, rfl⟩
    | some ad => right; exact ⟨ad, cap, rfl, by rw [hn]; rfl, fun j u hj => by simp [flatCl] at hj⟩
  | cons c r =>
    obtain ⟨b, off, rfl, _⟩ := h.at_ (i := 0) (v := c) rfl
    right
    exact ⟨⟨b, off, none⟩, cap, rfl, by rw [flatCl_len, hn], cls_news h⟩
/-- What lies while many come. -/
structure AS (w wr : World) (p : Nat) (x : Option Addr) (cx : Nat) (A : List Cl) (u : Value) (T : List Int) : Prop where
  low : Below w.heap.size w wr
  res : wr.heap[w.heap.size + 1]? = some (.cells #[.slice none 0 0] 28)
  box : wr.heap[p]? = some (.cells #[.slice x A.length cx] 28)
  pw : w.heap.size + 1 < p
  row : ClRow w.heap.size wr x cx A
  told : wr.ownsRow w.heap.size 2 1 u T.length (T.map (Value.int .i64))
section
variable {w wr w' : World} {p : Nat} {x : Option Addr} {cx : Nat} {A : List Cl} {u : Value} {T : List Int}
theorem AS.next (h : AS w wr p x cx A u T) (hb : Below wr.heap.size wr w') : AS w w' p x cx A u T :=
  ⟨grow_next h.low hb, blk_next hb h.res, blk_next hb h.box, h.pw, h.row.next hb, own_nextC h.told hb⟩
theorem AS.set (h : AS w wr p x cx A u T) {q : Nat} {o v : Value} (h0 : w.heap.size ≤ q) (h1 : q ≠ p) (h2 : q ≠ w.heap.size + 1) (hN : wr.heap[q]? = some (.cells #[o] 28)) : AS w (wr.setCell ⟨q, 0, none⟩ v) p x cx A u T := by
  have g : wr.grownBy (wr.setCell ⟨q, 0, none⟩ v) (some q) := grown_setC (World.grownBy.refl _ _) 0 _
  exact ⟨below_setCell h.low h0 0 _, blk_other h.res h2 0 _, blk_other h.box h1 0 _, h.pw, h.row.keep g (fun g e e2 => clRow_boxA (e ▸ h.row) hN (by simpa using e2.symm)), h.told.kept g (.inr (fun e => int_ne_box h.told hN _ e rfl))⟩
theorem AS.put (h : AS w wr p x cx A u T) {z : Option Addr} {cz : Nat} {D : List Cl} (r : ClRow w.heap.size wr z cz D) : AS w (wr.setCell ⟨p, 0, none⟩ (.slice z D.length cz)) p z cz D u T := by
  have g : wr.grownBy (wr.setCell ⟨p, 0, none⟩ (.slice z D.length cz)) (some p) := grown_setC (World.grownBy.refl _ _) 0 _
  have := h.pw
  exact ⟨below_setCell h.low (by omega) 0 _, blk_other h.res (by omega) 0 _, heap_set h.box 0 _, h.pw, r.keep g (fun g e e2 => clRow_boxA (e ▸ r) h.box (by simpa using e2.symm)), h.told.kept g (.inr (fun e => int_ne_box h.told h.box _ e rfl))⟩
theorem AS.tell (h : AS w wr p x cx A u T) {v : Value} {T' : List Int} (hg : wr.grownBy w' u.ownBlock) (ht : w'.ownsRow w.heap.size 2 1 v T'.length (T'.map (Value.int .i64))) : AS w w' p x cx A v T' :=
  ⟨h.low.grown hg h.low.size (fun j hj => (h.told.lt _ hj).1), (hg.block _ (Array.getElem?_eq_some_iff.1 h.res).1 (fun e => int_ne_box h.told h.res _ e.symm rfl)).trans h.res,
    (hg.block _ (Array.getElem?_eq_some_iff.1 h.box).1 (fun e => int_ne_box h.told h.box _ e.symm rfl)).trans h.box, h.pw, h.row.keep hg (fun g e e2 => int_ne_row h.told h.row g e2 e), ht⟩
end
theorem came_wrap (A : List Cl) (z : Int) {t : Int} (h0 : -9223372036854775808 ≤ t) (h1 : t ≤ 9223372036854775807 + 200000000) : comeV A z (IntKind.i64.wrap t) = comeV A z t := by
  by_cases h : t ≤ 9223372036854775807
  · rw [IntWalk.i64_in _ ⟨h0, h⟩]
  · rw [comeV_late (by omega : 1000000000 < t)]
    refine comeV_early ?_
    have : IntKind.i64.wrap t = t - 18446744073709551616 := by
      simp only [IntKind.wrap]
      simp [IntKind.bits, IntKind.signed]
      omega
    omega
set_option maxHeartbeats 8000000 in
theorem cameAll_spec (l : List Cl) (ids : List Int) (n m : Nat) (hn : Hid (n = l.length)) (hm : Hid (m = ids.length)) (hnm : n ≤ maxLen) (hmm : m ≤ maxLen) (start gap : Int) (s0 : -9223372036854775808 ≤ start) (s1 : start ≤ 9223372036854775807) (x y : Option Addr) (cap cy : Nat) (hnil : x = none → cap = 0) (w : World) (h : Cls w.heap.size w x l) (hi : IntsAt w.heap.size w y ids) :
    Calls Try.prog 18 #[.agg #[.slice x n cap], .slice y m cy, .int .i64 start, .int .i64 gap] w (AllOut w (resA l ids start gap) (resT l ids start gap)) := by
  unfold maxLen at hmm
  obtain ⟨i0, hi0, hz0, hz1, hz2⟩ := info_partsT infoI64'
  have HI0 := Lib.hid hi0
  have HZ0 := Lib.hid hz0
  have HZ1 := Lib.hid hz1
  have HZ2 := Lib.hid hz2
  clear hi0 hz0 hz1 hz2
  obtain ⟨j0, hj0, hy0, hy1, hy2⟩ := info_partsT infoCl'
  have HJ0 := Lib.hid hj0
  have HY0 := Lib.hid hy0
  have HY1 := Lib.hid hy1
  have HY2 := Lib.hid hy2
  clear hj0 hy0 hy1 hy2
  have HL := Lib.hid (fun w h => limOk_spec l n hn hnm x cap w h)
  have HSC := Lib.hid (fun W h => src_cls (w := W) (x := x) (cap := cap) h hn.out hnil)
  have Q0 := blk_alloc (blk_new w (.cells #[.slice x n cap] 28)) (.cells #[.slice none 0 0] 28)
  have Q1 := blk_new (w.alloc (.cells #[.slice x n cap] 28)) (.cells #[.slice none 0 0] 28)
  simp only [World.size_alloc] at Q1
  have B0 : Below w.heap.size w ((w.alloc (.cells #[.slice x n cap] 28)).alloc (.cells #[.slice none 0 0] 28)) := by go_grown
  obtain ⟨g, hg⟩ : ∃ b, inB 0 gap 1000000 = b := ⟨_, rfl⟩
  have HG := Lib.hid hg
  have HW := Lib.hid (fun W => (hg ▸ l1In_c gap 0 1000000 W : Calls Try.prog 37 #[.int .i64 gap, .int .i64 0, .int .i64 1000000] W fun e w' => e = .returned (.bool g) ∧ W = w'))
  clear hg
  go_enter Try.func18, Try.ntmps18
  go_upto_region 1 with fail
  generalize (w.alloc (.cells #[.slice x n cap] 28)).alloc (.cells #[.slice none 0 0] 28) = W at *
  have I0 := World.ownsRow_made (base := w.heap.size) (e := 2) (size := 1) W #[] 0 B0.size (by simp [maxLen]) rfl
  have Q0 := blk_alloc Q0 (.cells #[] 2)
  have Q1 := blk_alloc Q1 (.cells #[] 2)
  have B0 := B0.alloc B0.size (.cells #[] 2)
  obtain ⟨W1, hW1⟩ : ∃ X, X = W.alloc (.cells #[] 2) := ⟨_, rfl⟩
  obtain ⟨t10, ht10⟩ : ∃ p, W.heap.size = p := ⟨_, rfl⟩
  go_upto_region 2 with fail
  rw [ht10] at I0
  rw [← hW1] at I0 Q0 Q1 B0
  rw [← hW1]
  try rw [ht10]
  clear hW1 ht10
  obtain ⟨c0, _⟩ := one_cell Q0
  go_wp2_with fail
  refine (HL.out _ (h.next B0)).mono ?_
  rintro e w1 ⟨rfl, b1⟩
  have B1 := grow_next B0 b1
  have R0 := blk_next b1 Q0
  have R1 := blk_next b1 Q1
  have I1 := own_nextC I0 b1
  clear Q0 Q1 c0 b1 B0 HL I0
  have hbox : w.heap.size + 1 < w1.heap.size := (Array.getElem?_eq_some_iff.1 R1).1
  cases ho : limOk l with
  | false =>
    have hbad : allOk l m gap = false := by unfold allOk; rw [ho]; rfl
    clear ho
    have RA := Lib.hid (show resA l ids start gap = [] by unfold resA; rw [← hm.out, hbad]; rfl)
    have RT := Lib.hid (show resT l ids start gap = [] by unfold resT; rw [← hm.out, hbad]; rfl)
    clear hbad
    obtain ⟨c0, c1⟩ := one_cell R1
    have V := heap_set R1 0 (.slice none 0 0)
    have G := below_setCell B1 (b := w.heap.size + 1) (by omega) 0 (.slice none 0 0)
    have gS : w1.grownBy (w1.setCell ⟨w.heap.size + 1, 0, none⟩ (.slice none 0 0)) (some (w.heap.size + 1)) := grown_setC (World.grownBy.refl _ _) 0 _
    have TN := I1.kept gS (.inr (fun e => int_ne_box I1 R1 _ e rfl))
    go_wp2_with (go_at_call 37; refine (HW.out _).mono ?_; rintro e w3 ⟨rfl, rfl⟩)
    obtain ⟨q0, _⟩ := one_cell V
    try simp only [Exit.inBlock, Exit.then]
    refine bodyPost_ret (by simp [results, Try.results18, go_sem, q0]; try rfl) rfl ?_
    exact ⟨none, 0, some ⟨t10, 0, none⟩, 0, by rw [RA.out, RT.out]; rfl, by rw [RA.out]; exact clRow_nil _ _, by rw [RT.out]; exact TN, G⟩
  | true =>
    by_cases h200 : 200 < m
    · have hd : decide ((200 : Int) < (m : Int)) = true := decide_eq_true (by omega)
      have hbad : allOk l m gap = false := by unfold allOk; rw [decide_eq_false (by omega : ¬ m ≤ 200), Bool.false_and, Bool.and_false]
      clear ho
      have RA := Lib.hid (show resA l ids start gap = [] by unfold resA; rw [← hm.out, hbad]; rfl)
      have RT := Lib.hid (show resT l ids start gap = [] by unfold resT; rw [← hm.out, hbad]; rfl)
      clear hbad
      obtain ⟨c0, c1⟩ := one_cell R1
      have V := heap_set R1 0 (.slice none 0 0)
      have G := below_setCell B1 (b := w.heap.size + 1) (by omega) 0 (.slice none 0 0)
      have gS : w1.grownBy (w1.setCell ⟨w.heap.size + 1, 0, none⟩ (.slice none 0 0)) (some (w.heap.size + 1)) := grown_setC (World.grownBy.refl _ _) 0 _
      have TN := I1.kept gS (.inr (fun e => int_ne_box I1 R1 _ e rfl))
      go_wp2_with (go_at_call 37; refine (HW.out _).mono ?_; rintro e w3 ⟨rfl, rfl⟩)
      obtain ⟨q0, _⟩ := one_cell V
      try simp only [Exit.inBlock, Exit.then]
      refine bodyPost_ret (by simp [results, Try.results18, go_sem, q0]; try rfl) rfl ?_
      exact ⟨none, 0, some ⟨t10, 0, none⟩, 0, by rw [RA.out, RT.out]; rfl, by rw [RA.out]; exact clRow_nil _ _, by rw [RT.out]; exact TN, G⟩
    · have hd : decide ((200 : Int) < (m : Int)) = false := decide_eq_false (by omega)
      cases g with
      | false =>
        have hbad : allOk l m gap = false := by unfold allOk; rw [HG.out, Bool.and_false, Bool.and_false]
        clear ho
        have RA := Lib.hid (show resA l ids start gap = [] by unfold resA; rw [← hm.out, hbad]; rfl)
        have RT := Lib.hid (show resT l ids start gap = [] by unfold resT; rw [← hm.out, hbad]; rfl)
        clear hbad
        obtain ⟨c0, c1⟩ := one_cell R1
        have V := heap_set R1 0 (.slice none 0 0)
        have G := below_setCell B1 (b := w.heap.size + 1) (by omega) 0 (.slice none 0 0)
        have gS : w1.grownBy (w1.setCell ⟨w.heap.size + 1, 0, none⟩ (.slice none 0 0)) (some (w.heap.size + 1)) := grown_setC (World.grownBy.refl _ _) 0 _
        have TN := I1.kept gS (.inr (fun e => int_ne_box I1 R1 _ e rfl))
        go_wp2_with (go_at_call 37; refine (HW.out _).mono ?_; rintro e w3 ⟨rfl, rfl⟩)
        obtain ⟨q0, _⟩ := one_cell V
        try simp only [Exit.inBlock, Exit.then]
        refine bodyPost_ret (by simp [results, Try.results18, go_sem, q0]; try rfl) rfl ?_
        exact ⟨none, 0, some ⟨t10, 0, none⟩, 0, by rw [RA.out, RT.out]; rfl, by rw [RA.out]; exact clRow_nil _ _, by rw [RT.out]; exact TN, G⟩
      | true =>
        have hok : allOk l m gap = true := by unfold allOk; rw [HG.out, ho, decide_eq_true (by omega : m ≤ 200)]; rfl
        have RA := Lib.hid (show resA l ids start gap = allC l ids start gap m by unfold resA; rw [← hm.out, hok]; rfl)
        have RT := Lib.hid (show resT l ids start gap = allT l ids start gap m by unfold resT; rw [← hm.out, hok]; rfl)
        obtain ⟨g0, g1⟩ := inB_iff.1 HG.out
        have HOK := Lib.hid ho
        have hn50 : n ≤ 50 := by rw [hn.out]; exact (limOk_iff.1 ho).2.2
        obtain ⟨c0, _⟩ := one_cell R0
        clear ho hok HG
        go_upto_region 4 with (go_at_call 37; refine (HW.out _).mono ?_; rintro e w3 ⟨rfl, rfl⟩)
        have J1 := World.ownsRow_made (base := w.heap.size) (e := 52) (size := 3) w1 #[] 0 B1.size (by simp [maxLen]) rfl
        have R0a := blk_alloc R0 (.cells #[] 52)
        obtain ⟨c0a, _⟩ := one_cell R0a
        have R1a := blk_alloc R1 (.cells #[] 52)
        have B1a := B1.alloc B1.size (.cells #[] 52)
        have I1a := own_nextC I1 (below_new w1 (.cells #[] 52))
        have hs1a : (w1.alloc (.cells #[] 52)).heap.size = w1.heap.size + 1 := World.size_alloc _ _
        have SC := Lib.hid (HSC.out _ (h.next B1a))
        have HW1 := B1.size
        go_upto_region 5 with (at_builtin; refine wpList_append_any rfl _ _ 26 rfl w.heap.size 52 j0 (.agg #[.int .i64 0, .int .i64 0, .int .i64 0]) 3 24 Try.underlying26 HJ0.out HY0.out HY1.out HY2.out rfl (by decide) _ _ _ rfl J1 (.slice x n cap) n (flatCl l) rfl SC.out flatCl_one (by unfold maxLen; omega) (by omega) (by omega) ?_; intro v' w3 hown hgrow; obtain ⟨a3, c3, rfl, row3⟩ := clRow_form (l := l) (by simpa using hown) hn.out)
        have hgrow2 : (w1.alloc (.cells #[] 52)).grownBy w3 (some w1.heap.size) := hgrow
        have low3 : Below w.heap.size w w3 := B1a.grown hgrow2 B1a.size (fun j hj => by cases hj; exact HW1)
        have res3 := (hgrow2.block (w.heap.size + 1) (by omega) (by simp only [ne_eq, Option.some.injEq]; omega)).trans R1a
        have told3 := I1a.kept hgrow2 (.inr (fun e => by have := (I1.lt _ e).2; omega))
        have hs3 := hgrow2.size
        have S4 : AS w (w3.alloc (.cells #[.slice a3 n c3] 28)) w3.heap.size a3 c3 l (.slice (some ⟨t10, 0, none⟩) 0 0) [] :=
          ⟨low3.alloc low3.size _, blk_alloc res3 _, by rw [← hn.out]; exact blk_new w3 _, by omega, row3.next (below_new w3 _), own_nextC told3 (below_new w3 _)⟩
        obtain ⟨p, hp⟩ : ∃ p, w3.heap.size = p := ⟨_, rfl⟩
        obtain ⟨W4, hW4⟩ : ∃ X, X = w3.alloc (.cells #[.slice a3 n c3] 28) := ⟨_, rfl⟩
        rw [hp] at S4
        rw [← hW4] at S4
        rw [← hW4]
        try rw [hp]
        clear hW4 hp hs3 told3 res3 low3 hgrow2 hgrow hown row3 SC hs1a I1a B1a R1a R0a c0a J1 R0 R1 I1 B1 c0 HSC HW1 hbox
        have h0 := S4.low
        go_wp2_with fail
        go_loopw [10, 12] (fun o i wr => ∃ (k : Nat) (A : List Cl) (T : List Int) (xa : Option Addr) (ca : Nat), k ≤ m ∧ i = .int .i64 k ∧ Hid (A = allC l ids start gap k) ∧ Hid (T = allT l ids start gap k) ∧ AS w wr p xa ca A o T) (fun _ i _ => m - (RowKit.intOf i).toNat)
        case atStart => exact ⟨0, l, [], a3, c3, Nat.zero_le _, rfl, Lib.hid rfl, Lib.hid rfl, S4⟩
        case round =>
          obtain ⟨k, A, T, xa, ca, hk, rfl, HA, HT, S⟩ := hrel
          clear S4 h0
          by_cases hlt : k < m
          · have hkn : (k : Int) < (m : Int) := by omega
            obtain ⟨z, hz⟩ : ∃ z, ids[k]? = some z := ⟨_, List.getElem?_eq_getElem (by rw [← hm.out]; exact hlt)⟩
            have hzd : ids.getD k 0 = z := by rw [List.getD_eq_getElem?_getD, hz]; rfl
            obtain ⟨yb, yo, rfl, hyb, yc⟩ := (hi.next S.low).at_ hz
            obtain ⟨b', off', e2, _, ycy⟩ := ((hi.next S.low).next (below_new wr (.cells #[.slice none 0 0] 28))).at_ hz
            simp only [Option.some.injEq, Addr.mk.injEq] at e2
            obtain ⟨e3, e4, _⟩ := e2
            subst e3
            subst e4
            have hAok : limOk A = true := by rw [HA.out]; exact allC_ok HOK.out ids start gap k
            have hA50 := (limOk_iff.1 hAok).2.2
            have hkg0 : 0 ≤ (k : Int) * gap := Int.mul_nonneg (by omega) g0
            have hkg1 : (k : Int) * gap ≤ 200 * 1000000 := by
              have h1 : (k : Int) * gap ≤ 200 * gap := Int.mul_le_mul_of_nonneg_right (by omega) g0
              have h2 : (200 : Int) * gap ≤ 200 * 1000000 := by omega
              omega
            have hTl : T.length = k := by rw [HT.out]; exact allT_len l ids start gap k
            obtain ⟨kg, hkg⟩ : ∃ v, (k : Int) * gap = v := ⟨_, rfl⟩
            rw [hkg] at hkg0 hkg1
            have hm1 : IntKind.i64.wrap ((k : Int) * gap) = kg := by rw [hkg]; exact IntWalk.i64_in _ (by omega)
            obtain ⟨nw, hnw⟩ : ∃ v, IntKind.i64.wrap (start + kg) = v := ⟨_, rfl⟩
            have hcv : camV A z nw = comeV A z (start + kg) := by rw [camV_yes hAok, ← hnw, came_wrap A z (by omega) (by omega)]
            have eC : allC l ids start gap (k + 1) = afterC A (camV A z nw) := by rw [hcv, allC, hzd, ← HA.out, hkg]
            have eT : allT l ids start gap (k + 1) = T ++ [oneO (camV A z nw)] := by rw [hcv, allT, hzd, ← HA.out, ← HT.out]; unfold oneV; rw [hkg]
            have HEC := Lib.hid eC
            have HET := Lib.hid eT
            have HCS := Lib.hid (fun a b W h => came_spec A A.length (Lib.hid rfl) (by unfold maxLen; omega) z nw xa ca a b W h)
            obtain ⟨O, hO⟩ : ∃ O, camV A z nw = O := ⟨_, rfl⟩
            rw [hO] at HEC HET HCS
            unfold CamOut at HCS
            have hw3 : IntKind.i64.wrap ((k : Int) + 1) = (k : Int) + 1 := IntWalk.i64_in _ (by omega)
            clear hO hcv eC eT hz hzd HA HT hkg hAok
            obtain ⟨c11, _⟩ := one_cell S.box
            have Sd := S.next (below_drewA wr)
            obtain ⟨cd11, _⟩ := one_cell Sd.box
            have ycd : wr.drew.cell? ⟨yb, yo + k, none⟩ = some (.int .i64 z) := yc
            have Sz := (S.next (below_new wr (.cells #[.slice none 0 0] 28))).next (below_drewA _)
            obtain ⟨cz11, _⟩ := one_cell Sz.box
            have ycz : (wr.alloc (.cells #[.slice none 0 0] 28)).drew.cell? ⟨yb, yo + k, none⟩ = some (.int .i64 z) := ycy
            have Nz : (wr.alloc (.cells #[.slice none 0 0] 28)).drew.heap[wr.heap.size]? = some (.cells #[.slice none 0 0] 28) := blk_new wr (.cells #[.slice none 0 0] 28)
            have hlow := S.low.size
            have hpl := (Array.getElem?_eq_some_iff.1 S.box).1
            have hrl := (Array.getElem?_eq_some_iff.1 S.res).1
            go_upto_region 8 with fail
            go_cut [13, 14, 15] from 37 to 67 (fun pp tl ok wx => ∃ (y : Option Addr) (cy q : Nat), pp = .pointer (some ⟨q, 0, none⟩) ∧ tl = .int .i64 (toldC O) ∧ ok = .bool O.isSome ∧ ClRow w.heap.size wx y cy (resC O) ∧ wx.heap[q]? = some (.cells #[.slice y (resC O).length cy] 28) ∧ AS w wx p xa ca A u10 T)
            case first =>
              go_region_with (first
                | (go_at_call 12; (with_reducible refine (HCS.out Sd.row.cap_.1 (clRow_nilA Sd.row) _ Sd.row.cls).mono ?_); rintro e w4 ⟨y4, cy4, rfl, hy, hb4⟩; have D4 := Sd.next hb4; have h4s := hb4.size)
                | (go_at_call 12; (with_reducible refine (HCS.out Sz.row.cap_.1 (clRow_nilA Sz.row) _ Sz.row.cls).mono ?_); rintro e w4 ⟨y4, cy4, rfl, hy, hb4⟩; have D4 := Sz.next hb4; have h4s := hb4.size; have N4 := blk_next hb4 Nz; obtain ⟨n40, n41⟩ := one_cell N4))
              all_goals
                go_wp2_with fail
                go_meet
                case rel =>
                  first
                    | exact ⟨y4, cy4, _, rfl, rfl, rfl, ownsRow_base_le (hy.keep (grown_setC (World.grownBy.refl _ _) 0 _) (fun g e e2 => clRow_boxA (e ▸ hy) N4 (by simpa using e2.symm))) Sz.low.size, heap_set N4 0 _, D4.set hlow (by omega) (by omega) N4⟩
                    | exact ⟨y4, cy4, _, rfl, rfl, rfl, ownsRow_base_le (hy.next (below_new w4 _)) Sd.low.size, blk_new w4 _, D4.next (below_new w4 _)⟩
            case rest =>
            obtain ⟨y4, cy4, q, rfl, rfl, rfl, hy, hN, D6⟩ := hcut
            clear S Sd Sz Nz c11 cd11 cz11 yc ycd ycz ycy hlow hpl hrl HCS
            cases O with
            | none =>
              generalize wc = W7 at *
              have D7 := D6
              clear hy hN D6
              have hgs := D7.low.size
              go_wp2_with (at_builtin; refine wpList_append_own _ rfl _ _ 35 rfl w.heap.size 2 i0 (.int .i64 0) 1 8 Try.underlying35 HI0.out HZ0.out HZ1.out HZ2.out rfl (by decide) _ _ _ rfl (D7.told.alloc _) ⟨W7.heap.size, 0, none⟩ 1 1 [.int .i64 2] rfl rfl (cell_one_newA W7 _ _) (by simp [Value.oneCell']) (by unfold maxLen; omega) (by omega) (by simp; omega) ?_; intro v' w9 hown' hgrow _)
              have D8 := (D7.next (below_new W7 (.cells #[.int .i64 2] 2))).tell (T' := T ++ [2]) hgrow (by simpa using hown')
              go_roundw
              case rel => exact ⟨k + 1, _, T ++ [2], _, _, by omega, by go_num, Lib.hid (by rw [HEC.out]; rfl), Lib.hid (by rw [HET.out]; rfl), D8⟩
              case measure => simp [RowKit.intOf]; omega
            | some P =>
              obtain ⟨L, tt⟩ := P
              have hy' : ClRow w.heap.size wc y4 cy4 L := hy
              have hN' : wc.heap[q]? = some (.cells #[.slice y4 L.length cy4] 28) := hN
              obtain ⟨n0, _⟩ := one_cell hN'
              obtain ⟨b0, b1⟩ := one_cell D6.box
              have D7 := D6.put hy'
              clear hy hN hy' hN' D6
              simp only [toldC, Option.isSome]
              go_upto_region 12 with fail
              generalize wc.setCell ⟨p, 0, none⟩ (.slice y4 L.length cy4) = W7 at *
              clear n0 b0 b1
              have hgs := D7.low.size
              go_wp2_with (at_builtin; refine wpList_append_own _ rfl _ _ 35 rfl w.heap.size 2 i0 (.int .i64 0) 1 8 Try.underlying35 HI0.out HZ0.out HZ1.out HZ2.out rfl (by decide) _ _ _ rfl (D7.told.alloc _) ⟨W7.heap.size, 0, none⟩ 1 1 [.int .i64 tt] rfl rfl (cell_one_newA W7 _ _) (by simp [Value.oneCell']) (by unfold maxLen; omega) (by omega) (by simp; omega) ?_; intro v' w9 hown' hgrow _)
              have D8 := (D7.next (below_new W7 (.cells #[.int .i64 tt] 2))).tell (T' := T ++ [tt]) hgrow (by simpa using hown')
              go_roundw
              case rel => exact ⟨k + 1, _, T ++ [tt], _, _, by omega, by go_num, Lib.hid (by rw [HEC.out]; rfl), Lib.hid (by rw [HET.out]; rfl), D8⟩
              case measure => simp [RowKit.intOf]; omega
          · have hkn : ¬ (k : Int) < (m : Int) := by omega
            have hkm : k = m := by omega
            subst hkm
            obtain ⟨c11, _⟩ := one_cell S.box
            obtain ⟨r0, r1⟩ := one_cell S.res
            have V := heap_set S.res 0 (.slice xa A.length ca)
            have hls := S.low.size
            have G := below_setCell S.low (b := w.heap.size + 1) (by omega) 0 (.slice xa A.length ca)
            have gS : wr.grownBy (wr.setCell ⟨w.heap.size + 1, 0, none⟩ (.slice xa A.length ca)) (some (w.heap.size + 1)) := grown_setC (World.grownBy.refl _ _) 0 _
            have hr3 := S.row.keep gS (fun g e e2 => clRow_boxA (e ▸ S.row) S.res (by simpa using e2.symm))
            have hq := S.told.kept gS (.inr (fun e => int_ne_box S.told S.res _ e rfl))
            clear S
            go_wp2_with fail
            all_goals
              obtain ⟨q0, _⟩ := one_cell V
              try simp only [Exit.inBlock, Exit.then]
              refine bodyPost_ret (by simp [results, Try.results18, go_sem, q0]; try rfl) rfl ?_
              obtain ⟨yy, cyy, e2, hq2⟩ := int_form hq
              subst e2
              have hAA := HA.out
              have hTT := HT.out
              rw [← RA.out] at hAA
              rw [← RT.out] at hTT
              exact ⟨xa, ca, yy, cyy, by rw [← hAA, ← hTT], by rw [← hAA]; exact hr3, by rw [← hTT]; exact hq2, G⟩
end Go.Proofs.Ytckonbbdeohccaa
