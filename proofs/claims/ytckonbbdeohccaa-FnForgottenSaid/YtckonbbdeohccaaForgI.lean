/- Clients forgotten: the program's way. -/
import Derived.Test.YtckonbbdeohccaaCameI
import Derived.Maps.RangeWalk
import Derived.Lib.SlMapFilter
import Derived.Laws.IdiomRangeMap
namespace Go.Proofs.Ytckonbbdeohccaa
open Go.ChangeShapes Go.WideShapes Go.ChangeAt Go.RowKit Go.Maps
set_option linter.unusedVariables false
set_option linter.unusedSimpArgs false
set_option maxRecDepth 100000

/-- Who has no score left. -/
def goneC (now : Int) (c : Cl) : Bool := leftC c now == 0
def goneD (now : Int) : DataW Unit → Bool
  | .agg [.lit (.int _ a), .lit (.int _ b), .lit (.int _ c)] => goneC now ⟨a, b, c⟩
  | _ => false
theorem goneD_dat (now : Int) (c : Cl) : goneD now (clDat c) = goneC now c := rfl
def stayC (l : List Cl) (now : Int) : List Cl := l.filter fun c => !goneC now c
theorem gone_clsD (l : List Cl) (now : Int) : Lib.deleteFuncD (fun _ d => goneD now d) (.map (l.map entC)) = clsD (stayC l now) := by
  unfold Lib.deleteFuncD clsD stayC
  simp only [List.filter_map]
  rfl
theorem dat_mem {es : List (Lit × DataW Unit)} {kl : Lit} {y : DataW Unit} (h : ∀ zd, (DataW.map es).atKey kl zd = y) : ∃ p ∈ es, p.2 = y ∧ p.1.sameKey kl = true := by
  cases hf : es.find? (fun p => p.1.sameKey kl) with
  | none =>
    have h1 := h .nil
    have h2 := h (.agg [])
    unfold DataW.atKey at h1 h2
    simp only [hf] at h1 h2
    rw [← h1] at h2
    cases h2
  | some p =>
    have h1 := h .nil
    unfold DataW.atKey at h1
    simp only [hf] at h1
    exact ⟨p, List.mem_of_find?_eq_some hf, h1, by simpa using List.find?_some hf⟩
set_option maxHeartbeats 1000000 in
theorem forget_c (c : Cl) (hc : clOk c = true) (now : Int) (h0 : 0 ≤ now) (h1 : now ≤ 1000000000) (pn : Nat) (W : World) (hp : W.heap[pn]? = some (.cells #[.int .i64 now] 2)) :
    Calls Try.prog 48 #[.int .i64 c.id, .agg #[.int .i64 c.id, .int .i64 c.last, .int .i64 c.score], .pointer (some ⟨pn, 0, none⟩)] W fun e w' => e = .returned (.bool (goneC now c)) ∧ Below W.heap.size W w' := by
  obtain ⟨_, ⟨b0, b1⟩, s0, s1⟩ := clOk_bounds hc
  have B0 : Below W.heap.size W (W.alloc (.cells #[.int .i64 c.id, .int .i64 c.last, .int .i64 c.score] 52)) := below_new _ _
  obtain ⟨c0, c1, c2⟩ := client_cells (blk_new W (.cells #[.int .i64 c.id, .int .i64 c.last, .int .i64 c.score] 52))
  have cn := (one_cell hp).1
  have hpn := (Array.getElem?_eq_some_iff.1 hp).1
  have HS := Lib.hid (fun W => scoreLeft_c c b0 b1 s0 s1 now h0 h1 W)
  obtain ⟨s, hs⟩ : ∃ s, leftC c now = s := ⟨_, rfl⟩
  have HG : Hid (goneC now c = (s == 0)) := Lib.hid (by unfold goneC; rw [hs])
  rw [hs] at HS
  clear hs hc hp
  go_enter Try.func48, Try.ntmps48
  go_wp2_with fail
  refine (HS.out _).mono ?_
  rintro e w1 ⟨rfl, hb⟩
  go_wp2_with fail
  go_returns
  exact ⟨by rw [HG.out]; rfl, grow_next B0 hb⟩
set_option maxHeartbeats 4000000 in
theorem deleteFunc_c (l : List Cl) (hck : ∀ c ∈ l, clOk c = true) (now : Int) (h0 : 0 ≤ now) (h1 : now ≤ 1000000000) (pn b : Nat) (w : World) (hp : w.heap[pn]? = some (.cells #[.int .i64 now] 2)) (h : ClMap w b l) :
    Calls Try.prog 47 #[.map (some b), .func (.func 48) #[] #[.pointer (some ⟨pn, 0, none⟩)]] w fun e w' => e = .returned (.tuple #[]) ∧ ClMap w' b (stayC l now) ∧ w.grownBy w' (some b) := by
  have hown := h.own
  have hrise := h.rise
  obtain ⟨es0, he0, hap, hkeys⟩ := hown.entries clLaw
  have hes : es0 = l.map entC := by
    unfold clsD at he0
    cases he0
    rfl
  subst hes
  have hbl := hown.lt
  have HP := Lib.hid hp
  have hpb : b ≠ pn := fun e => by
    subst e
    obtain ⟨es, clock, hb, _⟩ := hown
    rw [hp] at hb
    cases hb
  have hpl := (Array.getElem?_eq_some_iff.1 hp).1
  have hown' : w.ownsMap Try.prog 2 clR b l.length (.map (l.map entC)) := hown
  clear he0 hp hown
  go_enter Try.func47, Try.ntmps47
  go_wp2_with (first
    | (at_range; refine wpList_range_own _ rfl _ 64 rfl 2 52 clLaw Try.underlying64 clR b l.length _ rfl hown' ?_; intro w0 hrg0 hg0 hs0)
    | go_in)
  go_frame
  go_loopw [8] (fun _ wr => ∃ (left : Lit → Bool) (cnt : Nat), wr.ranges Try.prog 2 clR b w.heap.size l.length (Fk (fun _ d => goneD now d) (l.map entC) left) left cnt ∧ w.grownBy wr (some b))
    (fun _ wr => wr.rangeLeft b w.heap.size)
  case atStart => exact ⟨_, _, by rw [Fk_start hkeys]; exact hrg0, hg0.but _⟩
  case round =>
    obtain ⟨left, cnt, hrg, hgw⟩ := hrel
    go_wp2_with (first
      | (at_next; refine wpList_next_ranges _ rfl _ rfl 2 clLaw clR encZ (fun c : Cl => .agg #[.int .i64 c.id, .int .i64 c.last, .int .i64 c.score]) (fun key kl hk => by obtain ⟨i, e, _, _⟩ := Maps.keyOf_i64 Try.underlying2 hk; exact ⟨i, e⟩) (fun v y hv => by obtain ⟨c, e, _⟩ := clR_inv hv; exact ⟨c, e⟩) b w.heap.size l.length _ _ _ rfl hrg ?_ ?_)
      | go_in)
    · intro _ hl0
      have hfin : ClMap wr b (stayC l now) := ClMap.of (by rw [← gone_clsD, ← Fk_end hl0]; exact hrg.owns) (hrise.filter _)
      go_wp2
      go_end0
      exact ⟨rfl, hfin, hgw⟩
    · intro i c kl yd yp w1 cnt1 hkey hlx hv hat hrg1 hlt hg1 hs1 hen
      have ey : yd = clDat c := by rw [clR_mk] at hv; exact (congrArg Prod.fst (Option.some.inj hv)).symm
      obtain ⟨i', e1, ek, _⟩ := Maps.keyOf_i64 Try.underlying2 hkey
      obtain rfl : i = i' := encZ_inj e1
      have hat2 : ∀ zd, (Fk (fun _ d => goneD now d) (l.map entC) left).atKey kl zd = clDat c := fun zd => by rw [hat zd, ey]
      obtain ⟨p, hpm, hp2, hp1⟩ := dat_mem hat2
      obtain ⟨c', hc', rfl⟩ := List.mem_map.1 (List.mem_filter.1 hpm).1
      obtain rfl : c' = c := clDat_inj hp2
      have hii : i = c'.id := by
        rw [ek] at hp1
        have : (c'.id == i) = true := by rw [← sameKey_i]; exact hp1
        exact (beq_iff_eq.1 this).symm
      subst hii
      have hgw1 := hgw.andThen hg1 (fun j hj => by cases hj; exact Or.inl (Nat.le_refl _))
      have hk2 := clLaw.key hkey
      have hb0 : Below w1.heap.size w1 (w1.alloc (.cells #[.int .i64 c'.id, .int .i64 c'.last, .int .i64 c'.score] 52)) := below_new _ _
      have hpw : (w1.alloc (.cells #[.int .i64 c'.id, .int .i64 c'.last, .int .i64 c'.score] 52)).heap[pn]? = some (.cells #[.int .i64 now] 2) := blk_alloc ((hgw1.block pn hpl (fun e => hpb (by simpa using e.symm))).trans HP.out) _
      have hc := forget_c c' (hck c' hc') now h0 h1 pn _ hpw
      obtain ⟨x0, x1, x2⟩ := client_cells (blk_new w1 (.cells #[.int .i64 c'.id, .int .i64 c'.last, .int .i64 c'.score] 52))
      have hat3 : ∀ zd, (Fk (fun _ d => goneD now d) (l.map entC) left).atKey kl zd = clDat c' := hat2
      have hen' : (Instr.entry (.pointer (some ⟨w.heap.size, 0, none⟩))).run Try.prog w1 = .ok (.tuple #[.int .i64 c'.id, .agg #[.int .i64 c'.id, .int .i64 c'.last, .int .i64 c'.score]]) w1 := hen
      have hkey' : keyOf Try.prog 2 (.int .i64 c'.id) = some kl := hkey
      have hgoneD := goneD_dat now c'
      clear hpm hp2 hp1 hc' hat hat2 ey e1 hpw hen hkey hv hs1
      cases hpd : goneC now c' with
      | false =>
        rw [hpd] at hc hgoneD
        have HC := Lib.hid hc
        have HD := Lib.hid hgoneD
        clear hc hgoneD hpd
        go_wp2_with fail
        refine HC.out.mono ?_
        rintro e w2 ⟨rfl, hb2⟩
        go_wp2_with fail
        have hg2 := grownC (grow_next hb0 hb2)
        have hrg2 := hrg1.kept hg2 (by simp) (by simp)
        go_roundw
        case rel => exact ⟨_, cnt1, by rw [← Fk_stays hap hk2 hlx HD.out hat3]; exact hrg2, hgw1.andThen hg2 (fun j hj => by cases hj)⟩
        case measure => rw [hrg2.left_eq, hrg.left_eq]; exact hlt
      | true =>
        rw [hpd] at hc hgoneD
        have HC := Lib.hid hc
        have HD := Lib.hid hgoneD
        clear hc hgoneD hpd
        go_wp2_with fail
        refine HC.out.mono ?_
        rintro e w2 ⟨rfl, hb2⟩
        have hg2 := grownC (grow_next hb0 hb2)
        have hrg2 := hrg1.kept hg2 (by simp) (by simp)
        go_wp2_with (first
          | (at_delete; refine wpList_delete_ranges _ rfl _ _ 64 2 rfl 52 clLaw Try.underlying64 clR b w.heap.size l.length _ _ _ rfl hrg2 _ _ rfl hkey' ?_; intro w3 cnt3 hrg3 hle hturn; go_frame)
          | go_in)
        rw [strike_twice] at hrg3
        go_roundw
        case rel => exact ⟨_, cnt3, by rw [← Fk_struck hap hk2 hlx HD.out hat3]; exact hrg3, (hgw1.andThen hg2 (fun j hj => by cases hj)).andThen hturn.grown (fun j hj => by cases hj; exact Or.inr rfl)⟩
        case measure => rw [hrg3.left_eq, hrg.left_eq]; omega
def forgV (l : List Cl) (now : Int) : Option (List Cl) := if limOk l = true ∧ inB 0 now 1000000000 = true then some (stayC l now) else none
def resF (o : Option (List Cl)) : List Cl := match o with | some l' => l' | none => []
/-- What Forgotten answers: a limiter of the call's own, whether. -/
def ForgOut (W : World) (o : Option (List Cl)) : Ending → World → Prop := fun e w' =>
  ∃ (x : Option Addr) (cap : Nat), e = .returned (.tuple #[.agg #[.slice x (resF o).length cap], .bool o.isSome]) ∧ ClRow W.heap.size w' x cap (resF o) ∧ Below W.heap.size W w'
theorem forgV_out {l : List Cl} {now : Int} (h : (limOk l && inB 0 now 1000000000) = false) : forgV l now = none := by
  unfold forgV
  rw [if_neg]
  rintro ⟨h1, h2⟩
  rw [h1, h2] at h
  cases h
theorem forgV_in {l : List Cl} {now : Int} (h1 : limOk l = true) (h2 : inB 0 now 1000000000 = true) : forgV l now = some (stayC l now) := if_pos ⟨h1, h2⟩
theorem stayC_ok {l : List Cl} (h : limOk l = true) (now : Int) : limOk (stayC l now) = true := by
  obtain ⟨h1, h2, h3⟩ := limOk_iff.1 h
  exact limOk_iff.2 ⟨h1.filter _, fun c hc => h2 c (List.mem_filter.1 hc).1, Nat.le_trans (List.length_filter_le _ _) h3⟩
set_option maxHeartbeats 4000000 in
theorem forgotten_impl (l : List Cl) (n : Nat) (hn : Hid (n = l.length)) (hm : n ≤ maxLen) (now : Int) (x : Option Addr) (cap : Nat) (w : World) (h : Cls w.heap.size w x l) :
    Calls Try.prog 25 #[.agg #[.slice x n cap], .int .i64 now] w (ForgOut w (forgV l now)) := by
  have HL := Lib.hid (fun w h => limOk_impl l n hn hm x cap w h)
  have Q0 := blk_alloc (blk_alloc (blk_new w (.cells #[.slice x n cap] 28)) (.cells #[.int .i64 now] 2)) (.cells #[.slice none 0 0] 28)
  have Q1 := blk_alloc (blk_new (w.alloc (.cells #[.slice x n cap] 28)) (.cells #[.int .i64 now] 2)) (.cells #[.slice none 0 0] 28)
  have Q2 := blk_new ((w.alloc (.cells #[.slice x n cap] 28)).alloc (.cells #[.int .i64 now] 2)) (.cells #[.slice none 0 0] 28)
  simp only [World.size_alloc] at Q1 Q2
  have B0 : Below w.heap.size w (((w.alloc (.cells #[.slice x n cap] 28)).alloc (.cells #[.int .i64 now] 2)).alloc (.cells #[.slice none 0 0] 28)) := by go_grown
  obtain ⟨q, hq⟩ : ∃ q, inB 0 now 1000000000 = q := ⟨_, rfl⟩
  have HQ := Lib.hid (fun W => (hq ▸ within_c now 0 1000000000 W : Calls Try.prog 46 #[.int .i64 now, .int .i64 0, .int .i64 1000000000] W fun e w' => e = .returned (.bool q) ∧ W = w'))
  have HO : Hid ((limOk l && q) = false → forgV l now = none) := Lib.hid (fun e => forgV_out (by rw [hq]; exact e))
  have HI : Hid (limOk l = true → q = true → forgV l now = some (stayC l now)) := Lib.hid (fun e1 e2 => forgV_in e1 (by rw [hq]; exact e2))
  have HN : Hid (q = true → 0 ≤ now ∧ now ≤ 1000000000) := Lib.hid (fun e => inB_iff.1 (by rw [hq]; exact e))
  clear hq
  go_enter Try.func25, Try.ntmps25
  go_upto_region 1 with fail
  generalize ((w.alloc (.cells #[.slice x n cap] 28)).alloc (.cells #[.int .i64 now] 2)).alloc (.cells #[.slice none 0 0] 28) = W at *
  obtain ⟨c0, _⟩ := one_cell Q0
  go_wp2_with fail
  refine (HL.out _ (h.next B0)).mono ?_
  rintro e w1 ⟨rfl, b1⟩
  have B1 := grow_next B0 b1
  have R0 := blk_next b1 Q0
  have R1 := blk_next b1 Q1
  have R2 := blk_next b1 Q2
  clear Q0 Q1 Q2 c0 b1 B0 HL
  have hbox : w.heap.size + 2 < w1.heap.size := (Array.getElem?_eq_some_iff.1 R2).1
  obtain ⟨n1, _⟩ := one_cell R1
  cases ho : limOk l with
  | false =>
    have HV : Hid (forgV l now = none) := Lib.hid (HO.out (by rw [ho]; rfl))
    obtain ⟨c0, c1⟩ := one_cell R2
    have V := heap_set R2 0 (.slice none 0 0)
    have G := below_setCell B1 (b := w.heap.size + 2) (by omega) 0 (.slice none 0 0)
    go_wp2_with fail
    obtain ⟨q0, _⟩ := one_cell V
    try simp only [Exit.inBlock, Exit.then]
    refine bodyPost_ret (by simp [results, Try.results25, go_sem, q0]; try rfl) rfl ?_
    exact ⟨none, 0, by rw [HV.out]; rfl, by rw [HV.out]; exact clRow_nil _ _, G⟩
  | true =>
    have HOK := Lib.hid ho
    clear ho
    go_wp2_with fail
    refine (HQ.out _).mono ?_
    rintro e w2 ⟨rfl, rfl⟩
    cases q with
    | false =>
      have HV : Hid (forgV l now = none) := Lib.hid (HO.out (by rw [HOK.out]; rfl))
      obtain ⟨c0, c1⟩ := one_cell R2
      have V := heap_set R2 0 (.slice none 0 0)
      have G := below_setCell B1 (b := w.heap.size + 2) (by omega) 0 (.slice none 0 0)
      go_wp2_with fail
      obtain ⟨q0, _⟩ := one_cell V
      try simp only [Exit.inBlock, Exit.then]
      refine bodyPost_ret (by simp [results, Try.results25, go_sem, q0]; try rfl) rfl ?_
      exact ⟨none, 0, by rw [HV.out]; rfl, by rw [HV.out]; exact clRow_nil _ _, G⟩
    | true =>
      have HV : Hid (forgV l now = some (stayC l now)) := Lib.hid (HI.out HOK.out (by trivial))
      obtain ⟨k0, k1⟩ := HN.out (by trivial)
      obtain ⟨h1, h2, h3⟩ := limOk_iff.1 HOK.out
      have HC := Lib.hid (clientsOf_c l HOK.out n hn x cap _ (h.next B1))
      obtain ⟨c0, _⟩ := one_cell R0
      clear HO HI HN
      go_wp2_with fail
      refine HC.out.mono ?_
      rintro e w3 ⟨b, rfl, hbb, M3, b3⟩
      have B3 := grow_next B1 b3
      have S1 := blk_next b3 R1
      have S2 := blk_next b3 R2
      have HDF := Lib.hid (deleteFunc_c l h2 now k0 k1 (w.heap.size + 1) b w3 S1 M3)
      clear HC R0 R1 R2 c0 n1
      go_wp2_with (go_at_call 47; refine HDF.out.mono ?_; rintro e w4 ⟨rfl, M4, g4⟩)
      have B4 : Below w.heap.size w w4 := B3.grown g4 B3.size (fun j hj => by cases hj; have := B1.size; omega)
      have T2 := (g4.block (w.heap.size + 2) (Array.getElem?_eq_some_iff.1 S2).1 (by simp only [ne_eq, Option.some.injEq]; omega)).trans S2
      obtain ⟨r1, r2, r3⟩ := limOk_iff.1 (stayC_ok HOK.out now)
      have HM := Lib.hid (limiter_c (stayC l now) (stayC l now).length (Lib.hid rfl) r3 r2 b w4 M4)
      obtain ⟨L, hL⟩ : ∃ L, stayC l now = L := ⟨_, rfl⟩
      rw [hL] at HV HM
      clear HDF S1 S2 g4 r1 r2 r3 hL
      refine HM.out.mono ?_
      rintro e w5 ⟨y, cy, rfl, hr, b5⟩
      have B5 := grow_next B4 b5
      have U2 := blk_next b5 T2
      obtain ⟨c0, c1⟩ := one_cell U2
      have V := heap_set U2 0 (.slice y L.length cy)
      have G := below_setCell B5 (b := w.heap.size + 2) (by omega) 0 (.slice y L.length cy)
      have gS : w5.grownBy (w5.setCell ⟨w.heap.size + 2, 0, none⟩ (.slice y L.length cy)) (some (w.heap.size + 2)) := grown_setC (World.grownBy.refl _ _) 0 _
      have hlt4 := (Array.getElem?_eq_some_iff.1 T2).1
      have hr2 := hr.keep gS (fun g e => by have := (e ▸ hr).lt.1; simp only [ne_eq, Option.some.injEq]; omega)
      have hr3 : ClRow w.heap.size _ y cy L := ownsRow_base_le hr2 B4.size
      clear HM hr hr2 gS T2 U2 B5 b5
      go_wp2_with fail
      obtain ⟨q0, _⟩ := one_cell V
      try simp only [Exit.inBlock, Exit.then]
      refine bodyPost_ret (by simp [results, Try.results25, go_sem, q0]; try rfl) rfl ?_
      exact ⟨y, cy, by rw [HV.out]; rfl, by rw [HV.out]; exact hr3, G⟩
end Go.Proofs.Ytckonbbdeohccaa
