/- The program's map of clients: made of a limiter; somebody comes. -/
import Derived.Test.YtckonbbdeohccaaClMap
namespace Go.Proofs.Ytckonbbdeohccaa
open Go.ChangeShapes Go.WideShapes Go.ChangeAt Go.RowKit Go.Maps
set_option linter.unusedVariables false
set_option linter.unusedSimpArgs false
set_option maxRecDepth 100000

theorem clOk_bounds {c : Cl} (h : clOk c = true) : (1 ≤ c.id ∧ c.id ≤ 1000) ∧ (0 ≤ c.last ∧ c.last ≤ 1000000000) ∧ 0 ≤ c.score ∧ c.score ≤ 20 := by
  unfold clOk at h
  rw [Bool.and_eq_true, Bool.and_eq_true, inB_iff, inB_iff, inB_iff] at h
  exact ⟨h.1.1, h.1.2, h.2⟩
set_option maxHeartbeats 4000000 in
theorem clientsOf_c (l : List Cl) (hok : limOk l = true) (n : Nat) (hn : Hid (n = l.length)) (x : Option Addr) (cap : Nat) (w : World) (h : Cls w.heap.size w x l) :
    Calls Try.prog 40 #[.agg #[.slice x n cap]] w fun e w' => ∃ b, e = .returned (.map (some b)) ∧ w.heap.size ≤ b ∧ ClMap w' b l ∧ Below w.heap.size w w' := by
  obtain ⟨hr, hck, h50⟩ := limOk_iff.1 hok
  have hn50 : n ≤ 50 := by rw [hn.out]; exact h50
  have HK := Lib.hid hck
  have HR := Lib.hid hr
  have hmm := @run_makeMap Try.prog
  have Q0 := blk_alloc (blk_new w (.cells #[.slice x n cap] 28)) (.map #[] 0)
  have B0 : Below w.heap.size w (w.alloc (.cells #[.slice x n cap] 28)) := below_new _ _
  have B1 := B0.alloc B0.size (.map #[] 0)
  have M0 : ClMap ((w.alloc (.cells #[.slice x n cap] 28)).alloc (.map #[] 0)) (w.alloc (.cells #[.slice x n cap] 28)).heap.size [] := ClMap.of (World.ownsMap_made _ _ _ _) List.Pairwise.nil
  have hsz : (w.alloc (.cells #[.slice x n cap] 28)).heap.size = w.heap.size + 1 := World.size_alloc _ _
  rw [hsz] at M0
  clear hok hr hck h50
  go_enter Try.func40, Try.ntmps40
  go_upto_region 2 with fail
  generalize (w.alloc (.cells #[.slice x n cap] 28)).alloc (.map #[] 0) = W1 at *
  have h1 := h.next B1
  have HB := Lib.hid B1
  obtain ⟨c0, _⟩ := one_cell Q0
  clear hmm B0 hsz h1
  go_wp2_with fail
  go_loopw [10] (fun i wr => ∃ k : Nat, k ≤ n ∧ i = .int .i64 k ∧ ClMap wr (w.heap.size + 1) (l.take k) ∧ W1.grownBy wr (some (w.heap.size + 1))) (fun i _ => n - (RowKit.intOf i).toNat)
  case atStart => exact ⟨0, Nat.zero_le _, rfl, by simpa using M0, World.grownBy.refl _ _⟩
  case round =>
    obtain ⟨k, hk, rfl, hm, hg⟩ := hrel
    by_cases hlt : k < n
    · obtain ⟨v, hv⟩ := getC (l := l) (k := k) (by rw [← hn.out]; exact hlt)
      have hsw := HB.out.size
      have hb : Below w.heap.size w wr := HB.out.grown hg HB.out.size (fun j hj => by cases hj; omega)
      obtain ⟨b, off, rfl, _, d0, d1, d2⟩ := (h.next hb).at_ hv
      have hlen : (l.take k).length = k := by have := hn.out; simp; omega
      have HRk : RisingC (l.take k ++ [v]) := by rw [← take_nextC hv]; exact List.Pairwise.sublist (List.take_sublist _ _) HR.out
      have E := Lib.hid (show clsD (l.take (k + 1)) = (clsD (l.take k)).put (.int .i64 v.id) (clDat v) by rw [put_clsD hm.rise, putC_last HRk, ← take_nextC hv])
      have HR1 := Lib.hid (show RisingC (l.take (k + 1)) by rw [take_nextC hv]; exact HRk)
      obtain ⟨⟨i0, i1⟩, _⟩ := clOk_bounds (HK.out v (List.mem_of_getElem? hv))
      have hkey := key_cl (i := v.id) (by omega)
      have hg1 := World.grownBy_alloc wr (.cells #[.int .i64 v.id, .int .i64 v.last, .int .i64 v.score] 52) none
      have hm1 := (hm.kept hg1 (by simp)).own
      rw [hlen] at hm1
      obtain ⟨x0, x1, x2⟩ := client_cells (blk_new wr (.cells #[.int .i64 v.id, .int .i64 v.last, .int .i64 v.score] 52))
      have HG := Lib.hid (hg.andThen hg1 (fun j hj => by cases hj))
      have hk50 : k < maxLen := by unfold maxLen; omega
      clear hv hb HRk hlen hm hg hg1 hsw i0 i1
      go_wp2_with (at_mapUpdate; refine wpList_mapUpdate_own _ rfl _ _ _ 64 rfl 2 52 clLaw Try.underlying64 clR (w.heap.size + 1) k (clsD (l.take k)) rfl hm1 hk50 _ _ _ rfl rfl hkey (clDat v) [] (clR_mk v) ?_; intro w1 hown1 hgrow1)
      rw [← E.out] at hown1
      have hg2 := HG.out.andThen hgrow1 (fun j hj => by cases hj; exact Or.inr rfl)
      have hm2 := ClMap.of hown1 HR1.out
      clear hown1 hgrow1
      go_roundw
      case rel => exact ⟨k + 1, by omega, by go_num, hm2, hg2⟩
      case measure => simp [RowKit.intOf]; omega
    · have e : k = n := by omega
      rw [e, hn.out, List.take_length] at hm
      have hsw := HB.out.size
      have hb : Below w.heap.size w wr := HB.out.grown hg HB.out.size (fun j hj => by cases hj; omega)
      clear e
      go_wp2_with fail
      go_returns
      exact ⟨_, rfl, by omega, hm, hb⟩
theorem comeV_out {l : List Cl} {id now : Int} (h : (inB 1 id 1000 && inB 0 now 1000000000) = false) : comeV l id now = none := by unfold comeV; rw [if_neg (by rw [h]; simp)]
theorem comeV_new {l : List Cl} {id now : Int} (h : (inB 1 id 1000 && inB 0 now 1000000000) = true) (hc : clAt l id = none) : comeV l id now = if l.length = 50 then none else some (putC l ⟨id, now, 4⟩, 0) := by unfold comeV; rw [if_pos h, hc]
theorem comeV_old {l : List Cl} {id now : Int} {c : Cl} (h : (inB 1 id 1000 && inB 0 now 1000000000) = true) (hc : clAt l id = some c) : comeV l id now = if now < c.last then none else some (putC l ⟨id, now, min (leftC c now + 4) 20⟩, if 20 < leftC c now + 4 then 1 else 0) := by unfold comeV; rw [if_pos h, hc]
theorem ClMap.putted {w : World} {b n : Nat} {l : List Cl} {c : Cl} (h : w.ownsMap Try.prog 2 clR b n ((clsD l).put (.int .i64 c.id) (clDat c))) (hr : RisingC l) : ClMap w b (putC l c) := ClMap.of (by rw [← put_clsD hr]; exact h) (putC_rising _ hr)
/-- Somebody has come, or was refused. -/
def Came (l : List Cl) (o : Option (List Cl × Int)) (b : Nat) (w : World) : Ending → World → Prop := fun e w' =>
  e = .returned (.tuple #[.int .i64 (toldC o), .bool o.isSome]) ∧ ClMap w' b (afterC l o) ∧ w.grownBy w' (some b)
set_option maxHeartbeats 4000000 in
theorem come_c (l : List Cl) (hok : limOk l = true) (b : Nat) (id now : Int) (w : World) (h : ClMap w b l) :
    Calls Try.prog 41 #[.map (some b), .int .i64 id, .int .i64 now] w (Came l (comeV l id now) b w) := by
  obtain ⟨hr, hck, h50⟩ := limOk_iff.1 hok
  have g0 : w.grownBy w (some b) := World.grownBy.refl _ _
  obtain ⟨p, hp⟩ : ∃ p, inB 1 id 1000 = p := ⟨_, rfl⟩
  obtain ⟨q, hq⟩ : ∃ q, inB 0 now 1000000000 = q := ⟨_, rfl⟩
  have HP := Lib.hid (fun W => (hp ▸ within_c id 1 1000 W : Calls Try.prog 46 #[.int .i64 id, .int .i64 1, .int .i64 1000] W fun e w' => e = .returned (.bool p) ∧ W = w'))
  have HQ := Lib.hid (fun W => (hq ▸ within_c now 0 1000000000 W : Calls Try.prog 46 #[.int .i64 now, .int .i64 0, .int .i64 1000000000] W fun e w' => e = .returned (.bool q) ∧ W = w'))
  have HO : Hid ((p && q) = false → comeV l id now = none) := Lib.hid (fun e => comeV_out (by rw [hp, hq]; exact e))
  cases p with
  | false =>
    have HV := Lib.hid (HO.out rfl)
    clear HO hp hq hck hr h50
    go_enter Try.func41, Try.ntmps41
    go_wp2_with fail
    refine (HP.out _).mono ?_
    rintro e w1 ⟨rfl, rfl⟩
    go_wp2_with fail
    go_returns
    exact ⟨by rw [HV.out]; rfl, by rw [HV.out]; exact h, g0⟩
  | true =>
  cases q with
  | false =>
    have HV := Lib.hid (HO.out rfl)
    clear HO hp hq hck hr h50
    go_enter Try.func41, Try.ntmps41
    go_wp2_with fail
    refine (HP.out _).mono ?_
    rintro e w1 ⟨rfl, rfl⟩
    go_wp2_with fail
    refine (HQ.out _).mono ?_
    rintro e w1 ⟨rfl, rfl⟩
    go_wp2_with fail
    go_returns
    exact ⟨by rw [HV.out]; rfl, by rw [HV.out]; exact h, g0⟩
  | true =>
  have hb : (inB 1 id 1000 && inB 0 now 1000000000) = true := by rw [hp, hq]; rfl
  obtain ⟨i0, i1⟩ := inB_iff.1 hp
  obtain ⟨n0, n1⟩ := inB_iff.1 hq
  have hkey := key_cl (i := id) (by omega)
  have hl := h.look id (by omega) true
  clear HO hp hq
  cases hc : clAt l id with
  | some c =>
    rw [hc] at hl
    have HV := Lib.hid (comeV_old hb hc)
    obtain ⟨_, ⟨b0, b1⟩, s0, s1⟩ := clOk_bounds (hck c (clAt_some hc).1)
    have HS := Lib.hid (fun W => scoreLeft_c c b0 b1 s0 s1 now n0 n1 W)
    have HN0 : 0 ≤ leftC c now := by unfold leftC; omega
    have HN1 : leftC c now ≤ 1000000020 := by unfold leftC; omega
    obtain ⟨s, hs⟩ : ∃ s, leftC c now = s := ⟨_, rfl⟩
    rw [hs] at HV HS HN0 HN1
    have e4 : IntKind.i64.wrap (s + 4) = s + 4 := IntWalk.i64_in _ (by omega)
    have hl' : (Instr.lookup 64 (.map (some b)) (.int .i64 id) true).run Try.prog w = .ok (.tuple #[.agg #[.int .i64 c.id, .int .i64 c.last, .int .i64 c.score], .bool true]) w := hl
    obtain ⟨x0, x1, x2⟩ := client_cells (blk_new w (.cells #[.int .i64 c.id, .int .i64 c.last, .int .i64 c.score] 52))
    have B1 := below_new w (.cells #[.int .i64 c.id, .int .i64 c.last, .int .i64 c.score] 52)
    have X1 := blk_new w (.cells #[.int .i64 c.id, .int .i64 c.last, .int .i64 c.score] 52)
    have M1 := h.next B1
    clear hs hc hl hb hck
    by_cases hlt : now < c.last
    · have HV2 : Hid (comeV l id now = none) := Lib.hid (HV.out.trans (if_pos hlt))
      have g1 : w.grownBy (w.alloc (.cells #[.int .i64 c.id, .int .i64 c.last, .int .i64 c.score] 52)) (some b) := World.grownBy_alloc _ _ _
      have hd := decide_eq_true hlt
      go_enter Try.func41, Try.ntmps41
      go_wp2_with fail
      refine (HP.out _).mono ?_
      rintro e w1 ⟨rfl, rfl⟩
      go_wp2_with fail
      refine (HQ.out _).mono ?_
      rintro e w1 ⟨rfl, rfl⟩
      go_wp2_with fail
      go_returns
      exact ⟨by rw [HV2.out]; rfl, by rw [HV2.out]; exact M1, g1⟩
    · have HV1 : Hid (comeV l id now = some (putC l ⟨id, now, min (s + 4) 20⟩, if 20 < s + 4 then 1 else 0)) := Lib.hid (HV.out.trans (if_neg hlt))
      have hd := decide_eq_false hlt
      clear HV
      go_enter Try.func41, Try.ntmps41
      go_wp2_with fail
      refine (HP.out _).mono ?_
      rintro e w1 ⟨rfl, rfl⟩
      go_wp2_with fail
      refine (HQ.out _).mono ?_
      rintro e w1 ⟨rfl, rfl⟩
      go_wp2_with fail
      refine (HS.out _).mono ?_
      rintro e w2 ⟨rfl, b2⟩
      have M2 := M1.next b2
      have G2 : w.grownBy w2 (some b) := (World.grownBy_alloc w (.cells #[.int .i64 c.id, .int .i64 c.last, .int .i64 c.score] 52) (some b)).andThen (grownC b2) (fun j hj => by cases hj)
      have M2o := M2.own
      have h50' : l.length < maxLen := by unfold maxLen; omega
      by_cases h20 : 20 < s + 4
      · have HV2 : Hid (comeV l id now = some (putC l ⟨id, now, 20⟩, 1)) := Lib.hid (by rw [HV1.out, if_pos h20, show min (s + 4) 20 = 20 by omega])
        have h20' : ¬ s + 4 < 20 := by omega
        go_wp2_with (at_mapUpdate; refine wpList_mapUpdate_own _ rfl _ _ _ 64 rfl 2 52 clLaw Try.underlying64 clR b l.length (clsD l) rfl M2o h50' _ _ _ rfl rfl hkey (clDat ⟨id, now, 20⟩) [] (clR_mk ⟨id, now, 20⟩) ?_; intro w3 hown3 hgrow3)
        all_goals go_returns
        all_goals exact ⟨by rw [HV2.out]; rfl, by rw [HV2.out]; exact ClMap.putted (c := ⟨id, now, 20⟩) hown3 hr, G2.andThen hgrow3 (fun j hj => by cases hj; exact Or.inr rfl)⟩
      · have HV2 : Hid (comeV l id now = some (putC l ⟨id, now, s + 4⟩, 0)) := Lib.hid (by rw [HV1.out, if_neg h20, show min (s + 4) 20 = s + 4 by omega])
        have h20' : s + 4 ≤ 20 := by omega
        go_wp2_with (at_mapUpdate; refine wpList_mapUpdate_own _ rfl _ _ _ 64 rfl 2 52 clLaw Try.underlying64 clR b l.length (clsD l) rfl M2o h50' _ _ _ rfl rfl hkey (clDat ⟨id, now, s + 4⟩) [] (clR_mk ⟨id, now, s + 4⟩) ?_; intro w3 hown3 hgrow3)
        all_goals go_returns
        all_goals exact ⟨by rw [HV2.out]; rfl, by rw [HV2.out]; exact ClMap.putted (c := ⟨id, now, s + 4⟩) hown3 hr, G2.andThen hgrow3 (fun j hj => by cases hj; exact Or.inr rfl)⟩
  | none =>
    rw [hc] at hl
    have HV := Lib.hid (comeV_new hb hc)
    have HS := Lib.hid (fun W => (scoreLeft_c ⟨0, 0, 0⟩ (by decide) (by decide) (by decide) (by decide) now n0 n1 W : Calls Try.prog 49 #[.agg #[.int .i64 0, .int .i64 0, .int .i64 0], .int .i64 now] W fun e w' => e = .returned (.int .i64 (leftC ⟨0, 0, 0⟩ now)) ∧ Below W.heap.size W w'))
    rw [show leftC ⟨0, 0, 0⟩ now = 0 by unfold leftC; show max (0 - (now - 0)) 0 = 0; omega] at HS
    have hl' : (Instr.lookup 64 (.map (some b)) (.int .i64 id) true).run Try.prog w = .ok (.tuple #[.agg #[.int .i64 0, .int .i64 0, .int .i64 0], .bool false]) w := hl
    obtain ⟨x0, x1, x2⟩ := client_cells (v := ⟨0, 0, 0⟩) (blk_new w (.cells #[.int .i64 0, .int .i64 0, .int .i64 0] 52))
    have B1 := below_new w (.cells #[.int .i64 0, .int .i64 0, .int .i64 0] 52)
    have M1 := h.next B1
    have hlen := fun ty => M1.len ty
    have hd := decide_eq_false (show ¬ now < 0 by omega)
    clear hc hl hb hck
    by_cases h5 : l.length = 50
    · have HV2 : Hid (comeV l id now = none) := Lib.hid (HV.out.trans (if_pos h5))
      have g1 : w.grownBy (w.alloc (.cells #[.int .i64 0, .int .i64 0, .int .i64 0] 52)) (some b) := World.grownBy_alloc _ _ _
      have h5' : ((l.length : Int) == 50) = true := by rw [beq_iff_eq]; omega
      clear h5
      go_enter Try.func41, Try.ntmps41
      go_wp2_with fail
      refine (HP.out _).mono ?_
      rintro e w1 ⟨rfl, rfl⟩
      go_wp2_with fail
      refine (HQ.out _).mono ?_
      rintro e w1 ⟨rfl, rfl⟩
      go_wp2_with fail
      go_returns
      exact ⟨by rw [HV2.out]; rfl, by rw [HV2.out]; exact M1, g1⟩
    · have HV2 : Hid (comeV l id now = some (putC l ⟨id, now, 4⟩, 0)) := Lib.hid (HV.out.trans (if_neg h5))
      have h5' : ((l.length : Int) == 50) = false := by rw [beq_eq_false_iff_ne]; omega
      clear HV
      go_enter Try.func41, Try.ntmps41
      go_wp2_with fail
      refine (HP.out _).mono ?_
      rintro e w1 ⟨rfl, rfl⟩
      go_wp2_with fail
      refine (HQ.out _).mono ?_
      rintro e w1 ⟨rfl, rfl⟩
      go_wp2_with fail
      refine (HS.out _).mono ?_
      rintro e w2 ⟨rfl, b2⟩
      have M2 := M1.next b2
      have G2 : w.grownBy w2 (some b) := (World.grownBy_alloc w (.cells #[.int .i64 0, .int .i64 0, .int .i64 0] 52) (some b)).andThen (grownC b2) (fun j hj => by cases hj)
      have M2o := M2.own
      have h50' : l.length < maxLen := by unfold maxLen; omega
      go_wp2_with (at_mapUpdate; refine wpList_mapUpdate_own _ rfl _ _ _ 64 rfl 2 52 clLaw Try.underlying64 clR b l.length (clsD l) rfl M2o h50' _ _ _ rfl rfl hkey (clDat ⟨id, now, 4⟩) [] (clR_mk ⟨id, now, 4⟩) ?_; intro w3 hown3 hgrow3)
      go_returns
      exact ⟨by rw [HV2.out]; rfl, by rw [HV2.out]; exact ClMap.putted (c := ⟨id, now, 4⟩) hown3 hr, G2.andThen hgrow3 (fun j hj => by cases hj; exact Or.inr rfl)⟩
end Go.Proofs.Ytckonbbdeohccaa
