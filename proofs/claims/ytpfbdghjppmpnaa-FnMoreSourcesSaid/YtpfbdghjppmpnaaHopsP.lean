/- How many hops: the program's HopsOf. -/
import Derived.Test.YtpfbdghjppmpnaaHopsI
namespace Go.Proofs.Ytpfbdghjppmpnaa
open Go.ChangeShapes Go.WideShapes Go.ChangeAt Go.RowKit
set_option linter.unusedVariables false
set_option linter.unusedSimpArgs false

theorem IntTab.own {base n g : Nat} {w : World} {l : List Int} (h : IntTab n w g l) (hl : l.length = n) (hg : base ≤ g) (hm : n ≤ maxLen) : OwnInts base w g n l := by
  obtain ⟨cur, h1, h2, h3, h4⟩ := h
  refine ⟨by simp, .inr ⟨g, n, cur, rfl, hg, h1, by omega, hm, h2, ?_⟩⟩
  apply List.ext_getElem?
  intro i
  rw [List.getElem?_take, List.getElem?_map]
  rcases Nat.lt_or_ge i l.length with hlt | hge
  · rw [if_pos (by omega), Array.getElem?_toList]
    obtain ⟨z, hz⟩ := getI hlt
    have := h4 i z 0 z hz rfl
    rw [Nat.mul_one, Nat.add_zero] at this
    rw [this, hz]
    rfl
  · rw [if_neg (by omega), List.getElem?_eq_none hge]
    rfl
theorem l_peers_short' {l : List Nd} (h : nodesOk l = true) {v : Nd} (hv : v ∈ l) : v.peers.length ≤ 12 := by
  obtain ⟨j, hj⟩ := List.getElem?_of_mem hv
  have hr := (nd_parts (nodesOk_at h hj)).1
  have hl := nodesOk_len h
  have key : ∀ k, k ≤ v.peers.length → (k : Int) ≤ prevOf v.peers k + 1 := by
    intro k
    induction k with
    | zero => intro _; rw [prevOf_zero]; omega
    | succ k ih =>
      intro hk
      obtain ⟨z, hz⟩ := getI (l := v.peers) (k := k) (by omega)
      have h1 := riseTo_at hr (by omega) hz
      unfold riseAt at h1
      rw [Bool.and_eq_true, decide_eq_true_eq] at h1
      rw [prevOf_next hz]
      have := ih (by omega)
      omega
  rcases Nat.eq_zero_or_pos v.peers.length with h0 | h0
  · omega
  · obtain ⟨z, hz⟩ := getI (l := v.peers) (k := v.peers.length - 1) (by omega)
    have h1 := riseTo_at hr (by omega) hz
    unfold riseAt at h1
    rw [Bool.and_eq_true, inB_iff] at h1
    have h2 := key v.peers.length (Nat.le_refl _)
    have h3 := prevOf_next hz
    rw [Nat.sub_add_cancel h0] at h3
    omega
theorem own_lowerH {w : World} {base base' : Nat} {e : TypeId} {size : Nat} {v : Value} {n : Nat} {xs : List Value} (h : w.ownsRow base e size v n xs) (hb : base' ≤ base) : w.ownsRow base' e size v n xs := by
  refine ⟨h.1, ?_⟩
  rcases h.2 with h | ⟨g, c, cur, h, h1, r⟩
  · exact .inl h
  · exact .inr ⟨g, c, cur, h, by omega, r⟩
def HopsPost (w : World) (l : List Nd) (m : Nat) : Ending → World → Prop := fun e w' => ∃ y cap, e = .returned (.slice y m cap) ∧ w'.ownsRow w.heap.size 2 1 (.slice y m cap) m ((hopsV l).map (Value.int .i64)) ∧ Below w.heap.size w w'
theorem below_setP {B : Nat} {w W : World} {b : Nat} (h : Below B w W) (hb : B ≤ b) (o : Nat) (v : Value) : Below B w (W.setCell ⟨b, o, none⟩ v) := h.setCell hb v
set_option maxRecDepth 100000 in
set_option maxHeartbeats 8000000 in
theorem hopsOf_impl (l : List Nd) (n : Nat) (hn : Hid (n = l.length)) (hm : n ≤ maxLen) (x : Option Addr) (cap : Nat) (w : World) (h : Nds w.heap.size w x l) :
    Calls Try.prog 6 #[.slice x n cap] w (HopsPost w l (hopsV l).length) := by
  have HO := Lib.hid (nodesOk_impl l n hn hm x cap w h)
  go_enter Try.func6, Try.ntmps6
  cases hok : nodesOk l with
  | false =>
    rw [hok] at HO
    have HV : Hid (hopsV l = []) := Lib.hid (by unfold hopsV; rw [hok]; rfl)
    clear hok
    go_wp2_with fail
    refine HO.out.mono ?_
    rintro e w1 ⟨rfl, hb1⟩
    go_wp2_with fail
    go_returns
    exact ⟨none, 0, by rw [HV.out]; rfl, by rw [HV.out]; exact World.ownsRow_nil _ _ _ _, hb1⟩
  | true =>
    rw [hok] at HO
    have HK := Lib.hid hok
    have hl12 := nodesOk_len hok
    have hn12 : n ≤ 12 := by rw [hn.out]; exact hl12
    clear hok hl12
    go_wp2_with fail
    refine HO.out.mono ?_
    rintro e w1 ⟨rfl, hb1⟩
    have h1 := h.next hb1
    have hmk := run_make_tab (P := Try.prog) Try.underlying26 infoInt' n (by omega) (by omega)
    have hT : IntTab n (w1.alloc (.cells (madeCells (Value.int .i64 0).cells (n * 1)) 2)) w1.heap.size [] := TabAt.made _ rfl w1 (Nat.zero_le _)
    rw [Nat.mul_one] at hT
    simp only [Nat.mul_one] at hmk
    have B1 : Below w1.heap.size w1 (w1.alloc (.cells (madeCells (Value.int .i64 0).cells n) 2)) := below_new _ _
    clear HO h
    go_wp2_with fail
    go_loopw [14] (fun i wr => ∃ k : Nat, k ≤ n ∧ i = .int .i64 k ∧ IntTab n wr w1.heap.size (List.replicate k (-1)) ∧ Below w1.heap.size w1 wr) (fun i _ => n - (intOf i).toNat)
    case atStart => exact ⟨0, Nat.zero_le _, rfl, hT, B1⟩
    case round =>
      obtain ⟨k, hk, rfl, ht, hb⟩ := hrel
      clear hmk
      by_cases hlt : k < n
      · obtain ⟨⟨u0, r0⟩, f0⟩ := TabAt.room ht (o := k) (by omega)
        have hp := ht.put (by rw [List.length_replicate]; exact hlt) (-1)
        rw [List.length_replicate] at hp
        have hrp : List.replicate (k + 1) (-1 : Int) = List.replicate k (-1) ++ [-1] := List.replicate_succ'
        rw [← hrp] at hp
        have G := below_setP hb (Nat.le_refl w1.heap.size) k (.int .i64 (-1))
        clear hrp
        go_wp2_with fail
        go_roundw
        case rel => exact ⟨k + 1, by omega, by go_num, hp, G⟩
        case measure => simp [intOf]; omega
      · have hkn : k = n := by omega
        have hO : OwnInts w1.heap.size wr w1.heap.size n (List.replicate l.length (-1)) := by
          rw [hkn] at ht
          rw [← hn.out]
          exact IntTab.own ht List.length_replicate (Nat.le_refl _) hm
        have HO := Lib.hid hO
        clear ht hkn hO
        go_wp2_with fail
        go_loopw [23] (fun i wr' => ∃ (t : Nat) (K : List Int), t ≤ n ∧ i = .int .i64 t ∧ Hid (Known l t 0 K) ∧ Hid (OwnInts w1.heap.size wr' w1.heap.size n K) ∧ Below w1.heap.size w1 wr') (fun i _ => n - (intOf i).toNat)
        case atStart => exact ⟨0, _, Nat.zero_le _, rfl, Lib.hid Known.start, HO, hb⟩
        case round =>
          obtain ⟨t, K, htn, rfl, HKn, HOn, hb2⟩ := hrel
          by_cases htlt : t < n
          · go_wp2_with fail
            go_loopw [27] (fun i wr3 => ∃ (j : Nat) (K : List Int), j ≤ n ∧ i = .int .i64 j ∧ Hid (Known l t j K) ∧ Hid (OwnInts w1.heap.size wr3 w1.heap.size n K) ∧ Below w1.heap.size w1 wr3) (fun i _ => n - (intOf i).toNat)
            case atStart => exact ⟨0, K, Nat.zero_le _, rfl, HKn, HOn, hb2⟩
            case round =>
              obtain ⟨j, K3, hjn, rfl, HK3, HO3, hb3⟩ := hrel
              by_cases hjlt : j < n
              · obtain ⟨v, hv⟩ := getN (l := l) (k := j) (by rw [← hn.out]; exact hjlt)
                obtain ⟨b, off, px, pc, rfl, _, c0, c1, c2, c3, hp, p1, p2⟩ := (h1.next hb3).at_ hv
                have hpin : ∀ p ∈ v.peers, 0 ≤ p ∧ p < l.length := fun p hp => by
                  have := peer_in (nodesOk_at HK.out hv) hp
                  omega
                have hKl := HK3.out.1
                have hll : l.length ≤ 12 := by rw [← hn.out]; exact hn12
                have hvp : v.peers.length ≤ 1048576 := by
                  have := l_peers_short' HK.out (List.mem_of_getElem? hv)
                  omega
                have hKB : ∀ p ∈ v.peers, -1 ≤ knownAt K3 p ∧ knownAt K3 p ≤ 100000 := fun p hp => by
                  have h5 := HK3.out.bound (hpin p hp).1 (hpin p hp).2
                  have h6 : t * l.length + j ≤ 12 * 12 + 12 := by
                    have : t * l.length ≤ 12 * 12 := Nat.mul_le_mul (by omega) hll
                    omega
                  omega
                have HF := Lib.hid (hopsFrom_c v px pc hvp K3 (fun p hp => by rw [hKl]; exact hpin p hp) hKB w1.heap.size w1.heap.size n n (Lib.hid (by rw [hKl]; exact hn.out)) (by omega) wr hp HO3.out)
                have HK4 := Lib.hid (HK3.out.step HK.out hv)
                obtain ⟨q, hq⟩ : ∃ q, hopsFromV K3 v = q := ⟨_, rfl⟩
                rw [hq] at HF HK4
                obtain ⟨z, hz⟩ := getI (l := K3) (k := j) (by rw [hKl, ← hn.out]; exact hjlt)
                have HZ := Lib.hid hz
                clear hv hp p1 hpin hKl hll hvp hKB hq hz HK3
                go_wp2_with fail
                refine HF.out.mono ?_
                rintro e w4 ⟨rfl, hb4⟩
                have O4 := HO3.out.next hb4
                have d0 := O4.cell HZ.out
                have f0 := O4.thaw j
                have O5 := Lib.hid (O4.put j q)
                have G5 := below_setP (grow_next hb3 hb4) (Nat.le_refl w1.heap.size) j (.int .i64 q)
                clear O4 HF HO3
                go_wp2_with fail
                go_roundw
                case rel => exact ⟨j + 1, K3.set j q, by omega, by go_num, HK4, O5, G5⟩
                case measure => simp [intOf]; omega
              · have hjn' : j = l.length := by rw [← hn.out]; omega
                have HK4 : Hid (Known l (t + 1) 0 K3) := Lib.hid (Known.pass (hjn' ▸ HK3.out))
                clear hjn' HK3
                go_wp2_with fail
                go_roundw
                case rel => exact ⟨t + 1, K3, by omega, by go_num, HK4, HO3, hb3⟩
                case measure => simp [intOf]; omega
          · have htn' : t = l.length := by rw [← hn.out]; omega
            have hKe : K = hopsL l := Known.end_ (htn' ▸ HKn.out)
            have hVe : hopsV l = hopsL l := by unfold hopsV; rw [HK.out]; rfl
            have HL : Hid (n = (hopsV l).length) := Lib.hid (by rw [hVe, hopsL_len]; exact hn.out)
            have hO := HOn.out
            unfold OwnInts at hO
            rw [hKe, ← hVe, ← HL.out] at hO
            have HOE := Lib.hid (own_lowerH hO hb1.size)
            clear htn' hKe hVe hO HKn HOn
            go_wp2_with fail
            go_returns
            exact ⟨some ⟨w1.heap.size, 0, none⟩, n, by rw [← HL.out]; rfl, by rw [← HL.out]; exact HOE.out, grow_next hb1 hb2⟩
end Go.Proofs.Ytpfbdghjppmpnaa
