/- A filter made of a list. -/
import Derived.Test.YthgamidodkkpbaaDoorFilAdd
import Derived.Test.YthgamidodkkpbaaDoorRowOps
namespace Go.Proofs.YthgamidodkkpbaaDoor
open Go.ChangeShapes Go.WideShapes Go.ChangeAt Go.RowKit Go.Sort
set_option linter.unusedVariables false
set_option linter.unusedSimpArgs false

def Sms (B : Nat) (w : World) (x : Option Addr) (l : List Sm) : Prop := RowsAt Sm.row 4 B w x l
section
variable {B B' : Nat} {w w' : World} {x : Option Addr} {l : List Sm}
theorem Sms.next (h : Sms w.heap.size w x l) (hb : Below w.heap.size w w') : Sms w'.heap.size w' x l := RowsAt.next h hb
theorem Sms.at_ {i : Nat} {v : Sm} (h : Sms B w x l) (hi : l[i]? = some v) : ∃ b off, x = some ⟨b, off, none⟩ ∧ b < B ∧ w.cell? ⟨b, off + i * 4, none⟩ = some (.int .i64 v.off) ∧ w.cell? ⟨b, off + i * 4 + 1, none⟩ = some (.int .i64 v.delay) ∧ w.cell? ⟨b, off + i * 4 + 2, none⟩ = some (.int .i64 v.disp) ∧ w.cell? ⟨b, off + i * 4 + 3, none⟩ = some (.int .i64 v.at_) := by
  obtain ⟨b, off, e, hlt, hc⟩ := RowsAt.at_ h hi
  exact ⟨b, off, e, hlt, hc 0 _ rfl, hc 1 _ rfl, hc 2 _ rfl, hc 3 _ rfl⟩
end
/-- Right ones, each behind this one and the one ahead. -/
def okFromS : Option Sm → List Sm → Bool
  | _, [] => true
  | o, s :: l => s.ok && (match o with | none => true | some v => decide (v.at_ < s.at_)) && okFromS (some s) l
def okSms (l : List Sm) : Bool := okFromS none l && decide (l.length ≤ 8)
theorem okFromS_at {l : List Sm} {k : Nat} {v : Sm} (h : l[k]? = some v) : okFromS (l.take k).getLast? (l.drop k) = (takesV (l.take k) v && okFromS (l.take (k + 1)).getLast? (l.drop (k + 1))) := by
  obtain ⟨hlt, e⟩ := List.getElem?_eq_some_iff.1 h
  rw [List.drop_eq_getElem_cons hlt, e]
  have e2 : l.take (k + 1) = l.take k ++ [v] := by rw [List.take_add_one, h]; rfl
  rw [e2, List.getLast?_append]
  rfl
theorem take_nextS {l : List Sm} {k : Nat} {v : Sm} (h : l[k]? = some v) : l.take (k + 1) = l.take k ++ [v] := by rw [List.take_add_one, h]; rfl
/-- A filter's cells where it has none. -/
def zero33 : List Value := List.replicate 33 (.int .i64 0)
theorem fil_zero : Fil zero33 [] := by
  refine ⟨rfl, fun i hi => ⟨0, ?_⟩, rfl, by simp, fun i v j z h => by simp at h⟩
  unfold zero33
  rw [List.getElem?_replicate, if_pos hi]
theorem fil_one {C : List Value} {l : List Sm} (h : Fil C l) : C.toArray.all (·.oneCell') = true := by
  rw [List.all_toArray, List.all_eq_true]
  intro v hv
  obtain ⟨i, hi, e⟩ := List.mem_iff_getElem.1 hv
  obtain ⟨n, hn⟩ := h.ints i (by rw [← h.len]; exact hi)
  rw [List.getElem?_eq_getElem hi, e] at hn
  simp only [Option.some.injEq] at hn
  subst hn
  rfl
theorem zero_one : zero33.toArray.all (·.oneCell') = true := fil_one fil_zero
set_option maxRecDepth 100000 in
theorem filU : ∃ fs, Tryd.prog.underlying 46 = some (.struct fs) := by
  have h : (match Tryd.prog.underlying 46 with | some (.struct _) => true | _ => false) = true := by kernel_rfl
  split at h
  · exact ⟨_, by assumption⟩
  · cases h
theorem filI : (Tryd.prog.info? 46).map (·.size) = some 33 := by kernel_rfl
def FilPost (w : World) (l : List Sm) : Ending → World → Prop := fun e w' => ∃ (C : List Value) (m : List Sm), e = .returned (.tuple #[.agg C.toArray, .bool (okSms l)]) ∧ Fil C m ∧ (okSms l = true → m = l) ∧ Below w.heap.size w w'
set_option maxRecDepth 100000 in
set_option maxHeartbeats 2000000 in
theorem filterOf_c (l : List Sm) (n : Nat) (hn : Hid (n = l.length)) (hm : n ≤ maxLen) (x : Option Addr) (cap : Nat) (w : World) (h : Sms w.heap.size w x l) {ao an au : Addr} (L : Ld w ao an au) :
    Calls Tryd.prog 29 #[.slice x n cap] w (FilPost w l) := by
  unfold maxLen at hm
  obtain ⟨fs, hu⟩ := filU
  have HU := Lib.hid hu
  clear hu
  go_enter Tryd.func29, Tryd.ntmps29
  go_upto_region 1 with (fail)
  have hR1 := blk_new w (.cells zero33.toArray 46)
  have b1 : Below w.heap.size w (w.alloc (.cells zero33.toArray 46)) := below_new _ _
  have s1 : (w.alloc (.cells zero33.toArray 46)).heap.size = w.heap.size + 1 := World.size_alloc _ _
  change Code.wp _ _ _ _ (w.alloc (.cells zero33.toArray 46))
  generalize w.alloc (.cells zero33.toArray 46) = w1 at *
  have hF2 := blk_new w1 (.cells zero33.toArray 46)
  have hR2 := blk_alloc hR1 (.cells zero33.toArray 46)
  have b2 := b1.alloc b1.size (.cells zero33.toArray 46)
  rw [s1] at hF2
  go_upto_region 2 with (refine wpList_store_row rfl 46 (.tmp 4) (.tmp 7) rfl (w.heap.size + 1) 46 zero33.toArray zero33.toArray (by simp [Act.eval, Act.put, s1]) rfl (by first | exact hF2 | (simpa [s1] using hF2)) filI rfl zero_one ?_; intro w2 hw2)
  have hF3 := setRow_heap' hw2.out (c0 := zero33.toArray) (t := 46) (f := (0, 0)) hF2
  have hR3 := (setRow_other' hw2.out (j := w.heap.size) (by omega)).trans hR2
  have b3 : Below w.heap.size w w2 := below_setRow' b2 (by omega) hw2.out
  have FA : FilAt w2 (w.heap.size + 1) [] := ⟨_, hF3, fil_zero⟩
  have HR := Lib.hid hR3
  clear hw2 hF3 hR3 hF2 hR2 hR1 b2 b1 s1
  by_cases h8 : 8 < n
  · have hk8 : decide (8 < (n : Int)) = true := decide_eq_true (by omega)
    have HK : Hid (okSms l = false) := Lib.hid (by
      unfold okSms
      rw [decide_eq_false (by rw [← hn.out]; omega), Bool.and_false])
    go_wp2_with (refine wpList_store_row rfl 46 (.tmp 2) (.tmp 11) rfl w.heap.size 46 zero33.toArray zero33.toArray rfl rfl HR.out filI rfl zero_one ?_; intro w3 hw3)
    have hR4 := setRow_heap' hw3.out HR.out
    refine bodyPost_ret (results_row_tmp rfl _ _ w.heap.size 46 zero33.toArray (.struct fs) rfl hR4 HU.out rfl filI) rfl ?_
    exact ⟨zero33, [], by rw [HK.out]; rfl, fil_zero, fun h => by rw [HK.out] at h; (cases h), below_setRow' b3 (Nat.le_refl _) hw3.out⟩
  · have hk8 : decide (8 < (n : Int)) = false := decide_eq_false (by omega)
    go_wp2_with fail
    go_loopw [14] (fun i wr => ∃ k : Nat, k ≤ n ∧ i = .int .i64 k ∧ FilAt wr (w.heap.size + 1) (l.take k) ∧ Hid (wr.heap[w.heap.size]? = some (.cells zero33.toArray 46 (0, 0))) ∧ Hid (okFromS none l = okFromS (l.take k).getLast? (l.drop k)) ∧ Below w.heap.size w wr) (fun i _ => n - (intOf i).toNat)
    case atStart => exact ⟨0, Nat.zero_le _, rfl, FA, HR, Lib.hid (by simp), b3⟩
    case round =>
      obtain ⟨k, hk, rfl, hF, hR, HO, hb⟩ := hrel
      have hsz := hb.size
      have hblt := hF.lt
      by_cases hlt : k < n
      · obtain ⟨v, hv⟩ : ∃ v, l[k]? = some v := ⟨l[k]'(by rw [← hn.out]; exact hlt), List.getElem?_eq_getElem _⟩
        obtain ⟨bb, off, rfl, hbB, c0, c1, c2, c3⟩ := (h.next hb).at_ hv
        have hat := okFromS_at hv
        have B1 : Below wr.heap.size wr (wr.alloc (.cells #[.int .i64 v.off, .int .i64 v.delay, .int .i64 v.disp, .int .i64 v.at_] 26)) := below_new _ _
        have N1 := blk_new wr (.cells #[.int .i64 v.off, .int .i64 v.delay, .int .i64 v.disp, .int .i64 v.at_] 26)
        have L1 := L.next (grow_next hb B1)
        have hT := takes_c (l.take k) v (w.heap.size + 1) _ (hF.next B1) L1
        have hnx := take_nextS hv
        have hkl : (l.take k).length = k := by rw [List.length_take, ← hn.out, Nat.min_eq_left (by omega)]
        have hadd : addV (l.take k) v = l.take (k + 1) := by unfold addV; rw [if_neg (by omega), hnx]
        clear hv hnx
        cases ht : takesV (l.take k) v with
        | false =>
          have HK : Hid (okSms l = false) := Lib.hid (by
            rw [ht, Bool.false_and] at hat
            unfold okSms
            rw [HO.out, hat, Bool.false_and])
          rw [ht] at hT
          have HT := Lib.hid hT
          clear hat hT ht hadd
          go_wp2_with fail
          refine HT.out.mono ?_
          rintro e w4 ⟨rfl, hb4⟩
          have R4 := (hb4.block w.heap.size (by simp; omega)).trans ((B1.block w.heap.size (by omega)).trans hR.out)
          have B4 := grow_next (grow_next hb B1) hb4
          go_wp2_with (refine wpList_store_row rfl 46 (.tmp 2) (.tmp 21) rfl w.heap.size 46 zero33.toArray zero33.toArray rfl rfl R4 filI rfl zero_one ?_; intro w3 hw3)
          have hR4 := setRow_heap' hw3.out R4
          refine bodyPost_ret (results_row_tmp rfl _ _ w.heap.size 46 zero33.toArray (.struct fs) rfl hR4 HU.out rfl filI) rfl ?_
          exact ⟨zero33, [], by rw [HK.out]; rfl, fil_zero, fun h => by rw [HK.out] at h; (cases h), below_setRow' B4 (Nat.le_refl _) hw3.out⟩
        | true =>
          rw [ht, Bool.true_and] at hat
          have HO1 : Hid (okFromS none l = okFromS (l.take (k + 1)).getLast? (l.drop (k + 1))) := Lib.hid (HO.out.trans hat)
          rw [ht] at hT
          have HT := Lib.hid hT
          have HAD := Lib.hid hadd
          clear hat hT ht hadd HO
          go_wp2_with fail
          refine HT.out.mono ?_
          rintro e w4 ⟨rfl, hb4⟩
          have R4 := (hb4.block w.heap.size (by simp; omega)).trans ((B1.block w.heap.size (by omega)).trans hR.out)
          have B4 := grow_next (grow_next hb B1) hb4
          have F4 := (hF.next B1).next hb4
          obtain ⟨x0, x1, x2, x3⟩ := sample_cells (blk_next hb4 N1)
          have HA := Lib.hid (add_c (l.take k) v (w.heap.size + 1) w4 F4)
          go_wp2_with fail
          refine HA.out.mono ?_
          rintro e w5 ⟨rfl, F5, hg5⟩
          rw [HAD.out] at F5
          have B5 : Below w.heap.size w w5 := B4.grown hg5 B4.size (fun j e => by simp only [Option.some.injEq] at e; omega)
          have R5 : Hid (w5.heap[w.heap.size]? = some (.cells zero33.toArray 46 (0, 0))) := Lib.hid ((hg5.block w.heap.size (by have := F4.lt; omega) (by simp)).trans R4)
          go_wp2_with fail
          go_roundw
          case rel => exact ⟨k + 1, by omega, by go_num, F5, R5, HO1, B5⟩
          case measure => simp [intOf]; omega
      · have e : k = n := by omega
        have e1 : l.take k = l := by rw [e, hn.out, List.take_length]
        rw [e1] at hF
        have HK : Hid (okSms l = true) := Lib.hid (by
          unfold okSms
          rw [HO.out, e, hn.out, List.drop_length, decide_eq_true (by rw [← hn.out]; omega)]
          simp [okFromS])
        obtain ⟨C, hC, hFl⟩ := hF
        have hl33 : C.toArray.size = 33 := by simpa using hFl.len
        have HC := Lib.hid hC
        have HI : Hid ((Tryd.prog.info? 46).map (·.size) = some C.toArray.size) := Lib.hid (by rw [hl33]; exact filI)
        clear e e1 hC HO
        go_wp2_with (first
          | refine wpList_load_row rfl 46 (.tmp 4) rfl (w.heap.size + 1) 46 C.toArray (.struct fs) rfl HC.out HU.out rfl HI.out ?_
          | (refine wpList_store_row rfl 46 (.tmp 2) (.tmp 25) rfl w.heap.size 46 zero33.toArray C.toArray rfl rfl hR.out HI.out (by rw [hl33]; rfl) (fil_one hFl) ?_; intro w3 hw3))
        have hR4 := setRow_heap' hw3.out hR.out
        refine bodyPost_ret (results_row_tmp rfl _ _ w.heap.size 46 C.toArray (.struct fs) rfl hR4 HU.out rfl HI.out) rfl ?_
        exact ⟨C, l, by rw [HK.out]; rfl, hFl, fun _ => rfl, below_setRow' hb (Nat.le_refl _) hw3.out⟩
end Go.Proofs.YthgamidodkkpbaaDoor
