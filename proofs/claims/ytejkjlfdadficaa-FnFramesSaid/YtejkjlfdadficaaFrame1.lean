/- The first frame of a text: the program's way. -/
import Derived.Test.YtejkjlfdadficaaFrameOf
import Derived.Test.YtejkjlfdadficaaPut4
import Derived.Deep.QuietTactic
import Derived.BigQuiet
import Derived.WalkSmall
namespace Go.Proofs.Ytejkjlfdadficaa
open Go.ChangeShapes Go.WideShapes Go.ChangeAt Go.RowKit
set_option linter.unusedVariables false
set_option linter.unusedSimpArgs false

/-- How many bytes the first frame would have. -/
def cntF (t : ByteArray) : Nat := (getB (t.extract 0 4)).toNat
/-- The data of the first frame, where there is one. -/
def datF (t : ByteArray) : ByteArray := t.extract 8 (8 + cntF t)
def fOk (t : ByteArray) : Bool := decide (8 ≤ t.size ∧ cntF t ≤ 100000 ∧ 8 + cntF t ≤ t.size) && ((crcB (datF t)).toList == (t.extract 4 8).toList)
theorem fOk_parts {t : ByteArray} (h : fOk t = true) : 8 ≤ t.size ∧ cntF t ≤ 100000 ∧ 8 + cntF t ≤ t.size := by
  unfold fOk at h
  rw [Bool.and_eq_true] at h
  exact of_decide_eq_true h.1
theorem datF_size {t : ByteArray} (h : 8 + cntF t ≤ t.size) : (datF t).size = cntF t := by
  unfold datF
  rw [ByteArray.size_extract]
  omega
theorem cntF_int (t : ByteArray) : getB (t.extract 0 4) = (cntF t : Int) := by
  obtain ⟨b0, b1⟩ := getB_bound (t.extract 0 4) (by rw [ByteArray.size_extract]; omega)
  unfold cntF
  omega
theorem toList_app (a b : ByteArray) : (a ++ b).toList = a.toList ++ b.toList := by
  rw [ByteArray.toList_eq, ByteArray.toList_eq, ByteArray.toList_eq]
  simp
theorem app_data (x y : ByteArray) : (x ++ y).data.toList = x.data.toList ++ y.data.toList := by simp
theorem extract_two (t : ByteArray) (h : 8 ≤ t.size) : t.extract 0 8 = t.extract 0 4 ++ t.extract 4 8 := by
  apply ByteArray.ext
  apply Array.toList_inj.1
  rw [app_data, Lib.extract_data, Lib.extract_data, Lib.extract_data]
  have h2 := List.take_append_drop 4 (t.data.toList.take 8)
  rw [List.take_take, List.drop_take] at h2
  rw [List.drop_zero]
  exact h2.symm
/-- Its head is that of its data just where the sums are one. -/
theorem head_eq (t : ByteArray) (h : 8 + cntF t ≤ t.size) : ((headB (datF t)).toList == (t.extract 0 8).toList) = ((crcB (datF t)).toList == (t.extract 4 8).toList) := by
  have h4 : (t.extract 0 4).size = 4 := by rw [ByteArray.size_extract]; omega
  unfold headB
  rw [datF_size h, ← cntF_int, put4_get _ h4, extract_two t (by omega), toList_app, toList_app]
  rw [Bool.eq_iff_iff]
  simp only [beq_iff_eq, List.append_cancel_left_eq]
theorem extract_1 (t : ByteArray) (h : 8 ≤ t.size) : (t.extract 0 8).extract 0 4 = t.extract 0 4 := by
  rw [ByteArray.extract_extract]; rfl
theorem extract_2 (t : ByteArray) (c : Nat) (h : 8 + c ≤ t.size) : (t.extract 8 t.size).extract 0 c = t.extract 8 (8 + c) := by
  rw [ByteArray.extract_extract, Nat.min_eq_left h]
/-- What the program's firstFrame answers. -/
def fData (t : ByteArray) : ByteArray := if fOk t then datF t else ⟨#[]⟩

set_option maxRecDepth 100000 in
set_option maxHeartbeats 1000000 in
theorem firstFrame_c (t : ByteArray) (ht : t.size ≤ 1048576) (w : World) :
    Calls Try.prog 19 #[.string t] w fun e w' => e = .returned (.tuple #[.string (fData t), .bool (fOk t)]) ∧ Below w.heap.size w w' := by
  by_cases h8 : 8 ≤ t.size
  · have hr : (t.extract 8 t.size).size = t.size - 8 := by rw [ByteArray.size_extract]; omega
    have hr8 : (t.extract 0 8).size = 8 := by rw [ByteArray.size_extract]; omega
    have hx1 := extract_1 t h8
    have hx2 := fun h => extract_2 t (cntF t) h
    have he := fun h => head_eq t h
    have hd := fun h => datF_size (t := t) h
    have H1 := Lib.hid (get_impl (t.extract 0 4) (by rw [ByteArray.size_extract]; omega))
    rw [cntF_int] at H1
    have H2 := Lib.hid (fun h => head_impl (datF t) (by rw [datF_size h]; omega))
    have hok : fOk t = (decide (8 ≤ t.size ∧ cntF t ≤ 100000 ∧ 8 + cntF t ≤ t.size) && ((crcB (datF t)).toList == (t.extract 4 8).toList)) := rfl
    have hfd : fData t = if fOk t then datF t else ⟨#[]⟩ := rfl
    have hdd : datF t = t.extract 8 (8 + cntF t) := rfl
    obtain ⟨c, hc⟩ : ∃ c, cntF t = c := ⟨_, rfl⟩
    rw [hc] at hx2 he hd H1 hok hdd
    obtain ⟨d, hd'⟩ : ∃ d, datF t = d := ⟨_, rfl⟩
    rw [hd'] at he hd H2 hok hfd hdd
    rw [hc] at H2
    by_cases h1 : c ≤ 100000
    · have k1 : decide ((100000 : Int) < (c : Int)) = false := decide_eq_false (by omega)
      by_cases h2 : 8 + c ≤ t.size
      · have h2' : c ≤ t.size - 8 := by omega
        have k2 : decide (((t.size - 8 : Nat) : Int) < (c : Int)) = false := decide_eq_false (by omega)
        have hx := hx2 h2
        rw [← hdd] at hx
        have hE := he h2
        have HH := Lib.hid (H2.out h2)
        obtain ⟨g, hg⟩ : ∃ g, headB d = g := ⟨_, rfl⟩
        rw [hg] at hE HH
        rw [show decide (8 ≤ t.size ∧ c ≤ 100000 ∧ 8 + c ≤ t.size) = true from decide_eq_true ⟨h8, h1, h2⟩, Bool.true_and, ← hE] at hok
        obtain ⟨b, hb⟩ : ∃ b, (g.toList == (t.extract 0 8).toList) = b := ⟨_, rfl⟩
        rw [hb] at hok
        rw [hfd, hok]
        clear hok hfd hE he hg H2 hdd hd' hd hx2 hc
        cases b with
        | true =>
          go_enter Try.func19, Try.ntmps19
          go_wp2_with fail
          go_quiet (fail)
          go_wp2_with fail
          refine (H1.out _).mono ?_
          rintro e w1 ⟨rfl, rfl⟩
          go_wp2_with fail
          refine (HH.out _).mono ?_
          rintro e w1 ⟨rfl, hb1⟩
          go_wp2_with fail
          go_returns
          exact ⟨rfl, (grow_drew (Below.refl _ _) _).trans hb1⟩
        | false =>
          go_enter Try.func19, Try.ntmps19
          go_wp2_with fail
          go_quiet (fail)
          go_wp2_with fail
          refine (H1.out _).mono ?_
          rintro e w1 ⟨rfl, rfl⟩
          go_wp2_with fail
          refine (HH.out _).mono ?_
          rintro e w1 ⟨rfl, hb1⟩
          go_wp2_with fail
          go_returns
          exact ⟨rfl, (grow_drew (Below.refl _ _) _).trans hb1⟩
      · have k2 : decide (((t.size - 8 : Nat) : Int) < (c : Int)) = true := decide_eq_true (by omega)
        have k3 : ((t.size - 8 : Nat) : Int) < (c : Int) := by omega
        rw [show decide (8 ≤ t.size ∧ c ≤ 100000 ∧ 8 + c ≤ t.size) = false from decide_eq_false (fun h => h2 h.2.2), Bool.false_and] at hok
        rw [hfd, hok]
        clear hok hfd he H2 hdd hd' hd hx2 hc
        go_enter Try.func19, Try.ntmps19
        go_wp2_with fail
        go_quiet (fail)
        go_wp2_with fail
        refine (H1.out _).mono ?_
        rintro e w1 ⟨rfl, rfl⟩
        go_wp2_with fail
        go_returns
        exact ⟨rfl, grow_drew (Below.refl _ _) _⟩
    · have k1 : decide ((100000 : Int) < (c : Int)) = true := decide_eq_true (by omega)
      rw [show decide (8 ≤ t.size ∧ c ≤ 100000 ∧ 8 + c ≤ t.size) = false from decide_eq_false (fun h => h1 h.2.1), Bool.false_and] at hok
      rw [hfd, hok]
      clear hok hfd he H2 hdd hd' hd hx2 hc
      go_enter Try.func19, Try.ntmps19
      go_wp2_with fail
      go_quiet (fail)
      go_wp2_with fail
      refine (H1.out _).mono ?_
      rintro e w1 ⟨rfl, rfl⟩
      go_wp2_with fail
      go_returns
      exact ⟨rfl, grow_drew (Below.refl _ _) _⟩
  · have hok : fOk t = false := by unfold fOk; rw [show decide (8 ≤ t.size ∧ cntF t ≤ 100000 ∧ 8 + cntF t ≤ t.size) = false from decide_eq_false (fun h => h8 h.1), Bool.false_and]
    have hfd : fData t = ⟨#[]⟩ := by unfold fData; rw [hok]; rfl
    rw [hfd, hok]
    clear hok hfd
    go_enter Try.func19, Try.ntmps19
    go_wp2_with fail
    go_returns
    exact ⟨rfl, Below.refl _ _⟩
end Go.Proofs.Ytejkjlfdadficaa
