/- slices.Delete of one pointer out of a row of the caller's own. -/
import Derived.Test.YtfcmcelhndppnaaDoorPutP
import Derived.Deep.RegionLaw
import Derived.Lib.SliceRun
namespace Go.Proofs.YtfcmcelhndppnaaDoor
open Go.ChangeShapes Go.WideShapes Go.ChangeAt Go.RowKit
set_option linter.unusedVariables false
set_option linter.unusedSimpArgs false

def setL {α : Type} (xs : List α) : Nat → List α → List α
  | _, [] => xs
  | o, v :: vs => setL (xs.set o v) (o + 1) vs
theorem setL_mid {α : Type} : ∀ (vs A B : List α), vs.length ≤ B.length → setL (A ++ B) A.length vs = A ++ (vs ++ B.drop vs.length)
  | [], A, B, _ => by simp [setL]
  | v :: vs, A, B, h => by
    cases B with
    | nil => simp at h
    | cons b B =>
      have e : (A ++ b :: B).set A.length v = (A ++ [v]) ++ B := by
        rw [List.set_append_right _ _ (Nat.le_refl _), Nat.sub_self, List.set_cons_zero]
        simp
      have hl : A.length + 1 = (A ++ [v]).length := by simp
      rw [setL, e, hl, setL_mid vs (A ++ [v]) B (by simpa using h)]
      simp
theorem own_setCells {base : Nat} {e : TypeId} {size g n cap : Nat} : ∀ (vs : List Value) (o : Nat) (w : World) (xs : List Value), w.ownsRow base e size (.slice (some ⟨g, 0, none⟩) n cap) n xs →
    (w.setCells g o vs).ownsRow base e size (.slice (some ⟨g, 0, none⟩) n cap) n (setL xs o vs) ∧ w.grownBy (w.setCells g o vs) (some g)
  | [], o, w, xs, h => ⟨h, World.grownBy.refl _ _⟩
  | v :: vs, o, w, xs, h => by
    have h1 := World.ownsRow.stored h o v
    have h2 := own_setCells vs (o + 1) (w.setCell ⟨g, o, none⟩ v) (xs.set o v) h1.1
    exact ⟨h2.1, ⟨h2.2.os.trans h1.2.os, h2.2.tape.trans h1.2.tape, h2.2.output.trans h1.2.output, Nat.le_trans h1.2.size h2.2.size, fun k hk hne => (h2.2.block k (Nat.lt_of_lt_of_le hk h1.2.size) hne).trans (h1.2.block k hk hne)⟩⟩
theorem own_less {w : World} {base : Nat} {e : TypeId} {g n m cap : Nat} {xs : List Value} (h : w.ownsRow base e 1 (.slice (some ⟨g, 0, none⟩) n cap) n xs) (hm : m ≤ n) : w.ownsRow base e 1 (.slice (some ⟨g, 0, none⟩) m cap) m (xs.take m) := by
  have hl := h.1
  refine ⟨by rw [List.length_take]; omega, ?_⟩
  rcases h.2 with ⟨e, _⟩ | ⟨g', c, cur, e, hb, hg, h1, h2, h3, h4⟩
  · simp at e
  · simp only [Value.slice.injEq, Option.some.injEq, Addr.mk.injEq, and_true, true_and] at e
    obtain ⟨rfl, rfl⟩ := e
    refine .inr ⟨g, cap, cur, rfl, hb, hg, by omega, h2, h3, ?_⟩
    rw [← h4, List.take_take]
    congr 1
    omega
theorem zeroPtr : ∀ w, (zeroValue 62).run Tryd.prog w = .ok (.pointer none) w := by
  intro w
  obtain ⟨i0, hi, hz0, hz1, hz2⟩ := info_partsT infoPtr
  simp [zeroValue, typeInfo, hi, hz0]

set_option maxHeartbeats 4000000 in
set_option maxRecDepth 100000 in
theorem delete_c (base g cap n i : Nat) (jz : Int) (hj : Hid (jz = (i : Int) + 1)) (E : List Pt) (hn : Hid (n = E.length)) (hi : i < n) (hnc : n ≤ cap) (hcm : cap ≤ maxLen) (w : World) (h : PtRow base w (some ⟨g, 0, none⟩) cap E) :
    Calls Tryd.prog 48 #[.slice (some ⟨g, 0, none⟩) n cap, .int .i64 i, .int .i64 jz] w fun e w' =>
      e = .returned (.slice (some ⟨g, 0, none⟩) (n - 1) cap) ∧ PtRow base w' (some ⟨g, 0, none⟩) cap (E.eraseIdx i) ∧ w.grownBy w' (some g) := by
  have hn' := hn.out
  have hj' := hj.out
  subst hj'
  unfold maxLen at hcm
  obtain ⟨i0, hi0, hz0, hz1, hz2⟩ := info_partsT infoPtr
  have hE : w.drew.ownsRow base 62 1 (.slice (some ⟨g, 0, none⟩) n cap) n (ptC E) := by subst hn'; exact h
  obtain ⟨news, hnews⟩ : ∃ news, news = ptC (E.drop (i + 1)) := ⟨_, rfl⟩
  have hlen : news.length = n - (i + 1) := by rw [hnews, ptC_len, List.length_drop, hn']
  obtain ⟨A, hA, hsrc⟩ : ∃ A : Addr, (if cap = i + 1 then some (⟨g, 0, none⟩ : Addr) else some ⟨g, i + 1, none⟩) = some A ∧ Hid (∀ t u, news[t]? = some u → w.drew.cell? (A.add t) = some u) := by
    by_cases hc : cap = i + 1
    · refine ⟨⟨g, 0, none⟩, by simp [hc], fun t u hu => ?_⟩
      have h0 : news.length = 0 := by rw [hlen]; omega
      rw [List.length_eq_zero_iff.1 h0] at hu
      simp at hu
    · refine ⟨⟨g, i + 1, none⟩, by simp [hc], fun t u hu => ?_⟩
      rw [hnews, ← ptC_drop, List.getElem?_drop] at hu
      have := World.ownsRow.cells hE rfl (i + 1 + t) u hu
      rw [addAtP] at this ⊢
      rwa [Nat.zero_add] at this
  have s1 : Hid (news.length = (n - (i + 1)) * 1) := by rw [Nat.mul_one]; exact hlen
  have s2 : Hid (∀ u ∈ news, u.oneCell' = true) := by rw [hnews]; exact ptC_one
  have s3 : Hid (∀ t, t < news.length → (w.drew.cell? ⟨g, 0 + i * 1 + t, none⟩).isSome = true ∧ w.drew.frozen? ⟨g, 0 + i * 1 + t, none⟩ = false) := by
    intro t ht
    rw [hlen] at ht
    refine ⟨?_, World.ownsRow.frozenAt hE _⟩
    rw [World.ownsRow.cellAt hE _ (by omega), List.getElem?_eq_getElem (by rw [ptC_len]; omega)]
    rfl
  obtain ⟨W1, hW1⟩ : ∃ W1, W1 = w.drew.setCells g (0 + i * 1) news := ⟨_, rfl⟩
  have hO := own_setCells news (0 + i * 1) w.drew (ptC E) hE
  rw [← hW1] at hO
  have hO1 := hO.1
  have hO2 : w.grownBy W1 (some g) := ⟨hO.2.os, hO.2.tape, hO.2.output, hO.2.size, hO.2.block⟩
  have eL : setL (ptC E) (0 + i * 1) news = ptC (E.take i) ++ (news ++ ((ptC E).drop i).drop news.length) := by
    have e0 : ptC E = ptC (E.take i) ++ (ptC E).drop i := by rw [← ptC_take, List.take_append_drop]
    have l0 : 0 + i * 1 = (ptC (E.take i)).length := by rw [ptC_len, List.length_take]; omega
    have l1 : news.length ≤ ((ptC E).drop i).length := by rw [hlen, List.length_drop, ptC_len]; omega
    have := setL_mid news (ptC (E.take i)) ((ptC E).drop i) l1
    rw [← e0, ← l0] at this
    exact this
  have hcl : ∀ ty, (Builtin.clear_ #[49] ty #[.slice (some ⟨g, n - 1, none⟩) 1 (cap - (n - 1))]).run Tryd.prog W1 = .ok (.tuple #[]) (W1.setCell ⟨g, n - 1, none⟩ (.pointer none)) :=
    fun ty => Lib.run_clear_slice W1 _ _ ty (.pointer none) Tryd.underlying49 zeroPtr rfl rfl g (n - 1) 1 _ (by omega) (fun t ht => by rw [World.ownsRow.cellAt hO1 _ (by omega), List.getElem?_eq_getElem (by rw [hO1.1]; omega)]; rfl) (fun t ht => World.ownsRow.frozenAt hO1 _)
  have hF := World.ownsRow.stored hO1 (n - 1) (.pointer none)
  have hG : w.grownBy (W1.setCell ⟨g, n - 1, none⟩ (.pointer none)) (some g) := ⟨hF.2.os.trans hO2.os, hF.2.tape.trans hO2.tape, hF.2.output.trans hO2.output, Nat.le_trans hO2.size hF.2.size, fun k hk hne => (hF.2.block k (Nat.lt_of_lt_of_le hk hO2.size) hne).trans (hO2.block k hk hne)⟩
  have hR : PtRow base (W1.setCell ⟨g, n - 1, none⟩ (.pointer none)) (some ⟨g, 0, none⟩) cap (E.eraseIdx i) := by
    have h1 := own_less hF.1 (m := n - 1) (by omega)
    have e1 : ((setL (ptC E) (0 + i * 1) news).set (n - 1) (.pointer none)).take (n - 1) = ptC (E.eraseIdx i) := by
      rw [List.take_set_of_le (Nat.le_refl _), eL, ← List.append_assoc, List.take_left' (by rw [List.length_append, ptC_len, List.length_take, hlen]; omega), hnews, ← ptC_append, List.eraseIdx_eq_take_drop_succ]
    have e2 : (E.eraseIdx i).length = n - 1 := by rw [List.length_eraseIdx, if_pos (by omega)]; omega
    unfold PtRow
    rw [e2, ← e1]
    exact h1
  have HR := Lib.hid hR
  have HG := Lib.hid hG
  have hW : Hid (W1 = w.drew.setCells g (0 + i * 1) news) := hW1
  have hic : i ≤ cap := by omega
  have hjc : i + 1 ≤ cap := by omega
  have hjn : i + 1 ≤ n := by omega
  have hii : (i : Int) ≤ (i : Int) + 1 := by omega
  have hi1 : ((i : Int) + 1).toNat = i + 1 := by omega
  have hb0 : (0 : Int) ≤ (i : Int) + 1 := by omega
  have hb1 : (i : Int) + 1 ≤ (n : Int) := by omega
  have hb2 : (i : Int) + 1 ≤ (cap : Int) := by omega
  have hz : ¬ ((i : Int) = (i : Int) + 1) := by omega
  have hin : i + (n - (i + 1)) = n - 1 := by omega
  have hn1 : n - (n - 1) = 1 := by omega
  have hcn : ¬ cap = n - 1 := by omega
  have hnn : ((n - 1 : Nat) : Int) ≤ (n : Int) := by omega
  clear hW1 hO hO1 hO2 hF hG hR hE h hn' hnews hlen eL
  go_enter Tryd.func48, Tryd.ntmps48
  go_wp2_with fail
  go_region_law (refine step_append_room rfl (.tmp 22) (.tmp 25) 49 rfl 62 i0 1 Tryd.underlying49 hi0 hz1 g 0 i cap (by simp [Act.eval, Act.put]) A (n - (i + 1)) (cap - (i + 1)) news (by simp [Act.eval, Act.put]) s1.out hsrc.out s2.out (by omega) s3.out ?_; rw [← hW.out, hin])
  go_wp2
  go_returns
  exact ⟨rfl, HR.out, HG.out⟩
end Go.Proofs.YtfcmcelhndppnaaDoor
