/- Whether what is on the program's shelf has room: its bytes counted in whatever order the map gives them. -/
import Derived.Test.YtgmjdalfbebgbaaShOf
namespace Go.Proofs.Ytgmjdalfbebgbaa
open Go.ChangeShapes Go.WideShapes Go.ChangeAt Go.RowKit Go.Maps
set_option linter.unusedVariables false
set_option linter.unusedSimpArgs false
set_option maxRecDepth 100000

def leftB (L : List Sh) (left : Lit → Bool) : Nat := ((L.filter fun e => left (.string e.key)).map fun e => e.data.size).sum
theorem leftB_all (L : List Sh) : leftB L (Maps.has (shD L)) = bytesF (L.map Sh.fl) := by
  unfold leftB bytesF
  rw [List.filter_eq_self.2 (fun e he => by
    rw [has_shD]
    cases h : shAt L e.key with
    | some _ => rfl
    | none => exact absurd rfl (shAt_none h e he)), List.map_map]
  rfl
theorem leftB_none (L : List Sh) {left : Lit → Bool} (h : ∀ k, left k = false) : leftB L left = 0 := by
  unfold leftB
  rw [List.filter_eq_nil_iff.2 (fun e _ => by rw [h]; simp)]
  rfl
theorem leftB_other {L : List Sh} {left : Lit → Bool} {k : List UInt8} (h : ∀ e ∈ L, e.key ≠ k) : leftB L (fun z => left z && !z.sameKey (.string k)) = leftB L left := by
  unfold leftB
  congr 2
  refine List.filter_congr fun e he => ?_
  have : (e.key == k) = false := by rw [beq_eq_false_iff_ne]; exact h e he
  show (left (.string e.key) && !(e.key == k)) = left (.string e.key)
  rw [this]
  simp
theorem leftB_step {L : List Sh} (hr : RiseS L) {e : Sh} (he : e ∈ L) {left : Lit → Bool} (hl : left (.string e.key) = true) : leftB L (fun z => left z && !z.sameKey (.string e.key)) + e.data.size = leftB L left := by
  induction L with
  | nil => cases he
  | cons a L ih =>
    have hp := List.pairwise_cons.1 hr
    have split : ∀ lf : Lit → Bool, leftB (a :: L) lf = (if lf (.string a.key) = true then a.data.size else 0) + leftB L lf := fun lf => by
      unfold leftB
      rw [List.filter_cons]
      split <;> simp
    rw [split, split]
    rcases List.mem_cons.1 he with rfl | he2
    · rw [leftB_other (fun x hx e2 => kb_irrefl e.key (by have := hp.1 x hx; rwa [e2] at this)), if_pos hl]
      have : (left (.string e.key) && !(Lit.string e.key).sameKey (.string e.key)) = false := by
        show (left (.string e.key) && !(e.key == e.key)) = false
        simp
      rw [if_neg (by rw [this]; simp)]
      omega
    · have hne : (a.key == e.key) = false := by rw [beq_eq_false_iff_ne]; exact kb_ne (hp.1 e he2)
      have : (left (.string a.key) && !(Lit.string a.key).sameKey (.string e.key)) = left (.string a.key) := by
        show (left (.string a.key) && !(a.key == e.key)) = left (.string a.key)
        rw [hne]
        simp
      rw [this]
      have := ih hp.2 he2
      omega
theorem leftB_le (L : List Sh) (left : Lit → Bool) : leftB L left ≤ bytesF (L.map Sh.fl) := by
  unfold leftB bytesF
  rw [List.map_map]
  induction L with
  | nil => simp
  | cons a L ih =>
    rw [List.filter_cons, List.map_cons, List.sum_cons]
    split
    · rw [List.map_cons, List.sum_cons]
      show a.data.size + _ ≤ a.data.size + _
      omega
    · omega
theorem key_inv {key : Value} {kl : Lit} (h : keyOf Try.prog 9 key = some kl) : ∃ x : ByteArray, key = .string x ∧ kl = .string x.toList := by
  have hu := Try.underlying9
  cases key <;> simp [keyOf, hu, mapKey] at h
  rename_i s
  obtain ⟨_, rfl⟩ := h
  exact ⟨s, rfl, by rw [ByteArray.toList_eq]⟩
theorem at_is {L : List Sh} {k : List UInt8} {d : DataW Unit} (h : ∀ z, (shD L).atKey (.string k) z = d) : ∃ e, shAt L k = some e ∧ e.dat = d := by
  cases hc : shAt L k with
  | some e =>
    refine ⟨e, rfl, ?_⟩
    have := h d
    rw [at_shD, hc] at this
    exact this
  | none =>
    have h1 := h (.lit (.bool true))
    have h2 := h (.lit (.bool false))
    rw [at_shD, hc] at h1 h2
    rw [← h1] at h2
    simp at h2
set_option maxHeartbeats 4000000 in
theorem fits_c (base : Nat) (L : List Sh) (b : Nat) (w : World) (h : ShMap base w b L) (hL : L.length ≤ 2097152) (hB : bytesF (L.map Sh.fl) ≤ 2305843009213693952) :
    Calls Try.prog 51 #[.map (some b)] w fun e w' => e = .returned (.bool (roomV L.length (bytesF (L.map Sh.fl)))) ∧ Below w.heap.size w w' := by
  obtain ⟨T, hT⟩ : ∃ T, bytesF (L.map Sh.fl) = T := ⟨_, rfl⟩
  have HT := Lib.hid hT
  have hown := h.own
  have HR := Lib.hid h.rise
  rw [hT] at hB ⊢
  clear hT
  go_enter Try.func51, Try.ntmps51
  go_wp2_with (at_range; refine wpList_range_own _ rfl _ 75 rfl 9 57 shLaw Try.underlying75 shR b L.length (shD L) rfl hown ?_; intro w0 hrg0 hg0 hs0)
  go_frame
  go_loopw [3] (fun by_ wr => ∃ (left : Lit → Bool) (cnt m : Nat), by_ = .int .i64 (m : Int) ∧ wr.ranges Try.prog 9 shR b w.heap.size L.length (shD L) left cnt ∧ Hid (m + leftB L left = T) ∧ Below w.heap.size w wr) (fun _ wr => wr.rangeLeft b w.heap.size)
  case atStart => exact ⟨_, _, 0, rfl, hrg0, Lib.hid (by rw [leftB_all, HT.out, Nat.zero_add]), belowN hg0⟩
  case round =>
    obtain ⟨left, cnt, m, rfl, hrg, HM, hbw⟩ := hrel
    have hm : m ≤ T := by have := HM.out; omega
    go_wp2_with (at_next; refine wpList_next_ranges (α := ByteArray) (β := Option Nat × Nat × Nat) _ rfl _ rfl 9 shLaw shR Value.string (fun c => hdV c.1 c.2.1 c.2.2) (fun key kl hk => by obtain ⟨x, hx, _⟩ := key_inv hk; exact ⟨x, hx⟩) (fun v y hv => by obtain ⟨x, hx, _⟩ := shR_inv hv; exact ⟨x, hx⟩) b w.heap.size L.length (shD L) left cnt rfl hrg ?_ ?_)
    · intro _ hl0
      have e : m = T := by have := HM.out; rw [leftB_none L hl0] at this; omega
      subst e
      have hlen := fun ty => hrg.owns.len Try.underlying75 ty
      rw [size_shD] at hlen
      have HI := Lib.hid (fun W => isRoom_c L.length m W)
      clear hl0 hrg hm
      go_wp2_with (go_at_call 84; refine (HI.out _).mono ?_; rintro e w1 ⟨rfl, rfl⟩)
      go_returns
      exact ⟨rfl, hbw⟩
    · intro x ch cn cc kl yd yp w1 cnt1 hkey hlx hrv hat hrg1 hlt hg1 hs1 hen
      obtain ⟨x', ex, rfl⟩ := key_inv hkey
      cases ex
      have hy := (shR_mk ch cn cc).symm.trans hrv
      cases hy
      obtain ⟨e, he, hd⟩ := at_is hat
      obtain ⟨hmem, hk⟩ := shAt_some he
      obtain ⟨_, hn, _⟩ := hdD_inj hd
      have hst := leftB_step HR.out hmem (left := left) (by rw [hk]; exact hlx)
      rw [hk, hn] at hst
      have HM2 : Hid (m + cn + leftB L (fun z => left z && !z.sameKey (.string x.toList)) = T) := Lib.hid (by have := HM.out; omega)
      have hw : IntKind.i64.wrap ((m : Int) + (cn : Int)) = (m : Int) + (cn : Int) := IntWalk.i64_in _ (by have := HM2.out; omega)
      have B1 := hbw.grown hg1 hbw.size (fun j hj => by cases hj; exact Nat.le_refl _)
      unfold hdV at hen ⊢
      obtain ⟨X, hX⟩ : ∃ X : Option Addr, (ch.map fun g => (⟨g, 0, none⟩ : Addr)) = X := ⟨_, rfl⟩
      simp only [hX] at hen ⊢
      have HRG := Lib.hid hrg1
      have HLQ : Hid (wr.rangeLeft b w.heap.size = cnt) := Lib.hid hrg.left_eq
      have HLT := Lib.hid hlt
      clear hX hst hn hk hmem hd he hkey hlx hrv hat hrg1 hlt hg1 hs1 hrg hm
      go_wp2_with fail
      go_roundw
      case rel => exact ⟨_, cnt1, m + cn, by rw [show ((m + cn : Nat) : Int) = (m : Int) + (cn : Int) from by omega], HRG.out, HM2, B1⟩
      case measure => rw [HRG.out.left_eq, HLQ.out]; exact HLT.out
end Go.Proofs.Ytgmjdalfbebgbaa
