/- The frames with which a text begins: the program's way. -/
import Derived.Test.YtejkjlfdadficaaFrame1
import Derived.Test.YtejkjlfdadficaaStrs
import Derived.Maps.AppendAt
namespace Go.Proofs.Ytejkjlfdadficaa
open Go.ChangeShapes Go.WideShapes Go.ChangeAt Go.RowKit
set_option linter.unusedVariables false
set_option linter.unusedSimpArgs false

/-- What stands from a place on. -/
def restF (s : ByteArray) (p : Nat) : ByteArray := s.extract p s.size
theorem restF_size (s : ByteArray) (p : Nat) : (restF s p).size = s.size - p := by unfold restF; rw [ByteArray.size_extract]; omega
/-- Where one is behind so many frames at most, and which they are. -/
def stF (s : ByteArray) : Nat → Nat × List ByteArray
  | 0 => (0, [])
  | k + 1 => if fOk (restF s (stF s k).1) then ((stF s k).1 + (8 + cntF (restF s (stF s k).1)), (stF s k).2 ++ [datF (restF s (stF s k).1)]) else stF s k
def framesF (s : ByteArray) : List ByteArray := (stF s (s.size + 1)).2
def endF (s : ByteArray) : Nat := (stF s (s.size + 1)).1
theorem stF_next {s : ByteArray} {k p : Nat} {L : List ByteArray} (h : stF s k = (p, L)) (ho : fOk (restF s p) = true) : stF s (k + 1) = (p + (8 + cntF (restF s p)), L ++ [datF (restF s p)]) := by
  rw [stF, h]
  dsimp only
  rw [ho]
  rfl
theorem stF_stay {s : ByteArray} {k p : Nat} {L : List ByteArray} (h : stF s k = (p, L)) (ho : fOk (restF s p) = false) : ∀ j, stF s (k + j) = (p, L)
  | 0 => h
  | j + 1 => by
    rw [← Nat.add_assoc, stF, stF_stay h ho j]
    dsimp only
    rw [ho]
    rfl
theorem stF_end {s : ByteArray} {k p : Nat} {L : List ByteArray} (h : stF s k = (p, L)) (ho : fOk (restF s p) = false) (hk : k ≤ s.size + 1) : framesF s = L ∧ endF s = p := by
  have := stF_stay h ho (s.size + 1 - k)
  rw [show k + (s.size + 1 - k) = s.size + 1 by omega] at this
  unfold framesF endF
  rw [this]
  exact ⟨rfl, rfl⟩
theorem infoStr : (Try.prog.info? 9).map (fun i => (i.zero, i.size, i.bytes)) = some (some (.string ByteArray.empty), 1, 16) := by kernel_rfl
theorem info_partsS {P : Program} {t : TypeId} {z : Value} {s b : Nat} (h : (P.info? t).map (fun i => (i.zero, i.size, i.bytes)) = some (some z, s, b)) : ∃ i, P.info? t = some i ∧ i.zero = some z ∧ i.size = s ∧ i.bytes = b := by
  cases hi : P.info? t with
  | none => rw [hi] at h; simp at h
  | some i =>
    rw [hi] at h
    simp at h
    exact ⟨i, rfl, h⟩
theorem cell_one_newS (w : World) (v : Value) (t : TypeId) : ∀ j u, [v][j]? = some u → (w.alloc (.cells #[v] t)).cell? ((⟨w.heap.size, 0, none⟩ : Addr).add j) = some u := by
  intro j u hu
  cases j with
  | zero =>
    simp at hu
    subst hu
    simp [Addr.add]
  | succ j => simp at hu
/-- What TakeFrames answers. -/
def TakePost (W : World) (s : ByteArray) : Ending → World → Prop := fun e w' =>
  ∃ v, e = .returned (.tuple #[v, .int .i64 (endF s : Int)]) ∧ w'.ownsRow W.heap.size 9 1 v (framesF s).length ((framesF s).map Value.string) ∧ Below W.heap.size W w'

set_option maxRecDepth 100000 in
set_option maxHeartbeats 2000000 in
theorem take_impl (s : ByteArray) (hs : s.size ≤ 1048576) (w : World) :
    Calls Try.prog 9 #[.string s] w (TakePost w s) := by
  obtain ⟨i0, hi, hz0, hz1, hz2⟩ := info_partsS infoStr
  have HI0 := Lib.hid hi
  have HZ0 := Lib.hid hz0
  have HZ1 := Lib.hid hz1
  have HZ2 := Lib.hid hz2
  clear hi hz0 hz1 hz2
  go_enter Try.func9, Try.ntmps9
  go_wp2_with fail
  go_loopw [4, 5] (fun o i wr => ∃ (k p : Nat) (L : List ByteArray), i = .int .i64 p ∧ Hid (stF s k = (p, L)) ∧ 8 * k ≤ p ∧ p ≤ s.size ∧ Hid (L.length = k) ∧ wr.ownsRow w.heap.size 9 1 o k (L.map Value.string) ∧ Below w.heap.size w wr) (fun _ i _ => s.size - (intOf i).toNat)
  case atStart => exact ⟨0, 0, [], rfl, Lib.hid rfl, Nat.le_refl _, Nat.zero_le _, Lib.hid rfl, World.ownsRow_nil _ _ _ _, Below.refl _ _⟩
  case round =>
    obtain ⟨k, p, L, rfl, HS, hk, hp, HL, hrow, hb⟩ := hrel
    have HF := Lib.hid (firstFrame_c (restF s p) (by rw [restF_size]; omega))
    have hx : s.extract p s.size = restF s p := rfl
    have hrs := restF_size s p
    have HD := Lib.hid (fun h => datF_size (t := restF s p) h)
    have HO := Lib.hid (fun h => fOk_parts (t := restF s p) h)
    have HX := Lib.hid (fun h => stF_next HS.out h)
    have HY := Lib.hid (fun h => stF_end HS.out h (by omega))
    have hfd : fData (restF s p) = if fOk (restF s p) then datF (restF s p) else ⟨#[]⟩ := rfl
    obtain ⟨t, ht⟩ : ∃ t, restF s p = t := ⟨_, rfl⟩
    rw [ht] at HF hx hrs HD HO HX HY hfd
    have hpi : (p : Int) ≤ (s.size : Int) := by omega
    clear ht
    go_wp2_with fail
    refine (HF.out _).mono ?_
    rintro e w1 ⟨rfl, hb1⟩
    cases ho : fOk t with
    | false =>
      have HE := Lib.hid (HY.out ho)
      rw [ho] at hfd
      have hr1 := hrow.kept (row := none) ⟨hb1.os, hb1.tape, hb1.output, hb1.size, fun k hk _ => hb1.block k hk⟩ (Classical.em _)
      have g1 := grow_next hb hb1
      clear ho hrow
      go_wp2_with fail
      go_returns
      exact ⟨_, by rw [HE.out.2]; rfl, by rw [HE.out.1, HL.out]; exact hr1, g1⟩
    | true =>
      obtain ⟨o1, o2, o3⟩ := HO.out ho
      have hds := HD.out o3
      rw [ho] at hfd
      rw [hfd]
      have HXX := Lib.hid (HX.out ho)
      have hr1 := hrow.kept (row := none) ⟨hb1.os, hb1.tape, hb1.output, hb1.size, fun k hk _ => hb1.block k hk⟩ (Classical.em _)
      have g1 := grow_next hb hb1
      obtain ⟨c, hc⟩ : ∃ c, cntF t = c := ⟨_, rfl⟩
      obtain ⟨d, hd⟩ : ∃ d, datF t = d := ⟨_, rfl⟩
      rw [hc] at o2 o3 hds HXX
      rw [hd] at hds HXX
      simp only [if_true]
      rw [hd]
      have HDS := Lib.hid hds
      clear ho hfd hrow hc hd HF HX HY HO HD hb
      go_wp2_with (at_builtin; refine wpList_append_own _ rfl _ _ 24 rfl w.heap.size 9 i0 (.string ByteArray.empty) 1 16 Try.underlying24 HI0.out HZ0.out HZ1.out HZ2.out rfl (by decide) _ _ _ rfl (hr1.alloc _) ⟨w1.heap.size, 0, none⟩ 1 1 [.string d] rfl rfl (by simpa using cell_one_newS w1 (.string d) 9) (by simp [Value.oneCell']) (by unfold maxLen; omega) (by omega) (by have := g1.size; simp at this ⊢; omega) ?_; intro v' w4 hown' hgrow _)
      go_roundw
      case rel => exact ⟨k + 1, p + (8 + c), L ++ [d], by go_num, HXX, by omega, by omega, Lib.hid (by rw [List.length_append, HL.out]; rfl), by simpa using hown', (g1.alloc g1.size _).grown hgrow (g1.alloc g1.size _).size (fun j hj => (hr1.lt j hj).1)⟩
      case measure => simp [intOf]; omega
end Go.Proofs.Ytejkjlfdadficaa
