/- The program's packet, read field by field. -/
import Derived.Test.YteecemjbkpkpaaaDoorRpRead
namespace Go.Proofs.YteecemjbkpkpaaaDoor
open Go.ChangeShapes Go.WideShapes Go.ChangeAt Go.RowKit
set_option linter.unusedVariables false
set_option linter.unusedSimpArgs false

def restP (s : ByteArray) (p : Nat) : ByteArray := s.extract p s.size
theorem restP_size (s : ByteArray) (p : Nat) : (restP s p).size = s.size - p := by unfold restP; rw [ByteArray.size_extract]; omega
theorem restP_rest (s : ByteArray) (p c : Nat) : (restP s p).extract c (restP s p).size = restP s (p + c) := by
  rw [restP_size]
  unfold restP
  rw [ByteArray.extract_extract]
  by_cases h : p ≤ s.size
  · rw [Nat.min_eq_right (by omega)]
  · apply ByteArray.ext
    apply Array.toList_inj.1
    have e1 : s.data.toList.length = s.size := by simp
    rw [Lib.extract_data, Lib.extract_data, List.drop_of_length_le (by omega)]
    simp
theorem restP_head (s : ByteArray) (p c : Nat) (h : p + c ≤ s.size) : (restP s p).extract 0 c = s.extract p (p + c) := by
  unfold restP
  rw [ByteArray.extract_extract, Nat.add_zero, Nat.min_eq_left h]
section
variable {s : ByteArray} (hs : s.size ≤ 1048576) {a : Nat} {w : World} {p : Nat} (h : Rp w a (restP s p))
include hs h
theorem number_at (c : Nat) (hp : p + c ≤ s.size) (hc : c ≤ 4) : Calls Tryd.prog 62 #[.pointer (some ⟨a, 0, none⟩), .int .i64 c] w fun e w' => e = .returned (.int .i64 (getB (s.extract p (p + c)))) ∧ Rp w' a (restP s (p + c)) ∧ w.grownBy w' (some a) := by
  have := number_ok a (restP s p) c (by rw [restP_size]; omega) hc (by rw [restP_size]; omega) w h
  rwa [restP_rest, restP_head s p c hp] at this
theorem expect_at (c : Nat) (n : Int) (hp : p + c ≤ s.size) (hc : c ≤ 4) (hn : getB (s.extract p (p + c)) = n) : Calls Tryd.prog 63 #[.pointer (some ⟨a, 0, none⟩), .int .i64 n, .int .i64 c] w fun e w' => e = .returned (.tuple #[]) ∧ Rp w' a (restP s (p + c)) ∧ w.grownBy w' (some a) := by
  have := expect_ok a (restP s p) c n (by rw [restP_size]; omega) hc (by rw [restP_size]; omega) (by rw [restP_head s p c hp]; exact hn) w h
  rwa [restP_rest] at this
theorem expect_off (c : Nat) (n : Int) (hc : 1 ≤ c) (hc4 : c ≤ 4) (hn : s.size < p + c ∨ getB (s.extract p (p + c)) ≠ n) : Calls Tryd.prog 63 #[.pointer (some ⟨a, 0, none⟩), .int .i64 n, .int .i64 c] w fun e w' => e = .panicked gaveUp ∧ w.grownBy w' (some a) :=
  expect_no a (restP s p) c n hc4 (by rw [restP_size]; omega) (by
    by_cases hp : p + c ≤ s.size
    · right
      rw [restP_head s p c hp]
      exact hn.resolve_left (by omega)
    · left
      rw [restP_size]; omega) w h
theorem time_at (hp : p + 8 ≤ s.size) (hn : stampOk (s.extract p (p + 8)) = true) : Calls Tryd.prog 64 #[.pointer (some ⟨a, 0, none⟩)] w fun e w' => e = .returned (.int .i64 (stampT (s.extract p (p + 8)))) ∧ Rp w' a (restP s (p + 8)) ∧ w.grownBy w' (some a) := by
  have := time_ok a (restP s p) (by rw [restP_size]; omega) (by rw [restP_size]; omega) (by rw [restP_head s p 8 hp]; exact hn) w h
  rwa [restP_rest, restP_head s p 8 hp] at this
theorem time_off (hn : s.size < p + 8 ∨ stampOk (s.extract p (p + 8)) = false) : Calls Tryd.prog 64 #[.pointer (some ⟨a, 0, none⟩)] w fun e w' => e = .panicked gaveUp ∧ w.grownBy w' (some a) :=
  time_no a (restP s p) (by rw [restP_size]; omega) (by
    by_cases hp : p + 8 ≤ s.size
    · right
      rw [restP_head s p 8 hp]
      exact hn.resolve_left (by omega)
    · left
      rw [restP_size]; omega) w h
end
theorem number_off {s : ByteArray} (_hs : s.size ≤ 1048576) {a : Nat} {w : World} {p : Nat} (h : Rp w a (restP s p)) (c : Nat) (hp : s.size < p + c) (hc : 1 ≤ c) (hc4 : c ≤ 4) : Calls Tryd.prog 62 #[.pointer (some ⟨a, 0, none⟩), .int .i64 c] w fun e w' => e = .panicked gaveUp ∧ w.grownBy w' (some a) :=
  (number_no a (restP s p) c (by rw [restP_size]; omega) (by omega) w h).mono fun e w' ⟨he, hw⟩ => ⟨he, hw ▸ World.grownBy.refl _ _⟩
def zeroPk : Pk := ⟨0, 0, 0, 0, 0, 0, 0, 0, 0, 0, 0⟩
/-- While a packet is read: where the reader stands, the result's box, the packet's box. -/
structure PkSt (w W : World) (a r b : Nat) (t : ByteArray) (q : Pk) : Prop where
  rd : Rp W a t
  res : W.heap[r]? = some (.cells #[.int .i64 zeroPk.leap, .int .i64 zeroPk.version, .int .i64 zeroPk.mode, .int .i64 zeroPk.stratum, .int .i64 zeroPk.poll, .int .i64 zeroPk.delay, .int .i64 zeroPk.disp, .int .i64 zeroPk.ref, .int .i64 zeroPk.orig, .int .i64 zeroPk.recv, .int .i64 zeroPk.xmit] 25)
  box : W.heap[b]? = some (.cells #[.int .i64 q.leap, .int .i64 q.version, .int .i64 q.mode, .int .i64 q.stratum, .int .i64 q.poll, .int .i64 q.delay, .int .i64 q.disp, .int .i64 q.ref, .int .i64 q.orig, .int .i64 q.recv, .int .i64 q.xmit] 25)
  al : a < w.heap.size
  rb : w.heap.size ≤ r
  bb : w.heap.size ≤ b
  ne : r ≠ b
  gr : w.grownBy W (some a)
theorem heapP_set {w : World} {b : Nat} {cs : Array Value} {T : TypeId} (h : w.heap[b]? = some (.cells cs T)) (k : Nat) (v : Value) : (w.setCell ⟨b, k, none⟩ v).heap[b]? = some (.cells (cs.setIfInBounds k v) T) := by
  simp [World.setCell, Array.getElem?_modify, h]
theorem heapP_other {w : World} {b c : Nat} {o : Obj} (h : w.heap[c]? = some o) (hne : b ≠ c) (k : Nat) (v : Value) : (w.setCell ⟨b, k, none⟩ v).heap[c]? = some o := by
  simp [World.setCell, Array.getElem?_modify, hne, h]
theorem PkSt.call {w W W' : World} {a r b : Nat} {t t' : ByteArray} {q : Pk} (h : PkSt w W a r b t q) (hr : Rp W' a t') (hg : W.grownBy W' (some a)) : PkSt w W' a r b t' q :=
  ⟨hr, (hg.block r (Array.getElem?_eq_some_iff.1 h.res).1 (fun e => by have := h.al; have := h.rb; cases e; omega)).trans h.res, (hg.block b (Array.getElem?_eq_some_iff.1 h.box).1 (fun e => by have := h.al; have := h.bb; cases e; omega)).trans h.box, h.al, h.rb, h.bb, h.ne, grownP_trans h.gr hg⟩
theorem PkSt.put {w W : World} {a r b : Nat} {t : ByteArray} {q : Pk} (h : PkSt w W a r b t q) (k : Nat) (v : Int) (q' : Pk) (e : (#[.int .i64 q.leap, .int .i64 q.version, .int .i64 q.mode, .int .i64 q.stratum, .int .i64 q.poll, .int .i64 q.delay, .int .i64 q.disp, .int .i64 q.ref, .int .i64 q.orig, .int .i64 q.recv, .int .i64 q.xmit] : Array Value).setIfInBounds k (.int .i64 v) = #[.int .i64 q'.leap, .int .i64 q'.version, .int .i64 q'.mode, .int .i64 q'.stratum, .int .i64 q'.poll, .int .i64 q'.delay, .int .i64 q'.disp, .int .i64 q'.ref, .int .i64 q'.orig, .int .i64 q'.recv, .int .i64 q'.xmit]) : PkSt w (W.setCell ⟨b, k, none⟩ (.int .i64 v)) a r b t q' := by
  have hab : b ≠ a := by have := h.al; have := h.bb; omega
  refine ⟨heapP_other h.rd hab _ _, heapP_other h.res (Ne.symm h.ne) _ _, ?_, h.al, h.rb, h.bb, h.ne, ?_⟩
  · rw [← e]
    exact heapP_set h.box k _
  · exact ⟨h.gr.os, h.gr.tape, h.gr.output, by simpa [World.setCell] using h.gr.size, fun j hj hne => by
      have : b ≠ j := by have := h.bb; omega
      rw [← h.gr.block j hj hne]
      simp [World.setCell, Array.getElem?_modify, this]⟩
theorem packetP_thaw {W : World} {b : Nat} {T : TypeId} {q : Pk} (h : W.heap[b]? = some (.cells #[.int .i64 q.leap, .int .i64 q.version, .int .i64 q.mode, .int .i64 q.stratum, .int .i64 q.poll, .int .i64 q.delay, .int .i64 q.disp, .int .i64 q.ref, .int .i64 q.orig, .int .i64 q.recv, .int .i64 q.xmit] T)) : ∀ k, k < 11 → W.frozen? ⟨b, k, none⟩ = false := by
  intro k hk
  simp [World.frozen?, h]
end Go.Proofs.YteecemjbkpkpaaaDoor
