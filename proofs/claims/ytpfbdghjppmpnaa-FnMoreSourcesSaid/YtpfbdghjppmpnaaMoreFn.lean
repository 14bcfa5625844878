/- With a source more none stands farther below: at all drawn nodes. -/
import Derived.Test.YtpfbdghjppmpnaaHopsFn
import Derived.Test.YtpfbdghjppmpnaaMoreSrc
import Derived.Test.YtpfbdghjppmpnaaTickI
namespace Go.Proofs.Ytpfbdghjppmpnaa
open Go.ChangeShapes Go.WideShapes Go.ChangeAt Go.RowKit
set_option linter.unusedVariables false
set_option linter.unusedSimpArgs false

theorem flatNp_set4 {E : List Np} {k : Nat} {e : Np} (h : E[k]? = some e) (b : Bool) (r s : Int) :
    ((((flatNp E).set (k * 4) (.bool b)).set (k * 4 + 1) (.slice e.px e.v.peers.length e.pc)).set (k * 4 + 2) (.int .i64 r)).set (k * 4 + 3) (.int .i64 s) = flatNp (E.set k ⟨⟨b, e.v.peers, r, s⟩, e.px, e.pc⟩) := by
  induction E generalizing k with
  | nil => simp at h
  | cons a E ih =>
    have e1 : flatNp (a :: E) = .bool a.v.src :: .slice a.px a.v.peers.length a.pc :: .int .i64 a.v.ref :: .int .i64 a.v.str :: flatNp E := rfl
    cases k with
    | zero =>
      simp at h
      subst h
      rw [e1]
      rfl
    | succ k =>
      rw [List.getElem?_cons_succ] at h
      have e2 : flatNp (a :: E.set k ⟨⟨b, e.v.peers, r, s⟩, e.px, e.pc⟩) = .bool a.v.src :: .slice a.px a.v.peers.length a.pc :: .int .i64 a.v.ref :: .int .i64 a.v.str :: flatNp (E.set k ⟨⟨b, e.v.peers, r, s⟩, e.px, e.pc⟩) := rfl
      rw [List.set_cons_succ, e2, ← ih h, e1]
      have a0 : (k + 1) * 4 = (k * 4) + 1 + 1 + 1 + 1 := by omega
      have a1 : (k + 1) * 4 + 1 = (k * 4 + 1) + 1 + 1 + 1 + 1 := by omega
      have a2 : (k + 1) * 4 + 2 = (k * 4 + 2) + 1 + 1 + 1 + 1 := by omega
      have a3 : (k + 1) * 4 + 3 = (k * 4 + 3) + 1 + 1 + 1 + 1 := by omega
      rw [a1, a2, a3, a0]
      simp only [List.set_cons_succ]
def put4N (w : World) (g k : Nat) (v : Value) : World := (((w.setCell ⟨g, k * 4, none⟩ (.bool true)).setCell ⟨g, k * 4 + 1, none⟩ v).setCell ⟨g, k * 4 + 2, none⟩ (.int .i64 (-1))).setCell ⟨g, k * 4 + 3, none⟩ (.int .i64 1)
/-- The copy, its last one made a source. -/
theorem more_nds {w w5 w6 : World} {g2 m qc c k : Nat} {y : Option Addr} {E : List Np} {e : Np} (h5 : w.heap.size ≤ w5.heap.size) (hp : PeersAll w.heap.size w5 (.slice y m c) E) (hb : Below w5.heap.size w5 w6)
    (hr : w6.ownsRow w5.heap.size 31 4 (.slice (some ⟨g2, 0, none⟩) m qc) m (flatNp E)) (hm : m = E.length) (he : E[k]? = some e) :
    Nds (put4N w6 g2 k (.slice e.px e.v.peers.length e.pc)).heap.size (put4N w6 g2 k (.slice e.px e.v.peers.length e.pc)) (some ⟨g2, 0, none⟩) (lastSrc (E.map Np.v) k e.v) ∧ Below w5.heap.size w5 (put4N w6 g2 k (.slice e.px e.v.peers.length e.pc)) := by
  have hg := (hr.lt g2 rfl).1
  have h1 := ((((World.ownsRow.stored hr (k * 4) (.bool true)).1.stored (k * 4 + 1) (.slice e.px e.v.peers.length e.pc)).1.stored (k * 4 + 2) (.int .i64 (-1))).1.stored (k * 4 + 3) (.int .i64 1)).1
  rw [flatNp_set4 he] at h1
  have hE : lastSrc (E.map Np.v) k e.v = (E.set k ⟨⟨true, e.v.peers, -1, 1⟩, e.px, e.pc⟩).map Np.v := by
    unfold lastSrc
    rw [List.map_set]
  have hold : ∀ e0 ∈ E, PeersOwn w.heap.size (put4N w6 g2 k (.slice e.px e.v.peers.length e.pc)) e0 ∧ ∀ p, (Value.slice e0.px e0.v.peers.length e0.pc).ownBlock = some p → (Value.slice (some ⟨g2, 0, none⟩) m qc).ownBlock ≠ some p := fun e0 h0 => by
    have h2 := (hp e0 h0).1
    have hne : ∀ p, (Value.slice e0.px e0.v.peers.length e0.pc).ownBlock = some p → g2 ≠ p := fun p hp => by
      have := (h2.lt p hp).2
      omega
    have hne2 : ∀ p, (Value.slice e0.px e0.v.peers.length e0.pc).ownBlock = some p → some g2 ≠ some p := fun p hp e => hne p hp (by simpa using e)
    exact ⟨((((h2.kept (grown_of_below hb) (fun _ _ => by simp)).kept (grownSet _ g2 _ _) hne2).kept (grownSet _ g2 _ _) hne2).kept (grownSet _ g2 _ _) hne2).kept (grownSet _ g2 _ _) hne2, fun p hp => hne2 p hp⟩
  refine ⟨?_, (((hb.setCell hg _).setCell hg _).setCell hg _).setCell hg _⟩
  rw [hE]
  refine nds_own (own_lowerN h1 h5) (by rw [List.length_set]; exact hm) (fun e0 h0 => ?_)
  rcases List.mem_or_eq_of_mem_set h0 with h0 | h0
  · exact hold e0 h0
  · subst h0
    exact hold e (List.mem_of_getElem? he)
end Go.Proofs.Ytpfbdghjppmpnaa
