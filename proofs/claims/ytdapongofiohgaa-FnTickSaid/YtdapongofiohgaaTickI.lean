/- A tick: whom a node follows then; the program's way. -/
import Derived.Test.YtdapongofiohgaaStage
import Derived.Test.YtdapongofiohgaaLoopsMath
import Derived.Test.YtdapongofiohgaaNdOkI
namespace Go.Proofs.Ytdapongofiohgaa
open Go.ChangeShapes Go.WideShapes Go.ChangeAt Go.RowKit
set_option linter.unusedVariables false
set_option linter.unusedSimpArgs false

def strAt (l : List Nd) (p : Int) : Int := match l[p.toNat]? with | some v => v.str | none => 0
theorem strAt_of {l : List Nd} {p : Int} {v : Nd} (h : l[p.toNat]? = some v) : strAt l p = v.str := by unfold strAt; rw [h]
def bestStepP (l : List Nd) (q : Int × Int) (p : Int) : Int × Int := if strAt l p + 1 < q.2 then (p, strAt l p + 1) else q
/-- The peer of the least stratum, of these the first one, and one more. -/
def bestP (l : List Nd) (ps : List Int) : Int × Int := ps.foldl (bestStepP l) (-1, 16)
theorem bestP_next (l : List Nd) {ps : List Int} {k : Nat} {p : Int} (h : ps[k]? = some p) : bestP l (ps.take (k + 1)) = bestStepP l (bestP l (ps.take k)) p := by
  unfold bestP
  rw [List.take_add_one, h]
  simp
def tickNd (l : List Nd) (v : Nd) : Nd := if v.src then v else ⟨v.src, v.peers, (bestP l v.peers).1, (bestP l v.peers).2⟩
def tickOk (l : List Nd) (a : Int) : Bool := nodesOk l && inB 0 a ((l.length : Int) - 1)
def tickR (l : List Nd) (a : Int) : Nd := if tickOk l a then (match l[a.toNat]? with | some v => tickNd l v | none => zeroNd) else zeroNd
theorem str_in {N a : Int} {v : Nd} (h : ndOk N a v = true) : 1 ≤ v.str ∧ v.str ≤ 16 := by
  have hs := (nd_parts h).2.2
  unfold standsB at hs
  cases hsr : v.src with
  | true =>
    rw [hsr] at hs
    simp only [if_true, Bool.and_eq_true, beq_iff_eq] at hs
    omega
  | false =>
    rw [hsr] at hs
    simp only [Bool.false_eq_true, if_false] at hs
    split at hs
    · have : v.str = 16 := by simpa using hs
      omega
    · simp only [Bool.and_eq_true, inB_iff] at hs
      omega
/-- Everybody's stratum is between 1 and 16. -/
def StrOk (l : List Nd) : Prop := ∀ v ∈ l, 1 ≤ v.str ∧ v.str ≤ 16
theorem strOk_of {l : List Nd} (h : nodesOk l = true) : StrOk l := fun v hv => by
  obtain ⟨j, hj⟩ := List.getElem?_of_mem hv
  exact str_in (nodesOk_at h hj)
theorem strAt_in {l : List Nd} (h : StrOk l) {p : Int} (h0 : 0 ≤ p) (h1 : p < l.length) : 1 ≤ strAt l p ∧ strAt l p ≤ 16 := by
  obtain ⟨v, hv⟩ := getN (l := l) (k := p.toNat) (by omega)
  rw [strAt_of hv]
  exact h v (List.mem_of_getElem? hv)
theorem one_cell' {W : World} {b : Nat} {x0 : Value} {T : TypeId} (e : W.heap[b]? = some (.cells #[x0] T)) : W.cell? ⟨b, 0, none⟩ = some x0 ∧ W.frozen? ⟨b, 0, none⟩ = false := by simp [World.cell?, World.frozen?, e]
/-- A stage's nodes, in memory. -/
theorem StageAt.open_ {base : Nat} {w : World} {s : Nat} {E : List Np} (h : StageAt base w s E) (hE : 0 < E.length) : ∃ g cy, w.heap[s]? = some (.cells #[.slice (some ⟨g, 0, none⟩) E.length cy] 77 (0, 0)) ∧ base ≤ g ∧ base ≤ s ∧ g ≠ s ∧ g < w.heap.size ∧ w.ownsRow base 48 4 (.slice (some ⟨g, 0, none⟩) E.length cy) E.length (flatNp E) ∧ PeersAll base w (.slice (some ⟨g, 0, none⟩) E.length cy) E := by
  obtain ⟨o, h1, h2, h3, h4, h5⟩ := h
  have h3' := h3
  rcases h3.2 with ⟨e, e0⟩ | ⟨g, c, cur, rfl, hb, hg, _⟩
  · omega
  · exact ⟨g, c, h1, hb, h2, fun e => h5 (by simp [Value.ownBlock, e]), (Array.getElem?_eq_some_iff.1 hg).1, h3', h4⟩
theorem np_cells {base : Nat} {w : World} {g cy : Nat} {E : List Np} (h : w.ownsRow base 48 4 (.slice (some ⟨g, 0, none⟩) E.length cy) E.length (flatNp E)) {k : Nat} {e : Np} (he : E[k]? = some e) :
    (w.cell? ⟨g, k * 4, none⟩ = some (.bool e.v.src) ∧ w.cell? ⟨g, k * 4 + 1, none⟩ = some (.slice e.px e.v.peers.length e.pc) ∧ w.cell? ⟨g, k * 4 + 2, none⟩ = some (.int .i64 e.v.ref) ∧ w.cell? ⟨g, k * 4 + 3, none⟩ = some (.int .i64 e.v.str)) ∧ ∀ j, w.frozen? ⟨g, j, none⟩ = false := by
  have hk := (List.getElem?_eq_some_iff.1 he).1
  have h0 := flatNp_at he (j := 0) rfl
  have h1 := flatNp_at he (j := 1) rfl
  have h2 := flatNp_at he (j := 2) rfl
  have h3 := flatNp_at he (j := 3) rfl
  rw [Nat.add_zero] at h0
  refine ⟨⟨?_, ?_, ?_, ?_⟩, fun j => World.ownsRow.frozenAt h j⟩
  · rw [World.ownsRow.cellAt h _ (by omega)]; exact h0
  · rw [World.ownsRow.cellAt h _ (by omega)]; exact h1
  · rw [World.ownsRow.cellAt h _ (by omega)]; exact h2
  · rw [World.ownsRow.cellAt h _ (by omega)]; exact h3
set_option maxRecDepth 100000 in
set_option maxHeartbeats 4000000 in
theorem bestS_c (l : List Nd) (hS : StrOk l) (ps : List Int) (hps : ∀ p ∈ ps, 0 ≤ p ∧ p < l.length) (m : Nat) (hm : Hid (m = ps.length)) (hm1 : m ≤ 1048576) (px : Option Addr) (pc base s : Nat) (E : List Np) (hE : E.map Np.v = l) (w : World) (h : StageAt base w s E) (hp : IntsAt w.heap.size w px ps) :
    Calls Try.prog 78 #[.pointer (some ⟨s, 0, none⟩), .slice px m pc] w fun e w' => e = .returned (.tuple #[.int .i64 (bestP l ps).1, .int .i64 (bestP l ps).2]) ∧ w = w' := by
  have hEl : E.length = l.length := by rw [← hE, List.length_map]
  go_enter Try.func78, Try.ntmps78
  go_wp2
  go_loop [6, 7, 13] (fun r t i => ∃ (k : Nat) (q : Int × Int), k ≤ m ∧ i = .int .i64 k ∧ r = .int .i64 q.1 ∧ t = .int .i64 q.2 ∧ Hid (q = bestP l (ps.take k))) (fun _ _ i => m - (intOf i).toNat)
  case atStart => exact ⟨0, (-1, 16), Nat.zero_le _, rfl, rfl, rfl, Lib.hid rfl⟩
  case round =>
    obtain ⟨k, q, hk, rfl, rfl, rfl, HQ⟩ := hrel
    by_cases hlt : k < m
    · obtain ⟨p, hp'⟩ := getI (l := ps) (k := k) (by rw [← hm.out]; exact hlt)
      obtain ⟨b, off, rfl, _, c0⟩ := hp.at_ hp'
      obtain ⟨p0, p1⟩ := hps p (List.mem_of_getElem? hp')
      obtain ⟨g, cy, hN, _, _, _, _, hrow, _⟩ := h.open_ (by omega)
      obtain ⟨e, he⟩ : ∃ e, E[p.toNat]? = some e := ⟨E[p.toNat]'(by omega), List.getElem?_eq_getElem _⟩
      obtain ⟨⟨_, _, _, c3⟩, _⟩ := np_cells hrow he
      have hev : strAt l p = e.v.str := strAt_of (by rw [← hE, List.getElem?_map, he]; rfl)
      have hin := strAt_in hS p0 p1
      rw [hev] at hin
      obtain ⟨j, hj⟩ : ∃ j : Nat, p = (j : Int) := ⟨p.toNat, by omega⟩
      subst hj
      rw [Int.toNat_natCast] at c3
      obtain ⟨cs, _⟩ := one_cell' hN
      have hjn : j < E.length := by omega
      have hw : IntKind.i64.wrap (e.v.str + 1) = e.v.str + 1 := IntWalk.i64_in _ (by omega)
      have hnx := bestP_next l hp'
      rw [← HQ.out] at hnx
      unfold bestStepP at hnx
      rw [hev] at hnx
      by_cases hlo : e.v.str + 1 < q.2
      · rw [if_pos hlo] at hnx
        have hd : decide (e.v.str + 1 < q.2) = true := decide_eq_true hlo
        have HNX := Lib.hid hnx.symm
        clear hnx hlo hp' he hev hrow hN h
        go_wp2_with fail
        go_round
        case rel => exact ⟨k + 1, ((j : Int), e.v.str + 1), by omega, by go_num, rfl, rfl, HNX⟩
        case measure => simp [intOf]; omega
      · rw [if_neg hlo] at hnx
        have hd : decide (e.v.str + 1 < q.2) = false := decide_eq_false hlo
        have HNX := Lib.hid hnx.symm
        clear hnx hlo hp' he hev hrow hN h
        go_wp2_with fail
        go_round
        case rel => exact ⟨k + 1, q, by omega, by go_num, rfl, rfl, HNX⟩
        case measure => simp [intOf]; omega
    · have HE : Hid (q = bestP l ps) := Lib.hid (by rw [HQ.out, show k = m by omega, hm.out, List.take_length])
      go_wp2_with fail
      go_returns
      exact ⟨by rw [← HE.out]; rfl, rfl⟩
end Go.Proofs.Ytdapongofiohgaa
