/- One file's bytes added to, one renamed, one cut out, on the program's shelf: what is done, without a walk. -/
import Derived.Test.YtgmjdalfbebgbaaShOf
namespace Go.Proofs.Ytgmjdalfbebgbaa
open Go.ChangeShapes Go.WideShapes Go.ChangeAt Go.RowKit Go.Maps
set_option linter.unusedVariables false
set_option linter.unusedSimpArgs false

def oldV (L : List Sh) (k : List UInt8) : ByteArray := match shAt L k with | some e => e.data | none => ByteArray.empty
section
variable {base : Nat} {w w' w1 w2 : World} {b : Nat} {L : List Sh}
theorem ShMap.hd_ne (h : ShMap base w b L) {e : Sh} (he : e ∈ L) : e.hd ≠ some b := fun e2 => by
  rcases h.rows e he with ⟨e3, _⟩ | ⟨g', cap, e3, hb⟩
  · have := congrArg Value.ownBlock e3
    rw [val_own, e2] at this
    cases this
  · have := congrArg Value.ownBlock e3
    rw [val_own, e2] at this
    simp only [Value.ownBlock, Option.some.injEq] at this
    rw [← this] at hb
    exact map_not_row h.own hb rfl
theorem ShMap.slice_at (h : ShMap base w b L) (k : List UInt8) : SliceIs w (atV L k) (oldV L k) := by
  unfold atV oldV
  cases hc : shAt L k with
  | some e => exact h.rows e (shAt_some hc).1
  | none => exact .inl ⟨rfl, rfl⟩
theorem ShMap.own_at (h : ShMap base w b L) (k : List UInt8) : ∀ g, (atV L k).ownBlock = some g → base ≤ g ∧ g < w.heap.size ∧ g ≠ b ∧ ∀ e ∈ L, e.hd = some g → e.key = k := fun g hg => by
  unfold atV at hg
  cases hc : shAt L k with
  | some e =>
    rw [hc] at hg
    have hg : e.hd = some g := by rw [← val_own]; exact hg
    obtain ⟨he, hk⟩ := shAt_some hc
    exact ⟨h.low e he g hg, h.old he hg, fun e2 => h.hd_ne he (by rw [hg, e2]), fun f hf h2 => by rw [← hk]; exact h.apart f hf e he g h2 hg⟩
  | none =>
    rw [hc] at hg
    cases hg
theorem SliceIs.hdv {v : Value} {s : ByteArray} (h : SliceIs w v s) : ∃ hd c, v = hdV hd s.size c ∧ v.ownBlock = hd := by
  rcases h with ⟨rfl, h0⟩ | ⟨g, cap, rfl, _⟩
  · exact ⟨none, 0, by rw [h0]; rfl, rfl⟩
  · exact ⟨some g, cap, rfl, rfl⟩
theorem cells_not_row {g p : Nat} {c : Array Value} {t : TypeId} {cap : Nat} {s : ByteArray} (hb : BytesAt w g cap s) (hp : w.heap[p]? = some (.cells c t)) (ht : t ≠ 5) : p ≠ g := fun e => by
  obtain ⟨cur, fr, h2, _⟩ := hb
  rw [← e, hp] at h2
  simp only [Option.some.injEq, Obj.cells.injEq] at h2
  exact ht h2.2.1
/-- Bytes added. -/
theorem ShMap.add (ty : TypeId) (h : ShMap base w b L) (hbase : base ≤ w.heap.size) (name data : ByteArray) (hn : name.size ≤ 1099511627776) (hd : data.size ≤ 1099511627776) (hL : L.length ≤ 2097152) (hold : ∀ e ∈ L, e.data.size ≤ 1099511627776) :
    ∃ v' w1 w2 L', (Builtin.append_ #[57, 9] ty #[atV L name.toList, .string data]).run Try.prog w = .ok v' w1 ∧ (Instr.mapUpdate 75 (.map (some b)) (.string name) v').run Try.prog w1 = .ok () w2 ∧
      (∀ (p : Nat) (c : Array Value) (t : TypeId), w.heap[p]? = some (.cells c t) → t ≠ 5 → w1.heap[p]? = some (.cells c t)) ∧ L'.map Sh.fl = putF (L.map Sh.fl) ⟨name, oldV L name.toList ++ data⟩ ∧ ShMap base w2 b L' ∧ Below base w w2 := by
  have hsl := h.slice_at name.toList
  have hso : (oldV L name.toList).size ≤ 1099511627776 := by
    unfold oldV
    cases hc : shAt L name.toList with
    | some e => exact hold e (shAt_some hc).1
    | none => exact Nat.zero_le _
  have hown := h.own_at name.toList
  obtain ⟨v', w1, hap, hs1, hg1, hloc⟩ := run_append_bytes w ty _ _ data hsl (by omega)
  obtain ⟨hd', c', hv', hob⟩ := hs1.hdv
  have hrb : (atV L name.toList).ownBlock ≠ some b := fun e => (hown b e).2.2.1 rfl
  have M1 := h.own.kept hg1 (fun e => hrb e.symm)
  obtain ⟨w2, hup, hown2, hg2⟩ := M1.update shLaw Try.underlying75 (by unfold maxLen; omega) (key_sh (s := name) (by unfold maxLen; omega)) (shR_mk hd' (oldV L name.toList ++ data).size c')
  rw [← hv'] at hup
  have hlow : ∀ g, hd' = some g → base ≤ g ∧ ∀ e ∈ L, e.hd = some g → e.key = name.toList := fun g hg => by
    rcases hloc g (by rw [hob]; exact hg) with h2 | h2
    · exact ⟨(hown g h2).1, (hown g h2).2.2.2⟩
    · exact ⟨by omega, fun e he h3 => by have := h.old he h3; omega⟩
  have M2 := h.put (c := ⟨name, hd', c', oldV L name.toList ++ data⟩) hg1 hrb (fun e he hne g hg h2 => hne ((hown g h2).2.2.2 e he hg)) (by show SliceIs w1 (hdV hd' _ c') _; rw [← hv']; exact hs1)
    (fun g hg => (hlow g hg).1) (fun e he hne g hg h2 => hne ((hlow g h2).2 e he hg)) hown2 hg2
  refine ⟨v', w1, w2, _, hap, hup, fun p c t hp ht => ?_, putS_fl _ _, M2, ?_⟩
  · refine (hg1.block p (Array.getElem?_eq_some_iff.1 hp).1 (fun e => ?_)).trans hp
    rcases hsl with ⟨e2, _⟩ | ⟨g, cap, e2, hb⟩
    · rw [e2] at e; cases e
    · rw [e2] at e
      simp only [Value.ownBlock, Option.some.injEq] at e
      exact cells_not_row hb hp ht e
  · exact ((Below.refl base w).grown hg1 hbase (fun j hj => (hown j hj).1)).grown hg2 (Nat.le_trans hbase hg1.size) (fun j hj => by cases hj; exact h.ge)
/-- One cut out. -/
theorem ShMap.del (ty : TypeId) (h : ShMap base w b L) (hbase : base ≤ w.heap.size) (name : ByteArray) (hn : name.size ≤ 1099511627776) :
    ∃ w1, (Builtin.delete_ #[75, 9] ty #[.map (some b), .string name]).run Try.prog w = .ok (.tuple #[]) w1 ∧ w.grownBy w1 (some b) ∧ ShMap base w1 b (cutS L name.toList) ∧ Below base w w1 := by
  obtain ⟨w1, hrun, hown1, ht⟩ := h.own.drop shLaw Try.underlying75 (key_sh (s := name) (by unfold maxLen; omega)) ty
  exact ⟨w1, hrun, ht.grown, h.cut hown1 ht.grown, (Below.refl base w).grown ht.grown hbase (fun j hj => by cases hj; exact h.ge)⟩
/-- One renamed, behind its cutting out. -/
theorem ShMap.ren {k : List UInt8} (h0 : ShMap base w b L) (h : ShMap base w1 b (cutS L k)) (hbase : base ≤ w1.heap.size) {e : Sh} (he : shAt L k = some e) (dst : ByteArray) (hn : dst.size ≤ 1099511627776) (hL : L.length ≤ 2097152) (hsl : SliceIs w1 e.val e.data) :
    ∃ w2 L', (Instr.mapUpdate 75 (.map (some b)) (.string dst) e.val).run Try.prog w1 = .ok () w2 ∧ L'.map Sh.fl = putF (cutF (L.map Sh.fl) k) ⟨dst, e.data⟩ ∧ ShMap base w2 b L' ∧ Below base w1 w2 := by
  obtain ⟨hmem, hk⟩ := shAt_some he
  have hlen : (cutS L k).length ≤ L.length := List.length_filter_le _ _
  obtain ⟨w2, hup, hown2, hg2⟩ := h.own.update shLaw Try.underlying75 (by unfold maxLen; omega) (key_sh (s := dst) (by unfold maxLen; omega)) (shR_mk e.hd e.data.size e.cap)
  have M2 := h.put (w1 := w1) (c := ⟨dst, e.hd, e.cap, e.data⟩) (row := none) (World.grownBy.refl _ _) (by simp) (fun _ _ _ _ _ => by simp) hsl (fun g hg => h0.low e hmem g hg)
    (fun f hf _ g hg h2 => by
      obtain ⟨hf1, hf2⟩ := cutS_mem hf
      exact hf2 (by rw [← hk]; exact h0.apart f hf1 e hmem g hg h2)) hown2 hg2
  exact ⟨w2, _, hup, by rw [putS_fl, cutS_fl]; rfl, M2, (Below.refl base w1).grown hg2 hbase (fun j hj => by cases hj; exact h.ge)⟩
end
end Go.Proofs.Ytgmjdalfbebgbaa
