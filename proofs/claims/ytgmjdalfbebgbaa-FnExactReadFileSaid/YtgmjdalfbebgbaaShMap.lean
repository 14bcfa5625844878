/- The program's shelf: a map of names to rows of bytes: how it reads, what lies where, one looked up, put in, cut out. -/
import Derived.Test.YtgmjdalfbebgbaaDkMath
import Derived.Test.YtgmjdalfbebgbaaShRow
import Derived.Maps.OwnSet
import Derived.Maps.Ext
import Derived.Maps.RangeWalk
import Derived.Sort.KeysCollected
namespace Go.Proofs.Ytgmjdalfbebgbaa
open Go.ChangeShapes Go.WideShapes Go.ChangeAt Go.RowKit Go.Maps
set_option linter.unusedVariables false
set_option linter.unusedSimpArgs false

/-- A file on the shelf: its name, where its bytes lie, how many there is room for, what they are. -/
structure Sh where
  name : ByteArray
  hd : Option Nat
  cap : Nat
  data : ByteArray
def Sh.fl (e : Sh) : Fl := ⟨e.name, e.data⟩
def Sh.key (e : Sh) : List UInt8 := e.name.toList
theorem Sh.key_fl (e : Sh) : e.fl.key = e.key := rfl
def hdV (h : Option Nat) (n c : Nat) : Value := .slice (h.map fun g => ⟨g, 0, none⟩) n c
def hdD (h : Option Nat) (n c : Nat) : DataW Unit := .agg [.lit (.int .i64 (match h with | none => 0 | some g => (g : Int) + 1)), .lit (.int .i64 n), .lit (.int .i64 c)]
def shR (v : Value) : Option (DataW Unit × List MemPlace) :=
  match v with
  | .slice none n c => some (hdD none n c, [])
  | .slice (some ⟨g, 0, none⟩) n c => some (hdD (some g) n c, [])
  | _ => none
theorem shR_mk (h : Option Nat) (n c : Nat) : shR (hdV h n c) = some (hdD h n c, []) := by cases h <;> rfl
theorem shR_inv {v : Value} {z : DataW Unit × List MemPlace} (h : shR v = some z) : ∃ (x : Option Nat × Nat × Nat), v = hdV x.1 x.2.1 x.2.2 ∧ z = (hdD x.1 x.2.1 x.2.2, []) := by
  unfold shR at h
  split at h
  · rename_i n c
    cases h
    exact ⟨(none, n, c), rfl, rfl⟩
  · rename_i g n c
    cases h
    exact ⟨(some g, n, c), rfl, rfl⟩
  · cases h
theorem hdD_inj {h h' : Option Nat} {n n' c c' : Nat} (e : hdD h n c = hdD h' n' c') : h = h' ∧ n = n' ∧ c = c' := by
  unfold hdD at e
  simp only [DataW.agg.injEq, List.cons.injEq, DataW.lit.injEq, Lit.int.injEq, and_true, true_and] at e
  obtain ⟨e0, e1, e2⟩ := e
  refine ⟨?_, by omega, by omega⟩
  cases h <;> cases h' <;> simp at e0 ⊢ <;> omega
def Sh.val (e : Sh) : Value := hdV e.hd e.data.size e.cap
def Sh.dat (e : Sh) : DataW Unit := hdD e.hd e.data.size e.cap
theorem sh_val {v : Value} {e : Sh} {ps : List MemPlace} (h : shR v = some (e.dat, ps)) : v = e.val := by
  obtain ⟨⟨a, b, c⟩, rfl, hz⟩ := shR_inv h
  have := congrArg Prod.fst hz
  obtain ⟨h1, h2, h3⟩ := hdD_inj this
  unfold Sh.val
  rw [h1, h2, h3]
def entS (e : Sh) : Lit × DataW Unit := (.string e.key, e.dat)
def shD (L : List Sh) : DataW Unit := .map (L.map entS)
def shAt (L : List Sh) (k : List UInt8) : Option Sh := L.find? fun e => e.key == k
def putS (L : List Sh) (c : Sh) : List Sh := L.filter (fun a => decide (a.key < c.key)) ++ c :: L.filter (fun a => decide (c.key < a.key))
def cutS (L : List Sh) (k : List UInt8) : List Sh := L.filter fun a => !(a.key == k)
def RiseS (L : List Sh) : Prop := L.Pairwise fun a b => a.key < b.key
theorem sameKey_s (a b : List UInt8) : Lit.sameKey (.string a) (.string b) = (a == b) := rfl
theorem shAt_some {L : List Sh} {i : List UInt8} {c : Sh} (h : shAt L i = some c) : c ∈ L ∧ c.key = i :=
  ⟨List.mem_of_find?_eq_some h, by have := List.find?_some h; simpa using this⟩
theorem shAt_none {L : List Sh} {i : List UInt8} (h : shAt L i = none) : ∀ c ∈ L, c.key ≠ i := fun c hc e => by
  have := List.find?_eq_none.1 h c hc
  simp [e] at this
theorem shAt_fl (L : List Sh) (k : List UInt8) : flAt (L.map Sh.fl) k = (shAt L k).map Sh.fl := by
  unfold flAt shAt
  rw [List.find?_map]
  rfl
theorem putS_fl (L : List Sh) (c : Sh) : (putS L c).map Sh.fl = putF (L.map Sh.fl) c.fl := by
  unfold putS putF
  rw [List.map_append, List.map_cons, List.filter_map, List.filter_map]
  rfl
theorem cutS_fl (L : List Sh) (k : List UInt8) : (cutS L k).map Sh.fl = cutF (L.map Sh.fl) k := by
  unfold cutS cutF
  rw [List.filter_map]
  rfl
theorem riseS_fl {L : List Sh} : RiseS L ↔ RiseF (L.map Sh.fl) := by
  unfold RiseS RiseF
  rw [List.pairwise_map]
  rfl
theorem putS_mem {L : List Sh} {c a : Sh} (h : a ∈ putS L c) : a = c ∨ (a ∈ L ∧ a.key ≠ c.key) := by
  unfold putS at h
  rcases List.mem_append.1 h with h | h
  · obtain ⟨h1, h2⟩ := List.mem_filter.1 h
    exact .inr ⟨h1, kb_ne (by simpa using h2)⟩
  · rcases List.mem_cons.1 h with h | h
    · exact .inl h
    · obtain ⟨h1, h2⟩ := List.mem_filter.1 h
      exact .inr ⟨h1, fun e => kb_irrefl c.key (by have : c.key < a.key := by simpa using h2
                                                   rwa [e] at this)⟩
theorem cutS_mem {L : List Sh} {k : List UInt8} {a : Sh} (h : a ∈ cutS L k) : a ∈ L ∧ a.key ≠ k := by
  obtain ⟨h1, h2⟩ := List.mem_filter.1 h
  exact ⟨h1, by simpa using h2⟩
theorem at_shD (L : List Sh) (i : List UInt8) (z : DataW Unit) : (shD L).atKey (.string i) z = match shAt L i with | some c => c.dat | none => z := by
  unfold shD DataW.atKey shAt
  simp only [List.find?_map]
  have e : ((fun p : Lit × DataW Unit => p.1.sameKey (.string i)) ∘ entS) = fun c : Sh => c.key == i := by
    funext c
    rfl
  rw [e]
  cases L.find? (fun c : Sh => c.key == i) <;> rfl
theorem has_shD (L : List Sh) (i : List UInt8) : Maps.has (shD L) (.string i) = (shAt L i).isSome := by
  unfold shAt
  show (L.map entS).any (fun p => p.1.sameKey (.string i)) = _
  rw [List.any_map, List.isSome_find?]
  rfl
theorem size_shD (L : List Sh) : Maps.size (shD L) = L.length := by simp [shD, Maps.size]
theorem keys_shD (L : List Sh) : strKeys (shD L) = L.map Sh.key := by
  unfold shD strKeys
  simp only [List.map_map]
  rfl
theorem insert_S (c : Sh) : ∀ L : List Sh, RiseS L → (∀ a ∈ L, a.key ≠ c.key) → DataW.insert (entS c) (L.map entS) = (putS L c).map entS
  | [], _, _ => rfl
  | a :: L, h, hn => by
    have hp := List.pairwise_cons.1 h
    have ha := hn a (by simp)
    show (if (entS c).1.before (entS a).1 then entS c :: entS a :: L.map entS else entS a :: DataW.insert (entS c) (L.map entS)) = _
    have e : (entS c).1.before (entS a).1 = decide (c.key < a.key) := before_is _ _
    rw [e]
    by_cases hlt : c.key < a.key
    · have h1 : ∀ x ∈ L, c.key < x.key := fun x hx => kb_trans hlt (hp.1 x hx)
      unfold putS
      have hna := kb_asymm hlt
      rw [decide_eq_true hlt, if_pos rfl, List.filter_cons_of_neg (by simpa using hna), List.filter_cons_of_pos (by simpa using hlt), List.filter_eq_nil_iff.2 (fun x hx => by have := kb_asymm (h1 x hx); simpa using this), List.filter_eq_self.2 (fun x hx => by simpa using h1 x hx)]
      rfl
    · have hgt : a.key < c.key := by
        rcases kb_tri a.key c.key with h | h | h
        · exact h
        · exact absurd h ha
        · exact absurd h hlt
      rw [decide_eq_false hlt, if_neg (by simp), insert_S c L hp.2 (fun x hx => hn x (by simp [hx]))]
      unfold putS
      rw [List.filter_cons_of_pos (by simpa using hgt), List.filter_cons_of_neg (by simpa using hlt)]
      rfl
theorem put_shD {L : List Sh} (h : RiseS L) (c : Sh) : (shD L).put (.string c.key) c.dat = shD (putS L c) := by
  have e1 : (L.map entS).filter (fun p => !p.1.sameKey (.string c.key)) = (cutS L c.key).map entS := by
    rw [List.filter_map]
    rfl
  show DataW.map (DataW.insert (entS c) ((L.map entS).filter (fun p => !p.1.sameKey (.string c.key)))) = shD (putS L c)
  rw [e1, insert_S c (cutS L c.key) (List.Pairwise.filter _ h) (fun a ha => (cutS_mem ha).2)]
  unfold shD putS cutS
  rw [List.filter_filter, List.filter_filter]
  congr 3
  · refine List.filter_congr fun a _ => ?_
    cases hd : decide (a.key < c.key) with
    | false => rfl
    | true => have := kb_ne (of_decide_eq_true hd); simpa using this
  · refine congrArg _ (List.filter_congr fun a _ => ?_)
    cases hd : decide (c.key < a.key) with
    | false => rfl
    | true => have := (kb_ne (of_decide_eq_true hd)).symm; simpa using this
theorem del_shD (L : List Sh) (k : List UInt8) : (shD L).del (.string k) = shD (cutS L k) := by
  show DataW.map ((L.map entS).filter (fun p => !p.1.sameKey (.string k))) = shD (cutS L k)
  rw [List.filter_map]
  rfl

/-! ### in memory -/
theorem shLaw : Keyed Try.prog 9 := string_keyed Try.underlying9
theorem key_sh {s : ByteArray} (h : s.size ≤ maxLen) : keyOf Try.prog 9 (.string s) = some (.string s.toList) := by
  rw [ByteArray.toList_eq]
  exact WideMaps.keyOf_string_mk Try.underlying9 h
/-- Block b is the shelf of these files, whose bytes lie from block base on, each one's by themselves. -/
structure ShMap (base : Nat) (w : World) (b : Nat) (L : List Sh) : Prop where
  own : w.ownsMap Try.prog 9 shR b L.length (shD L)
  rise : RiseS L
  ge : base ≤ b
  rows : ∀ e ∈ L, SliceIs w e.val e.data
  low : ∀ e ∈ L, ∀ g, e.hd = some g → base ≤ g
  apart : ∀ e ∈ L, ∀ f ∈ L, ∀ g, e.hd = some g → f.hd = some g → e.key = f.key
theorem ownsMap_tightS {H : Type} {P : Program} {k : TypeId} {R : Value → Option (DataW H × List MemPlace)} {w : World} {b n : Nat} {D : DataW H} (h : w.ownsMap P k R b n D) : w.ownsMap P k R b (Maps.size D) D := by
  obtain ⟨es, clock, hb, F, hs, rfl⟩ := h
  exact ⟨es, clock, hb, F, by simp [Maps.size, length_sorted], rfl⟩
theorem val_own (e : Sh) : e.val.ownBlock = e.hd := by
  unfold Sh.val hdV
  cases e.hd <;> rfl
theorem map_not_row {w : World} {b g cap n : Nat} {s : ByteArray} {D : DataW Unit} (h : w.ownsMap Try.prog 9 shR b n D) (hb : BytesAt w g cap s) : g ≠ b := fun e => by
  obtain ⟨es, clock, h1, _⟩ := h
  obtain ⟨cur, fr, h2, _⟩ := hb
  rw [e, h1] at h2
  cases h2
section
variable {base : Nat} {w w' w1 w2 : World} {b : Nat} {L : List Sh}
theorem ShMap.lt (h : ShMap base w b L) : b < w.heap.size := h.own.lt
theorem ShMap.kept {row : Option Nat} (h : ShMap base w b L) (hg : w.grownBy w' row) (hb : row ≠ some b) (hne : ∀ e ∈ L, ∀ g, e.hd = some g → row ≠ some g) : ShMap base w' b L :=
  ⟨h.own.kept hg (fun e => hb e.symm), h.rise, h.ge, fun e he => (h.rows e he).grown hg (fun g hg2 => hne e he g (by rwa [val_own] at hg2)), h.low, h.apart⟩
theorem ShMap.next (h : ShMap base w b L) (hb : Below w.heap.size w w') : ShMap base w' b L :=
  h.kept (row := none) ⟨hb.os, hb.tape, hb.output, hb.size, fun k hk _ => hb.block k hk⟩ (by simp) (fun _ _ _ _ => by simp)
theorem ShMap.mono {base' : Nat} (h : ShMap base w b L) (hb : base' ≤ base) : ShMap base' w b L := ⟨h.own, h.rise, Nat.le_trans hb h.ge, h.rows, fun e he g hg => Nat.le_trans hb (h.low e he g hg), h.apart⟩
theorem ShMap.made (w : World) : ShMap w.heap.size (w.alloc (.map #[] 0)) w.heap.size [] :=
  ⟨World.ownsMap_made _ _ _ _, List.Pairwise.nil, Nat.le_refl _, (fun _ h => by cases h), (fun _ h => by cases h), (fun _ h => by cases h)⟩
/-- What the shelf has at a name, and whether. -/
def atV (L : List Sh) (k : List UInt8) : Value := match shAt L k with | some e => e.val | none => .slice none 0 0
theorem zero_sh (w : World) : (zeroValue 57).run Try.prog w = .ok (.slice none 0 0) w := by kernel_rfl
theorem ShMap.look (h : ShMap base w b L) (s : ByteArray) (hs : s.size ≤ maxLen) (ok : Bool) :
    (Instr.lookup 75 (.map (some b)) (.string s) ok).run Try.prog w = .ok (if ok then .tuple #[atV L s.toList, .bool (shAt L s.toList).isSome] else atV L s.toList) w := by
  have fin : ∀ v ps, shR v = some ((shD L).atKey (.string s.toList) (hdD none 0 0), ps) → v = atV L s.toList := fun v ps hv => by
    rw [at_shD] at hv
    unfold atV
    cases hc : shAt L s.toList with
    | some d =>
      rw [hc] at hv
      exact sh_val hv
    | none =>
      rw [hc] at hv
      exact sh_val (e := ⟨s, none, 0, ByteArray.empty⟩) hv
  cases ok with
  | true =>
    obtain ⟨v, ps, hrun, hv⟩ := h.own.look_ok shLaw Try.underlying75 (zero_sh w) (shR_mk none 0 0) (key_sh hs)
    rw [hrun, has_shD, fin v ps hv]
    rfl
  | false =>
    obtain ⟨v, ps, hrun, hv⟩ := h.own.lookup shLaw Try.underlying75 (zero_sh w) (shR_mk none 0 0) (key_sh hs)
    rw [hrun, fin v ps hv]
    rfl
theorem ShMap.len (h : ShMap base w b L) (ty : TypeId) : (Builtin.len_ #[75] ty #[.map (some b)]).run Try.prog w = .ok (.int .i64 L.length) w := by
  rw [h.own.len Try.underlying75, size_shD]
/-- One put in, behind what was done to its own row alone. -/
theorem ShMap.put {row : Option Nat} {n : Nat} (h : ShMap base w b L) (c : Sh) (hg1 : w.grownBy w1 row) (hrb : row ≠ some b) (hrow : ∀ e ∈ L, e.key ≠ c.key → ∀ g, e.hd = some g → row ≠ some g)
    (hv : SliceIs w1 c.val c.data) (hlow : ∀ g, c.hd = some g → base ≤ g) (hnew : ∀ e ∈ L, e.key ≠ c.key → ∀ g, e.hd = some g → c.hd ≠ some g)
    (hown : w2.ownsMap Try.prog 9 shR b n ((shD L).put (.string c.key) c.dat)) (hg2 : w1.grownBy w2 (some b)) : ShMap base w2 b (putS L c) := by
  have hrise : RiseS (putS L c) := by rw [riseS_fl, putS_fl]; exact putF_rise _ (riseS_fl.1 h.rise)
  rw [put_shD h.rise] at hown
  have hown1 := ownsMap_tightS hown
  rw [size_shD] at hown1
  have hnb : ∀ (v : Value) (s : ByteArray), SliceIs w1 v s → SliceIs w2 v s := fun v s hs => hs.grown hg2 (fun g hg e => by
    simp only [Option.some.injEq] at e
    subst e
    rcases hs with ⟨rfl, _⟩ | ⟨g', cap, rfl, hb⟩
    · cases hg
    · simp only [Value.ownBlock, Option.some.injEq] at hg
      subst hg
      exact map_not_row (h.own.kept hg1 (fun e => hrb e.symm)) hb rfl)
  refine ⟨hown1, hrise, h.ge, fun e he => ?_, fun e he g hg => ?_, fun e he f hf g h1 h2 => ?_⟩
  · rcases putS_mem he with rfl | ⟨he, hne⟩
    · exact hnb _ _ hv
    · exact hnb _ _ ((h.rows e he).grown hg1 (fun g hg2 => hrow e he hne g (by rwa [val_own] at hg2)))
  · rcases putS_mem he with rfl | ⟨he, hne⟩
    · exact hlow g hg
    · exact h.low e he g hg
  · rcases putS_mem he with e1 | ⟨he2, hne⟩
    · rcases putS_mem hf with e2 | ⟨hf2, hnf⟩
      · rw [e1, e2]
      · exact absurd (e1 ▸ h1) (hnew f hf2 hnf g h2)
    · rcases putS_mem hf with e2 | ⟨hf2, hnf⟩
      · exact absurd (e2 ▸ h2) (hnew e he2 hne g h1)
      · exact h.apart e he2 f hf2 g h1 h2
/-- One cut out. -/
theorem ShMap.cut {n : Nat} {k : List UInt8} (h : ShMap base w b L) (hown : w1.ownsMap Try.prog 9 shR b n ((shD L).del (.string k))) (hg : w.grownBy w1 (some b)) : ShMap base w1 b (cutS L k) := by
  rw [del_shD] at hown
  have hown1 := ownsMap_tightS hown
  rw [size_shD] at hown1
  refine ⟨hown1, List.Pairwise.filter _ h.rise, h.ge, fun e he => ?_, fun e he => h.low e (cutS_mem he).1, fun e he f hf => h.apart e (cutS_mem he).1 f (cutS_mem hf).1⟩
  have hs := h.rows e (cutS_mem he).1
  refine hs.grown hg (fun g hg e2 => ?_)
  simp only [Option.some.injEq] at e2
  subst e2
  rw [val_own] at hg
  rcases hs with ⟨e3, _⟩ | ⟨g', cap, e3, hb⟩
  · have := congrArg Value.ownBlock e3
    rw [val_own, hg] at this
    cases this
  · have := congrArg Value.ownBlock e3
    rw [val_own, hg] at this
    simp only [Value.ownBlock, Option.some.injEq] at this
    rw [← this] at hb
    exact map_not_row h.own hb rfl
end
end Go.Proofs.Ytgmjdalfbebgbaa
