/- A clock's text: the program's way, by the library's contracts. -/
import Derived.Shelf.Lay
import Derived.Shelf.LaysM
import Derived.Shelf.Strconv.Itoa4
import Derived.Shelf.Strings.OnBuilder
import Derived.WalkSmall
import Derived.Test.YtohcebiepekbeaaGreatDoorClkText
import Derived.Test.YtohcebiepekbeaaGreatDoorTab
import Derived.Laws.AppendOwn
import Derived.Laws.OwnMore
namespace Go.Proofs
open Go.Shelf
shelf_lay LaysM.n173 Nm 173 at Tryz as Tryz.laysM173
shelf_lay Lays.n156 Nm 156 at Tryz as Tryz.lays156
theorem Tryz.Builder_Extra_156 : Builder.Extra Tryz.prog Tryz.lays156_ren where
  sizeBuilder := by kernel_rfl
  liesBuilder := by kernel_rfl
  t5 := Tryz.underlying5
  a5 := Tryz.isAgg5
  z5 := Tryz.sizeOf5
  v5 := Tryz.zeroValue5
  infoByte := by kernel_rfl
  cellsByte := by kernel_rfl
  sizeByte := by kernel_rfl
  neB5 := by decide
end Go.Proofs
namespace Go.Proofs.YtohcebiepekbeaaGreatDoor
open Go.ChangeShapes Go.WideShapes Go.ChangeAt Go.RowKit Go.Sort
set_option linter.unusedVariables false
set_option linter.unusedSimpArgs false

/-- The library's table of powers lies. -/
def Pow (w : World) : Prop := Lib.TabIs Tryz.prog w "internal/strconv.uint64pow10" .u64 Lib.pow10Tab
theorem Pow.next {w w' : World} (h : Pow w) (hb : Below w.heap.size w w') : Pow w' := by
  have hg : Tryz.prog.globalNamed "internal/strconv.uint64pow10" = some 4 := by kernel_rfl
  have hc := Lib.TabIs.cell h hg 0 (by decide)
  refine var?_below hb hg ?_ h
  by_cases hlt : 4 < w.heap.size
  · exact hlt
  · exfalso
    simp [World.cell?, Array.getElem?_eq_none (Nat.le_of_not_lt hlt)] at hc
theorem formatInt_c (n : Int) (h0 : -9223372036854775808 ≤ n) (h1 : n ≤ 9223372036854775807) (w : World) (hp : Pow w) :
    Calls Tryz.prog 62 #[.int .i64 n, .int .i64 10] w fun e w' => e = .returned (.string (decB n)) ∧ Below w.heap.size w w' :=
  (Any.strconv_FormatInt_10 Tryz.laysM173 n h0 h1 w hp).mono fun e w' ⟨he, k, os, hw⟩ => ⟨he, by rw [hw]; exact below_regrown w (w.drawn + k) os⟩
theorem join_c (bk o c : Nat) (xs : List ByteArray) (sep : ByteArray) (w : World) (hcells : ∀ (j : Nat) x, xs[j]? = some x → w.cell? ⟨bk, o + j, none⟩ = some (.string x)) (hbk : bk < w.heap.size) (hN : xs.length ≤ 140737488355328) (hcap : xs.length ≤ c) (hlen : (Lib.join (xs.map (·.data.toList)) sep.data.toList).length ≤ 140737488355328) :
    Calls Tryz.prog 63 #[.slice (some ⟨bk, o, none⟩) xs.length c, .string sep] w fun e w' => e = .returned (.string ⟨(Lib.join (xs.map (·.data.toList)) sep.data.toList).toArray⟩) ∧ Below w.heap.size w w' := Any.strings_Join Tryz.lays156 Tryz.Builder_Extra_156 bk o c xs sep w hcells hbk hN hcap hlen
theorem lens_small : ∀ (l : List Int), (∀ x ∈ l, -9223372036854775807 ≤ x ∧ x ≤ 9223372036854775807) → Lib.lens ((l.map decB).map (·.data.toList)) ≤ 21 * l.length
  | [], _ => by simp [Lib.lens]
  | x :: l, h => by
    have ih := lens_small l (fun y hy => h y (List.mem_cons_of_mem _ hy))
    have hx := h x (List.mem_cons_self ..)
    have h1 := decB_le x hx.1 hx.2
    have h2 : (decB x).data.toList.length = (decB x).size := by simp
    simp only [Lib.lens, List.map_cons, List.sum_cons, List.length_cons] at ih ⊢
    omega
theorem join_small (l : List Int) (hl : l.length ≤ 10) (h : ∀ x ∈ l, -9223372036854775807 ≤ x ∧ x ≤ 9223372036854775807) : (Lib.join ((l.map decB).map (·.data.toList)) (⟨#[32]⟩ : ByteArray).data.toList).length ≤ 140737488355328 := by
  have h1 := lens_small l h
  cases l with
  | nil => simp [Lib.join, List.intercalate]
  | cons x r =>
    rw [List.map_cons, List.map_cons] at h1 ⊢
    rw [Lib.join_length, List.length_map, List.length_map]
    have hs : (⟨#[32]⟩ : ByteArray).data.toList.length = 1 := rfl
    rw [hs]
    rw [List.length_cons] at h1 hl
    omega
theorem cell_one_newD (w : World) (v : Value) (t : TypeId) : ∀ j u, [v][j]? = some u → (w.alloc (.cells #[v] t)).cell? ((⟨w.heap.size, 0, none⟩ : Addr).add j) = some u := by
  intro j z hz
  match j, hz with
  | 0, hz => simp at hz; subst hz; simp [Addr.add]
theorem infoStrD : (Tryz.prog.info? 9).map (fun i => (i.zero, i.size, i.bytes)) = some (some (.string ByteArray.empty), 1, 16) := by kernel_rfl
set_option maxRecDepth 100000 in
set_option maxHeartbeats 2000000 in
theorem decimalText_c (xs : List Int) (m : Nat) (hm : Hid (m = xs.length)) (hm5 : 1 ≤ m ∧ m ≤ 10) (hx : ∀ x ∈ xs, -9223372036854775807 ≤ x ∧ x ≤ 9223372036854775807) (g : Nat) (T : TypeId) (w : World) (hp : Pow w) (hg : w.heap[g]? = some (.cells (xs.map (Value.int .i64)).toArray T)) :
    Calls Tryz.prog 29 #[.slice (some ⟨g, 0, none⟩) m m] w fun e w' => e = .returned (.string ⟨(Lib.join (xs.map (fun x => (decB x).data.toList)) [32]).toArray⟩) ∧ Below w.heap.size w w' := by
  obtain ⟨m1, m10⟩ := hm5
  go_enter Tryz.func29, Tryz.ntmps29
  have HX := Lib.hid hx
  obtain ⟨i0, hi, hz0, hz1, hz2⟩ := info_partsT infoStrD
  have HI0 := Lib.hid hi
  have HZ0 := Lib.hid hz0
  have HZ1 := Lib.hid hz1
  have HZ2 := Lib.hid hz2
  clear hi hz0 hz1 hz2 hx
  have hgl := (Array.getElem?_eq_some_iff.1 hg).1
  have hrow0 := World.ownsRow_nil w w.heap.size 9 1
  go_wp2_with fail
  go_loopw [3, 5, 8] (fun o n i wr => ∃ k : Nat, k ≤ m ∧ i = .int .i64 k ∧ wr.ownsRow w.heap.size 9 1 o k ((xs.take k).map (fun x => Value.string (decB x))) ∧ Below w.heap.size w wr) (fun _ _ i _ => m - (intOf i).toNat)
  case atStart => exact ⟨0, Nat.zero_le _, rfl, hrow0, Below.refl _ _⟩
  case round =>
    obtain ⟨k, hk, rfl, hrow, hb⟩ := hrel
    by_cases hlt : k < m
    · obtain ⟨v, hv⟩ : ∃ v, xs[k]? = some v := ⟨_, List.getElem?_eq_getElem (by rw [← hm.out]; exact hlt)⟩
      have hvb := HX.out v (List.mem_of_getElem? hv)
      have hcell : wr.cell? ⟨g, k, none⟩ = some (.int .i64 v) := by
        have h1 := (hb.block g hgl).trans hg
        simp [World.cell?, h1, hv]
      have HF := Lib.hid (formatInt_c v (by omega) (by omega) wr (hp.next hb))
      have hF := Lib.hid (show (xs.take (k + 1)).map (fun x => Value.string (decB x)) = (xs.take k).map (fun x => Value.string (decB x)) ++ [.string (decB v)] by
        obtain ⟨hl, rfl⟩ := List.getElem?_eq_some_iff.1 hv
        rw [List.take_succ_eq_append_getElem hl, List.map_append]; rfl)
      have hsz := hb.size
      clear hv hvb
      go_wp2_with fail
      refine HF.out.mono ?_
      rintro e w1 ⟨rfl, hb1⟩
      have hr1 := hrow.kept (row := none) ⟨hb1.os, hb1.tape, hb1.output, hb1.size, fun k hk _ => hb1.block k hk⟩ (by cases u3.ownBlock <;> simp)
      have B1 := grow_next hb hb1
      have hs1 := B1.size
      clear hcell HF hrow hb hb1 hsz
      go_wp2_with (at_builtin; refine wpList_append_own _ rfl _ _ 85 rfl w.heap.size 9 i0 (.string ByteArray.empty) 1 16 Tryz.underlying85 HI0.out HZ0.out HZ1.out HZ2.out rfl (by decide) _ _ _ rfl (hr1.alloc _) ⟨w1.heap.size, 0, none⟩ 1 1 [.string (decB v)] rfl rfl (by simpa using cell_one_newD w1 (.string (decB v)) 9) (by simp [Value.oneCell']) (by unfold maxLen; omega) (by omega) (by simp; omega) ?_; intro v' w4 hown' hgrow _)
      have hgrow' : (w1.alloc (.cells #[.string (decB v)] 9)).grownBy w4 u3.ownBlock := hgrow
      clear hgrow
      go_roundw
      case rel => exact ⟨k + 1, by omega, by go_num, by rw [hF.out]; exact hown', (B1.alloc hs1 (.cells #[.string (decB v)] 9)).grown hgrow' (by simp; omega) (fun g hg => (hr1.lt g hg).1)⟩
      case measure => simp [intOf]; omega
    · have hkm : k = m := by omega
      subst hkm
      have e : xs.take k = xs := by rw [hm.out, List.take_length]
      rw [e] at hrow
      have hrow' := hrow
      rcases hrow'.2 with ⟨_, h0⟩ | ⟨g', c', cur, rfl, hbg, hg', hnc, hcm, hcs, htake⟩
      · omega
      · have hl : (xs.map decB).length = k := by rw [List.length_map]; exact hm.out.symm
        have hj := join_c g' 0 c' (xs.map decB) ⟨#[32]⟩ wr (fun j x hx => by
            have hjl : j < k := by rw [← hl]; exact (List.getElem?_eq_some_iff.1 hx).1
            have h1 := hrow.cellAt j (by omega)
            rw [List.getElem?_map] at h1 hx
            rw [Nat.zero_add, h1]
            cases hv : xs[j]? with
            | none => rw [hv] at hx; cases hx
            | some v => rw [hv] at hx; simp at hx ⊢; exact hx) (Array.getElem?_eq_some_iff.1 hg').1 (by omega) (by omega) (join_small xs (by rw [← hm.out]; omega) HX.out)
        rw [hl, List.map_map] at hj
        have HJ := Lib.hid hj
        clear hj hrow hrow' hg' hcs htake e hl
        go_wp2_with fail
        refine HJ.out.mono ?_
        rintro e w2 ⟨rfl, hb2⟩
        go_wp2_with fail
        go_returns
        exact ⟨rfl, grow_next hb hb2⟩
theorem words_join (c : Ck) : (⟨(Lib.join ([c.st, c.off, c.fr, c.poll, c.calm].map (fun x => (decB x).data.toList)) [32]).toArray⟩ : ByteArray) = c.words := by
  apply ByteArray.ext
  apply Array.toList_inj.1
  simp [Lib.join, List.intercalate, Ck.words]
theorem cells_five (w : World) (T : TypeId) (a b c d e : Int) : (w.alloc (.cells #[.int .i64 a, .int .i64 b, .int .i64 c, .int .i64 d, .int .i64 e] T)).heap[w.heap.size]? = some (.cells ([a, b, c, d, e].map (Value.int .i64)).toArray T) := blk_new w _
end Go.Proofs.YtohcebiepekbeaaGreatDoor
