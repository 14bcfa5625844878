/- A map's Ids, sorted: by the library's contracts. -/
import Derived.Shelf.SlIterI.Nil
import Derived.Shelf.SortM.Plain
import Derived.Shelf.SortM.SortNone
import Derived.Ground.GgzProg
import Derived.Ground.SlgmProg
import Derived.Test.YtckonbbdeohccaaClMap
namespace Go.Proofs
open Go.RowKit Go.Maps Go.Sort Go.Shelf
shelf_lay_g SlLaysZI.n7 Ggz 7 at Try 58 as Try.keysA
shelf_lay_g SlLaysZI.n6 Ggz 6 at Try 57 as Try.sortedA
shelf_lay_g SlLaysM.n5 Slgm 5 at Try 63 as Try.sortA
theorem Try.sortsA (m : Nat) : AnyZI.SortsIn Try.prog Try.sortedA_ren Fence.wide m :=
  ⟨fun blk off cap ss W hH hblk hsz => callsIn_wide.2 (AnyM.slices_Sort_int Try.sortA blk off cap ss W hH hblk hsz),
   fun p cap W => callsIn_wide.2 (AnyM.slices_Sort_int_none Try.sortA p cap W)⟩
end Go.Proofs
namespace Go.Proofs.Ytckonbbdeohccaa
open Go.ChangeShapes Go.WideShapes Go.ChangeAt Go.RowKit Go.Maps Go.Sort
set_option linter.unusedVariables false
set_option linter.unusedSimpArgs false

theorem keys_c (mb : Option Nat) (W : World) : Calls Try.prog 58 #[.map mb] W fun e w' => e = .returned (.func (.func 64) #[] #[.pointer (some ⟨W.heap.size, 0, none⟩)]) ∧ w' = W.alloc (.cells #[.map mb] 64) :=
  callsIn_wide.1 (AnyZI.keys_in Try.keysA Fence.wide 5 trivial rfl mb W)
theorem sorted_ids {l : List Cl} (h : RisingC l) : (l.map Cl.id).mergeSort (fun x y => decide (x ≤ y)) = l.map Cl.id := by
  refine List.mergeSort_of_pairwise (List.pairwise_map.2 (h.imp fun {a b} hab => by simpa using Int.le_of_lt hab))
set_option maxHeartbeats 1000000 in
theorem sortedKeys_c (b : Nat) (l : List Cl) (w : World) (h : ClMap w b l) (h50 : l.length ≤ 1000) :
    Calls Try.prog 57 #[.func (.func 64) #[] #[.pointer (some ⟨w.heap.size, 0, none⟩)]] (w.alloc (.cells #[.map (some b)] 64)) fun e w' => ∃ v : Value, e = .returned v ∧
      w'.ownsRow w.heap.size 2 1 v l.length ((l.map Cl.id).map (Value.int .i64)) ∧ Below w.heap.size w w' := by
  refine (callsIn_wide (n := 5)).1 ?_
  have hown := h.own
  have hbl := hown.lt
  have hmax : Maps.size (clsD l) ≤ maxLen := by rw [size_clsD]; unfold maxLen; omega
  have hbytes : Maps.size (clsD l) * 8 ≤ 140737488355328 := by rw [size_clsD]; omega
  have hseq : SeqGives Fence.wide 2 Try.prog 64 #[.pointer (some ⟨w.heap.size, 0, none⟩)] encZ (fun ss => ss.Perm (intKeys (clsD l))) (Maps.size (clsD l)) (w.alloc (.cells #[.map (some b)] 64)) :=
    AnyZI.keys_gives (ρ := Try.keysA_ren) { Try.keysA with } Fence.wide _ trivial rfl (by omega) w.heap.size b l.length (clsD l) _ (by simp) (by simp) (by
      obtain ⟨es, clock, hb, Ft, hs, hD⟩ := hown
      exact ⟨es, clock, (Below.heap_alloc _ _ b hbl).trans hb, Ft, hs, hD⟩)
  have cS := AnyZI.sorted_in Try.sortedA Fence.wide 5 trivial trivial trivial trivial rfl (by omega) (Try.sortsA _) (enters_of Try.func63 (by kernel_rfl) rfl) 64 #[.pointer (some ⟨w.heap.size, 0, none⟩)] trivial (enters_of Try.func64 (by kernel_rfl) rfl) _ _ hmax hbytes _ hseq
  refine cS.mono ?_
  rintro e w' ⟨v, ss, rfl, hS, hrow, hnil, hb⟩
  have hp : ss.Perm (l.map Cl.id) := by rw [← keys_clsD]; exact hS
  have hl : ss.length = l.length := by rw [hp.length_eq, List.length_map]
  have hm : ss.mergeSort (fun x y => decide (x ≤ y)) = l.map Cl.id := (mergeSort_of_perm_i hp).trans (sorted_ids h.rise)
  refine ⟨v, rfl, ?_, ((Below.refl _ w).alloc (Nat.le_refl _) _).trans (hb.mono (by simp))⟩
  rw [hm, hl] at hrow
  exact ownsRow_base_a hrow (by simp)
end Go.Proofs.Ytckonbbdeohccaa
