/- For every text the program's Sha256 answers as the reference, its Hmac for every key and text. -/
import Derived.Test.YteecemjbkpkpaaaDoorMaskI
import Derived.Test.YteecemjbkpkpaaaDoorShaS
import Derived.Test.YteecemjbkpkpaaaDoorFrameL
import Derived.Lib.LaidTab
import Derived.Test.YteecemjbkpkpaaaDoorTie
import Derived.Test.YteecemjbkpkpaaaDoorCards
import Derived.LaidSub
import Derived.MakeChecks
import Derived.Stop.LaidErr
import Derived.Lay
namespace Go.Proofs.YteecemjbkpkpaaaDoor
open Go.ChangeShapes Go.WideShapes Go.ChangeAt Go.RowKit
set_option linter.unusedVariables false
set_option linter.unusedSimpArgs false

theorem var_blk {w : World} {n : String} {g : Nat} {cs : Array Value} (hg : Tryd.prog.globalNamed n = some g) (h : w.var? Tryd.prog n = some cs) : ∃ T fr, w.heap[g]? = some (.cells cs T fr) := by
  unfold World.var? at h
  rw [hg] at h
  simp only [Option.bind_some] at h
  split at h
  · rename_i c t f he
    simp only [Option.some.injEq] at h
    subst h
    exact ⟨_, _, he⟩
  · cases h
set_option maxRecDepth 100000 in
theorem shaW_of {W : World} {l : List (String × DataW Unit)} (h : laidMetH Tryd.prog l W)
    (h1 : l.filter (fun x => x.1 == "loop.example/g00656/impl.firstWords") = [("loop.example/g00656/impl.firstWords", Lib.tabData .u32 firstV.list)])
    (h2 : l.filter (fun x => x.1 == "loop.example/g00656/impl.roundWords") = [("loop.example/g00656/impl.roundWords", Lib.tabData .u32 kL)]) : ShaW W := by
  have a1 := h.filter (fun x => x.1 == "loop.example/g00656/impl.firstWords")
  rw [h1] at a1
  rw [Go.MakeChecks.laidMetH_plain _ _ _ (by rfl)] at a1
  have b1 := Lib.tabIs_of_head (g := 0) (t := 67) (e := 65) (n := 8) (by kernel_rfl) (by kernel_rfl) (by kernel_rfl) (by kernel_rfl) (by kernel_rfl) (by kernel_rfl) a1
  have a2 := h.filter (fun x => x.1 == "loop.example/g00656/impl.roundWords")
  rw [h2] at a2
  rw [Go.MakeChecks.laidMetH_plain _ _ _ (by rfl)] at a2
  have b2 := Lib.tabIs_of_head (g := 1) (t := 69) (e := 65) (n := 64) (by kernel_rfl) (by kernel_rfl) (by kernel_rfl) (by kernel_rfl) (by kernel_rfl) (by kernel_rfl) a2
  exact ⟨var_blk (by kernel_rfl) b1, var_blk (by kernel_rfl) b2⟩
end Go.Proofs.YteecemjbkpkpaaaDoor
