/- For every clock the program's ClockText answers as the reference. -/
import Derived.Test.YtbkkgkmllplbaaaGreatDoorDecI
import Derived.Test.YtbkkgkmllplbaaaGreatDoorFrameL
import Derived.Test.YtbkkgkmllplbaaaGreatDoorTie
import Derived.Test.YtbkkgkmllplbaaaGreatDoorCards
import Derived.LaidSub
import Derived.MakeChecks
namespace Go.Proofs.YtbkkgkmllplbaaaGreatDoor
open Go.ChangeShapes Go.WideShapes Go.ChangeAt Go.RowKit
set_option linter.unusedVariables false
set_option linter.unusedSimpArgs false

theorem pow_of {W : World} {l : List (String × DataW Unit)} (h : laidMetH Tryz.prog l W) (hm : l.filter (fun x => x.1 == "internal/strconv.uint64pow10") = [("internal/strconv.uint64pow10", Lib.tabData .u64 Lib.pow10Tab)]) : Pow W := by
  have h1 := h.filter (fun x => x.1 == "internal/strconv.uint64pow10")
  rw [hm] at h1
  rw [Go.MakeChecks.laidMetH_plain _ _ _ (by rfl)] at h1
  exact Lib.tabIs_of_head (g := 4) (t := 126) (e := 96) (n := 20) (by kernel_rfl) (by kernel_rfl) (by kernel_rfl) (by kernel_rfl) (by kernel_rfl) (by kernel_rfl) h1
end Go.Proofs.YtbkkgkmllplbaaaGreatDoor
