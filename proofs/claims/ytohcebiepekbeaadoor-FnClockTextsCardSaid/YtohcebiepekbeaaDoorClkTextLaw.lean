/- For every clock the program's ClockText answers as the reference. -/
import Derived.Test.YtohcebiepekbeaaDoorDecI
import Derived.Test.YtohcebiepekbeaaDoorFrameL
import Derived.Test.YtohcebiepekbeaaDoorTie
import Derived.Test.YtohcebiepekbeaaDoorCards
import Derived.LaidSub
import Derived.MakeChecks
namespace Go.Proofs.YtohcebiepekbeaaDoor
open Go.ChangeShapes Go.WideShapes Go.ChangeAt Go.RowKit
set_option linter.unusedVariables false
set_option linter.unusedSimpArgs false

theorem pow_of {W : World} {l : List (String × DataW Unit)} (h : laidMetH Tryd.prog l W) (hm : l.filter (fun x => x.1 == "internal/strconv.uint64pow10") = [("internal/strconv.uint64pow10", Lib.tabData .u64 Lib.pow10Tab)]) : Pow W := by
  have h1 := h.filter (fun x => x.1 == "internal/strconv.uint64pow10")
  rw [hm] at h1
  rw [Go.MakeChecks.laidMetH_plain _ _ _ (by rfl)] at h1
  exact Lib.tabIs_of_head (g := 0) (t := 97) (e := 83) (n := 20) (by kernel_rfl) (by kernel_rfl) (by kernel_rfl) (by kernel_rfl) (by kernel_rfl) (by kernel_rfl) h1
end Go.Proofs.YtohcebiepekbeaaDoor
