/- For every text the program's ReadClock answers as the reference. -/
import Derived.Stop.LaidErr
import Derived.Lay
import Derived.Test.YtbkkgkmllplbaaaGreatDoorRdClkI
import Derived.Test.YtbkkgkmllplbaaaGreatDoorFrameS
import Derived.Test.YtbkkgkmllplbaaaGreatDoorClkTextLaw
namespace Go.Proofs.YtbkkgkmllplbaaaGreatDoor
open Go.ChangeShapes Go.WideShapes Go.ChangeAt Go.RowKit
set_option linter.unusedVariables false
set_option linter.unusedSimpArgs false

set_option maxRecDepth 100000 in
theorem errRowsD : ((List.range Tryz.prog.types.size).all fun u => Tryz.prog.typeName? 3 u != some ("*" ++ "errors.errorString") || u == 151) = true := by kernel_rfl
set_option maxRecDepth 100000 in
theorem errNamedD : ((List.range Tryz.prog.types.size).all fun e => Tryz.prog.typeName? 2 e != some "errors.errorString" || (match (Tryz.prog.info? e).map (·.desc) with | some (TypeDesc.named _ _) => true | _ => false)) = true := by kernel_rfl
/-- One of the library's two errors, as a statement lays it. -/
def sentE (text : List UInt8) : DataW Unit := .iface "*errors.errorString" (.ptr (.agg [.lit (.string text)]))
set_option maxRecDepth 100000 in
theorem sentVar_of {W : World} {l : List (String × DataW Unit)} (h : laidMetH Tryz.prog l W) {n : String} {text : List UInt8} {g : Nat} (hm : l.filter (fun x => x.1 == n) = [(n, sentE text)])
    (hn : Tryz.prog.globalNamed n = some g) (ht : (Tryz.prog.globals[g]?).map (·.type) = some 45) : ∃ t p, W.var? Tryz.prog n = some #[.iface t p] := by
  have h1 := h.filter (fun x => x.1 == n)
  rw [hm] at h1
  rw [Go.MakeChecks.laidMetH_plain _ _ _ (by rfl)] at h1
  obtain ⟨a, s, hv, _⟩ := laid_sentinel (tp := 151) (te := 153) (ts := 9) h1 hn ht Tryz.underlying45
    (fun u hu => typeName_ptr_named errRowsD errNamedD (by decide) u hu) Tryz.underlying151 Tryz.underlying153 rfl rfl Tryz.underlying9 (by kernel_rfl) (by kernel_rfl)
  exact ⟨_, _, hv⟩
theorem decW_of {W : World} {l : List (String × DataW Unit)} (h : laidMetH Tryz.prog l W) (hsh : W.ShapedOpen Tryz.prog) (hm : l.filter (fun x => x.1 == "internal/strconv.uint64pow10") = [("internal/strconv.uint64pow10", Lib.tabData .u64 Lib.pow10Tab)])
    (h1 : l.filter (fun x => x.1 == "strconv.ErrSyntax") = [("strconv.ErrSyntax", sentE [105, 110, 118, 97, 108, 105, 100, 32, 115, 121, 110, 116, 97, 120])])
    (h2 : l.filter (fun x => x.1 == "strconv.ErrRange") = [("strconv.ErrRange", sentE [118, 97, 108, 117, 101, 32, 111, 117, 116, 32, 111, 102, 32, 114, 97, 110, 103, 101])]) : DecW W :=
  ⟨pow_of h hm, Tryz.laysM146.s1_3 W hsh, sentVar_of (g := 8) h h1 (by kernel_rfl) (by kernel_rfl), sentVar_of (g := 9) h h2 (by kernel_rfl) (by kernel_rfl)⟩
end Go.Proofs.YtbkkgkmllplbaaaGreatDoor
