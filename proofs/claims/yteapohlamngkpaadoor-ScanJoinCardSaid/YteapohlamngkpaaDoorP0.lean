/-
  The program as a context.
-/
import Derived.Test.YteapohlamngkpaaDoorPr
import Derived.Test.YteapohlamngkpaaDoorChecked
import Derived.KernelRfl
namespace Go.Proofs.YteapohlamngkpaaDoor
open Go.Pv
set_option maxRecDepth 1000000
set_option linter.unusedVariables false
theorem cx_names : nameOk Tryd.prog.funcs.toList = true := by kernel_rfl
theorem cx_mixed : Tryd.prog.follows .mixedOrders = true := by kernel_rfl
noncomputable def cx : Cx := cxOf Tryd.prog [34, 60] (fun _ => none)
theorem cx_ok : cx.Ok := cxOf_ok cx_names cx_mixed (by kernel_rfl)
end Go.Proofs.YteapohlamngkpaaDoor
