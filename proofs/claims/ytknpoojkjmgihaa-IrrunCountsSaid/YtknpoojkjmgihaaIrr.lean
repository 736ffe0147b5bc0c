/-
  Layer 11: the fixed calls, run so.
-/
import Derived.Test.YtknpoojkjmgihaaXq
import Derived.Test.YtknpoojkjmgihaaXu
import Derived.Test.YtknpoojkjmgihaaChecked
import Derived.KernelRfl
namespace Go.Proofs.Ytknpoojkjmgihaa
open Go.Xq
set_option maxRecDepth 1000000
theorem cx_names : nameOk Try.prog.funcs.toList = true := by kernel_rfl
theorem cx_mixed : Try.prog.follows .mixedOrders = true := by kernel_rfl
noncomputable def cxA : Cx := cxOf Try.prog.funcs Try.prog.types [] 0 0 [] [] (fun _ => True)
theorem cxA_ok : cxA.Ok Try.prog := cxOf_ok (exts := []) (hooks := []) cx_names cx_mixed (fun _ h => nomatch h) (fun _ h => nomatch h)
theorem awake_run : runFX cxA 3000 8 [] .nil 0 = true := by kernel_rfl
theorem awake_ok (w : World) : Calls Try.prog 8 #[] w fun e w' => e = .returned (.bool true) ∧ RowKit.Below w.heap.size w w' :=
  true_ok cxA_ok rfl rfl rfl 3000 (runFX_eq awake_run) (I := fun _ => 0) ⟨(fun _ h => nomatch h), trivial, trivial⟩ (xs := []) rfl w
end Go.Proofs.Ytknpoojkjmgihaa
