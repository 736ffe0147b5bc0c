/-
  Layer 11: the fixed calls.
-/
import Derived.Test.YtknpoojkjmgihaaXr
import Derived.Test.YtknpoojkjmgihaaChecked
import Derived.KernelRfl
namespace Go.Proofs.Ytknpoojkjmgihaa
open Go.Xq
set_option maxRecDepth 1000000
theorem cx_names : nameOk Try.prog.funcs.toList = true := by kernel_rfl
theorem cx_mixed : Try.prog.follows .mixedOrders = true := by kernel_rfl
noncomputable def cx0 : Cx := cxOf Try.prog.funcs Try.prog.types [] 0 0 [] [] (fun _ => True)
theorem cx0_ok : cx0.Ok Try.prog := cxOf_ok (exts := []) (hooks := []) cx_names cx_mixed (fun _ h => nomatch h) (fun _ h => nomatch h)
theorem awake_run : isTrueX (callX cx0 (codeX cx0 3000) 8 [] .nil 0) = true := by kernel_rfl
theorem awake_ok (w : World) : Calls Try.prog 8 #[] w fun e w' => e = .returned (.bool true) ∧ RowKit.Below w.heap.size w w' :=
  true_ok cx0_ok rfl rfl 3000 awake_run (I := fun _ => 0) ⟨(fun _ h => nomatch h), trivial⟩ (xs := []) rfl w
#print axioms awake_ok
end Go.Proofs.Ytknpoojkjmgihaa
