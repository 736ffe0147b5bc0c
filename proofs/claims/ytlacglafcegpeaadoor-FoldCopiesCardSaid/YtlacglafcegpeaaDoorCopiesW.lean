/-
  Layer 14: what is moved on and on: whatever the numbers.
-/
import Derived.Test.YtlacglafcegpeaaDoorCopies0
import Derived.Test.YtlacglafcegpeaaDoorCopies1
import Derived.Test.YtlacglafcegpeaaDoorCopies2
namespace Go.Proofs.YtlacglafcegpeaaDoor
open Go.Xq Go.RowKit
theorem copies_walk (a0 a1 : Int) (a2 : Bool) (w0 : (Lit.int .i64 a0).wf = true) (w1 : (Lit.int .i64 a1).wf = true) (W : World) (hL : laidMetH Tryd.prog Rows.foldCopiesRow.laid W) :
    Calls Tryd.prog 6 #[.int .i64 a0, .int .i64 a1, .bool a2] W fun e W' => e = .returned (.bool true) ∧ Below W.heap.size W W' := by
  have hr := bnd64 w0
  have hs := bnd64 w1
  obtain ⟨h0, h1⟩ := pickN_lt a0 (n := 3) (by decide)
  obtain ⟨k0, k1⟩ := pickN_lt a1 (n := 6) (by decide)
  generalize hi : pickN a0 3 = p at h0 h1
  generalize hk : pickN a1 6 = q at k0 k1
  have hrun : copyRun p q a2 W.heap.size (fun k => W.heap[k]?) = true := by
    have hp : p = 0 ∨ p = 1 ∨ p = 2 := by omega
    clear hi
    rcases hp with rfl | rfl | rfl
    · exact copies_0 k0 k1 a2 _ _
    · exact copies_1 k0 k1 a2 _ _
    · exact copies_2 k0 k1 a2 _ _
  exact true_at (cxC_ok p q hL) 3000 (vs := []) rfl (Nat.le_refl _) hrun (I := fun j => match j with | 0 => a0 | _ => a1) ⟨(fun _ h => nomatch h), hr, hs, hi, hk⟩ rfl W
    (fun g cs h => nomatch h) (Nat.le_refl _) (fun _ _ => rfl)
end Go.Proofs.YtlacglafcegpeaaDoor
