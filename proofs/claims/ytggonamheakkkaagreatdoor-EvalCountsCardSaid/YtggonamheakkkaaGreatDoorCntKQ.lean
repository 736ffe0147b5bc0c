/-
  Layer 06: a loop that counts down tells what it counted: what the parts say.
-/
import Derived.Test.YtggonamheakkkaaGreatDoorCntKR0
import Derived.Test.YtggonamheakkkaaGreatDoorCntKR1
import Derived.Test.YtggonamheakkkaaGreatDoorCntKR2
import Derived.Test.YtggonamheakkkaaGreatDoorCntKR3
import Derived.Test.YtggonamheakkkaaGreatDoorCntKR4
namespace Go.Proofs.YtggonamheakkkaaGreatDoor.CntK
open Go.Xq Go.RowKit Go.Proofs.YtggonamheakkkaaGreatDoor
theorem cx0_ok (b : Nat) (h0 : Nat → Option Obj) : (cx0 b h0).Ok Tryz.prog := by
  refine cxOf_ok (hooks := []) cx_names cx_mixed exts_ok (fun _ h => nomatch h) soks_ok (hparts := fun p hp => ?_)
  cases hp
theorem cx1_ok (b : Nat) (h0 : Nat → Option Obj) : (cx1 b h0).Ok Tryz.prog := by
  refine cxOf_ok (hooks := []) cx_names cx_mixed exts_ok (fun _ h => nomatch h) soks_ok (hparts := fun p hp => ?_)
  simp only [List.mem_cons, List.not_mem_nil, or_false] at hp
  subst hp
  exact partF_ok (cx0_ok b h0) 3000 (run0 b h0) ⟨rfl, rfl, rfl, rfl⟩ (fun I Q _ _ => ⟨(fun _ h => nomatch h), trivial, trivial⟩)
theorem cx2_ok (b : Nat) (h0 : Nat → Option Obj) : (cx2 b h0).Ok Tryz.prog := by
  refine cxOf_ok (hooks := []) cx_names cx_mixed exts_ok (fun _ h => nomatch h) soks_ok (hparts := fun p hp => ?_)
  simp only [List.mem_cons, List.not_mem_nil, or_false] at hp
  rcases hp with rfl | rfl
  · exact partF_ok (cx0_ok b h0) 3000 (run0 b h0) ⟨rfl, rfl, rfl, rfl⟩ (fun I Q _ _ => ⟨(fun _ h => nomatch h), trivial, trivial⟩)
  · exact partF_ok (cx1_ok b h0) 3000 (run1 b h0) ⟨rfl, rfl, rfl, rfl⟩ (fun I Q _ _ => ⟨(fun _ h => nomatch h), trivial, trivial⟩)
theorem cx3_ok (b : Nat) (h0 : Nat → Option Obj) : (cx3 b h0).Ok Tryz.prog := by
  refine cxOf_ok (hooks := []) cx_names cx_mixed exts_ok (fun _ h => nomatch h) soks_ok (hparts := fun p hp => ?_)
  simp only [List.mem_cons, List.not_mem_nil, or_false] at hp
  rcases hp with rfl | rfl | rfl
  · exact partF_ok (cx0_ok b h0) 3000 (run0 b h0) ⟨rfl, rfl, rfl, rfl⟩ (fun I Q _ _ => ⟨(fun _ h => nomatch h), trivial, trivial⟩)
  · exact partF_ok (cx1_ok b h0) 3000 (run1 b h0) ⟨rfl, rfl, rfl, rfl⟩ (fun I Q _ _ => ⟨(fun _ h => nomatch h), trivial, trivial⟩)
  · exact partF_ok (cx2_ok b h0) 3000 (run2 b h0) ⟨rfl, rfl, rfl, rfl⟩ (fun I Q _ _ => ⟨(fun _ h => nomatch h), trivial, trivial⟩)
theorem cx4_ok (b : Nat) (h0 : Nat → Option Obj) : (cx4 b h0).Ok Tryz.prog := by
  refine cxOf_ok (hooks := []) cx_names cx_mixed exts_ok (fun _ h => nomatch h) soks_ok (hparts := fun p hp => ?_)
  simp only [List.mem_cons, List.not_mem_nil, or_false] at hp
  rcases hp with rfl | rfl | rfl | rfl
  · exact partF_ok (cx0_ok b h0) 3000 (run0 b h0) ⟨rfl, rfl, rfl, rfl⟩ (fun I Q _ _ => ⟨(fun _ h => nomatch h), trivial, trivial⟩)
  · exact partF_ok (cx1_ok b h0) 3000 (run1 b h0) ⟨rfl, rfl, rfl, rfl⟩ (fun I Q _ _ => ⟨(fun _ h => nomatch h), trivial, trivial⟩)
  · exact partF_ok (cx2_ok b h0) 3000 (run2 b h0) ⟨rfl, rfl, rfl, rfl⟩ (fun I Q _ _ => ⟨(fun _ h => nomatch h), trivial, trivial⟩)
  · exact partF_ok (cx3_ok b h0) 3000 (run3 b h0) ⟨rfl, rfl, rfl, rfl⟩ (fun I Q _ _ => ⟨(fun _ h => nomatch h), trivial, trivial⟩)
theorem cx5_ok (b : Nat) (h0 : Nat → Option Obj) : (cx5 b h0).Ok Tryz.prog := by
  refine cxOf_ok (hooks := []) cx_names cx_mixed exts_ok (fun _ h => nomatch h) soks_ok (hparts := fun p hp => ?_)
  simp only [List.mem_cons, List.not_mem_nil, or_false] at hp
  rcases hp with rfl | rfl | rfl | rfl | rfl
  · exact partF_ok (cx0_ok b h0) 3000 (run0 b h0) ⟨rfl, rfl, rfl, rfl⟩ (fun I Q _ _ => ⟨(fun _ h => nomatch h), trivial, trivial⟩)
  · exact partF_ok (cx1_ok b h0) 3000 (run1 b h0) ⟨rfl, rfl, rfl, rfl⟩ (fun I Q _ _ => ⟨(fun _ h => nomatch h), trivial, trivial⟩)
  · exact partF_ok (cx2_ok b h0) 3000 (run2 b h0) ⟨rfl, rfl, rfl, rfl⟩ (fun I Q _ _ => ⟨(fun _ h => nomatch h), trivial, trivial⟩)
  · exact partF_ok (cx3_ok b h0) 3000 (run3 b h0) ⟨rfl, rfl, rfl, rfl⟩ (fun I Q _ _ => ⟨(fun _ h => nomatch h), trivial, trivial⟩)
  · exact partF_ok (cx4_ok b h0) 3000 (run4 b h0) ⟨rfl, rfl, rfl, rfl⟩ (fun I Q _ _ => ⟨(fun _ h => nomatch h), trivial, trivial⟩)
/-- The parts, in any context over the same memory. -/
noncomputable def ps : List Part := [p0, p1, p2, p3, p4]
theorem parts_ok (b : Nat) (h0 : Nat → Option Obj) {C' : Cx} (he : C'.g0 = 300 ∧ C'.G = 300 ∧ C'.base = b ∧ C'.heap0 = h0) : ∀ p ∈ ps, PartOk Tryz.prog C' p := by
  intro p hp
  simp only [ps, List.mem_cons, List.not_mem_nil, or_false] at hp
  rcases hp with rfl | rfl | rfl | rfl | rfl
  · exact partF_ok (cx0_ok b h0) 3000 (run0 b h0) he (fun I Q _ _ => ⟨(fun _ h => nomatch h), trivial, trivial⟩)
  · exact partF_ok (cx1_ok b h0) 3000 (run1 b h0) he (fun I Q _ _ => ⟨(fun _ h => nomatch h), trivial, trivial⟩)
  · exact partF_ok (cx2_ok b h0) 3000 (run2 b h0) he (fun I Q _ _ => ⟨(fun _ h => nomatch h), trivial, trivial⟩)
  · exact partF_ok (cx3_ok b h0) 3000 (run3 b h0) he (fun I Q _ _ => ⟨(fun _ h => nomatch h), trivial, trivial⟩)
  · exact partF_ok (cx4_ok b h0) 3000 (run4 b h0) he (fun I Q _ _ => ⟨(fun _ h => nomatch h), trivial, trivial⟩)
end Go.Proofs.YtggonamheakkkaaGreatDoor.CntK
