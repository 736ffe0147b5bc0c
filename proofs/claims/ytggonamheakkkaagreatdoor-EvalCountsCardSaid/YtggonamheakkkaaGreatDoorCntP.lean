/-
  Layer 06: a loop that counts down tells what it counted: the loop's call.
-/
import Derived.Test.YtggonamheakkkaaGreatDoorCnt
namespace Go.Proofs.YtggonamheakkkaaGreatDoor.EvalCounts
open Go.Xq Go.RowKit Go.Proofs.YtggonamheakkkaaGreatDoor
set_option maxRecDepth 1000000
noncomputable def knP (I : Nat → Int) : Prop := (0 ≤ I 2 ∧ I 2 < 101) ∧ I 50 = 6 + 11 * I 2
noncomputable def cxB (b : Nat) (h0 : Nat → Option Obj) : Cx := cxOf Tryz.prog.funcs Tryz.prog.types exts 300 300 [] [] knP soks b h0 (dfs := dfs)
noncomputable def cx0 (b : Nat) (h0 : Nat → Option Obj) : Cx := cxOf Tryz.prog.funcs Tryz.prog.types exts 300 300 [] [] (fun _ => True) soks b h0 (dfs := dfs)
noncomputable def cxG (b : Nat) (h0 : Nat → Option Obj) : Cx := cxOf Tryz.prog.funcs Tryz.prog.types exts 300 300 gfacts [] (fun _ => True) soks b h0 (dfs := dfs)
noncomputable def cxE (b : Nat) (h0 : Nat → Option Obj) : Cx := cxOf Tryz.prog.funcs Tryz.prog.types exts 300 300 efacts [] (fun _ => True) soks b h0 (dfs := dfs)
theorem cxB_ok (b : Nat) (h0 : Nat → Option Obj) : (cxB b h0).Ok Tryz.prog := cxOf_ok (hooks := []) cx_names cx_mixed exts_ok (fun _ h => nomatch h) soks_ok
theorem cxG_ok (b : Nat) (h0 : Nat → Option Obj) : (cxG b h0).Ok Tryz.prog := cxOf_ok (hooks := []) cx_names cx_mixed exts_ok (fun _ h => nomatch h) soks_ok
theorem cxE_ok (b : Nat) (h0 : Nat → Option Obj) : (cxE b h0).Ok Tryz.prog := cxOf_ok (hooks := []) cx_names cx_mixed exts_ok (fun _ h => nomatch h) soks_ok
theorem runP (b : Nat) (h0 : Nat → Option Obj) : loopRunN (cxB b h0) (cxG b h0) (cxE b h0) lp ini fin [true, false, false] 0 part = true := by kernel_rfl
theorem part_is (b : Nat) (h0 : Nat → Option Obj) {C' : Cx} (he : C'.g0 = 300 ∧ C'.G = 300 ∧ C'.base = b ∧ C'.heap0 = h0) (hk : ∀ I Q, C'.K I Q → knP I) : PartOk Tryz.prog C' part := by
  refine loop_part (C0 := cx0 b h0) (cxB_ok b h0) (cxG_ok b h0) (cxE_ok b h0) (fun _ _ => ⟨facts_nil, trivial, trivial⟩) ⟨rfl, rfl, rfl, rfl⟩ ⟨rfl, rfl, rfl, rfl⟩ ⟨rfl, rfl, rfl, rfl⟩ (runP b h0) (Φ := Inv) ?_ ?_ ?_ ?_ he ?_
  · exact fun I O m h => ⟨go_facts h, trivial, trivial⟩
  · exact fun I O m h => inv_next h
  · exact fun I O h => ⟨⟨end_facts h, trivial, trivial⟩, inv_end h⟩
  · exact fun I O _ h => ⟨_, inv_ini h.2⟩
  · exact fun I Q _ h => ⟨facts_nil, trivial, hk I Q h⟩
end Go.Proofs.YtggonamheakkkaaGreatDoor.EvalCounts
