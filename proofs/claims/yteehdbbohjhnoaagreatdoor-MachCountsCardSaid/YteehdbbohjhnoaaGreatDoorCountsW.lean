/-
  Layer 09: a loop that counts down tells what it counted.
-/
import Derived.Test.YteehdbbohjhnoaaGreatDoorCountsP
namespace Go.Proofs.YteehdbbohjhnoaaGreatDoor.MachCounts
open Go.Xq Go.RowKit Go.Proofs.YteehdbbohjhnoaaGreatDoor
set_option maxRecDepth 1000000
noncomputable def kn (I : Nat → Int) : Prop := (-9223372036854775808 ≤ I 0 ∧ I 0 ≤ 9223372036854775807) ∧ I 1 = pickN (I 0) 201
noncomputable def hks : List Hook :=
  [⟨11, [], .bool true⟩,
   ⟨13, [.int .i64 (.var 0), .int .i64 (.lit 201)], .int .i64 (.var 1)⟩]
noncomputable def cx (b : Nat) (h0 : Nat → Option Obj) : Cx := cxOf Tryz.prog.funcs Tryz.prog.types exts 300 300 [] hks kn soks b h0 (parts := [part])
theorem cx_ok {W : World} (h : laidMetH Tryz.prog Rows.machCountsRow.laid W) : (cx W.heap.size fun k => W.heap[k]?).Ok Tryz.prog := by
  refine cxOf_ok cx_names cx_mixed exts_ok ?_ soks_ok (hparts := fun p hp => ?_)
  · intro hk hm E xs hK ha
    obtain ⟨-, r0, e0⟩ := hK
    simp only [hks, List.mem_cons, List.not_mem_nil, or_false] at hm
    rcases hm with rfl | rfl
    · have hx : xs = [] := by simpa [denL, eq_comm] using ha
      subst hx
      exact ⟨.bool true, rfl, fun w hb hs => awake_at h w hb hs⟩
    · have hx : xs = [.int .i64 (E.ints 0), .int .i64 201] := by simpa [denL, SV.den, SI.den, eq_comm] using ha
      subst hx
      refine ⟨.int .i64 (E.ints 1), rfl, fun w _ _ => Calls.stay ?_⟩
      have := pick_any (E.ints 0) 201 r0 (by decide) w
      rw [← e0] at this
      exact this
  · simp only [List.mem_cons, List.not_mem_nil, or_false] at hp
    subst hp
    refine part_is W.heap.size (fun k => W.heap[k]?) ⟨rfl, rfl, rfl, rfl⟩ (fun I Q h => ?_)
    obtain ⟨-, r0, e0⟩ := h
    obtain ⟨k0, k1⟩ := pickN_lt (I 0) (n := 201) (by decide)
    rw [← e0] at k0 k1
    exact ⟨k0, k1⟩
theorem runL (b : Nat) (h0 : Nat → Option Obj) : runFX (cx b h0) 3000 5 [.int .i64 (.var 0)] (roH (vsA b h0)) (cx b h0).G = true := by kernel_rfl
theorem walk (a0 : Int) (w0 : (Lit.int .i64 a0).wf = true) (W : World) (hL : laidMetH Tryz.prog Rows.machCountsRow.laid W) :
    Calls Tryz.prog 5 #[.int .i64 a0] W fun e W' => e = .returned (.bool true) ∧ Below W.heap.size W W' :=
  true_at (cx_ok hL) 3000 (vs := vsA W.heap.size fun k => W.heap[k]?) (vsA_lt _ _) (Nat.le_refl _) (runFX_eq (runL _ _)) (I := fun j => match j with | 1 => pickN a0 201 | _ => a0) W (Q := fun _ => .nilIface) ⟨facts_nil, trivial, bnd64 w0, rfl⟩ rfl (laid_at hL _ _) (Nat.le_refl _) (fun _ _ => rfl)
end Go.Proofs.YteehdbbohjhnoaaGreatDoor.MachCounts
