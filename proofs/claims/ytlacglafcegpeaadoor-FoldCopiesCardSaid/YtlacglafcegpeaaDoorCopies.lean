/-
  Layer 14: what is moved on and on: the contexts, and the fixed calls.
-/
import Derived.Test.YtlacglafcegpeaaDoorXv
import Derived.Test.YtlacglafcegpeaaDoorXu
import Derived.Test.YtlacglafcegpeaaDoorRows
import Derived.Test.YtlacglafcegpeaaDoorChecked
import Derived.KernelRfl
import Derived.WalkKit
import Derived.Laws.Externs
import Derived.Lib.MakeNoZero
namespace Go.Proofs.YtlacglafcegpeaaDoor
open Go.Xq Go.RowKit
set_option maxRecDepth 1000000
theorem cx_names : nameOk Tryd.prog.funcs.toList = true := by kernel_rfl
theorem cx_mixed : Tryd.prog.follows .mixedOrders = true := by kernel_rfl

def exts : List (Nat × Nat) := [(66, 2), (108, 5 + 3)]
theorem ext_same : ExtOk Tryd.prog 66 2 := fun x w => by
  rw [run_callFunc_extern (fn := Tryd.f66) Tryd.func66 (by kernel_rfl) (by kernel_rfl) (by kernel_rfl) (show _ = some Extern.AbiNoEscape.same by kernel_rfl), Lib.run_noEscape]
  rfl
theorem ext_room : ExtOk Tryd.prog 108 (5 + 3) := fun n w hn => by
  obtain ⟨cs, hrun, _, _⟩ := Lib.run_makeNoZero (P := Tryd.prog) w #[3] 86 5 Tryd.underlying86 n hn
  refine ⟨cs, ?_⟩
  rw [run_callFunc_extern (fn := Tryd.f108) Tryd.func108 (by kernel_rfl) (by kernel_rfl) (by kernel_rfl) (show _ = some (Extern.BytealgMakeNoZero.makeNoZero #[3] #[86]) by kernel_rfl), hrun]
  rfl
theorem exts_ok : ∀ x ∈ exts, ExtOk Tryd.prog x.1 x.2 := by
  intro x hx
  simp only [exts, List.mem_cons, List.not_mem_nil, or_false] at hx
  rcases hx with rfl | rfl
  · exact ext_same
  · exact ext_room

/-- The structs and arrays that are compared. -/
def soks : List Nat := [32]
theorem soks_ok : (soks.all fun t => !Tryd.prog.stoodInHeld t && !Tryd.prog.eqGuardType Tryd.prog.depth t) = true := by kernel_rfl

noncomputable def cxA (b : Nat) (h0 : Nat → Option Obj) : Cx := cxOf Tryd.prog.funcs Tryd.prog.types exts 300 300 [] [] (fun _ => True) soks b h0
theorem cxA_ok (b : Nat) (h0 : Nat → Option Obj) : (cxA b h0).Ok Tryd.prog := cxOf_ok (hooks := []) cx_names cx_mixed exts_ok (fun _ h => nomatch h) soks_ok
noncomputable def vsA (b : Nat) (h0 : Nat → Option Obj) : List (Nat × List SV) := layAll Tryd.prog (cxA b h0) 8 Rows.foldCopiesRow.laid
theorem vsA_lt (b : Nat) (h0 : Nat → Option Obj) : ((vsA b h0).all fun x => Nat.blt x.1 (cxA b h0).g0) = true := by kernel_rfl
theorem awake_run (b : Nat) (h0 : Nat → Option Obj) : isTrueX (callX (cxA b h0) (codeX (cxA b h0) 3000) 7 [] (roH (vsA b h0)) (cxA b h0).G) = true := by kernel_rfl

theorem laid_at {W : World} (h : laidMetH Tryd.prog Rows.foldCopiesRow.laid W) (b : Nat) (h0 : Nat → Option Obj) : RoAt (vsA b h0) fun k => W.heap[k]? := by
  rw [MakeChecks.laidMetH_plain _ _ _ (by kernel_rfl)] at h
  obtain ⟨ps, hv, _⟩ := h
  exact roAt_of (cxA_ok b h0) (laidVars_at hv)

theorem awake_at {W : World} (h : laidMetH Tryd.prog Rows.foldCopiesRow.laid W) (w : World) (hb : W.heap.size ≤ w.heap.size) (hs : ∀ k, k < W.heap.size → w.heap[k]? = W.heap[k]?) :
    Calls Tryd.prog 7 #[] w fun e w' => e = .returned (.bool true) ∧ Below w.heap.size w w' :=
  true_at (cxA_ok W.heap.size fun k => W.heap[k]?) 3000 (vsA_lt _ _) (Nat.le_refl _) (awake_run _ _) (I := fun _ => 0) ⟨(fun _ h => nomatch h), trivial⟩ (xs := []) rfl w
    (RoAt.mono (laid_at h _ _) (b := W.heap.size) (fun k x hk => (Array.getElem?_eq_some_iff.1 hk).1) hs) hb hs

/-! ### The law -/
def kCopy (p q : Int) (I : Nat → Int) : Prop :=
  (-9223372036854775808 ≤ I 0 ∧ I 0 ≤ 9223372036854775807) ∧ (-9223372036854775808 ≤ I 1 ∧ I 1 ≤ 9223372036854775807) ∧ pickN (I 0) 3 = p ∧ pickN (I 1) 6 = q
def hCopy (p q : Int) : List Hook :=
  [⟨7, [], .bool true⟩,
   ⟨13, [.int .i64 (.var 0), .int .i64 (.lit 3)], .int .i64 (.lit p)⟩,
   ⟨13, [.int .i64 (.var 1), .int .i64 (.lit 6)], .int .i64 (.lit q)⟩]
noncomputable def cxC (p q : Int) (b : Nat) (h0 : Nat → Option Obj) : Cx := cxOf Tryd.prog.funcs Tryd.prog.types [] 300 300 [] (hCopy p q) (kCopy p q) [] b h0
theorem cxC_ok (p q : Int) {W : World} (h : laidMetH Tryd.prog Rows.foldCopiesRow.laid W) : (cxC p q W.heap.size fun k => W.heap[k]?).Ok Tryd.prog := by
  refine cxOf_ok (exts := []) cx_names cx_mixed (fun _ h => nomatch h) ?_
  intro hk hm E xs hK ha
  obtain ⟨r0, r1, hi, hj⟩ := hK
  simp only [hCopy, List.mem_cons, List.not_mem_nil, or_false] at hm
  rcases hm with rfl | rfl | rfl
  · have hx : xs = [] := by simpa [denL, eq_comm] using ha
    subst hx
    exact ⟨.bool true, rfl, fun w hb hs => awake_at h w hb hs⟩
  · have hx : xs = [.int .i64 (E.ints 0), .int .i64 3] := by simpa [denL, SV.den, SI.den, eq_comm] using ha
    subst hx
    refine ⟨.int .i64 p, rfl, fun w _ _ => Calls.stay ?_⟩
    have := pick_any (E.ints 0) 3 r0 (by decide) w
    rw [hi] at this
    exact this
  · have hx : xs = [.int .i64 (E.ints 1), .int .i64 6] := by simpa [denL, SV.den, SI.den, eq_comm] using ha
    subst hx
    refine ⟨.int .i64 q, rfl, fun w _ _ => Calls.stay ?_⟩
    have := pick_any (E.ints 1) 6 r1 (by decide) w
    rw [hj] at this
    exact this
noncomputable def copyRun (p q : Int) (s : Bool) (b : Nat) (h0 : Nat → Option Obj) : Bool :=
  isTrueX (callX (cxC p q b h0) (codeX (cxC p q b h0) 3000) 6 [.int .i64 (.var 0), .int .i64 (.var 1), .bool s] (roH []) (cxC p q b h0).G)
end Go.Proofs.YtlacglafcegpeaaDoor
