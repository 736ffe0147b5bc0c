/-
  Layer 7: instructions: the contexts, and the fixed calls.
-/
import Derived.Test.YtmkjjmebpbbhlaaDoorXw
import Derived.Test.YtmkjjmebpbbhlaaDoorXu
import Derived.Test.YtmkjjmebpbbhlaaDoorRows
import Derived.Test.YtmkjjmebpbbhlaaDoorChecked
import Derived.KernelRfl
import Derived.WalkKit
import Derived.Laws.Externs
import Derived.Lib.Bytealg
namespace Go.Proofs.YtmkjjmebpbbhlaaDoor
open Go.Xq Go.RowKit
set_option maxRecDepth 1000000
theorem cx_names : nameOk Tryd.prog.funcs.toList = true := by kernel_rfl
theorem cx_mixed : Tryd.prog.follows .mixedOrders = true := by kernel_rfl
def exts : List (Nat × Nat) := [(71, 1)]
theorem ext_index : ExtOk Tryd.prog 71 1 := fun s c w => by
  rw [run_callFunc_extern (fn := Tryd.f71) Tryd.func71 (by kernel_rfl) (by kernel_rfl) (by kernel_rfl) (show _ = some Extern.BytealgIndexByte.indexByte by kernel_rfl), Lib.run_indexByteString]
  rfl
theorem exts_ok : ∀ x ∈ exts, ExtOk Tryd.prog x.1 x.2 := by
  intro x hx
  simp only [exts, List.mem_cons, List.not_mem_nil, or_false] at hx
  subst hx
  exact ext_index
/-- The structs that are compared. -/
def soks : List Nat := [23]
theorem soks_ok : (soks.all fun t => !Tryd.prog.stoodInHeld t && !Tryd.prog.eqGuardType Tryd.prog.depth t) = true := by kernel_rfl
noncomputable def cxA (b : Nat) (h0 : Nat → Option Obj) : Cx := cxOf Tryd.prog.funcs Tryd.prog.types exts 300 300 [] [] (fun _ => True) soks b h0
theorem cxA_ok (b : Nat) (h0 : Nat → Option Obj) : (cxA b h0).Ok Tryd.prog := cxOf_ok (hooks := []) cx_names cx_mixed exts_ok (fun _ h => nomatch h) soks_ok
noncomputable def vsA (b : Nat) (h0 : Nat → Option Obj) : List (Nat × List SV) := layAll Tryd.prog (cxA b h0) 8 Rows.instrRegistersRow.laid
theorem vsA_lt (b : Nat) (h0 : Nat → Option Obj) : ((vsA b h0).all fun x => Nat.blt x.1 (cxA b h0).g0) = true := by kernel_rfl
theorem awake_run (b : Nat) (h0 : Nat → Option Obj) : isTrueX (callX (cxA b h0) (codeX (cxA b h0) 3000) 9 [] (roH (vsA b h0)) (cxA b h0).G) = true := by kernel_rfl
theorem laid_at {W : World} (h : laidMetH Tryd.prog Rows.instrRegistersRow.laid W) (b : Nat) (h0 : Nat → Option Obj) : RoAt (vsA b h0) fun k => W.heap[k]? := by
  rw [MakeChecks.laidMetH_plain _ _ _ (by kernel_rfl)] at h
  obtain ⟨ps, hv, _⟩ := h
  exact roAt_of (cxA_ok b h0) (laidVars_at hv)
theorem awake_at {W : World} (h : laidMetH Tryd.prog Rows.instrRegistersRow.laid W) (w : World) (hb : W.heap.size ≤ w.heap.size) (hs : ∀ k, k < W.heap.size → w.heap[k]? = W.heap[k]?) :
    Calls Tryd.prog 9 #[] w fun e w' => e = .returned (.bool true) ∧ Below w.heap.size w w' :=
  true_at (cxA_ok W.heap.size fun k => W.heap[k]?) 3000 (vsA_lt _ _) (Nat.le_refl _) (awake_run _ _) (I := fun _ => 0) w (Q := fun _ => .nilIface) ⟨(fun _ h => nomatch h), trivial, trivial⟩ (xs := []) rfl
    (RoAt.mono (laid_at h _ _) (b := W.heap.size) (fun k x hk => (Array.getElem?_eq_some_iff.1 hk).1) hs) hb hs
theorem wrap_id {x : Int} (h0 : -9223372036854775808 ≤ x) (h1 : x ≤ 9223372036854775807) : IntKind.i64.wrap x = x := by
  have : IntKind.i64.wrap x = (if (true && decide (x % (2 ^ 64 : Int) ≥ (2 ^ 63 : Int))) = true then x % (2 ^ 64 : Int) - (2 ^ 64 : Int) else x % (2 ^ 64 : Int)) := rfl
  rw [this]
  simp only [Bool.true_and, decide_eq_true_eq]
  split <;> omega
theorem facts_nil {I : Nat → Int} : FactsOk [] I := fun _ h => nomatch h
theorem facts_cons {I : Nat → Int} {op : BinOp} {a b : SI} {r : Bool} {F : List Fact} (h : icmp op (a.den I) (b.den I) = r) (t : FactsOk F I) : FactsOk (⟨op, a, b, r⟩ :: F) I := fun f hf => by
  rcases List.mem_cons.1 hf with rfl | hf
  · exact h
  · exact t f hf
theorem facts_app {I : Nat → Int} {F G : List Fact} (h : FactsOk F I) (t : FactsOk G I) : FactsOk (F ++ G) I := fun f hf => (List.mem_append.1 hf).elim (h f) (t f)

/-! ### Names of labels -/
def nameL : Nat → List UInt8
  | 0 => [109, 97, 105, 110]
  | 1 => [102]
  | 2 => [76, 49]
  | 3 => [46, 120]
  | 4 => [97, 95, 98]
  | 5 => [90]
  | 6 => [95]
  | 7 => [120, 49]
  | 8 => [109, 97, 105, 110, 48]
  | 9 => [102, 48]
  | 10 => [76, 49, 48]
  | 11 => [46, 120, 48]
  | 12 => [97, 95, 98, 48]
  | 13 => [90, 48]
  | 14 => [95, 48]
  | 15 => [120, 49, 48]
  | 16 => [109, 97, 105, 110, 46, 101, 110, 100]
  | 17 => [102, 46, 101, 110, 100]
  | 18 => [76, 49, 46, 101, 110, 100]
  | 19 => [46, 120, 46, 101, 110, 100]
  | 20 => [97, 95, 98, 46, 101, 110, 100]
  | 21 => [90, 46, 101, 110, 100]
  | 22 => [95, 46, 101, 110, 100]
  | 23 => [120, 49, 46, 101, 110, 100]
  | 24 => [109, 97, 105, 110, 95, 50]
  | 25 => [102, 95, 50]
  | 26 => [76, 49, 95, 50]
  | 27 => [46, 120, 95, 50]
  | 28 => [97, 95, 98, 95, 50]
  | 29 => [90, 95, 50]
  | 30 => [95, 95, 50]
  | 31 => [120, 49, 95, 50]
  | 32 => [109, 97, 105, 110, 81]
  | 33 => [102, 81]
  | 34 => [76, 49, 81]
  | 35 => [46, 120, 81]
  | 36 => [97, 95, 98, 81]
  | 37 => [90, 81]
  | 38 => [95, 81]
  | _ => [120, 49, 81]

def kName (p : Int) (I : Nat → Int) : Prop := (-9223372036854775808 ≤ I 4 ∧ I 4 ≤ 9223372036854775807) ∧ pickN (I 4) 40 = p
noncomputable def cxN (p : Int) (b : Nat) (h0 : Nat → Option Obj) : Cx := cxOf Tryd.prog.funcs Tryd.prog.types exts 300 300 [] [⟨20, [.int .i64 (.var 4), .int .i64 (.lit 40)], .int .i64 (.lit p)⟩] (kName p) soks b h0
theorem cxN_ok (p : Int) (b : Nat) (h0 : Nat → Option Obj) : (cxN p b h0).Ok Tryd.prog := by
  refine cxOf_ok cx_names cx_mixed exts_ok ?_ soks_ok
  intro hk hm E xs hK ha
  obtain ⟨_, r0, e0⟩ := hK
  simp only [List.mem_cons, List.not_mem_nil, or_false] at hm
  subst hm
  have hx : xs = [.int .i64 (E.ints 4), .int .i64 40] := by simpa [denL, SV.den, SI.den, eq_comm] using ha
  subst hx
  refine ⟨.int .i64 p, rfl, fun w _ _ => Calls.stay ?_⟩
  have := pick_any (E.ints 4) 40 r0 (by decide) w
  rw [e0] at this
  exact this
noncomputable def nameRun (p : Int) (l : List UInt8) (b : Nat) (h0 : Nat → Option Obj) : Bool :=
  isValX (.str l) (callX (cxN p b h0) (codeX (cxN p b h0) 3000) 25 [.int .i64 (.var 4)] (roH []) (cxN p b h0).G)
noncomputable def labelRun (l : List UInt8) (b : Nat) (h0 : Nat → Option Obj) : Bool :=
  isTrueX (callX (cxA b h0) (codeX (cxA b h0) 3000) 23 [.str l] (roH []) (cxA b h0).G)
theorem name_0 (b : Nat) (h0 : Nat → Option Obj) : nameRun 0 (nameL 0) b h0 = true := by kernel_rfl
theorem name_1 (b : Nat) (h0 : Nat → Option Obj) : nameRun 1 (nameL 1) b h0 = true := by kernel_rfl
theorem name_2 (b : Nat) (h0 : Nat → Option Obj) : nameRun 2 (nameL 2) b h0 = true := by kernel_rfl
theorem name_3 (b : Nat) (h0 : Nat → Option Obj) : nameRun 3 (nameL 3) b h0 = true := by kernel_rfl
theorem name_4 (b : Nat) (h0 : Nat → Option Obj) : nameRun 4 (nameL 4) b h0 = true := by kernel_rfl
theorem name_5 (b : Nat) (h0 : Nat → Option Obj) : nameRun 5 (nameL 5) b h0 = true := by kernel_rfl
theorem name_6 (b : Nat) (h0 : Nat → Option Obj) : nameRun 6 (nameL 6) b h0 = true := by kernel_rfl
theorem name_7 (b : Nat) (h0 : Nat → Option Obj) : nameRun 7 (nameL 7) b h0 = true := by kernel_rfl
theorem name_8 (b : Nat) (h0 : Nat → Option Obj) : nameRun 8 (nameL 8) b h0 = true := by kernel_rfl
theorem name_9 (b : Nat) (h0 : Nat → Option Obj) : nameRun 9 (nameL 9) b h0 = true := by kernel_rfl
theorem name_10 (b : Nat) (h0 : Nat → Option Obj) : nameRun 10 (nameL 10) b h0 = true := by kernel_rfl
theorem name_11 (b : Nat) (h0 : Nat → Option Obj) : nameRun 11 (nameL 11) b h0 = true := by kernel_rfl
theorem name_12 (b : Nat) (h0 : Nat → Option Obj) : nameRun 12 (nameL 12) b h0 = true := by kernel_rfl
theorem name_13 (b : Nat) (h0 : Nat → Option Obj) : nameRun 13 (nameL 13) b h0 = true := by kernel_rfl
theorem name_14 (b : Nat) (h0 : Nat → Option Obj) : nameRun 14 (nameL 14) b h0 = true := by kernel_rfl
theorem name_15 (b : Nat) (h0 : Nat → Option Obj) : nameRun 15 (nameL 15) b h0 = true := by kernel_rfl
theorem name_16 (b : Nat) (h0 : Nat → Option Obj) : nameRun 16 (nameL 16) b h0 = true := by kernel_rfl
theorem name_17 (b : Nat) (h0 : Nat → Option Obj) : nameRun 17 (nameL 17) b h0 = true := by kernel_rfl
theorem name_18 (b : Nat) (h0 : Nat → Option Obj) : nameRun 18 (nameL 18) b h0 = true := by kernel_rfl
theorem name_19 (b : Nat) (h0 : Nat → Option Obj) : nameRun 19 (nameL 19) b h0 = true := by kernel_rfl
theorem name_20 (b : Nat) (h0 : Nat → Option Obj) : nameRun 20 (nameL 20) b h0 = true := by kernel_rfl
theorem name_21 (b : Nat) (h0 : Nat → Option Obj) : nameRun 21 (nameL 21) b h0 = true := by kernel_rfl
theorem name_22 (b : Nat) (h0 : Nat → Option Obj) : nameRun 22 (nameL 22) b h0 = true := by kernel_rfl
theorem name_23 (b : Nat) (h0 : Nat → Option Obj) : nameRun 23 (nameL 23) b h0 = true := by kernel_rfl
theorem name_24 (b : Nat) (h0 : Nat → Option Obj) : nameRun 24 (nameL 24) b h0 = true := by kernel_rfl
theorem name_25 (b : Nat) (h0 : Nat → Option Obj) : nameRun 25 (nameL 25) b h0 = true := by kernel_rfl
theorem name_26 (b : Nat) (h0 : Nat → Option Obj) : nameRun 26 (nameL 26) b h0 = true := by kernel_rfl
theorem name_27 (b : Nat) (h0 : Nat → Option Obj) : nameRun 27 (nameL 27) b h0 = true := by kernel_rfl
theorem name_28 (b : Nat) (h0 : Nat → Option Obj) : nameRun 28 (nameL 28) b h0 = true := by kernel_rfl
theorem name_29 (b : Nat) (h0 : Nat → Option Obj) : nameRun 29 (nameL 29) b h0 = true := by kernel_rfl
theorem name_30 (b : Nat) (h0 : Nat → Option Obj) : nameRun 30 (nameL 30) b h0 = true := by kernel_rfl
theorem name_31 (b : Nat) (h0 : Nat → Option Obj) : nameRun 31 (nameL 31) b h0 = true := by kernel_rfl
theorem name_32 (b : Nat) (h0 : Nat → Option Obj) : nameRun 32 (nameL 32) b h0 = true := by kernel_rfl
theorem name_33 (b : Nat) (h0 : Nat → Option Obj) : nameRun 33 (nameL 33) b h0 = true := by kernel_rfl
theorem name_34 (b : Nat) (h0 : Nat → Option Obj) : nameRun 34 (nameL 34) b h0 = true := by kernel_rfl
theorem name_35 (b : Nat) (h0 : Nat → Option Obj) : nameRun 35 (nameL 35) b h0 = true := by kernel_rfl
theorem name_36 (b : Nat) (h0 : Nat → Option Obj) : nameRun 36 (nameL 36) b h0 = true := by kernel_rfl
theorem name_37 (b : Nat) (h0 : Nat → Option Obj) : nameRun 37 (nameL 37) b h0 = true := by kernel_rfl
theorem name_38 (b : Nat) (h0 : Nat → Option Obj) : nameRun 38 (nameL 38) b h0 = true := by kernel_rfl
theorem name_39 (b : Nat) (h0 : Nat → Option Obj) : nameRun 39 (nameL 39) b h0 = true := by kernel_rfl
theorem label_0 (b : Nat) (h0 : Nat → Option Obj) : labelRun (nameL 0) b h0 = true := by kernel_rfl
theorem label_1 (b : Nat) (h0 : Nat → Option Obj) : labelRun (nameL 1) b h0 = true := by kernel_rfl
theorem label_2 (b : Nat) (h0 : Nat → Option Obj) : labelRun (nameL 2) b h0 = true := by kernel_rfl
theorem label_3 (b : Nat) (h0 : Nat → Option Obj) : labelRun (nameL 3) b h0 = true := by kernel_rfl
theorem label_4 (b : Nat) (h0 : Nat → Option Obj) : labelRun (nameL 4) b h0 = true := by kernel_rfl
theorem label_5 (b : Nat) (h0 : Nat → Option Obj) : labelRun (nameL 5) b h0 = true := by kernel_rfl
theorem label_6 (b : Nat) (h0 : Nat → Option Obj) : labelRun (nameL 6) b h0 = true := by kernel_rfl
theorem label_7 (b : Nat) (h0 : Nat → Option Obj) : labelRun (nameL 7) b h0 = true := by kernel_rfl
theorem label_8 (b : Nat) (h0 : Nat → Option Obj) : labelRun (nameL 8) b h0 = true := by kernel_rfl
theorem label_9 (b : Nat) (h0 : Nat → Option Obj) : labelRun (nameL 9) b h0 = true := by kernel_rfl
theorem label_10 (b : Nat) (h0 : Nat → Option Obj) : labelRun (nameL 10) b h0 = true := by kernel_rfl
theorem label_11 (b : Nat) (h0 : Nat → Option Obj) : labelRun (nameL 11) b h0 = true := by kernel_rfl
theorem label_12 (b : Nat) (h0 : Nat → Option Obj) : labelRun (nameL 12) b h0 = true := by kernel_rfl
theorem label_13 (b : Nat) (h0 : Nat → Option Obj) : labelRun (nameL 13) b h0 = true := by kernel_rfl
theorem label_14 (b : Nat) (h0 : Nat → Option Obj) : labelRun (nameL 14) b h0 = true := by kernel_rfl
theorem label_15 (b : Nat) (h0 : Nat → Option Obj) : labelRun (nameL 15) b h0 = true := by kernel_rfl
theorem label_16 (b : Nat) (h0 : Nat → Option Obj) : labelRun (nameL 16) b h0 = true := by kernel_rfl
theorem label_17 (b : Nat) (h0 : Nat → Option Obj) : labelRun (nameL 17) b h0 = true := by kernel_rfl
theorem label_18 (b : Nat) (h0 : Nat → Option Obj) : labelRun (nameL 18) b h0 = true := by kernel_rfl
theorem label_19 (b : Nat) (h0 : Nat → Option Obj) : labelRun (nameL 19) b h0 = true := by kernel_rfl
theorem label_20 (b : Nat) (h0 : Nat → Option Obj) : labelRun (nameL 20) b h0 = true := by kernel_rfl
theorem label_21 (b : Nat) (h0 : Nat → Option Obj) : labelRun (nameL 21) b h0 = true := by kernel_rfl
theorem label_22 (b : Nat) (h0 : Nat → Option Obj) : labelRun (nameL 22) b h0 = true := by kernel_rfl
theorem label_23 (b : Nat) (h0 : Nat → Option Obj) : labelRun (nameL 23) b h0 = true := by kernel_rfl
theorem label_24 (b : Nat) (h0 : Nat → Option Obj) : labelRun (nameL 24) b h0 = true := by kernel_rfl
theorem label_25 (b : Nat) (h0 : Nat → Option Obj) : labelRun (nameL 25) b h0 = true := by kernel_rfl
theorem label_26 (b : Nat) (h0 : Nat → Option Obj) : labelRun (nameL 26) b h0 = true := by kernel_rfl
theorem label_27 (b : Nat) (h0 : Nat → Option Obj) : labelRun (nameL 27) b h0 = true := by kernel_rfl
theorem label_28 (b : Nat) (h0 : Nat → Option Obj) : labelRun (nameL 28) b h0 = true := by kernel_rfl
theorem label_29 (b : Nat) (h0 : Nat → Option Obj) : labelRun (nameL 29) b h0 = true := by kernel_rfl
theorem label_30 (b : Nat) (h0 : Nat → Option Obj) : labelRun (nameL 30) b h0 = true := by kernel_rfl
theorem label_31 (b : Nat) (h0 : Nat → Option Obj) : labelRun (nameL 31) b h0 = true := by kernel_rfl
theorem label_32 (b : Nat) (h0 : Nat → Option Obj) : labelRun (nameL 32) b h0 = true := by kernel_rfl
theorem label_33 (b : Nat) (h0 : Nat → Option Obj) : labelRun (nameL 33) b h0 = true := by kernel_rfl
theorem label_34 (b : Nat) (h0 : Nat → Option Obj) : labelRun (nameL 34) b h0 = true := by kernel_rfl
theorem label_35 (b : Nat) (h0 : Nat → Option Obj) : labelRun (nameL 35) b h0 = true := by kernel_rfl
theorem label_36 (b : Nat) (h0 : Nat → Option Obj) : labelRun (nameL 36) b h0 = true := by kernel_rfl
theorem label_37 (b : Nat) (h0 : Nat → Option Obj) : labelRun (nameL 37) b h0 = true := by kernel_rfl
theorem label_38 (b : Nat) (h0 : Nat → Option Obj) : labelRun (nameL 38) b h0 = true := by kernel_rfl
theorem label_39 (b : Nat) (h0 : Nat → Option Obj) : labelRun (nameL 39) b h0 = true := by kernel_rfl
theorem names (b : Nat) (h0 : Nat → Option Obj) : ∀ k : Fin 40, nameRun (k.val : Int) (nameL k.val) b h0 = true
  | ⟨0, _⟩ => name_0 b h0
  | ⟨1, _⟩ => name_1 b h0
  | ⟨2, _⟩ => name_2 b h0
  | ⟨3, _⟩ => name_3 b h0
  | ⟨4, _⟩ => name_4 b h0
  | ⟨5, _⟩ => name_5 b h0
  | ⟨6, _⟩ => name_6 b h0
  | ⟨7, _⟩ => name_7 b h0
  | ⟨8, _⟩ => name_8 b h0
  | ⟨9, _⟩ => name_9 b h0
  | ⟨10, _⟩ => name_10 b h0
  | ⟨11, _⟩ => name_11 b h0
  | ⟨12, _⟩ => name_12 b h0
  | ⟨13, _⟩ => name_13 b h0
  | ⟨14, _⟩ => name_14 b h0
  | ⟨15, _⟩ => name_15 b h0
  | ⟨16, _⟩ => name_16 b h0
  | ⟨17, _⟩ => name_17 b h0
  | ⟨18, _⟩ => name_18 b h0
  | ⟨19, _⟩ => name_19 b h0
  | ⟨20, _⟩ => name_20 b h0
  | ⟨21, _⟩ => name_21 b h0
  | ⟨22, _⟩ => name_22 b h0
  | ⟨23, _⟩ => name_23 b h0
  | ⟨24, _⟩ => name_24 b h0
  | ⟨25, _⟩ => name_25 b h0
  | ⟨26, _⟩ => name_26 b h0
  | ⟨27, _⟩ => name_27 b h0
  | ⟨28, _⟩ => name_28 b h0
  | ⟨29, _⟩ => name_29 b h0
  | ⟨30, _⟩ => name_30 b h0
  | ⟨31, _⟩ => name_31 b h0
  | ⟨32, _⟩ => name_32 b h0
  | ⟨33, _⟩ => name_33 b h0
  | ⟨34, _⟩ => name_34 b h0
  | ⟨35, _⟩ => name_35 b h0
  | ⟨36, _⟩ => name_36 b h0
  | ⟨37, _⟩ => name_37 b h0
  | ⟨38, _⟩ => name_38 b h0
  | ⟨39, _⟩ => name_39 b h0
  | ⟨k + 40, h⟩ => absurd h (by omega)
theorem labels (b : Nat) (h0 : Nat → Option Obj) : ∀ k : Fin 40, labelRun (nameL k.val) b h0 = true
  | ⟨0, _⟩ => label_0 b h0
  | ⟨1, _⟩ => label_1 b h0
  | ⟨2, _⟩ => label_2 b h0
  | ⟨3, _⟩ => label_3 b h0
  | ⟨4, _⟩ => label_4 b h0
  | ⟨5, _⟩ => label_5 b h0
  | ⟨6, _⟩ => label_6 b h0
  | ⟨7, _⟩ => label_7 b h0
  | ⟨8, _⟩ => label_8 b h0
  | ⟨9, _⟩ => label_9 b h0
  | ⟨10, _⟩ => label_10 b h0
  | ⟨11, _⟩ => label_11 b h0
  | ⟨12, _⟩ => label_12 b h0
  | ⟨13, _⟩ => label_13 b h0
  | ⟨14, _⟩ => label_14 b h0
  | ⟨15, _⟩ => label_15 b h0
  | ⟨16, _⟩ => label_16 b h0
  | ⟨17, _⟩ => label_17 b h0
  | ⟨18, _⟩ => label_18 b h0
  | ⟨19, _⟩ => label_19 b h0
  | ⟨20, _⟩ => label_20 b h0
  | ⟨21, _⟩ => label_21 b h0
  | ⟨22, _⟩ => label_22 b h0
  | ⟨23, _⟩ => label_23 b h0
  | ⟨24, _⟩ => label_24 b h0
  | ⟨25, _⟩ => label_25 b h0
  | ⟨26, _⟩ => label_26 b h0
  | ⟨27, _⟩ => label_27 b h0
  | ⟨28, _⟩ => label_28 b h0
  | ⟨29, _⟩ => label_29 b h0
  | ⟨30, _⟩ => label_30 b h0
  | ⟨31, _⟩ => label_31 b h0
  | ⟨32, _⟩ => label_32 b h0
  | ⟨33, _⟩ => label_33 b h0
  | ⟨34, _⟩ => label_34 b h0
  | ⟨35, _⟩ => label_35 b h0
  | ⟨36, _⟩ => label_36 b h0
  | ⟨37, _⟩ => label_37 b h0
  | ⟨38, _⟩ => label_38 b h0
  | ⟨39, _⟩ => label_39 b h0
  | ⟨k + 40, h⟩ => absurd h (by omega)
def nameOf (n : Int) : Value := .string ⟨(nameL (pickN n 40).toNat).toArray⟩
theorem name_at {W : World} (n : Int) (hn : -9223372036854775808 ≤ n ∧ n ≤ 9223372036854775807) (w : World) (hb : W.heap.size ≤ w.heap.size) (hs : ∀ k, k < W.heap.size → w.heap[k]? = W.heap[k]?) :
    Calls Tryd.prog 25 #[.int .i64 n] w fun e w' => e = .returned (nameOf n) ∧ Below w.heap.size w w' := by
  obtain ⟨k0, k1⟩ := pickN_lt n (n := 40) (by decide)
  have hr := names W.heap.size (fun k => W.heap[k]?) ⟨(pickN n 40).toNat, by omega⟩
  have hc : (((⟨(pickN n 40).toNat, by omega⟩ : Fin 40).val : Nat) : Int) = pickN n 40 := by show (((pickN n 40).toNat : Nat) : Int) = _; omega
  rw [hc] at hr
  exact val_at (cxN_ok (pickN n 40) W.heap.size fun k => W.heap[k]?) 3000 (vs := []) rfl (Nat.le_refl _) hr (y := nameOf n) (fun E => rfl) (I := fun _ => n) w (Q := fun _ => .nilIface) ⟨(fun _ h => nomatch h), trivial, hn, rfl⟩ (xs := [.int .i64 n]) rfl
    (fun g cs h => nomatch h) hb hs
theorem label_at {W : World} (n : Int) (w : World) (hb : W.heap.size ≤ w.heap.size) (hs : ∀ k, k < W.heap.size → w.heap[k]? = W.heap[k]?) :
    Calls Tryd.prog 23 #[nameOf n] w fun e w' => e = .returned (.bool true) ∧ Below w.heap.size w w' := by
  obtain ⟨k0, k1⟩ := pickN_lt n (n := 40) (by decide)
  have hr := labels W.heap.size (fun k => W.heap[k]?) ⟨(pickN n 40).toNat, by omega⟩
  exact true_at (cxA_ok W.heap.size fun k => W.heap[k]?) 3000 (vs := []) rfl (Nat.le_refl _) hr (I := fun _ => 0) w (Q := fun _ => .nilIface) ⟨(fun _ h => nomatch h), trivial, trivial⟩ (xs := [nameOf n]) rfl
    (fun g cs h => nomatch h) hb hs
end Go.Proofs.YtmkjjmebpbbhlaaDoor
