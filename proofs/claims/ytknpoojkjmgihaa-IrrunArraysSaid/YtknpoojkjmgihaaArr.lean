/-
  Layer 11: what was stored is loaded, at its place and nowhere else.
-/
import Derived.Test.YtknpoojkjmgihaaXu
import Derived.Test.YtknpoojkjmgihaaXs
namespace Go.Proofs.Ytknpoojkjmgihaa
open Go.Xq Go.RowKit
set_option maxRecDepth 1000000

def kArr (i k : Int) (I : Nat → Int) : Prop :=
  (-9223372036854775808 ≤ I 0 ∧ I 0 ≤ 9223372036854775807) ∧ (-9223372036854775808 ≤ I 1 ∧ I 1 ≤ 9223372036854775807) ∧ pickN (I 0) 14 = i ∧ pickN (I 1) 10 = k

def hArr (i k : Int) : List Hook :=
  [⟨8, [], .bool true⟩,
   ⟨10, [.int .i64 (.var 0), .int .i64 (.lit 14)], .int .i64 (.lit i)⟩,
   ⟨10, [.int .i64 (.var 1), .int .i64 (.lit 10)], .int .i64 (.lit k)⟩]

noncomputable def cxArr (i k : Int) : Cx := cxOf Try.prog.funcs Try.prog.types [] 0 0 [] (hArr i k) (kArr i k)

theorem cxArr_ok (i k : Int) : (cxArr i k).Ok Try.prog := by
  refine cxOf_ok (exts := []) cx_names cx_mixed (fun _ h => nomatch h) ?_
  intro hk hm E xs hK ha
  obtain ⟨r0, r1, hi, hj⟩ := hK
  simp only [hArr, List.mem_cons, List.not_mem_nil, or_false] at hm
  rcases hm with rfl | rfl | rfl
  · have hx : xs = [] := by simpa [denL, eq_comm] using ha
    subst hx
    exact ⟨.bool true, rfl, fun w => awake_ok w⟩
  · have hx : xs = [.int .i64 (E.ints 0), .int .i64 14] := by simpa [denL, SV.den, SI.den, eq_comm] using ha
    subst hx
    refine ⟨.int .i64 i, rfl, fun w => Calls.stay ?_⟩
    have := pick_any (E.ints 0) 14 r0 (by decide) w
    rw [hi] at this
    exact this
  · have hx : xs = [.int .i64 (E.ints 1), .int .i64 10] := by simpa [denL, SV.den, SI.den, eq_comm] using ha
    subst hx
    refine ⟨.int .i64 k, rfl, fun w => Calls.stay ?_⟩
    have := pick_any (E.ints 1) 10 r1 (by decide) w
    rw [hj] at this
    exact this

noncomputable def arrRun (i k : Int) : Bool :=
  isTrueX (callX (cxArr i k) (codeX (cxArr i k) 3000) 7 [.int .i64 (.var 0), .int .i64 (.var 1), .int .i64 (.var 2)] .nil 0)
end Go.Proofs.Ytknpoojkjmgihaa
