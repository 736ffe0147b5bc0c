/-
  Layer 06: a loop that counts down tells what it counted: the loop.
-/
import Derived.Test.YtggonamheakkkaaGreatDoorEval
import Derived.Test.YtggonamheakkkaaGreatDoorXq
namespace Go.Proofs.YtggonamheakkkaaGreatDoor.EvalCounts
open Go.Xq Go.RowKit Go.Proofs.YtggonamheakkkaaGreatDoor
set_option maxRecDepth 1000000
noncomputable def iP (n : Nat) : SV := .int .i64 (.lit (.ofNat n))
noncomputable def iN (n : Nat) : SV := .int .i64 (.lit (.negSucc n))
/-- The call of the loop. -/
noncomputable def part : Part := ⟨153, [.ptr 27246 0, .ptr 26777 7, .slice 27251 0 2 (.fix 2)], 27294,
  [(26435, .cells [iP 1, .slice 26463 0 2 (.fix 2), iP 2, .slice 26777 0 4 (.fix 4)] 126 none false),
   (26463, .cells [iP 3, iP 0, iP 0, iP 0, .slice 26484 0 1 (.fix 1), .slice 26548 0 1 (.fix 1), .slice 26589 0 0 (.fix 0), iP 7, iP 0, iP 0, iP 0, .slice 26610 0 1 (.fix 1), .slice 26737 0 0 (.fix 0), .slice 26738 0 0 (.fix 0)] 169 none false),
   (26484, .cells [iP 4, iP 15, iP 0, iP 0, iP 0, iP 0, .slice 26501 0 2 (.fix 2)] 193 none false),
   (26501, .cells [iP 2, iP 0, iP 0, iP 0, iP 0, iP 0, .slice 26518 0 0 (.fix 0), iP 1, iP 0, iP 0, iP 0, iP 0, iP 0, .slice 26547 0 0 (.fix 0)] 193 none false),
   (26518, .cells [] 193 none false),
   (26547, .cells [] 193 none false),
   (26548, .cells [iP 7, iP 0, iP 0, iP 0, .slice 26569 0 1 (.fix 1), .slice 26587 0 0 (.fix 0), .slice 26588 0 0 (.fix 0)] 169 none false),
   (26569, .cells [iP 1, iP 0, iP 0, iP 0, iP 0, iP 0, .slice 26586 0 0 (.fix 0)] 193 none false),
   (26586, .cells [] 193 none false),
   (26587, .cells [] 169 none false),
   (26588, .cells [] 169 none false),
   (26589, .cells [] 169 none false),
   (26610, .cells [iP 4, iP 1, iP 0, iP 0, iP 0, iP 0, .slice 26627 0 2 (.fix 2)] 193 none false),
   (26627, .cells [iP 5, iP 0, iP 0, iP 0, iP 0, iP 0, .slice 26644 0 1 (.fix 1), iP 1, iP 0, iP 1, iP 0, iP 0, iP 0, .slice 26736 0 0 (.fix 0)] 193 none false),
   (26644, .cells [iP 4, iP 2, iP 0, iP 0, iP 0, iP 0, .slice 26661 0 2 (.fix 2)] 193 none false),
   (26661, .cells [iP 2, iP 0, iP 0, iP 0, iP 0, iP 0, .slice 26678 0 0 (.fix 0), iP 1, iP 0, iP 1, iP 0, iP 0, iP 0, .slice 26707 0 0 (.fix 0)] 193 none false),
   (26678, .cells [] 193 none false),
   (26707, .cells [] 193 none false),
   (26736, .cells [] 193 none false),
   (26737, .cells [] 169 none false),
   (26738, .cells [] 169 none false),
   (26777, .cells [iP 1, iP 0, iP 0, iP 0, .slice 26798 0 1 (.fix 1), .slice 26816 0 0 (.fix 0), .slice 26817 0 0 (.fix 0), iP 4, iP 0, iP 0, iP 0, .slice 26850 0 1 (.fix 1), .slice 26914 0 2 (.fix 2), .slice 27123 0 0 (.fix 0), iP 8, iP 0, iP 0, iP 0, .slice 27144 0 1 (.fix 1), .slice 27174 0 0 (.fix 0), .slice 27175 0 0 (.fix 0), iP 7, iP 0, iP 0, iP 0, .slice 27196 0 1 (.fix 1), .slice 27243 0 0 (.fix 0), .slice 27244 0 0 (.fix 0)] 169 none false),
   (26798, .cells [iP 7, iP 0, iP 0, iP 0, iP 0, iP 0, .slice 26815 0 0 (.fix 0)] 193 none false),
   (26815, .cells [] 193 none false),
   (26816, .cells [] 169 none false),
   (26817, .cells [] 169 none false),
   (26850, .cells [iP 4, iP 13, iP 0, iP 0, iP 0, iP 0, .slice 26867 0 2 (.fix 2)] 193 none false),
   (26867, .cells [iP 2, iP 0, iP 0, iP 0, iP 0, iP 0, .slice 26884 0 0 (.fix 0), iP 1, iP 0, iP 0, iP 0, iP 0, iP 0, .slice 26913 0 0 (.fix 0)] 193 none false),
   (26884, .cells [] 193 none false),
   (26913, .cells [] 193 none false),
   (26914, .cells [iP 1, iP 1, iP 0, iP 0, .slice 26935 0 1 (.fix 1), .slice 27011 0 0 (.fix 0), .slice 27012 0 0 (.fix 0), iP 1, iP 0, iP 0, iP 0, .slice 27045 0 1 (.fix 1), .slice 27109 0 0 (.fix 0), .slice 27110 0 0 (.fix 0)] 169 none false),
   (26935, .cells [iP 4, iP 1, iP 0, iP 0, iP 0, iP 0, .slice 26952 0 2 (.fix 2)] 193 none false),
   (26952, .cells [iP 2, iP 0, iP 0, iP 1, iP 0, iP 0, .slice 26969 0 0 (.fix 0), iP 2, iP 0, iP 0, iP 0, iP 0, iP 0, .slice 26998 0 0 (.fix 0)] 193 none false),
   (26969, .cells [] 193 none false),
   (26998, .cells [] 193 none false),
   (27011, .cells [] 169 none false),
   (27012, .cells [] 169 none false),
   (27045, .cells [iP 4, iP 2, iP 0, iP 0, iP 0, iP 0, .slice 27062 0 2 (.fix 2)] 193 none false),
   (27062, .cells [iP 2, iP 0, iP 0, iP 0, iP 0, iP 0, .slice 27079 0 0 (.fix 0), iP 1, iP 0, iP 1, iP 0, iP 0, iP 0, .slice 27108 0 0 (.fix 0)] 193 none false),
   (27079, .cells [] 193 none false),
   (27108, .cells [] 193 none false),
   (27109, .cells [] 169 none false),
   (27110, .cells [] 169 none false),
   (27123, .cells [] 169 none false),
   (27144, .cells [iP 2, iP 0, iP 0, iP 1, iP 0, iP 0, .slice 27161 0 0 (.fix 0)] 193 none false),
   (27161, .cells [] 193 none false),
   (27174, .cells [] 169 none false),
   (27175, .cells [] 169 none false),
   (27196, .cells [iP 5, iP 0, iP 0, iP 0, iP 0, iP 0, .slice 27213 0 1 (.fix 1)] 193 none false),
   (27213, .cells [iP 7, iP 0, iP 0, iP 0, iP 0, iP 0, .slice 27230 0 0 (.fix 0)] 193 none false),
   (27230, .cells [] 193 none false),
   (27243, .cells [] 169 none false),
   (27244, .cells [] 169 none false),
   (27245, .map []),
   (27246, .cells [.slice 25804 1 1 (.fix 1), .nilslice, .slice 26435 0 2 (.fix 2), .map 27245, iP 3, iP 100000, iP 1, iP 0] 83 none false),
   (27251, .cells [.int .i64 (.var 2), iP 0] 3 none false)],
  iP 0,
  [(26435, .cells [iP 1, .slice 26463 0 2 (.fix 2), iP 2, .slice 26777 0 4 (.fix 4)] 126 none false),
   (26463, .cells [iP 3, iP 0, iP 0, iP 0, .slice 26484 0 1 (.fix 1), .slice 26548 0 1 (.fix 1), .slice 26589 0 0 (.fix 0), iP 7, iP 0, iP 0, iP 0, .slice 26610 0 1 (.fix 1), .slice 26737 0 0 (.fix 0), .slice 26738 0 0 (.fix 0)] 169 none false),
   (26484, .cells [iP 4, iP 15, iP 0, iP 0, iP 0, iP 0, .slice 26501 0 2 (.fix 2)] 193 none false),
   (26501, .cells [iP 2, iP 0, iP 0, iP 0, iP 0, iP 0, .slice 26518 0 0 (.fix 0), iP 1, iP 0, iP 0, iP 0, iP 0, iP 0, .slice 26547 0 0 (.fix 0)] 193 none false),
   (26518, .cells [] 193 none false),
   (26547, .cells [] 193 none false),
   (26548, .cells [iP 7, iP 0, iP 0, iP 0, .slice 26569 0 1 (.fix 1), .slice 26587 0 0 (.fix 0), .slice 26588 0 0 (.fix 0)] 169 none false),
   (26569, .cells [iP 1, iP 0, iP 0, iP 0, iP 0, iP 0, .slice 26586 0 0 (.fix 0)] 193 none false),
   (26586, .cells [] 193 none false),
   (26587, .cells [] 169 none false),
   (26588, .cells [] 169 none false),
   (26589, .cells [] 169 none false),
   (26610, .cells [iP 4, iP 1, iP 0, iP 0, iP 0, iP 0, .slice 26627 0 2 (.fix 2)] 193 none false),
   (26627, .cells [iP 5, iP 0, iP 0, iP 0, iP 0, iP 0, .slice 26644 0 1 (.fix 1), iP 1, iP 0, iP 1, iP 0, iP 0, iP 0, .slice 26736 0 0 (.fix 0)] 193 none false),
   (26644, .cells [iP 4, iP 2, iP 0, iP 0, iP 0, iP 0, .slice 26661 0 2 (.fix 2)] 193 none false),
   (26661, .cells [iP 2, iP 0, iP 0, iP 0, iP 0, iP 0, .slice 26678 0 0 (.fix 0), iP 1, iP 0, iP 1, iP 0, iP 0, iP 0, .slice 26707 0 0 (.fix 0)] 193 none false),
   (26678, .cells [] 193 none false),
   (26707, .cells [] 193 none false),
   (26736, .cells [] 193 none false),
   (26737, .cells [] 169 none false),
   (26738, .cells [] 169 none false),
   (26777, .cells [iP 1, iP 0, iP 0, iP 0, .slice 26798 0 1 (.fix 1), .slice 26816 0 0 (.fix 0), .slice 26817 0 0 (.fix 0), iP 4, iP 0, iP 0, iP 0, .slice 26850 0 1 (.fix 1), .slice 26914 0 2 (.fix 2), .slice 27123 0 0 (.fix 0), iP 8, iP 0, iP 0, iP 0, .slice 27144 0 1 (.fix 1), .slice 27174 0 0 (.fix 0), .slice 27175 0 0 (.fix 0), iP 7, iP 0, iP 0, iP 0, .slice 27196 0 1 (.fix 1), .slice 27243 0 0 (.fix 0), .slice 27244 0 0 (.fix 0)] 169 none false),
   (26798, .cells [iP 7, iP 0, iP 0, iP 0, iP 0, iP 0, .slice 26815 0 0 (.fix 0)] 193 none false),
   (26815, .cells [] 193 none false),
   (26816, .cells [] 169 none false),
   (26817, .cells [] 169 none false),
   (26850, .cells [iP 4, iP 13, iP 0, iP 0, iP 0, iP 0, .slice 26867 0 2 (.fix 2)] 193 none false),
   (26867, .cells [iP 2, iP 0, iP 0, iP 0, iP 0, iP 0, .slice 26884 0 0 (.fix 0), iP 1, iP 0, iP 0, iP 0, iP 0, iP 0, .slice 26913 0 0 (.fix 0)] 193 none false),
   (26884, .cells [] 193 none false),
   (26913, .cells [] 193 none false),
   (26914, .cells [iP 1, iP 1, iP 0, iP 0, .slice 26935 0 1 (.fix 1), .slice 27011 0 0 (.fix 0), .slice 27012 0 0 (.fix 0), iP 1, iP 0, iP 0, iP 0, .slice 27045 0 1 (.fix 1), .slice 27109 0 0 (.fix 0), .slice 27110 0 0 (.fix 0)] 169 none false),
   (26935, .cells [iP 4, iP 1, iP 0, iP 0, iP 0, iP 0, .slice 26952 0 2 (.fix 2)] 193 none false),
   (26952, .cells [iP 2, iP 0, iP 0, iP 1, iP 0, iP 0, .slice 26969 0 0 (.fix 0), iP 2, iP 0, iP 0, iP 0, iP 0, iP 0, .slice 26998 0 0 (.fix 0)] 193 none false),
   (26969, .cells [] 193 none false),
   (26998, .cells [] 193 none false),
   (27011, .cells [] 169 none false),
   (27012, .cells [] 169 none false),
   (27045, .cells [iP 4, iP 2, iP 0, iP 0, iP 0, iP 0, .slice 27062 0 2 (.fix 2)] 193 none false),
   (27062, .cells [iP 2, iP 0, iP 0, iP 0, iP 0, iP 0, .slice 27079 0 0 (.fix 0), iP 1, iP 0, iP 1, iP 0, iP 0, iP 0, .slice 27108 0 0 (.fix 0)] 193 none false),
   (27079, .cells [] 193 none false),
   (27108, .cells [] 193 none false),
   (27109, .cells [] 169 none false),
   (27110, .cells [] 169 none false),
   (27123, .cells [] 169 none false),
   (27144, .cells [iP 2, iP 0, iP 0, iP 1, iP 0, iP 0, .slice 27161 0 0 (.fix 0)] 193 none false),
   (27161, .cells [] 193 none false),
   (27174, .cells [] 169 none false),
   (27175, .cells [] 169 none false),
   (27196, .cells [iP 5, iP 0, iP 0, iP 0, iP 0, iP 0, .slice 27213 0 1 (.fix 1)] 193 none false),
   (27213, .cells [iP 7, iP 0, iP 0, iP 0, iP 0, iP 0, .slice 27230 0 0 (.fix 0)] 193 none false),
   (27230, .cells [] 193 none false),
   (27243, .cells [] 169 none false),
   (27244, .cells [] 169 none false),
   (27245, .map []),
   (27246, .cells [.slice 25804 1 1 (.fix 1), .nilslice, .slice 26435 0 2 (.fix 2), .map 27245, .int .i64 (.var 50), iP 100000, iP 1, iP 0] 83 none false),
   (27251, .cells [iP 0, .int .i64 (.bin .quo .i64 (.bin .mul .i64 (.var 2) (.bin .add .i64 (.var 2) (.lit (.ofNat 1)))) (.lit (.ofNat 2)))] 3 none false)],
  27343⟩
noncomputable def pat : Pat := ⟨[(0, .ptr 27246 0), (1, .ptr 26777 7), (2, .slice 27251 0 2 (.fix 2)), (6, iP 0)],
  [(26435, .cells [iP 1, .slice 26463 0 2 (.fix 2), iP 2, .slice 26777 0 4 (.fix 4)] 126 none false),
   (26463, .cells [iP 3, iP 0, iP 0, iP 0, .slice 26484 0 1 (.fix 1), .slice 26548 0 1 (.fix 1), .slice 26589 0 0 (.fix 0), iP 7, iP 0, iP 0, iP 0, .slice 26610 0 1 (.fix 1), .slice 26737 0 0 (.fix 0), .slice 26738 0 0 (.fix 0)] 169 none false),
   (26484, .cells [iP 4, iP 15, iP 0, iP 0, iP 0, iP 0, .slice 26501 0 2 (.fix 2)] 193 none false),
   (26501, .cells [iP 2, iP 0, iP 0, iP 0, iP 0, iP 0, .slice 26518 0 0 (.fix 0), iP 1, iP 0, iP 0, iP 0, iP 0, iP 0, .slice 26547 0 0 (.fix 0)] 193 none false),
   (26518, .cells [] 193 none false),
   (26547, .cells [] 193 none false),
   (26548, .cells [iP 7, iP 0, iP 0, iP 0, .slice 26569 0 1 (.fix 1), .slice 26587 0 0 (.fix 0), .slice 26588 0 0 (.fix 0)] 169 none false),
   (26569, .cells [iP 1, iP 0, iP 0, iP 0, iP 0, iP 0, .slice 26586 0 0 (.fix 0)] 193 none false),
   (26586, .cells [] 193 none false),
   (26587, .cells [] 169 none false),
   (26588, .cells [] 169 none false),
   (26589, .cells [] 169 none false),
   (26610, .cells [iP 4, iP 1, iP 0, iP 0, iP 0, iP 0, .slice 26627 0 2 (.fix 2)] 193 none false),
   (26627, .cells [iP 5, iP 0, iP 0, iP 0, iP 0, iP 0, .slice 26644 0 1 (.fix 1), iP 1, iP 0, iP 1, iP 0, iP 0, iP 0, .slice 26736 0 0 (.fix 0)] 193 none false),
   (26644, .cells [iP 4, iP 2, iP 0, iP 0, iP 0, iP 0, .slice 26661 0 2 (.fix 2)] 193 none false),
   (26661, .cells [iP 2, iP 0, iP 0, iP 0, iP 0, iP 0, .slice 26678 0 0 (.fix 0), iP 1, iP 0, iP 1, iP 0, iP 0, iP 0, .slice 26707 0 0 (.fix 0)] 193 none false),
   (26678, .cells [] 193 none false),
   (26707, .cells [] 193 none false),
   (26736, .cells [] 193 none false),
   (26737, .cells [] 169 none false),
   (26738, .cells [] 169 none false),
   (26777, .cells [iP 1, iP 0, iP 0, iP 0, .slice 26798 0 1 (.fix 1), .slice 26816 0 0 (.fix 0), .slice 26817 0 0 (.fix 0), iP 4, iP 0, iP 0, iP 0, .slice 26850 0 1 (.fix 1), .slice 26914 0 2 (.fix 2), .slice 27123 0 0 (.fix 0), iP 8, iP 0, iP 0, iP 0, .slice 27144 0 1 (.fix 1), .slice 27174 0 0 (.fix 0), .slice 27175 0 0 (.fix 0), iP 7, iP 0, iP 0, iP 0, .slice 27196 0 1 (.fix 1), .slice 27243 0 0 (.fix 0), .slice 27244 0 0 (.fix 0)] 169 none false),
   (26798, .cells [iP 7, iP 0, iP 0, iP 0, iP 0, iP 0, .slice 26815 0 0 (.fix 0)] 193 none false),
   (26815, .cells [] 193 none false),
   (26816, .cells [] 169 none false),
   (26817, .cells [] 169 none false),
   (26850, .cells [iP 4, iP 13, iP 0, iP 0, iP 0, iP 0, .slice 26867 0 2 (.fix 2)] 193 none false),
   (26867, .cells [iP 2, iP 0, iP 0, iP 0, iP 0, iP 0, .slice 26884 0 0 (.fix 0), iP 1, iP 0, iP 0, iP 0, iP 0, iP 0, .slice 26913 0 0 (.fix 0)] 193 none false),
   (26884, .cells [] 193 none false),
   (26913, .cells [] 193 none false),
   (26914, .cells [iP 1, iP 1, iP 0, iP 0, .slice 26935 0 1 (.fix 1), .slice 27011 0 0 (.fix 0), .slice 27012 0 0 (.fix 0), iP 1, iP 0, iP 0, iP 0, .slice 27045 0 1 (.fix 1), .slice 27109 0 0 (.fix 0), .slice 27110 0 0 (.fix 0)] 169 none false),
   (26935, .cells [iP 4, iP 1, iP 0, iP 0, iP 0, iP 0, .slice 26952 0 2 (.fix 2)] 193 none false),
   (26952, .cells [iP 2, iP 0, iP 0, iP 1, iP 0, iP 0, .slice 26969 0 0 (.fix 0), iP 2, iP 0, iP 0, iP 0, iP 0, iP 0, .slice 26998 0 0 (.fix 0)] 193 none false),
   (26969, .cells [] 193 none false),
   (26998, .cells [] 193 none false),
   (27011, .cells [] 169 none false),
   (27012, .cells [] 169 none false),
   (27045, .cells [iP 4, iP 2, iP 0, iP 0, iP 0, iP 0, .slice 27062 0 2 (.fix 2)] 193 none false),
   (27062, .cells [iP 2, iP 0, iP 0, iP 0, iP 0, iP 0, .slice 27079 0 0 (.fix 0), iP 1, iP 0, iP 1, iP 0, iP 0, iP 0, .slice 27108 0 0 (.fix 0)] 193 none false),
   (27079, .cells [] 193 none false),
   (27108, .cells [] 193 none false),
   (27109, .cells [] 169 none false),
   (27110, .cells [] 169 none false),
   (27123, .cells [] 169 none false),
   (27144, .cells [iP 2, iP 0, iP 0, iP 1, iP 0, iP 0, .slice 27161 0 0 (.fix 0)] 193 none false),
   (27161, .cells [] 193 none false),
   (27174, .cells [] 169 none false),
   (27175, .cells [] 169 none false),
   (27196, .cells [iP 5, iP 0, iP 0, iP 0, iP 0, iP 0, .slice 27213 0 1 (.fix 1)] 193 none false),
   (27213, .cells [iP 7, iP 0, iP 0, iP 0, iP 0, iP 0, .slice 27230 0 0 (.fix 0)] 193 none false),
   (27230, .cells [] 193 none false),
   (27243, .cells [] 169 none false),
   (27244, .cells [] 169 none false),
   (27245, .map []),
   (27246, .cells [.slice 25804 1 1 (.fix 1), .nilslice, .slice 26435 0 2 (.fix 2), .map 27245, .int .i64 (.var 7), iP 100000, iP 1, iP 0] 83 none false),
   (27251, .cells [.int .i64 (.var 5), .int .i64 (.var 6)] 3 none false)],
  27294⟩
noncomputable def out : Pat := ⟨[(0, .ptr 27246 0), (1, .ptr 26777 7), (2, .slice 27251 0 2 (.fix 2)), (6, iP 0)],
  [(26435, .cells [iP 1, .slice 26463 0 2 (.fix 2), iP 2, .slice 26777 0 4 (.fix 4)] 126 none false),
   (26463, .cells [iP 3, iP 0, iP 0, iP 0, .slice 26484 0 1 (.fix 1), .slice 26548 0 1 (.fix 1), .slice 26589 0 0 (.fix 0), iP 7, iP 0, iP 0, iP 0, .slice 26610 0 1 (.fix 1), .slice 26737 0 0 (.fix 0), .slice 26738 0 0 (.fix 0)] 169 none false),
   (26484, .cells [iP 4, iP 15, iP 0, iP 0, iP 0, iP 0, .slice 26501 0 2 (.fix 2)] 193 none false),
   (26501, .cells [iP 2, iP 0, iP 0, iP 0, iP 0, iP 0, .slice 26518 0 0 (.fix 0), iP 1, iP 0, iP 0, iP 0, iP 0, iP 0, .slice 26547 0 0 (.fix 0)] 193 none false),
   (26518, .cells [] 193 none false),
   (26547, .cells [] 193 none false),
   (26548, .cells [iP 7, iP 0, iP 0, iP 0, .slice 26569 0 1 (.fix 1), .slice 26587 0 0 (.fix 0), .slice 26588 0 0 (.fix 0)] 169 none false),
   (26569, .cells [iP 1, iP 0, iP 0, iP 0, iP 0, iP 0, .slice 26586 0 0 (.fix 0)] 193 none false),
   (26586, .cells [] 193 none false),
   (26587, .cells [] 169 none false),
   (26588, .cells [] 169 none false),
   (26589, .cells [] 169 none false),
   (26610, .cells [iP 4, iP 1, iP 0, iP 0, iP 0, iP 0, .slice 26627 0 2 (.fix 2)] 193 none false),
   (26627, .cells [iP 5, iP 0, iP 0, iP 0, iP 0, iP 0, .slice 26644 0 1 (.fix 1), iP 1, iP 0, iP 1, iP 0, iP 0, iP 0, .slice 26736 0 0 (.fix 0)] 193 none false),
   (26644, .cells [iP 4, iP 2, iP 0, iP 0, iP 0, iP 0, .slice 26661 0 2 (.fix 2)] 193 none false),
   (26661, .cells [iP 2, iP 0, iP 0, iP 0, iP 0, iP 0, .slice 26678 0 0 (.fix 0), iP 1, iP 0, iP 1, iP 0, iP 0, iP 0, .slice 26707 0 0 (.fix 0)] 193 none false),
   (26678, .cells [] 193 none false),
   (26707, .cells [] 193 none false),
   (26736, .cells [] 193 none false),
   (26737, .cells [] 169 none false),
   (26738, .cells [] 169 none false),
   (26777, .cells [iP 1, iP 0, iP 0, iP 0, .slice 26798 0 1 (.fix 1), .slice 26816 0 0 (.fix 0), .slice 26817 0 0 (.fix 0), iP 4, iP 0, iP 0, iP 0, .slice 26850 0 1 (.fix 1), .slice 26914 0 2 (.fix 2), .slice 27123 0 0 (.fix 0), iP 8, iP 0, iP 0, iP 0, .slice 27144 0 1 (.fix 1), .slice 27174 0 0 (.fix 0), .slice 27175 0 0 (.fix 0), iP 7, iP 0, iP 0, iP 0, .slice 27196 0 1 (.fix 1), .slice 27243 0 0 (.fix 0), .slice 27244 0 0 (.fix 0)] 169 none false),
   (26798, .cells [iP 7, iP 0, iP 0, iP 0, iP 0, iP 0, .slice 26815 0 0 (.fix 0)] 193 none false),
   (26815, .cells [] 193 none false),
   (26816, .cells [] 169 none false),
   (26817, .cells [] 169 none false),
   (26850, .cells [iP 4, iP 13, iP 0, iP 0, iP 0, iP 0, .slice 26867 0 2 (.fix 2)] 193 none false),
   (26867, .cells [iP 2, iP 0, iP 0, iP 0, iP 0, iP 0, .slice 26884 0 0 (.fix 0), iP 1, iP 0, iP 0, iP 0, iP 0, iP 0, .slice 26913 0 0 (.fix 0)] 193 none false),
   (26884, .cells [] 193 none false),
   (26913, .cells [] 193 none false),
   (26914, .cells [iP 1, iP 1, iP 0, iP 0, .slice 26935 0 1 (.fix 1), .slice 27011 0 0 (.fix 0), .slice 27012 0 0 (.fix 0), iP 1, iP 0, iP 0, iP 0, .slice 27045 0 1 (.fix 1), .slice 27109 0 0 (.fix 0), .slice 27110 0 0 (.fix 0)] 169 none false),
   (26935, .cells [iP 4, iP 1, iP 0, iP 0, iP 0, iP 0, .slice 26952 0 2 (.fix 2)] 193 none false),
   (26952, .cells [iP 2, iP 0, iP 0, iP 1, iP 0, iP 0, .slice 26969 0 0 (.fix 0), iP 2, iP 0, iP 0, iP 0, iP 0, iP 0, .slice 26998 0 0 (.fix 0)] 193 none false),
   (26969, .cells [] 193 none false),
   (26998, .cells [] 193 none false),
   (27011, .cells [] 169 none false),
   (27012, .cells [] 169 none false),
   (27045, .cells [iP 4, iP 2, iP 0, iP 0, iP 0, iP 0, .slice 27062 0 2 (.fix 2)] 193 none false),
   (27062, .cells [iP 2, iP 0, iP 0, iP 0, iP 0, iP 0, .slice 27079 0 0 (.fix 0), iP 1, iP 0, iP 1, iP 0, iP 0, iP 0, .slice 27108 0 0 (.fix 0)] 193 none false),
   (27079, .cells [] 193 none false),
   (27108, .cells [] 193 none false),
   (27109, .cells [] 169 none false),
   (27110, .cells [] 169 none false),
   (27123, .cells [] 169 none false),
   (27144, .cells [iP 2, iP 0, iP 0, iP 1, iP 0, iP 0, .slice 27161 0 0 (.fix 0)] 193 none false),
   (27161, .cells [] 193 none false),
   (27174, .cells [] 169 none false),
   (27175, .cells [] 169 none false),
   (27196, .cells [iP 5, iP 0, iP 0, iP 0, iP 0, iP 0, .slice 27213 0 1 (.fix 1)] 193 none false),
   (27213, .cells [iP 7, iP 0, iP 0, iP 0, iP 0, iP 0, .slice 27230 0 0 (.fix 0)] 193 none false),
   (27230, .cells [] 193 none false),
   (27243, .cells [] 169 none false),
   (27244, .cells [] 169 none false),
   (27245, .map []),
   (27246, .cells [.slice 25804 1 1 (.fix 1), .nilslice, .slice 26435 0 2 (.fix 2), .map 27245, .int .i64 (.var 201), iP 100000, iP 1, iP 0] 83 none false),
   (27251, .cells [iP 0, .int .i64 (.var 200)] 3 none false)],
  27343⟩
noncomputable def fin : Pat := ⟨[(0, .ptr 27246 0), (1, .ptr 26777 7), (2, .slice 27251 0 2 (.fix 2)), (6, iP 0)],
  [(26435, .cells [iP 1, .slice 26463 0 2 (.fix 2), iP 2, .slice 26777 0 4 (.fix 4)] 126 none false),
   (26463, .cells [iP 3, iP 0, iP 0, iP 0, .slice 26484 0 1 (.fix 1), .slice 26548 0 1 (.fix 1), .slice 26589 0 0 (.fix 0), iP 7, iP 0, iP 0, iP 0, .slice 26610 0 1 (.fix 1), .slice 26737 0 0 (.fix 0), .slice 26738 0 0 (.fix 0)] 169 none false),
   (26484, .cells [iP 4, iP 15, iP 0, iP 0, iP 0, iP 0, .slice 26501 0 2 (.fix 2)] 193 none false),
   (26501, .cells [iP 2, iP 0, iP 0, iP 0, iP 0, iP 0, .slice 26518 0 0 (.fix 0), iP 1, iP 0, iP 0, iP 0, iP 0, iP 0, .slice 26547 0 0 (.fix 0)] 193 none false),
   (26518, .cells [] 193 none false),
   (26547, .cells [] 193 none false),
   (26548, .cells [iP 7, iP 0, iP 0, iP 0, .slice 26569 0 1 (.fix 1), .slice 26587 0 0 (.fix 0), .slice 26588 0 0 (.fix 0)] 169 none false),
   (26569, .cells [iP 1, iP 0, iP 0, iP 0, iP 0, iP 0, .slice 26586 0 0 (.fix 0)] 193 none false),
   (26586, .cells [] 193 none false),
   (26587, .cells [] 169 none false),
   (26588, .cells [] 169 none false),
   (26589, .cells [] 169 none false),
   (26610, .cells [iP 4, iP 1, iP 0, iP 0, iP 0, iP 0, .slice 26627 0 2 (.fix 2)] 193 none false),
   (26627, .cells [iP 5, iP 0, iP 0, iP 0, iP 0, iP 0, .slice 26644 0 1 (.fix 1), iP 1, iP 0, iP 1, iP 0, iP 0, iP 0, .slice 26736 0 0 (.fix 0)] 193 none false),
   (26644, .cells [iP 4, iP 2, iP 0, iP 0, iP 0, iP 0, .slice 26661 0 2 (.fix 2)] 193 none false),
   (26661, .cells [iP 2, iP 0, iP 0, iP 0, iP 0, iP 0, .slice 26678 0 0 (.fix 0), iP 1, iP 0, iP 1, iP 0, iP 0, iP 0, .slice 26707 0 0 (.fix 0)] 193 none false),
   (26678, .cells [] 193 none false),
   (26707, .cells [] 193 none false),
   (26736, .cells [] 193 none false),
   (26737, .cells [] 169 none false),
   (26738, .cells [] 169 none false),
   (26777, .cells [iP 1, iP 0, iP 0, iP 0, .slice 26798 0 1 (.fix 1), .slice 26816 0 0 (.fix 0), .slice 26817 0 0 (.fix 0), iP 4, iP 0, iP 0, iP 0, .slice 26850 0 1 (.fix 1), .slice 26914 0 2 (.fix 2), .slice 27123 0 0 (.fix 0), iP 8, iP 0, iP 0, iP 0, .slice 27144 0 1 (.fix 1), .slice 27174 0 0 (.fix 0), .slice 27175 0 0 (.fix 0), iP 7, iP 0, iP 0, iP 0, .slice 27196 0 1 (.fix 1), .slice 27243 0 0 (.fix 0), .slice 27244 0 0 (.fix 0)] 169 none false),
   (26798, .cells [iP 7, iP 0, iP 0, iP 0, iP 0, iP 0, .slice 26815 0 0 (.fix 0)] 193 none false),
   (26815, .cells [] 193 none false),
   (26816, .cells [] 169 none false),
   (26817, .cells [] 169 none false),
   (26850, .cells [iP 4, iP 13, iP 0, iP 0, iP 0, iP 0, .slice 26867 0 2 (.fix 2)] 193 none false),
   (26867, .cells [iP 2, iP 0, iP 0, iP 0, iP 0, iP 0, .slice 26884 0 0 (.fix 0), iP 1, iP 0, iP 0, iP 0, iP 0, iP 0, .slice 26913 0 0 (.fix 0)] 193 none false),
   (26884, .cells [] 193 none false),
   (26913, .cells [] 193 none false),
   (26914, .cells [iP 1, iP 1, iP 0, iP 0, .slice 26935 0 1 (.fix 1), .slice 27011 0 0 (.fix 0), .slice 27012 0 0 (.fix 0), iP 1, iP 0, iP 0, iP 0, .slice 27045 0 1 (.fix 1), .slice 27109 0 0 (.fix 0), .slice 27110 0 0 (.fix 0)] 169 none false),
   (26935, .cells [iP 4, iP 1, iP 0, iP 0, iP 0, iP 0, .slice 26952 0 2 (.fix 2)] 193 none false),
   (26952, .cells [iP 2, iP 0, iP 0, iP 1, iP 0, iP 0, .slice 26969 0 0 (.fix 0), iP 2, iP 0, iP 0, iP 0, iP 0, iP 0, .slice 26998 0 0 (.fix 0)] 193 none false),
   (26969, .cells [] 193 none false),
   (26998, .cells [] 193 none false),
   (27011, .cells [] 169 none false),
   (27012, .cells [] 169 none false),
   (27045, .cells [iP 4, iP 2, iP 0, iP 0, iP 0, iP 0, .slice 27062 0 2 (.fix 2)] 193 none false),
   (27062, .cells [iP 2, iP 0, iP 0, iP 0, iP 0, iP 0, .slice 27079 0 0 (.fix 0), iP 1, iP 0, iP 1, iP 0, iP 0, iP 0, .slice 27108 0 0 (.fix 0)] 193 none false),
   (27079, .cells [] 193 none false),
   (27108, .cells [] 193 none false),
   (27109, .cells [] 169 none false),
   (27110, .cells [] 169 none false),
   (27123, .cells [] 169 none false),
   (27144, .cells [iP 2, iP 0, iP 0, iP 1, iP 0, iP 0, .slice 27161 0 0 (.fix 0)] 193 none false),
   (27161, .cells [] 193 none false),
   (27174, .cells [] 169 none false),
   (27175, .cells [] 169 none false),
   (27196, .cells [iP 5, iP 0, iP 0, iP 0, iP 0, iP 0, .slice 27213 0 1 (.fix 1)] 193 none false),
   (27213, .cells [iP 7, iP 0, iP 0, iP 0, iP 0, iP 0, .slice 27230 0 0 (.fix 0)] 193 none false),
   (27230, .cells [] 193 none false),
   (27243, .cells [] 169 none false),
   (27244, .cells [] 169 none false),
   (27245, .map []),
   (27246, .cells [.slice 25804 1 1 (.fix 1), .nilslice, .slice 26435 0 2 (.fix 2), .map 27245, .int .i64 (.var 50), iP 100000, iP 1, iP 0] 83 none false),
   (27251, .cells [iP 0, .int .i64 (.bin .quo .i64 (.bin .mul .i64 (.var 2) (.bin .add .i64 (.var 2) (.lit (.ofNat 1)))) (.lit (.ofNat 2)))] 3 none false)],
  27343⟩
noncomputable def gfacts : List Fact := [⟨.gtr, .var 5, .lit (.ofNat 0), true⟩, ⟨.leq, .var 7, .lit (.ofNat 2000), true⟩, ⟨.geq, .var 7, .lit (.ofNat 0), true⟩]
noncomputable def efacts : List Fact := [⟨.gtr, .var 5, .lit (.ofNat 0), false⟩, ⟨.leq, .var 7, .lit (.ofNat 2000), true⟩, ⟨.geq, .var 7, .lit (.ofNat 0), true⟩]
noncomputable def sub (i : Nat) : SI := match Nat.beq i 5 with
  | true => .bin .sub .i64 (.var 5) (.lit (.ofNat 1))
  | false => match Nat.beq i 6 with
    | true => .bin .add .i64 (.var 6) (.var 5)
    | false => match Nat.beq i 7 with
      | true => .bin .add .i64 (.var 7) (.lit (.ofNat 11))
      | false => .var i
noncomputable def lp : Lp := ⟨27, pat, out, .exit 0, 1, 3000, sub, [(.var 5, .lit (.ofNat 0)), (.var 6, .var 200), (.bin .add .i64 (.var 7) (.lit (.ofNat 3)), .var 201)]⟩
/-- The numbers that the loop begins with. -/
noncomputable def ini (i : Nat) : SI := match Nat.beq i 5 with
  | true => .var 2
  | false => match Nat.beq i 6 with
    | true => .lit (.ofNat 0)
    | false => match Nat.beq i 7 with
      | true => .lit (.ofNat 3)
      | false => match Nat.beq i 200 with
        | true => .bin .quo .i64 (.bin .mul .i64 (.var 2) (.bin .add .i64 (.var 2) (.lit (.ofNat 1)))) (.lit (.ofNat 2))
        | false => match Nat.beq i 201 with
          | true => .var 50
          | false => .var i

/-! ### What is counted -/
noncomputable def tri : Nat → Nat
  | 0 => 0
  | m + 1 => tri m + (m + 1)
theorem tri_eq : ∀ m, 2 * tri m = m * (m + 1)
  | 0 => rfl
  | m + 1 => by
    have := tri_eq m
    simp only [tri]
    have h : (m + 1) * (m + 1 + 1) = m * (m + 1) + 2 * (m + 1) := by
      rw [show m + 1 + 1 = m + 2 from rfl, Nat.mul_add (m + 1) m 2, Nat.mul_comm (m + 1) m, Nat.mul_comm (m + 1) 2]
    omega
theorem tri_le {m : Nat} (h : m ≤ 100) : tri m ≤ 5050 := by
  have h1 := tri_eq m
  have h2 : m * (m + 1) ≤ 100 * 101 := Nat.mul_le_mul h (by omega)
  omega
theorem wrap_id {x : Int} (h0 : -9223372036854775808 ≤ x) (h1 : x ≤ 9223372036854775807) : IntKind.i64.wrap x = x := by
  have : IntKind.i64.wrap x = (if (true && decide (x % (2 ^ 64 : Int) ≥ (2 ^ 63 : Int))) = true then x % (2 ^ 64 : Int) - (2 ^ 64 : Int) else x % (2 ^ 64 : Int)) := rfl
  rw [this]
  simp only [Bool.true_and, decide_eq_true_eq]
  split <;> omega
theorem facts_nil {I : Nat → Int} : FactsOk [] I := fun _ h => nomatch h
theorem facts_cons {I : Nat → Int} {op : BinOp} {a b : SI} {r : Bool} {F : List Fact} (h : icmp op (a.den I) (b.den I) = r) (t : FactsOk F I) : FactsOk (⟨op, a, b, r⟩ :: F) I := fun f hf => by
  rcases List.mem_cons.1 hf with rfl | hf
  · exact h
  · exact t f hf

/-- What is so when the loop has m rounds to go. -/
noncomputable def Inv (I : Nat → Int) (_ : Nat → Value) (m : Nat) : Prop := m ≤ 100 ∧ I 5 = (m : Int) ∧ 0 ≤ I 6 ∧ I 6 + (tri m : Int) = I 200 ∧ I 200 ≤ 5050 ∧ 0 ≤ I 7 ∧ I 7 + 11 * (m : Int) + 3 = I 201 ∧ I 201 ≤ 1106

theorem add_i64 {x y : Int} (h0 : -9223372036854775808 ≤ x + y) (h1 : x + y ≤ 9223372036854775807) : iop .add .i64 x y = x + y := wrap_id h0 h1
theorem sub_i64 {x y : Int} (h0 : -9223372036854775808 ≤ x - y) (h1 : x - y ≤ 9223372036854775807) : iop .sub .i64 x y = x - y := wrap_id h0 h1
theorem mul_i64 {x y : Int} (h0 : -9223372036854775808 ≤ x * y) (h1 : x * y ≤ 9223372036854775807) : iop .mul .i64 x y = x * y := wrap_id h0 h1
theorem quo_i64 {x y : Int} (h0 : -9223372036854775808 ≤ x.tdiv y) (h1 : x.tdiv y ≤ 9223372036854775807) : iop .quo .i64 x y = x.tdiv y := wrap_id h0 h1

theorem go_facts {I : Nat → Int} {O : Nat → Value} {m : Nat} (h : Inv I O (m + 1)) : FactsOk gfacts I := by
  obtain ⟨h1, h2, h3, h4, h5, h6, h7, h8⟩ := h
  refine facts_cons ?_ (facts_cons ?_ (facts_cons ?_ facts_nil))
  · show decide (I 5 > 0) = true
    exact decide_eq_true (by omega)
  · show decide (I 7 ≤ 2000) = true
    exact decide_eq_true (by omega)
  · show decide (I 7 ≥ 0) = true
    exact decide_eq_true (by omega)

theorem end_facts {I : Nat → Int} {O : Nat → Value} (h : Inv I O 0) : FactsOk efacts I := by
  obtain ⟨h1, h2, h3, h4, h5, h6, h7, h8⟩ := h
  refine facts_cons ?_ (facts_cons ?_ (facts_cons ?_ facts_nil))
  · show decide (I 5 > 0) = false
    exact decide_eq_false (by omega)
  · show decide (I 7 ≤ 2000) = true
    exact decide_eq_true (by omega)
  · show decide (I 7 ≥ 0) = true
    exact decide_eq_true (by omega)

theorem inv_next {I : Nat → Int} {O : Nat → Value} {m : Nat} (h : Inv I O (m + 1)) : Inv (fun i => (sub i).den I) O m := by
  obtain ⟨h1, h2, h3, h4, h5, h6, h7, h8⟩ := h
  have ht : ((tri (m + 1) : Nat) : Int) = tri m + (m + 1) := by simp only [tri]; omega
  rw [ht] at h4
  have e5 : (sub 5).den I = I 5 - 1 := by
    show iop .sub .i64 (I 5) 1 = _
    rw [sub_i64 (by omega) (by omega)]
  have e6 : (sub 6).den I = I 6 + I 5 := by
    show iop .add .i64 (I 6) (I 5) = _
    rw [add_i64 (by omega) (by omega)]
  have e7 : (sub 7).den I = I 7 + 11 := by
    show iop .add .i64 (I 7) 11 = _
    rw [add_i64 (by omega) (by omega)]
  have e200 : (sub 200).den I = I 200 := rfl
  have e201 : (sub 201).den I = I 201 := rfl
  unfold Inv
  simp only [e5, e6, e7, e200, e201]
  refine ⟨by omega, by omega, by omega, by omega, h5, by omega, by omega, h8⟩

theorem inv_end {I : Nat → Int} {O : Nat → Value} (h : Inv I O 0) : ∀ a b, (a, b) ∈ lp.eqs → a.den I = b.den I := by
  obtain ⟨h1, h2, h3, h4, h5, h6, h7, h8⟩ := h
  intro a b hm
  simp only [lp, List.mem_cons, List.not_mem_nil, or_false, Prod.mk.injEq] at hm
  rcases hm with ⟨rfl, rfl⟩ | ⟨rfl, rfl⟩ | ⟨rfl, rfl⟩
  · show I 5 = 0
    omega
  · show I 6 = I 200
    simp only [tri] at h4
    omega
  · show iop .add .i64 (I 7) 3 = I 201
    rw [add_i64 (by omega) (by omega)]
    omega

theorem inv_ini {I : Nat → Int} {O : Nat → Value} (h : (0 ≤ I 2 ∧ I 2 < 101) ∧ I 50 = 6 + 11 * I 2) : Inv (fun i => (ini i).den I) O (I 2).toNat := by
  obtain ⟨h, h50⟩ := h
  obtain ⟨m, hm⟩ : ∃ m : Nat, I 2 = (m : Int) := ⟨(I 2).toNat, by omega⟩
  have hmle : m ≤ 100 := by omega
  have ht := tri_eq m
  have htl := tri_le hmle
  have e5 : (ini 5).den I = I 2 := rfl
  have e6 : (ini 6).den I = 0 := rfl
  have e7 : (ini 7).den I = 3 := rfl
  have hmul : (m : Int) * ((m : Int) + 1) = 2 * (tri m : Int) := by
    rw [show ((m : Int) + 1) = ((m + 1 : Nat) : Int) by omega, ← Int.natCast_mul, ← ht]; omega
  have e200 : (ini 200).den I = (tri m : Int) := by
    show iop .quo .i64 (iop .mul .i64 (I 2) (iop .add .i64 (I 2) 1)) 2 = _
    rw [hm, add_i64 (by omega) (by omega), mul_i64 (by rw [hmul]; omega) (by rw [hmul]; omega), hmul]
    have hd : (2 * (tri m : Int)).tdiv 2 = tri m := by rw [Int.tdiv_eq_ediv_of_nonneg (by omega)]; omega
    rw [quo_i64 (by rw [hd]; omega) (by rw [hd]; omega), hd]
  have e201 : (ini 201).den I = 6 + 11 * (m : Int) := by
    show I 50 = _
    rw [h50, hm]
  have hn : (I 2).toNat = m := by omega
  rw [hn]
  unfold Inv
  simp only [e5, e6, e7, e200, e201, hm]
  refine ⟨hmle, trivial, by omega, by omega, by omega, by omega, by omega, by omega⟩
end Go.Proofs.YtggonamheakkkaaGreatDoor.EvalCounts
