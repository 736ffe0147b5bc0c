/-
  Layer 06: what was stored is told, at its place and nowhere else: parts of the run.
-/
import Derived.Test.YtggonamheakkkaaGreatDoorXy
import Derived.Test.YtggonamheakkkaaGreatDoorEval
namespace Go.Proofs.YtggonamheakkkaaGreatDoor.ArrK
open Go.Xq Go.RowKit Go.Proofs.YtggonamheakkkaaGreatDoor
set_option maxRecDepth 1000000
noncomputable def iP (n : Nat) : SV := .int .i64 (.lit (.ofNat n))
noncomputable def iN (n : Nat) : SV := .int .i64 (.lit (.negSucc n))
noncomputable def p0 : Part := ⟨70, [.str [105, 110, 116, 32, 97, 91, 49, 48, 93, 59, 32, 105, 110, 116, 32, 98, 91, 49, 48, 93, 59, 32, 105, 110, 116, 32, 109, 97, 105, 110, 40, 41, 32, 123, 32, 97, 91, 114, 101, 97, 100, 40, 41, 93, 32, 61, 32, 114, 101, 97, 100, 40, 41, 59, 32, 105, 110, 116, 32, 120, 59, 32, 125]], 301,
  [],
  .slice 301 0 64 (.fix 64),
  [(301, .cells [.int .i32 (.lit (.ofNat 105)), iP 0, .int .i32 (.lit (.ofNat 110)), iP 1, .int .i32 (.lit (.ofNat 116)), iP 2, .int .i32 (.lit (.ofNat 32)), iP 3, .int .i32 (.lit (.ofNat 97)), iP 4, .int .i32 (.lit (.ofNat 91)), iP 5, .int .i32 (.lit (.ofNat 49)), iP 6, .int .i32 (.lit (.ofNat 48)), iP 7, .int .i32 (.lit (.ofNat 93)), iP 8, .int .i32 (.lit (.ofNat 59)), iP 9, .int .i32 (.lit (.ofNat 32)), iP 10, .int .i32 (.lit (.ofNat 105)), iP 11, .int .i32 (.lit (.ofNat 110)), iP 12, .int .i32 (.lit (.ofNat 116)), iP 13, .int .i32 (.lit (.ofNat 32)), iP 14, .int .i32 (.lit (.ofNat 98)), iP 15, .int .i32 (.lit (.ofNat 91)), iP 16, .int .i32 (.lit (.ofNat 49)), iP 17, .int .i32 (.lit (.ofNat 48)), iP 18, .int .i32 (.lit (.ofNat 93)), iP 19, .int .i32 (.lit (.ofNat 59)), iP 20, .int .i32 (.lit (.ofNat 32)), iP 21, .int .i32 (.lit (.ofNat 105)), iP 22, .int .i32 (.lit (.ofNat 110)), iP 23, .int .i32 (.lit (.ofNat 116)), iP 24, .int .i32 (.lit (.ofNat 32)), iP 25, .int .i32 (.lit (.ofNat 109)), iP 26, .int .i32 (.lit (.ofNat 97)), iP 27, .int .i32 (.lit (.ofNat 105)), iP 28, .int .i32 (.lit (.ofNat 110)), iP 29, .int .i32 (.lit (.ofNat 40)), iP 30, .int .i32 (.lit (.ofNat 41)), iP 31, .int .i32 (.lit (.ofNat 32)), iP 32, .int .i32 (.lit (.ofNat 123)), iP 33, .int .i32 (.lit (.ofNat 32)), iP 34, .int .i32 (.lit (.ofNat 97)), iP 35, .int .i32 (.lit (.ofNat 91)), iP 36, .int .i32 (.lit (.ofNat 114)), iP 37, .int .i32 (.lit (.ofNat 101)), iP 38, .int .i32 (.lit (.ofNat 97)), iP 39, .int .i32 (.lit (.ofNat 100)), iP 40, .int .i32 (.lit (.ofNat 40)), iP 41, .int .i32 (.lit (.ofNat 41)), iP 42, .int .i32 (.lit (.ofNat 93)), iP 43, .int .i32 (.lit (.ofNat 32)), iP 44, .int .i32 (.lit (.ofNat 61)), iP 45, .int .i32 (.lit (.ofNat 32)), iP 46, .int .i32 (.lit (.ofNat 114)), iP 47, .int .i32 (.lit (.ofNat 101)), iP 48, .int .i32 (.lit (.ofNat 97)), iP 49, .int .i32 (.lit (.ofNat 100)), iP 50, .int .i32 (.lit (.ofNat 40)), iP 51, .int .i32 (.lit (.ofNat 41)), iP 52, .int .i32 (.lit (.ofNat 59)), iP 53, .int .i32 (.lit (.ofNat 32)), iP 54, .int .i32 (.lit (.ofNat 105)), iP 55, .int .i32 (.lit (.ofNat 110)), iP 56, .int .i32 (.lit (.ofNat 116)), iP 57, .int .i32 (.lit (.ofNat 32)), iP 58, .int .i32 (.lit (.ofNat 120)), iP 59, .int .i32 (.lit (.ofNat 59)), iP 60, .int .i32 (.lit (.ofNat 32)), iP 61, .int .i32 (.lit (.ofNat 125)), iP 62, .int .i32 (.lit (.negSucc 0)), iP 63] 182 none false)],
  367⟩
noncomputable def p1 : Part := ⟨43, [.str [105, 110, 116, 32, 97, 91, 49, 48, 93, 59, 32, 105, 110, 116, 32, 98, 91, 49, 48, 93, 59, 32, 105, 110, 116, 32, 109, 97, 105, 110, 40, 41, 32, 123, 32, 97, 91, 114, 101, 97, 100, 40, 41, 93, 32, 61, 32, 114, 101, 97, 100, 40, 41, 59, 32, 105, 110, 116, 32, 120, 59, 32, 125]], 301,
  [],
  .tuple [.slice 7512 0 33 (.less 0), iP 0, iP 0],
  [(7512, .cells [iP 2, .str [105, 110, 116], iP 0, iP 1, iP 1, .str [97], iP 0, iP 1, iP 4, .str [91], iP 0, iP 1, iP 3, .str [49, 48], iP 10, iP 1, iP 4, .str [93], iP 0, iP 1, iP 4, .str [59], iP 0, iP 1, iP 2, .str [105, 110, 116], iP 0, iP 1, iP 1, .str [98], iP 0, iP 1, iP 4, .str [91], iP 0, iP 1, iP 3, .str [49, 48], iP 10, iP 1, iP 4, .str [93], iP 0, iP 1, iP 4, .str [59], iP 0, iP 1, iP 2, .str [105, 110, 116], iP 0, iP 1, iP 1, .str [109, 97, 105, 110], iP 0, iP 1, iP 4, .str [40], iP 0, iP 1, iP 4, .str [41], iP 0, iP 1, iP 4, .str [123], iP 0, iP 1, iP 1, .str [97], iP 0, iP 1, iP 4, .str [91], iP 0, iP 1, iP 2, .str [114, 101, 97, 100], iP 0, iP 1, iP 4, .str [40], iP 0, iP 1, iP 4, .str [41], iP 0, iP 1, iP 4, .str [93], iP 0, iP 1, iP 4, .str [61], iP 0, iP 1, iP 2, .str [114, 101, 97, 100], iP 0, iP 1, iP 4, .str [40], iP 0, iP 1, iP 4, .str [41], iP 0, iP 1, iP 4, .str [59], iP 0, iP 1, iP 2, .str [105, 110, 116], iP 0, iP 1, iP 1, .str [120], iP 0, iP 1, iP 4, .str [59], iP 0, iP 1, iP 4, .str [125], iP 0, iP 1, iP 5, .str [], iP 0, iP 1] 153 (some 4) false)],
  7513⟩
noncomputable def p2 : Part := ⟨23, [.str [105, 110, 116, 32, 97, 91, 49, 48, 93, 59, 32, 105, 110, 116, 32, 98, 91, 49, 48, 93, 59, 32, 105, 110, 116, 32, 109, 97, 105, 110, 40, 41, 32, 123, 32, 97, 91, 114, 101, 97, 100, 40, 41, 93, 32, 61, 32, 114, 101, 97, 100, 40, 41, 59, 32, 105, 110, 116, 32, 120, 59, 32, 125]], 300,
  [],
  .tuple [.agg [.nilslice, .nilslice], iP 40, iP 1],
  [],
  8683⟩
noncomputable def p3 : Part := ⟨70, [.str [105, 110, 116, 32, 97, 91, 49, 48, 93, 59, 32, 105, 110, 116, 32, 98, 91, 49, 48, 93, 59, 32, 105, 110, 116, 32, 109, 97, 105, 110, 40, 41, 32, 123, 32, 97, 91, 114, 101, 97, 100, 40, 41, 93, 32, 61, 32, 114, 101, 97, 100, 40, 41, 59, 32, 112, 114, 105, 110, 116, 40, 97, 91, 114, 101, 97, 100, 40, 41, 93, 41, 59, 32, 112, 114, 105, 110, 116, 40, 98, 91, 114, 101, 97, 100, 40, 41, 93, 41, 59, 32, 125]], 8685,
  [],
  .slice 8685 0 93 (.fix 93),
  [(8685, .cells [.int .i32 (.lit (.ofNat 105)), iP 0, .int .i32 (.lit (.ofNat 110)), iP 1, .int .i32 (.lit (.ofNat 116)), iP 2, .int .i32 (.lit (.ofNat 32)), iP 3, .int .i32 (.lit (.ofNat 97)), iP 4, .int .i32 (.lit (.ofNat 91)), iP 5, .int .i32 (.lit (.ofNat 49)), iP 6, .int .i32 (.lit (.ofNat 48)), iP 7, .int .i32 (.lit (.ofNat 93)), iP 8, .int .i32 (.lit (.ofNat 59)), iP 9, .int .i32 (.lit (.ofNat 32)), iP 10, .int .i32 (.lit (.ofNat 105)), iP 11, .int .i32 (.lit (.ofNat 110)), iP 12, .int .i32 (.lit (.ofNat 116)), iP 13, .int .i32 (.lit (.ofNat 32)), iP 14, .int .i32 (.lit (.ofNat 98)), iP 15, .int .i32 (.lit (.ofNat 91)), iP 16, .int .i32 (.lit (.ofNat 49)), iP 17, .int .i32 (.lit (.ofNat 48)), iP 18, .int .i32 (.lit (.ofNat 93)), iP 19, .int .i32 (.lit (.ofNat 59)), iP 20, .int .i32 (.lit (.ofNat 32)), iP 21, .int .i32 (.lit (.ofNat 105)), iP 22, .int .i32 (.lit (.ofNat 110)), iP 23, .int .i32 (.lit (.ofNat 116)), iP 24, .int .i32 (.lit (.ofNat 32)), iP 25, .int .i32 (.lit (.ofNat 109)), iP 26, .int .i32 (.lit (.ofNat 97)), iP 27, .int .i32 (.lit (.ofNat 105)), iP 28, .int .i32 (.lit (.ofNat 110)), iP 29, .int .i32 (.lit (.ofNat 40)), iP 30, .int .i32 (.lit (.ofNat 41)), iP 31, .int .i32 (.lit (.ofNat 32)), iP 32, .int .i32 (.lit (.ofNat 123)), iP 33, .int .i32 (.lit (.ofNat 32)), iP 34, .int .i32 (.lit (.ofNat 97)), iP 35, .int .i32 (.lit (.ofNat 91)), iP 36, .int .i32 (.lit (.ofNat 114)), iP 37, .int .i32 (.lit (.ofNat 101)), iP 38, .int .i32 (.lit (.ofNat 97)), iP 39, .int .i32 (.lit (.ofNat 100)), iP 40, .int .i32 (.lit (.ofNat 40)), iP 41, .int .i32 (.lit (.ofNat 41)), iP 42, .int .i32 (.lit (.ofNat 93)), iP 43, .int .i32 (.lit (.ofNat 32)), iP 44, .int .i32 (.lit (.ofNat 61)), iP 45, .int .i32 (.lit (.ofNat 32)), iP 46, .int .i32 (.lit (.ofNat 114)), iP 47, .int .i32 (.lit (.ofNat 101)), iP 48, .int .i32 (.lit (.ofNat 97)), iP 49, .int .i32 (.lit (.ofNat 100)), iP 50, .int .i32 (.lit (.ofNat 40)), iP 51, .int .i32 (.lit (.ofNat 41)), iP 52, .int .i32 (.lit (.ofNat 59)), iP 53, .int .i32 (.lit (.ofNat 32)), iP 54, .int .i32 (.lit (.ofNat 112)), iP 55, .int .i32 (.lit (.ofNat 114)), iP 56, .int .i32 (.lit (.ofNat 105)), iP 57, .int .i32 (.lit (.ofNat 110)), iP 58, .int .i32 (.lit (.ofNat 116)), iP 59, .int .i32 (.lit (.ofNat 40)), iP 60, .int .i32 (.lit (.ofNat 97)), iP 61, .int .i32 (.lit (.ofNat 91)), iP 62, .int .i32 (.lit (.ofNat 114)), iP 63, .int .i32 (.lit (.ofNat 101)), iP 64, .int .i32 (.lit (.ofNat 97)), iP 65, .int .i32 (.lit (.ofNat 100)), iP 66, .int .i32 (.lit (.ofNat 40)), iP 67, .int .i32 (.lit (.ofNat 41)), iP 68, .int .i32 (.lit (.ofNat 93)), iP 69, .int .i32 (.lit (.ofNat 41)), iP 70, .int .i32 (.lit (.ofNat 59)), iP 71, .int .i32 (.lit (.ofNat 32)), iP 72, .int .i32 (.lit (.ofNat 112)), iP 73, .int .i32 (.lit (.ofNat 114)), iP 74, .int .i32 (.lit (.ofNat 105)), iP 75, .int .i32 (.lit (.ofNat 110)), iP 76, .int .i32 (.lit (.ofNat 116)), iP 77, .int .i32 (.lit (.ofNat 40)), iP 78, .int .i32 (.lit (.ofNat 98)), iP 79, .int .i32 (.lit (.ofNat 91)), iP 80, .int .i32 (.lit (.ofNat 114)), iP 81, .int .i32 (.lit (.ofNat 101)), iP 82, .int .i32 (.lit (.ofNat 97)), iP 83, .int .i32 (.lit (.ofNat 100)), iP 84, .int .i32 (.lit (.ofNat 40)), iP 85, .int .i32 (.lit (.ofNat 41)), iP 86, .int .i32 (.lit (.ofNat 93)), iP 87, .int .i32 (.lit (.ofNat 41)), iP 88, .int .i32 (.lit (.ofNat 59)), iP 89, .int .i32 (.lit (.ofNat 32)), iP 90, .int .i32 (.lit (.ofNat 125)), iP 91, .int .i32 (.lit (.negSucc 0)), iP 92] 182 none false)],
  8780⟩
noncomputable def p4 : Part := ⟨43, [.str [105, 110, 116, 32, 97, 91, 49, 48, 93, 59, 32, 105, 110, 116, 32, 98, 91, 49, 48, 93, 59, 32, 105, 110, 116, 32, 109, 97, 105, 110, 40, 41, 32, 123, 32, 97, 91, 114, 101, 97, 100, 40, 41, 93, 32, 61, 32, 114, 101, 97, 100, 40, 41, 59, 32, 112, 114, 105, 110, 116, 40, 97, 91, 114, 101, 97, 100, 40, 41, 93, 41, 59, 32, 112, 114, 105, 110, 116, 40, 98, 91, 114, 101, 97, 100, 40, 41, 93, 41, 59, 32, 125]], 8685,
  [],
  .tuple [.slice 19382 0 50 (.less 0), iP 0, iP 0],
  [(19382, .cells [iP 2, .str [105, 110, 116], iP 0, iP 1, iP 1, .str [97], iP 0, iP 1, iP 4, .str [91], iP 0, iP 1, iP 3, .str [49, 48], iP 10, iP 1, iP 4, .str [93], iP 0, iP 1, iP 4, .str [59], iP 0, iP 1, iP 2, .str [105, 110, 116], iP 0, iP 1, iP 1, .str [98], iP 0, iP 1, iP 4, .str [91], iP 0, iP 1, iP 3, .str [49, 48], iP 10, iP 1, iP 4, .str [93], iP 0, iP 1, iP 4, .str [59], iP 0, iP 1, iP 2, .str [105, 110, 116], iP 0, iP 1, iP 1, .str [109, 97, 105, 110], iP 0, iP 1, iP 4, .str [40], iP 0, iP 1, iP 4, .str [41], iP 0, iP 1, iP 4, .str [123], iP 0, iP 1, iP 1, .str [97], iP 0, iP 1, iP 4, .str [91], iP 0, iP 1, iP 2, .str [114, 101, 97, 100], iP 0, iP 1, iP 4, .str [40], iP 0, iP 1, iP 4, .str [41], iP 0, iP 1, iP 4, .str [93], iP 0, iP 1, iP 4, .str [61], iP 0, iP 1, iP 2, .str [114, 101, 97, 100], iP 0, iP 1, iP 4, .str [40], iP 0, iP 1, iP 4, .str [41], iP 0, iP 1, iP 4, .str [59], iP 0, iP 1, iP 2, .str [112, 114, 105, 110, 116], iP 0, iP 1, iP 4, .str [40], iP 0, iP 1, iP 1, .str [97], iP 0, iP 1, iP 4, .str [91], iP 0, iP 1, iP 2, .str [114, 101, 97, 100], iP 0, iP 1, iP 4, .str [40], iP 0, iP 1, iP 4, .str [41], iP 0, iP 1, iP 4, .str [93], iP 0, iP 1, iP 4, .str [41], iP 0, iP 1, iP 4, .str [59], iP 0, iP 1, iP 2, .str [112, 114, 105, 110, 116], iP 0, iP 1, iP 4, .str [40], iP 0, iP 1, iP 1, .str [98], iP 0, iP 1, iP 4, .str [91], iP 0, iP 1, iP 2, .str [114, 101, 97, 100], iP 0, iP 1, iP 4, .str [40], iP 0, iP 1, iP 4, .str [41], iP 0, iP 1, iP 4, .str [93], iP 0, iP 1, iP 4, .str [41], iP 0, iP 1, iP 4, .str [59], iP 0, iP 1, iP 4, .str [125], iP 0, iP 1, iP 5, .str [], iP 0, iP 1] 153 (some 4) false)],
  19383⟩
noncomputable def p5 : Part := ⟨23, [.str [105, 110, 116, 32, 97, 91, 49, 48, 93, 59, 32, 105, 110, 116, 32, 98, 91, 49, 48, 93, 59, 32, 105, 110, 116, 32, 109, 97, 105, 110, 40, 41, 32, 123, 32, 97, 91, 114, 101, 97, 100, 40, 41, 93, 32, 61, 32, 114, 101, 97, 100, 40, 41, 59, 32, 112, 114, 105, 110, 116, 40, 97, 91, 114, 101, 97, 100, 40, 41, 93, 41, 59, 32, 112, 114, 105, 110, 116, 40, 98, 91, 114, 101, 97, 100, 40, 41, 93, 41, 59, 32, 125]], 8684,
  [],
  .tuple [.agg [.slice 19536 0 2 (.less 0), .slice 21969 0 1 (.less 0)], iP 0, iP 0],
  [(19536, .cells [.str [97], iP 10, .str [98], iP 10] 68 (some 2) false),
   (20079, .cells [iP 7, iP 0, iP 0, .str [], .nilslice, iP 7, iP 0, iP 0, .str [], .nilslice] 31 none false),
   (20919, .cells [iP 7, iP 0, iP 0, .str [], .nilslice] 31 none false),
   (21176, .cells [iP 6, iP 0, iP 0, .str [97], .slice 20919 0 1 (.fix 1)] 31 none false),
   (21684, .cells [iP 7, iP 0, iP 0, .str [], .nilslice] 31 none false),
   (21941, .cells [iP 6, iP 0, iP 0, .str [98], .slice 21684 0 1 (.fix 1)] 31 none false),
   (21956, .cells [iP 2, .str [97], .slice 20079 0 2 (.fix 2), .nilslice, .nilslice, iP 8, .str [], .slice 21176 0 1 (.fix 1), .nilslice, .nilslice, iP 8, .str [], .slice 21941 0 1 (.fix 1), .nilslice, .nilslice] 54 (some 5) false),
   (21969, .cells [.str [109, 97, 105, 110], .nilslice, .nilslice, .slice 21956 0 3 (.less 0)] 52 (some 4) false)],
  22033⟩
noncomputable def p6 : Part := ⟨31, [.agg [.slice 19536 0 2 (.less 0), .slice 21969 0 1 (.less 0)]], 22037,
  [(19536, .cells [.str [97], iP 10, .str [98], iP 10] 68 (some 2) false),
   (20079, .cells [iP 7, iP 0, iP 0, .str [], .nilslice, iP 7, iP 0, iP 0, .str [], .nilslice] 31 none false),
   (20919, .cells [iP 7, iP 0, iP 0, .str [], .nilslice] 31 none false),
   (21176, .cells [iP 6, iP 0, iP 0, .str [97], .slice 20919 0 1 (.fix 1)] 31 none false),
   (21684, .cells [iP 7, iP 0, iP 0, .str [], .nilslice] 31 none false),
   (21941, .cells [iP 6, iP 0, iP 0, .str [98], .slice 21684 0 1 (.fix 1)] 31 none false),
   (21956, .cells [iP 2, .str [97], .slice 20079 0 2 (.fix 2), .nilslice, .nilslice, iP 8, .str [], .slice 21176 0 1 (.fix 1), .nilslice, .nilslice, iP 8, .str [], .slice 21941 0 1 (.fix 1), .nilslice, .nilslice] 54 (some 5) false),
   (21969, .cells [.str [109, 97, 105, 110], .nilslice, .nilslice, .slice 21956 0 3 (.less 0)] 52 (some 4) false)],
  .tuple [iP 0, .agg [iP 0, iP 0]],
  [(19536, .cells [.str [97], iP 10, .str [98], iP 10] 68 (some 2) false),
   (20079, .cells [iP 7, iP 0, iP 0, .str [], .nilslice, iP 7, iP 0, iP 0, .str [], .nilslice] 31 none false),
   (20919, .cells [iP 7, iP 0, iP 0, .str [], .nilslice] 31 none false),
   (21176, .cells [iP 6, iP 0, iP 0, .str [97], .slice 20919 0 1 (.fix 1)] 31 none false),
   (21684, .cells [iP 7, iP 0, iP 0, .str [], .nilslice] 31 none false),
   (21941, .cells [iP 6, iP 0, iP 0, .str [98], .slice 21684 0 1 (.fix 1)] 31 none false),
   (21956, .cells [iP 2, .str [97], .slice 20079 0 2 (.fix 2), .nilslice, .nilslice, iP 8, .str [], .slice 21176 0 1 (.fix 1), .nilslice, .nilslice, iP 8, .str [], .slice 21941 0 1 (.fix 1), .nilslice, .nilslice] 54 (some 5) false),
   (21969, .cells [.str [109, 97, 105, 110], .nilslice, .nilslice, .slice 21956 0 3 (.less 0)] 52 (some 4) false)],
  22250⟩
noncomputable def p7 : Part := ⟨32, [.agg [.slice 19536 0 2 (.less 0), .slice 21969 0 1 (.less 0)]], 22251,
  [(19536, .cells [.str [97], iP 10, .str [98], iP 10] 68 (some 2) false),
   (20079, .cells [iP 7, iP 0, iP 0, .str [], .nilslice, iP 7, iP 0, iP 0, .str [], .nilslice] 31 none false),
   (20919, .cells [iP 7, iP 0, iP 0, .str [], .nilslice] 31 none false),
   (21176, .cells [iP 6, iP 0, iP 0, .str [97], .slice 20919 0 1 (.fix 1)] 31 none false),
   (21684, .cells [iP 7, iP 0, iP 0, .str [], .nilslice] 31 none false),
   (21941, .cells [iP 6, iP 0, iP 0, .str [98], .slice 21684 0 1 (.fix 1)] 31 none false),
   (21956, .cells [iP 2, .str [97], .slice 20079 0 2 (.fix 2), .nilslice, .nilslice, iP 8, .str [], .slice 21176 0 1 (.fix 1), .nilslice, .nilslice, iP 8, .str [], .slice 21941 0 1 (.fix 1), .nilslice, .nilslice] 54 (some 5) false),
   (21969, .cells [.str [109, 97, 105, 110], .nilslice, .nilslice, .slice 21956 0 3 (.less 0)] 52 (some 4) false)],
  .slice 22297 0 1 (.fix 1),
  [(19536, .cells [.str [97], iP 10, .str [98], iP 10] 68 (some 2) false),
   (20079, .cells [iP 7, iP 0, iP 0, .str [], .nilslice, iP 7, iP 0, iP 0, .str [], .nilslice] 31 none false),
   (20919, .cells [iP 7, iP 0, iP 0, .str [], .nilslice] 31 none false),
   (21176, .cells [iP 6, iP 0, iP 0, .str [97], .slice 20919 0 1 (.fix 1)] 31 none false),
   (21684, .cells [iP 7, iP 0, iP 0, .str [], .nilslice] 31 none false),
   (21941, .cells [iP 6, iP 0, iP 0, .str [98], .slice 21684 0 1 (.fix 1)] 31 none false),
   (21956, .cells [iP 2, .str [97], .slice 20079 0 2 (.fix 2), .nilslice, .nilslice, iP 8, .str [], .slice 21176 0 1 (.fix 1), .nilslice, .nilslice, iP 8, .str [], .slice 21941 0 1 (.fix 1), .nilslice, .nilslice] 54 (some 5) false),
   (21969, .cells [.str [109, 97, 105, 110], .nilslice, .nilslice, .slice 21956 0 3 (.less 0)] 52 (some 4) false),
   (22297, .cells [iP 0, .slice 22314 0 3 (.fix 3)] 126 none false),
   (22314, .cells [iP 2, iP 0, iP 0, iP 10, .slice 22335 0 2 (.fix 2), .slice 22370 0 0 (.fix 0), .slice 22371 0 0 (.fix 0), iP 8, iP 0, iP 0, iP 0, .slice 22404 0 1 (.fix 1), .slice 22451 0 0 (.fix 0), .slice 22452 0 0 (.fix 0), iP 8, iP 0, iP 0, iP 0, .slice 22473 0 1 (.fix 1), .slice 22520 0 0 (.fix 0), .slice 22521 0 0 (.fix 0)] 169 none false),
   (22335, .cells [iP 7, iP 0, iP 0, iP 0, iP 0, iP 0, .slice 22352 0 0 (.fix 0), iP 7, iP 0, iP 0, iP 0, iP 0, iP 0, .slice 22369 0 0 (.fix 0)] 193 none false),
   (22352, .cells [] 193 none false),
   (22369, .cells [] 193 none false),
   (22370, .cells [] 169 none false),
   (22371, .cells [] 169 none false),
   (22404, .cells [iP 6, iP 0, iP 0, iP 0, iP 0, iP 10, .slice 22421 0 1 (.fix 1)] 193 none false),
   (22421, .cells [iP 7, iP 0, iP 0, iP 0, iP 0, iP 0, .slice 22438 0 0 (.fix 0)] 193 none false),
   (22438, .cells [] 193 none false),
   (22451, .cells [] 169 none false),
   (22452, .cells [] 169 none false),
   (22473, .cells [iP 6, iP 0, iP 0, iP 0, iP 10, iP 10, .slice 22490 0 1 (.fix 1)] 193 none false),
   (22490, .cells [iP 7, iP 0, iP 0, iP 0, iP 0, iP 0, .slice 22507 0 0 (.fix 0)] 193 none false),
   (22507, .cells [] 193 none false),
   (22520, .cells [] 169 none false),
   (22521, .cells [] 169 none false)],
  22522⟩
noncomputable def cx0 (b : Nat) (h0 : Nat → Option Obj) : Cx := cxOf Tryz.prog.funcs Tryz.prog.types exts 300 300 [] [] (fun _ => True) soks b h0 (dfs := dfs) (parts := [])
noncomputable def cx1 (b : Nat) (h0 : Nat → Option Obj) : Cx := cxOf Tryz.prog.funcs Tryz.prog.types exts 300 300 [] [] (fun _ => True) soks b h0 (dfs := dfs) (parts := [p0])
noncomputable def cx2 (b : Nat) (h0 : Nat → Option Obj) : Cx := cxOf Tryz.prog.funcs Tryz.prog.types exts 300 300 [] [] (fun _ => True) soks b h0 (dfs := dfs) (parts := [p0, p1])
noncomputable def cx3 (b : Nat) (h0 : Nat → Option Obj) : Cx := cxOf Tryz.prog.funcs Tryz.prog.types exts 300 300 [] [] (fun _ => True) soks b h0 (dfs := dfs) (parts := [p0, p1, p2])
noncomputable def cx4 (b : Nat) (h0 : Nat → Option Obj) : Cx := cxOf Tryz.prog.funcs Tryz.prog.types exts 300 300 [] [] (fun _ => True) soks b h0 (dfs := dfs) (parts := [p0, p1, p2, p3])
noncomputable def cx5 (b : Nat) (h0 : Nat → Option Obj) : Cx := cxOf Tryz.prog.funcs Tryz.prog.types exts 300 300 [] [] (fun _ => True) soks b h0 (dfs := dfs) (parts := [p0, p1, p2, p3, p4])
noncomputable def cx6 (b : Nat) (h0 : Nat → Option Obj) : Cx := cxOf Tryz.prog.funcs Tryz.prog.types exts 300 300 [] [] (fun _ => True) soks b h0 (dfs := dfs) (parts := [p0, p1, p2, p3, p4, p5])
noncomputable def cx7 (b : Nat) (h0 : Nat → Option Obj) : Cx := cxOf Tryz.prog.funcs Tryz.prog.types exts 300 300 [] [] (fun _ => True) soks b h0 (dfs := dfs) (parts := [p0, p1, p2, p3, p4, p5, p6])
noncomputable def cx8 (b : Nat) (h0 : Nat → Option Obj) : Cx := cxOf Tryz.prog.funcs Tryz.prog.types exts 300 300 [] [] (fun _ => True) soks b h0 (dfs := dfs) (parts := [p0, p1, p2, p3, p4, p5, p6, p7])
end Go.Proofs.YtggonamheakkkaaGreatDoor.ArrK
