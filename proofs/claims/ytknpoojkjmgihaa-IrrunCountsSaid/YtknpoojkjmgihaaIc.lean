/-
  Layer 11: a loop that counts down tells what it counted: the loop.
-/
import Derived.Test.YtknpoojkjmgihaaIrr
namespace Go.Proofs.Ytknpoojkjmgihaa.IrrunCounts
open Go.Xq Go.RowKit Go.Proofs.Ytknpoojkjmgihaa
set_option maxRecDepth 1000000
noncomputable def iP (n : Nat) : SV := .int .i64 (.lit (.ofNat n))
noncomputable def iN (n : Nat) : SV := .int .i64 (.lit (.negSucc n))
/-- The call of the unit's run: q is how deep. -/
noncomputable def partP (q : SV) (st code : Nat) (e : SI) (rn : Nat) : Part := ⟨11, [.agg [.nilslice, .slice 10 0 2 (.fix 2)], .slice 11 0 2 (.fix 2), iP 10000], 12,
  [(0, .cells [iP 2] 3 none false),
   (1, .cells [iP 1, iP 1, iP 0, iP 0, iP 0, iP 1, .str [], .nilslice, iP 4, iP 2, iP 0, iP 1, iP 2, iP 0, .str [], .nilslice, iP 9, iP 2, iP 0, iP 0, iP 0, iP 0, .str [102], .slice 0 0 1 (.fix 1), iP 4, iP 2, iP 2, iP 1, iP 1, iP 0, .str [], .nilslice] 47 none false),
   (2, .cells [.nilslice, iP 2, iP 0, iP 1, iP 2, .slice 1 0 4 (.fix 4), iP 3, iP 2, iP 0, iP 0, .nilslice, iP 3, iP 0, iP 0, iP 0] 45 none false),
   (4, .cells [iP 7, iP 0, iP 0, iP 0, iP 0, iP 0, .str [], .nilslice, iP 1, iP 2, iP 0, iP 0, iP 0, iP 1, .str [], .nilslice] 47 none false),
   (5, .cells [iP 4, iP 1, iP 1, iP 0, iP 1, iP 0, .str [], .nilslice, iP 4, iP 0, iP 0, iP 2, iP 2, iP 0, .str [], .nilslice] 47 none false),
   (6, .cells [iP 3] 3 none false),
   (7, .cells [iP 8, iP 0, iP 1, iP 0, iP 0, iP 0, .str [], .nilslice, iP 7, iP 3, iP 0, iP 0, iP 0, iP 0, .str [], .nilslice, iP 9, iP 3, iP 0, iP 0, iP 0, iP 0, .str [102], .slice 6 0 1 (.fix 1)] 47 none false),
   (8, .cells [.slice 4 0 2 (.fix 2), iP 1, iP 0, iP 1, iP 0, .nilslice, iP 2, iP 0, iP 2, iP 3, .slice 5 0 2 (.fix 2), iP 1, iP 0, iP 1, iP 0, .slice 7 0 3 (.fix 3), iP 3, iP 3, iP 0, iP 0] 45 none false),
   (10, .cells [.str [102], iP 1, iP 3, .slice 2 0 3 (.fix 3), .str [109, 97, 105, 110], iP 0, iP 4, .slice 8 0 4 (.fix 4)] 38 none false),
   (11, .cells [.int .i64 (.var 2), q] 3 none false)],
  .agg [iP st, iP code, .slice 474 0 1 (.less 0), .int .i64 e],
  [(474, .cells [.int .i64 (.bin .quo .i64 (.bin .mul .i64 (.var 2) (.bin .add .i64 (.var 2) (.lit (.ofNat 1)))) (.lit (.ofNat 2)))] 3 (some 1) false)],
  rn⟩
noncomputable def patP (q : SV) : Pat := ⟨[(2, iP 10000), (6, .ptr 13 0), (9, .ptr 178 0), (10, .int .i64 (.var 7))],
  [(0, .cells [iP 2] 3 none false),
   (1, .cells [iP 1, iP 1, iP 0, iP 0, iP 0, iP 1, .str [], .nilslice, iP 4, iP 2, iP 0, iP 1, iP 2, iP 0, .str [], .nilslice, iP 9, iP 2, iP 0, iP 0, iP 0, iP 0, .str [102], .slice 0 0 1 (.fix 1), iP 4, iP 2, iP 2, iP 1, iP 1, iP 0, .str [], .nilslice] 47 none false),
   (2, .cells [.nilslice, iP 2, iP 0, iP 1, iP 2, .slice 1 0 4 (.fix 4), iP 3, iP 2, iP 0, iP 0, .nilslice, iP 3, iP 0, iP 0, iP 0] 45 none false),
   (4, .cells [iP 7, iP 0, iP 0, iP 0, iP 0, iP 0, .str [], .nilslice, iP 1, iP 2, iP 0, iP 0, iP 0, iP 1, .str [], .nilslice] 47 none false),
   (5, .cells [iP 4, iP 1, iP 1, iP 0, iP 1, iP 0, .str [], .nilslice, iP 4, iP 0, iP 0, iP 2, iP 2, iP 0, .str [], .nilslice] 47 none false),
   (6, .cells [iP 3] 3 none false),
   (7, .cells [iP 8, iP 0, iP 1, iP 0, iP 0, iP 0, .str [], .nilslice, iP 7, iP 3, iP 0, iP 0, iP 0, iP 0, .str [], .nilslice, iP 9, iP 3, iP 0, iP 0, iP 0, iP 0, .str [102], .slice 6 0 1 (.fix 1)] 47 none false),
   (8, .cells [.slice 4 0 2 (.fix 2), iP 1, iP 0, iP 1, iP 0, .nilslice, iP 2, iP 0, iP 2, iP 3, .slice 5 0 2 (.fix 2), iP 1, iP 0, iP 1, iP 0, .slice 7 0 3 (.fix 3), iP 3, iP 3, iP 0, iP 0] 45 none false),
   (10, .cells [.str [102], iP 1, iP 3, .slice 2 0 3 (.fix 3), .str [109, 97, 105, 110], iP 0, iP 4, .slice 8 0 4 (.fix 4)] 38 none false),
   (11, .cells [.int .i64 (.var 2), q] 3 none false),
   (13, .cells [iP 0, iP 0, .nilslice, iP 0] 32 none false),
   (175, .map [(.str [102], iP 0), (.str [109, 97, 105, 110], iP 1)]),
   (176, .map []),
   (177, .map []),
   (178, .cells [.slice 11 1 1 (.fix 1), .nilslice, .nilslice, .slice 10 0 2 (.fix 2), .map 175, .map 176, .map 177, .slice 229 0 1 (.less 0), .bool false, iP 0, iP 0] 71 none false),
   (213, .cells [.int .i64 (.var 5), .int .i64 (.var 6), iP 1, iP 0] 3 none false),
   (229, .cells [.slice 8 0 4 (.fix 4), iP 1, iP 0, iP 0, .slice 213 0 4 (.fix 4)] 91 (some 5) false)],
  381⟩
noncomputable def o178 (sid sl less st code : Nat) : AO := .cells [.slice 11 1 0 (.fix 0), .slice 474 0 1 (.less 0), .nilslice, .slice 10 0 2 (.fix 2), .map 175, .map 176, .map 177, .slice sid 0 sl (.less less), .bool true, iP st, iP code] 71 none false
noncomputable def outP (o : AO) (en : Nat) : Pat := ⟨[(2, iP 10000), (6, .ptr 13 0), (9, .ptr 178 0), (10, .int .i64 (.var 201))], [(13, .cells [iP 0, iP 0, .nilslice, iP 0] 32 none false), (178, o), (474, .cells [.int .i64 (.var 200)] 3 (some 1) false)], en⟩
noncomputable def finP (o : AO) (e : SI) (en : Nat) : Pat := ⟨[(2, iP 10000), (6, .ptr 13 0), (9, .ptr 178 0), (10, .int .i64 e)], [(13, .cells [iP 0, iP 0, .nilslice, iP 0] 32 none false), (178, o), (474, .cells [.int .i64 (.bin .quo .i64 (.bin .mul .i64 (.var 2) (.bin .add .i64 (.var 2) (.lit (.ofNat 1)))) (.lit (.ofNat 2)))] 3 (some 1) false)], en⟩
noncomputable def gfacts : List Fact := [⟨.eql, .var 5, .lit (.ofNat 0), false⟩, ⟨.leq, .var 7, .lit (.ofNat 2000), true⟩, ⟨.geq, .var 7, .lit (.ofNat 0), true⟩]
noncomputable def efacts : List Fact := [⟨.eql, .var 5, .lit (.ofNat 0), true⟩, ⟨.leq, .var 7, .lit (.ofNat 2000), true⟩, ⟨.geq, .var 7, .lit (.ofNat 0), true⟩]
noncomputable def dfacts : List Fact := [⟨.eql, .var 5, .lit (.ofNat 0), true⟩, ⟨.leq, .var 7, .lit (.ofNat 2000), true⟩, ⟨.geq, .var 7, .lit (.ofNat 0), true⟩,
  ⟨.eql, .var 3, .lit (.ofNat 0), false⟩,
  ⟨.eql, .bin .sub .i64 (.var 3) (.lit (.ofNat 1)), .lit (.ofNat 0), false⟩,
  ⟨.eql, .bin .sub .i64 (.bin .sub .i64 (.var 3) (.lit (.ofNat 1))) (.lit (.ofNat 1)), .lit (.ofNat 0), false⟩,
  ⟨.eql, .bin .sub .i64 (.bin .sub .i64 (.bin .sub .i64 (.var 3) (.lit (.ofNat 1))) (.lit (.ofNat 1))) (.lit (.ofNat 1)), .lit (.ofNat 0), false⟩,
  ⟨.eql, .bin .sub .i64 (.bin .sub .i64 (.bin .sub .i64 (.bin .sub .i64 (.var 3) (.lit (.ofNat 1))) (.lit (.ofNat 1))) (.lit (.ofNat 1))) (.lit (.ofNat 1)), .lit (.ofNat 0), false⟩,
  ⟨.eql, .bin .sub .i64 (.bin .sub .i64 (.bin .sub .i64 (.bin .sub .i64 (.bin .sub .i64 (.var 3) (.lit (.ofNat 1))) (.lit (.ofNat 1))) (.lit (.ofNat 1))) (.lit (.ofNat 1))) (.lit (.ofNat 1)), .lit (.ofNat 0), false⟩,
  ⟨.eql, .bin .sub .i64 (.bin .sub .i64 (.bin .sub .i64 (.bin .sub .i64 (.bin .sub .i64 (.bin .sub .i64 (.var 3) (.lit (.ofNat 1))) (.lit (.ofNat 1))) (.lit (.ofNat 1))) (.lit (.ofNat 1))) (.lit (.ofNat 1))) (.lit (.ofNat 1)), .lit (.ofNat 0), false⟩,
  ⟨.eql, .bin .sub .i64 (.bin .sub .i64 (.bin .sub .i64 (.bin .sub .i64 (.bin .sub .i64 (.bin .sub .i64 (.bin .sub .i64 (.var 3) (.lit (.ofNat 1))) (.lit (.ofNat 1))) (.lit (.ofNat 1))) (.lit (.ofNat 1))) (.lit (.ofNat 1))) (.lit (.ofNat 1))) (.lit (.ofNat 1)), .lit (.ofNat 0), false⟩,
  ⟨.eql, .bin .sub .i64 (.bin .sub .i64 (.bin .sub .i64 (.bin .sub .i64 (.bin .sub .i64 (.bin .sub .i64 (.bin .sub .i64 (.bin .sub .i64 (.var 3) (.lit (.ofNat 1))) (.lit (.ofNat 1))) (.lit (.ofNat 1))) (.lit (.ofNat 1))) (.lit (.ofNat 1))) (.lit (.ofNat 1))) (.lit (.ofNat 1))) (.lit (.ofNat 1)), .lit (.ofNat 0), false⟩,
  ⟨.eql, .bin .sub .i64 (.bin .sub .i64 (.bin .sub .i64 (.bin .sub .i64 (.bin .sub .i64 (.bin .sub .i64 (.bin .sub .i64 (.bin .sub .i64 (.bin .sub .i64 (.var 3) (.lit (.ofNat 1))) (.lit (.ofNat 1))) (.lit (.ofNat 1))) (.lit (.ofNat 1))) (.lit (.ofNat 1))) (.lit (.ofNat 1))) (.lit (.ofNat 1))) (.lit (.ofNat 1))) (.lit (.ofNat 1)), .lit (.ofNat 0), false⟩,
  ⟨.eql, .bin .sub .i64 (.bin .sub .i64 (.bin .sub .i64 (.bin .sub .i64 (.bin .sub .i64 (.bin .sub .i64 (.bin .sub .i64 (.bin .sub .i64 (.bin .sub .i64 (.bin .sub .i64 (.var 3) (.lit (.ofNat 1))) (.lit (.ofNat 1))) (.lit (.ofNat 1))) (.lit (.ofNat 1))) (.lit (.ofNat 1))) (.lit (.ofNat 1))) (.lit (.ofNat 1))) (.lit (.ofNat 1))) (.lit (.ofNat 1))) (.lit (.ofNat 1)), .lit (.ofNat 0), false⟩,
  ⟨.eql, .bin .sub .i64 (.bin .sub .i64 (.bin .sub .i64 (.bin .sub .i64 (.bin .sub .i64 (.bin .sub .i64 (.bin .sub .i64 (.bin .sub .i64 (.bin .sub .i64 (.bin .sub .i64 (.bin .sub .i64 (.var 3) (.lit (.ofNat 1))) (.lit (.ofNat 1))) (.lit (.ofNat 1))) (.lit (.ofNat 1))) (.lit (.ofNat 1))) (.lit (.ofNat 1))) (.lit (.ofNat 1))) (.lit (.ofNat 1))) (.lit (.ofNat 1))) (.lit (.ofNat 1))) (.lit (.ofNat 1)), .lit (.ofNat 0), false⟩,
  ⟨.eql, .bin .sub .i64 (.bin .sub .i64 (.bin .sub .i64 (.bin .sub .i64 (.bin .sub .i64 (.bin .sub .i64 (.bin .sub .i64 (.bin .sub .i64 (.bin .sub .i64 (.bin .sub .i64 (.bin .sub .i64 (.bin .sub .i64 (.var 3) (.lit (.ofNat 1))) (.lit (.ofNat 1))) (.lit (.ofNat 1))) (.lit (.ofNat 1))) (.lit (.ofNat 1))) (.lit (.ofNat 1))) (.lit (.ofNat 1))) (.lit (.ofNat 1))) (.lit (.ofNat 1))) (.lit (.ofNat 1))) (.lit (.ofNat 1))) (.lit (.ofNat 1)), .lit (.ofNat 0), false⟩,
  ⟨.eql, .bin .sub .i64 (.bin .sub .i64 (.bin .sub .i64 (.bin .sub .i64 (.bin .sub .i64 (.bin .sub .i64 (.bin .sub .i64 (.bin .sub .i64 (.bin .sub .i64 (.bin .sub .i64 (.bin .sub .i64 (.bin .sub .i64 (.bin .sub .i64 (.var 3) (.lit (.ofNat 1))) (.lit (.ofNat 1))) (.lit (.ofNat 1))) (.lit (.ofNat 1))) (.lit (.ofNat 1))) (.lit (.ofNat 1))) (.lit (.ofNat 1))) (.lit (.ofNat 1))) (.lit (.ofNat 1))) (.lit (.ofNat 1))) (.lit (.ofNat 1))) (.lit (.ofNat 1))) (.lit (.ofNat 1)), .lit (.ofNat 0), false⟩,
  ⟨.eql, .bin .sub .i64 (.bin .sub .i64 (.bin .sub .i64 (.bin .sub .i64 (.bin .sub .i64 (.bin .sub .i64 (.bin .sub .i64 (.bin .sub .i64 (.bin .sub .i64 (.bin .sub .i64 (.bin .sub .i64 (.bin .sub .i64 (.bin .sub .i64 (.bin .sub .i64 (.var 3) (.lit (.ofNat 1))) (.lit (.ofNat 1))) (.lit (.ofNat 1))) (.lit (.ofNat 1))) (.lit (.ofNat 1))) (.lit (.ofNat 1))) (.lit (.ofNat 1))) (.lit (.ofNat 1))) (.lit (.ofNat 1))) (.lit (.ofNat 1))) (.lit (.ofNat 1))) (.lit (.ofNat 1))) (.lit (.ofNat 1))) (.lit (.ofNat 1)), .lit (.ofNat 0), false⟩,
  ⟨.eql, .bin .sub .i64 (.bin .sub .i64 (.bin .sub .i64 (.bin .sub .i64 (.bin .sub .i64 (.bin .sub .i64 (.bin .sub .i64 (.bin .sub .i64 (.bin .sub .i64 (.bin .sub .i64 (.bin .sub .i64 (.bin .sub .i64 (.bin .sub .i64 (.bin .sub .i64 (.bin .sub .i64 (.var 3) (.lit (.ofNat 1))) (.lit (.ofNat 1))) (.lit (.ofNat 1))) (.lit (.ofNat 1))) (.lit (.ofNat 1))) (.lit (.ofNat 1))) (.lit (.ofNat 1))) (.lit (.ofNat 1))) (.lit (.ofNat 1))) (.lit (.ofNat 1))) (.lit (.ofNat 1))) (.lit (.ofNat 1))) (.lit (.ofNat 1))) (.lit (.ofNat 1))) (.lit (.ofNat 1)), .lit (.ofNat 0), false⟩,
  ⟨.eql, .bin .sub .i64 (.bin .sub .i64 (.bin .sub .i64 (.bin .sub .i64 (.bin .sub .i64 (.bin .sub .i64 (.bin .sub .i64 (.bin .sub .i64 (.bin .sub .i64 (.bin .sub .i64 (.bin .sub .i64 (.bin .sub .i64 (.bin .sub .i64 (.bin .sub .i64 (.bin .sub .i64 (.bin .sub .i64 (.var 3) (.lit (.ofNat 1))) (.lit (.ofNat 1))) (.lit (.ofNat 1))) (.lit (.ofNat 1))) (.lit (.ofNat 1))) (.lit (.ofNat 1))) (.lit (.ofNat 1))) (.lit (.ofNat 1))) (.lit (.ofNat 1))) (.lit (.ofNat 1))) (.lit (.ofNat 1))) (.lit (.ofNat 1))) (.lit (.ofNat 1))) (.lit (.ofNat 1))) (.lit (.ofNat 1))) (.lit (.ofNat 1)), .lit (.ofNat 0), false⟩,
  ⟨.eql, .bin .sub .i64 (.bin .sub .i64 (.bin .sub .i64 (.bin .sub .i64 (.bin .sub .i64 (.bin .sub .i64 (.bin .sub .i64 (.bin .sub .i64 (.bin .sub .i64 (.bin .sub .i64 (.bin .sub .i64 (.bin .sub .i64 (.bin .sub .i64 (.bin .sub .i64 (.bin .sub .i64 (.bin .sub .i64 (.bin .sub .i64 (.var 3) (.lit (.ofNat 1))) (.lit (.ofNat 1))) (.lit (.ofNat 1))) (.lit (.ofNat 1))) (.lit (.ofNat 1))) (.lit (.ofNat 1))) (.lit (.ofNat 1))) (.lit (.ofNat 1))) (.lit (.ofNat 1))) (.lit (.ofNat 1))) (.lit (.ofNat 1))) (.lit (.ofNat 1))) (.lit (.ofNat 1))) (.lit (.ofNat 1))) (.lit (.ofNat 1))) (.lit (.ofNat 1))) (.lit (.ofNat 1)), .lit (.ofNat 0), false⟩,
  ⟨.eql, .bin .sub .i64 (.bin .sub .i64 (.bin .sub .i64 (.bin .sub .i64 (.bin .sub .i64 (.bin .sub .i64 (.bin .sub .i64 (.bin .sub .i64 (.bin .sub .i64 (.bin .sub .i64 (.bin .sub .i64 (.bin .sub .i64 (.bin .sub .i64 (.bin .sub .i64 (.bin .sub .i64 (.bin .sub .i64 (.bin .sub .i64 (.bin .sub .i64 (.var 3) (.lit (.ofNat 1))) (.lit (.ofNat 1))) (.lit (.ofNat 1))) (.lit (.ofNat 1))) (.lit (.ofNat 1))) (.lit (.ofNat 1))) (.lit (.ofNat 1))) (.lit (.ofNat 1))) (.lit (.ofNat 1))) (.lit (.ofNat 1))) (.lit (.ofNat 1))) (.lit (.ofNat 1))) (.lit (.ofNat 1))) (.lit (.ofNat 1))) (.lit (.ofNat 1))) (.lit (.ofNat 1))) (.lit (.ofNat 1))) (.lit (.ofNat 1)), .lit (.ofNat 0), false⟩,
  ⟨.eql, .bin .sub .i64 (.bin .sub .i64 (.bin .sub .i64 (.bin .sub .i64 (.bin .sub .i64 (.bin .sub .i64 (.bin .sub .i64 (.bin .sub .i64 (.bin .sub .i64 (.bin .sub .i64 (.bin .sub .i64 (.bin .sub .i64 (.bin .sub .i64 (.bin .sub .i64 (.bin .sub .i64 (.bin .sub .i64 (.bin .sub .i64 (.bin .sub .i64 (.bin .sub .i64 (.var 3) (.lit (.ofNat 1))) (.lit (.ofNat 1))) (.lit (.ofNat 1))) (.lit (.ofNat 1))) (.lit (.ofNat 1))) (.lit (.ofNat 1))) (.lit (.ofNat 1))) (.lit (.ofNat 1))) (.lit (.ofNat 1))) (.lit (.ofNat 1))) (.lit (.ofNat 1))) (.lit (.ofNat 1))) (.lit (.ofNat 1))) (.lit (.ofNat 1))) (.lit (.ofNat 1))) (.lit (.ofNat 1))) (.lit (.ofNat 1))) (.lit (.ofNat 1))) (.lit (.ofNat 1)), .lit (.ofNat 0), false⟩,
  ⟨.eql, .bin .sub .i64 (.bin .sub .i64 (.bin .sub .i64 (.bin .sub .i64 (.bin .sub .i64 (.bin .sub .i64 (.bin .sub .i64 (.bin .sub .i64 (.bin .sub .i64 (.bin .sub .i64 (.bin .sub .i64 (.bin .sub .i64 (.bin .sub .i64 (.bin .sub .i64 (.bin .sub .i64 (.bin .sub .i64 (.bin .sub .i64 (.bin .sub .i64 (.bin .sub .i64 (.bin .sub .i64 (.var 3) (.lit (.ofNat 1))) (.lit (.ofNat 1))) (.lit (.ofNat 1))) (.lit (.ofNat 1))) (.lit (.ofNat 1))) (.lit (.ofNat 1))) (.lit (.ofNat 1))) (.lit (.ofNat 1))) (.lit (.ofNat 1))) (.lit (.ofNat 1))) (.lit (.ofNat 1))) (.lit (.ofNat 1))) (.lit (.ofNat 1))) (.lit (.ofNat 1))) (.lit (.ofNat 1))) (.lit (.ofNat 1))) (.lit (.ofNat 1))) (.lit (.ofNat 1))) (.lit (.ofNat 1))) (.lit (.ofNat 1)), .lit (.ofNat 0), false⟩,
  ⟨.eql, .bin .sub .i64 (.bin .sub .i64 (.bin .sub .i64 (.bin .sub .i64 (.bin .sub .i64 (.bin .sub .i64 (.bin .sub .i64 (.bin .sub .i64 (.bin .sub .i64 (.bin .sub .i64 (.bin .sub .i64 (.bin .sub .i64 (.bin .sub .i64 (.bin .sub .i64 (.bin .sub .i64 (.bin .sub .i64 (.bin .sub .i64 (.bin .sub .i64 (.bin .sub .i64 (.bin .sub .i64 (.bin .sub .i64 (.var 3) (.lit (.ofNat 1))) (.lit (.ofNat 1))) (.lit (.ofNat 1))) (.lit (.ofNat 1))) (.lit (.ofNat 1))) (.lit (.ofNat 1))) (.lit (.ofNat 1))) (.lit (.ofNat 1))) (.lit (.ofNat 1))) (.lit (.ofNat 1))) (.lit (.ofNat 1))) (.lit (.ofNat 1))) (.lit (.ofNat 1))) (.lit (.ofNat 1))) (.lit (.ofNat 1))) (.lit (.ofNat 1))) (.lit (.ofNat 1))) (.lit (.ofNat 1))) (.lit (.ofNat 1))) (.lit (.ofNat 1))) (.lit (.ofNat 1)), .lit (.ofNat 0), false⟩,
  ⟨.eql, .bin .sub .i64 (.bin .sub .i64 (.bin .sub .i64 (.bin .sub .i64 (.bin .sub .i64 (.bin .sub .i64 (.bin .sub .i64 (.bin .sub .i64 (.bin .sub .i64 (.bin .sub .i64 (.bin .sub .i64 (.bin .sub .i64 (.bin .sub .i64 (.bin .sub .i64 (.bin .sub .i64 (.bin .sub .i64 (.bin .sub .i64 (.bin .sub .i64 (.bin .sub .i64 (.bin .sub .i64 (.bin .sub .i64 (.bin .sub .i64 (.var 3) (.lit (.ofNat 1))) (.lit (.ofNat 1))) (.lit (.ofNat 1))) (.lit (.ofNat 1))) (.lit (.ofNat 1))) (.lit (.ofNat 1))) (.lit (.ofNat 1))) (.lit (.ofNat 1))) (.lit (.ofNat 1))) (.lit (.ofNat 1))) (.lit (.ofNat 1))) (.lit (.ofNat 1))) (.lit (.ofNat 1))) (.lit (.ofNat 1))) (.lit (.ofNat 1))) (.lit (.ofNat 1))) (.lit (.ofNat 1))) (.lit (.ofNat 1))) (.lit (.ofNat 1))) (.lit (.ofNat 1))) (.lit (.ofNat 1))) (.lit (.ofNat 1)), .lit (.ofNat 0), false⟩,
  ⟨.eql, .bin .sub .i64 (.bin .sub .i64 (.bin .sub .i64 (.bin .sub .i64 (.bin .sub .i64 (.bin .sub .i64 (.bin .sub .i64 (.bin .sub .i64 (.bin .sub .i64 (.bin .sub .i64 (.bin .sub .i64 (.bin .sub .i64 (.bin .sub .i64 (.bin .sub .i64 (.bin .sub .i64 (.bin .sub .i64 (.bin .sub .i64 (.bin .sub .i64 (.bin .sub .i64 (.bin .sub .i64 (.bin .sub .i64 (.bin .sub .i64 (.bin .sub .i64 (.var 3) (.lit (.ofNat 1))) (.lit (.ofNat 1))) (.lit (.ofNat 1))) (.lit (.ofNat 1))) (.lit (.ofNat 1))) (.lit (.ofNat 1))) (.lit (.ofNat 1))) (.lit (.ofNat 1))) (.lit (.ofNat 1))) (.lit (.ofNat 1))) (.lit (.ofNat 1))) (.lit (.ofNat 1))) (.lit (.ofNat 1))) (.lit (.ofNat 1))) (.lit (.ofNat 1))) (.lit (.ofNat 1))) (.lit (.ofNat 1))) (.lit (.ofNat 1))) (.lit (.ofNat 1))) (.lit (.ofNat 1))) (.lit (.ofNat 1))) (.lit (.ofNat 1))) (.lit (.ofNat 1)), .lit (.ofNat 0), false⟩,
  ⟨.eql, .bin .sub .i64 (.bin .sub .i64 (.bin .sub .i64 (.bin .sub .i64 (.bin .sub .i64 (.bin .sub .i64 (.bin .sub .i64 (.bin .sub .i64 (.bin .sub .i64 (.bin .sub .i64 (.bin .sub .i64 (.bin .sub .i64 (.bin .sub .i64 (.bin .sub .i64 (.bin .sub .i64 (.bin .sub .i64 (.bin .sub .i64 (.bin .sub .i64 (.bin .sub .i64 (.bin .sub .i64 (.bin .sub .i64 (.bin .sub .i64 (.bin .sub .i64 (.bin .sub .i64 (.var 3) (.lit (.ofNat 1))) (.lit (.ofNat 1))) (.lit (.ofNat 1))) (.lit (.ofNat 1))) (.lit (.ofNat 1))) (.lit (.ofNat 1))) (.lit (.ofNat 1))) (.lit (.ofNat 1))) (.lit (.ofNat 1))) (.lit (.ofNat 1))) (.lit (.ofNat 1))) (.lit (.ofNat 1))) (.lit (.ofNat 1))) (.lit (.ofNat 1))) (.lit (.ofNat 1))) (.lit (.ofNat 1))) (.lit (.ofNat 1))) (.lit (.ofNat 1))) (.lit (.ofNat 1))) (.lit (.ofNat 1))) (.lit (.ofNat 1))) (.lit (.ofNat 1))) (.lit (.ofNat 1))) (.lit (.ofNat 1)), .lit (.ofNat 0), false⟩,
  ⟨.eql, .bin .sub .i64 (.bin .sub .i64 (.bin .sub .i64 (.bin .sub .i64 (.bin .sub .i64 (.bin .sub .i64 (.bin .sub .i64 (.bin .sub .i64 (.bin .sub .i64 (.bin .sub .i64 (.bin .sub .i64 (.bin .sub .i64 (.bin .sub .i64 (.bin .sub .i64 (.bin .sub .i64 (.bin .sub .i64 (.bin .sub .i64 (.bin .sub .i64 (.bin .sub .i64 (.bin .sub .i64 (.bin .sub .i64 (.bin .sub .i64 (.bin .sub .i64 (.bin .sub .i64 (.bin .sub .i64 (.var 3) (.lit (.ofNat 1))) (.lit (.ofNat 1))) (.lit (.ofNat 1))) (.lit (.ofNat 1))) (.lit (.ofNat 1))) (.lit (.ofNat 1))) (.lit (.ofNat 1))) (.lit (.ofNat 1))) (.lit (.ofNat 1))) (.lit (.ofNat 1))) (.lit (.ofNat 1))) (.lit (.ofNat 1))) (.lit (.ofNat 1))) (.lit (.ofNat 1))) (.lit (.ofNat 1))) (.lit (.ofNat 1))) (.lit (.ofNat 1))) (.lit (.ofNat 1))) (.lit (.ofNat 1))) (.lit (.ofNat 1))) (.lit (.ofNat 1))) (.lit (.ofNat 1))) (.lit (.ofNat 1))) (.lit (.ofNat 1))) (.lit (.ofNat 1)), .lit (.ofNat 0), false⟩,
  ⟨.eql, .bin .sub .i64 (.bin .sub .i64 (.bin .sub .i64 (.bin .sub .i64 (.bin .sub .i64 (.bin .sub .i64 (.bin .sub .i64 (.bin .sub .i64 (.bin .sub .i64 (.bin .sub .i64 (.bin .sub .i64 (.bin .sub .i64 (.bin .sub .i64 (.bin .sub .i64 (.bin .sub .i64 (.bin .sub .i64 (.bin .sub .i64 (.bin .sub .i64 (.bin .sub .i64 (.bin .sub .i64 (.bin .sub .i64 (.bin .sub .i64 (.bin .sub .i64 (.bin .sub .i64 (.bin .sub .i64 (.bin .sub .i64 (.var 3) (.lit (.ofNat 1))) (.lit (.ofNat 1))) (.lit (.ofNat 1))) (.lit (.ofNat 1))) (.lit (.ofNat 1))) (.lit (.ofNat 1))) (.lit (.ofNat 1))) (.lit (.ofNat 1))) (.lit (.ofNat 1))) (.lit (.ofNat 1))) (.lit (.ofNat 1))) (.lit (.ofNat 1))) (.lit (.ofNat 1))) (.lit (.ofNat 1))) (.lit (.ofNat 1))) (.lit (.ofNat 1))) (.lit (.ofNat 1))) (.lit (.ofNat 1))) (.lit (.ofNat 1))) (.lit (.ofNat 1))) (.lit (.ofNat 1))) (.lit (.ofNat 1))) (.lit (.ofNat 1))) (.lit (.ofNat 1))) (.lit (.ofNat 1))) (.lit (.ofNat 1)), .lit (.ofNat 0), false⟩,
  ⟨.eql, .bin .sub .i64 (.bin .sub .i64 (.bin .sub .i64 (.bin .sub .i64 (.bin .sub .i64 (.bin .sub .i64 (.bin .sub .i64 (.bin .sub .i64 (.bin .sub .i64 (.bin .sub .i64 (.bin .sub .i64 (.bin .sub .i64 (.bin .sub .i64 (.bin .sub .i64 (.bin .sub .i64 (.bin .sub .i64 (.bin .sub .i64 (.bin .sub .i64 (.bin .sub .i64 (.bin .sub .i64 (.bin .sub .i64 (.bin .sub .i64 (.bin .sub .i64 (.bin .sub .i64 (.bin .sub .i64 (.bin .sub .i64 (.bin .sub .i64 (.var 3) (.lit (.ofNat 1))) (.lit (.ofNat 1))) (.lit (.ofNat 1))) (.lit (.ofNat 1))) (.lit (.ofNat 1))) (.lit (.ofNat 1))) (.lit (.ofNat 1))) (.lit (.ofNat 1))) (.lit (.ofNat 1))) (.lit (.ofNat 1))) (.lit (.ofNat 1))) (.lit (.ofNat 1))) (.lit (.ofNat 1))) (.lit (.ofNat 1))) (.lit (.ofNat 1))) (.lit (.ofNat 1))) (.lit (.ofNat 1))) (.lit (.ofNat 1))) (.lit (.ofNat 1))) (.lit (.ofNat 1))) (.lit (.ofNat 1))) (.lit (.ofNat 1))) (.lit (.ofNat 1))) (.lit (.ofNat 1))) (.lit (.ofNat 1))) (.lit (.ofNat 1))) (.lit (.ofNat 1)), .lit (.ofNat 0), false⟩,
  ⟨.eql, .bin .sub .i64 (.bin .sub .i64 (.bin .sub .i64 (.bin .sub .i64 (.bin .sub .i64 (.bin .sub .i64 (.bin .sub .i64 (.bin .sub .i64 (.bin .sub .i64 (.bin .sub .i64 (.bin .sub .i64 (.bin .sub .i64 (.bin .sub .i64 (.bin .sub .i64 (.bin .sub .i64 (.bin .sub .i64 (.bin .sub .i64 (.bin .sub .i64 (.bin .sub .i64 (.bin .sub .i64 (.bin .sub .i64 (.bin .sub .i64 (.bin .sub .i64 (.bin .sub .i64 (.bin .sub .i64 (.bin .sub .i64 (.bin .sub .i64 (.bin .sub .i64 (.var 3) (.lit (.ofNat 1))) (.lit (.ofNat 1))) (.lit (.ofNat 1))) (.lit (.ofNat 1))) (.lit (.ofNat 1))) (.lit (.ofNat 1))) (.lit (.ofNat 1))) (.lit (.ofNat 1))) (.lit (.ofNat 1))) (.lit (.ofNat 1))) (.lit (.ofNat 1))) (.lit (.ofNat 1))) (.lit (.ofNat 1))) (.lit (.ofNat 1))) (.lit (.ofNat 1))) (.lit (.ofNat 1))) (.lit (.ofNat 1))) (.lit (.ofNat 1))) (.lit (.ofNat 1))) (.lit (.ofNat 1))) (.lit (.ofNat 1))) (.lit (.ofNat 1))) (.lit (.ofNat 1))) (.lit (.ofNat 1))) (.lit (.ofNat 1))) (.lit (.ofNat 1))) (.lit (.ofNat 1))) (.lit (.ofNat 1)), .lit (.ofNat 0), false⟩,
  ⟨.eql, .bin .sub .i64 (.bin .sub .i64 (.bin .sub .i64 (.bin .sub .i64 (.bin .sub .i64 (.bin .sub .i64 (.bin .sub .i64 (.bin .sub .i64 (.bin .sub .i64 (.bin .sub .i64 (.bin .sub .i64 (.bin .sub .i64 (.bin .sub .i64 (.bin .sub .i64 (.bin .sub .i64 (.bin .sub .i64 (.bin .sub .i64 (.bin .sub .i64 (.bin .sub .i64 (.bin .sub .i64 (.bin .sub .i64 (.bin .sub .i64 (.bin .sub .i64 (.bin .sub .i64 (.bin .sub .i64 (.bin .sub .i64 (.bin .sub .i64 (.bin .sub .i64 (.bin .sub .i64 (.var 3) (.lit (.ofNat 1))) (.lit (.ofNat 1))) (.lit (.ofNat 1))) (.lit (.ofNat 1))) (.lit (.ofNat 1))) (.lit (.ofNat 1))) (.lit (.ofNat 1))) (.lit (.ofNat 1))) (.lit (.ofNat 1))) (.lit (.ofNat 1))) (.lit (.ofNat 1))) (.lit (.ofNat 1))) (.lit (.ofNat 1))) (.lit (.ofNat 1))) (.lit (.ofNat 1))) (.lit (.ofNat 1))) (.lit (.ofNat 1))) (.lit (.ofNat 1))) (.lit (.ofNat 1))) (.lit (.ofNat 1))) (.lit (.ofNat 1))) (.lit (.ofNat 1))) (.lit (.ofNat 1))) (.lit (.ofNat 1))) (.lit (.ofNat 1))) (.lit (.ofNat 1))) (.lit (.ofNat 1))) (.lit (.ofNat 1))) (.lit (.ofNat 1)), .lit (.ofNat 0), false⟩,
  ⟨.eql, .bin .sub .i64 (.bin .sub .i64 (.bin .sub .i64 (.bin .sub .i64 (.bin .sub .i64 (.bin .sub .i64 (.bin .sub .i64 (.bin .sub .i64 (.bin .sub .i64 (.bin .sub .i64 (.bin .sub .i64 (.bin .sub .i64 (.bin .sub .i64 (.bin .sub .i64 (.bin .sub .i64 (.bin .sub .i64 (.bin .sub .i64 (.bin .sub .i64 (.bin .sub .i64 (.bin .sub .i64 (.bin .sub .i64 (.bin .sub .i64 (.bin .sub .i64 (.bin .sub .i64 (.bin .sub .i64 (.bin .sub .i64 (.bin .sub .i64 (.bin .sub .i64 (.bin .sub .i64 (.bin .sub .i64 (.var 3) (.lit (.ofNat 1))) (.lit (.ofNat 1))) (.lit (.ofNat 1))) (.lit (.ofNat 1))) (.lit (.ofNat 1))) (.lit (.ofNat 1))) (.lit (.ofNat 1))) (.lit (.ofNat 1))) (.lit (.ofNat 1))) (.lit (.ofNat 1))) (.lit (.ofNat 1))) (.lit (.ofNat 1))) (.lit (.ofNat 1))) (.lit (.ofNat 1))) (.lit (.ofNat 1))) (.lit (.ofNat 1))) (.lit (.ofNat 1))) (.lit (.ofNat 1))) (.lit (.ofNat 1))) (.lit (.ofNat 1))) (.lit (.ofNat 1))) (.lit (.ofNat 1))) (.lit (.ofNat 1))) (.lit (.ofNat 1))) (.lit (.ofNat 1))) (.lit (.ofNat 1))) (.lit (.ofNat 1))) (.lit (.ofNat 1))) (.lit (.ofNat 1))) (.lit (.ofNat 1)), .lit (.ofNat 0), false⟩,
  ⟨.eql, .bin .sub .i64 (.bin .sub .i64 (.bin .sub .i64 (.bin .sub .i64 (.bin .sub .i64 (.bin .sub .i64 (.bin .sub .i64 (.bin .sub .i64 (.bin .sub .i64 (.bin .sub .i64 (.bin .sub .i64 (.bin .sub .i64 (.bin .sub .i64 (.bin .sub .i64 (.bin .sub .i64 (.bin .sub .i64 (.bin .sub .i64 (.bin .sub .i64 (.bin .sub .i64 (.bin .sub .i64 (.bin .sub .i64 (.bin .sub .i64 (.bin .sub .i64 (.bin .sub .i64 (.bin .sub .i64 (.bin .sub .i64 (.bin .sub .i64 (.bin .sub .i64 (.bin .sub .i64 (.bin .sub .i64 (.bin .sub .i64 (.var 3) (.lit (.ofNat 1))) (.lit (.ofNat 1))) (.lit (.ofNat 1))) (.lit (.ofNat 1))) (.lit (.ofNat 1))) (.lit (.ofNat 1))) (.lit (.ofNat 1))) (.lit (.ofNat 1))) (.lit (.ofNat 1))) (.lit (.ofNat 1))) (.lit (.ofNat 1))) (.lit (.ofNat 1))) (.lit (.ofNat 1))) (.lit (.ofNat 1))) (.lit (.ofNat 1))) (.lit (.ofNat 1))) (.lit (.ofNat 1))) (.lit (.ofNat 1))) (.lit (.ofNat 1))) (.lit (.ofNat 1))) (.lit (.ofNat 1))) (.lit (.ofNat 1))) (.lit (.ofNat 1))) (.lit (.ofNat 1))) (.lit (.ofNat 1))) (.lit (.ofNat 1))) (.lit (.ofNat 1))) (.lit (.ofNat 1))) (.lit (.ofNat 1))) (.lit (.ofNat 1))) (.lit (.ofNat 1)), .lit (.ofNat 0), false⟩,
  ⟨.eql, .bin .sub .i64 (.bin .sub .i64 (.bin .sub .i64 (.bin .sub .i64 (.bin .sub .i64 (.bin .sub .i64 (.bin .sub .i64 (.bin .sub .i64 (.bin .sub .i64 (.bin .sub .i64 (.bin .sub .i64 (.bin .sub .i64 (.bin .sub .i64 (.bin .sub .i64 (.bin .sub .i64 (.bin .sub .i64 (.bin .sub .i64 (.bin .sub .i64 (.bin .sub .i64 (.bin .sub .i64 (.bin .sub .i64 (.bin .sub .i64 (.bin .sub .i64 (.bin .sub .i64 (.bin .sub .i64 (.bin .sub .i64 (.bin .sub .i64 (.bin .sub .i64 (.bin .sub .i64 (.bin .sub .i64 (.bin .sub .i64 (.bin .sub .i64 (.var 3) (.lit (.ofNat 1))) (.lit (.ofNat 1))) (.lit (.ofNat 1))) (.lit (.ofNat 1))) (.lit (.ofNat 1))) (.lit (.ofNat 1))) (.lit (.ofNat 1))) (.lit (.ofNat 1))) (.lit (.ofNat 1))) (.lit (.ofNat 1))) (.lit (.ofNat 1))) (.lit (.ofNat 1))) (.lit (.ofNat 1))) (.lit (.ofNat 1))) (.lit (.ofNat 1))) (.lit (.ofNat 1))) (.lit (.ofNat 1))) (.lit (.ofNat 1))) (.lit (.ofNat 1))) (.lit (.ofNat 1))) (.lit (.ofNat 1))) (.lit (.ofNat 1))) (.lit (.ofNat 1))) (.lit (.ofNat 1))) (.lit (.ofNat 1))) (.lit (.ofNat 1))) (.lit (.ofNat 1))) (.lit (.ofNat 1))) (.lit (.ofNat 1))) (.lit (.ofNat 1))) (.lit (.ofNat 1))) (.lit (.ofNat 1)), .lit (.ofNat 0), false⟩,
  ⟨.eql, .bin .sub .i64 (.bin .sub .i64 (.bin .sub .i64 (.bin .sub .i64 (.bin .sub .i64 (.bin .sub .i64 (.bin .sub .i64 (.bin .sub .i64 (.bin .sub .i64 (.bin .sub .i64 (.bin .sub .i64 (.bin .sub .i64 (.bin .sub .i64 (.bin .sub .i64 (.bin .sub .i64 (.bin .sub .i64 (.bin .sub .i64 (.bin .sub .i64 (.bin .sub .i64 (.bin .sub .i64 (.bin .sub .i64 (.bin .sub .i64 (.bin .sub .i64 (.bin .sub .i64 (.bin .sub .i64 (.bin .sub .i64 (.bin .sub .i64 (.bin .sub .i64 (.bin .sub .i64 (.bin .sub .i64 (.bin .sub .i64 (.bin .sub .i64 (.bin .sub .i64 (.var 3) (.lit (.ofNat 1))) (.lit (.ofNat 1))) (.lit (.ofNat 1))) (.lit (.ofNat 1))) (.lit (.ofNat 1))) (.lit (.ofNat 1))) (.lit (.ofNat 1))) (.lit (.ofNat 1))) (.lit (.ofNat 1))) (.lit (.ofNat 1))) (.lit (.ofNat 1))) (.lit (.ofNat 1))) (.lit (.ofNat 1))) (.lit (.ofNat 1))) (.lit (.ofNat 1))) (.lit (.ofNat 1))) (.lit (.ofNat 1))) (.lit (.ofNat 1))) (.lit (.ofNat 1))) (.lit (.ofNat 1))) (.lit (.ofNat 1))) (.lit (.ofNat 1))) (.lit (.ofNat 1))) (.lit (.ofNat 1))) (.lit (.ofNat 1))) (.lit (.ofNat 1))) (.lit (.ofNat 1))) (.lit (.ofNat 1))) (.lit (.ofNat 1))) (.lit (.ofNat 1))) (.lit (.ofNat 1))) (.lit (.ofNat 1))) (.lit (.ofNat 1)), .lit (.ofNat 0), false⟩,
  ⟨.eql, .bin .sub .i64 (.bin .sub .i64 (.bin .sub .i64 (.bin .sub .i64 (.bin .sub .i64 (.bin .sub .i64 (.bin .sub .i64 (.bin .sub .i64 (.bin .sub .i64 (.bin .sub .i64 (.bin .sub .i64 (.bin .sub .i64 (.bin .sub .i64 (.bin .sub .i64 (.bin .sub .i64 (.bin .sub .i64 (.bin .sub .i64 (.bin .sub .i64 (.bin .sub .i64 (.bin .sub .i64 (.bin .sub .i64 (.bin .sub .i64 (.bin .sub .i64 (.bin .sub .i64 (.bin .sub .i64 (.bin .sub .i64 (.bin .sub .i64 (.bin .sub .i64 (.bin .sub .i64 (.bin .sub .i64 (.bin .sub .i64 (.bin .sub .i64 (.bin .sub .i64 (.bin .sub .i64 (.var 3) (.lit (.ofNat 1))) (.lit (.ofNat 1))) (.lit (.ofNat 1))) (.lit (.ofNat 1))) (.lit (.ofNat 1))) (.lit (.ofNat 1))) (.lit (.ofNat 1))) (.lit (.ofNat 1))) (.lit (.ofNat 1))) (.lit (.ofNat 1))) (.lit (.ofNat 1))) (.lit (.ofNat 1))) (.lit (.ofNat 1))) (.lit (.ofNat 1))) (.lit (.ofNat 1))) (.lit (.ofNat 1))) (.lit (.ofNat 1))) (.lit (.ofNat 1))) (.lit (.ofNat 1))) (.lit (.ofNat 1))) (.lit (.ofNat 1))) (.lit (.ofNat 1))) (.lit (.ofNat 1))) (.lit (.ofNat 1))) (.lit (.ofNat 1))) (.lit (.ofNat 1))) (.lit (.ofNat 1))) (.lit (.ofNat 1))) (.lit (.ofNat 1))) (.lit (.ofNat 1))) (.lit (.ofNat 1))) (.lit (.ofNat 1))) (.lit (.ofNat 1))) (.lit (.ofNat 1)), .lit (.ofNat 0), false⟩,
  ⟨.eql, .bin .sub .i64 (.bin .sub .i64 (.bin .sub .i64 (.bin .sub .i64 (.bin .sub .i64 (.bin .sub .i64 (.bin .sub .i64 (.bin .sub .i64 (.bin .sub .i64 (.bin .sub .i64 (.bin .sub .i64 (.bin .sub .i64 (.bin .sub .i64 (.bin .sub .i64 (.bin .sub .i64 (.bin .sub .i64 (.bin .sub .i64 (.bin .sub .i64 (.bin .sub .i64 (.bin .sub .i64 (.bin .sub .i64 (.bin .sub .i64 (.bin .sub .i64 (.bin .sub .i64 (.bin .sub .i64 (.bin .sub .i64 (.bin .sub .i64 (.bin .sub .i64 (.bin .sub .i64 (.bin .sub .i64 (.bin .sub .i64 (.bin .sub .i64 (.bin .sub .i64 (.bin .sub .i64 (.bin .sub .i64 (.var 3) (.lit (.ofNat 1))) (.lit (.ofNat 1))) (.lit (.ofNat 1))) (.lit (.ofNat 1))) (.lit (.ofNat 1))) (.lit (.ofNat 1))) (.lit (.ofNat 1))) (.lit (.ofNat 1))) (.lit (.ofNat 1))) (.lit (.ofNat 1))) (.lit (.ofNat 1))) (.lit (.ofNat 1))) (.lit (.ofNat 1))) (.lit (.ofNat 1))) (.lit (.ofNat 1))) (.lit (.ofNat 1))) (.lit (.ofNat 1))) (.lit (.ofNat 1))) (.lit (.ofNat 1))) (.lit (.ofNat 1))) (.lit (.ofNat 1))) (.lit (.ofNat 1))) (.lit (.ofNat 1))) (.lit (.ofNat 1))) (.lit (.ofNat 1))) (.lit (.ofNat 1))) (.lit (.ofNat 1))) (.lit (.ofNat 1))) (.lit (.ofNat 1))) (.lit (.ofNat 1))) (.lit (.ofNat 1))) (.lit (.ofNat 1))) (.lit (.ofNat 1))) (.lit (.ofNat 1))) (.lit (.ofNat 1)), .lit (.ofNat 0), false⟩,
  ⟨.eql, .bin .sub .i64 (.bin .sub .i64 (.bin .sub .i64 (.bin .sub .i64 (.bin .sub .i64 (.bin .sub .i64 (.bin .sub .i64 (.bin .sub .i64 (.bin .sub .i64 (.bin .sub .i64 (.bin .sub .i64 (.bin .sub .i64 (.bin .sub .i64 (.bin .sub .i64 (.bin .sub .i64 (.bin .sub .i64 (.bin .sub .i64 (.bin .sub .i64 (.bin .sub .i64 (.bin .sub .i64 (.bin .sub .i64 (.bin .sub .i64 (.bin .sub .i64 (.bin .sub .i64 (.bin .sub .i64 (.bin .sub .i64 (.bin .sub .i64 (.bin .sub .i64 (.bin .sub .i64 (.bin .sub .i64 (.bin .sub .i64 (.bin .sub .i64 (.bin .sub .i64 (.bin .sub .i64 (.bin .sub .i64 (.bin .sub .i64 (.var 3) (.lit (.ofNat 1))) (.lit (.ofNat 1))) (.lit (.ofNat 1))) (.lit (.ofNat 1))) (.lit (.ofNat 1))) (.lit (.ofNat 1))) (.lit (.ofNat 1))) (.lit (.ofNat 1))) (.lit (.ofNat 1))) (.lit (.ofNat 1))) (.lit (.ofNat 1))) (.lit (.ofNat 1))) (.lit (.ofNat 1))) (.lit (.ofNat 1))) (.lit (.ofNat 1))) (.lit (.ofNat 1))) (.lit (.ofNat 1))) (.lit (.ofNat 1))) (.lit (.ofNat 1))) (.lit (.ofNat 1))) (.lit (.ofNat 1))) (.lit (.ofNat 1))) (.lit (.ofNat 1))) (.lit (.ofNat 1))) (.lit (.ofNat 1))) (.lit (.ofNat 1))) (.lit (.ofNat 1))) (.lit (.ofNat 1))) (.lit (.ofNat 1))) (.lit (.ofNat 1))) (.lit (.ofNat 1))) (.lit (.ofNat 1))) (.lit (.ofNat 1))) (.lit (.ofNat 1))) (.lit (.ofNat 1))) (.lit (.ofNat 1)), .lit (.ofNat 0), false⟩,
  ⟨.eql, .bin .sub .i64 (.bin .sub .i64 (.bin .sub .i64 (.bin .sub .i64 (.bin .sub .i64 (.bin .sub .i64 (.bin .sub .i64 (.bin .sub .i64 (.bin .sub .i64 (.bin .sub .i64 (.bin .sub .i64 (.bin .sub .i64 (.bin .sub .i64 (.bin .sub .i64 (.bin .sub .i64 (.bin .sub .i64 (.bin .sub .i64 (.bin .sub .i64 (.bin .sub .i64 (.bin .sub .i64 (.bin .sub .i64 (.bin .sub .i64 (.bin .sub .i64 (.bin .sub .i64 (.bin .sub .i64 (.bin .sub .i64 (.bin .sub .i64 (.bin .sub .i64 (.bin .sub .i64 (.bin .sub .i64 (.bin .sub .i64 (.bin .sub .i64 (.bin .sub .i64 (.bin .sub .i64 (.bin .sub .i64 (.bin .sub .i64 (.bin .sub .i64 (.var 3) (.lit (.ofNat 1))) (.lit (.ofNat 1))) (.lit (.ofNat 1))) (.lit (.ofNat 1))) (.lit (.ofNat 1))) (.lit (.ofNat 1))) (.lit (.ofNat 1))) (.lit (.ofNat 1))) (.lit (.ofNat 1))) (.lit (.ofNat 1))) (.lit (.ofNat 1))) (.lit (.ofNat 1))) (.lit (.ofNat 1))) (.lit (.ofNat 1))) (.lit (.ofNat 1))) (.lit (.ofNat 1))) (.lit (.ofNat 1))) (.lit (.ofNat 1))) (.lit (.ofNat 1))) (.lit (.ofNat 1))) (.lit (.ofNat 1))) (.lit (.ofNat 1))) (.lit (.ofNat 1))) (.lit (.ofNat 1))) (.lit (.ofNat 1))) (.lit (.ofNat 1))) (.lit (.ofNat 1))) (.lit (.ofNat 1))) (.lit (.ofNat 1))) (.lit (.ofNat 1))) (.lit (.ofNat 1))) (.lit (.ofNat 1))) (.lit (.ofNat 1))) (.lit (.ofNat 1))) (.lit (.ofNat 1))) (.lit (.ofNat 1))) (.lit (.ofNat 1)), .lit (.ofNat 0), false⟩,
  ⟨.eql, .bin .sub .i64 (.bin .sub .i64 (.bin .sub .i64 (.bin .sub .i64 (.bin .sub .i64 (.bin .sub .i64 (.bin .sub .i64 (.bin .sub .i64 (.bin .sub .i64 (.bin .sub .i64 (.bin .sub .i64 (.bin .sub .i64 (.bin .sub .i64 (.bin .sub .i64 (.bin .sub .i64 (.bin .sub .i64 (.bin .sub .i64 (.bin .sub .i64 (.bin .sub .i64 (.bin .sub .i64 (.bin .sub .i64 (.bin .sub .i64 (.bin .sub .i64 (.bin .sub .i64 (.bin .sub .i64 (.bin .sub .i64 (.bin .sub .i64 (.bin .sub .i64 (.bin .sub .i64 (.bin .sub .i64 (.bin .sub .i64 (.bin .sub .i64 (.bin .sub .i64 (.bin .sub .i64 (.bin .sub .i64 (.bin .sub .i64 (.bin .sub .i64 (.bin .sub .i64 (.var 3) (.lit (.ofNat 1))) (.lit (.ofNat 1))) (.lit (.ofNat 1))) (.lit (.ofNat 1))) (.lit (.ofNat 1))) (.lit (.ofNat 1))) (.lit (.ofNat 1))) (.lit (.ofNat 1))) (.lit (.ofNat 1))) (.lit (.ofNat 1))) (.lit (.ofNat 1))) (.lit (.ofNat 1))) (.lit (.ofNat 1))) (.lit (.ofNat 1))) (.lit (.ofNat 1))) (.lit (.ofNat 1))) (.lit (.ofNat 1))) (.lit (.ofNat 1))) (.lit (.ofNat 1))) (.lit (.ofNat 1))) (.lit (.ofNat 1))) (.lit (.ofNat 1))) (.lit (.ofNat 1))) (.lit (.ofNat 1))) (.lit (.ofNat 1))) (.lit (.ofNat 1))) (.lit (.ofNat 1))) (.lit (.ofNat 1))) (.lit (.ofNat 1))) (.lit (.ofNat 1))) (.lit (.ofNat 1))) (.lit (.ofNat 1))) (.lit (.ofNat 1))) (.lit (.ofNat 1))) (.lit (.ofNat 1))) (.lit (.ofNat 1))) (.lit (.ofNat 1))) (.lit (.ofNat 1)), .lit (.ofNat 0), false⟩,
  ⟨.eql, .bin .sub .i64 (.bin .sub .i64 (.bin .sub .i64 (.bin .sub .i64 (.bin .sub .i64 (.bin .sub .i64 (.bin .sub .i64 (.bin .sub .i64 (.bin .sub .i64 (.bin .sub .i64 (.bin .sub .i64 (.bin .sub .i64 (.bin .sub .i64 (.bin .sub .i64 (.bin .sub .i64 (.bin .sub .i64 (.bin .sub .i64 (.bin .sub .i64 (.bin .sub .i64 (.bin .sub .i64 (.bin .sub .i64 (.bin .sub .i64 (.bin .sub .i64 (.bin .sub .i64 (.bin .sub .i64 (.bin .sub .i64 (.bin .sub .i64 (.bin .sub .i64 (.bin .sub .i64 (.bin .sub .i64 (.bin .sub .i64 (.bin .sub .i64 (.bin .sub .i64 (.bin .sub .i64 (.bin .sub .i64 (.bin .sub .i64 (.bin .sub .i64 (.bin .sub .i64 (.bin .sub .i64 (.var 3) (.lit (.ofNat 1))) (.lit (.ofNat 1))) (.lit (.ofNat 1))) (.lit (.ofNat 1))) (.lit (.ofNat 1))) (.lit (.ofNat 1))) (.lit (.ofNat 1))) (.lit (.ofNat 1))) (.lit (.ofNat 1))) (.lit (.ofNat 1))) (.lit (.ofNat 1))) (.lit (.ofNat 1))) (.lit (.ofNat 1))) (.lit (.ofNat 1))) (.lit (.ofNat 1))) (.lit (.ofNat 1))) (.lit (.ofNat 1))) (.lit (.ofNat 1))) (.lit (.ofNat 1))) (.lit (.ofNat 1))) (.lit (.ofNat 1))) (.lit (.ofNat 1))) (.lit (.ofNat 1))) (.lit (.ofNat 1))) (.lit (.ofNat 1))) (.lit (.ofNat 1))) (.lit (.ofNat 1))) (.lit (.ofNat 1))) (.lit (.ofNat 1))) (.lit (.ofNat 1))) (.lit (.ofNat 1))) (.lit (.ofNat 1))) (.lit (.ofNat 1))) (.lit (.ofNat 1))) (.lit (.ofNat 1))) (.lit (.ofNat 1))) (.lit (.ofNat 1))) (.lit (.ofNat 1))) (.lit (.ofNat 1)), .lit (.ofNat 0), false⟩,
  ⟨.eql, .bin .sub .i64 (.bin .sub .i64 (.bin .sub .i64 (.bin .sub .i64 (.bin .sub .i64 (.bin .sub .i64 (.bin .sub .i64 (.bin .sub .i64 (.bin .sub .i64 (.bin .sub .i64 (.bin .sub .i64 (.bin .sub .i64 (.bin .sub .i64 (.bin .sub .i64 (.bin .sub .i64 (.bin .sub .i64 (.bin .sub .i64 (.bin .sub .i64 (.bin .sub .i64 (.bin .sub .i64 (.bin .sub .i64 (.bin .sub .i64 (.bin .sub .i64 (.bin .sub .i64 (.bin .sub .i64 (.bin .sub .i64 (.bin .sub .i64 (.bin .sub .i64 (.bin .sub .i64 (.bin .sub .i64 (.bin .sub .i64 (.bin .sub .i64 (.bin .sub .i64 (.bin .sub .i64 (.bin .sub .i64 (.bin .sub .i64 (.bin .sub .i64 (.bin .sub .i64 (.bin .sub .i64 (.bin .sub .i64 (.var 3) (.lit (.ofNat 1))) (.lit (.ofNat 1))) (.lit (.ofNat 1))) (.lit (.ofNat 1))) (.lit (.ofNat 1))) (.lit (.ofNat 1))) (.lit (.ofNat 1))) (.lit (.ofNat 1))) (.lit (.ofNat 1))) (.lit (.ofNat 1))) (.lit (.ofNat 1))) (.lit (.ofNat 1))) (.lit (.ofNat 1))) (.lit (.ofNat 1))) (.lit (.ofNat 1))) (.lit (.ofNat 1))) (.lit (.ofNat 1))) (.lit (.ofNat 1))) (.lit (.ofNat 1))) (.lit (.ofNat 1))) (.lit (.ofNat 1))) (.lit (.ofNat 1))) (.lit (.ofNat 1))) (.lit (.ofNat 1))) (.lit (.ofNat 1))) (.lit (.ofNat 1))) (.lit (.ofNat 1))) (.lit (.ofNat 1))) (.lit (.ofNat 1))) (.lit (.ofNat 1))) (.lit (.ofNat 1))) (.lit (.ofNat 1))) (.lit (.ofNat 1))) (.lit (.ofNat 1))) (.lit (.ofNat 1))) (.lit (.ofNat 1))) (.lit (.ofNat 1))) (.lit (.ofNat 1))) (.lit (.ofNat 1))) (.lit (.ofNat 1)), .lit (.ofNat 0), false⟩,
  ⟨.eql, .bin .sub .i64 (.bin .sub .i64 (.bin .sub .i64 (.bin .sub .i64 (.bin .sub .i64 (.bin .sub .i64 (.bin .sub .i64 (.bin .sub .i64 (.bin .sub .i64 (.bin .sub .i64 (.bin .sub .i64 (.bin .sub .i64 (.bin .sub .i64 (.bin .sub .i64 (.bin .sub .i64 (.bin .sub .i64 (.bin .sub .i64 (.bin .sub .i64 (.bin .sub .i64 (.bin .sub .i64 (.bin .sub .i64 (.bin .sub .i64 (.bin .sub .i64 (.bin .sub .i64 (.bin .sub .i64 (.bin .sub .i64 (.bin .sub .i64 (.bin .sub .i64 (.bin .sub .i64 (.bin .sub .i64 (.bin .sub .i64 (.bin .sub .i64 (.bin .sub .i64 (.bin .sub .i64 (.bin .sub .i64 (.bin .sub .i64 (.bin .sub .i64 (.bin .sub .i64 (.bin .sub .i64 (.bin .sub .i64 (.bin .sub .i64 (.var 3) (.lit (.ofNat 1))) (.lit (.ofNat 1))) (.lit (.ofNat 1))) (.lit (.ofNat 1))) (.lit (.ofNat 1))) (.lit (.ofNat 1))) (.lit (.ofNat 1))) (.lit (.ofNat 1))) (.lit (.ofNat 1))) (.lit (.ofNat 1))) (.lit (.ofNat 1))) (.lit (.ofNat 1))) (.lit (.ofNat 1))) (.lit (.ofNat 1))) (.lit (.ofNat 1))) (.lit (.ofNat 1))) (.lit (.ofNat 1))) (.lit (.ofNat 1))) (.lit (.ofNat 1))) (.lit (.ofNat 1))) (.lit (.ofNat 1))) (.lit (.ofNat 1))) (.lit (.ofNat 1))) (.lit (.ofNat 1))) (.lit (.ofNat 1))) (.lit (.ofNat 1))) (.lit (.ofNat 1))) (.lit (.ofNat 1))) (.lit (.ofNat 1))) (.lit (.ofNat 1))) (.lit (.ofNat 1))) (.lit (.ofNat 1))) (.lit (.ofNat 1))) (.lit (.ofNat 1))) (.lit (.ofNat 1))) (.lit (.ofNat 1))) (.lit (.ofNat 1))) (.lit (.ofNat 1))) (.lit (.ofNat 1))) (.lit (.ofNat 1))) (.lit (.ofNat 1)), .lit (.ofNat 0), false⟩,
  ⟨.eql, .bin .sub .i64 (.bin .sub .i64 (.bin .sub .i64 (.bin .sub .i64 (.bin .sub .i64 (.bin .sub .i64 (.bin .sub .i64 (.bin .sub .i64 (.bin .sub .i64 (.bin .sub .i64 (.bin .sub .i64 (.bin .sub .i64 (.bin .sub .i64 (.bin .sub .i64 (.bin .sub .i64 (.bin .sub .i64 (.bin .sub .i64 (.bin .sub .i64 (.bin .sub .i64 (.bin .sub .i64 (.bin .sub .i64 (.bin .sub .i64 (.bin .sub .i64 (.bin .sub .i64 (.bin .sub .i64 (.bin .sub .i64 (.bin .sub .i64 (.bin .sub .i64 (.bin .sub .i64 (.bin .sub .i64 (.bin .sub .i64 (.bin .sub .i64 (.bin .sub .i64 (.bin .sub .i64 (.bin .sub .i64 (.bin .sub .i64 (.bin .sub .i64 (.bin .sub .i64 (.bin .sub .i64 (.bin .sub .i64 (.bin .sub .i64 (.bin .sub .i64 (.var 3) (.lit (.ofNat 1))) (.lit (.ofNat 1))) (.lit (.ofNat 1))) (.lit (.ofNat 1))) (.lit (.ofNat 1))) (.lit (.ofNat 1))) (.lit (.ofNat 1))) (.lit (.ofNat 1))) (.lit (.ofNat 1))) (.lit (.ofNat 1))) (.lit (.ofNat 1))) (.lit (.ofNat 1))) (.lit (.ofNat 1))) (.lit (.ofNat 1))) (.lit (.ofNat 1))) (.lit (.ofNat 1))) (.lit (.ofNat 1))) (.lit (.ofNat 1))) (.lit (.ofNat 1))) (.lit (.ofNat 1))) (.lit (.ofNat 1))) (.lit (.ofNat 1))) (.lit (.ofNat 1))) (.lit (.ofNat 1))) (.lit (.ofNat 1))) (.lit (.ofNat 1))) (.lit (.ofNat 1))) (.lit (.ofNat 1))) (.lit (.ofNat 1))) (.lit (.ofNat 1))) (.lit (.ofNat 1))) (.lit (.ofNat 1))) (.lit (.ofNat 1))) (.lit (.ofNat 1))) (.lit (.ofNat 1))) (.lit (.ofNat 1))) (.lit (.ofNat 1))) (.lit (.ofNat 1))) (.lit (.ofNat 1))) (.lit (.ofNat 1))) (.lit (.ofNat 1))) (.lit (.ofNat 1)), .lit (.ofNat 0), false⟩,
  ⟨.eql, .bin .sub .i64 (.bin .sub .i64 (.bin .sub .i64 (.bin .sub .i64 (.bin .sub .i64 (.bin .sub .i64 (.bin .sub .i64 (.bin .sub .i64 (.bin .sub .i64 (.bin .sub .i64 (.bin .sub .i64 (.bin .sub .i64 (.bin .sub .i64 (.bin .sub .i64 (.bin .sub .i64 (.bin .sub .i64 (.bin .sub .i64 (.bin .sub .i64 (.bin .sub .i64 (.bin .sub .i64 (.bin .sub .i64 (.bin .sub .i64 (.bin .sub .i64 (.bin .sub .i64 (.bin .sub .i64 (.bin .sub .i64 (.bin .sub .i64 (.bin .sub .i64 (.bin .sub .i64 (.bin .sub .i64 (.bin .sub .i64 (.bin .sub .i64 (.bin .sub .i64 (.bin .sub .i64 (.bin .sub .i64 (.bin .sub .i64 (.bin .sub .i64 (.bin .sub .i64 (.bin .sub .i64 (.bin .sub .i64 (.bin .sub .i64 (.bin .sub .i64 (.bin .sub .i64 (.var 3) (.lit (.ofNat 1))) (.lit (.ofNat 1))) (.lit (.ofNat 1))) (.lit (.ofNat 1))) (.lit (.ofNat 1))) (.lit (.ofNat 1))) (.lit (.ofNat 1))) (.lit (.ofNat 1))) (.lit (.ofNat 1))) (.lit (.ofNat 1))) (.lit (.ofNat 1))) (.lit (.ofNat 1))) (.lit (.ofNat 1))) (.lit (.ofNat 1))) (.lit (.ofNat 1))) (.lit (.ofNat 1))) (.lit (.ofNat 1))) (.lit (.ofNat 1))) (.lit (.ofNat 1))) (.lit (.ofNat 1))) (.lit (.ofNat 1))) (.lit (.ofNat 1))) (.lit (.ofNat 1))) (.lit (.ofNat 1))) (.lit (.ofNat 1))) (.lit (.ofNat 1))) (.lit (.ofNat 1))) (.lit (.ofNat 1))) (.lit (.ofNat 1))) (.lit (.ofNat 1))) (.lit (.ofNat 1))) (.lit (.ofNat 1))) (.lit (.ofNat 1))) (.lit (.ofNat 1))) (.lit (.ofNat 1))) (.lit (.ofNat 1))) (.lit (.ofNat 1))) (.lit (.ofNat 1))) (.lit (.ofNat 1))) (.lit (.ofNat 1))) (.lit (.ofNat 1))) (.lit (.ofNat 1))) (.lit (.ofNat 1)), .lit (.ofNat 0), false⟩,
  ⟨.eql, .bin .sub .i64 (.bin .sub .i64 (.bin .sub .i64 (.bin .sub .i64 (.bin .sub .i64 (.bin .sub .i64 (.bin .sub .i64 (.bin .sub .i64 (.bin .sub .i64 (.bin .sub .i64 (.bin .sub .i64 (.bin .sub .i64 (.bin .sub .i64 (.bin .sub .i64 (.bin .sub .i64 (.bin .sub .i64 (.bin .sub .i64 (.bin .sub .i64 (.bin .sub .i64 (.bin .sub .i64 (.bin .sub .i64 (.bin .sub .i64 (.bin .sub .i64 (.bin .sub .i64 (.bin .sub .i64 (.bin .sub .i64 (.bin .sub .i64 (.bin .sub .i64 (.bin .sub .i64 (.bin .sub .i64 (.bin .sub .i64 (.bin .sub .i64 (.bin .sub .i64 (.bin .sub .i64 (.bin .sub .i64 (.bin .sub .i64 (.bin .sub .i64 (.bin .sub .i64 (.bin .sub .i64 (.bin .sub .i64 (.bin .sub .i64 (.bin .sub .i64 (.bin .sub .i64 (.bin .sub .i64 (.var 3) (.lit (.ofNat 1))) (.lit (.ofNat 1))) (.lit (.ofNat 1))) (.lit (.ofNat 1))) (.lit (.ofNat 1))) (.lit (.ofNat 1))) (.lit (.ofNat 1))) (.lit (.ofNat 1))) (.lit (.ofNat 1))) (.lit (.ofNat 1))) (.lit (.ofNat 1))) (.lit (.ofNat 1))) (.lit (.ofNat 1))) (.lit (.ofNat 1))) (.lit (.ofNat 1))) (.lit (.ofNat 1))) (.lit (.ofNat 1))) (.lit (.ofNat 1))) (.lit (.ofNat 1))) (.lit (.ofNat 1))) (.lit (.ofNat 1))) (.lit (.ofNat 1))) (.lit (.ofNat 1))) (.lit (.ofNat 1))) (.lit (.ofNat 1))) (.lit (.ofNat 1))) (.lit (.ofNat 1))) (.lit (.ofNat 1))) (.lit (.ofNat 1))) (.lit (.ofNat 1))) (.lit (.ofNat 1))) (.lit (.ofNat 1))) (.lit (.ofNat 1))) (.lit (.ofNat 1))) (.lit (.ofNat 1))) (.lit (.ofNat 1))) (.lit (.ofNat 1))) (.lit (.ofNat 1))) (.lit (.ofNat 1))) (.lit (.ofNat 1))) (.lit (.ofNat 1))) (.lit (.ofNat 1))) (.lit (.ofNat 1))) (.lit (.ofNat 1)), .lit (.ofNat 0), false⟩,
  ⟨.eql, .bin .sub .i64 (.bin .sub .i64 (.bin .sub .i64 (.bin .sub .i64 (.bin .sub .i64 (.bin .sub .i64 (.bin .sub .i64 (.bin .sub .i64 (.bin .sub .i64 (.bin .sub .i64 (.bin .sub .i64 (.bin .sub .i64 (.bin .sub .i64 (.bin .sub .i64 (.bin .sub .i64 (.bin .sub .i64 (.bin .sub .i64 (.bin .sub .i64 (.bin .sub .i64 (.bin .sub .i64 (.bin .sub .i64 (.bin .sub .i64 (.bin .sub .i64 (.bin .sub .i64 (.bin .sub .i64 (.bin .sub .i64 (.bin .sub .i64 (.bin .sub .i64 (.bin .sub .i64 (.bin .sub .i64 (.bin .sub .i64 (.bin .sub .i64 (.bin .sub .i64 (.bin .sub .i64 (.bin .sub .i64 (.bin .sub .i64 (.bin .sub .i64 (.bin .sub .i64 (.bin .sub .i64 (.bin .sub .i64 (.bin .sub .i64 (.bin .sub .i64 (.bin .sub .i64 (.bin .sub .i64 (.bin .sub .i64 (.var 3) (.lit (.ofNat 1))) (.lit (.ofNat 1))) (.lit (.ofNat 1))) (.lit (.ofNat 1))) (.lit (.ofNat 1))) (.lit (.ofNat 1))) (.lit (.ofNat 1))) (.lit (.ofNat 1))) (.lit (.ofNat 1))) (.lit (.ofNat 1))) (.lit (.ofNat 1))) (.lit (.ofNat 1))) (.lit (.ofNat 1))) (.lit (.ofNat 1))) (.lit (.ofNat 1))) (.lit (.ofNat 1))) (.lit (.ofNat 1))) (.lit (.ofNat 1))) (.lit (.ofNat 1))) (.lit (.ofNat 1))) (.lit (.ofNat 1))) (.lit (.ofNat 1))) (.lit (.ofNat 1))) (.lit (.ofNat 1))) (.lit (.ofNat 1))) (.lit (.ofNat 1))) (.lit (.ofNat 1))) (.lit (.ofNat 1))) (.lit (.ofNat 1))) (.lit (.ofNat 1))) (.lit (.ofNat 1))) (.lit (.ofNat 1))) (.lit (.ofNat 1))) (.lit (.ofNat 1))) (.lit (.ofNat 1))) (.lit (.ofNat 1))) (.lit (.ofNat 1))) (.lit (.ofNat 1))) (.lit (.ofNat 1))) (.lit (.ofNat 1))) (.lit (.ofNat 1))) (.lit (.ofNat 1))) (.lit (.ofNat 1))) (.lit (.ofNat 1))) (.lit (.ofNat 1)), .lit (.ofNat 0), false⟩,
  ⟨.eql, .bin .sub .i64 (.bin .sub .i64 (.bin .sub .i64 (.bin .sub .i64 (.bin .sub .i64 (.bin .sub .i64 (.bin .sub .i64 (.bin .sub .i64 (.bin .sub .i64 (.bin .sub .i64 (.bin .sub .i64 (.bin .sub .i64 (.bin .sub .i64 (.bin .sub .i64 (.bin .sub .i64 (.bin .sub .i64 (.bin .sub .i64 (.bin .sub .i64 (.bin .sub .i64 (.bin .sub .i64 (.bin .sub .i64 (.bin .sub .i64 (.bin .sub .i64 (.bin .sub .i64 (.bin .sub .i64 (.bin .sub .i64 (.bin .sub .i64 (.bin .sub .i64 (.bin .sub .i64 (.bin .sub .i64 (.bin .sub .i64 (.bin .sub .i64 (.bin .sub .i64 (.bin .sub .i64 (.bin .sub .i64 (.bin .sub .i64 (.bin .sub .i64 (.bin .sub .i64 (.bin .sub .i64 (.bin .sub .i64 (.bin .sub .i64 (.bin .sub .i64 (.bin .sub .i64 (.bin .sub .i64 (.bin .sub .i64 (.bin .sub .i64 (.var 3) (.lit (.ofNat 1))) (.lit (.ofNat 1))) (.lit (.ofNat 1))) (.lit (.ofNat 1))) (.lit (.ofNat 1))) (.lit (.ofNat 1))) (.lit (.ofNat 1))) (.lit (.ofNat 1))) (.lit (.ofNat 1))) (.lit (.ofNat 1))) (.lit (.ofNat 1))) (.lit (.ofNat 1))) (.lit (.ofNat 1))) (.lit (.ofNat 1))) (.lit (.ofNat 1))) (.lit (.ofNat 1))) (.lit (.ofNat 1))) (.lit (.ofNat 1))) (.lit (.ofNat 1))) (.lit (.ofNat 1))) (.lit (.ofNat 1))) (.lit (.ofNat 1))) (.lit (.ofNat 1))) (.lit (.ofNat 1))) (.lit (.ofNat 1))) (.lit (.ofNat 1))) (.lit (.ofNat 1))) (.lit (.ofNat 1))) (.lit (.ofNat 1))) (.lit (.ofNat 1))) (.lit (.ofNat 1))) (.lit (.ofNat 1))) (.lit (.ofNat 1))) (.lit (.ofNat 1))) (.lit (.ofNat 1))) (.lit (.ofNat 1))) (.lit (.ofNat 1))) (.lit (.ofNat 1))) (.lit (.ofNat 1))) (.lit (.ofNat 1))) (.lit (.ofNat 1))) (.lit (.ofNat 1))) (.lit (.ofNat 1))) (.lit (.ofNat 1))) (.lit (.ofNat 1))) (.lit (.ofNat 1)), .lit (.ofNat 0), false⟩,
  ⟨.eql, .bin .sub .i64 (.bin .sub .i64 (.bin .sub .i64 (.bin .sub .i64 (.bin .sub .i64 (.bin .sub .i64 (.bin .sub .i64 (.bin .sub .i64 (.bin .sub .i64 (.bin .sub .i64 (.bin .sub .i64 (.bin .sub .i64 (.bin .sub .i64 (.bin .sub .i64 (.bin .sub .i64 (.bin .sub .i64 (.bin .sub .i64 (.bin .sub .i64 (.bin .sub .i64 (.bin .sub .i64 (.bin .sub .i64 (.bin .sub .i64 (.bin .sub .i64 (.bin .sub .i64 (.bin .sub .i64 (.bin .sub .i64 (.bin .sub .i64 (.bin .sub .i64 (.bin .sub .i64 (.bin .sub .i64 (.bin .sub .i64 (.bin .sub .i64 (.bin .sub .i64 (.bin .sub .i64 (.bin .sub .i64 (.bin .sub .i64 (.bin .sub .i64 (.bin .sub .i64 (.bin .sub .i64 (.bin .sub .i64 (.bin .sub .i64 (.bin .sub .i64 (.bin .sub .i64 (.bin .sub .i64 (.bin .sub .i64 (.bin .sub .i64 (.bin .sub .i64 (.var 3) (.lit (.ofNat 1))) (.lit (.ofNat 1))) (.lit (.ofNat 1))) (.lit (.ofNat 1))) (.lit (.ofNat 1))) (.lit (.ofNat 1))) (.lit (.ofNat 1))) (.lit (.ofNat 1))) (.lit (.ofNat 1))) (.lit (.ofNat 1))) (.lit (.ofNat 1))) (.lit (.ofNat 1))) (.lit (.ofNat 1))) (.lit (.ofNat 1))) (.lit (.ofNat 1))) (.lit (.ofNat 1))) (.lit (.ofNat 1))) (.lit (.ofNat 1))) (.lit (.ofNat 1))) (.lit (.ofNat 1))) (.lit (.ofNat 1))) (.lit (.ofNat 1))) (.lit (.ofNat 1))) (.lit (.ofNat 1))) (.lit (.ofNat 1))) (.lit (.ofNat 1))) (.lit (.ofNat 1))) (.lit (.ofNat 1))) (.lit (.ofNat 1))) (.lit (.ofNat 1))) (.lit (.ofNat 1))) (.lit (.ofNat 1))) (.lit (.ofNat 1))) (.lit (.ofNat 1))) (.lit (.ofNat 1))) (.lit (.ofNat 1))) (.lit (.ofNat 1))) (.lit (.ofNat 1))) (.lit (.ofNat 1))) (.lit (.ofNat 1))) (.lit (.ofNat 1))) (.lit (.ofNat 1))) (.lit (.ofNat 1))) (.lit (.ofNat 1))) (.lit (.ofNat 1))) (.lit (.ofNat 1))) (.lit (.ofNat 1)), .lit (.ofNat 0), false⟩,
  ⟨.eql, .bin .sub .i64 (.bin .sub .i64 (.bin .sub .i64 (.bin .sub .i64 (.bin .sub .i64 (.bin .sub .i64 (.bin .sub .i64 (.bin .sub .i64 (.bin .sub .i64 (.bin .sub .i64 (.bin .sub .i64 (.bin .sub .i64 (.bin .sub .i64 (.bin .sub .i64 (.bin .sub .i64 (.bin .sub .i64 (.bin .sub .i64 (.bin .sub .i64 (.bin .sub .i64 (.bin .sub .i64 (.bin .sub .i64 (.bin .sub .i64 (.bin .sub .i64 (.bin .sub .i64 (.bin .sub .i64 (.bin .sub .i64 (.bin .sub .i64 (.bin .sub .i64 (.bin .sub .i64 (.bin .sub .i64 (.bin .sub .i64 (.bin .sub .i64 (.bin .sub .i64 (.bin .sub .i64 (.bin .sub .i64 (.bin .sub .i64 (.bin .sub .i64 (.bin .sub .i64 (.bin .sub .i64 (.bin .sub .i64 (.bin .sub .i64 (.bin .sub .i64 (.bin .sub .i64 (.bin .sub .i64 (.bin .sub .i64 (.bin .sub .i64 (.bin .sub .i64 (.bin .sub .i64 (.var 3) (.lit (.ofNat 1))) (.lit (.ofNat 1))) (.lit (.ofNat 1))) (.lit (.ofNat 1))) (.lit (.ofNat 1))) (.lit (.ofNat 1))) (.lit (.ofNat 1))) (.lit (.ofNat 1))) (.lit (.ofNat 1))) (.lit (.ofNat 1))) (.lit (.ofNat 1))) (.lit (.ofNat 1))) (.lit (.ofNat 1))) (.lit (.ofNat 1))) (.lit (.ofNat 1))) (.lit (.ofNat 1))) (.lit (.ofNat 1))) (.lit (.ofNat 1))) (.lit (.ofNat 1))) (.lit (.ofNat 1))) (.lit (.ofNat 1))) (.lit (.ofNat 1))) (.lit (.ofNat 1))) (.lit (.ofNat 1))) (.lit (.ofNat 1))) (.lit (.ofNat 1))) (.lit (.ofNat 1))) (.lit (.ofNat 1))) (.lit (.ofNat 1))) (.lit (.ofNat 1))) (.lit (.ofNat 1))) (.lit (.ofNat 1))) (.lit (.ofNat 1))) (.lit (.ofNat 1))) (.lit (.ofNat 1))) (.lit (.ofNat 1))) (.lit (.ofNat 1))) (.lit (.ofNat 1))) (.lit (.ofNat 1))) (.lit (.ofNat 1))) (.lit (.ofNat 1))) (.lit (.ofNat 1))) (.lit (.ofNat 1))) (.lit (.ofNat 1))) (.lit (.ofNat 1))) (.lit (.ofNat 1))) (.lit (.ofNat 1))) (.lit (.ofNat 1)), .lit (.ofNat 0), false⟩]
noncomputable def sub (i : Nat) : SI := match Nat.beq i 5 with
  | true => .bin .sub .i64 (.var 5) (.lit (.ofNat 1))
  | false => match Nat.beq i 6 with
    | true => .bin .add .i64 (.var 6) (.var 5)
    | false => match Nat.beq i 7 with
      | true => .bin .add .i64 (.var 7) (.lit (.ofNat 4))
      | false => .var i
noncomputable def lpP (q : SV) (o : AO) (en c : Nat) : Lp := ⟨55, patP q, outP o en, .exit 0, 4, 3000, sub, [(.var 6, .var 200), (.bin .add .i64 (.var 7) (.lit (.ofNat c)), .var 201)]⟩
/-- The numbers that the loop begins with. -/
noncomputable def iniP (e : SI) (i : Nat) : SI := match Nat.beq i 5 with
  | true => .var 2
  | false => match Nat.beq i 6 with
    | true => .lit (.ofNat 0)
    | false => match Nat.beq i 7 with
      | true => .lit (.ofNat 3)
      | false => match Nat.beq i 200 with
        | true => .bin .quo .i64 (.bin .mul .i64 (.var 2) (.bin .add .i64 (.var 2) (.lit (.ofNat 1)))) (.lit (.ofNat 2))
        | false => match Nat.beq i 201 with
          | true => e
          | false => .var i

/-! ### What is counted -/
noncomputable def tri : Nat → Nat
  | 0 => 0
  | m + 1 => tri m + (m + 1)
theorem tri_eq : ∀ m, 2 * tri m = m * (m + 1)
  | 0 => rfl
  | m + 1 => by
    have := tri_eq m
    simp only [tri]
    have h : (m + 1) * (m + 1 + 1) = m * (m + 1) + 2 * (m + 1) := by
      rw [show m + 1 + 1 = m + 2 from rfl, Nat.mul_add (m + 1) m 2, Nat.mul_comm (m + 1) m, Nat.mul_comm (m + 1) 2]
    omega
theorem tri_le {m : Nat} (h : m ≤ 100) : tri m ≤ 5050 := by
  have h1 := tri_eq m
  have h2 : m * (m + 1) ≤ 100 * 101 := Nat.mul_le_mul h (by omega)
  omega
theorem wrap_id {x : Int} (h0 : -9223372036854775808 ≤ x) (h1 : x ≤ 9223372036854775807) : IntKind.i64.wrap x = x := by
  have : IntKind.i64.wrap x = (if (true && decide (x % (2 ^ 64 : Int) ≥ (2 ^ 63 : Int))) = true then x % (2 ^ 64 : Int) - (2 ^ 64 : Int) else x % (2 ^ 64 : Int)) := rfl
  rw [this]
  simp only [Bool.true_and, decide_eq_true_eq]
  split <;> omega
theorem facts_nil {I : Nat → Int} : FactsOk [] I := fun _ h => nomatch h
theorem facts_cons {I : Nat → Int} {op : BinOp} {a b : SI} {r : Bool} {F : List Fact} (h : icmp op (a.den I) (b.den I) = r) (t : FactsOk F I) : FactsOk (⟨op, a, b, r⟩ :: F) I := fun f hf => by
  rcases List.mem_cons.1 hf with rfl | hf
  · exact h
  · exact t f hf

/-- What is so when the loop has m rounds to go. -/
noncomputable def Inv (D : Prop) [Decidable D] (c : Nat) (I : Nat → Int) (_ : Nat → Value) (m : Nat) : Prop := m ≤ 100 ∧ I 5 = (m : Int) ∧ 0 ≤ I 6 ∧ I 6 + (tri m : Int) = I 200 ∧ I 200 ≤ 5050 ∧ 0 ≤ I 7 ∧ I 7 + 4 * (m : Int) + c = I 201 ∧ I 201 ≤ 1000 ∧ (D → 48 < I 3 ∧ I 3 ≤ 100)

theorem add_i64 {x y : Int} (h0 : -9223372036854775808 ≤ x + y) (h1 : x + y ≤ 9223372036854775807) : iop .add .i64 x y = x + y := wrap_id h0 h1
theorem sub_i64 {x y : Int} (h0 : -9223372036854775808 ≤ x - y) (h1 : x - y ≤ 9223372036854775807) : iop .sub .i64 x y = x - y := wrap_id h0 h1
theorem mul_i64 {x y : Int} (h0 : -9223372036854775808 ≤ x * y) (h1 : x * y ≤ 9223372036854775807) : iop .mul .i64 x y = x * y := wrap_id h0 h1
theorem quo_i64 {x y : Int} (h0 : -9223372036854775808 ≤ x.tdiv y) (h1 : x.tdiv y ≤ 9223372036854775807) : iop .quo .i64 x y = x.tdiv y := wrap_id h0 h1

section
variable {D : Prop} [Decidable D] {c : Nat}
theorem go_facts {I : Nat → Int} {O : Nat → Value} {m : Nat} (h : Inv D c I O (m + 1)) : FactsOk gfacts I := by
  obtain ⟨h1, h2, h3, h4, h5, h6, h7, h8, h9⟩ := h
  refine facts_cons ?_ (facts_cons ?_ (facts_cons ?_ facts_nil))
  · show (I 5 == 0) = false
    rw [beq_eq_false_iff_ne]; omega
  · show decide (I 7 ≤ 2000) = true
    exact decide_eq_true (by omega)
  · show decide (I 7 ≥ 0) = true
    exact decide_eq_true (by omega)

theorem end_facts {I : Nat → Int} {O : Nat → Value} (h : Inv D c I O 0) : FactsOk efacts I := by
  obtain ⟨h1, h2, h3, h4, h5, h6, h7, h8, h9⟩ := h
  refine facts_cons ?_ (facts_cons ?_ (facts_cons ?_ facts_nil))
  · show (I 5 == 0) = true
    rw [beq_iff_eq]; omega
  · show decide (I 7 ≤ 2000) = true
    exact decide_eq_true (by omega)
  · show decide (I 7 ≥ 0) = true
    exact decide_eq_true (by omega)

theorem inv_next {I : Nat → Int} {O : Nat → Value} {m : Nat} (h : Inv D c I O (m + 1)) : Inv D c (fun i => (sub i).den I) O m := by
  obtain ⟨h1, h2, h3, h4, h5, h6, h7, h8, h9⟩ := h
  have ht : ((tri (m + 1) : Nat) : Int) = tri m + (m + 1) := by simp only [tri]; omega
  rw [ht] at h4
  have e3 : (sub 3).den I = I 3 := rfl
  have e5 : (sub 5).den I = I 5 - 1 := by
    show iop .sub .i64 (I 5) 1 = _
    rw [sub_i64 (by omega) (by omega)]
  have e6 : (sub 6).den I = I 6 + I 5 := by
    show iop .add .i64 (I 6) (I 5) = _
    rw [add_i64 (by omega) (by omega)]
  have e7 : (sub 7).den I = I 7 + 4 := by
    show iop .add .i64 (I 7) 4 = _
    rw [add_i64 (by omega) (by omega)]
  have e200 : (sub 200).den I = I 200 := rfl
  have e201 : (sub 201).den I = I 201 := rfl
  unfold Inv
  simp only [e3, e5, e6, e7, e200, e201]
  refine ⟨by omega, by omega, by omega, by omega, h5, by omega, by omega, h8, h9⟩

theorem inv_end {I : Nat → Int} {O : Nat → Value} (h : Inv D c I O 0) (q : SV) (o : AO) (en : Nat) : ∀ a b, (a, b) ∈ (lpP q o en c).eqs → a.den I = b.den I := by
  obtain ⟨h1, h2, h3, h4, h5, h6, h7, h8, h9⟩ := h
  intro a b hm
  simp only [lpP, List.mem_cons, List.not_mem_nil, or_false, Prod.mk.injEq] at hm
  rcases hm with ⟨rfl, rfl⟩ | ⟨rfl, rfl⟩
  · show I 6 = I 200
    simp only [tri] at h4
    omega
  · show iop .add .i64 (I 7) (c : Int) = I 201
    rw [add_i64 (by omega) (by omega)]
    omega

theorem inv_ini {I : Nat → Int} {O : Nat → Value} {e : SI} (h : 0 ≤ I 2 ∧ I 2 < 101) (he : e.den I = 3 + 4 * I 2 + c) (hc : c ≤ 400) (hd : D → 48 < I 3 ∧ I 3 ≤ 100) : Inv D c (fun i => (iniP e i).den I) O (I 2).toNat := by
  obtain ⟨m, hm⟩ : ∃ m : Nat, I 2 = (m : Int) := ⟨(I 2).toNat, by omega⟩
  have hmle : m ≤ 100 := by omega
  have ht := tri_eq m
  have htl := tri_le hmle
  have e3 : (iniP e 3).den I = I 3 := rfl
  have e5 : (iniP e 5).den I = I 2 := rfl
  have e6 : (iniP e 6).den I = 0 := rfl
  have e7 : (iniP e 7).den I = 3 := rfl
  have hmul : (m : Int) * ((m : Int) + 1) = 2 * (tri m : Int) := by
    rw [show ((m : Int) + 1) = ((m + 1 : Nat) : Int) by omega, ← Int.natCast_mul, ← ht]; omega
  have e200 : (iniP e 200).den I = (tri m : Int) := by
    show iop .quo .i64 (iop .mul .i64 (I 2) (iop .add .i64 (I 2) 1)) 2 = _
    rw [hm, add_i64 (by omega) (by omega), mul_i64 (by rw [hmul]; omega) (by rw [hmul]; omega), hmul]
    have hd : (2 * (tri m : Int)).tdiv 2 = tri m := by rw [Int.tdiv_eq_ediv_of_nonneg (by omega)]; omega
    rw [quo_i64 (by rw [hd]; omega) (by rw [hd]; omega), hd]
  have e201 : (iniP e 201).den I = 3 + 4 * (m : Int) + c := by
    show e.den I = _
    rw [he, hm]
  have hn : (I 2).toNat = m := by omega
  rw [hn]
  unfold Inv
  simp only [e3, e5, e6, e7, e200, e201, hm]
  refine ⟨hmle, trivial, by omega, by omega, by omega, by omega, by first | trivial | omega, by omega, hd⟩
end
noncomputable def chn : Nat → SI
  | 0 => .var 3
  | j + 1 => .bin .sub .i64 (chn j) (.lit (.ofNat 1))
theorem chn_den {I : Nat → Int} (h0 : 48 < I 3) (h1 : I 3 ≤ 100) : ∀ j, j ≤ 48 → (chn j).den I = I 3 - (j : Int)
  | 0, _ => by show I 3 = _; omega
  | j + 1, h => by
    have ih := chn_den h0 h1 j (by omega)
    show iop .sub .i64 ((chn j).den I) 1 = _
    rw [ih, sub_i64 (by omega) (by omega)]
    omega
theorem chn_ne {I : Nat → Int} (h0 : 48 < I 3) (h1 : I 3 ≤ 100) (j : Nat) (h : j ≤ 48) : icmp .eql ((chn j).den I) 0 = false := by
  rw [chn_den h0 h1 j h]
  show (I 3 - (j : Int) == 0) = false
  rw [beq_eq_false_iff_ne]
  omega
theorem deep_facts {c : Nat} {I : Nat → Int} {O : Nat → Value} (h : Inv True c I O 0) : FactsOk dfacts I := by
  obtain ⟨h1, h2, h3, h4, h5, h6, h7, h8, h9⟩ := h
  obtain ⟨h2', h3'⟩ := h9 trivial
  refine facts_cons ?_ (facts_cons ?_ (facts_cons ?_ (
    facts_cons (chn_ne h2' h3' 0 (by decide)) (    facts_cons (chn_ne h2' h3' 1 (by decide)) (    facts_cons (chn_ne h2' h3' 2 (by decide)) (    facts_cons (chn_ne h2' h3' 3 (by decide)) (    facts_cons (chn_ne h2' h3' 4 (by decide)) (    facts_cons (chn_ne h2' h3' 5 (by decide)) (    facts_cons (chn_ne h2' h3' 6 (by decide)) (    facts_cons (chn_ne h2' h3' 7 (by decide)) (    facts_cons (chn_ne h2' h3' 8 (by decide)) (    facts_cons (chn_ne h2' h3' 9 (by decide)) (    facts_cons (chn_ne h2' h3' 10 (by decide)) (    facts_cons (chn_ne h2' h3' 11 (by decide)) (    facts_cons (chn_ne h2' h3' 12 (by decide)) (    facts_cons (chn_ne h2' h3' 13 (by decide)) (    facts_cons (chn_ne h2' h3' 14 (by decide)) (    facts_cons (chn_ne h2' h3' 15 (by decide)) (    facts_cons (chn_ne h2' h3' 16 (by decide)) (    facts_cons (chn_ne h2' h3' 17 (by decide)) (    facts_cons (chn_ne h2' h3' 18 (by decide)) (    facts_cons (chn_ne h2' h3' 19 (by decide)) (    facts_cons (chn_ne h2' h3' 20 (by decide)) (    facts_cons (chn_ne h2' h3' 21 (by decide)) (    facts_cons (chn_ne h2' h3' 22 (by decide)) (    facts_cons (chn_ne h2' h3' 23 (by decide)) (    facts_cons (chn_ne h2' h3' 24 (by decide)) (    facts_cons (chn_ne h2' h3' 25 (by decide)) (    facts_cons (chn_ne h2' h3' 26 (by decide)) (    facts_cons (chn_ne h2' h3' 27 (by decide)) (    facts_cons (chn_ne h2' h3' 28 (by decide)) (    facts_cons (chn_ne h2' h3' 29 (by decide)) (    facts_cons (chn_ne h2' h3' 30 (by decide)) (    facts_cons (chn_ne h2' h3' 31 (by decide)) (    facts_cons (chn_ne h2' h3' 32 (by decide)) (    facts_cons (chn_ne h2' h3' 33 (by decide)) (    facts_cons (chn_ne h2' h3' 34 (by decide)) (    facts_cons (chn_ne h2' h3' 35 (by decide)) (    facts_cons (chn_ne h2' h3' 36 (by decide)) (    facts_cons (chn_ne h2' h3' 37 (by decide)) (    facts_cons (chn_ne h2' h3' 38 (by decide)) (    facts_cons (chn_ne h2' h3' 39 (by decide)) (    facts_cons (chn_ne h2' h3' 40 (by decide)) (    facts_cons (chn_ne h2' h3' 41 (by decide)) (    facts_cons (chn_ne h2' h3' 42 (by decide)) (    facts_cons (chn_ne h2' h3' 43 (by decide)) (    facts_cons (chn_ne h2' h3' 44 (by decide)) (    facts_cons (chn_ne h2' h3' 45 (by decide)) (    facts_cons (chn_ne h2' h3' 46 (by decide)) (    facts_cons (chn_ne h2' h3' 47 (by decide)) (    facts_cons (chn_ne h2' h3' 48 (by decide)) (facts_nil))))))))))))))))))))))))))))))))))))))))))))))))))))
  · show (I 5 == 0) = true
    rw [beq_iff_eq]; omega
  · show decide (I 7 ≤ 2000) = true
    exact decide_eq_true (by omega)
  · show decide (I 7 ≥ 0) = true
    exact decide_eq_true (by omega)

/-! ### The contexts -/
noncomputable def knP (D : Prop) (I : Nat → Int) : Prop := (0 ≤ I 2 ∧ I 2 < 101) ∧ (D → 48 < I 3 ∧ I 3 ≤ 100)
noncomputable def cxB (D : Prop) : Cx := cxOf Try.prog.funcs Try.prog.types [] 0 0 [] [] (knP D)
noncomputable def cx0 : Cx := cxOf Try.prog.funcs Try.prog.types [] 0 0 [] [] (fun _ => True)
noncomputable def cxF (F : List Fact) : Cx := cxOf Try.prog.funcs Try.prog.types [] 0 0 F [] (fun _ => True)
theorem cxB_ok (D : Prop) : (cxB D).Ok Try.prog := cxOf_ok (exts := []) (hooks := []) cx_names cx_mixed (fun _ h => nomatch h) (fun _ h => nomatch h)
theorem cxF_ok (F : List Fact) : (cxF F).Ok Try.prog := cxOf_ok (exts := []) (hooks := []) cx_names cx_mixed (fun _ h => nomatch h) (fun _ h => nomatch h)
noncomputable def path : List Bool := [true, false, true, true, true, true, true, true, false, false]
noncomputable def runP (D : Prop) (F : List Fact) (q : SV) (o : AO) (en c st code : Nat) (e : SI) (rn : Nat) : Bool := loopRunN (cxB D) (cxF gfacts) (cxF F) (lpP q o en c) (iniP e) (finP o e en) path 3 (partP q st code e rn)
theorem part_is {D : Prop} [Decidable D] {F : List Fact} {q : SV} {o : AO} {en c st code : Nat} {e : SI} {rn : Nat} (h : runP D F q o en c st code e rn = true) (hF : ∀ I O, Inv D c I O 0 → FactsOk F I) (he : ∀ I : Nat → Int, 0 ≤ I 2 ∧ I 2 < 101 → e.den I = 3 + 4 * I 2 + c) (hc : c ≤ 400)
    {C' : Cx} (hC : C'.g0 = 0 ∧ C'.G = 0 ∧ C'.base = 0 ∧ C'.heap0 = fun _ => none) (hk : ∀ I Q, C'.K I Q → knP D I) : PartOk Try.prog C' (partP q st code e rn) := by
  refine loop_part (C0 := cx0) (cxB_ok D) (cxF_ok gfacts) (cxF_ok F) (fun _ _ => ⟨facts_nil, trivial, trivial⟩) ⟨rfl, rfl, rfl, rfl⟩ ⟨rfl, rfl, rfl, rfl⟩ ⟨rfl, rfl, rfl, rfl⟩ h (Φ := Inv D c) ?_ ?_ ?_ ?_ hC ?_
  · exact fun I O m h => ⟨go_facts h, trivial, trivial⟩
  · exact fun I O m h => inv_next h
  · exact fun I O h => ⟨⟨hF I O h, trivial, trivial⟩, inv_end h q o en⟩
  · exact fun I O _ h => ⟨_, inv_ini h.2.1 (he I h.2.1) hc h.2.2⟩
  · exact fun I Q _ h => ⟨facts_nil, trivial, hk I Q h⟩

noncomputable def kn (q : SI) (I : Nat → Int) : Prop := (-9223372036854775808 ≤ I 0 ∧ I 0 ≤ 9223372036854775807) ∧ pickN (I 0) 101 = I 2 ∧ (-9223372036854775808 ≤ I 1 ∧ I 1 ≤ 9223372036854775807) ∧ pickN (I 1) 101 = q.den I
noncomputable def hks (q : SI) : List Hook :=
  [⟨8, [], .bool true⟩,
   ⟨10, [.int .i64 (.var 0), .int .i64 (.lit 101)], .int .i64 (.var 2)⟩,
   ⟨10, [.int .i64 (.var 1), .int .i64 (.lit 101)], .int .i64 q⟩]
noncomputable def cx (q : SI) (K : (Nat → Int) → Prop) (F : List Fact) (p : Part) : Cx := cxOf Try.prog.funcs Try.prog.types [] 0 0 F (hks q) (fun I => kn q I ∧ K I) (parts := [p])
theorem cx_ok (q : SI) (K : (Nat → Int) → Prop) (F : List Fact) {p : Part} (h : PartOk Try.prog (cx q K F p) p) : (cx q K F p).Ok Try.prog := by
  refine cxOf_ok (exts := []) cx_names cx_mixed (fun _ h => nomatch h) ?_ (hparts := fun p hp => ?_)
  · intro hk hm E xs hK ha
    obtain ⟨-, ⟨r0, e0, r1, e1⟩, -⟩ := hK
    simp only [hks, List.mem_cons, List.not_mem_nil, or_false] at hm
    rcases hm with rfl | rfl | rfl
    · have hx : xs = [] := by simpa [denL, eq_comm] using ha
      subst hx
      exact ⟨.bool true, rfl, fun w _ _ => awake_ok w⟩
    · have hx : xs = [.int .i64 (E.ints 0), .int .i64 101] := by simpa [denL, SV.den, SI.den, eq_comm] using ha
      subst hx
      refine ⟨.int .i64 (E.ints 2), rfl, fun w _ _ => Calls.stay ?_⟩
      have := pick_any (E.ints 0) 101 r0 (by decide) w
      rw [e0] at this
      exact this
    · have hx : xs = [.int .i64 (E.ints 1), .int .i64 101] := by simpa [denL, SV.den, SI.den, eq_comm] using ha
      subst hx
      refine ⟨.int .i64 (q.den E.ints), rfl, fun w _ _ => Calls.stay ?_⟩
      have := pick_any (E.ints 1) 101 r1 (by decide) w
      rw [e1] at this
      exact this
  · simp only [List.mem_cons, List.not_mem_nil, or_false] at hp
    subst hp
    exact h
noncomputable def run (q : SI) (K : (Nat → Int) → Prop) (F : List Fact) (p : Part) : Bool :=
  runFX (cx q K F p) 3000 5 [.int .i64 (.var 0), .int .i64 (.var 1)] .nil 0
/-- The law's own count of steps. -/
noncomputable def stepsE (d : Nat) : SI := .bin .add .i64 (.bin .add .i64 (.bin .add .i64 (.bin .add .i64 (.bin .add .i64 (.bin .add .i64 (.lit (.ofNat 3)) (.bin .mul .i64 (.lit (.ofNat 4)) (.var 2))) (.lit (.ofNat 1))) (.lit (.ofNat 3))) (.lit (.ofNat 1))) (.lit (.ofNat (6 * d)))) (.lit (.ofNat 2))
theorem stepsE_den (d : Nat) (hd : d ≤ 48) (I : Nat → Int) (h : 0 ≤ I 2 ∧ I 2 < 101) : (stepsE d).den I = 3 + 4 * I 2 + ((7 + 6 * d : Nat) : Int) := by
  show iop .add .i64 (iop .add .i64 (iop .add .i64 (iop .add .i64 (iop .add .i64 (iop .add .i64 3 (iop .mul .i64 4 (I 2))) 1) 3) 1) ((6 * d : Nat) : Int)) 2 = _
  have m1 : iop .mul .i64 4 (I 2) = 4 * I 2 := mul_i64 (by omega) (by omega)
  have a1 : iop .add .i64 3 (4 * I 2) = 3 + 4 * I 2 := add_i64 (by omega) (by omega)
  have a2 : iop .add .i64 (3 + 4 * I 2) 1 = 3 + 4 * I 2 + 1 := add_i64 (by omega) (by omega)
  have a3 : iop .add .i64 (3 + 4 * I 2 + 1) 3 = 3 + 4 * I 2 + 1 + 3 := add_i64 (by omega) (by omega)
  have a4 : iop .add .i64 (3 + 4 * I 2 + 1 + 3) 1 = 3 + 4 * I 2 + 1 + 3 + 1 := add_i64 (by omega) (by omega)
  have a5 : iop .add .i64 (3 + 4 * I 2 + 1 + 3 + 1) ((6 * d : Nat) : Int) = 3 + 4 * I 2 + 1 + 3 + 1 + ((6 * d : Nat) : Int) := add_i64 (by omega) (by omega)
  have a6 : iop .add .i64 (3 + 4 * I 2 + 1 + 3 + 1 + ((6 * d : Nat) : Int)) 2 = 3 + 4 * I 2 + 1 + 3 + 1 + ((6 * d : Nat) : Int) + 2 := add_i64 (by omega) (by omega)
  rw [m1, a1, a2, a3, a4, a5, a6]
  omega
noncomputable def deepE : SI := .bin .add .i64 (.lit (.ofNat 203)) (.bin .mul .i64 (.lit (.ofNat 4)) (.var 2))
theorem deepE_den (I : Nat → Int) (h : 0 ≤ I 2 ∧ I 2 < 101) : deepE.den I = 3 + 4 * I 2 + ((200 : Nat) : Int) := by
  show iop .add .i64 203 (iop .mul .i64 4 (I 2)) = _
  rw [mul_i64 (by omega) (by omega), add_i64 (by omega) (by omega)]
  omega
noncomputable def mf : List Fact := [⟨.gtr, .var 3, .lit (.ofNat 48), true⟩]
theorem law_low {d en sid sl less rn : Nat} (hd : d ≤ 48) (h1 : runP False efacts (iP d) (o178 sid sl less 1 d) en (7 + 6 * d) 1 d (stepsE d) rn = true) (h2 : run (.lit (.ofNat d)) (fun _ => True) [] (partP (iP d) 1 d (stepsE d) rn) = true)
    (a0 a1 : Int) (b0 : -9223372036854775808 ≤ a0 ∧ a0 ≤ 9223372036854775807) (b1 : -9223372036854775808 ≤ a1 ∧ a1 ≤ 9223372036854775807) (hq : pickN a1 101 = (d : Int)) (W : World) :
    Calls Try.prog 5 #[.int .i64 a0, .int .i64 a1] W fun e W' => e = .returned (.bool true) ∧ Below W.heap.size W W' := by
  refine true_ok (cx_ok (.lit (.ofNat d)) (fun _ => True) [] (part_is h1 (fun I O h => end_facts h) (stepsE_den d hd) (by omega) ⟨rfl, rfl, rfl, rfl⟩ (fun I Q h => ?_))) rfl rfl rfl 3000 (runFX_eq h2) (I := fun j => match j with | 0 => a0 | 1 => a1 | 2 => pickN a0 101 | _ => pickN a1 101) ⟨facts_nil, trivial, ⟨b0, rfl, b1, hq⟩, trivial⟩ rfl W
  obtain ⟨-, ⟨r0, e0, r1, e1⟩, -⟩ := h
  obtain ⟨k0, k1⟩ := pickN_lt (I 0) (n := 101) (by decide)
  rw [e0] at k0 k1
  exact ⟨⟨k0, k1⟩, fun h => h.elim⟩
theorem law_deep {en sid sl less rn : Nat} (h1 : runP True dfacts (.int .i64 (.var 3)) (o178 sid sl less 4 0) en 200 4 0 deepE rn = true) (h2 : run (.var 3) (fun I => 48 < I 3) mf (partP (.int .i64 (.var 3)) 4 0 deepE rn) = true)
    (a0 a1 : Int) (b0 : -9223372036854775808 ≤ a0 ∧ a0 ≤ 9223372036854775807) (b1 : -9223372036854775808 ≤ a1 ∧ a1 ≤ 9223372036854775807) (hq : 48 < pickN a1 101) (W : World) :
    Calls Try.prog 5 #[.int .i64 a0, .int .i64 a1] W fun e W' => e = .returned (.bool true) ∧ Below W.heap.size W W' := by
  refine true_ok (cx_ok (.var 3) (fun I => 48 < I 3) mf (part_is h1 (fun I O h => deep_facts h) deepE_den (by omega) ⟨rfl, rfl, rfl, rfl⟩ (fun I Q h => ?_))) rfl rfl rfl 3000 (runFX_eq h2) (I := fun j => match j with | 0 => a0 | 1 => a1 | 2 => pickN a0 101 | _ => pickN a1 101) ⟨facts_cons (decide_eq_true hq) facts_nil, trivial, ⟨b0, rfl, b1, rfl⟩, hq⟩ rfl W
  obtain ⟨-, ⟨r0, e0, r1, e1⟩, h3⟩ := h
  obtain ⟨k0, k1⟩ := pickN_lt (I 0) (n := 101) (by decide)
  obtain ⟨l0, l1⟩ := pickN_lt (I 1) (n := 101) (by decide)
  rw [e0] at k0 k1
  have e1' : pickN (I 1) 101 = I 3 := e1
  rw [e1'] at l0 l1
  exact ⟨⟨k0, k1⟩, fun _ => ⟨h3, by omega⟩⟩
end Go.Proofs.Ytknpoojkjmgihaa.IrrunCounts
