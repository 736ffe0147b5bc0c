/- Contracts of package arith for any operator: what Two, One, Sign and Level return is a plain function of what they are given. -/
import Derived.Test.YtknpoojkjmgihaaArith
namespace Go.Proofs.Ytknpoojkjmgihaa
open Go.RowKit

def twoN (op a b : Int) : Int := if op = 1 then (wrap64 (a + b)) else if op = 2 then (wrap64 (a - b)) else if op = 3 then (wrap64 (a * b)) else if op = 4 then (if b = 0 then 0 else wrap64 (a.tdiv b)) else if op = 5 then (if b = 0 then 0 else a.tmod b) else if op = 6 then (bits .and .i64 a b) else if op = 7 then (bits .or .i64 a b) else if op = 8 then (bits .xor .i64 a b) else if op = 9 then (wrap64 (a * 2 ^ shiftOf b)) else if op = 10 then (a / 2 ^ shiftOf b) else if op = 11 then (truthN (decide (a < b))) else if op = 12 then (truthN (decide (a ≤ b))) else if op = 13 then (truthN (decide (b < a))) else if op = 14 then (truthN (decide (b ≤ a))) else if op = 15 then (truthN (decide (a = b))) else if op = 16 then (truthN (decide (a ≠ b))) else 0
def twoB (op b : Int) : Bool := decide (1 ≤ op) && decide (op ≤ 16) && !(decide (b = 0) && (decide (op = 4) || decide (op = 5)))
def oneN (op a : Int) : Int := if op = 17 then wrap64 (-a) else if op = 18 then truthN (decide (a = 0)) else if op = 19 then wrap64 (-a - 1) else 0
def oneB (op : Int) : Bool := decide (17 ≤ op) && decide (op ≤ 19)
def signS (op : Int) : ByteArray := if op = 1 then ⟨#[43]⟩ else if op = 2 then ⟨#[45]⟩ else if op = 3 then ⟨#[42]⟩ else if op = 4 then ⟨#[47]⟩ else if op = 5 then ⟨#[37]⟩ else if op = 6 then ⟨#[38]⟩ else if op = 7 then ⟨#[124]⟩ else if op = 8 then ⟨#[94]⟩ else if op = 9 then ⟨#[60, 60]⟩ else if op = 10 then ⟨#[62, 62]⟩ else if op = 11 then ⟨#[60]⟩ else if op = 12 then ⟨#[60, 61]⟩ else if op = 13 then ⟨#[62]⟩ else if op = 14 then ⟨#[62, 61]⟩ else if op = 15 then ⟨#[61, 61]⟩ else if op = 16 then ⟨#[33, 61]⟩ else if op = 17 then ⟨#[45]⟩ else if op = 18 then ⟨#[33]⟩ else if op = 19 then ⟨#[126]⟩ else ⟨#[]⟩
def signB (op : Int) : Bool := decide (1 ≤ op) && decide (op ≤ 19)
def levelN (op : Int) : Int := if op = 1 then 7 else if op = 2 then 7 else if op = 3 then 8 else if op = 4 then 8 else if op = 5 then 8 else if op = 6 then 3 else if op = 7 then 1 else if op = 8 then 2 else if op = 9 then 6 else if op = 10 then 6 else if op = 11 then 5 else if op = 12 then 5 else if op = 13 then 5 else if op = 14 then 5 else if op = 15 then 4 else if op = 16 then 4 else 0
set_option maxHeartbeats 800000 in
theorem two_all (op a b : Int) (w : World) :
    Calls Try.prog 15 #[.int .i64 op, .int .i64 a, .int .i64 b] w fun e w' => e = .returned (.tuple #[.int .i64 (twoN op a b), .bool (twoB op b)]) ∧ Below w.heap.size w w' := by
  by_cases h1 : op = 1
  · subst h1; exact (two_1 a b w).mono fun e w' h => ⟨by rw [h.1]; simp [twoN, twoB], h.2⟩
  by_cases h2 : op = 2
  · subst h2; exact (two_2 a b w).mono fun e w' h => ⟨by rw [h.1]; simp [twoN, twoB], h.2⟩
  by_cases h3 : op = 3
  · subst h3; exact (two_3 a b w).mono fun e w' h => ⟨by rw [h.1]; simp [twoN, twoB], h.2⟩
  by_cases h4 : op = 4
  · subst h4
    by_cases hb : b = 0
    · subst hb; exact (two_4_0 a w).mono fun e w' h => ⟨by rw [h.1]; simp [twoN, twoB], h.2⟩
    · exact (two_4 a b hb w).mono fun e w' h => ⟨by rw [h.1]; simp [twoN, twoB, hb], h.2⟩
  by_cases h5 : op = 5
  · subst h5
    by_cases hb : b = 0
    · subst hb; exact (two_5_0 a w).mono fun e w' h => ⟨by rw [h.1]; simp [twoN, twoB], h.2⟩
    · exact (two_5 a b hb w).mono fun e w' h => ⟨by rw [h.1]; simp [twoN, twoB, hb], h.2⟩
  by_cases h6 : op = 6
  · subst h6; exact (two_6 a b w).mono fun e w' h => ⟨by rw [h.1]; simp [twoN, twoB], h.2⟩
  by_cases h7 : op = 7
  · subst h7; exact (two_7 a b w).mono fun e w' h => ⟨by rw [h.1]; simp [twoN, twoB], h.2⟩
  by_cases h8 : op = 8
  · subst h8; exact (two_8 a b w).mono fun e w' h => ⟨by rw [h.1]; simp [twoN, twoB], h.2⟩
  by_cases h9 : op = 9
  · subst h9; exact (two_9 a b w).mono fun e w' h => ⟨by rw [h.1]; simp [twoN, twoB], h.2⟩
  by_cases h10 : op = 10
  · subst h10; exact (two_10 a b w).mono fun e w' h => ⟨by rw [h.1]; simp [twoN, twoB], h.2⟩
  by_cases h11 : op = 11
  · subst h11; exact (two_11 a b w).mono fun e w' h => ⟨by rw [h.1]; simp [twoN, twoB], h.2⟩
  by_cases h12 : op = 12
  · subst h12; exact (two_12 a b w).mono fun e w' h => ⟨by rw [h.1]; simp [twoN, twoB], h.2⟩
  by_cases h13 : op = 13
  · subst h13; exact (two_13 a b w).mono fun e w' h => ⟨by rw [h.1]; simp [twoN, twoB], h.2⟩
  by_cases h14 : op = 14
  · subst h14; exact (two_14 a b w).mono fun e w' h => ⟨by rw [h.1]; simp [twoN, twoB], h.2⟩
  by_cases h15 : op = 15
  · subst h15; exact (two_15 a b w).mono fun e w' h => ⟨by rw [h.1]; simp [twoN, twoB], h.2⟩
  by_cases h16 : op = 16
  · subst h16; exact (two_16 a b w).mono fun e w' h => ⟨by rw [h.1]; simp [twoN, twoB], h.2⟩
  by_cases h17 : op = 17
  · subst h17; exact (two_17 a b w).mono fun e w' h => ⟨by rw [h.1]; simp [twoN, twoB], h.2⟩
  by_cases h18 : op = 18
  · subst h18; exact (two_18 a b w).mono fun e w' h => ⟨by rw [h.1]; simp [twoN, twoB], h.2⟩
  by_cases h19 : op = 19
  · subst h19; exact (two_19 a b w).mono fun e w' h => ⟨by rw [h.1]; simp [twoN, twoB], h.2⟩
  have hn : op < 1 ∨ 19 < op := by omega
  refine (two_none op a b hn w).mono fun e w' h => ⟨?_, h.2⟩
  rw [h.1]
  have hq : ¬ (1 ≤ op ∧ op ≤ 19) := by omega
  simp [twoN, twoB, h1, h2, h3, h4, h5, h6, h7, h8, h9, h10, h11, h12, h13, h14, h15, h16, h17, h18, h19]
  try omega
set_option maxHeartbeats 800000 in
theorem one_all (op a : Int) (w : World) :
    Calls Try.prog 16 #[.int .i64 op, .int .i64 a] w fun e w' => e = .returned (.tuple #[.int .i64 (oneN op a), .bool (oneB op)]) ∧ Below w.heap.size w w' := by
  by_cases h1 : op = 1
  · subst h1; exact (one_1 a w).mono fun e w' h => ⟨by rw [h.1]; simp [oneN, oneB], h.2⟩
  by_cases h2 : op = 2
  · subst h2; exact (one_2 a w).mono fun e w' h => ⟨by rw [h.1]; simp [oneN, oneB], h.2⟩
  by_cases h3 : op = 3
  · subst h3; exact (one_3 a w).mono fun e w' h => ⟨by rw [h.1]; simp [oneN, oneB], h.2⟩
  by_cases h4 : op = 4
  · subst h4; exact (one_4 a w).mono fun e w' h => ⟨by rw [h.1]; simp [oneN, oneB], h.2⟩
  by_cases h5 : op = 5
  · subst h5; exact (one_5 a w).mono fun e w' h => ⟨by rw [h.1]; simp [oneN, oneB], h.2⟩
  by_cases h6 : op = 6
  · subst h6; exact (one_6 a w).mono fun e w' h => ⟨by rw [h.1]; simp [oneN, oneB], h.2⟩
  by_cases h7 : op = 7
  · subst h7; exact (one_7 a w).mono fun e w' h => ⟨by rw [h.1]; simp [oneN, oneB], h.2⟩
  by_cases h8 : op = 8
  · subst h8; exact (one_8 a w).mono fun e w' h => ⟨by rw [h.1]; simp [oneN, oneB], h.2⟩
  by_cases h9 : op = 9
  · subst h9; exact (one_9 a w).mono fun e w' h => ⟨by rw [h.1]; simp [oneN, oneB], h.2⟩
  by_cases h10 : op = 10
  · subst h10; exact (one_10 a w).mono fun e w' h => ⟨by rw [h.1]; simp [oneN, oneB], h.2⟩
  by_cases h11 : op = 11
  · subst h11; exact (one_11 a w).mono fun e w' h => ⟨by rw [h.1]; simp [oneN, oneB], h.2⟩
  by_cases h12 : op = 12
  · subst h12; exact (one_12 a w).mono fun e w' h => ⟨by rw [h.1]; simp [oneN, oneB], h.2⟩
  by_cases h13 : op = 13
  · subst h13; exact (one_13 a w).mono fun e w' h => ⟨by rw [h.1]; simp [oneN, oneB], h.2⟩
  by_cases h14 : op = 14
  · subst h14; exact (one_14 a w).mono fun e w' h => ⟨by rw [h.1]; simp [oneN, oneB], h.2⟩
  by_cases h15 : op = 15
  · subst h15; exact (one_15 a w).mono fun e w' h => ⟨by rw [h.1]; simp [oneN, oneB], h.2⟩
  by_cases h16 : op = 16
  · subst h16; exact (one_16 a w).mono fun e w' h => ⟨by rw [h.1]; simp [oneN, oneB], h.2⟩
  by_cases h17 : op = 17
  · subst h17; exact (one_17 a w).mono fun e w' h => ⟨by rw [h.1]; simp [oneN, oneB], h.2⟩
  by_cases h18 : op = 18
  · subst h18; exact (one_18 a w).mono fun e w' h => ⟨by rw [h.1]; simp [oneN, oneB], h.2⟩
  by_cases h19 : op = 19
  · subst h19; exact (one_19 a w).mono fun e w' h => ⟨by rw [h.1]; simp [oneN, oneB], h.2⟩
  have hn : op < 1 ∨ 19 < op := by omega
  refine (one_none op a hn w).mono fun e w' h => ⟨?_, h.2⟩
  rw [h.1]
  have hq : ¬ (1 ≤ op ∧ op ≤ 19) := by omega
  simp [oneN, oneB, h1, h2, h3, h4, h5, h6, h7, h8, h9, h10, h11, h12, h13, h14, h15, h16, h17, h18, h19]
  try omega
set_option maxHeartbeats 800000 in
theorem level_all (op : Int) (w : World) :
    Calls Try.prog 64 #[.int .i64 op] w fun e w' => e = .returned (.int .i64 (levelN op)) ∧ Below w.heap.size w w' := by
  by_cases h1 : op = 1
  · subst h1; exact (level_1 w).mono fun e w' h => ⟨by rw [h.1]; simp [levelN], h.2⟩
  by_cases h2 : op = 2
  · subst h2; exact (level_2 w).mono fun e w' h => ⟨by rw [h.1]; simp [levelN], h.2⟩
  by_cases h3 : op = 3
  · subst h3; exact (level_3 w).mono fun e w' h => ⟨by rw [h.1]; simp [levelN], h.2⟩
  by_cases h4 : op = 4
  · subst h4; exact (level_4 w).mono fun e w' h => ⟨by rw [h.1]; simp [levelN], h.2⟩
  by_cases h5 : op = 5
  · subst h5; exact (level_5 w).mono fun e w' h => ⟨by rw [h.1]; simp [levelN], h.2⟩
  by_cases h6 : op = 6
  · subst h6; exact (level_6 w).mono fun e w' h => ⟨by rw [h.1]; simp [levelN], h.2⟩
  by_cases h7 : op = 7
  · subst h7; exact (level_7 w).mono fun e w' h => ⟨by rw [h.1]; simp [levelN], h.2⟩
  by_cases h8 : op = 8
  · subst h8; exact (level_8 w).mono fun e w' h => ⟨by rw [h.1]; simp [levelN], h.2⟩
  by_cases h9 : op = 9
  · subst h9; exact (level_9 w).mono fun e w' h => ⟨by rw [h.1]; simp [levelN], h.2⟩
  by_cases h10 : op = 10
  · subst h10; exact (level_10 w).mono fun e w' h => ⟨by rw [h.1]; simp [levelN], h.2⟩
  by_cases h11 : op = 11
  · subst h11; exact (level_11 w).mono fun e w' h => ⟨by rw [h.1]; simp [levelN], h.2⟩
  by_cases h12 : op = 12
  · subst h12; exact (level_12 w).mono fun e w' h => ⟨by rw [h.1]; simp [levelN], h.2⟩
  by_cases h13 : op = 13
  · subst h13; exact (level_13 w).mono fun e w' h => ⟨by rw [h.1]; simp [levelN], h.2⟩
  by_cases h14 : op = 14
  · subst h14; exact (level_14 w).mono fun e w' h => ⟨by rw [h.1]; simp [levelN], h.2⟩
  by_cases h15 : op = 15
  · subst h15; exact (level_15 w).mono fun e w' h => ⟨by rw [h.1]; simp [levelN], h.2⟩
  by_cases h16 : op = 16
  · subst h16; exact (level_16 w).mono fun e w' h => ⟨by rw [h.1]; simp [levelN], h.2⟩
  by_cases h17 : op = 17
  · subst h17; exact (level_17 w).mono fun e w' h => ⟨by rw [h.1]; simp [levelN], h.2⟩
  by_cases h18 : op = 18
  · subst h18; exact (level_18 w).mono fun e w' h => ⟨by rw [h.1]; simp [levelN], h.2⟩
  by_cases h19 : op = 19
  · subst h19; exact (level_19 w).mono fun e w' h => ⟨by rw [h.1]; simp [levelN], h.2⟩
  have hn : op < 1 ∨ 19 < op := by omega
  refine (level_none op hn w).mono fun e w' h => ⟨?_, h.2⟩
  rw [h.1]
  have hq : ¬ (1 ≤ op ∧ op ≤ 19) := by omega
  simp [levelN, h1, h2, h3, h4, h5, h6, h7, h8, h9, h10, h11, h12, h13, h14, h15, h16, h17, h18, h19]
  try omega
end Go.Proofs.Ytknpoojkjmgihaa
