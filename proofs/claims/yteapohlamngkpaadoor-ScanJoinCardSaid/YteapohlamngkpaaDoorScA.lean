/-
  Layer 2: the scanner's functions, as what they make of plain data.
-/
import Derived.Test.YteapohlamngkpaaDoorPt
import Derived.Test.YteapohlamngkpaaDoorPs
namespace Go.Proofs.YteapohlamngkpaaDoor
open Go.Pv
attribute [local irreducible] Go.Pv.CallP Go.Pv.gsplit Go.Pv.ToLe Go.Pv.LoopV
set_option linter.unusedVariables false
set_option linter.unusedSimpArgs false
set_option maxRecDepth 100000
set_option maxHeartbeats 4000000

def letterB (r : Int) : Bool := decide ((97 ≤ r ∧ r ≤ 122) ∨ (65 ≤ r ∧ r ≤ 90) ∨ r = 95)
def digitB (r : Int) : Bool := decide (48 ≤ r ∧ r ≤ 57)
def partB (r : Int) : Bool := letterB r || digitB r

theorem letter_ok (r : Int) (s : Hs) : CallP cx 25 [.int .i32 r] s (Is (.ret (.bool (letterB r))) s) := by
  refine call_ok cx_ok chk_scan_letter rfl ?_
  unfold callW fp_scan_letter
  repeat' first
    | simp (maxSteps := 3000000) only [go_sem, ↓reduceIte, Nat.reduceEqDiff, Nat.reduceAdd, Nat.reduceLeDiff, Nat.le_refl, Int.reduceEq, Int.reduceLE, Int.reduceLT, Int.reduceNe, Int.reduceSub, Int.reduceAdd, Int.reduceMul, Int.reduceNeg, Int.reduceToNat, Nat.reduceMul, Nat.mul_one, ne_eq, not_true_eq_false, not_false_eq_true, Is, letterB, decide_eq_decide]
    | (refine And.intro (by omega) ?_)
    | (refine gsplit_intro (fun h => ?_) (fun h => ?_) <;> (try simp only [decide_eq_true_eq, decide_eq_false_iff_not] at h))
  all_goals (first | omega | (symm; rw [decide_eq_true_iff]; omega) | (symm; rw [decide_eq_false_iff_not]; omega))

theorem digit_ok (r : Int) (s : Hs) : CallP cx 23 [.int .i32 r] s (Is (.ret (.bool (digitB r))) s) := by
  refine call_ok cx_ok chk_scan_digit rfl ?_
  unfold callW fp_scan_digit
  repeat' first
    | simp (maxSteps := 3000000) only [go_sem, ↓reduceIte, Nat.reduceEqDiff, Nat.reduceAdd, Nat.reduceLeDiff, Nat.le_refl, Int.reduceEq, Int.reduceLE, Int.reduceLT, Int.reduceNe, Int.reduceSub, Int.reduceAdd, Int.reduceMul, Int.reduceNeg, Int.reduceToNat, Nat.reduceMul, Nat.mul_one, ne_eq, not_true_eq_false, not_false_eq_true, Is, digitB, decide_eq_decide]
    | (refine And.intro (by omega) ?_)
    | (refine gsplit_intro (fun h => ?_) (fun h => ?_) <;> (try simp only [decide_eq_true_eq, decide_eq_false_iff_not] at h))
  all_goals (first | omega | (symm; rw [decide_eq_true_iff]; omega) | (symm; rw [decide_eq_false_iff_not]; omega))

theorem part_ok (r : Int) (s : Hs) : CallP cx 22 [.int .i32 r] s (Is (.ret (.bool (partB r))) s) := by
  refine call_ok cx_ok chk_scan_part rfl ?_
  unfold callW fp_scan_part
  repeat' first
    | simp (maxSteps := 3000000) only [go_sem, ↓reduceIte, Nat.reduceEqDiff, Nat.reduceAdd, Nat.reduceLeDiff, Nat.le_refl, Int.reduceEq, Int.reduceLE, Int.reduceLT, Int.reduceNe, Int.reduceSub, Int.reduceAdd, Int.reduceMul, Int.reduceNeg, Int.reduceToNat, Nat.reduceMul, Nat.mul_one, ne_eq, not_true_eq_false, not_false_eq_true, Is, partB]
    | (refine (letter_ok _ _).to ?_)
    | (refine (digit_ok _ _).to ?_)
    | (refine And.intro (by omega) ?_)
    | (refine gsplit_intro (fun h => ?_) (fun h => ?_) <;> (try simp only [decide_eq_true_eq, decide_eq_false_iff_not] at h))
  all_goals simp_all

structure Tok where
  kind : Int
  text : List UInt8
  n : Int
  line : Int
def tokP (t : Tok) : List PV := [.int .i64 t.kind, .str t.text, .int .i64 t.n, .int .i64 t.line]
def chP (c : Int × Nat) : List PV := [.int .i32 c.1, .int .i64 c.2]
structure Sc where
  text : List UInt8
  cs : List (Int × Nat)
  next : Nat
  line : Int
  out : List Tok
def Sc.cells (x : Sc) (p : Nat) : List PV := [.str x.text, .lst 2 (x.cs.map chP) none, .int .i64 x.next, .int .i64 x.line, .lst 4 (x.out.map tokP) (some p)]
def Sc.peek (x : Sc) (a : Nat) : Int := match x.cs[x.next + a]? with | some c => c.1 | none => -1

theorem peek_ok {x : Sc} {p id : Nat} {ty : TypeId} {s : Hs} {a : Nat} (hs : s.H id = some (.cells (x.cells p) ty false)) (h1 : x.next + a ≤ 1000000) :
    CallP cx 19 [.ptr id 0, .int .i64 a] s (Is (.ret (.int .i32 (x.peek a))) s) := by
  have hw : IntKind.i64.wrap ((x.next : Int) + a) = ((x.next + a : Nat) : Int) := by rw [w64 (by omega) (by omega)]; rfl
  refine call_ok cx_ok chk_scan_scanner_peek rfl ?_
  unfold callW fp_scan_scanner_peek
  unfold Sc.peek
  cases hc : x.cs[x.next + a]? with
  | none =>
    have hl := List.getElem?_eq_none_iff.1 hc
    repeat' first
      | simp (maxSteps := 3000000) only [go_sem, ↓reduceIte, Nat.reduceEqDiff, Nat.reduceAdd, Nat.reduceLeDiff, Nat.le_refl, Int.reduceEq, Int.reduceLE, Int.reduceLT, Int.reduceNe, Int.reduceSub, Int.reduceAdd, Int.reduceMul, Int.reduceNeg, Int.reduceToNat, Nat.reduceMul, Nat.mul_one, ne_eq, not_true_eq_false, not_false_eq_true, hs, Sc.cells, hw, Is]
      | (refine And.intro (by omega) ?_)
      | (refine gsplit_intro (fun h => ?_) (fun h => ?_) <;> (try simp only [decide_eq_true_eq, decide_eq_false_iff_not] at h))
    all_goals omega
  | some c =>
    have hl := (List.getElem?_eq_some_iff.1 hc).1
    have he : elem (x.cs.map chP) ((x.next + a : Nat) : Int) = chP c := elem_at (by rw [Int.toNat_natCast]; exact hc)
    repeat' first
      | simp (maxSteps := 3000000) only [go_sem, ↓reduceIte, Nat.reduceEqDiff, Nat.reduceAdd, Nat.reduceLeDiff, Nat.le_refl, Int.reduceEq, Int.reduceLE, Int.reduceLT, Int.reduceNe, Int.reduceSub, Int.reduceAdd, Int.reduceMul, Int.reduceNeg, Int.reduceToNat, Nat.reduceMul, Nat.mul_one, ne_eq, not_true_eq_false, not_false_eq_true, hs, Sc.cells, hw, Is, he, chP]
      | (refine And.intro (by omega) ?_)
      | (refine gsplit_intro (fun h => ?_) (fun h => ?_) <;> (try simp only [decide_eq_true_eq, decide_eq_false_iff_not] at h))
    all_goals omega
end Go.Proofs.YteapohlamngkpaaDoor
