/-
  strconv.ParseInt of decimal digits.
-/
import Derived.Test.YteapohlamngkpaaDoorPt
import Derived.Test.YteapohlamngkpaaDoorPs
namespace Go.Proofs.YteapohlamngkpaaDoor
open Go.Pv
attribute [local irreducible] Go.Pv.CallP Go.Pv.gsplit Go.Pv.ToLe Go.Pv.LoopV
set_option linter.unusedVariables false
set_option linter.unusedSimpArgs false
set_option maxRecDepth 100000
set_option maxHeartbeats 4000000

def isDig (b : UInt8) : Bool := decide (48 ≤ b.toNat ∧ b.toNat ≤ 57)
def decVal (s : List UInt8) : Nat := s.foldl (fun n b => 10 * n + (b.toNat - 48)) 0

theorem decVal_snoc (s : List UInt8) (b : UInt8) : decVal (s ++ [b]) = 10 * decVal s + (b.toNat - 48) := by simp [decVal]

theorem decVal_mono (s t : List UInt8) : decVal s ≤ decVal (s ++ t) := by
  have key : ∀ (t : List UInt8) (n : Nat), n ≤ t.foldl (fun n b => 10 * n + (b.toNat - 48)) n := by
    intro t
    induction t with
    | nil => intro n; exact Nat.le_refl _
    | cons b t ih => intro n; exact Nat.le_trans (by omega) (ih (10 * n + (b.toNat - 48)))
  simp only [decVal, List.foldl_append]
  exact key t _

theorem uint_loop {st : List UInt8} {s : Hs} {K : Kt} (hd : ∀ b ∈ st, isDig b = true) (hv : decVal st ≤ 9223372036854775807) (hl : st.length ≤ 1000000)
    (hK : ∀ fr, fr 12 = some (.bool false) → fr 13 = some (.int .u64 (decVal st)) → K (.exit 3) ⟨fr, s⟩) :
    ∀ (d i : Nat), i + d = st.length → LoopV [1, 8, 9, 10, 11, 12, 13, 99, 100, 101] (pw cx lb_internal_strconv_ParseUint_0) K
      [.int .i64 10, .bool false, .str st, .int .u64 1844674407370955162, .int .u64 18446744073709551615, .bool false, .int .u64 (decVal (st.take i)), .lst 1 (st.map fun c => [PV.int .u8 (c.toNat : Int)]) none, .int .i64 st.length, .int .i64 i] s := by
  intro d
  induction d with
  | zero =>
    intro i hi
    have : i = st.length := by omega
    subst this
    refine LoopV.round ?_
    repeat' first
      | simp (maxSteps := 3000000) only [go_sem, ↓reduceIte, Nat.reduceEqDiff, Nat.reduceAdd, Nat.reduceLeDiff, Nat.le_refl, Int.reduceEq, Int.reduceLE, Int.reduceLT, Int.reduceNe, Int.reduceSub, Int.reduceAdd, Int.reduceMul, Int.reduceNeg, Int.reduceToNat, Nat.reduceMul, Nat.mul_one, ne_eq, not_true_eq_false, not_false_eq_true, List.take_length, Int.lt_irrefl, decide_false]
      | (exact hK _ rfl rfl)
      | (refine And.intro (by omega) ?_)
      | (refine gsplit_intro (fun h => ?_) (fun h => ?_) <;> (try simp only [decide_eq_true_eq, decide_eq_false_iff_not] at h))
  | succ d ih =>
    intro i hi
    refine LoopV.round ?_
    obtain ⟨b, hb⟩ : ∃ b, st[i]? = some b := ⟨st[i], by simp⟩
    have he : elem (st.map fun c => [PV.int .u8 (c.toNat : Int)]) (i : Int) = [PV.int .u8 (b.toNat : Int)] := elem_at (f := fun c : UInt8 => [PV.int .u8 (c.toNat : Int)]) (by rw [Int.toNat_natCast]; exact hb)
    have hdb := hd b (List.mem_of_getElem? hb)
    simp only [isDig, decide_eq_true_eq] at hdb
    have hv1 : decVal (st.take (i + 1)) = 10 * decVal (st.take i) + (b.toNat - 48) := by
      rw [← decVal_snoc]; congr 1
      rw [List.take_add_one, hb]; rfl
    have hv2 : decVal (st.take (i + 1)) ≤ decVal st := by
      have := decVal_mono (st.take (i + 1)) (st.drop (i + 1))
      rwa [List.take_append_drop] at this
    have hv3 : ((decVal (st.take i) : Int) * 10) + ((b.toNat : Int) - 48) = ((decVal (st.take (i + 1)) : Nat) : Int) := by omega
    repeat' first
      | simp (maxSteps := 3000000) (disch := omega) only [go_sem, ↓reduceIte, Nat.reduceEqDiff, Nat.reduceAdd, Nat.reduceLeDiff, Nat.le_refl, Int.reduceEq, Int.reduceLE, Int.reduceLT, Int.reduceNe, Int.reduceSub, Int.reduceAdd, Int.reduceMul, Int.reduceNeg, Int.reduceToNat, Nat.reduceMul, Nat.mul_one, ne_eq, not_true_eq_false, not_false_eq_true, w64, wu8, wu64, wi32, dec_t, dec_f, he, hv3]
      | (refine And.intro (by omega) ?_)
      | (refine gsplit_intro (fun h => ?_) (fun h => ?_) <;> (try simp only [decide_eq_true_eq, decide_eq_false_iff_not] at h))
    exact LoopI.same (ih (i + 1) (by omega))

theorem uint_ok {st : List UInt8} {s : Hs} (h0 : st ≠ []) (hd : ∀ b ∈ st, isDig b = true) (hv : decVal st ≤ 9223372036854775807) (hl : st.length ≤ 1000000) :
    CallP cx 35 [.str st, .int .i64 10, .int .i64 64] s (To (.ret (.tup [.int .u64 (decVal st), .nili])) s s.H s.T) := by
  have he : decide (st = []) = false := decide_eq_false h0
  have hs1 : iop .shl .u64 1 64 = 0 := by decide
  have hs2 : IntKind.u64.wrap (0 - 1) = 18446744073709551615 := by decide
  refine call_to cx_ok chk_internal_strconv_ParseUint rfl fun wd => ?_
  unfold callW fp_internal_strconv_ParseUint
  repeat' first
    | simp (maxSteps := 3000000) (disch := omega) only [go_sem, ↓reduceIte, Nat.reduceEqDiff, Nat.reduceAdd, Nat.reduceLeDiff, Nat.le_refl, Int.reduceEq, Int.reduceLE, Int.reduceLT, Int.reduceNe, Int.reduceSub, Int.reduceAdd, Int.reduceMul, Int.reduceNeg, Int.reduceToNat, Nat.reduceMul, Nat.mul_one, ne_eq, not_true_eq_false, not_false_eq_true, w64, wu8, wu64, wi32, dec_t, dec_f, he, hs1, hs2]
    | (refine uint_loop hd hv hl (fun fr h12 h13 => ?_) st.length 0 (Nat.zero_add _))
    | (refine And.intro (by omega) ?_)
    | (refine gsplit_intro (fun h => ?_) (fun h => ?_) <;> (try simp only [decide_eq_true_eq, decide_eq_false_iff_not] at h))
  repeat' first
    | simp (maxSteps := 3000000) (disch := omega) only [go_sem, ↓reduceIte, Nat.reduceEqDiff, Nat.reduceAdd, Nat.reduceLeDiff, Nat.le_refl, Int.reduceEq, Int.reduceLE, Int.reduceLT, Int.reduceNe, Int.reduceSub, Int.reduceAdd, Int.reduceMul, Int.reduceNeg, Int.reduceToNat, Nat.reduceMul, Nat.mul_one, ne_eq, not_true_eq_false, not_false_eq_true, w64, wu8, wu64, wi32, dec_t, dec_f, h12, h13]
    | (refine And.intro (by omega) ?_)
    | (refine gsplit_intro (fun h => ?_) (fun h => ?_) <;> (try simp only [decide_eq_true_eq, decide_eq_false_iff_not] at h))
  exact ToLe.same (by omega) (by omega)

theorem pint_ok {st : List UInt8} {s : Hs} (h0 : st ≠ []) (hd : ∀ b ∈ st, isDig b = true) (hv : decVal st ≤ 9223372036854775807) (hl : st.length ≤ 1000000) :
    CallP cx 33 [.str st, .int .i64 10, .int .i64 64] s (To (.ret (.tup [.int .i64 (decVal st), .nili])) s s.H s.T) := by
  have he : decide (st = []) = false := decide_eq_false h0
  have hs1 : iop .shl .u64 1 63 = 9223372036854775808 := by decide
  have hb : 48 ≤ byteAt st 0 ∧ byteAt st 0 ≤ 57 := by
    cases st with
    | nil => exact absurd rfl h0
    | cons b r =>
      have := hd b (by simp)
      simp only [isDig, decide_eq_true_eq] at this
      simp [byteAt]; omega
  have hlp : 0 < st.length := List.length_pos_iff.2 h0
  refine call_to cx_ok chk_internal_strconv_ParseInt rfl fun wd => ?_
  unfold callW fp_internal_strconv_ParseInt
  repeat' first
    | simp (maxSteps := 3000000) (disch := omega) only [go_sem, ↓reduceIte, Nat.reduceEqDiff, Nat.reduceAdd, Nat.reduceLeDiff, Nat.le_refl, Int.reduceEq, Int.reduceLE, Int.reduceLT, Int.reduceNe, Int.reduceSub, Int.reduceAdd, Int.reduceMul, Int.reduceNeg, Int.reduceToNat, Nat.reduceMul, Nat.mul_one, ne_eq, not_true_eq_false, not_false_eq_true, w64, wu8, wu64, wi32, dec_t, dec_f, he, hs1]
    | (refine CallP.into (uint_ok h0 hd hv hl) (fun n' m' hn hm => ?_))
    | (refine And.intro (by omega) ?_)
    | (refine gsplit_intro (fun h => ?_) (fun h => ?_) <;> (try simp only [decide_eq_true_eq, decide_eq_false_iff_not] at h))
  exact ToLe.same hn hm

theorem parseInt_ok {st : List UInt8} {s : Hs} (h0 : st ≠ []) (hd : ∀ b ∈ st, isDig b = true) (hv : decVal st ≤ 9223372036854775807) (hl : st.length ≤ 1000000) :
    CallP cx 32 [.str st, .int .i64 10, .int .i64 64] s (To (.ret (.tup [.int .i64 (decVal st), .nili])) s s.H s.T) := by
  refine call_to cx_ok chk_strconv_ParseInt rfl fun wd => ?_
  unfold callW fp_strconv_ParseInt
  repeat' first
    | simp (maxSteps := 3000000) (disch := omega) only [go_sem, ↓reduceIte, Nat.reduceEqDiff, Nat.reduceAdd, Nat.reduceLeDiff, Nat.le_refl, Int.reduceEq, Int.reduceLE, Int.reduceLT, Int.reduceNe, Int.reduceSub, Int.reduceAdd, Int.reduceMul, Int.reduceNeg, Int.reduceToNat, Nat.reduceMul, Nat.mul_one, ne_eq, not_true_eq_false, not_false_eq_true, w64, wu8, wu64, wi32, dec_t, dec_f]
    | (refine CallP.into (pint_ok h0 hd hv hl) (fun n' m' hn hm => ?_))
    | (refine And.intro (by omega) ?_)
    | (refine gsplit_intro (fun h => ?_) (fun h => ?_) <;> (try simp only [decide_eq_true_eq, decide_eq_false_iff_not] at h))
  exact ToLe.same hn hm
end Go.Proofs.YteapohlamngkpaaDoor
