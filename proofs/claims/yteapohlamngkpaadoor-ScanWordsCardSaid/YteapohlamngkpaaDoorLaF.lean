/-
  Layer 2's law: ScanWords whole.
-/
import Derived.Test.YteapohlamngkpaaDoorLaE
namespace Go.Proofs.YteapohlamngkpaaDoor
open Go.Pv
attribute [local irreducible] Go.Pv.CallP Go.Pv.gsplit Go.Pv.ToLe Go.Pv.LoopV
set_option linter.unusedVariables false
set_option linter.unusedSimpArgs false
set_option maxRecDepth 100000
set_option maxHeartbeats 4000000

theorem scanWords_ok {raw : List (Int × Int)} {s : Hs} (hraw : ∀ p ∈ raw, I64 p.1 ∧ I64 p.2) (hl : raw.length ≤ 9223372036854775807) :
    CallP cx 3 [.lst 2 (raw.map pairP) none] s (To (.ret (.bool true)) s s.H s.T) := by
  refine call_to cx_ok chk_counterprooflaw02_ScanWords rfl fun wd => ?_
  unfold callW fp_counterprooflaw02_ScanWords
  repeat' first
    | simp (maxSteps := 3000000) (disch := omega) only [go_sem, ↓reduceIte, Nat.reduceEqDiff, Nat.reduceAdd, Nat.reduceLeDiff, Nat.le_refl, Int.reduceEq, Int.reduceLE, Int.reduceLT, Int.reduceNe, Int.reduceSub, Int.reduceAdd, Int.reduceMul, Int.reduceNeg, Int.reduceToNat, Nat.reduceMul, Nat.mul_one, ne_eq, not_true_eq_false, not_false_eq_true, w64, wu8, wu64, wi32, dec_t, dec_f]
    | (refine CallP.into (awake_ok) (fun n2 m2 hn2 hm2 => ?_); try dsimp only at hn2 hm2)
    | (refine And.intro (by omega) ?_)
    | (refine gsplit_intro (fun h => ?_) (fun h => ?_) <;> (try simp only [decide_eq_true_eq, decide_eq_false_iff_not] at h))
  have hwf : Wf2 s.H s.T n2 (m2 + 1 + 1) := wd.wf.mono hn2 (by omega)
  refine words_loop (q1 := m2) (q2 := m2 + 1) (H := s.H) (T := s.T) hraw hl (by omega) (min raw.length 30) 0 n2 (m2 + 1 + 1) (Nat.zero_add _) hwf (by omega) (by omega) fun fr s' hx hw1 f3 f4 f5 f6 => ?_
  generalize hr : raw.take 30 = l at f4 f5 f6
  have hll : l.length ≤ 30 := by rw [← hr, List.length_take]; omega
  have hk : (kindsOf l).length = l.length := by simp [kindsOf]
  have hsl := spaced_len l
  have hx0 : Ext s s' := by
    have h1 := hx.n
    have h2 := hx.m
    have h3 := hx.T
    simp only [] at h1 h2
    refine ⟨hx.H, Hle.trans ?_ h3, by omega, by omega⟩
    exact Hle.new _ (wd.2 _ (by omega)) (Hle.new _ (wd.2 _ hm2) (Hle.refl _))
  obtain ⟨f, hf⟩ := Stp.end (spaced_stp 1 l [])
  rw [List.nil_append] at hf
  obtain ⟨H1, T1, n1, m1⟩ := s'
  have hs : (toksOf 1 l).length = l.length := by simp [toksOf]
  generalize hL : toksOf 1 l ++ [⟨5, [], 0, 1⟩] = L at hf
  have hLl : L.length = l.length + 1 := by rw [← hL]; simp [hs]
  have he : elem (L.map tokP) (l.length : Int) = tokP ⟨5, [], 0, 1⟩ := elem_at (by rw [Int.toNat_natCast, ← hL, List.getElem?_append_right (by omega)]; simp [hs])
  repeat' first
    | simp (maxSteps := 3000000) (disch := omega) only [go_sem, ↓reduceIte, Nat.reduceEqDiff, Nat.reduceAdd, Nat.reduceLeDiff, Nat.le_refl, Int.reduceEq, Int.reduceLE, Int.reduceLT, Int.reduceNe, Int.reduceSub, Int.reduceAdd, Int.reduceMul, Int.reduceNeg, Int.reduceToNat, Nat.reduceMul, Nat.mul_one, ne_eq, not_true_eq_false, not_false_eq_true, w64, wu8, wu64, wi32, dec_t, dec_f, f3, f4, f5, f6, SRes.pv, hk, hLl, he, tokP]
    | (refine CallP.into (scan_ok (by omega) hf) (fun n2 m2 hn2 hm2 => ?_); try dsimp only at hn2 hm2)
    | (refine And.intro (by omega) ?_)
    | (refine gsplit_intro (fun h => ?_) (fun h => ?_) <;> (try simp only [decide_eq_true_eq, decide_eq_false_iff_not] at h))
  refine words_loop2 (H := H1) (T := T1) hL.symm hll l.length 0 _ _ (Nat.zero_add _) (hw1.mono hn2 hm2) fun fr2 s2 hx2 => ?_
  repeat' first
    | simp (maxSteps := 3000000) (disch := omega) only [go_sem, ↓reduceIte, Nat.reduceEqDiff, Nat.reduceAdd, Nat.reduceLeDiff, Nat.le_refl, Int.reduceEq, Int.reduceLE, Int.reduceLT, Int.reduceNe, Int.reduceSub, Int.reduceAdd, Int.reduceMul, Int.reduceNeg, Int.reduceToNat, Nat.reduceMul, Nat.mul_one, ne_eq, not_true_eq_false, not_false_eq_true, w64, wu8, wu64, wi32, dec_t, dec_f]
    | (refine And.intro (by omega) ?_)
    | (refine gsplit_intro (fun h => ?_) (fun h => ?_) <;> (try simp only [decide_eq_true_eq, decide_eq_false_iff_not] at h))
  exact ToLe.ext (OutLe.refl _) (hx0.trans (hx2.up hn2 hm2))
end Go.Proofs.YteapohlamngkpaaDoor
