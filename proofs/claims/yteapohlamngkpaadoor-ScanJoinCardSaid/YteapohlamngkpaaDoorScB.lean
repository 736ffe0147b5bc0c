/-
  Layer 2: the scanner's functions: look, add, span.
-/
import Derived.Test.YteapohlamngkpaaDoorScA
namespace Go.Proofs.YteapohlamngkpaaDoor
open Go.Pv
attribute [local irreducible] Go.Pv.CallP Go.Pv.gsplit Go.Pv.ToLe Go.Pv.LoopV
set_option linter.unusedVariables false
set_option linter.unusedSimpArgs false
set_option maxRecDepth 100000
set_option maxHeartbeats 4000000

def Sc.span (kb : Int → Bool) (x : Sc) : Nat := ((x.cs.drop x.next).takeWhile fun c => kb c.1).length

theorem Sc.span_le (kb : Int → Bool) (x : Sc) : x.span kb ≤ x.cs.length - x.next := by
  have := (List.takeWhile_sublist (l := x.cs.drop x.next) (fun c => kb c.1)).length_le
  simpa [Sc.span] using this

theorem takeWhile_at {α : Type} {f : α → Bool} : ∀ {l : List α} {n : Nat}, n < (l.takeWhile f).length → ∃ a, l[n]? = some a ∧ f a = true
  | [], n, h => by simp at h
  | a :: l, n, h => by
    by_cases hf : f a = true
    · rw [List.takeWhile_cons_of_pos hf] at h
      cases n with
      | zero => exact ⟨a, rfl, hf⟩
      | succ n => exact takeWhile_at (l := l) (by simpa using h)
    · rw [List.takeWhile_cons_of_neg hf] at h; simp at h

theorem takeWhile_end {α : Type} {f : α → Bool} : ∀ {l : List α} {a : α}, l[(l.takeWhile f).length]? = some a → f a = false
  | [], a, h => by simp at h
  | b :: l, a, h => by
    by_cases hf : f b = true
    · rw [List.takeWhile_cons_of_pos hf] at h
      exact takeWhile_end (l := l) (by simpa using h)
    · rw [List.takeWhile_cons_of_neg hf] at h
      simp at h; subst h; simpa using hf

theorem Sc.peek_drop (x : Sc) (a : Nat) : x.peek a = match (x.cs.drop x.next)[a]? with | some c => c.1 | none => -1 := by
  unfold Sc.peek
  rw [List.getElem?_drop]
  rfl

theorem Sc.span_in {kb : Int → Bool} {x : Sc} {n : Nat} (h : n < x.span kb) : kb (x.peek n) = true := by
  obtain ⟨c, h1, h2⟩ := takeWhile_at (f := fun c : Int × Nat => kb c.1) h
  rw [Sc.peek_drop, h1]; exact h2

theorem Sc.span_out {kb : Int → Bool} (hk : kb (-1) = false) (x : Sc) : kb (x.peek (x.span kb)) = false := by
  rw [Sc.peek_drop]
  cases hc : (x.cs.drop x.next)[x.span kb]? with
  | none => exact hk
  | some c => exact takeWhile_end (f := fun c : Int × Nat => kb c.1) hc

theorem span_loop {x : Sc} {p id f : Nat} {ty : TypeId} {s : Hs} {kb : Int → Bool} (hs : s.H id = some (.cells (x.cells p) ty false)) (h1 : x.next ≤ 300000) (h2 : x.cs.length ≤ 300000) (hk : kb (-1) = false)
    (hf : ∀ r, CallP cx f [.int .i32 r] s (Is (.ret (.bool (kb r))) s)) {K : Kt} (hK : ∀ fr, fr 5 = some (.int .i64 (x.span kb)) → K (.exit 0) ⟨fr, s⟩) :
    ∀ (d n : Nat), n + d = x.span kb → LoopV [0, 1, 5] (pw cx lb_scan_scanner_span_0) K [.ptr id 0, .func f [] [], .int .i64 n] s := by
  have hle := x.span_le kb
  intro d
  induction d with
  | zero =>
    intro n hn
    have hn' : n = x.span kb := by omega
    subst hn'
    refine LoopV.round ?_
    repeat' first
      | simp (maxSteps := 3000000) only [go_sem, ↓reduceIte, Nat.reduceEqDiff, Nat.reduceAdd, Nat.reduceLeDiff, Nat.le_refl, Int.reduceEq, Int.reduceLE, Int.reduceLT, Int.reduceNe, Int.reduceSub, Int.reduceAdd, Int.reduceMul, Int.reduceNeg, Int.reduceToNat, Nat.reduceMul, Nat.mul_one, ne_eq, not_true_eq_false, not_false_eq_true, x.span_out hk]
      | (refine (peek_ok hs (by omega)).to ?_)
      | (refine (hf _).to ?_)
      | (exact hK _ rfl)
      | (refine And.intro (by omega) ?_)
      | (refine gsplit_intro (fun h => ?_) (fun h => ?_) <;> (try simp only [decide_eq_true_eq, decide_eq_false_iff_not] at h))
  | succ d ih =>
    intro n hn
    refine LoopV.round ?_
    have hin := Sc.span_in (kb := kb) (x := x) (n := n) (by omega)
    have hw : IntKind.i64.wrap ((n : Int) + 1) = ((n + 1 : Nat) : Int) := by rw [w64 (by omega) (by omega)]; rfl
    repeat' first
      | simp (maxSteps := 3000000) only [go_sem, ↓reduceIte, Nat.reduceEqDiff, Nat.reduceAdd, Nat.reduceLeDiff, Nat.le_refl, Int.reduceEq, Int.reduceLE, Int.reduceLT, Int.reduceNe, Int.reduceSub, Int.reduceAdd, Int.reduceMul, Int.reduceNeg, Int.reduceToNat, Nat.reduceMul, Nat.mul_one, ne_eq, not_true_eq_false, not_false_eq_true, hin, hw]
      | (refine (peek_ok hs (by omega)).to ?_)
      | (refine (hf _).to ?_)
      | (exact LoopI.same (ih (n + 1) (by omega)))
      | (refine And.intro (by omega) ?_)
      | (refine gsplit_intro (fun h => ?_) (fun h => ?_) <;> (try simp only [decide_eq_true_eq, decide_eq_false_iff_not] at h))

theorem span_ok {x : Sc} {p id f : Nat} {ty : TypeId} {s : Hs} {kb : Int → Bool} (hs : s.H id = some (.cells (x.cells p) ty false)) (h1 : x.next ≤ 300000) (h2 : x.cs.length ≤ 300000) (hk : kb (-1) = false)
    (hf : ∀ r, CallP cx f [.int .i32 r] s (Is (.ret (.bool (kb r))) s)) : CallP cx 31 [.ptr id 0, .func f [] []] s (Is (.ret (.int .i64 (x.span kb))) s) := by
  refine call_ok cx_ok chk_scan_scanner_span rfl ?_
  unfold callW fp_scan_scanner_span
  repeat' first
    | simp (maxSteps := 3000000) only [go_sem, ↓reduceIte, Nat.reduceEqDiff, Nat.reduceAdd, Nat.reduceLeDiff, Nat.le_refl, Int.reduceEq, Int.reduceLE, Int.reduceLT, Int.reduceNe, Int.reduceSub, Int.reduceAdd, Int.reduceMul, Int.reduceNeg, Int.reduceToNat, Nat.reduceMul, Nat.mul_one, ne_eq, not_true_eq_false, not_false_eq_true]
    | (refine span_loop hs h1 h2 hk hf (fun fr hfr => ?_) (x.span kb) 0 (Nat.zero_add _))
    | (refine And.intro (by omega) ?_)
    | (refine gsplit_intro (fun h => ?_) (fun h => ?_) <;> (try simp only [decide_eq_true_eq, decide_eq_false_iff_not] at h))
  repeat' first
    | simp (maxSteps := 3000000) only [go_sem, ↓reduceIte, Nat.reduceEqDiff, Nat.reduceAdd, Nat.reduceLeDiff, Nat.le_refl, Int.reduceEq, Int.reduceLE, Int.reduceLT, Int.reduceNe, Int.reduceSub, Int.reduceAdd, Int.reduceMul, Int.reduceNeg, Int.reduceToNat, Nat.reduceMul, Nat.mul_one, ne_eq, not_true_eq_false, not_false_eq_true, hfr]
    | (exact Is.mk _ _)
    | (refine And.intro (by omega) ?_)
    | (refine gsplit_intro (fun h => ?_) (fun h => ?_) <;> (try simp only [decide_eq_true_eq, decide_eq_false_iff_not] at h))

/-- Where the next character, and so many behind it, begin. -/
def Sc.at_ (x : Sc) (a : Nat) : Nat := match x.cs[x.next + a]? with | some c => c.2 | none => 0
def Sc.look (x : Sc) (n : Nat) : List UInt8 := (x.text.drop (x.at_ 0)).take (x.at_ n - x.at_ 0)

theorem look_ok {x : Sc} {p id : Nat} {ty : TypeId} {s : Hs} {n : Nat} (hs : s.H id = some (.cells (x.cells p) ty false)) (h1 : x.next ≤ 300000) (h2 : x.cs.length ≤ 300000) (hn : x.next + n < x.cs.length)
    (ha : x.at_ 0 ≤ x.at_ n) (hb : x.at_ n ≤ x.text.length) : CallP cx 30 [.ptr id 0, .int .i64 n] s (Is (.ret (.str (x.look n))) s) := by
  have hw : IntKind.i64.wrap ((x.next : Int) + n) = ((x.next + n : Nat) : Int) := by rw [w64 (by omega) (by omega)]; rfl
  refine call_ok cx_ok chk_scan_scanner_look rfl ?_
  unfold callW fp_scan_scanner_look
  unfold Sc.look
  unfold Sc.at_ at ha hb ⊢
  obtain ⟨c, hc⟩ : ∃ c, x.cs[x.next]? = some c := ⟨x.cs[x.next], by simp⟩
  obtain ⟨c2, hc2⟩ : ∃ c, x.cs[x.next + n]? = some c := ⟨x.cs[x.next + n], by simp⟩
  have he : elem (x.cs.map chP) (x.next : Int) = chP c := elem_at (by rw [Int.toNat_natCast]; exact hc)
  have he2 : elem (x.cs.map chP) ((x.next + n : Nat) : Int) = chP c2 := elem_at (by rw [Int.toNat_natCast]; exact hc2)
  simp only [Nat.add_zero, hc, hc2] at ha hb ⊢
  repeat' first
    | simp (maxSteps := 3000000) only [go_sem, ↓reduceIte, Nat.reduceEqDiff, Nat.reduceAdd, Nat.reduceLeDiff, Nat.le_refl, Int.reduceEq, Int.reduceLE, Int.reduceLT, Int.reduceNe, Int.reduceSub, Int.reduceAdd, Int.reduceMul, Int.reduceNeg, Int.reduceToNat, Nat.reduceMul, Nat.mul_one, ne_eq, not_true_eq_false, not_false_eq_true, hs, Sc.cells, hw, he, he2, chP]
    | (refine And.intro (by omega) ?_)
    | (refine gsplit_intro (fun h => ?_) (fun h => ?_) <;> (try simp only [decide_eq_true_eq, decide_eq_false_iff_not] at h))
  all_goals exact Is.mk _ _

def Sc.add (x : Sc) (kind n : Int) (len : Nat) : Sc := { x with next := x.next + len, out := x.out ++ [⟨kind, x.look len, n, x.line⟩] }

theorem add_ok {x : Sc} {p id : Nat} {ty : TypeId} {s : Hs} {n : Nat} {kind v : Int} (hs : s.H id = some (.cells (x.cells p) ty false)) (hp : s.T p = some x.out.length) (h1 : x.next ≤ 300000) (h2 : x.cs.length ≤ 300000) (hn : x.next + n < x.cs.length) (h3 : x.out.length ≤ 300000)
    (ha : x.at_ 0 ≤ x.at_ n) (hb : x.at_ n ≤ x.text.length) : CallP cx 21 [.ptr id 0, .int .i64 kind, .int .i64 n, .int .i64 v] s
      (To (.ret (.tup [])) s (hset s.H id (some (.cells ((x.add kind v n).cells p) ty false))) (hset s.T p (some (x.add kind v n).out.length))) := by
  have hw : IntKind.i64.wrap ((x.next : Int) + n) = ((x.next + n : Nat) : Int) := by rw [w64 (by omega) (by omega)]; rfl
  refine call_to cx_ok chk_scan_scanner_add rfl fun wd => ?_
  unfold callW fp_scan_scanner_add
  repeat' first
    | simp (maxSteps := 3000000) only [go_sem, ↓reduceIte, Nat.reduceEqDiff, Nat.reduceAdd, Nat.reduceLeDiff, Nat.le_refl, Int.reduceEq, Int.reduceLE, Int.reduceLT, Int.reduceNe, Int.reduceSub, Int.reduceAdd, Int.reduceMul, Int.reduceNeg, Int.reduceToNat, Nat.reduceMul, Nat.mul_one, ne_eq, not_true_eq_false, not_false_eq_true, hs, Sc.cells, hw, wd.ne hs, hp, wd.pe hp]
    | (refine CallP.to (look_ok (x := x) (p := p) hs h1 h2 hn ha hb) ?_)
    | (refine And.intro (by omega) ?_)
    | (refine gsplit_intro (fun h => ?_) (fun h => ?_) <;> (try simp only [decide_eq_true_eq, decide_eq_false_iff_not] at h))
  refine ToLe.mk (OutLe.refl _) (Hle.upd ?_ (fun j o hj ho => ?_)) (Hle.upd ?_ (fun j o hj ho => ?_)) ?_ ?_
  · simp only [go_sem, ↓reduceIte, Nat.reduceEqDiff, Nat.reduceAdd, Nat.reduceLeDiff, Nat.le_refl, Int.reduceEq, Int.reduceLE, Int.reduceLT, Int.reduceNe, Int.reduceSub, Int.reduceAdd, Int.reduceMul, Int.reduceNeg, Int.reduceToNat, Nat.reduceMul, Nat.mul_one, ne_eq, not_true_eq_false, not_false_eq_true, Sc.add, List.map_append, tokP, List.length_append]
  · simp only [go_sem, ↓reduceIte, Nat.reduceEqDiff, Nat.reduceAdd, Nat.reduceLeDiff, Nat.le_refl, Int.reduceEq, Int.reduceLE, Int.reduceLT, Int.reduceNe, Int.reduceSub, Int.reduceAdd, Int.reduceMul, Int.reduceNeg, Int.reduceToNat, Nat.reduceMul, Nat.mul_one, ne_eq, not_true_eq_false, not_false_eq_true, hj, ne_new (wd.lt ho), Sc.add, List.map_append, tokP, List.length_append]; exact ho
  · simp only [go_sem, ↓reduceIte, Nat.reduceEqDiff, Nat.reduceAdd, Nat.reduceLeDiff, Nat.le_refl, Int.reduceEq, Int.reduceLE, Int.reduceLT, Int.reduceNe, Int.reduceSub, Int.reduceAdd, Int.reduceMul, Int.reduceNeg, Int.reduceToNat, Nat.reduceMul, Nat.mul_one, ne_eq, not_true_eq_false, not_false_eq_true, Sc.add, List.map_append, tokP, List.length_append]
  · simp only [go_sem, ↓reduceIte, Nat.reduceEqDiff, Nat.reduceAdd, Nat.reduceLeDiff, Nat.le_refl, Int.reduceEq, Int.reduceLE, Int.reduceLT, Int.reduceNe, Int.reduceSub, Int.reduceAdd, Int.reduceMul, Int.reduceNeg, Int.reduceToNat, Nat.reduceMul, Nat.mul_one, ne_eq, not_true_eq_false, not_false_eq_true, hj, ne_new (wd.plt ho), Sc.add, List.map_append, tokP, List.length_append]; exact ho
  · simp only []; omega
  · simp only []; omega
end Go.Proofs.YteapohlamngkpaaDoor
