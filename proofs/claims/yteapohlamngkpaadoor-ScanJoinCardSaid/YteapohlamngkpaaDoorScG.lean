/-
  Layer 2: Scan.
-/
import Derived.Test.YteapohlamngkpaaDoorScF
import Derived.Test.YteapohlamngkpaaDoorPx
namespace Go.Proofs.YteapohlamngkpaaDoor
open Go.Pv
attribute [local irreducible] Go.Pv.CallP Go.Pv.gsplit Go.Pv.ToLe Go.Pv.LoopV
set_option linter.unusedVariables false
set_option linter.unusedSimpArgs false
set_option maxRecDepth 100000
set_option maxHeartbeats 4000000

theorem atL_ge : ∀ (k : Nat) (l : List UInt8), k < (C 0 l).length → k ≤ atL l k
  | 0, l, _ => Nat.zero_le _
  | k + 1, [], h => by simp [C_nil] at h
  | k + 1, b :: l, h => by
    have hl : k < (C 0 ((b :: l).drop (decL (b :: l)).2)).length := by
      rw [C_cons, List.length_cons, C_length] at h; omega
    have := atL_ge k _ hl
    have h2 := decL_pos b l
    rw [atL_succ b l k h]; omega

theorem span_pos {kb : Int → Bool} {l : List UInt8} (h : kb (pk l 0) = true) (hk : kb (-1) = false) : 1 ≤ spanL kb l := by
  cases l with
  | nil => rw [pk_nil] at h; rw [h] at hk; cases hk
  | cons b l =>
    rw [pk_zero] at h
    unfold spanL
    rw [C_cons, List.takeWhile_cons_of_pos (p := fun c : Int × Nat => kb c.1) h]
    simp

theorem act_go {l : List UInt8} {k : Nat} {nl : Int} (h : act l = .go k nl) : k < (C 0 l).length ∧ (nl = 0 ∨ nl = 1 ∧ 1 ≤ k) := by
  unfold act at h
  repeat' split at h
  all_goals cases h
  · exact ⟨pk_lt (a := 0) (by omega), Or.inr ⟨rfl, Nat.le_refl _⟩⟩
  · exact ⟨pk_lt (a := 0) (by omega), Or.inl rfl⟩
  · exact ⟨spanL_lt rfl l, Or.inl rfl⟩

theorem act_tok {l : List UInt8} {kind v : Int} {k : Nat} (h : act l = .tok kind k v) : k < (C 0 l).length ∧ 1 ≤ k := by
  unfold act at h
  repeat' split at h
  all_goals cases h
  · exact ⟨spanL_lt rfl l, span_pos (by simp [partB, *]) rfl⟩
  · exact ⟨spanL_lt rfl l, span_pos (by simp [partB, *]) rfl⟩
  · exact ⟨spanL_lt rfl l, span_pos (by assumption) rfl⟩
  · rename_i h5; exact ⟨pk_lt (a := 2) (by omega), by omega⟩
  · rename_i h5
    refine ⟨pk_lt (a := 1) ?_, by omega⟩
    intro e; rw [e] at h5; simp [two] at h5
  · rename_i h5 h6
    refine ⟨pk_lt (a := 0) ?_, by omega⟩
    intro e; rw [e] at h6; simp [one] at h6

inductive SRes where
  | ok (ts : List Tok)
  | err (line : Int)

def scanR : Nat → List UInt8 → Int → List Tok → Option SRes
  | 0, _, _, _ => none
  | _ + 1, [], line, acc => some (.ok (acc ++ [⟨5, [], 0, line⟩]))
  | f + 1, b :: l, line, acc => match act (b :: l) with
    | .go k nl => scanR f ((b :: l).drop (atL (b :: l) k)) (line + nl) acc
    | .tok kind k n => scanR f ((b :: l).drop (atL (b :: l) k)) line (acc ++ [⟨kind, wd_ (b :: l) k, n, line⟩])
    | .bad => some (.err line)
    | .huge => none

def SRes.pv : SRes → PV
  | .ok ts => .tup [.lst 4 (ts.map tokP) none, .int .i64 0, .int .i64 0]
  | .err line => .tup [.lst 4 [] none, .int .i64 20, .int .i64 line]

theorem pk_zero_ne (b : UInt8) (l : List UInt8) : pk (b :: l) 0 ≠ -1 := by rw [pk_zero]; omega

theorem scan_loop {r : SRes} {p id n0 m0 : Nat} {ty : TypeId} {H : Nat → Option AO} {T : Nat → Option Nat} {K : Kt}
    (hok : ∀ x pos fr n m ts, n0 ≤ n → m0 ≤ m → r = .ok ts → Sc.At x pos → x.text.drop pos = [] → ts = x.out ++ [⟨5, [], 0, x.line⟩] → fr 5 = some (.ptr id 0) → K (.exit 0) ⟨fr, ⟨hset H id (some (.cells (Sc.cells x p) ty false)), hset T p (some x.out.length), n, m⟩⟩)
    (hbad : ∀ x fr n m line a q, n0 ≤ n → m0 ≤ m → m0 ≤ q → r = .err line → fr 2 = some (.lst 4 [] (some q)) → fr 3 = some (.int .i64 20) → fr 4 = some (.int .i64 line) → K .ret ⟨fr, ⟨hset H id (some (.cells (Sc.cells x p) ty false)), hset (hset T p a) q (some 0), n, m⟩⟩) :
    ∀ (f : Nat) (x : Sc) (pos n m : Nat), n0 ≤ n → m0 ≤ m → x.At pos → x.out.length ≤ pos → 0 ≤ x.line → x.line ≤ 1 + pos → scanR f (x.text.drop pos) x.line x.out = some r →
      LoopV [5] (pw cx lb_scan_Scan_0) K [.ptr id 0] ⟨hset H id (some (.cells (x.cells p) ty false)), hset T p (some x.out.length), n, m⟩ := by
  intro f
  induction f with
  | zero => intro x pos n m hn0 hm0 hA ho hl0 hl1 hr; cases hr
  | succ f ih =>
    intro x pos n m hn0 hm0 hA ho hl0 hl1 hr
    refine LoopV.round ?_
    have hlt := hA.next_lt
    have hcs := hA.cs_le
    have p0 := hA.peek 0
    have hpl := hA.pos_le
    have hlen := hA.len
    cases hl : x.text.drop pos with
    | nil =>
      rw [hl] at hr p0
      rw [pk_nil] at p0
      simp only [scanR, Option.some.injEq] at hr
      repeat' first
        | simp (maxSteps := 3000000) (disch := omega) only [go_sem, ↓reduceIte, Nat.reduceEqDiff, Nat.reduceAdd, Nat.reduceLeDiff, Nat.le_refl, Int.reduceEq, Int.reduceLE, Int.reduceLT, Int.reduceNe, Int.reduceSub, Int.reduceAdd, Int.reduceMul, Int.reduceNeg, Int.reduceToNat, Nat.reduceMul, Nat.mul_one, ne_eq, not_true_eq_false, not_false_eq_true, w64, wu8, wu64, wi32, dec_t, dec_f, p0]
        | (refine CallP.to (peek_ok (x := x) (p := p) (ty := ty) (a := 0) (hset_same _ _ _) (by omega)) ?_)
        | (refine And.intro (by omega) ?_)
        | (refine gsplit_intro (fun h => ?_) (fun h => ?_) <;> (try simp only [decide_eq_true_eq, decide_eq_false_iff_not] at h))
      exact hok x pos _ _ _ _ hn0 hm0 hr.symm hA hl rfl rfl
    | cons b l =>
      rw [hl] at hr p0
      have hne : (pk (b :: l) 0 = -1) = False := eq_false (pk_zero_ne b l)
      simp only [scanR] at hr
      repeat' first
        | simp (maxSteps := 3000000) (disch := omega) only [go_sem, ↓reduceIte, Nat.reduceEqDiff, Nat.reduceAdd, Nat.reduceLeDiff, Nat.le_refl, Int.reduceEq, Int.reduceLE, Int.reduceLT, Int.reduceNe, Int.reduceSub, Int.reduceAdd, Int.reduceMul, Int.reduceNeg, Int.reduceToNat, Nat.reduceMul, Nat.mul_one, ne_eq, not_true_eq_false, not_false_eq_true, w64, wu8, wu64, wi32, dec_t, dec_f, p0, hne]
        | (refine CallP.to (peek_ok (x := x) (p := p) (ty := ty) (a := 0) (hset_same _ _ _) (by omega)) ?_)
        | (refine step_ok (x := x) (p := p) (ty := ty) hA (hset_same _ _ _) (hset_same _ _ _) ⟨hl0, by omega⟩ hl.symm (List.cons_ne_nil b l) (fun e => by rw [e] at hr; cases hr) (fun k nl n2 m2 e hn2 hm2 => ?_) (fun kind k v n2 m2 e hn2 hm2 => ?_) (fun x' n2 m2 e hx hn2 hm2 => ?_))
        | (refine And.intro (by omega) ?_)
        | (refine gsplit_intro (fun h => ?_) (fun h => ?_) <;> (try simp only [decide_eq_true_eq, decide_eq_false_iff_not] at h))
      · rw [e] at hr
        simp only at hr
        obtain ⟨g1, g2⟩ := act_go e
        rw [← hl] at g1 hr
        rw [List.drop_drop] at hr
        have hge := atL_ge k _ g1
        have := ih (x.gon k nl) _ n2 m2 (Nat.le_trans hn0 hn2) (Nat.le_trans hm0 hm2) (hA.go g1 (line := x.line + nl) (out := x.out) hA.out) (by show x.out.length ≤ _; omega) (by show 0 ≤ x.line + nl; omega) (by show x.line + nl ≤ _; omega) hr
        rw [hset_self]
        exact LoopI.same this
      · rw [e] at hr
        simp only at hr
        obtain ⟨g1, g2⟩ := act_tok e
        rw [← hl] at g1 hr
        rw [List.drop_drop] at hr
        have hge := atL_ge k _ g1
        have hlk : x.look k = wd_ (x.text.drop pos) k := hA.look g1
        obtain ⟨_, g3⟩ := C_drop k 0 _ g1
        rw [List.length_drop] at g3
        rw [← hlk] at hr
        have hgo : (x.add kind v k).At (pos + atL (x.text.drop pos) k) := hA.go g1 (by simp; omega)
        have := ih (x.add kind v k) (pos + atL (x.text.drop pos) k) n2 m2 (Nat.le_trans hn0 hn2) (Nat.le_trans hm0 hm2) hgo (by simp [Sc.add]; omega) hl0 (by show x.line ≤ _; omega) hr
        rw [hset_self, hset_self]
        exact LoopI.same this
      · rw [e] at hr
        simp only [Option.some.injEq] at hr
        have hc' : Sc.cells x' p = [.str x'.text, .lst 2 (x'.cs.map chP) none, .int .i64 (x'.next : Int), .int .i64 x'.line, .lst 4 (x'.out.map tokP) (some p)] := rfl
        repeat' first
          | simp (maxSteps := 3000000) (disch := omega) only [go_sem, ↓reduceIte, Nat.reduceEqDiff, Nat.reduceAdd, Nat.reduceLeDiff, Nat.le_refl, Int.reduceEq, Int.reduceLE, Int.reduceLT, Int.reduceNe, Int.reduceSub, Int.reduceAdd, Int.reduceMul, Int.reduceNeg, Int.reduceToNat, Nat.reduceMul, Nat.mul_one, ne_eq, not_true_eq_false, not_false_eq_true, w64, wu8, wu64, wi32, dec_t, dec_f, hc', hx, hset_self]
          | (refine And.intro (by omega) ?_)
          | (refine gsplit_intro (fun h => ?_) (fun h => ?_) <;> (try simp only [decide_eq_true_eq, decide_eq_false_iff_not] at h))
        have hc2 : [.str x'.text, .lst 2 (x'.cs.map chP) none, .int .i64 (x'.next : Int), .int .i64 x.line, .lst 4 (x'.out.map tokP) (some p)] = Sc.cells ⟨x'.text, x'.cs, x'.next, x.line, x'.out⟩ p := rfl
        rw [hc2]
        exact hbad _ _ _ _ _ _ _ (Nat.le_trans hn0 hn2) (by show m0 ≤ m2 + 1; have := Nat.le_trans hm0 hm2; omega) (Nat.le_trans hm0 hm2) hr.symm rfl rfl rfl
      all_goals exact absurd (pk_zero_ne b l) h

theorem scan_ok {t : List UInt8} {s : Hs} {f : Nat} {r : SRes} (hl : t.length ≤ 20000) (hr : scanR f t 1 [] = some r) : CallP cx 9 [.str t] s (To (.ret r.pv) s s.H s.T) := by
  refine call_to cx_ok chk_scan_Scan rfl fun wd => ?_
  unfold callW fp_scan_Scan
  repeat' first
    | simp (maxSteps := 3000000) (disch := omega) only [go_sem, ↓reduceIte, Nat.reduceEqDiff, Nat.reduceAdd, Nat.reduceLeDiff, Nat.le_refl, Int.reduceEq, Int.reduceLE, Int.reduceLT, Int.reduceNe, Int.reduceSub, Int.reduceAdd, Int.reduceMul, Int.reduceNeg, Int.reduceToNat, Nat.reduceMul, Nat.mul_one, ne_eq, not_true_eq_false, not_false_eq_true, w64, wu8, wu64, wi32, dec_t, dec_f]
    | (refine CallP.into (spell_ok (by omega)) (fun n1 m1 hn1 hm1 => ?_))
    | (refine And.intro (by omega) ?_)
    | (refine gsplit_intro (fun h => ?_) (fun h => ?_) <;> (try simp only [decide_eq_true_eq, decide_eq_false_iff_not] at h))
  have hc : [PV.str t, .lst 2 ((chT t).map chP) none, .int .i64 0, .int .i64 1, .lst 4 [] (some (s.m + 2))] = Sc.cells ⟨t, chT t, 0, 1, []⟩ (s.m + 2) := rfl
  rw [hc]
  have hm1' : s.m + 3 ≤ m1 := hm1
  have hn1' : s.n + 1 ≤ n1 := hn1
  have hA : Sc.At ⟨t, chT t, 0, 1, []⟩ 0 := ⟨rfl, by rw [chT_eq]; rfl, hl, Nat.zero_le _, Nat.zero_le _⟩
  refine scan_loop (r := r) (n0 := s.n + 1) (m0 := s.m + 3) (x := ⟨t, chT t, 0, 1, []⟩) ?_ ?_ f 0 n1 m1 hn1' hm1' hA (Nat.zero_le _) (by show (0 : Int) ≤ 1; decide) (by show (1 : Int) ≤ 1 + 0; decide) hr
  · intro x pos fr n m ts hn hm hr hA hd hts h5
    have h0 : 0 < (C 0 (x.text.drop pos)).length := C_length_pos _ _
    have hadd : x.out ++ [⟨5, [], 0, x.line⟩] = (x.add 5 0 0).out := by
      have : x.look 0 = [] := by rw [hA.look h0, hd]; simp
      simp [Sc.add, this]
    have hcc : Sc.cells (x.add 5 0 0) (s.m + 2) = [.str x.text, .lst 2 (x.cs.map chP) none, .int .i64 ((x.next + 0 : Nat) : Int), .int .i64 x.line, .lst 4 ((x.add 5 0 0).out.map tokP) (some (s.m + 2))] := rfl
    repeat' first
      | simp (maxSteps := 3000000) (disch := omega) only [go_sem, ↓reduceIte, Nat.reduceEqDiff, Nat.reduceAdd, Nat.reduceLeDiff, Nat.le_refl, Int.reduceEq, Int.reduceLE, Int.reduceLT, Int.reduceNe, Int.reduceSub, Int.reduceAdd, Int.reduceMul, Int.reduceNeg, Int.reduceToNat, Nat.reduceMul, Nat.mul_one, ne_eq, not_true_eq_false, not_false_eq_true, w64, wu8, wu64, wi32, dec_t, dec_f, h5, hset_self]
      | (refine CallP.into (hA.add_ok (p := s.m + 2) (ty := 48) (k := 0) (hset_same _ _ _) (hset_same _ _ _) h0 _ _) (fun n2 m2 hn2 hm2 => ?_))
      | (refine And.intro (by omega) ?_)
      | (refine gsplit_intro (fun h => ?_) (fun h => ?_) <;> (try simp only [decide_eq_true_eq, decide_eq_false_iff_not] at h))
    have hn2' : n ≤ n2 := hn2
    have hm2' : m ≤ m2 := hm2
    rw [hcc]
    repeat' first
      | simp (maxSteps := 3000000) (disch := omega) only [go_sem, ↓reduceIte, Nat.reduceEqDiff, Nat.reduceAdd, Nat.reduceLeDiff, Nat.le_refl, Int.reduceEq, Int.reduceLE, Int.reduceLT, Int.reduceNe, Int.reduceSub, Int.reduceAdd, Int.reduceMul, Int.reduceNeg, Int.reduceToNat, Nat.reduceMul, Nat.mul_one, ne_eq, not_true_eq_false, not_false_eq_true, w64, wu8, wu64, wi32, dec_t, dec_f, hset_self]
      | (refine And.intro (by omega) ?_)
      | (refine gsplit_intro (fun h => ?_) (fun h => ?_) <;> (try simp only [decide_eq_true_eq, decide_eq_false_iff_not] at h))
    rw [hr, hts, hadd]
    refine ToLe.mk (OutLe.fst _ _ _ _) ?_ ?_ (by show s.n ≤ n2; omega) (by show s.m ≤ m2; omega)
    · exact Hle.new _ (wd.h0 0) (Hle.refl _)
    · exact Hle.new _ (wd.t0 2) (Hle.new _ (wd.t0 0) (Hle.refl _))
  · intro x fr n m line a q hn hm hq hr h2 h3 h4
    repeat' first
      | simp (maxSteps := 3000000) (disch := omega) only [go_sem, ↓reduceIte, Nat.reduceEqDiff, Nat.reduceAdd, Nat.reduceLeDiff, Nat.le_refl, Int.reduceEq, Int.reduceLE, Int.reduceLT, Int.reduceNe, Int.reduceSub, Int.reduceAdd, Int.reduceMul, Int.reduceNeg, Int.reduceToNat, Nat.reduceMul, Nat.mul_one, ne_eq, not_true_eq_false, not_false_eq_true, w64, wu8, wu64, wi32, dec_t, dec_f, h2, h3, h4]
      | (refine And.intro (by omega) ?_)
      | (refine gsplit_intro (fun h => ?_) (fun h => ?_) <;> (try simp only [decide_eq_true_eq, decide_eq_false_iff_not] at h))
    rw [hr]
    refine ToLe.mk (OutLe.fst _ _ _ _) ?_ ?_ (by show s.n ≤ n; omega) (by show s.m ≤ m; omega)
    · exact Hle.new _ (wd.h0 0) (Hle.refl _)
    · exact Hle.new _ (wd.2 q (by omega)) (Hle.new _ (wd.t0 2) (Hle.new _ (wd.t0 0) (Hle.refl _)))

theorem scan_long {t : List UInt8} {s : Hs} (hl : 20000 < t.length) : CallP cx 9 [.str t] s (To (.ret (.tup [.lst 4 [] none, .int .i64 1, .int .i64 0])) s s.H s.T) := by
  refine call_to cx_ok chk_scan_Scan rfl fun wd => ?_
  unfold callW fp_scan_Scan
  repeat' first
    | simp (maxSteps := 3000000) (disch := omega) only [go_sem, ↓reduceIte, Nat.reduceEqDiff, Nat.reduceAdd, Nat.reduceLeDiff, Nat.le_refl, Int.reduceEq, Int.reduceLE, Int.reduceLT, Int.reduceNe, Int.reduceSub, Int.reduceAdd, Int.reduceMul, Int.reduceNeg, Int.reduceToNat, Nat.reduceMul, Nat.mul_one, ne_eq, not_true_eq_false, not_false_eq_true, w64, wu8, wu64, wi32, dec_t, dec_f]
    | (refine And.intro (by omega) ?_)
    | (refine gsplit_intro (fun h => ?_) (fun h => ?_) <;> (try simp only [decide_eq_true_eq, decide_eq_false_iff_not] at h))
  refine ToLe.mk (OutLe.fst _ _ _ _) (Hle.refl _) ?_ (Nat.le_refl _) (by show s.m ≤ s.m + 1 + 1; omega)
  exact Hle.new _ (wd.t0 1) (Hle.new _ (wd.t0 0) (Hle.refl _))
end Go.Proofs.YteapohlamngkpaaDoor
