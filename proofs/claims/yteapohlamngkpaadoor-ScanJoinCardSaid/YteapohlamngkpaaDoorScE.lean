/-
  Layer 2: a token: numbers, characters, signs.
-/
import Derived.Test.YteapohlamngkpaaDoorScD
import Derived.Lib.TrimU
namespace Go.Proofs.YteapohlamngkpaaDoor
open Go.Pv
attribute [local irreducible] Go.Pv.CallP Go.Pv.gsplit Go.Pv.ToLe Go.Pv.LoopV
set_option linter.unusedVariables false
set_option linter.unusedSimpArgs false
set_option maxRecDepth 100000
set_option maxHeartbeats 4000000

theorem wd_run {kb : Int → Bool} (hkb : ∀ r : Int, kb r = true → 0 ≤ r ∧ r < 128) (l : List UInt8) : wd_ l (spanL kb l) = l.takeWhile fun b => kb b.toNat := by
  unfold wd_
  rw [(run_bytes hkb l).2]
  have h := List.takeWhile_append_dropWhile (p := fun b : UInt8 => kb b.toNat) (l := l)
  have h2 : (l.takeWhile (fun b => kb b.toNat) ++ l.dropWhile (fun b => kb b.toNat)).take (l.takeWhile (fun b => kb b.toNat)).length = l.takeWhile (fun b => kb b.toNat) := List.take_left
  rwa [h] at h2

theorem wd_digs (l : List UInt8) : ∀ b ∈ wd_ l (spanL digitB l), isDig b = true := by
  rw [wd_run (fun r => digitB_low)]
  intro b hb
  have := List.all_takeWhile (p := fun b : UInt8 => digitB b.toNat) (l := l)
  rw [List.all_eq_true] at this
  have := this b hb
  simp only [digitB, decide_eq_true_eq] at this
  simp only [isDig, decide_eq_true_eq]; omega

theorem byteAt_nil : byteAt [] 0 = 0 := rfl

theorem snum_ok {x : Sc} {pos p id : Nat} {ty : TypeId} {s : Hs} (hA : x.At pos) (hs : s.H id = some (.cells (x.cells p) ty false)) (hp : s.T p = some x.out.length) {l : List UInt8} (hl : l = x.text.drop pos) {k : Nat} (hk : k = spanL digitB l)
    (hw0 : wd_ l k ≠ []) (hv : decVal (wd_ l k) ≤ 9223372036854775807) {K : Out → Hs → Prop}
    (h1 : ∀ n m, ¬ (1 < k ∧ byteAt (wd_ l k) 0 = 48) → s.n ≤ n → s.m ≤ m → K (.ret (.bool true)) ⟨hset s.H id (some (.cells ((x.add 3 (decVal (wd_ l k)) k).cells p) ty false)), hset s.T p (some (x.add 3 (decVal (wd_ l k)) k).out.length), n, m⟩)
    (h2 : ∀ n m, (1 < k ∧ byteAt (wd_ l k) 0 = 48) → s.n ≤ n → s.m ≤ m → K (.ret (.bool false)) ⟨s.H, s.T, n, m⟩) :
    CallP cx 27 [.ptr id 0] s K := by
  have hlt := spanL_lt (kb := digitB) rfl l
  have hdig := wd_digs l
  subst hl
  have hleft := hA.left
  have hcs := hA.cs_le
  have hsp : x.span digitB = spanL digitB (x.text.drop pos) := hA.span digitB
  rw [← hk] at hsp hlt hdig
  have hlk : x.look k = wd_ (x.text.drop pos) k := hA.look hlt
  generalize hw : wd_ (x.text.drop pos) k = w at hlk h1 h2 hdig hw0 hv
  have h0 := C_length_pos 0 (x.text.drop pos)
  obtain ⟨_, hl⟩ := C_drop _ 0 _ hlt
  rw [List.length_drop] at hl
  have hpl := hA.pos_le
  have hlen := hA.len
  have hwl : w.length ≤ 100000 := by rw [← hw, wd_, List.length_take, List.length_drop]; omega
  have hwp : 0 < w.length := List.length_pos_iff.2 hw0
  have ha1 : x.at_ 0 ≤ x.at_ k := by rw [hA.at_ h0, hA.at_ hlt, atL_zero]; omega
  have ha2 : x.at_ k ≤ x.text.length := by rw [hA.at_ hlt]; omega
  have hwr : IntKind.i64.wrap ((decVal w : Nat) : Int) = (decVal w : Int) := w64 (by omega) (by omega)
  refine call_ok cx_ok chk_scan_scanner_number rfl ?_
  unfold callW fp_scan_scanner_number
  repeat' first
    | simp (maxSteps := 3000000) (disch := omega) only [go_sem, ↓reduceIte, Nat.reduceEqDiff, Nat.reduceAdd, Nat.reduceLeDiff, Nat.le_refl, Int.reduceEq, Int.reduceLE, Int.reduceLT, Int.reduceNe, Int.reduceSub, Int.reduceAdd, Int.reduceMul, Int.reduceNeg, Int.reduceToNat, Nat.reduceMul, Nat.mul_one, ne_eq, not_true_eq_false, not_false_eq_true, w64, wu8, wu64, wi32, dec_t, dec_f, hsp, hlk, hwr]
    | (refine CallP.to (span_ok (x := x) (p := p) (ty := ty) (kb := digitB) hs (by omega) (by omega) rfl (fun r => (digit_ok r _))) ?_)
    | (refine CallP.to (look_ok (x := x) (p := p) (ty := ty) hs (by omega) (by omega) (by omega) ha1 ha2) ?_)
    | (refine CallP.into (parseInt_ok hw0 hdig hv (by omega)) (fun n' m' hn' hm' => ?_))
    | (refine CallP.into (hA.add_ok (p := p) (ty := ty) (by exact hs) (by exact hp) hlt _ _) (fun n2 m2 hn2 hm2 => ?_))
    | (refine And.intro (by omega) ?_)
    | (refine gsplit_intro (fun h => ?_) (fun h => ?_) <;> (try simp only [decide_eq_true_eq, decide_eq_false_iff_not] at h))
  · exact h2 _ _ ⟨by omega, h⟩ hn' hm'
  · rename_i h3
    exact h1 _ _ (fun h4 => h h4.2) (Nat.le_trans hn' hn2) (Nat.le_trans hm' hm2)
  · exact h1 _ _ (fun h4 => h (by omega)) (Nat.le_trans hn' hn2) (Nat.le_trans hm' hm2)

theorem pk_lt {l : List UInt8} {a : Nat} (h : pk l a ≠ -1) : a + 1 < (C 0 l).length := by
  rcases Nat.lt_or_ge (a + 1) (C 0 l).length with h1 | h1
  · exact h1
  · exfalso
    apply h
    unfold pk
    rcases Nat.lt_or_ge a (C 0 l).length with h2 | h2
    · have : a = (chars l.length 0 l).length := by simp [C] at h1 h2; omega
      simp [C, this]
    · rw [List.getElem?_eq_none h2]

theorem pk_ge (l : List UInt8) (a : Nat) : -1 ≤ pk l a := by
  have key : ∀ (f p : Nat) (l : List UInt8), ∀ c ∈ chars f p l, 0 ≤ c.1 := by
    intro f
    induction f with
    | zero => intro p l c h; simp [chars] at h
    | succ f ih =>
      intro p l c h
      cases l with
      | nil => simp [chars] at h
      | cons b l =>
        simp only [chars, List.mem_cons] at h
        rcases h with rfl | h
        · exact Int.natCast_nonneg _
        · exact ih _ _ c h
  unfold pk
  split
  · rename_i c hc
    have := List.mem_of_getElem? hc
    simp only [C, List.mem_append, List.mem_singleton] at this
    rcases this with h | rfl
    · have := key _ _ _ _ h; omega
    · exact Int.le_refl _
  · exact Int.le_refl _

theorem decL_max (l : List UInt8) : (decL l).1 ≤ 1114111 := Lib.decodeL_rune l

theorem pk_le (l : List UInt8) (a : Nat) : pk l a ≤ 1114111 := by
  have key : ∀ (f p : Nat) (l : List UInt8), ∀ c ∈ chars f p l, c.1 ≤ 1114111 := by
    intro f
    induction f with
    | zero => intro p l c h; simp [chars] at h
    | succ f ih =>
      intro p l c h
      cases l with
      | nil => simp [chars] at h
      | cons b l =>
        simp only [chars, List.mem_cons] at h
        rcases h with rfl | h
        · have := decL_max (b :: l); simp only; omega
        · exact ih _ _ c h
  unfold pk
  split
  · rename_i c hc
    have := List.mem_of_getElem? hc
    simp only [C, List.mem_append, List.mem_singleton] at this
    rcases this with h | rfl
    · exact key _ _ _ _ h
    · simp only; decide
  · decide

theorem squot_ok {x : Sc} {pos p id : Nat} {ty : TypeId} {s : Hs} (hA : x.At pos) (hs : s.H id = some (.cells (x.cells p) ty false)) (hp : s.T p = some x.out.length) {l : List UInt8} (hl : l = x.text.drop pos) {K : Out → Hs → Prop}
    (h1 : ∀ n m, ¬ (pk l 1 < 32 ∨ pk l 1 = 39 ∨ pk l 1 = 92 ∨ pk l 1 = 65533 ∨ pk l 2 ≠ 39) → s.n ≤ n → s.m ≤ m → K (.ret (.bool true)) ⟨hset s.H id (some (.cells ((x.add 3 (pk l 1) 3).cells p) ty false)), hset s.T p (some (x.add 3 (pk l 1) 3).out.length), n, m⟩)
    (h2 : ∀ n m, (pk l 1 < 32 ∨ pk l 1 = 39 ∨ pk l 1 = 92 ∨ pk l 1 = 65533 ∨ pk l 2 ≠ 39) → s.n ≤ n → s.m ≤ m → K (.ret (.bool false)) ⟨s.H, s.T, n, m⟩) :
    CallP cx 28 [.ptr id 0] s K := by
  have hlt := hA.next_lt
  have hcs := hA.cs_le
  have p1 := hA.peek 1
  have p2 := hA.peek 2
  rw [← hl] at p1 p2
  refine call_ok cx_ok chk_scan_scanner_quoted rfl ?_
  unfold callW fp_scan_scanner_quoted
  have hw : IntKind.i64.wrap (pk l 1) = pk l 1 := w64 (by have := pk_ge l 1; omega) (by have := pk_le l 1; omega)
  have hk : pk l 2 = 39 → 3 < (C 0 (x.text.drop pos)).length := fun h => by rw [← hl]; exact pk_lt (a := 2) (by omega)
  repeat' first
    | simp (maxSteps := 3000000) only [go_sem, ↓reduceIte, Nat.reduceEqDiff, Nat.reduceAdd, Nat.reduceLeDiff, Nat.le_refl, Int.reduceEq, Int.reduceLE, Int.reduceLT, Int.reduceNe, Int.reduceSub, Int.reduceAdd, Int.reduceMul, Int.reduceNeg, Int.reduceToNat, Nat.reduceMul, Nat.mul_one, ne_eq, not_true_eq_false, not_false_eq_true, p1, p2, hw]
    | (refine CallP.to (peek_ok (x := x) (p := p) (ty := ty) (a := 1) hs (by omega)) ?_)
    | (refine CallP.to (peek_ok (x := x) (p := p) (ty := ty) (a := 2) hs (by omega)) ?_)
    | (refine CallP.into (hA.add_ok (p := p) (ty := ty) (k := 3) (by exact hs) (by exact hp) (hk (by simpa using h)) _ _) (fun n2 m2 hn2 hm2 => ?_))
    | (refine And.intro (by omega) ?_)
    | (refine gsplit_intro (fun h => ?_) (fun h => ?_) <;> (try simp only [decide_eq_true_eq, decide_eq_false_iff_not] at h))
  · exact h2 _ _ (by omega) (Nat.le_refl _) (Nat.le_refl _)
  · exact h2 _ _ (by omega) (Nat.le_refl _) (Nat.le_refl _)
  · exact h2 _ _ (by omega) (Nat.le_refl _) (Nat.le_refl _)
  · exact h2 _ _ (by omega) (Nat.le_refl _) (Nat.le_refl _)
  · exact h2 _ _ (by omega) (Nat.le_refl _) (Nat.le_refl _)
  · exact h1 _ _ (by omega) hn2 hm2

def two (a b : Int) : Bool := decide ((a, b) ∈ [(61, 61), (33, 61), (60, 61), (62, 61), (60, 60), (62, 62)])
def one (a : Int) : Bool := decide (a ∈ [40, 41, 123, 125, 91, 93, 44, 59, 61, 124, 94, 38, 43, 45, 42, 47, 37, 33, 126, 60, 62])

theorem sign_ok {x : Sc} {pos p id : Nat} {ty : TypeId} {s : Hs} (hA : x.At pos) (hs : s.H id = some (.cells (x.cells p) ty false)) (hp : s.T p = some x.out.length) {l : List UInt8} (hl : l = x.text.drop pos) {K : Out → Hs → Prop}
    (h2 : ∀ n m, two (pk l 0) (pk l 1) = true → s.n ≤ n → s.m ≤ m → K (.ret (.bool true)) ⟨hset s.H id (some (.cells ((x.add 4 0 2).cells p) ty false)), hset s.T p (some (x.add 4 0 2).out.length), n, m⟩)
    (h1 : ∀ n m, two (pk l 0) (pk l 1) = false → one (pk l 0) = true → s.n ≤ n → s.m ≤ m → K (.ret (.bool true)) ⟨hset s.H id (some (.cells ((x.add 4 0 1).cells p) ty false)), hset s.T p (some (x.add 4 0 1).out.length), n, m⟩)
    (h0 : two (pk l 0) (pk l 1) = false → one (pk l 0) = false → K (.ret (.bool false)) s) :
    CallP cx 29 [.ptr id 0] s K := by
  have hlt := hA.next_lt
  have hcs := hA.cs_le
  have p0 := hA.peek 0
  have p1 := hA.peek 1
  rw [← hl] at p0 p1
  have hk1 : pk l 0 ≠ -1 → 1 < (C 0 (x.text.drop pos)).length := fun h => by rw [← hl]; exact pk_lt (a := 0) h
  have hk2 : pk l 1 ≠ -1 → 2 < (C 0 (x.text.drop pos)).length := fun h => by rw [← hl]; exact pk_lt (a := 1) h
  refine call_ok cx_ok chk_scan_scanner_sign rfl ?_
  unfold callW fp_scan_scanner_sign
  repeat' first
    | simp (maxSteps := 3000000) (disch := omega) only [go_sem, ↓reduceIte, Nat.reduceEqDiff, Nat.reduceAdd, Nat.reduceLeDiff, Nat.le_refl, Int.reduceEq, Int.reduceLE, Int.reduceLT, Int.reduceNe, Int.reduceSub, Int.reduceAdd, Int.reduceMul, Int.reduceNeg, Int.reduceToNat, Nat.reduceMul, Nat.mul_one, ne_eq, not_true_eq_false, not_false_eq_true, w64, wu8, wu64, wi32, dec_t, dec_f, p0, p1]
    | (refine CallP.to (peek_ok (x := x) (p := p) (ty := ty) (a := 0) hs (by omega)) ?_)
    | (refine CallP.to (peek_ok (x := x) (p := p) (ty := ty) (a := 1) hs (by omega)) ?_)
    | (refine CallP.into (hA.add_ok (p := p) (ty := ty) (k := 2) (by exact hs) (by exact hp) (hk2 (by omega)) _ _) (fun n2 m2 hn2 hm2 => ?_))
    | (refine CallP.into (hA.add_ok (p := p) (ty := ty) (k := 1) (by exact hs) (by exact hp) (hk1 (by omega)) _ _) (fun n2 m2 hn2 hm2 => ?_))
    | (refine And.intro (by omega) ?_)
    | (refine gsplit_intro (fun h => ?_) (fun h => ?_) <;> (try simp only [decide_eq_true_eq, decide_eq_false_iff_not] at h))
  all_goals first
    | exact h2 _ _ (by simp [two]; omega) hn2 hm2
    | exact h1 _ _ (by simp [two]; omega) (by simp [one]; omega) hn2 hm2
    | exact h0 (by simp [two]; omega) (by simp [one]; omega)
end Go.Proofs.YteapohlamngkpaaDoor
