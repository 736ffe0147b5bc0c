/-
  Layer 2: characters of what is left of a text.
-/
import Derived.Test.YteapohlamngkpaaDoorScC
namespace Go.Proofs.YteapohlamngkpaaDoor
open Go.Pv
attribute [local irreducible] Go.Pv.CallP Go.Pv.gsplit Go.Pv.ToLe Go.Pv.LoopV
set_option linter.unusedVariables false
set_option linter.unusedSimpArgs false
set_option maxRecDepth 100000
set_option maxHeartbeats 4000000

theorem chars_more : ∀ (f g pos : Nat) (l : List UInt8), l.length ≤ f → l.length ≤ g → chars f pos l = chars g pos l
  | 0, g, pos, l, h, _ => by
    have : l = [] := List.eq_nil_of_length_eq_zero (Nat.le_zero.1 h)
    subst this; simp [chars_nil]
  | f + 1, 0, pos, l, _, h => by
    have : l = [] := List.eq_nil_of_length_eq_zero (Nat.le_zero.1 h)
    subst this; simp [chars_nil]
  | f + 1, g + 1, pos, [], _, _ => rfl
  | f + 1, g + 1, pos, b :: l, h1, h2 => by
    simp only [chars]
    have hw := decL_pos b l
    rw [chars_more f g _ _ (by simp at h1 ⊢; omega) (by simp at h2 ⊢; omega)]

/-- The characters of l, which begins at pos, and one behind. -/
def C (pos : Nat) (l : List UInt8) : List (Int × Nat) := chars l.length pos l ++ [(-1, pos + l.length)]

theorem chT_eq (t : List UInt8) : chT t = C 0 t := by simp [chT, C, charsOf]

theorem C_nil (pos : Nat) : C pos [] = [(-1, pos)] := rfl

theorem C_cons (pos : Nat) (b : UInt8) (l : List UInt8) : C pos (b :: l) = (((decL (b :: l)).1 : Int), pos) :: C (pos + (decL (b :: l)).2) ((b :: l).drop (decL (b :: l)).2) := by
  have hw := decL_pos b l
  have hw2 := decL_le (b :: l) (by simp)
  simp only [C, chars, List.length_cons, List.cons_append, List.cons.injEq, true_and]
  rw [chars_more l.length ((b :: l).drop (decL (b :: l)).2).length _ _ (by simp; omega) (by simp)]
  congr 3
  rw [List.length_drop]
  simp only [List.length_cons] at hw2 ⊢
  omega

theorem C_shift : ∀ (n : Nat) (pos p : Nat) (l : List UInt8), l.length ≤ n → C (p + pos) l = (C pos l).map fun c => (c.1, p + c.2)
  | n, pos, p, [], _ => rfl
  | 0, pos, p, b :: l, h => by simp at h
  | n + 1, pos, p, b :: l, h => by
    have hw := decL_pos b l
    rw [C_cons, C_cons, List.map_cons, Nat.add_assoc, C_shift n _ p _ (by simp at h ⊢; omega)]

theorem C_at (pos : Nat) (l : List UInt8) : C pos l = (C 0 l).map fun c => (c.1, pos + c.2) := C_shift l.length 0 pos l (Nat.le_refl _)

theorem C_length (pos : Nat) (l : List UInt8) : (C pos l).length = (C 0 l).length := by rw [C_at]; simp
theorem C_length_le (l : List UInt8) : (C 0 l).length ≤ l.length + 1 := by
  have := charsOf_length l
  rw [← chT_eq]; simp [chT]; omega
theorem C_length_pos (pos : Nat) (l : List UInt8) : 0 < (C pos l).length := by simp [C]

/-- The character so many behind the first one; -1 at the end and behind. -/
def pk (l : List UInt8) (a : Nat) : Int := match (C 0 l)[a]? with | some c => c.1 | none => -1
/-- Where it begins. -/
def atL (l : List UInt8) (a : Nat) : Nat := match (C 0 l)[a]? with | some c => c.2 | none => 0

theorem pk_nil (a : Nat) : pk [] a = -1 := by
  cases a <;> rfl
theorem pk_zero (b : UInt8) (l : List UInt8) : pk (b :: l) 0 = ((decL (b :: l)).1 : Int) := by
  simp [pk, C_cons]
theorem pk_succ (b : UInt8) (l : List UInt8) (a : Nat) : pk (b :: l) (a + 1) = pk ((b :: l).drop (decL (b :: l)).2) a := by
  unfold pk
  rw [C_cons, List.getElem?_cons_succ, C_at]
  simp only [List.getElem?_map]
  cases (C 0 ((b :: l).drop (decL (b :: l)).2))[a]? <;> rfl
theorem atL_zero (l : List UInt8) : atL l 0 = 0 := by
  cases l with
  | nil => rfl
  | cons b l => simp [atL, C_cons]
theorem atL_succ (b : UInt8) (l : List UInt8) (a : Nat) (h : a + 1 < (C 0 (b :: l)).length) : atL (b :: l) (a + 1) = (decL (b :: l)).2 + atL ((b :: l).drop (decL (b :: l)).2) a := by
  have hl : a < (C 0 ((b :: l).drop (decL (b :: l)).2)).length := by
    rw [C_cons, List.length_cons, C_length] at h; omega
  unfold atL
  rw [C_cons, List.getElem?_cons_succ, C_at, List.getElem?_map, List.getElem?_eq_getElem hl]
  simp

theorem C_drop : ∀ (k : Nat) (pos : Nat) (l : List UInt8), k < (C 0 l).length → (C pos l).drop k = C (pos + atL l k) (l.drop (atL l k)) ∧ atL l k ≤ l.length
  | 0, pos, l, h => by simp [atL_zero]
  | k + 1, pos, [], h => by simp [C_nil] at h
  | k + 1, pos, b :: l, h => by
    have hw2 := decL_le (b :: l) (by simp)
    have hl : k < (C 0 ((b :: l).drop (decL (b :: l)).2)).length := by
      rw [C_cons, List.length_cons, C_length] at h; omega
    obtain ⟨h1, h2⟩ := C_drop k (pos + (decL (b :: l)).2) ((b :: l).drop (decL (b :: l)).2) hl
    rw [atL_succ b l k h]
    constructor
    · rw [C_cons, List.drop_succ_cons, h1, List.drop_drop, Nat.add_assoc]
    · rw [List.length_drop] at h2; omega

theorem atL_mono (l : List UInt8) {a b : Nat} (h : a ≤ b) (hb : b < (C 0 l).length) : atL l a ≤ atL l b := by
  have ha : a < (C 0 l).length := by omega
  obtain ⟨h1, h2⟩ := C_drop a 0 l ha
  obtain ⟨c, hc⟩ : ∃ c, (C 0 l)[b]? = some c := ⟨(C 0 l)[b], by simp [hb]⟩
  have e : (C (0 + atL l a) (l.drop (atL l a)))[b - a]? = some c := by
    rw [← h1, List.getElem?_drop, ← hc]; congr 1; omega
  have hcb : atL l b = c.2 := by unfold atL; rw [hc]
  rw [C_at, List.getElem?_map] at e
  cases hd : (C 0 (l.drop (atL l a)))[b - a]? with
  | none => rw [hd] at e; simp at e
  | some d =>
    rw [hd] at e
    simp only [Option.map_some, Option.some.injEq] at e
    rw [hcb, ← e]
    simp

/-- A scanner that stands at a byte of its text. -/
structure Sc.At (x : Sc) (pos : Nat) : Prop where
  cs : x.cs = chT x.text
  here : x.cs.drop x.next = C pos (x.text.drop pos)
  len : x.text.length ≤ 20000
  pos_le : pos ≤ x.text.length
  out : x.out.length ≤ 30000

theorem Sc.At.next_lt {x : Sc} {pos : Nat} (h : x.At pos) : x.next < x.cs.length := by
  have := congrArg List.length h.here
  have h2 := C_length_pos pos (x.text.drop pos)
  rw [List.length_drop] at this
  omega
theorem Sc.At.cs_le {x : Sc} {pos : Nat} (h : x.At pos) : x.cs.length ≤ 20001 := by
  have := C_length_le x.text
  rw [h.cs, chT_eq]
  have := h.len
  omega
theorem Sc.At.left {x : Sc} {pos : Nat} (h : x.At pos) : x.cs.length = x.next + (C 0 (x.text.drop pos)).length := by
  have := congrArg List.length h.here
  have := h.next_lt
  rw [List.length_drop, C_length] at *
  omega
theorem Sc.At.peek {x : Sc} {pos : Nat} (h : x.At pos) (a : Nat) : x.peek a = pk (x.text.drop pos) a := by
  rw [Sc.peek_drop, h.here, C_at, List.getElem?_map]
  unfold pk
  cases (C 0 (x.text.drop pos))[a]? <;> rfl
theorem Sc.At.at_ {x : Sc} {pos : Nat} (h : x.At pos) {a : Nat} (ha : a < (C 0 (x.text.drop pos)).length) : x.at_ a = pos + atL (x.text.drop pos) a := by
  unfold Sc.at_ atL
  have : x.cs[x.next + a]? = (x.cs.drop x.next)[a]? := by rw [List.getElem?_drop]
  rw [this, h.here, C_at, List.getElem?_map]
  obtain ⟨c, hc⟩ : ∃ c, (C 0 (x.text.drop pos))[a]? = some c := ⟨(C 0 (x.text.drop pos))[a], by simp [ha]⟩
  rw [hc]; rfl
theorem Sc.At.look {x : Sc} {pos : Nat} (h : x.At pos) {a : Nat} (ha : a < (C 0 (x.text.drop pos)).length) : x.look a = (x.text.drop pos).take (atL (x.text.drop pos) a) := by
  unfold Sc.look
  rw [h.at_ ha, h.at_ (C_length_pos _ _), atL_zero, Nat.add_zero, Nat.add_sub_cancel_left]
theorem Sc.At.span {x : Sc} {pos : Nat} (h : x.At pos) (kb : Int → Bool) : x.span kb = ((C 0 (x.text.drop pos)).takeWhile fun c => kb c.1).length := by
  unfold Sc.span
  rw [h.here, C_at, List.takeWhile_map, List.length_map]
  rfl
/-- So many characters further. -/
theorem Sc.At.go {x : Sc} {pos : Nat} (h : x.At pos) {k : Nat} (hk : k < (C 0 (x.text.drop pos)).length) {line : Int} {out : List Tok} (ho : out.length ≤ 30000) : Sc.At ⟨x.text, x.cs, x.next + k, line, out⟩ (pos + atL (x.text.drop pos) k) := by
  obtain ⟨h1, h2⟩ := C_drop k pos _ hk
  refine ⟨h.cs, ?_, h.len, ?_, ho⟩
  · show x.cs.drop (x.next + k) = _
    rw [← List.drop_drop, h.here, h1, List.drop_drop]
  · rw [List.length_drop] at h2
    have := h.pos_le
    show pos + atL (x.text.drop pos) k ≤ x.text.length
    omega
end Go.Proofs.YteapohlamngkpaaDoor
