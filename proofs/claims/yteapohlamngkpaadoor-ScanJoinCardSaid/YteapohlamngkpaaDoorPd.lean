/-
  Values of a program as plain data: what an operation that only looks makes of them. The condition stands beside the result.
-/
import Derived.Test.YteapohlamngkpaaDoorPd0
namespace Go.Pv
open Go.RowKit
set_option linter.unusedVariables false

/-! ### Values of the text, compared -/
def kN : IntKind → Nat
  | .i8 => 0 | .i16 => 1 | .i32 => 2 | .i64 => 3 | .u8 => 4 | .u16 => 5 | .u32 => 6 | .u64 => 7

theorem kN_inj {a b : IntKind} (h : Nat.beq (kN a) (kN b) = true) : a = b := by
  have := Nat.eq_of_beq_eq_true h
  cases a <;> cases b <;> first | rfl | (simp [kN] at this)

def eqI : Int → Int → Bool
  | .ofNat a, .ofNat b => Nat.beq a b
  | .negSucc a, .negSucc b => Nat.beq a b
  | _, _ => false

theorem eqI_eq {x y : Int} (h : eqI x y = true) : x = y := by
  cases x <;> cases y <;> simp [eqI] at h <;> simp [h]

def beqB : List UInt8 → List UInt8 → Bool
  | [], [] => true
  | a :: x, b :: y => Nat.beq a.toNat b.toNat && beqB x y
  | _, _ => false

theorem beqB_eq : ∀ {x y : List UInt8}, beqB x y = true → x = y
  | [], [], _ => rfl
  | [], b :: y, h => by cases h
  | a :: x, [], h => by cases h
  | a :: x, b :: y, h => by
    simp only [beqB, Bool.and_eq_true] at h
    rw [UInt8.toNat_inj.1 (Nat.eq_of_beq_eq_true h.1), beqB_eq h.2]

mutual
def beqPV : PV → PV → Bool
  | .bool a, .bool b => match a, b with | true, true => true | false, false => true | _, _ => false
  | .int k n, .int k' n' => Nat.beq (kN k) (kN k') && eqI n n'
  | .str a, .str b => beqB a b
  | .nilp, .nilp => true
  | .nilsl, .nilsl => true
  | .nilm, .nilm => true
  | .nilf, .nilf => true
  | .nili, .nili => true
  | .agg a, .agg b => beqPVs a b
  | .tup a, .tup b => beqPVs a b
  | _, _ => false
def beqPVs : List PV → List PV → Bool
  | [], [] => true
  | a :: x, b :: y => beqPV a b && beqPVs x y
  | _, _ => false
end

mutual
theorem beqPV_eq : ∀ {a b : PV}, beqPV a b = true → a = b
  | .bool a, b, h => by cases b <;> simp [beqPV] at h; rename_i b; cases a <;> cases b <;> simp at h <;> rfl
  | .int k n, b, h => by
    cases b <;> simp only [beqPV, Bool.and_eq_true] at h <;> (try (cases h; done))
    rw [kN_inj h.1, eqI_eq h.2]
  | .str a, b, h => by
    cases b <;> simp only [beqPV] at h <;> (try (cases h; done))
    rw [beqB_eq h]
  | .nilp, b, h => by cases b <;> simp [beqPV] at h; rfl
  | .nilsl, b, h => by cases b <;> simp [beqPV] at h; rfl
  | .nilm, b, h => by cases b <;> simp [beqPV] at h; rfl
  | .nilf, b, h => by cases b <;> simp [beqPV] at h; rfl
  | .nili, b, h => by cases b <;> simp [beqPV] at h; rfl
  | .agg a, b, h => by
    cases b <;> simp only [beqPV] at h <;> (try (cases h; done))
    rw [beqPVs_eq h]
  | .tup a, b, h => by
    cases b <;> simp only [beqPV] at h <;> (try (cases h; done))
    rw [beqPVs_eq h]
  | .ptr _ _, b, h => by cases b <;> simp [beqPV] at h
  | .rp _, b, h => by cases b <;> simp [beqPV] at h
  | .sl _ _ _, b, h => by cases b <;> simp [beqPV] at h
  | .lst _ _ _, b, h => by cases b <;> simp [beqPV] at h
  | .map _, b, h => by cases b <;> simp [beqPV] at h
  | .func _ _ _, b, h => by cases b <;> simp [beqPV] at h
  | .iface _ _, b, h => by cases b <;> simp [beqPV] at h
  | .yld _, b, h => by cases b <;> simp [beqPV] at h
theorem beqPVs_eq : ∀ {a b : List PV}, beqPVs a b = true → a = b
  | [], b, h => by cases b <;> simp [beqPVs] at h; rfl
  | x :: a, b, h => by
    cases b with
    | nil => simp [beqPVs] at h
    | cons y b =>
      simp only [beqPVs, Bool.and_eq_true] at h
      rw [beqPV_eq h.1, beqPVs_eq h.2]
end


mutual
/-- As it stands there, or said of it with less: no list is a list of nothing. -/
def wkPV : PV → PV → Bool
  | .nilsl, .lst _ [] none => true
  | .agg a, .agg b => wkPVs a b
  | .tup a, .tup b => wkPVs a b
  | .bool a, .bool b => match a, b with | true, true => true | false, false => true | _, _ => false
  | .int k n, .int k' n' => Nat.beq (kN k) (kN k') && eqI n n'
  | .str a, .str b => beqB a b
  | .nilp, .nilp => true
  | .nilsl, .nilsl => true
  | .nilm, .nilm => true
  | .nilf, .nilf => true
  | .nili, .nili => true
  | _, _ => false
def wkPVs : List PV → List PV → Bool
  | [], [] => true
  | a :: x, b :: y => wkPV a b && wkPVs x y
  | _, _ => false
end

theorem rep_nil_lst {E : Env} {sz : Nat} {x : Value} (h : Rep E .nilsl x) : Rep E (.lst sz [] none) x := by
  simp only [Rep] at h ⊢
  exact ⟨⟨none, 0, h, by simp, Or.inl trivial, (fun q hq => (by cases hq))⟩, fun e he => by simp at he⟩

mutual
theorem wkPV_ok {E : Env} : ∀ {a b : PV} {x : Value}, wkPV a b = true → Rep E a x → Rep E b x
  | .nilsl, b, x, h, hr => by
    cases b with
    | lst sz es p =>
      cases es with
      | nil => cases p with
        | none => exact rep_nil_lst hr
        | some q => simp [wkPV] at h
      | cons e es => simp [wkPV] at h
    | nilsl => exact hr
    | _ => simp [wkPV] at h
  | .agg a, b, x, h, hr => by
    cases b with
    | agg b =>
      simp only [wkPV] at h
      simp only [Rep] at hr ⊢
      obtain ⟨l, e, hl⟩ := hr
      exact ⟨l, e, wkPVs_ok h hl⟩
    | _ => simp [wkPV] at h
  | .tup a, b, x, h, hr => by
    cases b with
    | tup b =>
      simp only [wkPV] at h
      simp only [Rep] at hr ⊢
      obtain ⟨l, e, hl⟩ := hr
      exact ⟨l, e, wkPVs_ok h hl⟩
    | _ => simp [wkPV] at h
  | .bool a, b, x, h, hr => by
    cases b <;> simp only [wkPV] at h <;> (try (cases h; done))
    rename_i b; cases a <;> cases b <;> simp at h <;> exact hr
  | .int k n, b, x, h, hr => by
    cases b <;> simp only [wkPV, Bool.and_eq_true] at h <;> (try (cases h; done))
    rw [← kN_inj h.1, ← eqI_eq h.2]; exact hr
  | .str a, b, x, h, hr => by
    cases b <;> simp only [wkPV] at h <;> (try (cases h; done))
    rw [← beqB_eq h]; exact hr
  | .nilp, b, x, h, hr => by cases b <;> simp [wkPV] at h; exact hr
  | .nilm, b, x, h, hr => by cases b <;> simp [wkPV] at h; exact hr
  | .nilf, b, x, h, hr => by cases b <;> simp [wkPV] at h; exact hr
  | .nili, b, x, h, hr => by cases b <;> simp [wkPV] at h; exact hr
  | .ptr _ _, b, x, h, hr => by cases b <;> simp [wkPV] at h
  | .rp _, b, x, h, hr => by cases b <;> simp [wkPV] at h
  | .sl _ _ _, b, x, h, hr => by cases b <;> simp [wkPV] at h
  | .lst _ _ _, b, x, h, hr => by cases b <;> simp [wkPV] at h
  | .map _, b, x, h, hr => by cases b <;> simp [wkPV] at h
  | .func _ _ _, b, x, h, hr => by cases b <;> simp [wkPV] at h
  | .iface _ _, b, x, h, hr => by cases b <;> simp [wkPV] at h
  | .yld _, b, x, h, hr => by cases b <;> simp [wkPV] at h
theorem wkPVs_ok {E : Env} : ∀ {a b : List PV} {x : List Value}, wkPVs a b = true → RepL E a x → RepL E b x
  | [], b, x, h, hr => by cases b <;> simp [wkPVs] at h; exact hr
  | u :: a, b, x, h, hr => by
    cases b with
    | nil => simp [wkPVs] at h
    | cons y b =>
      simp only [wkPVs, Bool.and_eq_true] at h
      obtain ⟨z, r, rfl, h1, h2⟩ := hr.cons
      exact RepL.mk (wkPV_ok h.1 h1) (wkPVs_ok h.2 h2)
end

/-- An operand: a value of the text, a package-level variable's address, a variable, what an operation of the region made. -/
inductive X where
  | c (v : PV)
  | nl (sz r : Nat)                   -- no list, that may be appended to: by the region's permit r
  | g (g : Nat)
  | v (s : Nat)
  | t (i : Nat)
  | vf (s : Nat)                      -- who may append is forgotten
  | tf (i : Nat)

inductive Q where
  | mov (x : X)
  | pick (c a b : X)
  | build (zs : List X) (parts : List (Nat × Option Nat × X))      -- where, of how many cells
  | ld (n : Option Nat) (x : X)
  | nilc (x : X)
  | bin (op : BinOp) (x y : X)
  | eqn (neg : Bool) (k : Nat) (x y : X)
  | eqa (neg : Bool) (ks : List KD) (x y : X)
  | un (op : UnOp) (x : X)
  | cint (k : IntKind) (x : X)
  | cid (x : X)
  | cbytes (x : X)
  | crune (x : X)
  | mkif (t : TypeId) (x : X)
  | mkfn (f : Nat) (a b : List X)
  | slc (sz : Nat) (x : X) (lo hi : Option X)
  | slcs (x : X) (lo hi : Option X)
  | fa (off : Nat) (x : X)
  | fld (off : Nat) (n : Option Nat) (x : X)
  | ia (sz : Nat) (arr : Option Nat) (x i : X)
  | idx (sz : Nat) (n : Option Nat) (len : Nat) (x i : X)
  | idxs (x i : X)
  | lk (kd : KD) (z : PV) (ok : Bool) (x i : X)
  | ta (t : TypeId) (z : PV) (ok : Bool) (x : X)
  | ext (i : Nat) (x : X)
  | len (k : Nat) (x : X)
  | mm (mx : Bool) (x y : X)
  | no                                                                     -- nothing is said of it: it is not reached

/-- By whom a list may be appended to is forgotten. -/
def fgt : PV → PV
  | .lst sz es _ => .lst sz es none
  | v => v

theorem fgt_ok {E : Env} {v : PV} {x : Value} (h : Rep E v x) : Rep E (fgt v) x := by
  cases v <;> try exact h
  simp only [fgt, Rep] at h ⊢
  obtain ⟨⟨base, cap, h1, h2, h3, _⟩, h5⟩ := h
  exact ⟨⟨base, cap, h1, h2, h3, fun q hq => (by cases hq)⟩, h5⟩

/-- Which operation's. -/
def X.dep : X → Option Nat
  | .t i => some i
  | .tf i => some i
  | _ => none

abbrev Ev := Option (Prop × PV)

def on1 (o : Option PV) (f : PV → Ev) : Ev := match o with
  | some v => f v
  | none => none
theorem on1_some (v : PV) (f : PV → Ev) : on1 (some v) f = f v := rfl

def onL : List (Option PV) → (List PV → Ev) → Ev
  | [], f => f []
  | some v :: r, f => onL r fun l => f (v :: l)
  | none :: _, _ => none

def onO (o : Option (Option PV)) (f : Option PV → Ev) : Ev := match o with
  | none => f none
  | some (some v) => f (some v)
  | some none => none

/-! ### Numbers, strings, comparisons -/
def evalInt (op : BinOp) (k k' : IntKind) (a b : Int) : Ev := match op with
  | .add => some (k = k', .int k (k.wrap (a + b)))
  | .sub => some (k = k', .int k (k.wrap (a - b)))
  | .mul => some (k = k', .int k (k.wrap (a * b)))
  | .quo => some (k = k' ∧ b ≠ 0, .int k (k.wrap (a.tdiv b)))
  | .rem => some (k = k' ∧ b ≠ 0, .int k (a.tmod b))
  | .and => some (k = k', .int k (iop .and k a b))
  | .or => some (k = k', .int k (iop .or k a b))
  | .xor => some (k = k', .int k (iop .xor k a b))
  | .andNot => some (k = k', .int k (iop .andNot k a b))
  | .shl => some (0 ≤ b, .int k (iop .shl k a b))
  | .shr => some (0 ≤ b, .int k (iop .shr k a b))
  | .eql => some (k = k', .bool (decide (a = b)))
  | .neq => some (k = k', .bool (decide (a ≠ b)))
  | .lss => some (k = k', .bool (decide (a < b)))
  | .leq => some (k = k', .bool (decide (a ≤ b)))
  | .gtr => some (k = k', .bool (decide (b < a)))
  | .geq => some (k = k', .bool (decide (b ≤ a)))

def evalStr (op : BinOp) (a b : List UInt8) : Ev := match op with
  | .add => some (a.length + b.length ≤ 9223372036854775807, .str (a ++ b))
  | .eql => some (True, .bool (decide (a = b)))
  | .neq => some (True, .bool (decide (a ≠ b)))
  | .lss => some (True, .bool (Op.bytesLess a b))
  | .gtr => some (True, .bool (Op.bytesLess b a))
  | .leq => some (True, .bool (!Op.bytesLess b a))
  | .geq => some (True, .bool (!Op.bytesLess a b))
  | _ => none

def evalBin (op : BinOp) : PV → PV → Ev
  | .int k a, .int k' b => evalInt op k k' a b
  | .str a, .str b => evalStr op a b
  | _, _ => none

/-- Cells of numbers, strings, truths, of these kinds. -/
def PlainK : List KD → List PV → Prop
  | [], [] => True
  | k :: ks, v :: vs => k.ok v ∧ PlainK ks vs
  | _, _ => False

open Classical in
noncomputable def aggEq (xs ys : List PV) : Bool := decide (xs = ys)

/-- Of what kind a type is whose values are held against nil, or against one another. -/
def eqKind : TypeDesc → Nat
  | .bool => 1
  | .pointer _ => 2
  | .slice _ => 3
  | .map _ _ => 4
  | .func _ _ _ => 5
  | .interface _ => 6
  | _ => 0

def eqKindP : PV → Nat
  | .bool _ => 1
  | .nilp => 2 | .ptr _ _ => 2 | .rp _ => 2
  | .nilsl => 3 | .sl _ _ _ => 3 | .lst _ _ _ => 3
  | .nilm => 4 | .map _ => 4
  | .nilf => 5 | .func _ _ _ => 5
  | .nili => 6 | .iface _ _ => 6
  | _ => 0

def evalEq : PV → PV → Option (Prop × Bool)
  | .bool a, .bool b => some (True, decide (a = b))
  | .nilp, .nilp => some (True, true)
  | .nilp, .ptr _ _ => some (True, false)
  | .ptr _ _, .nilp => some (True, false)
  | .nilp, .rp _ => some (True, false)
  | .rp _, .nilp => some (True, false)
  | .nilsl, .nilsl => some (True, true)
  | .nilsl, .sl _ _ _ => some (True, false)
  | .sl _ _ _, .nilsl => some (True, false)
  | .nilsl, .lst _ es _ => some (es ≠ [], false)
  | .lst _ es _, .nilsl => some (es ≠ [], false)
  | .nilm, .nilm => some (True, true)
  | .nilm, .map _ => some (True, false)
  | .map _, .nilm => some (True, false)
  | .nilf, .nilf => some (True, true)
  | .nilf, .func _ _ _ => some (True, false)
  | .func _ _ _, .nilf => some (True, false)
  | .nili, .nili => some (True, true)
  | .nili, .iface _ _ => some (True, false)
  | .iface _ _, .nili => some (True, false)
  | _, _ => none

noncomputable def evalEqa (ks : List KD) : PV → PV → Option (Prop × Bool)
  | .agg xs, .agg ys => some (PlainK ks xs ∧ PlainK ks ys, aggEq xs ys)
  | _, _ => none

def evalUn (op : UnOp) (a : PV) : Ev := match op, a with
  | .neg, .int k n => some (True, .int k (k.wrap (0 - n)))
  | .xor, .int k n => some (True, .int k (iop .xor k (if k.signed then -1 else k.max) n))
  | .not, .bool b => some (True, .bool (!b))
  | _, _ => none

/-! ### Memory -/
def evalLd (n : Option Nat) (H : Nat → Option AO) : PV → Ev
  | .rp cs => match n with
    | none => match cs with
      | v :: _ => some (True, v)
      | [] => none
    | some n => some (n ≤ cs.length, .agg (cs.take n))
  | .ptr id off => match H id with
    | some (.cells cs _ _) => match n with
      | none => match cs[off]? with
        | some v => some (True, v)
        | none => none
      | some n => some (off + n ≤ cs.length, .agg ((cs.drop off).take n))
    | _ => none
  | _ => none

def evalFa (off : Nat) : PV → Ev
  | .rp cs => some (True, .rp (cs.drop off))
  | .ptr id o => some (True, .ptr id (o + off))
  | _ => none

def evalFld (off : Nat) (n : Option Nat) : PV → Ev
  | .agg cs => match n with
    | none => match cs[off]? with
      | some v => some (True, v)
      | none => none
    | some n => some (True, .agg ((cs.drop off).take n))
  | _ => none

/-- An element's cells. -/
def elem (es : List (List PV)) (i : Int) : List PV := es.getD i.toNat []

def evalIa (sz : Nat) (arr : Option Nat) (x i : PV) : Ev := match i with
  | .int _ i => match arr with
    | none => match x with
      | .lst sz' es _ => some (sz' = sz ∧ 0 ≤ i ∧ i < es.length, .rp (elem es i))
      | .sl id off len => some (0 ≤ i ∧ i < len, .ptr id (off + i.toNat * sz))
      | _ => none
    | some n => match x with
      | .rp cs => some (0 ≤ i ∧ i < n, .rp (cs.drop (i.toNat * sz)))
      | .ptr id off => some (0 ≤ i ∧ i < n, .ptr id (off + i.toNat * sz))
      | _ => none
  | _ => none

def byteAt (s : List UInt8) (i : Int) : Int := ((s.getD i.toNat 0).toNat : Int)

def evalIdxs (x i : PV) : Ev := match i with
  | .int _ i => match x with
    | .str s => some (0 ≤ i ∧ i < s.length, .int .u8 (byteAt s i))
    | _ => none
  | _ => none

def evalIdx (sz : Nat) (n : Option Nat) (len : Nat) (x i : PV) : Ev := match i with
  | .int _ i => match x with
    | .agg cs => match n with
      | none => match cs[i.toNat * sz]? with
        | some v => some (0 ≤ i ∧ i < len, v)
        | none => none
      | some n => some (0 ≤ i ∧ i < len, .agg ((cs.drop (i.toNat * sz)).take n))
    | _ => none
  | _ => none

def bndI : Option PV → Option (Option Int)
  | none => some none
  | some (.int _ i) => some (some i)
  | _ => none

def evalSlc (sz : Nat) (x : PV) (lo hi : Option PV) : Ev := match bndI lo, bndI hi with
  | some lo, some hi => let l := lo.getD 0
    match x with
    | .nilsl => some (l = 0 ∧ hi.getD 0 = 0, .nilsl)
    | .lst sz' es _ => let h := hi.getD es.length
      some (sz' = sz ∧ 0 ≤ l ∧ l ≤ h ∧ h ≤ es.length, .lst sz' ((es.drop l.toNat).take (h.toNat - l.toNat)) none)
    | .sl id off len => let h := hi.getD len
      some (0 ≤ l ∧ l ≤ h ∧ h ≤ len ∧ (l = 0 ∨ l < len), .sl id (off + l.toNat * sz) (h.toNat - l.toNat))
    | _ => none
  | _, _ => none

def evalSlcs (x : PV) (lo hi : Option PV) : Ev := match bndI lo, bndI hi with
  | some lo, some hi => let l := lo.getD 0
    match x with
    | .str s => let h := hi.getD s.length
      some (0 ≤ l ∧ l ≤ h ∧ h ≤ s.length, .str ((s.drop l.toNat).take (h.toNat - l.toNat)))
    | _ => none
  | _, _ => none

def evalLen (H : Nat → Option AO) : Nat → PV → Ev
  | 1, .str s => some (True, .int .i64 s.length)
  | 2, .nilsl => some (True, .int .i64 0)
  | 2, .lst _ es _ => some (True, .int .i64 es.length)
  | 2, .sl _ _ len => some (True, .int .i64 len)
  | 3, .nilm => some (True, .int .i64 0)
  | 3, .map id => match H id with
    | some (.map _ es) => some (True, .int .i64 es.length)
    | _ => none
  | _, _ => none

open Classical in
noncomputable def mfind (k : PV) : List (PV × PV) → Option PV
  | [] => none
  | (a, v) :: r => if k = a then some v else mfind k r

noncomputable def evalLk (kd : KD) (z : PV) (ok : Bool) (H : Nat → Option AO) (x k : PV) : Ev := match x with
  | .nilm => some (kd.ok k, match ok with | true => .tup [z, .bool false] | false => z)
  | .map id => match H id with
    | some (.map kd' es) => some (kd' = kd ∧ kd.ok k, match ok with
      | true => .tup [(mfind k es).getD z, .bool (mfind k es).isSome]
      | false => (mfind k es).getD z)
    | _ => none
  | _ => none

/-- The bytes that cells are. -/
def bytesOf : List (List PV) → Option (List UInt8)
  | [] => some []
  | [.int .u8 n] :: r => match bytesOf r with
    | some l => some (UInt8.ofNat n.toNat :: l)
    | none => none
  | _ => none

def evalTa (t : TypeId) (z : PV) (ok : Bool) : PV → Ev
  | .nili => match ok with
    | true => some (True, .tup [z, .bool false])
    | false => none
  | .iface t' v => match ok with
    | true => some (True, if t' = t then .tup [v, .bool true] else .tup [z, .bool false])
    | false => some (t' = t, v)
  | _ => none

/-- A character's bytes. -/
def runeStr (n : Int) : List UInt8 := (Utf8.encode n).data.toList

/-- A value of one cell, or of so many. -/
def Shape : Option Nat → PV → Prop
  | none, .agg _ => False
  | none, .tup _ => False
  | none, _ => True
  | some n, .agg l => l.length = n
  | some _, _ => False

def putP : List PV → Nat → List PV → List PV
  | l, _, [] => l
  | l, k, v :: vs => putP (l.set k v) (k + 1) vs

/-- Parts are put into cells. -/
def fillP : List PV → List (Nat × PV) → List PV
  | cs, [] => cs
  | cs, (off, .agg l) :: r => fillP (putP cs off l) r
  | cs, (off, v) :: r => fillP (cs.set off v) r

def Shapes : List (Nat × Option Nat × X) → List PV → Prop
  | [], [] => True
  | (_, n, _) :: r, v :: vs => Shape n v ∧ Shapes r vs
  | _, _ => False

noncomputable def evalQ (lk : X → Option PV) (H : Nat → Option AO) : Q → Ev
  | .mov x => on1 (lk x) fun v => some (True, v)
  | .pick c a b => on1 (lk c) fun
    | .bool true => on1 (lk a) fun v => some (True, v)
    | .bool false => on1 (lk b) fun v => some (True, v)
    | _ => none
  | .build zs ps => onL (zs.map lk) fun z => onL (ps.map fun p => lk p.2.2) fun l => some (Shapes ps l, .agg (fillP z (List.zip (ps.map (·.1)) l)))
  | .ld n x => on1 (lk x) (evalLd n H)
  | .nilc x => on1 (lk x) fun
    | .ptr i o => some (True, .ptr i o)
    | .rp cs => some (True, .rp cs)
    | .iface t v => some (True, .iface t v)
    | .func f a b => some (True, .func f a b)
    | _ => none
  | .bin op x y => on1 (lk x) fun a => on1 (lk y) fun b => evalBin op a b
  | .eqn neg k x y => on1 (lk x) fun a => on1 (lk y) fun b => match evalEq a b with
    | some (ob, r) => some (eqKindP a = k ∧ ob, .bool (match neg with | true => !r | false => r))
    | none => none
  | .eqa neg ks x y => on1 (lk x) fun a => on1 (lk y) fun b => match evalEqa ks a b with
    | some (ob, r) => some (ob, .bool (match neg with | true => !r | false => r))
    | none => none
  | .un op x => on1 (lk x) (evalUn op)
  | .cint k x => on1 (lk x) fun
    | .int _ n => some (True, .int k (k.wrap n))
    | _ => none
  | .cid x => on1 (lk x) fun
    | .str s => some (True, .str s)
    | _ => none
  | .cbytes x => on1 (lk x) fun
    | .lst _ es _ => match bytesOf es with
      | some l => some (True, .str l)
      | none => none
    | .nilsl => some (True, .str [])
    | _ => none
  | .crune x => on1 (lk x) fun
    | .int _ n => some (True, .str (runeStr n))
    | _ => none
  | .mkif t x => on1 (lk x) fun v => some (True, .iface t v)
  | .mkfn f a b => onL (a.map lk) fun l => onL (b.map lk) fun k => some (True, .func f l k)
  | .slc sz x lo hi => on1 (lk x) fun a => onO (lo.map lk) fun l => onO (hi.map lk) fun h => evalSlc sz a l h
  | .slcs x lo hi => on1 (lk x) fun a => onO (lo.map lk) fun l => onO (hi.map lk) fun h => evalSlcs a l h
  | .fa off x => on1 (lk x) (evalFa off)
  | .fld off n x => on1 (lk x) (evalFld off n)
  | .ia sz arr x i => on1 (lk x) fun a => on1 (lk i) fun b => evalIa sz arr a b
  | .idx sz n len x i => on1 (lk x) fun a => on1 (lk i) fun b => evalIdx sz n len a b
  | .idxs x i => on1 (lk x) fun a => on1 (lk i) fun b => evalIdxs a b
  | .lk kd z ok x i => on1 (lk x) fun a => on1 (lk i) fun b => evalLk kd z ok H a b
  | .ta t z ok x => on1 (lk x) (evalTa t z ok)
  | .ext i x => on1 (lk x) fun
    | .tup vs => match vs[i]? with
      | some v => some (True, v)
      | none => none
    | _ => none
  | .len k x => on1 (lk x) (evalLen H k)
  | .mm mx x y => on1 (lk x) fun a => on1 (lk y) fun b => match a, b with
    | .int k a, .int k' b => some (k = k', .int k (match mx with | true => max a b | false => min a b))
    | _, _ => none
  | .no => none
end Go.Pv
