/-
  A run of closed code by the kernel: the data of an abstract state and what they stand for. Of numbers that are not known there are names; blocks of memory have numbers of their own.
-/
import Derived.Tactics
import Derived.Orders
import Derived.Below
import Derived.Defers
namespace Go.Xq
set_option linter.unusedVariables false

/-! ### A table by numbers -/
inductive Tr (α : Type) where
  | nil
  | node (l : Tr α) (v : Option α) (r : Tr α)

noncomputable def Tr.getC {α : Type} : Tr α → Nat → Option α
  | .nil, _ => none
  | .node l v r, k =>
    match Nat.beq k 0 with
    | true => v
    | false => match Nat.beq (Nat.mod k 2) 0 with
      | true => r.getC (Nat.sub (Nat.div k 2) 1)
      | false => l.getC (Nat.div k 2)

noncomputable def Tr.updC {α : Type} (a : Option α) : Nat → Tr α → Nat → Tr α
  | 0, _, _ => .nil
  | f + 1, .nil, k =>
    match Nat.beq k 0 with
    | true => .node .nil a .nil
    | false => match Nat.beq (Nat.mod k 2) 0 with
      | true => .node .nil none (Tr.updC a f .nil (Nat.sub (Nat.div k 2) 1))
      | false => .node (Tr.updC a f .nil (Nat.div k 2)) none .nil
  | f + 1, .node l v r, k =>
    match Nat.beq k 0 with
    | true => .node l a r
    | false => match Nat.beq (Nat.mod k 2) 0 with
      | true => .node l v (Tr.updC a f r (Nat.sub (Nat.div k 2) 1))
      | false => .node (Tr.updC a f l (Nat.div k 2)) v r

noncomputable def Tr.get {α : Type} (t : Tr α) : Nat → Option α :=
  Tr.rec (motive := fun _ => Nat → Option α) (fun _ => none) (fun _ v _ ihl ihr => fun k =>
    Bool.rec (Bool.rec (ihl (Nat.shiftRight k 1)) (ihr (Nat.sub (Nat.shiftRight k 1) 1)) (Nat.beq (Nat.land k 1) 0)) v (Nat.beq k 0)) t

/-- A table of one entry. -/
noncomputable def Tr.one {α : Type} (a : Option α) (f : Nat) : Nat → Tr α :=
  Nat.rec (motive := fun _ => Nat → Tr α) (fun _ => .nil) (fun _ ih => fun k =>
    Bool.rec (Bool.rec (Tr.node (ih (Nat.shiftRight k 1)) none .nil) (Tr.node .nil none (ih (Nat.sub (Nat.shiftRight k 1) 1))) (Nat.beq (Nat.land k 1) 0)) (Tr.node .nil a .nil) (Nat.beq k 0)) f

noncomputable def Tr.put {α : Type} (a : Option α) (t : Tr α) : Nat → Tr α :=
  Tr.rec (motive := fun _ => Nat → Tr α) (fun k => Tr.one a 48 k) (fun l v r ihl ihr => fun k =>
    Bool.rec (Bool.rec (Tr.node (ihl (Nat.shiftRight k 1)) v r) (Tr.node l v (ihr (Nat.sub (Nat.shiftRight k 1) 1))) (Nat.beq (Nat.land k 1) 0)) (Tr.node l a r) (Nat.beq k 0)) t

noncomputable def Tr.updI {α : Type} (_ : Nat) (t : Tr α) (k : Nat) (a : Option α) : Option (Tr α) := some (Tr.updC a 48 t k)

noncomputable def Tr.upd {α : Type} (_ : Nat) (t : Tr α) (k : Nat) (a : Option α) : Option (Tr α) := match Nat.blt k 281474976710655 with
  | true => some (Tr.put a t k)
  | false => none

theorem Tr.get_nil {α : Type} (k : Nat) : (Tr.nil : Tr α).get k = none := rfl

theorem shr1 (k : Nat) : Nat.shiftRight k 1 = k / 2 := Nat.shiftRight_eq_div_pow k 1
theorem land1 (k : Nat) : Nat.land k 1 = k % 2 := Nat.and_one_is_mod k
theorem nbeq' (a b : Nat) : Nat.beq a b = decide (a = b) := by
  by_cases h : a = b
  · subst h; simp
  · rw [decide_eq_false h]
    cases hb : Nat.beq a b with
    | false => rfl
    | true => exact absurd (Nat.eq_of_beq_eq_true hb) h

theorem boolRec {β : Type} (p : Prop) [Decidable p] (x y : β) : (Bool.rec x y (decide p) : β) = if p then y else x := by
  by_cases h : p
  · simp [h]
  · simp [h]

theorem Tr.get_node {α : Type} (l r : Tr α) (v : Option α) (k : Nat) :
    (Tr.node l v r).get k = if k = 0 then v else if k % 2 = 0 then r.get (k / 2 - 1) else l.get (k / 2) := by
  show (Bool.rec (Bool.rec (l.get (Nat.shiftRight k 1)) (r.get (Nat.sub (Nat.shiftRight k 1) 1)) (Nat.beq (Nat.land k 1) 0)) v (Nat.beq k 0) : Option α) = _
  rw [nbeq', nbeq', boolRec, boolRec, shr1, land1]
  rfl

theorem Tr.put_node {α : Type} (l r : Tr α) (v a : Option α) (k : Nat) :
    (Tr.node l v r).put a k = if k = 0 then Tr.node l a r else if k % 2 = 0 then Tr.node l v (r.put a (k / 2 - 1)) else Tr.node (l.put a (k / 2)) v r := by
  show (Bool.rec (Bool.rec (Tr.node (l.put a (Nat.shiftRight k 1)) v r) (Tr.node l v (r.put a (Nat.sub (Nat.shiftRight k 1) 1))) (Nat.beq (Nat.land k 1) 0)) (Tr.node l a r) (Nat.beq k 0) : Tr α) = _
  rw [nbeq', nbeq', boolRec, boolRec, shr1, land1]
  rfl

theorem Tr.one_succ {α : Type} (a : Option α) (f k : Nat) : Tr.one a (f + 1) k = if k = 0 then Tr.node .nil a .nil else if k % 2 = 0 then Tr.node .nil none (Tr.one a f (k / 2 - 1)) else Tr.node (Tr.one a f (k / 2)) none .nil := by
  show (Bool.rec (Bool.rec (Tr.node (Tr.one a f (Nat.shiftRight k 1)) none .nil) (Tr.node .nil none (Tr.one a f (Nat.sub (Nat.shiftRight k 1) 1))) (Nat.beq (Nat.land k 1) 0)) (Tr.node .nil a .nil) (Nat.beq k 0) : Tr α) = _
  rw [nbeq', nbeq', boolRec, boolRec, shr1, land1]
  rfl

theorem Tr.get_one {α : Type} (a : Option α) : ∀ (f k j : Nat), k + 1 < 2 ^ f → (Tr.one a f k).get j = if j = k then a else none := by
  intro f
  induction f with
  | zero => intro k j h; omega
  | succ f ih =>
    intro k j h
    rw [Nat.pow_succ] at h
    rw [Tr.one_succ]
    by_cases h0 : k = 0
    · subst h0
      rw [if_pos rfl, Tr.get_node]
      by_cases hj : j = 0
      · simp [hj]
      · simp [hj, Tr.get_nil]
    · rw [if_neg h0]
      by_cases h2 : k % 2 = 0
      · rw [if_pos h2, Tr.get_node]
        by_cases hj : j = 0
        · rw [if_pos hj, if_neg (by omega)]
        · rw [if_neg hj]
          by_cases hj2 : j % 2 = 0
          · rw [if_pos hj2, ih _ _ (by omega)]
            by_cases e : j = k
            · subst e; simp
            · rw [if_neg e, if_neg (by omega)]
          · rw [if_neg hj2, Tr.get_nil, if_neg (by intro e; subst e; exact hj2 h2)]
      · rw [if_neg h2, Tr.get_node]
        by_cases hj : j = 0
        · rw [if_pos hj, if_neg (by omega)]
        · rw [if_neg hj]
          by_cases hj2 : j % 2 = 0
          · rw [if_pos hj2, Tr.get_nil, if_neg (by intro e; subst e; exact h2 hj2)]
          · rw [if_neg hj2, ih _ _ (by omega)]
            by_cases e : j = k
            · subst e; simp
            · rw [if_neg e, if_neg (by omega)]

theorem Tr.get_put {α : Type} (a : Option α) : ∀ (t : Tr α) (k j : Nat), k < 281474976710655 → (t.put a k).get j = if j = k then a else t.get j := by
  intro t
  induction t with
  | nil =>
    intro k j h
    show (Tr.one a 48 k).get j = _
    rw [Tr.get_one a 48 k j (by omega), Tr.get_nil]
  | node l v r ihl ihr =>
    intro k j h
    rw [Tr.put_node]
    by_cases h0 : k = 0
    · subst h0
      rw [if_pos rfl, Tr.get_node, Tr.get_node]
      by_cases hj : j = 0
      · simp [hj]
      · simp [hj]
    · rw [if_neg h0]
      by_cases h2 : k % 2 = 0
      · rw [if_pos h2, Tr.get_node, Tr.get_node]
        by_cases hj : j = 0
        · rw [if_pos hj, if_pos hj, if_neg (by omega)]
        · rw [if_neg hj, if_neg hj]
          by_cases hj2 : j % 2 = 0
          · rw [if_pos hj2, if_pos hj2, ihr _ _ (by omega)]
            by_cases e : j = k
            · subst e; simp
            · rw [if_neg e, if_neg (by omega)]
          · rw [if_neg hj2, if_neg hj2, if_neg (by intro e; subst e; exact hj2 h2)]
      · rw [if_neg h2, Tr.get_node, Tr.get_node]
        by_cases hj : j = 0
        · rw [if_pos hj, if_pos hj, if_neg (by omega)]
        · rw [if_neg hj, if_neg hj]
          by_cases hj2 : j % 2 = 0
          · rw [if_pos hj2, if_pos hj2, if_neg (by intro e; subst e; exact h2 hj2)]
          · rw [if_neg hj2, if_neg hj2, ihl _ _ (by omega)]
            by_cases e : j = k
            · subst e; simp
            · rw [if_neg e, if_neg (by omega)]

theorem Tr.get_upd {α : Type} (f : Nat) (t : Tr α) (k : Nat) (a : Option α) (t' : Tr α) (h : Tr.upd f t k a = some t') : ∀ j, t'.get j = if j = k then a else t.get j := by
  intro j
  unfold Tr.upd at h
  split at h
  · rename_i hb
    cases h
    exact Tr.get_put a t k j (by simpa [Nat.blt_eq] using hb)
  · cases h

/-! ### Numbers that may have names -/
inductive SI where
  | lit (n : Int)
  | var (i : Nat)
  | bin (op : BinOp) (k : IntKind) (a b : SI)
  | conv (k : IntKind) (a : SI)

/-- What an operator makes of two numbers of one kind (shifts: of a count from 0 on). -/
noncomputable def iop (op : BinOp) (k : IntKind) (x y : Int) : Int :=
  match op with
  | .add => k.wrap (x + y)
  | .sub => k.wrap (x - y)
  | .mul => k.wrap (x * y)
  | .quo => k.wrap (x.tdiv y)
  | .rem => x.tmod y
  | .and => k.wrap ((BitVec.ofInt k.bits x &&& BitVec.ofInt k.bits y).toNat)
  | .or => k.wrap ((BitVec.ofInt k.bits x ||| BitVec.ofInt k.bits y).toNat)
  | .xor => k.wrap ((BitVec.ofInt k.bits x ^^^ BitVec.ofInt k.bits y).toNat)
  | .andNot => k.wrap ((BitVec.ofInt k.bits x &&& ~~~BitVec.ofInt k.bits y).toNat)
  | .shl => k.wrap (x * 2 ^ (min y.toNat k.bits))
  | .shr => x.fdiv (2 ^ (min y.toNat k.bits))
  | _ => 0

/-- Whether a comparison is so. -/
noncomputable def icmp (op : BinOp) (x y : Int) : Bool :=
  match op with
  | .eql => x == y
  | .neq => x != y
  | .lss => decide (x < y)
  | .leq => decide (x ≤ y)
  | .gtr => decide (x > y)
  | .geq => decide (x ≥ y)
  | _ => false

noncomputable def SI.den (I : Nat → Int) : SI → Int
  | .lit n => n
  | .var i => I i
  | .bin op k a b => iop op k (a.den I) (b.den I)
  | .conv k a => k.wrap (a.den I)

/-! ### Values -/
inductive Cap where
  | fix (n : Nat)
  | less (n : Nat)        -- the block's room, less so many

inductive SV where
  | bool (b : Bool)
  | int (k : IntKind) (e : SI)
  | str (s : List UInt8)
  | nilptr
  | ptr (id off : Nat)
  | nilslice
  | slice (id off len : Nat) (cap : Cap)
  | nilmap
  | map (id : Nat)
  | nilfunc
  | func (fn : Fn) (fst cap : List SV)
  | nilIface
  | iface (t : TypeId) (v : SV)
  | agg (cs : List SV)
  | tuple (vs : List SV)
  | opq (i : Nat)         -- an interface value that is not nil, and else unknown
  | ostr (i : Nat)        -- a string that has a name
  | oslice (i : Nat)      -- a slice that was there, not nil, that has a name
  | optr (i k : Nat)      -- where its element k stands
  | yld (id : Nat)        -- what a function that is ranged over is called with: the loop's record

structure Env where
  ints : Nat → Int
  blk : Nat → Option (Nat × Nat)        -- a block's number, and its room
  opq : Nat → Value                     -- values that have names

noncomputable def Cap.den (room : Nat) : Cap → Nat
  | .fix n => n
  | .less n => room - n

noncomputable def ifaceV : Value → Option Value
  | .iface t v => some (.iface t v)
  | _ => none

noncomputable def strV : Value → Option Value
  | .string s => some (.string s)
  | _ => none

noncomputable def osliceV : Value → Option Value
  | .slice (some ⟨b, o, none⟩) n c => some (.slice (some ⟨b, o, none⟩) n c)
  | _ => none
noncomputable def optrV (k : Nat) : Value → Option Value
  | .slice (some ⟨b, o, none⟩) n _ => if k < n then some (.pointer (some ⟨b, o + k, none⟩)) else none
  | _ => none

mutual
noncomputable def SV.den (E : Env) : SV → Option Value
  | .bool b => some (.bool b)
  | .int k e => some (.int k (e.den E.ints))
  | .str s => some (.string ⟨s.toArray⟩)
  | .nilptr => some (.pointer none)
  | .ptr id off => (E.blk id).map fun p => .pointer (some ⟨p.1, off, none⟩)
  | .nilslice => some (.slice none 0 0)
  | .slice id off len cap => (E.blk id).map fun p => .slice (some ⟨p.1, off, none⟩) len (cap.den p.2)
  | .nilmap => some (.map none)
  | .map id => (E.blk id).map fun p => .map (some p.1)
  | .nilfunc => some .nilFunc
  | .func fn fst cap => match denL E fst, denL E cap with
    | some a, some b => some (.func fn a.toArray b.toArray)
    | _, _ => none
  | .nilIface => some .nilIface
  | .iface t v => (v.den E).map (.iface t)
  | .agg cs => (denL E cs).map fun l => .agg l.toArray
  | .tuple vs => (denL E vs).map fun l => .tuple l.toArray
  | .opq i => ifaceV (E.opq i)
  | .ostr i => strV (E.opq i)
  | .oslice i => osliceV (E.opq i)
  | .optr i k => optrV k (E.opq i)
  | .yld id => (E.blk id).map fun p => .func (.yield p.1) #[] #[]
noncomputable def denL (E : Env) : List SV → Option (List Value)
  | [] => some []
  | v :: vs => match v.den E, denL E vs with
    | some x, some xs => some (x :: xs)
    | _, _ => none
end

/-- More is known. -/
structure Env.le (E E' : Env) : Prop where
  ints : E'.ints = E.ints
  blk : ∀ id p, E.blk id = some p → E'.blk id = some p
  opq : E'.opq = E.opq

theorem Env.le.refl (E : Env) : E.le E := ⟨rfl, fun _ _ h => h, rfl⟩
theorem Env.le.trans {A B C : Env} (h : A.le B) (k : B.le C) : A.le C := ⟨k.ints.trans h.ints, fun i p e => k.blk i p (h.blk i p e), k.opq.trans h.opq⟩

mutual
theorem SV.den_mono {E E' : Env} (h : E.le E') : ∀ (v : SV) (x : Value), v.den E = some x → v.den E' = some x
  | .bool b, x, e => by simpa [SV.den] using e
  | .int k i, x, e => by simpa [SV.den, h.ints] using e
  | .str s, x, e => by simpa [SV.den] using e
  | .nilptr, x, e => by simpa [SV.den] using e
  | .nilslice, x, e => by simpa [SV.den] using e
  | .nilmap, x, e => by simpa [SV.den] using e
  | .nilfunc, x, e => by simpa [SV.den] using e
  | .nilIface, x, e => by simpa [SV.den] using e
  | .opq i, x, e => by simpa [SV.den, h.opq] using e
  | .ostr i, x, e => by simpa [SV.den, h.opq] using e
  | .oslice i, x, e => by simpa [SV.den, h.opq] using e
  | .optr i k, x, e => by simpa [SV.den, h.opq] using e
  | .ptr id off, x, e => by
    simp only [SV.den, Option.map_eq_some_iff] at e ⊢
    obtain ⟨p, hp, hx⟩ := e
    exact ⟨p, h.blk _ _ hp, hx⟩
  | .slice id off len cap, x, e => by
    simp only [SV.den, Option.map_eq_some_iff] at e ⊢
    obtain ⟨p, hp, hx⟩ := e
    exact ⟨p, h.blk _ _ hp, hx⟩
  | .map id, x, e => by
    simp only [SV.den, Option.map_eq_some_iff] at e ⊢
    obtain ⟨p, hp, hx⟩ := e
    exact ⟨p, h.blk _ _ hp, hx⟩
  | .yld id, x, e => by
    simp only [SV.den, Option.map_eq_some_iff] at e ⊢
    obtain ⟨p, hp, hx⟩ := e
    exact ⟨p, h.blk _ _ hp, hx⟩
  | .func fn fst cap, x, e => by
    simp only [SV.den] at e ⊢
    cases h1 : denL E fst with
    | none => rw [h1] at e; simp at e
    | some a =>
      cases h2 : denL E cap with
      | none => rw [h1, h2] at e; simp at e
      | some b =>
        rw [h1, h2] at e
        rw [denL_mono h fst a h1, denL_mono h cap b h2]
        exact e
  | .iface t v, x, e => by
    simp only [SV.den, Option.map_eq_some_iff] at e ⊢
    obtain ⟨p, hp, hx⟩ := e
    exact ⟨p, SV.den_mono h v p hp, hx⟩
  | .agg cs, x, e => by
    simp only [SV.den, Option.map_eq_some_iff] at e ⊢
    obtain ⟨p, hp, hx⟩ := e
    exact ⟨p, denL_mono h cs p hp, hx⟩
  | .tuple cs, x, e => by
    simp only [SV.den, Option.map_eq_some_iff] at e ⊢
    obtain ⟨p, hp, hx⟩ := e
    exact ⟨p, denL_mono h cs p hp, hx⟩
theorem denL_mono {E E' : Env} (h : E.le E') : ∀ (vs : List SV) (xs : List Value), denL E vs = some xs → denL E' vs = some xs
  | [], xs, e => by simpa [denL] using e
  | v :: vs, xs, e => by
    simp only [denL] at e ⊢
    cases h1 : v.den E with
    | none => rw [h1] at e; simp at e
    | some a =>
      cases h2 : denL E vs with
      | none => rw [h1, h2] at e; simp at e
      | some b =>
        rw [h1, h2] at e
        rw [SV.den_mono h v a h1, denL_mono h vs b h2]
        exact e
end

theorem ifaceV_eq {v x : Value} (h : ifaceV v = some x) : ∃ t u, x = .iface t u := by
  unfold ifaceV at h
  split at h
  · cases h; exact ⟨_, _, rfl⟩
  · cases h

theorem strV_eq {v x : Value} (h : strV v = some x) : ∃ s, x = .string s := by
  unfold strV at h
  split at h
  · cases h; exact ⟨_, rfl⟩
  · cases h

theorem osliceV_eq {v x : Value} (h : osliceV v = some x) : ∃ b o n c, x = .slice (some ⟨b, o, none⟩) n c ∧ v = x := by
  unfold osliceV at h
  split at h
  · cases h; exact ⟨_, _, _, _, rfl, rfl⟩
  · cases h
theorem optrV_eq {k : Nat} {v x : Value} (h : optrV k v = some x) : ∃ b o n c, x = .pointer (some ⟨b, o + k, none⟩) ∧ v = .slice (some ⟨b, o, none⟩) n c ∧ k < n := by
  unfold optrV at h
  split at h
  · split at h
    · cases h; exact ⟨_, _, _, _, rfl, rfl, by assumption⟩
    · cases h
  · cases h

/-! ### Lists of values -/
theorem denL_cons {E : Env} {v : SV} {vs : List SV} {xs : List Value} (h : denL E (v :: vs) = some xs) :
    ∃ x r, v.den E = some x ∧ denL E vs = some r ∧ xs = x :: r := by
  simp only [denL] at h
  cases h1 : v.den E with
  | none => rw [h1] at h; simp at h
  | some a =>
    cases h2 : denL E vs with
    | none => rw [h1, h2] at h; simp at h
    | some b => rw [h1, h2] at h; simp at h; exact ⟨a, b, rfl, rfl, h.symm⟩

theorem denL_nil {E : Env} {xs : List Value} (h : denL E [] = some xs) : xs = [] := by simpa [denL, eq_comm] using h

theorem denL_mk {E : Env} {v : SV} {vs : List SV} {x : Value} {xs : List Value} (h : v.den E = some x) (k : denL E vs = some xs) : denL E (v :: vs) = some (x :: xs) := by
  simp [denL, h, k]

theorem denL_length {E : Env} : ∀ {vs : List SV} {xs : List Value}, denL E vs = some xs → xs.length = vs.length
  | [], xs, h => by rw [denL_nil h]; rfl
  | v :: vs, xs, h => by
    obtain ⟨x, r, _, h2, rfl⟩ := denL_cons h
    simp [denL_length h2]

theorem denL_append {E : Env} : ∀ {vs us : List SV} {xs ys : List Value}, denL E vs = some xs → denL E us = some ys → denL E (vs ++ us) = some (xs ++ ys)
  | [], us, xs, ys, h, k => by rw [denL_nil h]; simpa using k
  | v :: vs, us, xs, ys, h, k => by
    obtain ⟨x, r, h1, h2, rfl⟩ := denL_cons h
    exact denL_mk h1 (denL_append h2 k)

theorem denL_take {E : Env} : ∀ {vs : List SV} {xs : List Value} (n : Nat), denL E vs = some xs → denL E (vs.take n) = some (xs.take n)
  | [], xs, n, h => by rw [denL_nil h]; simp [denL]
  | v :: vs, xs, 0, h => by simp [denL]
  | v :: vs, xs, n + 1, h => by
    obtain ⟨x, r, h1, h2, rfl⟩ := denL_cons h
    exact denL_mk h1 (denL_take n h2)

theorem denL_drop {E : Env} : ∀ {vs : List SV} {xs : List Value} (n : Nat), denL E vs = some xs → denL E (vs.drop n) = some (xs.drop n)
  | [], xs, n, h => by rw [denL_nil h]; simp [denL]
  | v :: vs, xs, 0, h => h
  | v :: vs, xs, n + 1, h => by
    obtain ⟨x, r, h1, h2, rfl⟩ := denL_cons h
    exact denL_drop n h2

theorem denL_get {E : Env} : ∀ {vs : List SV} {xs : List Value} {n : Nat} {v : SV}, denL E vs = some xs → vs[n]? = some v → ∃ x, v.den E = some x ∧ xs[n]? = some x
  | [], xs, n, v, h, k => by simp at k
  | u :: vs, xs, 0, v, h, k => by
    obtain ⟨x, r, h1, h2, rfl⟩ := denL_cons h
    simp at k; subst k
    exact ⟨x, h1, rfl⟩
  | u :: vs, xs, n + 1, v, h, k => by
    obtain ⟨x, r, h1, h2, rfl⟩ := denL_cons h
    obtain ⟨y, e1, e2⟩ := denL_get (n := n) h2 (by simpa using k)
    exact ⟨y, e1, by simpa using e2⟩

theorem denL_set {E : Env} : ∀ {vs : List SV} {xs : List Value} (n : Nat) {v : SV} {x : Value}, denL E vs = some xs → v.den E = some x → denL E (vs.set n v) = some (xs.set n x)
  | [], xs, n, v, x, h, k => by rw [denL_nil h]; simp [denL]
  | u :: vs, xs, 0, v, x, h, k => by
    obtain ⟨y, r, h1, h2, rfl⟩ := denL_cons h
    exact denL_mk k h2
  | u :: vs, xs, n + 1, v, x, h, k => by
    obtain ⟨y, r, h1, h2, rfl⟩ := denL_cons h
    exact denL_mk h1 (denL_set n h2 k)

theorem denL_replicate {E : Env} {v : SV} {x : Value} (h : v.den E = some x) : ∀ n, denL E (List.replicate n v) = some (List.replicate n x)
  | 0 => rfl
  | n + 1 => denL_mk h (denL_replicate h n)

/-! ### A value of the program's text, and zero values: known as they are -/
mutual
noncomputable def ofV : Value → Option SV
  | .bool b => some (.bool b)
  | .int k n => some (.int k (.lit n))
  | .string s => some (.str s.data.toList)
  | .pointer none => some .nilptr
  | .slice none 0 0 => some .nilslice
  | .map none => some .nilmap
  | .nilFunc => some .nilfunc
  | .nilIface => some .nilIface
  | .agg ⟨cs⟩ => (ofVs cs).map .agg
  | .tuple ⟨cs⟩ => (ofVs cs).map .tuple
  | _ => none
noncomputable def ofVs : List Value → Option (List SV)
  | [] => some []
  | v :: vs => match ofV v, ofVs vs with
    | some x, some xs => some (x :: xs)
    | _, _ => none
end

mutual
theorem ofV_den (E : Env) : ∀ (v : Value) (s : SV), ofV v = some s → s.den E = some v
  | .bool b, s, h => by simp only [ofV, Option.some.injEq] at h; subst h; rfl
  | .int k n, s, h => by simp only [ofV, Option.some.injEq] at h; subst h; rfl
  | .string ⟨⟨l⟩⟩, s, h => by simp only [ofV, Option.some.injEq] at h; subst h; rfl
  | .pointer none, s, h => by simp only [ofV, Option.some.injEq] at h; subst h; rfl
  | .pointer (some _), s, h => by simp [ofV] at h
  | .slice none 0 0, s, h => by simp only [ofV, Option.some.injEq] at h; subst h; rfl
  | .slice none 0 (n + 1), s, h => by simp [ofV] at h
  | .slice none (n + 1) _, s, h => by simp [ofV] at h
  | .slice (some _) _ _, s, h => by simp [ofV] at h
  | .map none, s, h => by simp only [ofV, Option.some.injEq] at h; subst h; rfl
  | .map (some _), s, h => by simp [ofV] at h
  | .nilFunc, s, h => by simp only [ofV, Option.some.injEq] at h; subst h; rfl
  | .nilIface, s, h => by simp only [ofV, Option.some.injEq] at h; subst h; rfl
  | .agg ⟨cs⟩, s, h => by
    simp only [ofV, Option.map_eq_some_iff] at h
    obtain ⟨l, hl, rfl⟩ := h
    simp [SV.den, ofVs_den E cs l hl]
  | .tuple ⟨cs⟩, s, h => by
    simp only [ofV, Option.map_eq_some_iff] at h
    obtain ⟨l, hl, rfl⟩ := h
    simp [SV.den, ofVs_den E cs l hl]
  | .float _ _, s, h => by simp [ofV] at h
  | .complex _ _ _, s, h => by simp [ofV] at h
  | .chan _, s, h => by simp [ofV] at h
  | .func _ _ _, s, h => by simp [ofV] at h
  | .iface _ _, s, h => by simp [ofV] at h
theorem ofVs_den (E : Env) : ∀ (vs : List Value) (s : List SV), ofVs vs = some s → denL E s = some vs
  | [], s, h => by simp only [ofVs, Option.some.injEq] at h; subst h; rfl
  | v :: vs, s, h => by
    simp only [ofVs] at h
    cases h1 : ofV v with
    | none => rw [h1] at h; simp at h
    | some a =>
      cases h2 : ofVs vs with
      | none => rw [h1, h2] at h; simp at h
      | some b =>
        rw [h1, h2] at h
        simp only [Option.some.injEq] at h
        subst h
        exact denL_mk (ofV_den E v a h1) (ofVs_den E vs b h2)
end
end Go.Xq
