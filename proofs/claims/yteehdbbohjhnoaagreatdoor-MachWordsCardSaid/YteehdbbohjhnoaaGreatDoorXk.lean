/-
  A run of closed code by the kernel: calls, and what an operation leaves.
-/
import Derived.Test.YteehdbbohjhnoaaGreatDoorXj
namespace Go.Xq
open Go.RowKit
set_option linter.unusedVariables false

/-! ### The same value -/
def beqCap : Cap → Cap → Bool
  | .fix a, .fix b => Nat.beq a b
  | .less a, .less b => Nat.beq a b
  | _, _ => false

theorem beqCap_eq {a b : Cap} (h : beqCap a b = true) : a = b := by
  cases a <;> cases b <;> first | (rw [Nat.eq_of_beq_eq_true h]) | (cases h)

mutual
def beqSV : SV → SV → Bool
  | .bool a, .bool b => match a with | true => b | false => notB b
  | .int k a, .int k' b => match Nat.beq (kN k) (kN k') with | true => beqSI a b | false => false
  | .str a, .str b => beqB a b
  | .nilptr, .nilptr => true
  | .ptr i o, .ptr j q => match Nat.beq i j with | true => Nat.beq o q | false => false
  | .nilslice, .nilslice => true
  | .slice i o n c, .slice j q m d => match Nat.beq i j with
    | true => match Nat.beq o q with
      | true => match Nat.beq n m with
        | true => beqCap c d
        | false => false
      | false => false
    | false => false
  | .nilmap, .nilmap => true
  | .map i, .map j => Nat.beq i j
  | .nilfunc, .nilfunc => true
  | .func (.func f) a b, .func (.func g) c d => match Nat.beq f g with
    | true => match beqSVs a c with
      | true => beqSVs b d
      | false => false
    | false => false
  | .nilIface, .nilIface => true
  | .iface t a, .iface u b => match Nat.beq t u with | true => beqSV a b | false => false
  | .opq i, .opq j => Nat.beq i j
  | .ostr i, .ostr j => Nat.beq i j
  | .oslice i, .oslice j => Nat.beq i j
  | .optr i k, .optr j l => match Nat.beq i j with | true => Nat.beq k l | false => false
  | .agg a, .agg b => beqSVs a b
  | .tuple a, .tuple b => beqSVs a b
  | _, _ => false
def beqSVs : List SV → List SV → Bool
  | [], [] => true
  | a :: r, b :: s => match beqSV a b with | true => beqSVs r s | false => false
  | _, _ => false
end

mutual
theorem beqSV_eq : ∀ (a b : SV), beqSV a b = true → a = b
  | .bool a, .bool b, h => by cases a <;> cases b <;> first | rfl | (simp [beqSV, notB] at h)
  | .int k a, .int k' b, h => by
    simp only [beqSV] at h
    split at h
    · rename_i h1; rw [kN_inj h1, beqSI_eq h]
    · cases h
  | .str a, .str b, h => by simp only [beqSV, beqB_eq, beq_iff_eq] at h; rw [h]
  | .nilptr, .nilptr, _ => rfl
  | .ptr i o, .ptr j q, h => by
    simp only [beqSV] at h
    split at h
    · rename_i h1; rw [Nat.eq_of_beq_eq_true h1, Nat.eq_of_beq_eq_true h]
    · cases h
  | .nilslice, .nilslice, _ => rfl
  | .slice i o n c, .slice j q m d, h => by
    simp only [beqSV] at h
    split at h
    · rename_i h1
      split at h
      · rename_i h2
        split at h
        · rename_i h3; rw [Nat.eq_of_beq_eq_true h1, Nat.eq_of_beq_eq_true h2, Nat.eq_of_beq_eq_true h3, beqCap_eq h]
        · cases h
      · cases h
    · cases h
  | .nilmap, .nilmap, _ => rfl
  | .map i, .map j, h => by simp only [beqSV] at h; rw [Nat.eq_of_beq_eq_true h]
  | .nilfunc, .nilfunc, _ => rfl
  | .func f a b, .func g c d, h => by
    cases f <;> cases g <;> simp only [beqSV] at h <;> try (cases h; done)
    split at h
    · rename_i h1
      split at h
      · rename_i h2; rw [Nat.eq_of_beq_eq_true h1, beqSVs_eq a c h2, beqSVs_eq b d h]
      · cases h
    · cases h
  | .nilIface, .nilIface, _ => rfl
  | .iface t a, .iface u b, h => by
    simp only [beqSV] at h
    split at h
    · rename_i h1; rw [Nat.eq_of_beq_eq_true h1, beqSV_eq a b h]
    · cases h
  | .opq i, .opq j, h => by simp only [beqSV] at h; rw [Nat.eq_of_beq_eq_true h]
  | .ostr i, .ostr j, h => by simp only [beqSV] at h; rw [Nat.eq_of_beq_eq_true h]
  | .oslice i, .oslice j, h => by simp only [beqSV] at h; rw [Nat.eq_of_beq_eq_true h]
  | .optr i k, .optr j l, h => by
    simp only [beqSV] at h
    split at h
    · rename_i h1; rw [Nat.eq_of_beq_eq_true h1, Nat.eq_of_beq_eq_true h]
    · cases h
  | .agg a, .agg b, h => by simp only [beqSV] at h; rw [beqSVs_eq a b h]
  | .tuple a, .tuple b, h => by simp only [beqSV] at h; rw [beqSVs_eq a b h]
  | .bool _, .int _ _, h | .bool _, .str _, h | .bool _, .nilptr, h | .bool _, .ptr _ _, h | .bool _, .nilslice, h | .bool _, .slice _ _ _ _, h | .bool _, .nilmap, h | .bool _, .map _, h | .bool _, .nilfunc, h | .bool _, .func _ _ _, h | .bool _, .nilIface, h | .bool _, .iface _ _, h | .bool _, .agg _, h | .bool _, .tuple _, h | .bool _, .opq _, h | .bool _, .ostr _, h | .bool _, .oslice _, h | .bool _, .optr _ _, h => by simp [beqSV] at h
  | .int _ _, .bool _, h | .int _ _, .str _, h | .int _ _, .nilptr, h | .int _ _, .ptr _ _, h | .int _ _, .nilslice, h | .int _ _, .slice _ _ _ _, h | .int _ _, .nilmap, h | .int _ _, .map _, h | .int _ _, .nilfunc, h | .int _ _, .func _ _ _, h | .int _ _, .nilIface, h | .int _ _, .iface _ _, h | .int _ _, .agg _, h | .int _ _, .tuple _, h | .int _ _, .opq _, h | .int _ _, .ostr _, h | .int _ _, .oslice _, h | .int _ _, .optr _ _, h => by simp [beqSV] at h
  | .str _, .bool _, h | .str _, .int _ _, h | .str _, .nilptr, h | .str _, .ptr _ _, h | .str _, .nilslice, h | .str _, .slice _ _ _ _, h | .str _, .nilmap, h | .str _, .map _, h | .str _, .nilfunc, h | .str _, .func _ _ _, h | .str _, .nilIface, h | .str _, .iface _ _, h | .str _, .agg _, h | .str _, .tuple _, h | .str _, .opq _, h | .str _, .ostr _, h | .str _, .oslice _, h | .str _, .optr _ _, h => by simp [beqSV] at h
  | .nilptr, .bool _, h | .nilptr, .int _ _, h | .nilptr, .str _, h | .nilptr, .ptr _ _, h | .nilptr, .nilslice, h | .nilptr, .slice _ _ _ _, h | .nilptr, .nilmap, h | .nilptr, .map _, h | .nilptr, .nilfunc, h | .nilptr, .func _ _ _, h | .nilptr, .nilIface, h | .nilptr, .iface _ _, h | .nilptr, .agg _, h | .nilptr, .tuple _, h | .nilptr, .opq _, h | .nilptr, .ostr _, h | .nilptr, .oslice _, h | .nilptr, .optr _ _, h => by simp [beqSV] at h
  | .ptr _ _, .bool _, h | .ptr _ _, .int _ _, h | .ptr _ _, .str _, h | .ptr _ _, .nilptr, h | .ptr _ _, .nilslice, h | .ptr _ _, .slice _ _ _ _, h | .ptr _ _, .nilmap, h | .ptr _ _, .map _, h | .ptr _ _, .nilfunc, h | .ptr _ _, .func _ _ _, h | .ptr _ _, .nilIface, h | .ptr _ _, .iface _ _, h | .ptr _ _, .agg _, h | .ptr _ _, .tuple _, h | .ptr _ _, .opq _, h | .ptr _ _, .ostr _, h | .ptr _ _, .oslice _, h | .ptr _ _, .optr _ _, h => by simp [beqSV] at h
  | .nilslice, .bool _, h | .nilslice, .int _ _, h | .nilslice, .str _, h | .nilslice, .nilptr, h | .nilslice, .ptr _ _, h | .nilslice, .slice _ _ _ _, h | .nilslice, .nilmap, h | .nilslice, .map _, h | .nilslice, .nilfunc, h | .nilslice, .func _ _ _, h | .nilslice, .nilIface, h | .nilslice, .iface _ _, h | .nilslice, .agg _, h | .nilslice, .tuple _, h | .nilslice, .opq _, h | .nilslice, .ostr _, h | .nilslice, .oslice _, h | .nilslice, .optr _ _, h => by simp [beqSV] at h
  | .slice _ _ _ _, .bool _, h | .slice _ _ _ _, .int _ _, h | .slice _ _ _ _, .str _, h | .slice _ _ _ _, .nilptr, h | .slice _ _ _ _, .ptr _ _, h | .slice _ _ _ _, .nilslice, h | .slice _ _ _ _, .nilmap, h | .slice _ _ _ _, .map _, h | .slice _ _ _ _, .nilfunc, h | .slice _ _ _ _, .func _ _ _, h | .slice _ _ _ _, .nilIface, h | .slice _ _ _ _, .iface _ _, h | .slice _ _ _ _, .agg _, h | .slice _ _ _ _, .tuple _, h | .slice _ _ _ _, .opq _, h | .slice _ _ _ _, .ostr _, h | .slice _ _ _ _, .oslice _, h | .slice _ _ _ _, .optr _ _, h => by simp [beqSV] at h
  | .nilmap, .bool _, h | .nilmap, .int _ _, h | .nilmap, .str _, h | .nilmap, .nilptr, h | .nilmap, .ptr _ _, h | .nilmap, .nilslice, h | .nilmap, .slice _ _ _ _, h | .nilmap, .map _, h | .nilmap, .nilfunc, h | .nilmap, .func _ _ _, h | .nilmap, .nilIface, h | .nilmap, .iface _ _, h | .nilmap, .agg _, h | .nilmap, .tuple _, h | .nilmap, .opq _, h | .nilmap, .ostr _, h | .nilmap, .oslice _, h | .nilmap, .optr _ _, h => by simp [beqSV] at h
  | .map _, .bool _, h | .map _, .int _ _, h | .map _, .str _, h | .map _, .nilptr, h | .map _, .ptr _ _, h | .map _, .nilslice, h | .map _, .slice _ _ _ _, h | .map _, .nilmap, h | .map _, .nilfunc, h | .map _, .func _ _ _, h | .map _, .nilIface, h | .map _, .iface _ _, h | .map _, .agg _, h | .map _, .tuple _, h | .map _, .opq _, h | .map _, .ostr _, h | .map _, .oslice _, h | .map _, .optr _ _, h => by simp [beqSV] at h
  | .nilfunc, .bool _, h | .nilfunc, .int _ _, h | .nilfunc, .str _, h | .nilfunc, .nilptr, h | .nilfunc, .ptr _ _, h | .nilfunc, .nilslice, h | .nilfunc, .slice _ _ _ _, h | .nilfunc, .nilmap, h | .nilfunc, .map _, h | .nilfunc, .func _ _ _, h | .nilfunc, .nilIface, h | .nilfunc, .iface _ _, h | .nilfunc, .agg _, h | .nilfunc, .tuple _, h | .nilfunc, .opq _, h | .nilfunc, .ostr _, h | .nilfunc, .oslice _, h | .nilfunc, .optr _ _, h => by simp [beqSV] at h
  | .func _ _ _, .bool _, h | .func _ _ _, .int _ _, h | .func _ _ _, .str _, h | .func _ _ _, .nilptr, h | .func _ _ _, .ptr _ _, h | .func _ _ _, .nilslice, h | .func _ _ _, .slice _ _ _ _, h | .func _ _ _, .nilmap, h | .func _ _ _, .map _, h | .func _ _ _, .nilfunc, h | .func _ _ _, .nilIface, h | .func _ _ _, .iface _ _, h | .func _ _ _, .agg _, h | .func _ _ _, .tuple _, h | .func _ _ _, .opq _, h | .func _ _ _, .ostr _, h | .func _ _ _, .oslice _, h | .func _ _ _, .optr _ _, h => by simp [beqSV] at h
  | .nilIface, .bool _, h | .nilIface, .int _ _, h | .nilIface, .str _, h | .nilIface, .nilptr, h | .nilIface, .ptr _ _, h | .nilIface, .nilslice, h | .nilIface, .slice _ _ _ _, h | .nilIface, .nilmap, h | .nilIface, .map _, h | .nilIface, .nilfunc, h | .nilIface, .func _ _ _, h | .nilIface, .iface _ _, h | .nilIface, .agg _, h | .nilIface, .tuple _, h | .nilIface, .opq _, h | .nilIface, .ostr _, h | .nilIface, .oslice _, h | .nilIface, .optr _ _, h => by simp [beqSV] at h
  | .iface _ _, .bool _, h | .iface _ _, .int _ _, h | .iface _ _, .str _, h | .iface _ _, .nilptr, h | .iface _ _, .ptr _ _, h | .iface _ _, .nilslice, h | .iface _ _, .slice _ _ _ _, h | .iface _ _, .nilmap, h | .iface _ _, .map _, h | .iface _ _, .nilfunc, h | .iface _ _, .func _ _ _, h | .iface _ _, .nilIface, h | .iface _ _, .agg _, h | .iface _ _, .tuple _, h | .iface _ _, .opq _, h | .iface _ _, .ostr _, h | .iface _ _, .oslice _, h | .iface _ _, .optr _ _, h => by simp [beqSV] at h
  | .agg _, .bool _, h | .agg _, .int _ _, h | .agg _, .str _, h | .agg _, .nilptr, h | .agg _, .ptr _ _, h | .agg _, .nilslice, h | .agg _, .slice _ _ _ _, h | .agg _, .nilmap, h | .agg _, .map _, h | .agg _, .nilfunc, h | .agg _, .func _ _ _, h | .agg _, .nilIface, h | .agg _, .iface _ _, h | .agg _, .tuple _, h | .agg _, .opq _, h | .agg _, .ostr _, h | .agg _, .oslice _, h | .agg _, .optr _ _, h => by simp [beqSV] at h
  | .tuple _, .bool _, h | .tuple _, .int _ _, h | .tuple _, .str _, h | .tuple _, .nilptr, h | .tuple _, .ptr _ _, h | .tuple _, .nilslice, h | .tuple _, .slice _ _ _ _, h | .tuple _, .nilmap, h | .tuple _, .map _, h | .tuple _, .nilfunc, h | .tuple _, .func _ _ _, h | .tuple _, .nilIface, h | .tuple _, .iface _ _, h | .tuple _, .agg _, h | .tuple _, .opq _, h | .tuple _, .ostr _, h | .tuple _, .oslice _, h | .tuple _, .optr _ _, h => by simp [beqSV] at h
  | .opq _, .bool _, h | .opq _, .int _ _, h | .opq _, .str _, h | .opq _, .nilptr, h | .opq _, .ptr _ _, h | .opq _, .nilslice, h | .opq _, .slice _ _ _ _, h | .opq _, .nilmap, h | .opq _, .map _, h | .opq _, .nilfunc, h | .opq _, .func _ _ _, h | .opq _, .nilIface, h | .opq _, .iface _ _, h | .opq _, .agg _, h | .opq _, .tuple _, h | .opq _, .ostr _, h | .opq _, .oslice _, h | .opq _, .optr _ _, h => by simp [beqSV] at h
  | .ostr _, .bool _, h | .ostr _, .int _ _, h | .ostr _, .str _, h | .ostr _, .nilptr, h | .ostr _, .ptr _ _, h | .ostr _, .nilslice, h | .ostr _, .slice _ _ _ _, h | .ostr _, .nilmap, h | .ostr _, .map _, h | .ostr _, .nilfunc, h | .ostr _, .func _ _ _, h | .ostr _, .nilIface, h | .ostr _, .iface _ _, h | .ostr _, .agg _, h | .ostr _, .tuple _, h | .ostr _, .opq _, h | .ostr _, .oslice _, h | .ostr _, .optr _ _, h => by simp [beqSV] at h
  | .oslice _, .bool _, h | .oslice _, .int _ _, h | .oslice _, .str _, h | .oslice _, .nilptr, h | .oslice _, .ptr _ _, h | .oslice _, .nilslice, h | .oslice _, .slice _ _ _ _, h | .oslice _, .nilmap, h | .oslice _, .map _, h | .oslice _, .nilfunc, h | .oslice _, .func _ _ _, h | .oslice _, .nilIface, h | .oslice _, .iface _ _, h | .oslice _, .agg _, h | .oslice _, .tuple _, h | .oslice _, .opq _, h | .oslice _, .ostr _, h | .oslice _, .optr _ _, h => by simp [beqSV] at h
  | .optr _ _, .bool _, h | .optr _ _, .int _ _, h | .optr _ _, .str _, h | .optr _ _, .nilptr, h | .optr _ _, .ptr _ _, h | .optr _ _, .nilslice, h | .optr _ _, .slice _ _ _ _, h | .optr _ _, .nilmap, h | .optr _ _, .map _, h | .optr _ _, .nilfunc, h | .optr _ _, .func _ _ _, h | .optr _ _, .nilIface, h | .optr _ _, .iface _ _, h | .optr _ _, .agg _, h | .optr _ _, .tuple _, h | .optr _ _, .opq _, h | .optr _ _, .ostr _, h | .optr _ _, .oslice _, h => by simp [beqSV] at h
theorem beqSVs_eq : ∀ (a b : List SV), beqSVs a b = true → a = b
  | [], [], _ => rfl
  | a :: r, b :: s, h => by
    simp only [beqSVs] at h
    split at h
    · rename_i h1; rw [beqSV_eq a b h1, beqSVs_eq r s h]
    · cases h
  | [], _ :: _, h => by simp [beqSVs] at h
  | _ :: _, [], h => by simp [beqSVs] at h
end

def hookX : List Hook → Nat → List SV → Option SV
  | [], _, _ => none
  | k :: r, f, args => match Nat.beq k.f f with
    | false => hookX r f args
    | true => match beqSVs k.args args with
      | true => some k.res
      | false => hookX r f args

theorem hookX_ok : ∀ {l : List Hook} {f : Nat} {args : List SV} {v : SV}, hookX l f args = some v → ∃ hk ∈ l, hk.f = f ∧ hk.args = args ∧ hk.res = v
  | [], f, args, v, h => by cases h
  | k :: r, f, args, v, h => by
    simp only [hookX] at h
    have tl : hookX r f args = some v → ∃ hk ∈ k :: r, hk.f = f ∧ hk.args = args ∧ hk.res = v := fun h => by
      obtain ⟨hk, a, b⟩ := hookX_ok h
      exact ⟨hk, List.mem_cons_of_mem _ a, b⟩
    split at h
    · exact tl h
    rename_i h1
    split at h
    · rename_i h2
      cases h
      exact ⟨k, List.mem_cons_self, Nat.eq_of_beq_eq_true h1, beqSVs_eq _ _ h2, rfl⟩
    · exact tl h

inductive Ex where
  | normal
  | exit (id : Nat)
  | ret
  | panic (v : SV)

/-- A panic of a value. -/
def panicOf (x : Value) : List PanicEntry := [{ v := x, recovered := false }]

def Ex.is (E : Env) (r : Ex) (e : Exit) : Prop := match r with
  | .normal => e = .normal
  | .exit id => e = .exit id
  | .ret => e = .ret
  | .panic v => ∃ x, v.den E = some x ∧ e = .panic (panicOf x)

def putX (sz : Nat) (t : Tr SV) (dst : Option Tmp) (v : SV) : Option (Tr SV) := match dst with
  | none => some t
  | some d => match Nat.blt d sz with
    | true => Tr.upd 24 t d (some v)
    | false => none

def wantedX (ops : List Oper) (t : Tr SV) (o : Oper) : Option Bool := match o.guard with
  | none => some true
  | some (j, want) => match ops[j]? with
    | none => some false
    | some g => match g.dst with
      | none => some false
      | some d => match t.get d with
        | some (.bool b) => some (match b with | true => want | false => notB want)
        | some (.tuple _) => some false
        | _ => none

def argsT : List SV → Nat → Tr SV → Option (Tr SV)
  | [], _, t => some t
  | v :: r, k, t => match Tr.upd 24 t k (some v) with
    | some t' => argsT r (Nat.succ k) t'
    | none => none

def resX (C : Cx) (t : Tr SV) (h : Tr AO) : List ResultVar → Option (List SV)
  | [] => some []
  | .tmp k :: r => match t.get k with
    | none => none
    | some v => match resX C t h r with
      | none => none
      | some l => some (v :: l)
  | .cell k ty :: r => match t.get k with
    | none => none
    | some a => match xLoad C h ty a with
      | none => none
      | some v => match resX C t h r with
        | none => none
        | some l => some (v :: l)

def oneX (l : List SV) : SV := match l with
  | [v] => v
  | l => .tuple l

def callR (C : Cx) (ex : Nat → Code → St → Option (Ex × St)) (f : Nat) (args : List SV) (h : Tr AO) (n : Nat) : Option (Bool × SV × Tr AO × Nat) :=
  match hookX C.hooks f args with
  | some v => some (false, v, h, n)
  | none => match C.ft.get f with
    | none => none
    | some fn => match fn.body with
      | none => none
      | some c => match argsT args 0 .nil with
        | none => none
        | some t => match ex (Nat.add args.length (Nat.sub fn.ntmps args.length)) c ⟨t, h, n⟩ with
          | none => none
          | some (e, s) => match e with
            | .exit _ => none
            | .panic v => some (true, v, s.h, s.n)
            | _ => match resX C s.t s.h fn.results.toList with
              | none => none
              | some l => some (false, oneX l, s.h, s.n)

def callX (C : Cx) (ex : Nat → Code → St → Option (Ex × St)) (f : Nat) (args : List SV) (h : Tr AO) (n : Nat) : Option (SV × Tr AO × Nat) :=
  match callR C ex f args h n with
  | some (p, r) => match p with
    | false => some r
    | true => none
  | none => none

/-- An operation that changes memory or calls, or ends the function by a panic. -/
def writerR (C : Cx) (ex : Nat → Code → St → Option (Ex × St)) (t : Tr SV) (h : Tr AO) (n : Nat) (op : Op) : Option (Bool × SV × Tr AO × Nat) :=
  match writeX C t h n op with
  | none => none
  | some (.val v h' n') => some (false, v, h', n')
  | some (.skip h') => some (false, .tuple [], h', n)
  | some (.panic ty v) => some (true, .iface ty v, h, n)
  | some (.enter f args) => callR C ex f args h n

/-- What code leaves. -/
def PQ (C : Cx) (d : List Deferred) (E : Env) (sz : Nat) (s : St) (w : World) (r : Ex × St) (e : Exit) (a' : Act) (w' : World) : Prop :=
  ∃ E', r.1.is E' e ∧ SR C d E' sz r.2 a' w' ∧ Post C E s.h s.n w E' r.2.h r.2.n w'

def ExOk (P : Program) (C : Cx) (ex : Nat → Code → St → Option (Ex × St)) : Prop :=
  ∀ sz c s r, ex sz c s = some r → ∀ (d : List Deferred) (E : Env) (a : Act) (w : World) (Q : Exit → Act → World → Prop), SR C d E sz s a w → (∀ e a' w', PQ C d E sz s w r e a' w' → Q e a' w') → c.wp P Q a w

section
variable {P : Program} {C : Cx} (hC : C.Ok P)

/-- One result. -/
def resOf (tmps : Array Value) : ResultVar → Sem Value
  | .tmp t => pure (tmps.getD t undef)
  | .cell a t => do loadVar t (← asAddr (tmps.getD a undef))

theorem results_eq (fn : Func) (tmps : Array Value) : results fn tmps = (do
    let vs ← fn.results.mapM (resOf tmps)
    pure (if h : vs.size = 1 then vs[0] else .tuple vs)) := by
  rfl

theorem argsT_ok {E : Env} : ∀ {l : List SV} {xs : List Value} {k : Nat} {t t' : Tr SV} {tmps : Array Value}, argsT l k t = some t' → denL E l = some xs → (∀ j x, xs[j]? = some x → tmps[k + j]? = some x) →
    (∀ i v, t.get i = some v → ∃ x, tmps[i]? = some x ∧ v.den E = some x) → ∀ i v, t'.get i = some v → ∃ x, tmps[i]? = some x ∧ v.den E = some x
  | [], xs, k, t, t', tmps, h, _, _, ht => by simp only [argsT, Option.some.injEq] at h; subst h; exact ht
  | v :: l, xs, k, t, t', tmps, h, hd, hx, ht => by
    obtain ⟨x, r, h1, h2, rfl⟩ := denL_cons hd
    simp only [argsT] at h
    split at h
    case h_2 => cases h
    rename_i t1 hu
    refine argsT_ok (k := k + 1) h h2 (fun j y hj => ?_) ?_
    · have := hx (j + 1) y (by simpa using hj)
      rw [show k + 1 + j = k + (j + 1) by omega]; exact this
    · intro i u hi
      rw [Tr.get_upd _ _ _ _ _ hu] at hi
      by_cases e : i = k
      · rw [if_pos e] at hi; cases hi; subst e
        exact ⟨x, by have := hx 0 x rfl; simpa using this, h1⟩
      · rw [if_neg e] at hi; exact ht i u hi

include hC in
theorem resX_ok {E : Env} {t : Tr SV} {h : Tr AO} {n : Nat} {w : World} {tmps : Array Value} (s : SH C E h n w.heap) (ht : ∀ i v, t.get i = some v → ∃ x, tmps[i]? = some x ∧ v.den E = some x) : ∀ {rs : List ResultVar} {l : List SV}, resX C t h rs = some l →
    ∃ xs, denL E l = some xs ∧ (rs.mapM (resOf tmps)).run P w = .ok xs w
  | [], l, hx => by simp only [resX, Option.some.injEq] at hx; subst hx; exact ⟨[], rfl, rfl⟩
  | .tmp k :: rs, l, hx => by
    simp only [resX] at hx
    split at hx
    · cases hx
    rename_i v hv
    split at hx
    · cases hx
    rename_i l' hl
    cases hx
    obtain ⟨xs, h1, h2⟩ := resX_ok s ht hl
    obtain ⟨x, e1, e2⟩ := ht k v hv
    refine ⟨x :: xs, denL_mk e2 h1, ?_⟩
    have : tmps.getD k undef = x := by simp [e1]
    simp only [List.mapM_cons, resOf, Sem.run_bind, Sem.run_pure, Result.andThen_ok, h2, this]
  | .cell k ty :: rs, l, hx => by
    simp only [resX] at hx
    split at hx
    · cases hx
    rename_i a ha
    split at hx
    · cases hx
    rename_i v hv
    split at hx
    · cases hx
    rename_i l' hl
    cases hx
    obtain ⟨xs, h1, h2⟩ := resX_ok s ht hl
    obtain ⟨x, e1, e2⟩ := ht k a ha
    cases a with
    | ptr id off =>
      obtain ⟨p, y, hp, hr, hd⟩ := xLoad_var hC s hv
      simp only [SV.den, hp, Option.map_some, Option.some.injEq] at e2
      refine ⟨y :: xs, denL_mk hd h1, ?_⟩
      have : tmps.getD k undef = x := by simp [e1]
      have ha' : (asAddr (tmps.getD k undef)).run P w = .ok ⟨p.1, off, none⟩ w := by rw [this, ← e2]; rfl
      simp only [List.mapM_cons, resOf, Sem.run_bind, ha', Sem.run_pure, Result.andThen_ok, hr, h2]
    | _ => simp [xLoad] at hv

theorem oneX_den {E : Env} {l : List SV} {xs : List Value} (h : denL E l = some xs) : (oneX l).den E = some (if h : xs.toArray.size = 1 then xs.toArray[0] else .tuple xs.toArray) := by
  have hl := denL_length h
  cases l with
  | nil => rw [denL_nil h]; rfl
  | cons v l =>
    obtain ⟨x, r, h1, h2, rfl⟩ := denL_cons h
    cases l with
    | nil => rw [denL_nil h2]; simpa [oneX] using h1
    | cons u l =>
      have : ¬ ((x :: r).toArray.size = 1) := by
        have := denL_length h2
        simp only [List.length_cons] at this
        simp only [List.size_toArray, List.length_cons]
        omega
      rw [dif_neg this]
      simp only [oneX, SV.den, h, Option.map_some]

/-- How a call ends. -/
def endOf (p : Bool) (x : Value) : Ending := match p with
  | false => .returned x
  | true => .panicked (panicOf x)

include hC
theorem callR_ok {ex : Nat → Code → St → Option (Ex × St)} (hex : ExOk P C ex) {E : Env} {f : Nat} {args : List SV} {xs : List Value} {h h' : Tr AO} {n n' : Nat} {w : World} {p : Bool} {v : SV} (hx : callR C ex f args h n = some (p, v, h', n')) (s : SH C E h n w.heap)
    (ha : denL E args = some xs) {R : Ending → World → Prop} (hR : ∀ E' x w', v.den E' = some x → Post C E h n w E' h' n' w' → R (endOf p x) w') : Calls P f xs.toArray w R := by
  simp only [callR] at hx
  split at hx
  · rename_i v' hkx
    cases hx
    obtain ⟨hk, h1, h2, h3, h4⟩ := hookX_ok hkx
    subst h2; subst h3; subst h4
    obtain ⟨x, hd, hcall⟩ := hC.hooks hk h1 E xs s.kn.2.1 ha
    refine (hcall w s.anc.size s.anc.same).mono ?_
    rintro e w' ⟨rfl, hb⟩
    exact hR E x w' hd (Post.below_in s hb)
  split at hx
  · cases hx
  rename_i fn hfn
  split at hx
  · cases hx
  rename_i c hc
  split at hx
  · cases hx
  rename_i t ht
  split at hx
  · cases hx
  rename_i e s' hr
  obtain ⟨hfun, _⟩ := hC.fn f fn hfn
  refine calls_of_wp hfun hc ?_
  have hal := denL_length ha
  refine hex _ _ _ _ hr [] E _ w _ ⟨?_, ?_, rfl, s⟩ ?_
  · refine argsT_ok (k := 0) ht ha (fun j x hj => ?_) (fun i v hi => by rw [Tr.get_nil] at hi; cases hi)
    have hlt := (List.getElem?_eq_some_iff.1 hj).1
    rw [Nat.zero_add, Array.getElem?_append_left (by simpa using hlt)]
    simpa using hj
  · simp only [Array.size_append, List.size_toArray, Array.size_replicate, hal]; rfl
  · rintro e' a' w' ⟨E', he, hsr, hpost⟩
    simp only at he
    have done : ∀ l, resX C s'.t s'.h fn.results.toList = some l → some (false, oneX l, s'.h, s'.n) = some (p, v, h', n') → ∃ y, (results fn a'.tmps).run P w' = .ok y w' ∧ R (.returned y) w' := by
      intro l hl hv
      simp only [Option.some.injEq, Prod.mk.injEq] at hv
      obtain ⟨rfl, rfl, rfl, rfl⟩ := hv
      obtain ⟨ys, h1, h2⟩ := resX_ok hC hsr.sh hsr.tm hl
      refine ⟨_, ?_, hR E' _ w' (oneX_den h1) hpost⟩
      have hm : (fn.results.mapM (resOf a'.tmps)).run P w' = .ok ys.toArray w' := by
        rw [Array.mapM_eq_mapM_toList]
        simp only [Sem.run_map, h2, Result.andThen_ok]
      rw [results_eq]
      simp only [Sem.run_bind, hm, Result.andThen_ok, Sem.run_pure]
    split at hx
    · cases hx
    · rename_i v'
      cases hx
      obtain ⟨x, h1, h2⟩ := he
      subst h2
      exact ⟨hsr.df, hR E' x w' h1 hpost⟩
    · rename_i hne hnp
      split at hx
      · cases hx
      rename_i l hl
      obtain ⟨y, h1, h2⟩ := done l hl hx
      cases e with
      | normal => subst he; exact ⟨hsr.df, y, h1, h2⟩
      | ret => subst he; exact ⟨hsr.df, y, h1, h2⟩
      | exit id => exact absurd rfl (hne id)
      | panic v => exact absurd rfl (hnp v)

theorem callX_ok {ex : Nat → Code → St → Option (Ex × St)} (hex : ExOk P C ex) {E : Env} {f : Nat} {args : List SV} {xs : List Value} {h h' : Tr AO} {n n' : Nat} {w : World} {v : SV} (hx : callX C ex f args h n = some (v, h', n')) (s : SH C E h n w.heap)
    (ha : denL E args = some xs) {R : Ending → World → Prop} (hR : ∀ E' x w', v.den E' = some x → Post C E h n w E' h' n' w' → R (.returned x) w') : Calls P f xs.toArray w R := by
  unfold callX at hx
  split at hx
  case h_2 => cases hx
  rename_i p r hr
  split at hx
  case h_2 => cases hx
  cases hx
  exact callR_ok hC hex hr s ha hR

/-- What an operation that changes memory or calls leads to. -/
theorem writerR_ok {ex : Nat → Code → St → Option (Ex × St)} (hex : ExOk P C ex) {E : Env} {t : Tr SV} {h h' : Tr AO} {n n' : Nat} {w : World} {a : Act} {o : Oper} {p : Bool} {v : SV} (s : SH C E h n w.heap)
    (hget : ∀ x v, x ∈ o.op.operands → getX C.g0 t x = some v → v.den E = some (a.eval x)) (hx : writerR C ex t h n o.op = some (p, v, h', n')) {K : Act → World → Prop} {Q : Exit → Act → World → Prop}
    (hK : p = false → ∀ E' x w', v.den E' = some x → Post C E h n w E' h' n' w' → K (a.put o.dst x) w')
    (hQ : p = true → ∀ E' x w', v.den E' = some x → Post C E h n w E' h' n' w' → Q (.panic (panicOf x)) a w') : o.wp P a w K Q := by
  simp only [writerR] at hx
  split at hx
  · cases hx
  · rename_i v1 h1 n1 hw
    cases hx
    obtain ⟨E', x, w', hr, hd, hp⟩ := writeX_ok hC s hget hw
    rw [Oper.wp, hr]
    exact hK rfl E' x w' hd hp
  · rename_i h1 hw
    cases hx
    obtain ⟨w', hr, hp⟩ := writeX_ok hC s hget hw
    rw [Oper.wp, hr]
    exact hK rfl E undef w' rfl hp
  · rename_i ty v1 hw
    cases hx
    obtain ⟨x, hd, hr⟩ := writeX_ok hC s hget hw
    rw [Oper.wp, hr]
    exact hQ rfl E (.iface ty x) w (by simp [SV.den, hd]) (Post.refl s)
  · rename_i f args hw
    obtain ⟨xs, hr, hd⟩ := writeX_ok hC s hget hw
    rw [Oper.wp, hr]
    refine callR_ok hC hex hx s hd (fun E' x w' h1 h2 => ?_)
    cases p with
    | false => exact hK rfl E' x w' h1 h2
    | true => exact hQ rfl E' x w' h1 h2

theorem quiet_wp {E : Env} {t : Tr SV} {h : Tr AO} {n : Nat} {w : World} {a : Act} {o : Oper} {v : SV} (s : SH C E h n w.heap)
    (hget : ∀ x v, x ∈ o.op.operands → getX C.g0 t x = some v → v.den E = some (a.eval x)) (hx : quietX C t h o.op = some v) {K : Act → World → Prop} {Q : Exit → Act → World → Prop}
    (hK : ∀ x, v.den E = some x → K (a.put o.dst x) w) : o.wp P a w K Q := by
  obtain ⟨x, hr, hd⟩ := quietX_ok hC s hget hx
  rw [Oper.wp, hr]
  exact hK x hd

theorem alloc_wp {E : Env} {t : Tr SV} {n : Nat} {w : World} {a : Act} {o : Oper} {v : SV} {ao : AO} (hn : E.blk n = none)
    (hget : ∀ x v, x ∈ o.op.operands → getX C.g0 t x = some v → v.den E = some (a.eval x)) (hx : allocX C t n o.op = some (v, ao)) {K : Act → World → Prop} {Q : Exit → Act → World → Prop}
    (hK : ∀ O y, AOK E w n v ao O y → K (a.put o.dst y) (w.alloc O)) : o.wp P a w K Q := by
  obtain ⟨O, y, hr, hd⟩ := allocX_ok hC hn hget hx
  rw [Oper.wp, hr]
  exact hK O y hd

omit hC in
/-- Whether an operation is to be done. -/
theorem wantedX_ok {E : Env} {ops : Array Oper} {t : Tr SV} {a : Act} {o : Oper} {b : Bool} (hx : wantedX ops.toList t o = some b)
    (ht : ∀ j want g d v, o.guard = some (j, want) → ops[j]? = some g → g.dst = some d → t.get d = some v → ∃ x, a.tmps[d]? = some x ∧ v.den E = some x) : Region.wanted o (yielded ops a.tmps) = b := by
  unfold wantedX at hx
  split at hx
  · rename_i hg
    cases hx
    simp [Region.wanted, hg]
  · rename_i j want hg
    simp only [Region.wanted, hg]
    split at hx
    · rename_i hj
      cases hx
      have : ops[j]? = none := by simpa using hj
      simp [yielded, this]
    · rename_i g hj
      have hj' : ops[j]? = some g := by simpa using hj
      split at hx
      · rename_i hd
        cases hx
        simp [yielded, hj', hd]
      · rename_i d hd
        split at hx
        · rename_i b' hb
          cases hx
          obtain ⟨x, h1, h2⟩ := ht j want g d _ hg hj' hd hb
          simp only [SV.den, Option.some.injEq] at h2
          subst h2
          simp only [yielded, hj', Option.bind_some, hd, h1]
          cases b' <;> cases want <;> rfl
        · rename_i vs hb
          cases hx
          obtain ⟨x, h1, h2⟩ := ht j want g d _ hg hj' hd hb
          simp only [SV.den, Option.map_eq_some_iff] at h2
          obtain ⟨l, hl, rfl⟩ := h2
          simp only [yielded, hj', Option.bind_some, hd, h1]
          rfl
        · cases hx
end
end Go.Xq
