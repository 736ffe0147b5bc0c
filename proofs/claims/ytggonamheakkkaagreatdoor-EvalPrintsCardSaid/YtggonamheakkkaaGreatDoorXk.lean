/-
  A run of closed code by the kernel: calls, and what an operation leaves.
-/
import Derived.Test.YtggonamheakkkaaGreatDoorXj
import Derived.RecoverIn
import Derived.RangeFuncRecord
import Derived.OrdersIn
import Derived.TacticsIn
import Derived.LoopNIn
namespace Go.Xq
open Go.RowKit
set_option linter.unusedVariables false

/-! ### The same value -/
noncomputable def beqCap : Cap → Cap → Bool
  | .fix a, .fix b => Nat.beq a b
  | .less a, .less b => Nat.beq a b
  | _, _ => false

theorem beqCap_eq {a b : Cap} (h : beqCap a b = true) : a = b := by
  cases a <;> cases b <;> first | (rw [Nat.eq_of_beq_eq_true h]) | (cases h)

mutual
noncomputable def beqSV : SV → SV → Bool
  | .bool a, .bool b => match a with | true => b | false => notB b
  | .int k a, .int k' b => match Nat.beq (kN k) (kN k') with | true => beqSI a b | false => false
  | .str a, .str b => beqB a b
  | .nilptr, .nilptr => true
  | .ptr i o, .ptr j q => match Nat.beq i j with | true => Nat.beq o q | false => false
  | .nilslice, .nilslice => true
  | .slice i o n c, .slice j q m d => match Nat.beq i j with
    | true => match Nat.beq o q with
      | true => match Nat.beq n m with
        | true => beqCap c d
        | false => false
      | false => false
    | false => false
  | .nilmap, .nilmap => true
  | .map i, .map j => Nat.beq i j
  | .nilfunc, .nilfunc => true
  | .func (.func f) a b, .func (.func g) c d => match Nat.beq f g with
    | true => match beqSVs a c with
      | true => beqSVs b d
      | false => false
    | false => false
  | .nilIface, .nilIface => true
  | .iface t a, .iface u b => match Nat.beq t u with | true => beqSV a b | false => false
  | .opq i, .opq j => Nat.beq i j
  | .ostr i, .ostr j => Nat.beq i j
  | .oslice i, .oslice j => Nat.beq i j
  | .optr i k, .optr j l => match Nat.beq i j with | true => Nat.beq k l | false => false
  | .yld i, .yld j => Nat.beq i j
  | .agg a, .agg b => beqSVs a b
  | .tuple a, .tuple b => beqSVs a b
  | _, _ => false
noncomputable def beqSVs : List SV → List SV → Bool
  | [], [] => true
  | a :: r, b :: s => match beqSV a b with | true => beqSVs r s | false => false
  | _, _ => false
end

mutual
theorem beqSV_eq : ∀ (a b : SV), beqSV a b = true → a = b
  | .bool a, .bool b, h => by cases a <;> cases b <;> first | rfl | (simp [beqSV, notB] at h)
  | .int k a, .int k' b, h => by
    simp only [beqSV] at h
    split at h
    · rename_i h1; rw [kN_inj h1, beqSI_eq h]
    · cases h
  | .str a, .str b, h => by simp only [beqSV, beqB_eq, beq_iff_eq] at h; rw [h]
  | .nilptr, .nilptr, _ => rfl
  | .ptr i o, .ptr j q, h => by
    simp only [beqSV] at h
    split at h
    · rename_i h1; rw [Nat.eq_of_beq_eq_true h1, Nat.eq_of_beq_eq_true h]
    · cases h
  | .nilslice, .nilslice, _ => rfl
  | .slice i o n c, .slice j q m d, h => by
    simp only [beqSV] at h
    split at h
    · rename_i h1
      split at h
      · rename_i h2
        split at h
        · rename_i h3; rw [Nat.eq_of_beq_eq_true h1, Nat.eq_of_beq_eq_true h2, Nat.eq_of_beq_eq_true h3, beqCap_eq h]
        · cases h
      · cases h
    · cases h
  | .nilmap, .nilmap, _ => rfl
  | .map i, .map j, h => by simp only [beqSV] at h; rw [Nat.eq_of_beq_eq_true h]
  | .nilfunc, .nilfunc, _ => rfl
  | .func f a b, .func g c d, h => by
    cases f <;> cases g <;> simp only [beqSV] at h <;> try (cases h; done)
    split at h
    · rename_i h1
      split at h
      · rename_i h2; rw [Nat.eq_of_beq_eq_true h1, beqSVs_eq a c h2, beqSVs_eq b d h]
      · cases h
    · cases h
  | .nilIface, .nilIface, _ => rfl
  | .iface t a, .iface u b, h => by
    simp only [beqSV] at h
    split at h
    · rename_i h1; rw [Nat.eq_of_beq_eq_true h1, beqSV_eq a b h]
    · cases h
  | .opq i, .opq j, h => by simp only [beqSV] at h; rw [Nat.eq_of_beq_eq_true h]
  | .ostr i, .ostr j, h => by simp only [beqSV] at h; rw [Nat.eq_of_beq_eq_true h]
  | .yld i, .yld j, h => by simp only [beqSV] at h; rw [Nat.eq_of_beq_eq_true h]
  | .oslice i, .oslice j, h => by simp only [beqSV] at h; rw [Nat.eq_of_beq_eq_true h]
  | .optr i k, .optr j l, h => by
    simp only [beqSV] at h
    split at h
    · rename_i h1; rw [Nat.eq_of_beq_eq_true h1, Nat.eq_of_beq_eq_true h]
    · cases h
  | .agg a, .agg b, h => by simp only [beqSV] at h; rw [beqSVs_eq a b h]
  | .tuple a, .tuple b, h => by simp only [beqSV] at h; rw [beqSVs_eq a b h]
  | .bool _, .int _ _, h | .bool _, .str _, h | .bool _, .nilptr, h | .bool _, .ptr _ _, h | .bool _, .nilslice, h | .bool _, .slice _ _ _ _, h | .bool _, .nilmap, h | .bool _, .map _, h | .bool _, .nilfunc, h | .bool _, .func _ _ _, h | .bool _, .nilIface, h | .bool _, .iface _ _, h | .bool _, .agg _, h | .bool _, .tuple _, h | .bool _, .opq _, h | .bool _, .ostr _, h | .bool _, .oslice _, h | .bool _, .optr _ _, h | .bool _, .yld _, h => by simp [beqSV] at h
  | .int _ _, .bool _, h | .int _ _, .str _, h | .int _ _, .nilptr, h | .int _ _, .ptr _ _, h | .int _ _, .nilslice, h | .int _ _, .slice _ _ _ _, h | .int _ _, .nilmap, h | .int _ _, .map _, h | .int _ _, .nilfunc, h | .int _ _, .func _ _ _, h | .int _ _, .nilIface, h | .int _ _, .iface _ _, h | .int _ _, .agg _, h | .int _ _, .tuple _, h | .int _ _, .opq _, h | .int _ _, .ostr _, h | .int _ _, .oslice _, h | .int _ _, .optr _ _, h | .int _ _, .yld _, h => by simp [beqSV] at h
  | .str _, .bool _, h | .str _, .int _ _, h | .str _, .nilptr, h | .str _, .ptr _ _, h | .str _, .nilslice, h | .str _, .slice _ _ _ _, h | .str _, .nilmap, h | .str _, .map _, h | .str _, .nilfunc, h | .str _, .func _ _ _, h | .str _, .nilIface, h | .str _, .iface _ _, h | .str _, .agg _, h | .str _, .tuple _, h | .str _, .opq _, h | .str _, .ostr _, h | .str _, .oslice _, h | .str _, .optr _ _, h | .str _, .yld _, h => by simp [beqSV] at h
  | .nilptr, .bool _, h | .nilptr, .int _ _, h | .nilptr, .str _, h | .nilptr, .ptr _ _, h | .nilptr, .nilslice, h | .nilptr, .slice _ _ _ _, h | .nilptr, .nilmap, h | .nilptr, .map _, h | .nilptr, .nilfunc, h | .nilptr, .func _ _ _, h | .nilptr, .nilIface, h | .nilptr, .iface _ _, h | .nilptr, .agg _, h | .nilptr, .tuple _, h | .nilptr, .opq _, h | .nilptr, .ostr _, h | .nilptr, .oslice _, h | .nilptr, .optr _ _, h | .nilptr, .yld _, h => by simp [beqSV] at h
  | .ptr _ _, .bool _, h | .ptr _ _, .int _ _, h | .ptr _ _, .str _, h | .ptr _ _, .nilptr, h | .ptr _ _, .nilslice, h | .ptr _ _, .slice _ _ _ _, h | .ptr _ _, .nilmap, h | .ptr _ _, .map _, h | .ptr _ _, .nilfunc, h | .ptr _ _, .func _ _ _, h | .ptr _ _, .nilIface, h | .ptr _ _, .iface _ _, h | .ptr _ _, .agg _, h | .ptr _ _, .tuple _, h | .ptr _ _, .opq _, h | .ptr _ _, .ostr _, h | .ptr _ _, .oslice _, h | .ptr _ _, .optr _ _, h | .ptr _ _, .yld _, h => by simp [beqSV] at h
  | .nilslice, .bool _, h | .nilslice, .int _ _, h | .nilslice, .str _, h | .nilslice, .nilptr, h | .nilslice, .ptr _ _, h | .nilslice, .slice _ _ _ _, h | .nilslice, .nilmap, h | .nilslice, .map _, h | .nilslice, .nilfunc, h | .nilslice, .func _ _ _, h | .nilslice, .nilIface, h | .nilslice, .iface _ _, h | .nilslice, .agg _, h | .nilslice, .tuple _, h | .nilslice, .opq _, h | .nilslice, .ostr _, h | .nilslice, .oslice _, h | .nilslice, .optr _ _, h | .nilslice, .yld _, h => by simp [beqSV] at h
  | .slice _ _ _ _, .bool _, h | .slice _ _ _ _, .int _ _, h | .slice _ _ _ _, .str _, h | .slice _ _ _ _, .nilptr, h | .slice _ _ _ _, .ptr _ _, h | .slice _ _ _ _, .nilslice, h | .slice _ _ _ _, .nilmap, h | .slice _ _ _ _, .map _, h | .slice _ _ _ _, .nilfunc, h | .slice _ _ _ _, .func _ _ _, h | .slice _ _ _ _, .nilIface, h | .slice _ _ _ _, .iface _ _, h | .slice _ _ _ _, .agg _, h | .slice _ _ _ _, .tuple _, h | .slice _ _ _ _, .opq _, h | .slice _ _ _ _, .ostr _, h | .slice _ _ _ _, .oslice _, h | .slice _ _ _ _, .optr _ _, h | .slice _ _ _ _, .yld _, h => by simp [beqSV] at h
  | .nilmap, .bool _, h | .nilmap, .int _ _, h | .nilmap, .str _, h | .nilmap, .nilptr, h | .nilmap, .ptr _ _, h | .nilmap, .nilslice, h | .nilmap, .slice _ _ _ _, h | .nilmap, .map _, h | .nilmap, .nilfunc, h | .nilmap, .func _ _ _, h | .nilmap, .nilIface, h | .nilmap, .iface _ _, h | .nilmap, .agg _, h | .nilmap, .tuple _, h | .nilmap, .opq _, h | .nilmap, .ostr _, h | .nilmap, .oslice _, h | .nilmap, .optr _ _, h | .nilmap, .yld _, h => by simp [beqSV] at h
  | .map _, .bool _, h | .map _, .int _ _, h | .map _, .str _, h | .map _, .nilptr, h | .map _, .ptr _ _, h | .map _, .nilslice, h | .map _, .slice _ _ _ _, h | .map _, .nilmap, h | .map _, .nilfunc, h | .map _, .func _ _ _, h | .map _, .nilIface, h | .map _, .iface _ _, h | .map _, .agg _, h | .map _, .tuple _, h | .map _, .opq _, h | .map _, .ostr _, h | .map _, .oslice _, h | .map _, .optr _ _, h | .map _, .yld _, h => by simp [beqSV] at h
  | .nilfunc, .bool _, h | .nilfunc, .int _ _, h | .nilfunc, .str _, h | .nilfunc, .nilptr, h | .nilfunc, .ptr _ _, h | .nilfunc, .nilslice, h | .nilfunc, .slice _ _ _ _, h | .nilfunc, .nilmap, h | .nilfunc, .map _, h | .nilfunc, .func _ _ _, h | .nilfunc, .nilIface, h | .nilfunc, .iface _ _, h | .nilfunc, .agg _, h | .nilfunc, .tuple _, h | .nilfunc, .opq _, h | .nilfunc, .ostr _, h | .nilfunc, .oslice _, h | .nilfunc, .optr _ _, h | .nilfunc, .yld _, h => by simp [beqSV] at h
  | .func _ _ _, .bool _, h | .func _ _ _, .int _ _, h | .func _ _ _, .str _, h | .func _ _ _, .nilptr, h | .func _ _ _, .ptr _ _, h | .func _ _ _, .nilslice, h | .func _ _ _, .slice _ _ _ _, h | .func _ _ _, .nilmap, h | .func _ _ _, .map _, h | .func _ _ _, .nilfunc, h | .func _ _ _, .nilIface, h | .func _ _ _, .iface _ _, h | .func _ _ _, .agg _, h | .func _ _ _, .tuple _, h | .func _ _ _, .opq _, h | .func _ _ _, .ostr _, h | .func _ _ _, .oslice _, h | .func _ _ _, .optr _ _, h | .func _ _ _, .yld _, h => by simp [beqSV] at h
  | .nilIface, .bool _, h | .nilIface, .int _ _, h | .nilIface, .str _, h | .nilIface, .nilptr, h | .nilIface, .ptr _ _, h | .nilIface, .nilslice, h | .nilIface, .slice _ _ _ _, h | .nilIface, .nilmap, h | .nilIface, .map _, h | .nilIface, .nilfunc, h | .nilIface, .func _ _ _, h | .nilIface, .iface _ _, h | .nilIface, .agg _, h | .nilIface, .tuple _, h | .nilIface, .opq _, h | .nilIface, .ostr _, h | .nilIface, .oslice _, h | .nilIface, .optr _ _, h | .nilIface, .yld _, h => by simp [beqSV] at h
  | .iface _ _, .bool _, h | .iface _ _, .int _ _, h | .iface _ _, .str _, h | .iface _ _, .nilptr, h | .iface _ _, .ptr _ _, h | .iface _ _, .nilslice, h | .iface _ _, .slice _ _ _ _, h | .iface _ _, .nilmap, h | .iface _ _, .map _, h | .iface _ _, .nilfunc, h | .iface _ _, .func _ _ _, h | .iface _ _, .nilIface, h | .iface _ _, .agg _, h | .iface _ _, .tuple _, h | .iface _ _, .opq _, h | .iface _ _, .ostr _, h | .iface _ _, .oslice _, h | .iface _ _, .optr _ _, h | .iface _ _, .yld _, h => by simp [beqSV] at h
  | .agg _, .bool _, h | .agg _, .int _ _, h | .agg _, .str _, h | .agg _, .nilptr, h | .agg _, .ptr _ _, h | .agg _, .nilslice, h | .agg _, .slice _ _ _ _, h | .agg _, .nilmap, h | .agg _, .map _, h | .agg _, .nilfunc, h | .agg _, .func _ _ _, h | .agg _, .nilIface, h | .agg _, .iface _ _, h | .agg _, .tuple _, h | .agg _, .opq _, h | .agg _, .ostr _, h | .agg _, .oslice _, h | .agg _, .optr _ _, h | .agg _, .yld _, h => by simp [beqSV] at h
  | .tuple _, .bool _, h | .tuple _, .int _ _, h | .tuple _, .str _, h | .tuple _, .nilptr, h | .tuple _, .ptr _ _, h | .tuple _, .nilslice, h | .tuple _, .slice _ _ _ _, h | .tuple _, .nilmap, h | .tuple _, .map _, h | .tuple _, .nilfunc, h | .tuple _, .func _ _ _, h | .tuple _, .nilIface, h | .tuple _, .iface _ _, h | .tuple _, .agg _, h | .tuple _, .opq _, h | .tuple _, .ostr _, h | .tuple _, .oslice _, h | .tuple _, .optr _ _, h | .tuple _, .yld _, h => by simp [beqSV] at h
  | .opq _, .bool _, h | .opq _, .int _ _, h | .opq _, .str _, h | .opq _, .nilptr, h | .opq _, .ptr _ _, h | .opq _, .nilslice, h | .opq _, .slice _ _ _ _, h | .opq _, .nilmap, h | .opq _, .map _, h | .opq _, .nilfunc, h | .opq _, .func _ _ _, h | .opq _, .nilIface, h | .opq _, .iface _ _, h | .opq _, .agg _, h | .opq _, .tuple _, h | .opq _, .ostr _, h | .opq _, .oslice _, h | .opq _, .optr _ _, h | .opq _, .yld _, h => by simp [beqSV] at h
  | .ostr _, .bool _, h | .ostr _, .int _ _, h | .ostr _, .str _, h | .ostr _, .nilptr, h | .ostr _, .ptr _ _, h | .ostr _, .nilslice, h | .ostr _, .slice _ _ _ _, h | .ostr _, .nilmap, h | .ostr _, .map _, h | .ostr _, .nilfunc, h | .ostr _, .func _ _ _, h | .ostr _, .nilIface, h | .ostr _, .iface _ _, h | .ostr _, .agg _, h | .ostr _, .tuple _, h | .ostr _, .opq _, h | .ostr _, .oslice _, h | .ostr _, .optr _ _, h | .ostr _, .yld _, h => by simp [beqSV] at h
  | .oslice _, .bool _, h | .oslice _, .int _ _, h | .oslice _, .str _, h | .oslice _, .nilptr, h | .oslice _, .ptr _ _, h | .oslice _, .nilslice, h | .oslice _, .slice _ _ _ _, h | .oslice _, .nilmap, h | .oslice _, .map _, h | .oslice _, .nilfunc, h | .oslice _, .func _ _ _, h | .oslice _, .nilIface, h | .oslice _, .iface _ _, h | .oslice _, .agg _, h | .oslice _, .tuple _, h | .oslice _, .opq _, h | .oslice _, .ostr _, h | .oslice _, .optr _ _, h | .oslice _, .yld _, h => by simp [beqSV] at h
  | .optr _ _, .bool _, h | .optr _ _, .int _ _, h | .optr _ _, .str _, h | .optr _ _, .nilptr, h | .optr _ _, .ptr _ _, h | .optr _ _, .nilslice, h | .optr _ _, .slice _ _ _ _, h | .optr _ _, .nilmap, h | .optr _ _, .map _, h | .optr _ _, .nilfunc, h | .optr _ _, .func _ _ _, h | .optr _ _, .nilIface, h | .optr _ _, .iface _ _, h | .optr _ _, .agg _, h | .optr _ _, .tuple _, h | .optr _ _, .opq _, h | .optr _ _, .ostr _, h | .optr _ _, .oslice _, h | .optr _ _, .yld _, h => by simp [beqSV] at h
  | .yld _, .bool _, h | .yld _, .int _ _, h | .yld _, .str _, h | .yld _, .nilptr, h | .yld _, .ptr _ _, h | .yld _, .nilslice, h | .yld _, .slice _ _ _ _, h | .yld _, .nilmap, h | .yld _, .map _, h | .yld _, .nilfunc, h | .yld _, .func _ _ _, h | .yld _, .nilIface, h | .yld _, .iface _ _, h | .yld _, .agg _, h | .yld _, .tuple _, h | .yld _, .opq _, h | .yld _, .ostr _, h | .yld _, .oslice _, h | .yld _, .optr _ _, h => by simp [beqSV] at h
theorem beqSVs_eq : ∀ (a b : List SV), beqSVs a b = true → a = b
  | [], [], _ => rfl
  | a :: r, b :: s, h => by
    simp only [beqSVs] at h
    split at h
    · rename_i h1; rw [beqSV_eq a b h1, beqSVs_eq r s h]
    · cases h
  | [], _ :: _, h => by simp [beqSVs] at h
  | _ :: _, [], h => by simp [beqSVs] at h
end

noncomputable def beqO : Option Nat → Option Nat → Bool
  | none, none => true
  | some a, some b => Nat.beq a b
  | _, _ => false

noncomputable def beqEs : List (SV × SV) → List (SV × SV) → Bool
  | [], [] => true
  | (a, b) :: r, (c, d) :: s => match beqSV a c with
    | true => match beqSV b d with
      | true => beqEs r s
      | false => false
    | false => false
  | _, _ => false

theorem beqEs_eq : ∀ {a b : List (SV × SV)}, beqEs a b = true → a = b
  | [], [], _ => rfl
  | (a, b) :: r, (c, d) :: s, h => by
    simp only [beqEs] at h
    split at h
    · rename_i h1
      split at h
      · rename_i h2; rw [beqSV_eq _ _ h1, beqSV_eq _ _ h2, beqEs_eq h]
      · cases h
    · cases h
  | [], _ :: _, h => by simp [beqEs] at h
  | _ :: _, [], h => by simp [beqEs] at h

/-- The same memory. -/
noncomputable def beqAO : AO → AO → Bool
  | .cells a e s m, .cells b f t k => match beqSVs a b with
    | true => match Nat.beq e f with
      | true => match beqO s t with
        | true => match m with | true => k | false => notB k
        | false => false
      | false => false
    | false => false
  | .map a, .map b => beqEs a b
  | .ro a, .ro b => beqSVs a b
  | _, _ => false

theorem beqO_eq {a b : Option Nat} (h : beqO a b = true) : a = b := by
  cases a <;> cases b <;> simp only [beqO] at h <;> first | rfl | (cases h; done) | (rw [Nat.eq_of_beq_eq_true h])

theorem beqB2 {m k : Bool} (h : (match m with | true => k | false => notB k) = true) : m = k := by
  cases m <;> cases k <;> first | rfl | (simp [notB] at h)

theorem beqAO_eq {a b : AO} (h : beqAO a b = true) : a = b := by
  cases a <;> cases b <;> simp only [beqAO] at h <;> try (cases h; done)
  · split at h
    · rename_i h1
      split at h
      · rename_i h2
        split at h
        · rename_i h3
          rw [beqSVs_eq _ _ h1, Nat.eq_of_beq_eq_true h2, beqO_eq h3, beqB2 h]
        · cases h
      · cases h
    · cases h
  · rw [beqEs_eq h]
  · rw [beqSVs_eq _ _ h]

/-- Such memory is there. -/
noncomputable def subH (h : Tr AO) : List (Nat × AO) → Bool
  | [] => true
  | (k, o) :: r => match h.get k with
    | none => false
    | some o' => match beqAO o' o with
      | true => subH h r
      | false => false

theorem subH_ok {h : Tr AO} : ∀ {l : List (Nat × AO)} {a a' : Tr AO}, subH h l = true → addH l a = some a' → (∀ id o, a.get id = some o → h.get id = some o) → ∀ id o, a'.get id = some o → h.get id = some o
  | [], a, a', _, h2, k => by
    simp only [addH, Option.some.injEq] at h2
    subst h2
    exact k
  | (j, o) :: r, a, a', h1, h2, k => by
    simp only [subH] at h1
    split at h1
    · cases h1
    rename_i o' hj
    split at h1
    case h_2 => cases h1
    rename_i hb
    simp only [addH] at h2
    split at h2
    · cases h2
    rename_i a1 hu
    refine subH_ok h1 h2 (fun id x hx => ?_)
    rw [Tr.get_upd _ _ _ _ _ hu] at hx
    by_cases e : id = j
    · rw [if_pos e] at hx; cases hx
      rw [e, hj, beqAO_eq hb]
    · rw [if_neg e] at hx; exact k id x hx

noncomputable def partX : List Part → Nat → List SV → Nat → Option Part
  | [], _, _, _ => none
  | p :: r, f, args, n => match Nat.beq p.f f with
    | false => partX r f args n
    | true => match Nat.beq p.n n with
      | false => partX r f args n
      | true => match beqSVs p.args args with
        | true => some p
        | false => partX r f args n

theorem partX_ok : ∀ {l : List Part} {f : Nat} {args : List SV} {n : Nat} {p : Part}, partX l f args n = some p → p ∈ l ∧ p.f = f ∧ p.n = n ∧ p.args = args
  | [], _, _, _, _, h => by cases h
  | q :: r, f, args, n, p, h => by
    have tl : partX r f args n = some p → p ∈ q :: r ∧ p.f = f ∧ p.n = n ∧ p.args = args := fun h => by
      obtain ⟨a, b⟩ := partX_ok h
      exact ⟨List.mem_cons_of_mem _ a, b⟩
    simp only [partX] at h
    split at h
    · exact tl h
    rename_i h1
    split at h
    · exact tl h
    rename_i h2
    split at h
    · rename_i h3
      cases h
      exact ⟨List.mem_cons_self, Nat.eq_of_beq_eq_true h1, Nat.eq_of_beq_eq_true h2, beqSVs_eq _ _ h3⟩
    · exact tl h

/-- A part's memory in the place of what was there. -/
noncomputable def usePart (p : Part) (h : Tr AO) : Option (Tr AO) := match subH h p.old with
  | false => none
  | true => match delH p.old h with
    | none => none
    | some h1 => addH p.new h1

noncomputable def hookX : List Hook → Nat → List SV → Option SV
  | [], _, _ => none
  | k :: r, f, args => match Nat.beq k.f f with
    | false => hookX r f args
    | true => match beqSVs k.args args with
      | true => some k.res
      | false => hookX r f args

theorem hookX_ok : ∀ {l : List Hook} {f : Nat} {args : List SV} {v : SV}, hookX l f args = some v → ∃ hk ∈ l, hk.f = f ∧ hk.args = args ∧ hk.res = v
  | [], f, args, v, h => by cases h
  | k :: r, f, args, v, h => by
    simp only [hookX] at h
    have tl : hookX r f args = some v → ∃ hk ∈ k :: r, hk.f = f ∧ hk.args = args ∧ hk.res = v := fun h => by
      obtain ⟨hk, a, b⟩ := hookX_ok h
      exact ⟨hk, List.mem_cons_of_mem _ a, b⟩
    split at h
    · exact tl h
    rename_i h1
    split at h
    · rename_i h2
      cases h
      exact ⟨k, List.mem_cons_self, Nat.eq_of_beq_eq_true h1, beqSVs_eq _ _ h2, rfl⟩
    · exact tl h

inductive Ex where
  | normal
  | exit (id : Nat)
  | ret
  | panic (v : SV)

/-- A panic of a value. -/
noncomputable def panicOf (x : Value) : List PanicEntry := [{ v := x, recovered := false }]

noncomputable def Ex.is (E : Env) (r : Ex) (e : Exit) : Prop := match r with
  | .normal => e = .normal
  | .exit id => e = .exit id
  | .ret => e = .ret
  | .panic v => ∃ x, v.den E = some x ∧ e = .panic (panicOf x)

noncomputable def putX (sz : Nat) (t : Tr SV) (dst : Option Tmp) (v : SV) : Option (Tr SV) := match dst with
  | none => some t
  | some d => match Nat.blt d sz with
    | true => Tr.upd 24 t d (some v)
    | false => none

noncomputable def wantedX (ops : List Oper) (t : Tr SV) (o : Oper) : Option Bool := match o.guard with
  | none => some true
  | some (j, want) => match ops[j]? with
    | none => some false
    | some g => match g.dst with
      | none => some false
      | some d => match t.get d with
        | some (.bool b) => some (match b with | true => want | false => notB want)
        | some (.tuple _) => some false
        | _ => none

noncomputable def argsT : List SV → Nat → Tr SV → Option (Tr SV)
  | [], _, t => some t
  | v :: r, k, t => match Tr.upd 24 t k (some v) with
    | some t' => argsT r (Nat.succ k) t'
    | none => none

noncomputable def resX (C : Cx) (t : Tr SV) (h : Tr AO) : List ResultVar → Option (List SV)
  | [] => some []
  | .tmp k :: r => match t.get k with
    | none => none
    | some v => match resX C t h r with
      | none => none
      | some l => some (v :: l)
  | .cell k ty :: r => match t.get k with
    | none => none
    | some a => match xLoad C h ty a with
      | none => none
      | some v => match resX C t h r with
        | none => none
        | some l => some (v :: l)

noncomputable def oneX (l : List SV) : SV := match l with
  | [v] => v
  | l => .tuple l

/-- The last one, and what comes before. -/
noncomputable def lastX : List Oper → Option (List Oper × Oper)
  | [] => none
  | o :: r => match lastX r with
    | none => some ([], o)
    | some (l, x) => some (o :: l, x)

theorem lastX_ok : ∀ {ops pre : List Oper} {o : Oper}, lastX ops = some (pre, o) → ops = pre ++ [o]
  | [], pre, o, h => by simp [lastX] at h
  | x :: r, pre, o, h => by
    simp only [lastX] at h
    split at h
    · rename_i hr
      cases h
      cases r with
      | nil => rfl
      | cons y r =>
        simp only [lastX] at hr
        split at hr <;> cases hr
    · rename_i l y hr
      cases h
      rw [lastX_ok hr]; rfl

/-- How a frame goes on its way out: it returns; or panics of a value, which may have been recovered. -/
abbrev Md := Option (SV × Bool)

noncomputable def Md.is (E : Env) (m : Md) (u : FrameMode) : Prop := match m with
  | none => u = .returning
  | some (v, r) => ∃ x, v.den E = some x ∧ u = .panicking [{ v := x, recovered := r }]

noncomputable def isRecover : Op → Bool
  | .call c => match c.callee with
    | .builtin .recover => true
    | _ => false
  | _ => false

/-- Operations of a closure that is called on the way out. -/
noncomputable def opsS (C : Cx) (sz : Nat) : List Oper → St → Md → Option (St × Md)
  | [], s, m => some (s, m)
  | o :: r, s, m => match o.guard with
    | some _ => none
    | none => match isRecover o.op with
      | true => match m with
        | some (v, false) => match putX sz s.t o.dst v with
          | some t' => opsS C sz r ⟨t', s.h, s.n⟩ (some (v, true))
          | none => none
        | m => match putX sz s.t o.dst .nilIface with
          | some t' => opsS C sz r ⟨t', s.h, s.n⟩ m
          | none => none
      | false => match kindX C o.op with
        | .quiet => match quietX C s.t s.h o.op with
          | none => none
          | some v => match putX sz s.t o.dst v with
            | some t' => opsS C sz r ⟨t', s.h, s.n⟩ m
            | none => none
        | .alloc => match allocX C s.t s.n o.op with
          | none => none
          | some (v, ao) => match Tr.upd 48 s.h s.n (some ao) with
            | none => none
            | some h' => match putX sz s.t o.dst v with
              | some t' => opsS C sz r ⟨t', h', Nat.succ s.n⟩ m
              | none => none
        | .write => match writeX C s.t s.h s.n o.op with
          | some (.val v h' n') => match putX sz s.t o.dst v with
            | some t' => opsS C sz r ⟨t', h', n'⟩ m
            | none => none
          | some (.skip h') => match putX sz s.t o.dst (.tuple []) with
            | some t' => opsS C sz r ⟨t', h', s.n⟩ m
            | none => none
          | _ => none

/-- true: off its end; false: by a return. -/
noncomputable def execS (C : Cx) (sz : Nat) : Code → St → Md → Option (Bool × St × Md)
  | .skip, s, m => some (true, s, m)
  | .ret, s, m => some (false, s, m)
  | .seq a b, s, m => match execS C sz a s m with
    | none => none
    | some (true, s', m') => execS C sz b s' m'
    | some (false, s', m') => some (false, s', m')
  | .cond x a b, s, m => match getX C.g0 s.t x with
    | some (.bool true) => execS C sz a s m
    | some (.bool false) => execS C sz b s m
    | _ => none
  | .region _ ops false, s, m => match opsS C sz ops.toList s m with
    | none => none
    | some (s', m') => some (true, s', m')
  | _, _, _ => none

section
variable {P : Program} {C : Cx} (hC : C.Ok P)

theorem run_recover {ρ : Operand → Value} {o : Oper} {w : World} (h : isRecover o.op = true) : (execOp ρ o).run P w = .ok .recover w := by
  obtain ⟨dst, op, ty0, pos, after, guard⟩ := o
  simp only at h
  unfold isRecover at h
  split at h
  case h_2 => cases h
  rename_i c
  split at h
  case h_2 => cases h
  rename_i hc
  simp only [execOp, resolve, hc, Sem.run_bind, Sem.run_pure, Result.andThen_ok, invoke, builtin]

theorem putX_tm {sz : Nat} {E E' : Env} {t t' : Tr SV} {a : Act} {dst : Option Tmp} {v : SV} {x : Value} (h : putX sz t dst v = some t') (hsz : a.tmps.size = sz) (hle : E.le E') (ht : ∀ k v, t.get k = some v → ∃ x, a.tmps[k]? = some x ∧ v.den E = some x) (hv : v.den E' = some x) :
    ∀ k v, t'.get k = some v → ∃ y, (a.put dst x).tmps[k]? = some y ∧ v.den E' = some y := by
  unfold putX at h
  split at h
  · cases h; exact tm_mono hle ht
  · rename_i k
    split at h
    · rename_i hb
      exact tm_put (tm_mono hle ht) h (by rw [hsz]; simpa [Nat.blt_eq] using hb) hv
    · cases h

theorem act_sz {a : Act} {dst : Option Tmp} {x : Value} : (a.put dst x).tmps.size = a.tmps.size := by cases dst <;> simp [Act.put]
theorem act_df {a : Act} {dst : Option Tmp} {x : Value} : (a.put dst x).defers = a.defers := by cases dst <;> rfl

theorem Md.is_mono {E E' : Env} (h : E.le E') {m : Md} {u : FrameMode} (k : m.is E u) : m.is E' u := by
  cases m with
  | none => exact k
  | some p => obtain ⟨x, h1, h2⟩ := k; exact ⟨x, SV.den_mono h _ _ h1, h2⟩

include hC
theorem opsS_ok {sz : Nat} {ops : Array Oper} {c₀ : Frame} {rest : List Frame} {Q : Exit → Act → List Frame → World → Prop} : ∀ {l : List Oper} {i : Nat}, (∀ j, l[j]? = ops[i + j]?) → ∀ {s s' : St} {m m' : Md}, opsS C sz l s m = some (s', m') →
    ∀ {E : Env} {a : Act} {w : World} {u : FrameMode}, SR C [] E sz s a w → m.is E u →
    (∀ E' a' w' u', m'.is E' u' → SR C [] E' sz s' a' w' → Post C E s.h s.n w E' s'.h s'.n w' → Q .normal a' ({ c₀ with mode := u' } :: rest) w') → wpOpsSIn Fence.wide 0 P ops Q (List.range' i l.length) a ({ c₀ with mode := u } :: rest) w
  | [], i, hl, s, s', m, m', h, E, a, w, u, sr, hm, hQ => by
    simp only [opsS, Option.some.injEq, Prod.mk.injEq] at h
    obtain ⟨rfl, rfl⟩ := h
    exact hQ E a w u hm sr (Post.refl sr.sh)
  | o :: r, i, hl, s, s', m, m', h, E, a, w, u, sr, hm, hQ => by
    have ho : ops[i]? = some o := by have := hl 0; simpa using this.symm
    have hl' : ∀ j, r[j]? = ops[i + 1 + j]? := fun j => by have := hl (j + 1); rw [show i + 1 + j = i + (j + 1) by omega]; simpa using this
    have hget : ∀ x v, x ∈ o.op.operands → getX C.g0 s.t x = some v → v.den E = some (a.eval x) := fun x v _ hv => sr.getX hv
    have go : ∀ {s1 : St} {m1 : Md} {E1 : Env} {a1 : Act} {w1 : World} {u1 : FrameMode}, opsS C sz r s1 m1 = some (s', m') → SR C [] E1 sz s1 a1 w1 → m1.is E1 u1 → Post C E s.h s.n w E1 s1.h s1.n w1 →
        wpOpsSIn Fence.wide 0 P ops Q (List.range' (i + 1) r.length) a1 ({ c₀ with mode := u1 } :: rest) w1 :=
      fun h1 h2 h3 h4 => opsS_ok hl' h1 h2 h3 (fun E' a' w' u' k0 k1 k2 => hQ E' a' w' u' k0 k1 (h4.trans k2))
    have srput : ∀ {E1 : Env} {t1 : Tr SV} {h1 : Tr AO} {n1 : Nat} {w1 : World} {v : SV} {x : Value}, putX sz s.t o.dst v = some t1 → v.den E1 = some x → Post C E s.h s.n w E1 h1 n1 w1 → SR C [] E1 sz ⟨t1, h1, n1⟩ (a.put o.dst x) w1 :=
      fun k1 k2 k3 => ⟨putX_tm k1 sr.sz k3.fr.le sr.tm k2, by rw [act_sz]; exact sr.sz, by rw [act_df]; exact sr.df, k3.sh⟩
    simp only [opsS] at h
    split at h
    · cases h
    rename_i hg
    have hw : Region.wanted o (yielded ops a.tmps) = true := by simp [Region.wanted, hg]
    rw [List.length_cons, List.range'_succ]
    unfold wpOpsSIn
    simp only [ho, hw, if_true]
    refine ⟨fun _ _ => trivial, ?_⟩
    split at h
    · rename_i hrec
      rw [run_recover hrec]
      simp only
      split at h
      · rename_i v
        obtain ⟨x, hx, rfl⟩ := hm
        split at h
        case h_2 => cases h
        rename_i t1 ht1
        simp only [recoverD]
        exact go h (srput ht1 hx (Post.refl sr.sh)) ⟨x, hx, rfl⟩ (Post.refl sr.sh)
      · rename_i m0 hm0
        split at h
        case h_2 => cases h
        rename_i t1 ht1
        have hnone : recoverD ({ c₀ with mode := u } :: rest) = none := by
          cases m with
          | none => cases hm; rfl
          | some p =>
            obtain ⟨v, b⟩ := p
            obtain ⟨x, _, rfl⟩ := hm
            cases b with
            | true => rfl
            | false => exact absurd rfl (hm0 v)
        simp only [hnone]
        exact go h (srput ht1 (x := .nilIface) rfl (Post.refl sr.sh)) hm (Post.refl sr.sh)
    · split at h
      · split at h
        · cases h
        rename_i v hq
        split at h
        case h_2 => cases h
        rename_i t1 ht1
        obtain ⟨x, hr, hd⟩ := quietX_ok hC sr.sh hget hq
        rw [hr]
        exact go h (srput ht1 hd (Post.refl sr.sh)) hm (Post.refl sr.sh)
      · split at h
        · cases h
        rename_i v ao hq
        split at h
        · cases h
        rename_i h1 hu
        split at h
        case h_2 => cases h
        rename_i t1 ht1
        obtain ⟨O, y, hr, room, hd, hrel⟩ := allocX_ok hC (sr.sh.fresh _ (Nat.le_refl _)) hget hq
        rw [hr]
        have hp := Post.alloc (O := O) sr.sh hu hrel
        exact go h (srput ht1 hd hp) (Md.is_mono hp.fr.le hm) hp
      · split at h
        · rename_i v h1 n1 hq
          split at h
          case h_2 => cases h
          rename_i t1 ht1
          obtain ⟨E', x, w', hr, hd, hp⟩ := writeX_ok hC sr.sh hget hq
          rw [hr]
          exact go h (srput ht1 hd hp) (Md.is_mono hp.fr.le hm) hp
        · rename_i h1 hq
          split at h
          case h_2 => cases h
          rename_i t1 ht1
          obtain ⟨w', hr, hp⟩ := writeX_ok hC sr.sh hget hq
          rw [hr]
          exact go h (srput ht1 (x := undef) rfl hp) hm hp
        · cases h

theorem execS_ok {sz : Nat} {c₀ : Frame} {rest : List Frame} : ∀ {c : Code} {s : St} {m : Md} {b : Bool} {s' : St} {m' : Md}, execS C sz c s m = some (b, s', m') → ∀ {E : Env} {a : Act} {w : World} {u : FrameMode} {Q : Exit → Act → List Frame → World → Prop}, SR C [] E sz s a w → m.is E u →
    (∀ E' a' w' u', m'.is E' u' → SR C [] E' sz s' a' w' → Post C E s.h s.n w E' s'.h s'.n w' → Q (match b with | true => .normal | false => .ret) a' ({ c₀ with mode := u' } :: rest) w') → c.wpSIn Fence.wide 0 P Q a ({ c₀ with mode := u } :: rest) w
  | .skip, s, m, b, s', m', h, E, a, w, u, Q, sr, hm, hQ => by
    simp only [execS, Option.some.injEq, Prod.mk.injEq] at h
    obtain ⟨rfl, rfl, rfl⟩ := h
    exact wpSIn_of_wpIn rfl (wpIn_skip (hQ E a w u hm sr (Post.refl sr.sh)))
  | .ret, s, m, b, s', m', h, E, a, w, u, Q, sr, hm, hQ => by
    simp only [execS, Option.some.injEq, Prod.mk.injEq] at h
    obtain ⟨rfl, rfl, rfl⟩ := h
    exact wpSIn_of_wpIn rfl (wpIn_ret (hQ E a w u hm sr (Post.refl sr.sh)))
  | .seq x y, s, m, b, s', m', h, E, a, w, u, Q, sr, hm, hQ => by
    simp only [execS] at h
    split at h
    · cases h
    · rename_i s1 m1 h1
      refine wpSIn_seq (execS_ok h1 sr hm (fun E1 a1 w1 u1 k0 k1 k2 => ?_))
      exact execS_ok h k1 k0 (fun E' a' w' u' j0 j1 j2 => hQ E' a' w' u' j0 j1 (k2.trans j2))
    · rename_i s1 m1 h1
      simp only [Option.some.injEq, Prod.mk.injEq] at h
      obtain ⟨rfl, rfl, rfl⟩ := h
      refine wpSIn_seq (execS_ok h1 sr hm (fun E1 a1 w1 u1 k0 k1 k2 => ?_))
      exact hQ E1 a1 w1 u1 k0 k1 k2
  | .cond x y z, s, m, b, s', m', h, E, a, w, u, Q, sr, hm, hQ => by
    simp only [execS] at h
    split at h
    · rename_i hb
      have hd := sr.getX hb
      simp only [SV.den, Option.some.injEq] at hd
      exact wpSIn_cond (t := true) hd.symm (execS_ok h sr hm hQ)
    · rename_i hb
      have hd := sr.getX hb
      simp only [SV.den, Option.some.injEq] at hd
      exact wpSIn_cond (t := false) hd.symm (execS_ok h sr hm hQ)
    · cases h
  | .region id ops false, s, m, b, s', m', h, E, a, w, u, Q, sr, hm, hQ => by
    simp only [execS] at h
    split at h
    · cases h
    rename_i s1 m1 h1
    simp only [Option.some.injEq, Prod.mk.injEq] at h
    obtain ⟨rfl, rfl, rfl⟩ := h
    refine wpSIn_region ?_
    have := opsS_ok hC (P := P) (ops := ops) (i := 0) (c₀ := c₀) (rest := rest) (Q := Q) (fun j => by simp) h1 sr hm (fun E' a' w' u' k0 k1 k2 => hQ E' a' w' u' k0 k1 k2)
    rw [List.range_eq_range']
    simpa using this
  | .region _ _ true, _, _, _, _, _, h, _, _, _, _, _, _, _, _ => by simp [execS] at h
  | .block _ _, _, _, _, _, _, h, _, _, _, _, _, _, _, _ => by simp [execS] at h
  | .loop _, _, _, _, _, _, h, _, _, _, _, _, _, _, _ => by simp [execS] at h
  | .exit _, _, _, _, _, _, h, _, _, _, _, _, _, _, _ => by simp [execS] at h
  | .label _, _, _, _, _, _, h, _, _, _, _, _, _, _, _ => by simp [execS] at h
  | .goto _, _, _, _, _, _, h, _, _, _, _, _, _, _, _ => by simp [execS] at h
  | .scope _, _, _, _, _, _, h, _, _, _, _, _, _, _, _ => by simp [execS] at h
  | .rangeFunc _ _ _ _, _, _, _, _, _, h, _, _, _, _, _, _, _, _ => by simp [execS] at h
  | .refuse _, _, _, _, _, _, h, _, _, _, _, _, _, _, _ => by simp [execS] at h
end

/-! ### A function that defers a call -/
noncomputable def quietL (C : Cx) (sz : Nat) (h : Tr AO) : List Oper → Tr SV → Option (Tr SV)
  | [], t => some t
  | o :: r, t => match o.guard with
    | some _ => none
    | none => match kindX C o.op with
      | .quiet => match quietX C t h o.op with
        | none => none
        | some v => match putX sz t o.dst v with
          | some t' => quietL C sz h r t'
          | none => none
      | _ => none

noncomputable def deferR : Code → Option (List Oper × Oper)
  | .region _ ops false => match lastX ops.toList with
    | some (pre, o) => match o.op with
      | .defer _ => some (pre, o)
      | _ => none
    | none => none
  | _ => none

noncomputable def splitD : Code → Option (List Code × List Oper × Oper × Code)
  | .seq x y => match deferR x with
    | some (pre, o) => some ([], pre, o, y)
    | none => match splitD y with
      | none => none
      | some (l, r) => some (x :: l, r)
  | _ => none

noncomputable def exL (ex : Nat → Code → St → Option (Ex × St)) (sz : Nat) : List Code → St → Option St
  | [], s => some s
  | c :: r, s => match ex sz c s with
    | some (.normal, s') => exL ex sz r s'
    | _ => none

noncomputable def deferOp (C : Cx) (t : Tr SV) (o : Oper) : Option (Nat × List SV × List SV) := match o.guard with
  | some _ => none
  | none => match o.op with
    | .defer c => match c.callee with
      | .value f => match getX C.g0 t f with
        | some (.func (.func g) fst cap) => match getL C.g0 t c.args.toList with
          | some args => some (g, fst ++ args, cap)
          | none => none
        | _ => none
      | _ => none
    | _ => none

noncomputable def defX (C : Cx) (g : Nat) (args : List SV) (m : Md) (h : Tr AO) (n : Nat) : Option (Md × Tr AO × Nat) := match C.ft.get g with
  | none => none
  | some fn => match fn.results.toList with
    | _ :: _ => none
    | [] => match fn.body with
      | none => none
      | some c => match argsT args 0 .nil with
        | none => none
        | some t => match execS C (Nat.add args.length (Nat.sub fn.ntmps args.length)) c ⟨t, h, n⟩ m with
          | none => none
          | some (_, s', m') => some (m', s'.h, s'.n)

noncomputable def mdOf : Ex → Option Md
  | .normal => some none
  | .ret => some none
  | .panic v => some (some (v, false))
  | .exit _ => none

noncomputable def callDX (C : Cx) (ex : Nat → Code → St → Option (Ex × St)) (sz : Nat) (rs : List ResultVar) (c : Code) (s : St) : Option (Bool × SV × Tr AO × Nat) :=
  match splitD c with
  | none => none
  | some (l, pre, o, rest) => match exL ex sz l s with
    | none => none
    | some s1 => match quietL C sz s1.h pre s1.t with
      | none => none
      | some t2 => match deferOp C t2 o with
        | none => none
        | some (g, xs, cap) => match ex sz rest ⟨t2, s1.h, s1.n⟩ with
          | none => none
          | some (e, s3) => match mdOf e with
            | none => none
            | some m => match defX C g (xs ++ cap) m s3.h s3.n with
              | none => none
              | some (m', h4, n4) => match o.dst with
                | some _ => none
                | none => match m' with
                  | some (v, false) => some (true, v, h4, n4)
                  | _ => match resX C s3.t h4 rs with
                    | none => none
                    | some lv => some (false, oneX lv, h4, n4)

noncomputable def callR (C : Cx) (ex : Nat → Code → St → Option (Ex × St)) (f : Nat) (args : List SV) (h : Tr AO) (n : Nat) : Option (Bool × SV × Tr AO × Nat) :=
  match hookX C.hooks f args with
  | some v => some (false, v, h, n)
  | none => match partX C.parts f args n with
   | some p => match usePart p h with
    | none => none
    | some h' => some (false, p.v, h', p.n')
   | none => match C.ft.get f with
    | none => none
    | some fn => match fn.body with
      | none => none
      | some c => match argsT args 0 .nil with
        | none => none
        | some t => match memN C.dfs f with
          | true => callDX C ex (Nat.add args.length (Nat.sub fn.ntmps args.length)) fn.results.toList c ⟨t, h, n⟩
          | false => match ex (Nat.add args.length (Nat.sub fn.ntmps args.length)) c ⟨t, h, n⟩ with
          | none => none
          | some (e, s) => match e with
            | .exit _ => none
            | .panic v => some (true, v, s.h, s.n)
            | _ => match resX C s.t s.h fn.results.toList with
              | none => none
              | some l => some (false, oneX l, s.h, s.n)

noncomputable def callX (C : Cx) (ex : Nat → Code → St → Option (Ex × St)) (f : Nat) (args : List SV) (h : Tr AO) (n : Nat) : Option (SV × Tr AO × Nat) :=
  match callR C ex f args h n with
  | some (p, r) => match p with
    | false => some r
    | true => none
  | none => none

/-- The loop's params take a round's values. -/
noncomputable def putsX (sz : Nat) : List Nat → List SV → Tr SV → Option (Tr SV)
  | [], [], t => some t
  | k :: ks, v :: vs, t => match Nat.blt k sz with
    | false => none
    | true => match Tr.upd 24 t k (some v) with
      | none => none
      | some t' => putsX sz ks vs t'
  | _, _, _ => none

/-- How a round ends: the jump that it leaves. -/
noncomputable def jumpX : Ex → Option (Option Code)
  | .normal => some none
  | .ret => some (some .ret)
  | .exit id => some (some (.exit id))
  | .panic _ => none

/-- A round of a range over a function: the loop's record is not there meanwhile. -/
noncomputable def roundR (C : Cx) (ex : Nat → Code → St → Option (Ex × St)) (h : Tr AO) (n : Nat) (k : Nat) (args : List SV) : Option (Bool × SV × Tr AO × Nat) :=
  match h.get k with
  | some (.loop .ready _ t sz ps assign body) => match (match Nat.ble C.G k with | true => putsX sz ps args t | false => none) with
    | none => none
    | some t1 => match Tr.upd 48 h k none with
      | none => none
      | some h1 => match ex sz assign ⟨t1, h1, n⟩ with
        | some (.normal, s2) => match ex sz body s2 with
          | none => none
          | some (e, s3) => match jumpX e with
            | none => none
            | some none => match Tr.upd 48 s3.h k (some (.loop .ready none t sz ps assign body)) with
              | none => none
              | some h4 => some (false, .bool true, h4, s3.n)
            | some (some j) => match Tr.upd 48 s3.h k (some (.loop .done (some j) t sz ps assign body)) with
              | none => none
              | some h4 => some (false, .bool false, h4, s3.n)
        | _ => none
  | _ => none

/-- An operation that changes memory or calls, or ends the function by a panic. -/
noncomputable def writerR (C : Cx) (ex : Nat → Code → St → Option (Ex × St)) (t : Tr SV) (h : Tr AO) (n : Nat) (op : Op) : Option (Bool × SV × Tr AO × Nat) :=
  match writeX C t h n op with
  | none => none
  | some (.val v h' n') => some (false, v, h', n')
  | some (.skip h') => some (false, .tuple [], h', n)
  | some (.panic ty v) => some (true, .iface ty v, h, n)
  | some (.enter f args) => callR C ex f args h n
  | some (.round k args) => roundR C ex h n k args

/-- A frame of a function's, or of a round's. -/
noncomputable def Fw (ro : Option Nat) : Fence := { Fence.wide with round := ro }

theorem callsFw {P : Program} {ro : Option Nat} {f : FuncId} {args : Array Value} {w : World} {R : Ending → World → Prop} (h : Calls P f args w R) : CallsIn (Fw ro) 0 P f args w R :=
  have h' : CallsIn Fence.wide 0 P f args w R := callsIn_wide.2 h
  ⟨trivial, h'.2⟩

theorem semFw {ro : Option Nat} {ρ : Operand → Value} {o : Oper} (h : ∀ c, o.op ≠ .defer c) : o.semAt (Fw ro).round ρ = execOp ρ o := by
  cases ro with
  | none => exact Oper.semAt_none ρ o
  | some l => exact Oper.semAt_some l ρ o h

/-- The mark of a block for calls that a loop's rounds defer. -/
noncomputable def markD (r : Nat) : Deferred := { target := .collected r, args := #[] }

/-- Such blocks, with nothing in them. -/
structure MkOk (E : Env) (h : Nat → Option AO) (lo : Nat) (w : World) (ms : List Nat) : Prop where
  nd : ms.Nodup
  lo : ∀ r ∈ ms, lo ≤ r
  at_ : ∀ r ∈ ms, w.heap[r]? = some (.deferred (some []))
  off : ∀ r ∈ ms, Off E h r

theorem MkOk.nil {E : Env} {h : Nat → Option AO} {lo : Nat} {w : World} : MkOk E h lo w [] := ⟨List.nodup_nil, fun _ h => (nomatch h), fun _ h => (nomatch h), fun _ h => (nomatch h)⟩

theorem lt_of_at {α : Type} {xs : Array α} {i : Nat} {x : α} (h : xs[i]? = some x) : i < xs.size := (Array.getElem?_eq_some_iff.1 h).1

theorem MkOk.step {C : Cx} {E E' : Env} {h h' : Nat → Option AO} {n n' lo : Nat} {w w' : World} {ms : List Nat} (m : MkOk E h lo w ms) (s : SH C E h n w.heap) (p : Post C E h n w E' h' n' w') : MkOk E' h' lo w' ms :=
  ⟨m.nd, m.lo, fun r hr => (Off.step s p (lt_of_at (m.at_ r hr)) (m.off r hr)).2.trans (m.at_ r hr), fun r hr => (Off.step s p (lt_of_at (m.at_ r hr)) (m.off r hr)).1⟩

theorem MkOk.join {E : Env} {h : Nat → Option AO} {lo lo' : Nat} {w : World} {ms ms' : List Nat} (a : MkOk E h lo w ms) (b : MkOk E h lo' w ms') (hlt : ∀ r ∈ ms, r < lo') (hlo : lo ≤ lo') : MkOk E h lo w (ms' ++ ms) := by
  refine ⟨List.nodup_append.2 ⟨b.nd, a.nd, fun x hx y hy e => ?_⟩, fun r hr => ?_, fun r hr => ?_, fun r hr => ?_⟩
  · have h1 := hlt y hy
    have h2 := b.lo x hx
    omega
  · rcases List.mem_append.1 hr with h | h
    · exact Nat.le_trans hlo (b.lo r h)
    · exact a.lo r h
  · rcases List.mem_append.1 hr with h | h
    · exact b.at_ r h
    · exact a.at_ r h
  · rcases List.mem_append.1 hr with h | h
    · exact b.off r h
    · exact a.off r h

/-- The round's loop has its record. -/
noncomputable def RoOk (ro : Option Nat) (E : Env) (h : Nat → Option AO) (w : World) : Prop := ∀ l, ro = some l → Off E h l ∧ ∃ r, w.heap[l]? = some (.loop r)

theorem RoOk.none {E : Env} {h : Nat → Option AO} {w : World} : RoOk none E h w := fun _ e => nomatch e

theorem RoOk.step {C : Cx} {ro : Option Nat} {E E' : Env} {h h' : Nat → Option AO} {n n' : Nat} {w w' : World} (r : RoOk ro E h w) (s : SH C E h n w.heap) (p : Post C E h n w E' h' n' w') : RoOk ro E' h' w' := fun l hl =>
  let ⟨o, x, hx⟩ := r l hl
  ⟨(Off.step s p (lt_of_at hx) o).1, x, (Off.step s p (lt_of_at hx) o).2.trans hx⟩

/-- What code leaves. -/
noncomputable def PQ (C : Cx) (d : List Deferred) (E : Env) (sz : Nat) (s : St) (w : World) (r : Ex × St) (e : Exit) (a' : Act) (w' : World) : Prop :=
  ∃ E' ms, r.1.is E' e ∧ SR C (ms.map markD ++ d) E' sz r.2 a' w' ∧ Post C E s.h s.n w E' r.2.h r.2.n w' ∧ MkOk E' r.2.h w.heap.size w' ms

theorem PQ.mk0 {C : Cx} {d : List Deferred} {E E' : Env} {sz : Nat} {s : St} {w : World} {r : Ex × St} {e : Exit} {a' : Act} {w' : World} (h1 : r.1.is E' e) (h2 : SR C d E' sz r.2 a' w') (h3 : Post C E s.h s.n w E' r.2.h r.2.n w') : PQ C d E sz s w r e a' w' :=
  ⟨E', [], h1, h2, h3, MkOk.nil⟩

noncomputable def ExOk (P : Program) (C : Cx) (ex : Nat → Code → St → Option (Ex × St)) : Prop :=
  ∀ sz c s r, ex sz c s = some r → ∀ (ro : Option Nat) (d : List Deferred) (E : Env) (a : Act) (w : World) (Q : Exit → Act → World → Prop), RoOk ro E s.h w → SR C d E sz s a w → (∀ e a' w', PQ C d E sz s w r e a' w' → Q e a' w') → c.wpIn (Fw ro) 0 P Q a w

theorem PQ.from {C : Cx} {d : List Deferred} {sz : Nat} {E E1 : Env} {s s1 : St} {w w1 : World} {ms : List Nat} {r : Ex × St} {e : Exit} {a' : Act} {w' : World} (h : PQ C (ms.map markD ++ d) E1 sz s1 w1 r e a' w') (k : Post C E s.h s.n w E1 s1.h s1.n w1) (m : MkOk E1 s1.h w.heap.size w1 ms) : PQ C d E sz s w r e a' w' := by
  obtain ⟨E', ms', h1, h2, h3, h4⟩ := h
  refine ⟨E', ms' ++ ms, h1, ?_, k.trans h3, (m.step k.sh h3).join h4 (fun r hr => lt_of_at (m.at_ r hr)) k.fr.size⟩
  rw [List.map_append, List.append_assoc]
  exact h2

section
variable {P : Program} {C : Cx} (hC : C.Ok P)

/-- One result. -/
noncomputable def resOf (tmps : Array Value) : ResultVar → Sem Value
  | .tmp t => pure (tmps.getD t undef)
  | .cell a t => do loadVar t (← asAddr (tmps.getD a undef))

theorem results_eq (fn : Func) (tmps : Array Value) : results fn tmps = (do
    let vs ← fn.results.mapM (resOf tmps)
    pure (if h : vs.size = 1 then vs[0] else .tuple vs)) := by
  rfl

theorem argsT_ok {E : Env} : ∀ {l : List SV} {xs : List Value} {k : Nat} {t t' : Tr SV} {tmps : Array Value}, argsT l k t = some t' → denL E l = some xs → (∀ j x, xs[j]? = some x → tmps[k + j]? = some x) →
    (∀ i v, t.get i = some v → ∃ x, tmps[i]? = some x ∧ v.den E = some x) → ∀ i v, t'.get i = some v → ∃ x, tmps[i]? = some x ∧ v.den E = some x
  | [], xs, k, t, t', tmps, h, _, _, ht => by simp only [argsT, Option.some.injEq] at h; subst h; exact ht
  | v :: l, xs, k, t, t', tmps, h, hd, hx, ht => by
    obtain ⟨x, r, h1, h2, rfl⟩ := denL_cons hd
    simp only [argsT] at h
    split at h
    case h_2 => cases h
    rename_i t1 hu
    refine argsT_ok (k := k + 1) h h2 (fun j y hj => ?_) ?_
    · have := hx (j + 1) y (by simpa using hj)
      rw [show k + 1 + j = k + (j + 1) by omega]; exact this
    · intro i u hi
      rw [Tr.get_upd _ _ _ _ _ hu] at hi
      by_cases e : i = k
      · rw [if_pos e] at hi; cases hi; subst e
        exact ⟨x, by have := hx 0 x rfl; simpa using this, h1⟩
      · rw [if_neg e] at hi; exact ht i u hi

include hC in
theorem resX_ok {E : Env} {t : Tr SV} {h : Tr AO} {n : Nat} {w : World} {tmps : Array Value} (s : SH C E h n w.heap) (ht : ∀ i v, t.get i = some v → ∃ x, tmps[i]? = some x ∧ v.den E = some x) : ∀ {rs : List ResultVar} {l : List SV}, resX C t h rs = some l →
    ∃ xs, denL E l = some xs ∧ (rs.mapM (resOf tmps)).run P w = .ok xs w
  | [], l, hx => by simp only [resX, Option.some.injEq] at hx; subst hx; exact ⟨[], rfl, rfl⟩
  | .tmp k :: rs, l, hx => by
    simp only [resX] at hx
    split at hx
    · cases hx
    rename_i v hv
    split at hx
    · cases hx
    rename_i l' hl
    cases hx
    obtain ⟨xs, h1, h2⟩ := resX_ok s ht hl
    obtain ⟨x, e1, e2⟩ := ht k v hv
    refine ⟨x :: xs, denL_mk e2 h1, ?_⟩
    have : tmps.getD k undef = x := by simp [e1]
    simp only [List.mapM_cons, resOf, Sem.run_bind, Sem.run_pure, Result.andThen_ok, h2, this]
  | .cell k ty :: rs, l, hx => by
    simp only [resX] at hx
    split at hx
    · cases hx
    rename_i a ha
    split at hx
    · cases hx
    rename_i v hv
    split at hx
    · cases hx
    rename_i l' hl
    cases hx
    obtain ⟨xs, h1, h2⟩ := resX_ok s ht hl
    obtain ⟨x, e1, e2⟩ := ht k a ha
    cases a with
    | ptr id off =>
      obtain ⟨p, y, hp, hr, hd⟩ := xLoad_var hC s hv
      simp only [SV.den, hp, Option.map_some, Option.some.injEq] at e2
      refine ⟨y :: xs, denL_mk hd h1, ?_⟩
      have : tmps.getD k undef = x := by simp [e1]
      have ha' : (asAddr (tmps.getD k undef)).run P w = .ok ⟨p.1, off, none⟩ w := by rw [this, ← e2]; rfl
      simp only [List.mapM_cons, resOf, Sem.run_bind, ha', Sem.run_pure, Result.andThen_ok, hr, h2]
    | _ => simp [xLoad] at hv

theorem oneX_den {E : Env} {l : List SV} {xs : List Value} (h : denL E l = some xs) : (oneX l).den E = some (if h : xs.toArray.size = 1 then xs.toArray[0] else .tuple xs.toArray) := by
  have hl := denL_length h
  cases l with
  | nil => rw [denL_nil h]; rfl
  | cons v l =>
    obtain ⟨x, r, h1, h2, rfl⟩ := denL_cons h
    cases l with
    | nil => rw [denL_nil h2]; simpa [oneX] using h1
    | cons u l =>
      have : ¬ ((x :: r).toArray.size = 1) := by
        have := denL_length h2
        simp only [List.length_cons] at this
        simp only [List.size_toArray, List.length_cons]
        omega
      rw [dif_neg this]
      simp only [oneX, SV.den, h, Option.map_some]

/-- How a call ends. -/
noncomputable def endOf (p : Bool) (x : Value) : Ending := match p with
  | false => .returned x
  | true => .panicked (panicOf x)

omit hC in
theorem quiet_nd {t : Tr SV} {h : Tr AO} {op : Op} {r : SV} (hx : quietX C t h op = some r) : ∀ c, op ≠ .defer c := by
  intro c e
  subst e
  simp [quietX] at hx

include hC
theorem quietL_ok {ops : Array Oper} {sz : Nat} {Q : Exit → Act → World → Prop} {d : List Deferred} {E : Env} {h : Tr AO} {n : Nat} {w : World} {l : List Oper} : ∀ {pre : List Oper} {t t2 : Tr SV}, quietL C sz h pre t = some t2 → ∀ {a : Act}, SR C d E sz ⟨t, h, n⟩ a w →
    (∀ a', SR C d E sz ⟨t2, h, n⟩ a' w → wpListIn (Fw none) 0 P ops Q l a' w) → wpListIn (Fw none) 0 P ops Q (pre ++ l) a w
  | [], t, t2, hx, a, sr, k => by
    simp only [quietL, Option.some.injEq] at hx
    subst hx
    exact k a sr
  | o :: r, t, t2, hx, a, sr, k => by
    simp only [quietL] at hx
    split at hx
    · cases hx
    rename_i hg
    split at hx
    case h_2 => cases hx
    split at hx
    · cases hx
    rename_i v hq
    split at hx
    case h_2 => cases hx
    rename_i t1 ht1
    have hget : ∀ x v, x ∈ o.op.operands → getX C.g0 t x = some v → v.den E = some (a.eval x) := fun x v _ hv => sr.getX hv
    obtain ⟨x, hr, hd⟩ := quietX_ok hC sr.sh hget hq
    have hw : Region.wanted o (yielded ops a.tmps) = true := by simp [Region.wanted, hg]
    rw [List.cons_append]
    unfold wpListIn
    rw [if_pos hw]
    refine ⟨fun _ _ => trivial, ?_⟩
    rw [semFw (quiet_nd hq), hr]
    exact quietL_ok hx ⟨putX_tm ht1 sr.sz (Env.le.refl E) sr.tm hd, by rw [act_sz]; exact sr.sz, by rw [act_df]; exact sr.df, sr.sh⟩ k

omit hC in
theorem getL_den2 {E : Env} {ρ : Operand → Value} {t : Tr SV} : ∀ {l : List Operand} {vs : List SV}, (∀ x v, x ∈ l → getX C.g0 t x = some v → v.den E = some (ρ x)) → getL C.g0 t l = some vs → denL E vs = some (l.map ρ)
  | [], vs, _, h => by simp only [getL, Option.some.injEq] at h; subst h; rfl
  | x :: r, vs, hg, h => by
    simp only [getL] at h
    split at h
    · cases h
    rename_i v hv
    split at h
    · cases h
    rename_i l hl
    cases h
    exact denL_mk (hg x v (by simp) hv) (getL_den2 (fun y u hm => hg y u (List.mem_cons_of_mem _ hm)) hl)

omit hC in
theorem getFuncD {E : Env} {fn : Fn} {a b : List SV} {x : Value} (h : (SV.func fn a b).den E = some x) : ∃ p q, denL E a = some p ∧ denL E b = some q ∧ x = .func fn p.toArray q.toArray := by
  simp only [SV.den] at h
  split at h
  · rename_i p q hp hq
    cases h; exact ⟨p, q, hp, hq, rfl⟩
  · cases h

omit hC in
theorem defer_wp {d : List Deferred} {E : Env} {sz : Nat} {s : St} {a : Act} {w : World} {o : Oper} {g : Nat} {xs cap : List SV} (sr : SR C d E sz s a w) (hx : deferOp C s.t o = some (g, xs, cap)) {ops : Array Oper} {Q : Exit → Act → World → Prop}
    (hQ : ∀ a' xv cv, denL E xs = some xv → denL E cap = some cv → SR C (⟨.fn (.func g) cv.toArray, xv.toArray⟩ :: d) E sz s a' w → Q .normal a' w) (hdst : o.dst = none) : wpListIn (Fw none) 0 P ops Q [o] a w := by
  unfold deferOp at hx
  split at hx
  · cases hx
  rename_i hg
  split at hx
  case h_2 => cases hx
  rename_i c hop
  split at hx
  case h_2 => cases hx
  rename_i f hcal
  split at hx
  case h_2 => cases hx
  rename_i g' fst cap' hf
  split at hx
  case h_2 => cases hx
  rename_i args hargs
  simp only [Option.some.injEq, Prod.mk.injEq] at hx
  obtain ⟨rfl, rfl, rfl⟩ := hx
  have hw : Region.wanted o (yielded ops a.tmps) = true := by simp [Region.wanted, hg]
  have hfd := sr.getX hf
  have had := getL_den2 (C := C) (E := E) (ρ := a.eval) (t := s.t) (l := c.args.toList) (fun x v _ hv => sr.getX hv) hargs
  obtain ⟨fv, cv, hfv, hcv, hfd⟩ := getFuncD hfd
  unfold wpListIn
  rw [if_pos hw]
  refine ⟨fun _ _ => trivial, ?_⟩
  have hrun : (execOp a.eval o).run P w = .ok (.defer ⟨.fn (.func g') cv.toArray, fv.toArray ++ c.args.map a.eval⟩) w := by
    obtain ⟨dst, op, ty0, pos, after, guard⟩ := o
    simp only at hop
    subst hop
    simp only [execOp, resolve, hcal, hfd, Deferred.ofValue, Sem.run_bind, Sem.run_pure, Result.andThen_ok]
  rw [show o.semAt (Fw none).round a.eval = execOp a.eval o from Oper.semAt_none _ _, hrun]
  have hxs : denL E (fst ++ args) = some (fv ++ c.args.toList.map a.eval) := denL_append hfv had
  have harr : fv.toArray ++ c.args.map a.eval = (fv ++ c.args.toList.map a.eval).toArray := by
    apply Array.ext'; simp
  show Q .normal (({ a with defers := _ :: a.defers } : Act).put o.dst undef) w
  rw [hdst, harr]
  refine hQ _ _ _ hxs hcv ⟨sr.tm, sr.sz, ?_, sr.sh⟩
  show _ :: a.defers = _
  rw [sr.df]

theorem splitD_wp {ex : Nat → Code → St → Option (Ex × St)} (hex : ExOk P C ex) {sz : Nat} {pre : List Oper} {o : Oper} {rest : Code} {t2 : Tr SV} {g : Nat} {xs cap : List SV} {s1 : St} : ∀ {c : Code} {l : List Code} {s : St}, splitD c = some (l, pre, o, rest) → exL ex sz l s = some s1 →
    quietL C sz s1.h pre s1.t = some t2 → deferOp C t2 o = some (g, xs, cap) → o.dst = none → ∀ {d : List Deferred} {E : Env} {a : Act} {w : World} {Q : Exit → Act → World → Prop}, SR C d E sz s a w →
    (∀ E' a' w' xv cv ms, denL E' xs = some xv → denL E' cap = some cv → SR C (⟨.fn (.func g) cv.toArray, xv.toArray⟩ :: (ms.map markD ++ d)) E' sz ⟨t2, s1.h, s1.n⟩ a' w' → Post C E s.h s.n w E' s1.h s1.n w' → MkOk E' s1.h w.heap.size w' ms → rest.wpIn (Fw none) 0 P Q a' w') → c.wpIn (Fw none) 0 P Q a w
  | .seq x y, l, s, hs, hl, hq, hd, hdst, d, E, a, w, Q, sr, hQ => by
    simp only [splitD] at hs
    split at hs
    · rename_i pre' o' hr
      simp only [Option.some.injEq, Prod.mk.injEq] at hs
      obtain ⟨rfl, rfl, rfl, rfl⟩ := hs
      simp only [exL, Option.some.injEq] at hl
      subst hl
      unfold deferR at hr
      split at hr
      case h_2 => cases hr
      rename_i id ops
      split at hr
      case h_2 => cases hr
      rename_i pre2 o2 hla
      split at hr
      case h_2 => cases hr
      simp only [Option.some.injEq, Prod.mk.injEq] at hr
      obtain ⟨rfl, rfl⟩ := hr
      refine wpIn_seq (wpIn_region_list ?_)
      rw [lastX_ok hla]
      refine quietL_ok hC hq (n := s.n) sr (fun a' sr' => ?_)
      exact defer_wp sr' hd (fun a2 xv cv h1 h2 sr2 => hQ E a2 w xv cv [] h1 h2 sr2 (Post.refl sr.sh) MkOk.nil) hdst
    · split at hs
      · cases hs
      rename_i l' r' hsp
      simp only [Option.some.injEq, Prod.mk.injEq] at hs
      obtain ⟨rfl, rfl⟩ := hs
      simp only [exL] at hl
      split at hl
      case h_2 => cases hl
      rename_i s2 hx
      refine wpIn_seq (hex _ _ _ _ hx none d E a w _ RoOk.none sr ?_)
      rintro e' a' w' ⟨E', ms, he, hsr, hp, hm⟩
      simp only [Ex.is] at he
      subst he
      refine splitD_wp hex hsp hl hq hd hdst hsr (fun E2 a2 w2 xv cv ms2 h1 h2 h3 h4 h5 => hQ E2 a2 w2 xv cv (ms2 ++ ms) h1 h2 (by rw [List.map_append, List.append_assoc]; exact h3) (hp.trans h4) ((hm.step hp.sh h4).join h5 (fun r hr => lt_of_at (hm.at_ r hr)) hp.fr.size))
  | .skip, l, s, hs, _, _, _, _, _, _, _, _, _, _, _ => by simp [splitD] at hs
  | .ret, l, s, hs, _, _, _, _, _, _, _, _, _, _, _ => by simp [splitD] at hs
  | .cond _ _ _, l, s, hs, _, _, _, _, _, _, _, _, _, _, _ => by simp [splitD] at hs
  | .region _ _ _, l, s, hs, _, _, _, _, _, _, _, _, _, _, _ => by simp [splitD] at hs
  | .block _ _, l, s, hs, _, _, _, _, _, _, _, _, _, _, _ => by simp [splitD] at hs
  | .loop _, l, s, hs, _, _, _, _, _, _, _, _, _, _, _ => by simp [splitD] at hs
  | .exit _, l, s, hs, _, _, _, _, _, _, _, _, _, _, _ => by simp [splitD] at hs
  | .label _, l, s, hs, _, _, _, _, _, _, _, _, _, _, _ => by simp [splitD] at hs
  | .goto _, l, s, hs, _, _, _, _, _, _, _, _, _, _, _ => by simp [splitD] at hs
  | .scope _, l, s, hs, _, _, _, _, _, _, _, _, _, _, _ => by simp [splitD] at hs
  | .rangeFunc _ _ _ _, l, s, hs, _, _, _, _, _, _, _, _, _, _, _ => by simp [splitD] at hs
  | .refuse _, l, s, hs, _, _, _, _, _, _, _, _, _, _, _ => by simp [splitD] at hs

include hC
theorem defX_ok {E : Env} {g : Nat} {args : List SV} {xs : List Value} {m m' : Md} {h h' : Tr AO} {n n' : Nat} {w : World} {u : FrameMode} (hx : defX C g args m h n = some (m', h', n')) (s : SH C E h n w.heap) (ha : denL E args = some xs) (hm : m.is E u)
    {R : Ending → FrameMode → World → Prop} (hR : ∀ E' u' v w', m'.is E' u' → SH C E' h' n' w'.heap → Post C E h n w E' h' n' w' → R (.returned v) u' w') : CallsDIn Fence.wide 0 P g xs.toArray u w R := by
  unfold defX at hx
  split at hx
  · cases hx
  rename_i fn hfn
  split at hx
  · cases hx
  rename_i hres
  split at hx
  · cases hx
  rename_i c hc
  split at hx
  · cases hx
  rename_i t ht
  split at hx
  · cases hx
  rename_i b s' m1 he
  simp only [Option.some.injEq, Prod.mk.injEq] at hx
  obtain ⟨rfl, rfl, rfl⟩ := hx
  obtain ⟨hfun, _⟩ := hC.fn g fn hfn
  have hal := denL_length ha
  have hres' : fn.results = #[] := by
    have := congrArg List.toArray hres
    simpa using this
  refine callsDIn_of_wpSIn hfun hc trivial (fun c₀ cs hu => ?_)
  have hcs : c₀ :: cs = ({ c₀ with mode := u } : Frame) :: cs := by subst hu; rfl
  rw [hcs]
  refine execS_ok hC he (c₀ := c₀) (E := E) ⟨?_, ?_, rfl, s⟩ hm (fun E' a' w' u' k0 k1 k2 => ?_)
  · refine argsT_ok (k := 0) ht ha (fun j x hj => ?_) (fun i v hi => by rw [Tr.get_nil] at hi; cases hi)
    have hlt := (List.getElem?_eq_some_iff.1 hj).1
    rw [Nat.zero_add, Array.getElem?_append_left (by simpa using hlt)]
    simpa using hj
  · simp only [Array.size_append, List.size_toArray, Array.size_replicate, hal]; rfl
  · have hval : (results fn a'.tmps).run P w' = .ok (.tuple #[]) w' := by
      have hm0 : (fn.results.mapM (resOf a'.tmps)).run P w' = .ok #[] w' := by
        rw [hres', Array.mapM_eq_mapM_toList]
        simp only [Sem.run_map]
        rfl
      rw [results_eq]
      simp only [Sem.run_bind, hm0, Result.andThen_ok, Sem.run_pure]
      rfl
    have fin : a'.defers = [] ∧ ∃ u'', ({ c₀ with mode := u' } : Frame) :: cs = { c₀ with mode := u'' } :: cs ∧ ∃ v, (results fn a'.tmps).run P w' = .ok v w' ∧ R (.returned v) u'' w' :=
      ⟨k1.df, u', rfl, _, hval, hR E' u' _ w' k0 k1.sh k2⟩
    cases b <;> exact fin

omit hC in
/-- Blocks for deferred calls with nothing in them, on the way out. -/
theorem marks_out {E E' : Env} {h h' : Nat → Option AO} {n n' : Nat} {w : World} (s : SH C E h n w.heap) {fn : Func} {tmps : Array Value} {R : Ending → World → Prop} {ds : List Deferred} {u : FrameMode} (hu : u ≠ .run) :
    ∀ {ms : List Nat} {w' : World}, Post C E h n w E' h' n' w' → MkOk E' h' w.heap.size w' ms → (∀ w2, Post C E h n w E' h' n' w2 → (∀ k, k ∉ ms → w2.heap[k]? = w'.heap[k]?) → LeavesInM Fence.wide 0 P fn tmps R ds u w2) → LeavesInM Fence.wide 0 P fn tmps R (ms.map markD ++ ds) u w'
  | [], w', hp, hm, hk => hk w' hp (fun _ _ => rfl)
  | r :: ms, w', hp, hm, hk => by
    have hr := hm.at_ r List.mem_cons_self
    have hnd := List.nodup_cons.1 hm.nd
    refine ⟨hu, Or.inl ⟨r, _, rfl, run_takeDeferred hr, ?_⟩⟩
    refine marks_out s hu (ms := ms) (Post.shut hp s.anc.size (hm.lo r List.mem_cons_self) (hm.off r List.mem_cons_self) rfl rfl rfl World.putObj_size (fun k hk => World.putObj_heap_other hk)) ⟨hnd.2, fun x hx => hm.lo x (List.mem_cons_of_mem _ hx), fun x hx => ?_, fun x hx => hm.off x (List.mem_cons_of_mem _ hx)⟩ (fun w2 h2 hs2 => hk w2 h2 (fun k hkm => ?_))
    · rw [World.putObj_heap_other (fun e => hnd.1 (by rw [← e]; exact hx))]
      exact hm.at_ x (List.mem_cons_of_mem _ hx)
    · rw [hs2 k (fun hmem => hkm (List.mem_cons_of_mem _ hmem))]
      exact World.putObj_heap_other (fun e => hkm (by rw [e]; exact List.mem_cons_self))

theorem callDX_ok {ex : Nat → Code → St → Option (Ex × St)} (hex : ExOk P C ex) {sz : Nat} {fn : Func} {c : Code} {s : St} {p : Bool} {v : SV} {h' : Tr AO} {n' : Nat} (hx : callDX C ex sz fn.results.toList c s = some (p, v, h', n')) {E : Env} {a : Act} {w : World} (sr : SR C [] E sz s a w)
    {R : Ending → World → Prop} (hR : ∀ E' x w', v.den E' = some x → Post C E s.h s.n w E' h' n' w' → R (endOf p x) w') : c.wpIn (Fw none) 0 P (bodyPostM Fence.wide 0 P fn R) a w := by
  unfold callDX at hx
  split at hx
  · cases hx
  rename_i l pre o rest hsp
  split at hx
  · cases hx
  rename_i s1 hl
  split at hx
  · cases hx
  rename_i t2 hq
  split at hx
  · cases hx
  rename_i g xs cap hd
  split at hx
  · cases hx
  rename_i e s3 hr
  split at hx
  · cases hx
  rename_i m hm
  split at hx
  · cases hx
  rename_i m' h4 n4 hdef
  split at hx
  · cases hx
  rename_i hdst
  refine splitD_wp hC hex hsp hl hq hd hdst sr (fun E1 a1 w1 xv cv ms1 h1 h2 sr1 hp1 hm1 => ?_)
  refine hex _ _ _ _ hr none _ E1 a1 w1 _ RoOk.none sr1 ?_
  rintro e' a' w' ⟨E2, ms2, he, sr2, hp2, hm2⟩
  have hargs : denL E2 (xs ++ cap) = some (xv ++ cv) := denL_append (denL_mono hp2.fr.le _ _ h1) (denL_mono hp2.fr.le _ _ h2)
  have hp12 := hp1.trans hp2
  have hmm : MkOk E2 s3.h w.heap.size w' (ms2 ++ ms1) := (hm1.step hp1.sh hp2).join hm2 (fun r hr => lt_of_at (hm1.at_ r hr)) hp1.fr.size
  have hnd := List.nodup_append.1 hmm.nd
  have leave : ∀ u, m.is E2 u → LeavesInM Fence.wide 0 P fn a'.tmps R a'.defers u w' := by
    intro u hmu
    rw [sr2.df]
    have hrun : u ≠ .run := by
      cases m with
      | none => cases hmu; exact fun e => nomatch e
      | some q => obtain ⟨x, _, rfl⟩ := hmu; exact fun e => nomatch e
    refine marks_out sr.sh hrun hp12 ⟨hnd.1, fun r hr => hmm.lo r (List.mem_append_left _ hr), fun r hr => hmm.at_ r (List.mem_append_left _ hr), fun r hr => hmm.off r (List.mem_append_left _ hr)⟩ (fun w3 hp3 hs3 => ?_)
    have hinv : (invoke (.fn (.func g) cv.toArray) xv.toArray).run P w3 = .ok (.enter g (xv ++ cv).toArray) w3 := by
      unfold defX at hdef
      split at hdef
      · cases hdef
      rename_i fg hfg
      obtain ⟨hfun, hname⟩ := hC.fn g fg hfg
      split at hdef
      · cases hdef
      split at hdef
      · cases hdef
      rename_i cg hcg
      have : ¬ fg.name = "runtime.NumGoroutine" := by simpa using hname
      have harr : xv.toArray ++ cv.toArray = (xv ++ cv).toArray := by simp
      simp [invoke, callFunc, hfun, this, hcg, harr]
    have hm1b : MkOk E2 s3.h w.heap.size w3 ms1 := ⟨hnd.2.1, fun r hr => hmm.lo r (List.mem_append_right _ hr), fun r hr => by rw [hs3 r (fun h => hnd.2.2 r h r hr rfl)]; exact hmm.at_ r (List.mem_append_right _ hr), fun r hr => hmm.off r (List.mem_append_right _ hr)⟩
    refine ⟨hrun, Or.inr ⟨fun h => (by simp [Fence.wide] at h), _, _, _, _, rfl, hinv, fun _ _ => trivial, ?_⟩⟩
    refine defX_ok hC hdef hp3.sh hargs hmu (fun E3 u3 v3 w4 k0 k1 k2 => ?_)
    have hpost : Post C E s.h s.n w E3 h4 n4 w4 := hp3.trans k2
    have hm1c := hm1b.step hp3.sh k2
    show LeavesInM Fence.wide 0 P fn a'.tmps R (ms1.map markD ++ []) (settle u3) w4
    have back : ∀ (lv : List SV), resX C s3.t h4 fn.results.toList = some lv → some (false, oneX lv, h4, n4) = some (p, v, h', n') → LeavesInM Fence.wide 0 P fn a'.tmps R (ms1.map markD ++ []) .returning w4 := by
      intro lv hlv hv
      simp only [Option.some.injEq, Prod.mk.injEq] at hv
      obtain ⟨rfl, rfl, rfl, rfl⟩ := hv
      refine marks_out sr.sh (u := .returning) (fun e => nomatch e) hpost hm1c (fun w5 hp5 _ => ?_)
      obtain ⟨ys, j1, j2⟩ := resX_ok hC hp5.sh (tm_mono k2.fr.le sr2.tm) hlv
      refine ⟨_, ?_, hR E3 _ w5 (oneX_den j1) hp5⟩
      have hm2 : (fn.results.mapM (resOf a'.tmps)).run P w5 = .ok ys.toArray w5 := by
        rw [Array.mapM_eq_mapM_toList]
        simp only [Sem.run_map, j2, Result.andThen_ok]
      rw [results_eq]
      simp only [Sem.run_bind, hm2, Result.andThen_ok, Sem.run_pure]
    split at hx
    · rename_i v4
      cases hx
      obtain ⟨x, j1, rfl⟩ := k0
      exact marks_out sr.sh (u := .panicking [{ v := x, recovered := false }]) (fun e => nomatch e) hpost hm1c (fun w5 hp5 _ => hR E3 x w5 j1 hp5)
    · rename_i hne
      split at hx
      · cases hx
      rename_i lv hlv
      have hb := back lv hlv hx
      cases m' with
      | none => cases k0; exact hb
      | some q =>
        obtain ⟨v4, b4⟩ := q
        cases b4 with
        | false => exact absurd rfl (hne v4)
        | true => obtain ⟨x, _, rfl⟩ := k0; exact hb
  cases e with
  | normal =>
    simp only [mdOf, Option.some.injEq] at hm
    subst hm
    simp only [Ex.is] at he
    subst he
    exact leave .returning rfl
  | ret =>
    simp only [mdOf, Option.some.injEq] at hm
    subst hm
    simp only [Ex.is] at he
    subst he
    exact leave .returning rfl
  | panic v5 =>
    simp only [mdOf, Option.some.injEq] at hm
    subst hm
    obtain ⟨x, j1, rfl⟩ := he
    exact leave (.panicking (panicOf x)) ⟨x, j1, rfl⟩
  | exit id => simp [mdOf] at hm

theorem callR_ok {ex : Nat → Code → St → Option (Ex × St)} (hex : ExOk P C ex) {E : Env} {f : Nat} {args : List SV} {xs : List Value} {h h' : Tr AO} {n n' : Nat} {w : World} {p : Bool} {v : SV} (hx : callR C ex f args h n = some (p, v, h', n')) (s : SH C E h n w.heap)
    (ha : denL E args = some xs) {R : Ending → World → Prop} (hR : ∀ E' x w', v.den E' = some x → Post C E h n w E' h' n' w' → R (endOf p x) w') : Calls P f xs.toArray w R := by
  simp only [callR] at hx
  split at hx
  · rename_i v' hkx
    cases hx
    obtain ⟨hk, h1, h2, h3, h4⟩ := hookX_ok hkx
    subst h2; subst h3; subst h4
    obtain ⟨x, hd, hcall⟩ := hC.hooks hk h1 E xs s.kn.2.1 ha
    refine (hcall w s.anc.size s.anc.same).mono ?_
    rintro e w' ⟨rfl, hb⟩
    exact hR E x w' hd (Post.below_in s hb)
  split at hx
  · rename_i p hpx
    split at hx
    · cases hx
    rename_i h2 hu
    cases hx
    obtain ⟨hm, rfl, rfl, rfl⟩ := partX_ok hpx
    obtain ⟨hs, hs', e1, e2, hcall⟩ := hC.parts p hm
    unfold usePart at hu
    split at hu
    · cases hu
    rename_i hsub
    split at hu
    · cases hu
    rename_i h1 hd1
    have hsub' := subH_ok hsub e1 (fun id o k => by rw [Tr.get_nil] at k; cases k)
    exact hcall E w xs (s.sub hsub') ha _ (fun E' x w' hd hp => hR E' x w' hd (Post.framed s e1 e2 hsub' hp hd1 hu))
  split at hx
  · cases hx
  rename_i fn hfn
  split at hx
  · cases hx
  rename_i c hc
  split at hx
  · cases hx
  rename_i t ht
  have hal := denL_length ha
  obtain ⟨hfun, _⟩ := hC.fn f fn hfn
  have hsr : SR C [] E (Nat.add args.length (Nat.sub fn.ntmps args.length)) ⟨t, h, n⟩ { tmps := xs.toArray ++ Array.replicate (fn.ntmps - xs.toArray.size) undef, defers := [] } w := by
    refine ⟨?_, ?_, rfl, s⟩
    · refine argsT_ok (k := 0) ht ha (fun j x hj => ?_) (fun i v hi => by rw [Tr.get_nil] at hi; cases hi)
      have hlt := (List.getElem?_eq_some_iff.1 hj).1
      rw [Nat.zero_add, Array.getElem?_append_left (by simpa using hlt)]
      simpa using hj
    · simp only [Array.size_append, List.size_toArray, Array.size_replicate, hal]; rfl
  refine (callsIn_wide (n := 0)).1 (callsIn_of_wp_marks (F := Fence.wide) hfun hc trivial ?_)
  split at hx
  · exact callDX_ok hC hex hx hsr hR
  split at hx
  · cases hx
  rename_i e s' hr
  refine hex _ _ _ _ hr none [] E _ w _ RoOk.none hsr ?_
  · rintro e' a' w' ⟨E', ms, he, hsr, hpost, hm⟩
    simp only at he
    have done : ∀ l, resX C s'.t s'.h fn.results.toList = some l → some (false, oneX l, s'.h, s'.n) = some (p, v, h', n') → LeavesInM Fence.wide 0 P fn a'.tmps R a'.defers .returning w' := by
      intro l hl hv
      simp only [Option.some.injEq, Prod.mk.injEq] at hv
      obtain ⟨rfl, rfl, rfl, rfl⟩ := hv
      rw [hsr.df]
      refine marks_out s (u := .returning) (fun e => nomatch e) hpost hm (fun w2 hp2 _ => ?_)
      obtain ⟨ys, h1, h2⟩ := resX_ok hC hp2.sh hsr.tm hl
      refine ⟨_, ?_, hR E' _ w2 (oneX_den h1) hp2⟩
      have hm : (fn.results.mapM (resOf a'.tmps)).run P w2 = .ok ys.toArray w2 := by
        rw [Array.mapM_eq_mapM_toList]
        simp only [Sem.run_map, h2, Result.andThen_ok]
      rw [results_eq]
      simp only [Sem.run_bind, hm, Result.andThen_ok, Sem.run_pure]
    split at hx
    · cases hx
    · rename_i v'
      cases hx
      obtain ⟨x, h1, h2⟩ := he
      subst h2
      show LeavesInM Fence.wide 0 P fn a'.tmps R a'.defers (.panicking (panicOf x)) w'
      rw [hsr.df]
      exact marks_out s (u := .panicking (panicOf x)) (fun e => nomatch e) hpost hm (fun w2 hp2 _ => hR E' x w2 h1 hp2)
    · rename_i hne hnp
      split at hx
      · cases hx
      rename_i l hl
      have hd := done l hl hx
      cases e with
      | normal => subst he; exact hd
      | ret => subst he; exact hd
      | exit id => exact absurd rfl (hne id)
      | panic v => exact absurd rfl (hnp v)

theorem callX_ok {ex : Nat → Code → St → Option (Ex × St)} (hex : ExOk P C ex) {E : Env} {f : Nat} {args : List SV} {xs : List Value} {h h' : Tr AO} {n n' : Nat} {w : World} {v : SV} (hx : callX C ex f args h n = some (v, h', n')) (s : SH C E h n w.heap)
    (ha : denL E args = some xs) {R : Ending → World → Prop} (hR : ∀ E' x w', v.den E' = some x → Post C E h n w E' h' n' w' → R (.returned x) w') : Calls P f xs.toArray w R := by
  unfold callX at hx
  split at hx
  case h_2 => cases hx
  rename_i p r hr
  split at hx
  case h_2 => cases hx
  cases hx
  exact callR_ok hC hex hr s ha hR

omit hC in
theorem putsX_ok {E : Env} {sz : Nat} : ∀ {ps : List Nat} {vs : List SV} {xs : List Value} {t t1 : Tr SV} {tmps : Array Value}, putsX sz ps vs t = some t1 → denL E vs = some xs → tmps.size = sz → (∀ i v, t.get i = some v → ∃ x, tmps[i]? = some x ∧ v.den E = some x) →
    xs.length = ps.length ∧ ((ps.zip xs).foldl (fun tm p => tm.setIfInBounds p.1 p.2) tmps).size = sz ∧ ∀ i v, t1.get i = some v → ∃ x, ((ps.zip xs).foldl (fun tm p => tm.setIfInBounds p.1 p.2) tmps)[i]? = some x ∧ v.den E = some x
  | [], [], xs, t, t1, tmps, h, hd, hs, ht => by
    simp only [putsX, Option.some.injEq] at h
    subst h
    rw [denL_nil hd]
    exact ⟨rfl, hs, ht⟩
  | [], _ :: _, _, _, _, _, h, _, _, _ => by simp [putsX] at h
  | _ :: _, [], _, _, _, _, h, _, _, _ => by simp [putsX] at h
  | k :: ps, v :: vs, xs, t, t1, tmps, h, hd, hs, ht => by
    obtain ⟨x, r, h1, h2, rfl⟩ := denL_cons hd
    simp only [putsX] at h
    split at h
    · cases h
    rename_i hb
    split at h
    · cases h
    rename_i t2 hu
    have hlt : k < tmps.size := by rw [hs]; simpa [Nat.blt_eq] using hb
    obtain ⟨a, b, c⟩ := putsX_ok (tmps := tmps.setIfInBounds k x) h h2 (by simpa using hs) (tm_put ht hu hlt h1)
    exact ⟨by simp [a], b, c⟩

omit hC in
/-- A round of a range over a function. -/
theorem roundR_ok {ex : Nat → Code → St → Option (Ex × St)} (hex : ExOk P C ex) {ro : Option Nat} {E : Env} {k : Nat} {args : List SV} {xs : List Value} {h h' : Tr AO} {n n' : Nat} {w : World} {b : Bool} {v : SV} (hx : roundR C ex h n k args = some (b, v, h', n')) (s : SH C E h n w.heap)
    {p : Nat × Nat} (hpk : E.blk k = some p) (ha : denL E args = some xs) {R : Ending → World → Prop} (hR : b = false → ∀ E' x w', v.den E' = some x → Post C E h n w E' h' n' w' → R (.returned x) w') :
    b = false ∧ ∃ f tmps assign body, (Instr.yield p.1 xs.toArray).run P w = .ok (.round p.1 f tmps assign body) w ∧ RoundIn (Fw ro) 0 P p.1 f tmps assign body w R := by
  unfold roundR at hx
  split at hx
  case h_2 => cases hx
  rename_i pd t sz ps assign body hk
  split at hx
  · cases hx
  rename_i t1 hputs
  split at hputs
  case h_2 => cases hputs
  rename_i hGk
  have hGk : C.G ≤ k := Nat.le_of_ble_eq_true hGk
  split at hx
  · cases hx
  rename_i h1 hu1
  split at hx
  case h_2 => cases hx
  rename_i s2 hassign
  split at hx
  · cases hx
  rename_i e s3 hbody
  obtain ⟨q, hq, fn, tmps, ds, hobj, hsz, htm⟩ := s.obj hk
  rw [hpk] at hq
  cases hq
  obtain ⟨hlen, hsz1, htm1⟩ := putsX_ok hputs ha hsz htm
  have hg1 := Tr.get_upd _ _ _ _ _ hu1
  have hdrop := Post.drop s hu1
  have him : Img C.G E h p.1 := ⟨k, _, p, hGk, hk, hpk, rfl⟩
  have hoff : Off E h1 p.1 := fun id o q hid hq e => by
    rw [hg1] at hid
    by_cases c : id = k
    · rw [if_pos c] at hid; cases hid
    · rw [if_neg c] at hid
      exact c (s.hr.inj id k o _ q p hid hk hq hpk e)
  have hb : b = false := by
    split at hx
    · cases hx
    · split at hx <;> cases hx
      rfl
    · split at hx <;> cases hx
      rfl
  refine ⟨hb, fn, _, assign, body, run_yield hobj (by simpa using hlen), ?_⟩
  have hfold : (ps.toArray.zip xs.toArray).foldl (fun tmps (t, a) => tmps.setIfInBounds t a) tmps = (ps.zip xs).foldl (fun tm p => tm.setIfInBounds p.1 p.2) tmps := by
    rw [List.zip_toArray, List.foldl_toArray]
  refine roundIn_of_wpIn trivial ?_
  show assign.wpIn (Fw (some p.1)) 0 P _ _ w
  refine hex _ _ _ _ hassign (some p.1) [] E _ w _ ?_ ⟨?_, ?_, rfl, hdrop.sh⟩ ?_
  · intro l hl
    cases hl
    exact ⟨hoff, _, hobj⟩
  · intro i u hi
    have := htm1 i u hi
    rw [← hfold] at this
    exact this
  · rw [← hfold] at hsz1
    exact hsz1
  rintro e1 a1 w1 ⟨E1, ms1, he1, sr1, hp1, hm1⟩
  simp only [Ex.is] at he1
  subst he1
  obtain ⟨hoff1, hsame1⟩ := Off.step hdrop.sh hp1 (lt_of_at hobj) hoff
  have hobj1 := hsame1.trans hobj
  refine ⟨_, run_beginRound hobj1 rfl, ?_⟩
  have hp2 := Post.turn (hdrop.trans hp1) s.anc him hoff1 (w2 := w1.putObj p.1 (.loop { state := .busy, pending := pd, fn, tmps, params := ps.toArray, assign, body, defers := ds })) rfl rfl rfl World.putObj_size (fun j hj => World.putObj_heap_other hj)
  have hobj2 : (w1.putObj p.1 (.loop { state := .busy, pending := pd, fn, tmps, params := ps.toArray, assign, body, defers := ds })).heap[p.1]? = some (.loop { state := .busy, pending := pd, fn, tmps, params := ps.toArray, assign, body, defers := ds }) := World.putObj_heap_same (lt_of_at hobj1)
  refine hex _ _ _ _ hbody (some p.1) _ E1 a1 _ _ ?_ ⟨sr1.tm, sr1.sz, sr1.df, hp2.sh⟩ ?_
  · intro l hl
    cases hl
    exact ⟨hoff1, _, hobj2⟩
  rintro e3 a3 w3 ⟨E3, ms3, he3, sr3, hp3, hm3⟩
  obtain ⟨hoff3, hsame3⟩ := Off.step hp2.sh hp3 (lt_of_at hobj2) hoff1
  have hobj3 := hsame3.trans hobj2
  have hp23 := hp2.trans hp3
  have hb3 : E3.blk k = some p := hp23.fr.le.blk _ _ hpk
  have fin : ∀ (st : LoopState) (j : Option Code) (h4 : Tr AO), Tr.upd 48 s3.h k (some (.loop st j t sz ps assign body)) = some h4 →
      Post C E h n w E3 h4 s3.n (w3.putObj p.1 (.loop { state := st, pending := j, fn, tmps, params := ps.toArray, assign, body, defers := ds })) := by
    intro st j h4 hu4
    have hp4 := Post.turn hp23 s.anc him hoff3 (w2 := w3.putObj p.1 (.loop { state := st, pending := j, fn, tmps, params := ps.toArray, assign, body, defers := ds })) rfl rfl rfl World.putObj_size (fun j hj => World.putObj_heap_other hj)
    exact Post.put hp4 s.anc him hk hb3 hoff3 hu4 ⟨fn, tmps, ds, World.putObj_heap_same (lt_of_at hobj3), hsz, fun i u hi => let ⟨x, c1, c2⟩ := htm i u hi; ⟨x, c1, SV.den_mono hp23.fr.le _ _ c2⟩⟩
  split at hx
  · cases hx
  · rename_i hj
    split at hx
    · cases hx
    rename_i h4 hu4
    cases hx
    have : e = .normal := by cases e <;> simp [jumpX] at hj <;> rfl
    subst this
    simp only [Ex.is] at he3
    subst he3
    exact ⟨_, _, run_endRound none hobj3, hR hb E3 _ _ rfl (fin .ready none _ hu4)⟩
  · rename_i j hj
    split at hx
    · cases hx
    rename_i h4 hu4
    cases hx
    have hF := fin .done (some j) _ hu4
    cases e with
    | normal => simp [jumpX] at hj
    | ret =>
      simp only [jumpX, Option.some.injEq] at hj
      subst hj
      simp only [Ex.is] at he3
      subst he3
      exact ⟨_, _, run_endRound (some .ret) hobj3, hR hb E3 _ _ rfl hF⟩
    | exit id =>
      simp only [jumpX, Option.some.injEq] at hj
      subst hj
      simp only [Ex.is] at he3
      subst he3
      exact ⟨_, _, run_endRound (some (.exit id)) hobj3, hR hb E3 _ _ rfl hF⟩
    | panic _ => simp [jumpX] at hj

omit hC in
theorem write_nd {t : Tr SV} {h : Tr AO} {n : Nat} {op : Op} {r : WR} (hx : writeX C t h n op = some r) : ∀ c, op ≠ .defer c := by
  intro c e
  subst e
  simp [writeX] at hx

omit hC in
theorem alloc_nd {t : Tr SV} {n : Nat} {op : Op} {r : SV × AO} (hx : allocX C t n op = some r) : ∀ c, op ≠ .defer c := by
  intro c e
  subst e
  simp [allocX] at hx

/-- What an operation that changes memory or calls leads to. -/
theorem writerR_ok {ex : Nat → Code → St → Option (Ex × St)} (hex : ExOk P C ex) {ro : Option Nat} {E : Env} {t : Tr SV} {h h' : Tr AO} {n n' : Nat} {w : World} {a : Act} {o : Oper} {p : Bool} {v : SV} (s : SH C E h n w.heap)
    (hget : ∀ x v, x ∈ o.op.operands → getX C.g0 t x = some v → v.den E = some (a.eval x)) (hx : writerR C ex t h n o.op = some (p, v, h', n')) {K : Act → World → Prop} {Q : Exit → Act → World → Prop}
    (hK : p = false → ∀ E' x w', v.den E' = some x → Post C E h n w E' h' n' w' → K (a.put o.dst x) w')
    (hQ : p = true → ∀ E' x w', v.den E' = some x → Post C E h n w E' h' n' w' → Q (.panic (panicOf x)) a w') : o.wpIn (Fw ro) 0 P a w K Q := by
  simp only [writerR] at hx
  refine ⟨fun _ _ => trivial, ?_⟩
  split at hx
  · cases hx
  · rename_i v1 h1 n1 hw
    cases hx
    obtain ⟨E', x, w', hr, hd, hp⟩ := writeX_ok hC s hget hw
    rw [semFw (write_nd hw), hr]
    exact hK rfl E' x w' hd hp
  · rename_i h1 hw
    cases hx
    obtain ⟨w', hr, hp⟩ := writeX_ok hC s hget hw
    rw [semFw (write_nd hw), hr]
    exact hK rfl E undef w' rfl hp
  · rename_i ty v1 hw
    cases hx
    obtain ⟨x, hd, hr⟩ := writeX_ok hC s hget hw
    rw [semFw (write_nd hw), hr]
    exact hQ rfl E (.iface ty x) w (by simp [SV.den, hd]) (Post.refl s)
  · rename_i f args hw
    obtain ⟨xs, hr, hd⟩ := writeX_ok hC s hget hw
    rw [semFw (write_nd hw), hr]
    refine ⟨fun h => (by simp [Fw, Fence.wide] at h), callsFw (callR_ok hC hex hx s hd (fun E' x w' h1 h2 => ?_))⟩
    cases p with
    | false => exact hK rfl E' x w' h1 h2
    | true => exact hQ rfl E' x w' h1 h2
  · rename_i k args hw
    obtain ⟨q, xs, hq, hd, hr⟩ := writeX_ok hC s hget hw
    obtain ⟨rfl, f, tmps, assign, body, hy, hround⟩ := roundR_ok hex (ro := ro) hx s hq hd (R := fun e w' => match e with
      | .returned v => K (a.put o.dst v) w'
      | .panicked chain => Q (.panic chain) a w'
      | .outgrown => LetsOut Q) (fun hb E' x w' h1 h2 => hK hb E' x w' h1 h2)
    rw [semFw (write_nd hw), hr, hy]
    refine ⟨fun h => (by simp [Fw, Fence.wide] at h), ?_⟩
    refine hround.mono (fun e w' he => ?_)
    cases e <;> exact he

theorem quiet_wp {ro : Option Nat} {E : Env} {t : Tr SV} {h : Tr AO} {n : Nat} {w : World} {a : Act} {o : Oper} {v : SV} (s : SH C E h n w.heap)
    (hget : ∀ x v, x ∈ o.op.operands → getX C.g0 t x = some v → v.den E = some (a.eval x)) (hx : quietX C t h o.op = some v) {K : Act → World → Prop} {Q : Exit → Act → World → Prop}
    (hK : ∀ x, v.den E = some x → K (a.put o.dst x) w) : o.wpIn (Fw ro) 0 P a w K Q := by
  obtain ⟨x, hr, hd⟩ := quietX_ok hC s hget hx
  refine ⟨fun _ _ => trivial, ?_⟩
  rw [semFw (quiet_nd hx), hr]
  exact hK x hd

theorem alloc_wp {ro : Option Nat} {E : Env} {t : Tr SV} {n : Nat} {w : World} {a : Act} {o : Oper} {v : SV} {ao : AO} (hn : E.blk n = none)
    (hget : ∀ x v, x ∈ o.op.operands → getX C.g0 t x = some v → v.den E = some (a.eval x)) (hx : allocX C t n o.op = some (v, ao)) {K : Act → World → Prop} {Q : Exit → Act → World → Prop}
    (hK : ∀ O y, AOK E w n v ao O y → K (a.put o.dst y) (w.alloc O)) : o.wpIn (Fw ro) 0 P a w K Q := by
  obtain ⟨O, y, hr, hd⟩ := allocX_ok hC hn hget hx
  refine ⟨fun _ _ => trivial, ?_⟩
  rw [semFw (alloc_nd hx), hr]
  exact hK O y hd

omit hC in
/-- Whether an operation is to be done. -/
theorem wantedX_ok {E : Env} {ops : Array Oper} {t : Tr SV} {a : Act} {o : Oper} {b : Bool} (hx : wantedX ops.toList t o = some b)
    (ht : ∀ j want g d v, o.guard = some (j, want) → ops[j]? = some g → g.dst = some d → t.get d = some v → ∃ x, a.tmps[d]? = some x ∧ v.den E = some x) : Region.wanted o (yielded ops a.tmps) = b := by
  unfold wantedX at hx
  split at hx
  · rename_i hg
    cases hx
    simp [Region.wanted, hg]
  · rename_i j want hg
    simp only [Region.wanted, hg]
    split at hx
    · rename_i hj
      cases hx
      have : ops[j]? = none := by simpa using hj
      simp [yielded, this]
    · rename_i g hj
      have hj' : ops[j]? = some g := by simpa using hj
      split at hx
      · rename_i hd
        cases hx
        simp [yielded, hj', hd]
      · rename_i d hd
        split at hx
        · rename_i b' hb
          cases hx
          obtain ⟨x, h1, h2⟩ := ht j want g d _ hg hj' hd hb
          simp only [SV.den, Option.some.injEq] at h2
          subst h2
          simp only [yielded, hj', Option.bind_some, hd, h1]
          cases b' <;> cases want <;> rfl
        · rename_i vs hb
          cases hx
          obtain ⟨x, h1, h2⟩ := ht j want g d _ hg hj' hd hb
          simp only [SV.den, Option.map_eq_some_iff] at h2
          obtain ⟨l, hl, rfl⟩ := h2
          simp only [yielded, hj', Option.bind_some, hd, h1]
          rfl
        · cases hx
end
end Go.Xq
