/-
  A run of closed code by the kernel: comparisons of other values, conversions, indexes, slices, literals.
-/
import Derived.Test.YtknpoojkjmgihaaXd
import Derived.Laws.Slices
namespace Go.Xq
open Go.RowKit
set_option linter.unusedVariables false

section
variable {P : Program} {C : Cx} (hC : C.Ok P)

/-! ### == -/
/-- Two values of a type: are they the same? (Not: parts of structs.) -/
def xEq (C : Cx) (h : Tr AO) : Nat → TypeId → SV → SV → Option Bool
  | 0, _, _, _ => none
  | d + 1, t, x, y => match C.tt.get t with
    | none => none
    | some i => match i.desc with
      | .bool => match x, y with
        | .bool a, .bool b => some (match a with | true => b | false => notB b)
        | _, _ => none
      | .int _ => match x, y with
        | .int k a, .int k' b => match Nat.beq (kN k) (kN k') with
          | true => cmpSI C.facts .eql a b
          | false => none
        | _, _ => none
      | .string => match x, y with
        | .str a, .str b => some (beqB a b)
        | _, _ => none
      | .pointer e => match x, y with
        | .nilptr, .nilptr => some true
        | .nilptr, .ptr _ _ => some false
        | .ptr _ _, .nilptr => some false
        | .ptr i o, .ptr j q => match C.tt.get e with
          | none => none
          | some ei => match Nat.beq ei.info.size 0 with
            | true => none
            | false => match Nat.beq i j with
              | true => some (Nat.beq o q)
              | false => match h.get i, h.get j with
                | some (.cells _ _ _ false), some (.cells _ _ _ false) => some false
                | _, _ => none
        | _, _ => none
      | .interface _ => match x, y with
        | .nilIface, .nilIface => some true
        | .nilIface, .iface _ _ => some false
        | .iface _ _, .nilIface => some false
        | .iface tx vx, .iface ty vy => match Nat.beq tx ty with
          | false => some false
          | true => match C.tt.get tx with
            | some ti => match ti.info.comparable with
              | true => xEq C h d tx vx vy
              | false => none
            | none => none
        | _, _ => none
      | .slice _ => match x, y with
        | .nilslice, .nilslice => some true
        | .nilslice, .slice _ _ _ _ => some false
        | .slice _ _ _ _, .nilslice => some false
        | _, _ => none
      | .map _ _ => match x, y with
        | .nilmap, .nilmap => some true
        | .nilmap, .map _ => some false
        | .map _, .nilmap => some false
        | _, _ => none
      | .func _ _ _ => match x, y with
        | .nilfunc, .nilfunc => some true
        | .nilfunc, .func _ _ _ => some false
        | .func _ _ _, .nilfunc => some false
        | _, _ => none
      | _ => none

theorem shape_of_cells {w : World} {b : Nat} {c : Array Value} {e : TypeId} {fz : Nat × Nat} (h : w.heap[b]? = some (.cells c e fz)) : w.shape? b = some (e, c.size) := by
  simp [World.shape?, h]

theorem frozen00 {w : World} {b off : Nat} {c : Array Value} {e : TypeId} (h : w.heap[b]? = some (.cells c e (0, 0))) : w.frozen? ⟨b, off, none⟩ = false := by
  simp [World.frozen?, h]

theorem run_sameAddr_same {w : World} (b o q : Nat) : (sameAddr ⟨b, o, none⟩ ⟨b, q, none⟩).run P w = .ok (decide (o = q)) w := by
  simp only [sameAddr, BEq.rfl, if_true, Sem.run_pure]
  congr 1
  by_cases h : o = q
  · subst h; simp
  · have : ¬ ((⟨b, o, none⟩ : Addr) = ⟨b, q, none⟩) := fun e => h (by injection e)
    simp [h]

theorem run_sameAddr_other {w : World} {a b o q : Nat} {c c' : Array Value} {e e' : TypeId} (h : w.heap[a]? = some (.cells c e (0, 0))) (h' : w.heap[b]? = some (.cells c' e' (0, 0))) (hne : a ≠ b) :
    (sameAddr ⟨a, o, none⟩ ⟨b, q, none⟩).run P w = .ok false w := by
  have e1 : (a == b) = false := by simpa using hne
  simp [sameAddr, e1, frozen00 h, frozen00 h', noView, viewAt, mayBeOne, stringish, shape_of_cells h, shape_of_cells h']

theorem getFunc {E : Env} {fn : Fn} {a b : List SV} {x : Value} (h : (SV.func fn a b).den E = some x) : ∃ p q, x = .func fn p q := by
  simp only [SV.den] at h
  split at h
  · cases h; exact ⟨_, _, rfl⟩
  · cases h

include hC
set_option maxHeartbeats 2000000 in
theorem xEq_ok {E : Env} {h : Tr AO} {n : Nat} {w : World} (s : SH C E h n w.heap) : ∀ (d D : Nat) {t : TypeId} {x y : SV} {r : Bool} {xv yv : Value}, d ≤ D → xEq C h d t x y = some r → x.den E = some xv → y.den E = some yv →
    (Op.equalIn D t xv yv).run P w = .ok r w
  | 0, D, t, x, y, r, xv, yv, hd, hx, _, _ => by simp [xEq] at hx
  | d + 1, 0, t, x, y, r, xv, yv, hd, hx, _, _ => by omega
  | d + 1, D + 1, t, x, y, r, xv, yv, hd, hx, hxv, hyv => by
    simp only [xEq] at hx
    split at hx
    · cases hx
    rename_i i hi
    obtain ⟨hdesc, hin⟩ := hC.ty t i hi
    split at hx
    · rename_i hk
      rw [hk] at hdesc
      split at hx
      case h_2 => cases hx
      rename_i a b
      cases hxv; cases hyv
      simp only [Option.some.injEq] at hx
      simp only [Op.equalIn, Sem.run_bind, run_underlying hdesc, Result.andThen_ok, Sem.run_pure, ← hx]
      cases a <;> cases b <;> rfl
    · rename_i k hk
      rw [hk] at hdesc
      split at hx
      case h_2 => cases hx
      rename_i k1 a k2 b
      split at hx
      case h_2 => cases hx
      rename_i hkk
      have hkk' := kN_inj hkk
      subst hkk'
      cases hxv; cases hyv
      have := cmpSI_ok s.facts hx
      simp only [icmp] at this
      simp only [Op.equalIn, Sem.run_bind, run_underlying hdesc, Result.andThen_ok, if_true, Sem.run_pure, this]
    · rename_i hk
      rw [hk] at hdesc
      split at hx
      case h_2 => cases hx
      rename_i a b
      cases hxv; cases hyv
      simp only [Option.some.injEq] at hx
      simp only [Op.equalIn, Sem.run_bind, run_underlying hdesc, Result.andThen_ok, Sem.run_pure, beq_toListBytes, ByteArray.toList_mk, ← hx, beqB_eq]
    · rename_i e hk
      rw [hk] at hdesc
      split at hx
      · cases hxv; cases hyv; cases hx
        simp [Op.equalIn, run_underlying hdesc]
      · rename_i j q
        cases hxv; cases hx
        simp only [SV.den, Option.map_eq_some_iff] at hyv
        obtain ⟨p, hp, rfl⟩ := hyv
        simp [Op.equalIn, run_underlying hdesc]
      · rename_i j q
        cases hyv; cases hx
        simp only [SV.den, Option.map_eq_some_iff] at hxv
        obtain ⟨p, hp, rfl⟩ := hxv
        simp [Op.equalIn, run_underlying hdesc]
      · rename_i i o j q
        simp only [SV.den, Option.map_eq_some_iff] at hxv hyv
        obtain ⟨p1, hp1, rfl⟩ := hxv
        obtain ⟨p2, hp2, rfl⟩ := hyv
        split at hx
        · cases hx
        rename_i ei hei
        obtain ⟨_, hein⟩ := hC.ty e ei hei
        split at hx
        · cases hx
        rename_i hz
        have hz' : ¬ ei.info.size = 0 := by intro e'; rw [e'] at hz; cases hz
        split at hx
        · rename_i hij
          have hij' := Nat.eq_of_beq_eq_true hij
          subst hij'
          rw [hp1] at hp2; cases hp2
          simp only [Option.some.injEq] at hx
          simp only [Op.equalIn, Sem.run_bind, run_underlying hdesc, Result.andThen_ok, run_sizeOf' w hein, ne_eq, hz', not_false_eq_true, if_true, run_sameAddr_same, ← hx, nbeq]
        · rename_i hij
          have hij' := Nat.ne_of_beq_eq_false hij
          split at hx
          case h_2 => cases hx
          rename_i _ _ _ c1 e1 s1 c2 e2 s2 hg1 hg2
          cases hx
          obtain ⟨q1, hq1, v1, r1, f1, a1, a2, a3, a4, a5, a6⟩ := s.obj hg1
          obtain ⟨q2, hq2, v2, r2, f2, b1, b2, b3, b4, b5, b6⟩ := s.obj hg2
          rw [hp1] at hq1; cases hq1
          rw [hp2] at hq2; cases hq2
          rw [a5 rfl] at a2
          rw [b5 rfl] at b2
          have hne : p1.1 ≠ p2.1 := fun e => hij' (s.hr.inj _ _ _ _ _ _ hg1 hg2 hp1 hp2 e)
          simp only [Op.equalIn, Sem.run_bind, run_underlying hdesc, Result.andThen_ok, run_sizeOf' w hein, ne_eq, hz', not_false_eq_true, if_true, run_sameAddr_other a2 b2 hne]
      · cases hx
    · rename_i ms hk
      rw [hk] at hdesc
      split at hx
      · cases hxv; cases hyv; cases hx
        simp [Op.equalIn, run_underlying hdesc]
      · cases hxv; cases hx
        simp only [SV.den, Option.map_eq_some_iff] at hyv
        obtain ⟨p, hp, rfl⟩ := hyv
        simp [Op.equalIn, run_underlying hdesc]
      · cases hyv; cases hx
        simp only [SV.den, Option.map_eq_some_iff] at hxv
        obtain ⟨p, hp, rfl⟩ := hxv
        simp [Op.equalIn, run_underlying hdesc]
      · rename_i tx vx ty vy
        simp only [SV.den, Option.map_eq_some_iff] at hxv hyv
        obtain ⟨xv', hxv', rfl⟩ := hxv
        obtain ⟨yv', hyv', rfl⟩ := hyv
        split at hx
        · rename_i hne
          cases hx
          have hne' := Nat.ne_of_beq_eq_false hne
          simp [Op.equalIn, run_underlying hdesc, hne']
        · rename_i heq
          have heq' := Nat.eq_of_beq_eq_true heq
          subst heq'
          split at hx
          case h_2 => cases hx
          rename_i ti hti
          obtain ⟨_, htin⟩ := hC.ty _ ti hti
          split at hx
          case h_2 => cases hx
          rename_i hcomp
          have ih := xEq_ok s d D (by omega) hx hxv' hyv'
          simp only [Op.equalIn, Sem.run_bind, run_underlying hdesc, Result.andThen_ok, ne_eq, not_true_eq_false, if_false, run_typeInfo w htin, hcomp, Bool.not_true, Bool.false_eq_true]
          exact ih
      · cases hx
    · rename_i e hk
      rw [hk] at hdesc
      split at hx
      · cases hxv; cases hyv; cases hx
        simp [Op.equalIn, run_underlying hdesc]
      · cases hxv; cases hx
        simp only [SV.den, Option.map_eq_some_iff] at hyv
        obtain ⟨p, hp, rfl⟩ := hyv
        simp [Op.equalIn, run_underlying hdesc]
      · cases hyv; cases hx
        simp only [SV.den, Option.map_eq_some_iff] at hxv
        obtain ⟨p, hp, rfl⟩ := hxv
        simp [Op.equalIn, run_underlying hdesc]
      · cases hx
    · rename_i e1 e2 hk
      rw [hk] at hdesc
      split at hx
      · cases hxv; cases hyv; cases hx
        simp [Op.equalIn, run_underlying hdesc]
      · cases hxv; cases hx
        simp only [SV.den, Option.map_eq_some_iff] at hyv
        obtain ⟨p, hp, rfl⟩ := hyv
        simp [Op.equalIn, run_underlying hdesc]
      · cases hyv; cases hx
        simp only [SV.den, Option.map_eq_some_iff] at hxv
        obtain ⟨p, hp, rfl⟩ := hxv
        simp [Op.equalIn, run_underlying hdesc]
      · cases hx
    · rename_i e1 e2 e3 hk
      rw [hk] at hdesc
      split at hx
      · cases hxv; cases hyv; cases hx
        simp [Op.equalIn, run_underlying hdesc]
      · cases hxv; cases hx
        obtain ⟨p, q, rfl⟩ := getFunc hyv
        simp [Op.equalIn, run_underlying hdesc]
      · cases hyv; cases hx
        obtain ⟨p, q, rfl⟩ := getFunc hxv
        simp [Op.equalIn, run_underlying hdesc]
      · cases hx
    · cases hx
end
end Go.Xq
