/-
  A run of closed code by the kernel: comparisons of other values, conversions, indexes, slices, literals.
-/
import Derived.Test.YtggonamheakkkaaGreatDoorXd
import Derived.Laws.Slices
import Derived.Laws.StructEq
namespace Go.Xq
open Go.RowKit
set_option linter.unusedVariables false

section
variable {P : Program} {C : Cx} (hC : C.Ok P)

/-! ### == -/
/-- Two structs' parts, one by one. -/
noncomputable def eqF (C : Cx) (eq : TypeId → SV → SV → Option Bool) (xs ys : List SV) : List Field → Option Bool
  | [] => some true
  | f :: r => match f.name == "_" with
    | true => eqF C eq xs ys r
    | false => match xPart C f.type xs f.offset with
      | none => none
      | some a => match xPart C f.type ys f.offset with
        | none => none
        | some b => match eq f.type a b with
          | none => none
          | some false => some false
          | some true => eqF C eq xs ys r

/-- Two arrays' elements, one by one. -/
noncomputable def eqA (C : Cx) (eq : SV → SV → Option Bool) (e : TypeId) (sz : Nat) (xs ys : List SV) : Nat → Nat → Option Bool
  | 0, _ => some true
  | n + 1, i => match xPart C e xs (Nat.mul i sz) with
    | none => none
    | some a => match xPart C e ys (Nat.mul i sz) with
      | none => none
      | some b => match eq a b with
        | none => none
        | some false => some false
        | some true => eqA C eq e sz xs ys n (Nat.succ i)

/-- Two values of a type: are they the same? (Not: parts of structs.) -/
noncomputable def xEq (C : Cx) (h : Tr AO) : Nat → TypeId → SV → SV → Option Bool
  | 0, _, _, _ => none
  | d + 1, t, x, y => match C.tt.get t with
    | none => none
    | some i => match i.desc with
      | .bool => match x, y with
        | .bool a, .bool b => some (match a with | true => b | false => notB b)
        | _, _ => none
      | .int _ => match x, y with
        | .int k a, .int k' b => match Nat.beq (kN k) (kN k') with
          | true => cmpSI C.facts .eql a b
          | false => none
        | _, _ => none
      | .string => match x, y with
        | .str a, .str b => some (beqB a b)
        | _, _ => none
      | .pointer e => match x, y with
        | .nilptr, .nilptr => some true
        | .nilptr, .ptr _ _ => some false
        | .ptr _ _, .nilptr => some false
        | .ptr i o, .ptr j q => match C.tt.get e with
          | none => none
          | some ei => match Nat.beq ei.info.size 0 with
            | true => none
            | false => match Nat.beq i j with
              | true => some (Nat.beq o q)
              | false => match h.get i, h.get j with
                | some (.cells _ _ _ false), some (.cells _ _ _ false) => some false
                | _, _ => none
        | _, _ => none
      | .interface _ => match x, y with
        | .nilIface, .nilIface => some true
        | .nilIface, .iface _ _ => some false
        | .iface _ _, .nilIface => some false
        | .nilIface, .opq _ => some false
        | .opq _, .nilIface => some false
        | .iface tx vx, .iface ty vy => match Nat.beq tx ty with
          | false => some false
          | true => match C.tt.get tx with
            | some ti => match ti.info.comparable with
              | true => xEq C h d tx vx vy
              | false => none
            | none => none
        | _, _ => none
      | .slice _ => match x, y with
        | .nilslice, .nilslice => some true
        | .nilslice, .slice _ _ _ _ => some false
        | .slice _ _ _ _, .nilslice => some false
        | _, _ => none
      | .map _ _ => match x, y with
        | .nilmap, .nilmap => some true
        | .nilmap, .map _ => some false
        | .map _, .nilmap => some false
        | _, _ => none
      | .func _ _ _ => match x, y with
        | .nilfunc, .nilfunc => some true
        | .nilfunc, .func _ _ _ => some false
        | .func _ _ _, .nilfunc => some false
        | _, _ => none
      | .struct fs => match memN C.sok t with
        | false => none
        | true => match x, y with
          | .agg xs, .agg ys => eqF C (xEq C h d) xs ys fs.toList
          | _, _ => none
      | .array n e => match x, y with
        | .agg xs, .agg ys => match C.tt.get e with
          | none => none
          | some ei => eqA C (xEq C h d e) e ei.info.size xs ys n 0
        | _, _ => none
      | _ => none

theorem shape_of_cells {w : World} {b : Nat} {c : Array Value} {e : TypeId} {fz : Nat × Nat} (h : w.heap[b]? = some (.cells c e fz)) : w.shape? b = some (e, c.size) := by
  simp [World.shape?, h]

theorem frozen00 {w : World} {b off : Nat} {c : Array Value} {e : TypeId} (h : w.heap[b]? = some (.cells c e (0, 0))) : w.frozen? ⟨b, off, none⟩ = false := by
  simp [World.frozen?, h]

theorem run_sameAddr_same {w : World} (b o q : Nat) : (sameAddr ⟨b, o, none⟩ ⟨b, q, none⟩).run P w = .ok (decide (o = q)) w := by
  simp only [sameAddr, BEq.rfl, if_true, Sem.run_pure]
  congr 1
  by_cases h : o = q
  · subst h; simp
  · have : ¬ ((⟨b, o, none⟩ : Addr) = ⟨b, q, none⟩) := fun e => h (by injection e)
    simp [h]

theorem run_sameAddr_other {w : World} {a b o q : Nat} {c c' : Array Value} {e e' : TypeId} (h : w.heap[a]? = some (.cells c e (0, 0))) (h' : w.heap[b]? = some (.cells c' e' (0, 0))) (hne : a ≠ b) :
    (sameAddr ⟨a, o, none⟩ ⟨b, q, none⟩).run P w = .ok false w := by
  have e1 : (a == b) = false := by simpa using hne
  simp [sameAddr, e1, frozen00 h, frozen00 h', noView, viewAt, mayBeOne, stringish, shape_of_cells h, shape_of_cells h']

theorem getFunc {E : Env} {fn : Fn} {a b : List SV} {x : Value} (h : (SV.func fn a b).den E = some x) : ∃ p q, x = .func fn p q := by
  simp only [SV.den] at h
  split at h
  · cases h; exact ⟨_, _, rfl⟩
  · cases h

include hC
theorem eqF_ok {E : Env} {w : World} {d : Nat} {eq : TypeId → SV → SV → Option Bool} {xs ys : List SV} {xv yv : List Value} (hxs : denL E xs = some xv) (hys : denL E ys = some yv)
    (he : ∀ {t : TypeId} {a b : SV} {r : Bool} {av bv : Value}, eq t a b = some r → a.den E = some av → b.den E = some bv → (Op.equalIn d t av bv).run P w = .ok r w) :
    ∀ {fs : List Field} {r : Bool}, eqF C eq xs ys fs = some r → (Op.eqFields d xv.toArray yv.toArray fs).run P w = .ok r w
  | [], r, h => by cases h; simp [Op.eqFields]
  | f :: fs, r, h => by
    simp only [eqF] at h
    split at h
    · rename_i hn
      have hn' : f.name = "_" := by simpa using hn
      simp only [Op.eqFields, hn', ne_eq, not_true_eq_false, if_false]
      exact eqF_ok hxs hys he h
    · rename_i hn
      have hn' : f.name ≠ "_" := by simpa using hn
      split at h
      · cases h
      rename_i a ha
      split at h
      · cases h
      rename_i b hb
      obtain ⟨av, p1, q1⟩ := xPart_ok hC (w := w) ha hxs
      obtain ⟨bv, p2, q2⟩ := xPart_ok hC (w := w) hb hys
      split at h
      · cases h
      · rename_i hr
        cases h
        simp only [Op.eqFields, ne_eq, hn', not_false_eq_true, if_true, Sem.run_bind, p1, p2, he hr q1 q2, Result.andThen_ok, Bool.not_false, Sem.run_pure]
      · rename_i hr
        simp only [Op.eqFields, ne_eq, hn', not_false_eq_true, if_true, Sem.run_bind, p1, p2, he hr q1 q2, Result.andThen_ok, Bool.not_true, Bool.false_eq_true, if_false]
        exact eqF_ok hxs hys he h

/-- The elements of two arrays, one by one. -/
noncomputable def eqElems (d : Nat) (e : TypeId) (sz : Nat) (xs ys : Array Value) : Nat → Nat → Sem Bool
  | 0, _ => pure true
  | n + 1, i => do
    let a ← part e xs (i * sz)
    let b ← part e ys (i * sz)
    let r ← Op.equalIn d e a b
    if (!r) = true then pure false else eqElems d e sz xs ys n (i + 1)

omit hC in
theorem run_equalIn_array (w : World) (d : Nat) (t e : TypeId) (n : Nat) {j : TypeInfo} (xs ys : Array Value) (ht : P.underlying t = some (.array n e)) (he : P.info? e = some j) :
    (Op.equalIn (d + 1) t (.agg xs) (.agg ys)).run P w = (eqElems d e j.size xs ys n 0).run P w := by
  simp only [Op.equalIn, Sem.run_bind, run_underlying ht, Result.andThen_ok, run_sizeOf' w he]
  rw [Std.Legacy.Range.forIn_eq_forIn_range']
  simp only [Std.Legacy.Range.size, Nat.sub_zero, Nat.add_sub_cancel, Nat.div_one]
  generalize hk : (0 : Nat) = k
  clear hk ht
  induction n generalizing w k with
  | zero => simp [eqElems]
  | succ n ih =>
    simp only [List.range'_succ, List.forIn_cons, eqElems, Sem.run_bind, Sem.run_ite]
    generalize (part e xs (k * j.size)).run P w = r1
    cases r1 with
    | ok a w1 =>
      simp only [Result.andThen_ok]
      generalize (part e ys (k * j.size)).run P w1 = r2
      cases r2 with
      | ok b w2 =>
        simp only [Result.andThen_ok]
        generalize (Op.equalIn d e a b).run P w2 = r3
        cases r3 with
        | ok r w3 =>
          cases r
          · simp only [Result.andThen_ok, Bool.not_false, if_true, Sem.run_pure]
          · simp only [Result.andThen_ok, Bool.not_true, Bool.false_eq_true, if_false, Sem.run_pure]
            exact ih w3 (k + 1)
        | halt x w3 => simp [Result.andThen]
      | halt x w2 => simp [Result.andThen]
    | halt x w1 => simp [Result.andThen]

theorem eqA_ok {E : Env} {w : World} {d : Nat} {e : TypeId} {sz : Nat} {eq : SV → SV → Option Bool} {xs ys : List SV} {xv yv : List Value} (hxs : denL E xs = some xv) (hys : denL E ys = some yv)
    (he : ∀ {a b : SV} {r : Bool} {av bv : Value}, eq a b = some r → a.den E = some av → b.den E = some bv → (Op.equalIn d e av bv).run P w = .ok r w) :
    ∀ {n i : Nat} {r : Bool}, eqA C eq e sz xs ys n i = some r → (eqElems d e sz xv.toArray yv.toArray n i).run P w = .ok r w
  | 0, i, r, h => by cases h; simp [eqElems]
  | n + 1, i, r, h => by
    simp only [eqA] at h
    split at h
    · cases h
    rename_i a ha
    split at h
    · cases h
    rename_i b hb
    obtain ⟨av, p1, q1⟩ := xPart_ok hC (w := w) ha hxs
    obtain ⟨bv, p2, q2⟩ := xPart_ok hC (w := w) hb hys
    simp only [Nat.mul_eq] at p1 p2
    split at h
    · cases h
    · rename_i hr
      cases h
      simp only [eqElems, Sem.run_bind, p1, p2, he hr q1 q2, Result.andThen_ok, Bool.not_false, if_true, Sem.run_pure]
    · rename_i hr
      simp only [eqElems, Sem.run_bind, p1, p2, he hr q1 q2, Result.andThen_ok, Bool.not_true, Bool.false_eq_true, if_false]
      exact eqA_ok hxs hys he h

set_option maxHeartbeats 2000000 in
theorem xEq_ok {E : Env} {h : Tr AO} {n : Nat} {w : World} (s : SH C E h n w.heap) : ∀ (d D : Nat) {t : TypeId} {x y : SV} {r : Bool} {xv yv : Value}, d ≤ D → xEq C h d t x y = some r → x.den E = some xv → y.den E = some yv →
    (Op.equalIn D t xv yv).run P w = .ok r w
  | 0, D, t, x, y, r, xv, yv, hd, hx, _, _ => by simp [xEq] at hx
  | d + 1, 0, t, x, y, r, xv, yv, hd, hx, _, _ => by omega
  | d + 1, D + 1, t, x, y, r, xv, yv, hd, hx, hxv, hyv => by
    simp only [xEq] at hx
    split at hx
    · cases hx
    rename_i i hi
    obtain ⟨hdesc, hin⟩ := hC.ty t i hi
    split at hx
    · rename_i hk
      rw [hk] at hdesc
      split at hx
      case h_2 => cases hx
      rename_i a b
      cases hxv; cases hyv
      simp only [Option.some.injEq] at hx
      simp only [Op.equalIn, Sem.run_bind, run_underlying hdesc, Result.andThen_ok, Sem.run_pure, ← hx]
      cases a <;> cases b <;> rfl
    · rename_i k hk
      rw [hk] at hdesc
      split at hx
      case h_2 => cases hx
      rename_i k1 a k2 b
      split at hx
      case h_2 => cases hx
      rename_i hkk
      have hkk' := kN_inj hkk
      subst hkk'
      cases hxv; cases hyv
      have := cmpSI_ok s.facts hx
      simp only [icmp] at this
      simp only [Op.equalIn, Sem.run_bind, run_underlying hdesc, Result.andThen_ok, if_true, Sem.run_pure, this]
    · rename_i hk
      rw [hk] at hdesc
      split at hx
      case h_2 => cases hx
      rename_i a b
      cases hxv; cases hyv
      simp only [Option.some.injEq] at hx
      simp only [Op.equalIn, Sem.run_bind, run_underlying hdesc, Result.andThen_ok, Sem.run_pure, beq_toListBytes, ByteArray.toList_mk, ← hx, beqB_eq]
    · rename_i e hk
      rw [hk] at hdesc
      split at hx
      · cases hxv; cases hyv; cases hx
        simp [Op.equalIn, run_underlying hdesc]
      · rename_i j q
        cases hxv; cases hx
        simp only [SV.den, Option.map_eq_some_iff] at hyv
        obtain ⟨p, hp, rfl⟩ := hyv
        simp [Op.equalIn, run_underlying hdesc]
      · rename_i j q
        cases hyv; cases hx
        simp only [SV.den, Option.map_eq_some_iff] at hxv
        obtain ⟨p, hp, rfl⟩ := hxv
        simp [Op.equalIn, run_underlying hdesc]
      · rename_i i o j q
        simp only [SV.den, Option.map_eq_some_iff] at hxv hyv
        obtain ⟨p1, hp1, rfl⟩ := hxv
        obtain ⟨p2, hp2, rfl⟩ := hyv
        split at hx
        · cases hx
        rename_i ei hei
        obtain ⟨_, hein⟩ := hC.ty e ei hei
        split at hx
        · cases hx
        rename_i hz
        have hz' : ¬ ei.info.size = 0 := by intro e'; rw [e'] at hz; cases hz
        split at hx
        · rename_i hij
          have hij' := Nat.eq_of_beq_eq_true hij
          subst hij'
          rw [hp1] at hp2; cases hp2
          simp only [Option.some.injEq] at hx
          simp only [Op.equalIn, Sem.run_bind, run_underlying hdesc, Result.andThen_ok, run_sizeOf' w hein, ne_eq, hz', not_false_eq_true, if_true, run_sameAddr_same, ← hx, nbeq]
        · rename_i hij
          have hij' := Nat.ne_of_beq_eq_false hij
          split at hx
          case h_2 => cases hx
          rename_i _ _ _ c1 e1 s1 c2 e2 s2 hg1 hg2
          cases hx
          obtain ⟨q1, hq1, v1, r1, f1, a1, a2, a3, a4, a5, a6⟩ := s.obj hg1
          obtain ⟨q2, hq2, v2, r2, f2, b1, b2, b3, b4, b5, b6⟩ := s.obj hg2
          rw [hp1] at hq1; cases hq1
          rw [hp2] at hq2; cases hq2
          rw [a5 rfl] at a2
          rw [b5 rfl] at b2
          have hne : p1.1 ≠ p2.1 := fun e => hij' (s.hr.inj _ _ _ _ _ _ hg1 hg2 hp1 hp2 e)
          simp only [Op.equalIn, Sem.run_bind, run_underlying hdesc, Result.andThen_ok, run_sizeOf' w hein, ne_eq, hz', not_false_eq_true, if_true, run_sameAddr_other a2 b2 hne]
      · cases hx
    · rename_i ms hk
      rw [hk] at hdesc
      split at hx
      · cases hxv; cases hyv; cases hx
        simp [Op.equalIn, run_underlying hdesc]
      · cases hxv; cases hx
        simp only [SV.den, Option.map_eq_some_iff] at hyv
        obtain ⟨p, hp, rfl⟩ := hyv
        simp [Op.equalIn, run_underlying hdesc]
      · cases hyv; cases hx
        simp only [SV.den, Option.map_eq_some_iff] at hxv
        obtain ⟨p, hp, rfl⟩ := hxv
        simp [Op.equalIn, run_underlying hdesc]
      · cases hxv; cases hx
        obtain ⟨t', u, rfl⟩ := ifaceV_eq hyv
        simp [Op.equalIn, run_underlying hdesc]
      · cases hyv; cases hx
        obtain ⟨t', u, rfl⟩ := ifaceV_eq hxv
        simp [Op.equalIn, run_underlying hdesc]
      · rename_i tx vx ty vy
        simp only [SV.den, Option.map_eq_some_iff] at hxv hyv
        obtain ⟨xv', hxv', rfl⟩ := hxv
        obtain ⟨yv', hyv', rfl⟩ := hyv
        split at hx
        · rename_i hne
          cases hx
          have hne' := Nat.ne_of_beq_eq_false hne
          simp [Op.equalIn, run_underlying hdesc, hne']
        · rename_i heq
          have heq' := Nat.eq_of_beq_eq_true heq
          subst heq'
          split at hx
          case h_2 => cases hx
          rename_i ti hti
          obtain ⟨_, htin⟩ := hC.ty _ ti hti
          split at hx
          case h_2 => cases hx
          rename_i hcomp
          have ih := xEq_ok s d D (by omega) hx hxv' hyv'
          simp only [Op.equalIn, Sem.run_bind, run_underlying hdesc, Result.andThen_ok, ne_eq, not_true_eq_false, if_false, run_typeInfo w htin, hcomp, Bool.not_true, Bool.false_eq_true]
          exact ih
      · cases hx
    · rename_i e hk
      rw [hk] at hdesc
      split at hx
      · cases hxv; cases hyv; cases hx
        simp [Op.equalIn, run_underlying hdesc]
      · cases hxv; cases hx
        simp only [SV.den, Option.map_eq_some_iff] at hyv
        obtain ⟨p, hp, rfl⟩ := hyv
        simp [Op.equalIn, run_underlying hdesc]
      · cases hyv; cases hx
        simp only [SV.den, Option.map_eq_some_iff] at hxv
        obtain ⟨p, hp, rfl⟩ := hxv
        simp [Op.equalIn, run_underlying hdesc]
      · cases hx
    · rename_i e1 e2 hk
      rw [hk] at hdesc
      split at hx
      · cases hxv; cases hyv; cases hx
        simp [Op.equalIn, run_underlying hdesc]
      · cases hxv; cases hx
        simp only [SV.den, Option.map_eq_some_iff] at hyv
        obtain ⟨p, hp, rfl⟩ := hyv
        simp [Op.equalIn, run_underlying hdesc]
      · cases hyv; cases hx
        simp only [SV.den, Option.map_eq_some_iff] at hxv
        obtain ⟨p, hp, rfl⟩ := hxv
        simp [Op.equalIn, run_underlying hdesc]
      · cases hx
    · rename_i e1 e2 e3 hk
      rw [hk] at hdesc
      split at hx
      · cases hxv; cases hyv; cases hx
        simp [Op.equalIn, run_underlying hdesc]
      · cases hxv; cases hx
        obtain ⟨p, q, rfl⟩ := getFunc hyv
        simp [Op.equalIn, run_underlying hdesc]
      · cases hyv; cases hx
        obtain ⟨p, q, rfl⟩ := getFunc hxv
        simp [Op.equalIn, run_underlying hdesc]
      · cases hx
    · rename_i fs hk
      rw [hk] at hdesc
      split at hx
      · cases hx
      rename_i hsok
      split at hx
      case h_2 => cases hx
      rename_i xs ys
      simp only [SV.den, Option.map_eq_some_iff] at hxv hyv
      obtain ⟨xl, hxl, rfl⟩ := hxv
      obtain ⟨yl, hyl, rfl⟩ := hyv
      have hf : P.fieldsOf t = fs := by simp [Program.fieldsOf, hdesc]
      rw [run_equalIn_struct w D t xl.toArray yl.toArray (by rw [hf]; exact hdesc) (hC.sok t hsok).1, hf]
      exact eqF_ok hC hxl hyl (fun {t a b r av bv} he ha hb => xEq_ok s d D (by omega) he ha hb) hx
    · rename_i n e hk
      rw [hk] at hdesc
      split at hx
      case h_2 => cases hx
      rename_i xs ys
      split at hx
      · cases hx
      rename_i ei hei
      simp only [SV.den, Option.map_eq_some_iff] at hxv hyv
      obtain ⟨xl, hxl, rfl⟩ := hxv
      obtain ⟨yl, hyl, rfl⟩ := hyv
      rw [run_equalIn_array w D t e n xl.toArray yl.toArray hdesc (hC.ty e ei hei).2]
      exact eqA_ok hC hxl hyl (fun {a b r av bv} he ha hb => xEq_ok s d D (by omega) he ha hb) hx
    · cases hx
end
end Go.Xq
