/-
  Values of a program as plain data: operations that only look: the model makes of the values what stands there (numbers, strings, comparisons).
-/
import Derived.Test.YteapohlamngkpaaDoorPd
namespace Go.Pv
open Go.RowKit
set_option linter.unusedVariables false

theorem evalInt_ok {P : Program} {E : Env} {w : World} {op : BinOp} {t : TypeId} {k k' : IntKind} {a b : Int} {ob : Prop} {v : PV} (h : evalInt op k k' a b = some (ob, v)) (ho : ob) :
    ∃ u, (binOp op t (.int k a) (.int k' b)).run P w = .ok u w ∧ Rep E v u := by
  cases op <;> simp only [evalInt, Option.some.injEq, Prod.mk.injEq] at h <;> obtain ⟨rfl, rfl⟩ := h
  case shl =>
    refine ⟨.int k (iop .shl k a b), ?_, by simp [Rep]⟩
    have : ¬ (b < 0) := by omega
    simp only [binOp, Op.shift, this, if_false, iop, Sem.run_pure]
  case shr =>
    refine ⟨.int k (iop .shr k a b), ?_, by simp [Rep]⟩
    have : ¬ (b < 0) := by omega
    simp only [binOp, Op.shift, this, if_false, iop, Sem.run_pure]
  case quo => obtain ⟨rfl, ho⟩ := ho; exact ⟨_, run_intOp w t .quo k a b rfl (by simp) (by simp) (fun _ => ho), by simp [Rep, iop]⟩
  case rem => obtain ⟨rfl, ho⟩ := ho; exact ⟨_, run_intOp w t .rem k a b rfl (by simp) (by simp) (fun _ => ho), by simp [Rep, iop]⟩
  case add => subst ho; exact ⟨_, run_intOp w t .add k a b rfl (by simp) (by simp) (by simp), by simp [Rep, iop]⟩
  case sub => subst ho; exact ⟨_, run_intOp w t .sub k a b rfl (by simp) (by simp) (by simp), by simp [Rep, iop]⟩
  case mul => subst ho; exact ⟨_, run_intOp w t .mul k a b rfl (by simp) (by simp) (by simp), by simp [Rep, iop]⟩
  case and => subst ho; exact ⟨_, run_intOp w t .and k a b rfl (by simp) (by simp) (by simp), by simp [Rep]⟩
  case or => subst ho; exact ⟨_, run_intOp w t .or k a b rfl (by simp) (by simp) (by simp), by simp [Rep]⟩
  case xor => subst ho; exact ⟨_, run_intOp w t .xor k a b rfl (by simp) (by simp) (by simp), by simp [Rep]⟩
  case andNot => subst ho; exact ⟨_, run_intOp w t .andNot k a b rfl (by simp) (by simp) (by simp), by simp [Rep]⟩
  case eql => subst ho; exact ⟨_, run_intCmp w t .eql k a b rfl, by simp only [Rep, icmp]; rfl⟩
  case neq => subst ho; exact ⟨_, run_intCmp w t .neq k a b rfl, by simp only [Rep, icmp]; congr 1; by_cases h : a = b <;> simp [h]⟩
  case lss => subst ho; exact ⟨_, run_intCmp w t .lss k a b rfl, by simp [Rep, icmp]⟩
  case leq => subst ho; exact ⟨_, run_intCmp w t .leq k a b rfl, by simp [Rep, icmp]⟩
  case gtr => subst ho; exact ⟨_, run_intCmp w t .gtr k a b rfl, by simp [Rep, icmp]⟩
  case geq => subst ho; exact ⟨_, run_intCmp w t .geq k a b rfl, by simp [Rep, icmp]⟩

theorem bytesLess_irrefl : ∀ (x : List UInt8), Op.bytesLess x x = false
  | [] => rfl
  | a :: x => by simp [Op.bytesLess, bytesLess_irrefl x]

theorem bytesLess_total : ∀ (x y : List UInt8), x ≠ y → Op.bytesLess x y = !Op.bytesLess y x
  | [], [], h => absurd rfl h
  | [], b :: y, _ => rfl
  | a :: x, [], _ => rfl
  | a :: x, b :: y, h => by
    simp only [Op.bytesLess]
    by_cases e : a = b
    · subst e
      have : x ≠ y := fun e => h (by rw [e])
      simp [bytesLess_total x y this]
    · have e' : ¬ b = a := fun x => e x.symm
      have h1 : (a == b) = false := by simpa using e
      have h2 : (b == a) = false := by simpa using e'
      simp only [h1, h2, Bool.false_and, Bool.or_false]
      by_cases hl : a < b
      · have : ¬ b < a := fun h => by rw [UInt8.lt_iff_toNat_lt] at h hl; omega
        simp [hl, this]
      · have hne : a.toNat ≠ b.toNat := fun h => e (UInt8.toNat_inj.1 h)
        have : b < a := by rw [UInt8.lt_iff_toNat_lt] at hl ⊢; omega
        simp [hl, this]

theorem evalStr_ok {P : Program} {E : Env} {w : World} {op : BinOp} {t : TypeId} {a b : List UInt8} {ob : Prop} {v : PV} (h : evalStr op a b = some (ob, v)) (ho : ob) :
    ∃ u, (binOp op t (.string ⟨a.toArray⟩) (.string ⟨b.toArray⟩)).run P w = .ok u w ∧ Rep E v u := by
  cases op <;> simp only [evalStr, Option.some.injEq, Prod.mk.injEq] at h <;> (try (cases h; done)) <;> (try obtain ⟨rfl, rfl⟩ := h)
  case add =>
    refine ⟨.string ⟨(a ++ b).toArray⟩, ?_, by simp [Rep]⟩
    have hn : ¬ (((a.length + b.length : Nat) : Int) > 9223372036854775807) := by omega
    simp only [binOp, Op.stringOp, size_mk, IntKind.max_i64, hn, if_false, append_mk, Sem.run_pure]
  case eql =>
    refine ⟨_, by simp only [binOp, Op.stringOp, Sem.run_pure]; rfl, ?_⟩
    simp only [Rep, ByteArray.toList_mk]
    congr 1
    by_cases h : a = b <;> simp [h]
  case neq =>
    refine ⟨_, by simp only [binOp, Op.stringOp, Sem.run_pure]; rfl, ?_⟩
    simp only [Rep, ByteArray.toList_mk]
    congr 1
    by_cases h : a = b <;> simp [h]
  case lss =>
    exact ⟨_, by simp only [binOp, Op.stringOp, Sem.run_pure]; rfl, by simp [Rep]⟩
  case gtr =>
    refine ⟨_, by simp only [binOp, Op.stringOp, Sem.run_pure]; rfl, ?_⟩
    simp only [Rep, ByteArray.toList_mk]
    congr 1
    by_cases h : a = b
    · subst h; simp [bytesLess_irrefl]
    · rw [bytesLess_total a b h]; cases Op.bytesLess b a <;> simp [h]
  case leq =>
    refine ⟨_, by simp only [binOp, Op.stringOp, Sem.run_pure]; rfl, ?_⟩
    simp only [Rep, ByteArray.toList_mk]
    congr 1
    by_cases h : a = b
    · subst h; simp [bytesLess_irrefl]
    · rw [bytesLess_total a b h]; cases Op.bytesLess b a <;> simp [h]
  case geq =>
    exact ⟨_, by simp only [binOp, Op.stringOp, Sem.run_pure]; rfl, by simp [Rep]⟩

theorem evalUn_ok {P : Program} {E : Env} {w : World} {op : UnOp} {a v : PV} {ob : Prop} {av : Value} (h : evalUn op a = some (ob, v)) (ha : Rep E a av) : ∃ u, (Op.unary op av).run P w = .ok u w ∧ Rep E v u := by
  unfold evalUn at h
  split at h
  · simp only [Option.some.injEq, Prod.mk.injEq] at h; obtain ⟨rfl, rfl⟩ := h
    simp only [Rep] at ha; subst ha
    exact ⟨_, by simp only [Op.unary, Op.intArith, Sem.run_pure]; rfl, by simp [Rep]⟩
  · simp only [Option.some.injEq, Prod.mk.injEq] at h; obtain ⟨rfl, rfl⟩ := h
    simp only [Rep] at ha; subst ha
    exact ⟨_, by simp only [Op.unary, Op.intBits, Sem.run_pure]; rfl, by simp [Rep, iop]⟩
  · simp only [Option.some.injEq, Prod.mk.injEq] at h; obtain ⟨rfl, rfl⟩ := h
    simp only [Rep] at ha; subst ha
    exact ⟨_, by simp only [Op.unary, Sem.run_pure]; rfl, by simp [Rep]⟩
  · cases h

/-! ### One cell's values -/
def oneP : PV → Bool
  | .agg _ => false
  | .tup _ => false
  | _ => true

/-- The cells of a value. -/
def cellsP : PV → List PV
  | .agg cs => cs
  | v => [v]

theorem Rep.one {E : Env} {v : PV} {x : Value} (h : Rep E v x) (k : oneP v = true) : x.oneCell' = true := by
  cases v <;> simp only [Rep] at h <;> simp only [oneP] at k <;> first
    | (subst h; rfl)
    | (obtain ⟨_, _, rfl⟩ := h; rfl)
    | (obtain ⟨_, _, rfl, _⟩ := h; rfl)
    | (obtain ⟨_, _, _, rfl, _⟩ := h; rfl)
    | (obtain ⟨_, rfl, _⟩ := h; rfl)
    | (obtain ⟨⟨_, _, rfl, _⟩, _⟩ := h; rfl)
    | (cases k; done)

theorem Rep.cells {E : Env} {v : PV} {x : Value} (h : Rep E v x) : RepL E (cellsP v) x.cells.toList := by
  have one : x.cells = #[x] → RepL E [v] x.cells.toList := fun e => by rw [e]; exact RepL.mk h RepL.mk0
  cases v with
  | agg cs =>
    simp only [Rep] at h
    obtain ⟨a, rfl, ha⟩ := h
    simpa [cellsP, Value.cells] using ha
  | bool b => exact one (by simp only [Rep] at h; subst h; rfl)
  | int k n => exact one (by simp only [Rep] at h; subst h; rfl)
  | str s => exact one (by simp only [Rep] at h; subst h; rfl)
  | nilp => exact one (by simp only [Rep] at h; subst h; rfl)
  | nilsl => exact one (by simp only [Rep] at h; subst h; rfl)
  | nilm => exact one (by simp only [Rep] at h; subst h; rfl)
  | nilf => exact one (by simp only [Rep] at h; subst h; rfl)
  | nili => exact one (by simp only [Rep] at h; subst h; rfl)
  | ptr id off => exact one (by simp only [Rep] at h; obtain ⟨_, _, rfl⟩ := h; rfl)
  | rp cs => exact one (by simp only [Rep] at h; obtain ⟨_, _, rfl, _⟩ := h; rfl)
  | sl id off len => exact one (by simp only [Rep] at h; obtain ⟨_, _, _, rfl, _⟩ := h; rfl)
  | lst sz es p => exact one (by simp only [Rep] at h; obtain ⟨⟨_, _, rfl, _⟩, _⟩ := h; rfl)
  | map id => exact one (by simp only [Rep] at h; obtain ⟨_, _, rfl⟩ := h; rfl)
  | func f a b => exact one (by simp only [Rep] at h; obtain ⟨_, _, rfl, _⟩ := h; rfl)
  | iface t v => exact one (by simp only [Rep] at h; obtain ⟨_, rfl, _⟩ := h; rfl)
  | tup vs => exact one (by simp only [Rep] at h; obtain ⟨_, rfl, _⟩ := h; rfl)
  | yld id => exact one (by simp only [Rep] at h; obtain ⟨_, _, rfl⟩ := h; rfl)

/-! ### Parts of structs and arrays -/
section
variable {C : Cx} (hC : C.Ok)
include hC

/-- A part: of one cell, or of so many. -/
def _root_.Go.Pv.partP (n : Option Nat) (cs : List PV) (off : Nat) : Option PV := match n with
  | none => cs[off]?
  | some n => some (.agg ((cs.drop off).take n))

/-- How a type's value stands in cells: one; or so many, together. -/
def _root_.Go.Pv.szT (C : Cx) (t : TypeId) : Option (Option Nat) := match C.tt t with
  | none => none
  | some i => match isAggD i.desc with
    | true => some (some i.info.size)
    | false => some none

theorem part_ok {E : Env} {w : World} {ty : TypeId} {off : Nat} {n : Option Nat} {cs : List PV} {xs : List Value} {v : PV} (hs : szT C ty = some n) (hx : partP n cs off = some v) (hc : RepL E cs xs) :
    ∃ x, (part ty xs.toArray off).run C.P w = .ok x w ∧ Rep E v x := by
  unfold szT at hs
  split at hs
  · cases hs
  rename_i i hi
  obtain ⟨hd, hin⟩ := hC.ty ty i hi
  split at hs
  · rename_i hagg
    cases hs
    simp only [partP, Option.some.injEq] at hx
    subst hx
    refine ⟨.agg ((xs.drop off).take i.info.size).toArray, ?_, by simp only [Rep]; exact ⟨_, rfl, (hc.drop off).take _⟩⟩
    simp only [part, Sem.run_bind, run_isAgg' w hd, Result.andThen_ok, hagg, if_true, run_sizeOf' w hin, Sem.run_pure]
    congr 2
    simp [List.extract_eq_take_drop]
  · rename_i hagg
    cases hs
    obtain ⟨x, h1, h2⟩ := hc.get hx
    refine ⟨x, ?_, h1⟩
    simp only [part, Sem.run_bind, run_isAgg' w hd, Result.andThen_ok, hagg]
    simp [h2]

/-! ### Equality of structs of numbers, strings, truths -/
/-- Fields one behind the other, all of plain kinds: the cells' kinds. -/
def _root_.Go.Pv.flatF (C : Cx) (fl : TypeId → Option (List KD)) : List Field → Nat → Option (List KD)
  | [], o => some []
  | f :: r, o => if f.name == "_" then none else if f.offset = o then match fl f.type with
    | some ks => match C.tt f.type with
      | some i => if i.info.size = ks.length then match flatF C fl r (o + ks.length) with
        | some l => some (ks ++ l)
        | none => none
        else none
      | none => none
    | none => none else none

def _root_.Go.Pv.flatT (C : Cx) : Nat → TypeId → Option (List KD)
  | 0, _ => none
  | d + 1, t => match C.tt t with
    | none => none
    | some i => match i.desc with
      | .bool => some [.bool]
      | .int k => some [.int k]
      | .string => some [.str]
      | .struct fs => if C.sok.contains t then flatF C (flatT C d) fs.toList 0 else none
      | .array n e => match flatT C d e with
        | some ks => match C.tt e with
          | some j => if j.info.size = ks.length then some (List.replicate n ks).flatten else none
          | none => none
        | none => none
      | _ => none

omit hC in
theorem PlainK.length : ∀ {ks : List KD} {xs : List PV}, PlainK ks xs → xs.length = ks.length
  | [], [], h => rfl
  | k :: ks, v :: vs, h => by simp only [PlainK] at h; simp [PlainK.length h.2]
  | [], v :: vs, h => by simp [PlainK] at h
  | k :: ks, [], h => by simp [PlainK] at h

omit hC in
theorem PlainK.split : ∀ {ks ls : List KD} {xs : List PV}, PlainK (ks ++ ls) xs → PlainK ks (xs.take ks.length) ∧ PlainK ls (xs.drop ks.length)
  | [], ls, xs, h => by simpa [PlainK] using h
  | k :: ks, ls, v :: vs, h => by
    simp only [PlainK, List.cons_append, List.length_cons, List.take_succ_cons, List.drop_succ_cons] at h ⊢
    have := PlainK.split h.2
    exact ⟨⟨h.1, this.1⟩, this.2⟩
  | k :: ks, ls, [], h => by simp [PlainK] at h

omit hC in
theorem aggEq_eq (xs ys : List PV) : aggEq xs ys = true ↔ xs = ys := by simp [aggEq]

omit hC in
theorem aggEq_split (xs ys : List PV) (n : Nat) : aggEq xs ys = (aggEq (xs.take n) (ys.take n) && aggEq (xs.drop n) (ys.drop n)) := by
  rw [Bool.eq_iff_iff, Bool.and_eq_true, aggEq_eq, aggEq_eq, aggEq_eq]
  constructor
  · rintro rfl; exact ⟨rfl, rfl⟩
  · rintro ⟨h1, h2⟩; rw [← List.take_append_drop n xs, ← List.take_append_drop n ys, h1, h2]

/-- What is said of a plain type's comparison. -/
def _root_.Go.Pv.FlatOk (C : Cx) (d : Nat) (t : TypeId) (ks : List KD) : Prop := ∀ (D : Nat) (E : Env) (w : World) (xs ys : List PV) (xv yv : List Value), d ≤ D → PlainK ks xs → PlainK ks ys → RepL E xs xv → RepL E ys yv →
  (szT C t = some none → ∃ a b, xv = [a] ∧ yv = [b] ∧ (Op.equalIn D t a b).run C.P w = .ok (aggEq xs ys) w) ∧
  (∀ m, szT C t = some (some m) → (Op.equalIn D t (.agg xv.toArray) (.agg yv.toArray)).run C.P w = .ok (aggEq xs ys) w)

theorem flatF_ok {d D : Nat} (hd : d ≤ D) {E : Env} {w : World} (ih : ∀ t ks, flatT C d t = some ks → FlatOk C d t ks) : ∀ {fs : List Field} {o : Nat} {ks : List KD} {xs ys : List PV} {xv yv : List Value}, flatF C (flatT C d) fs o = some ks → PlainK ks (xs.drop o) → PlainK ks (ys.drop o) →
    RepL E xs xv → RepL E ys yv → (Op.eqFields D xv.toArray yv.toArray fs).run C.P w = .ok (aggEq (xs.drop o) (ys.drop o)) w
  | [], o, ks, xs, ys, xv, yv, h, hp, hq, hx, hy => by
    simp only [flatF, Option.some.injEq] at h
    subst h
    have h1 : xs.drop o = [] := List.eq_nil_of_length_eq_zero hp.length
    have h2 : ys.drop o = [] := List.eq_nil_of_length_eq_zero hq.length
    have h3 : aggEq ([] : List PV) [] = true := by rw [aggEq_eq]
    simp [Op.eqFields, h1, h2, h3]
  | f :: r, o, ks, xs, ys, xv, yv, h, hp, hq, hx, hy => by
    simp only [flatF] at h
    split at h
    · cases h
    rename_i hn
    split at h
    case isFalse => cases h
    rename_i ho
    split at h
    case h_2 => cases h
    rename_i k1 hm
    split at h
    case h_2 => cases h
    rename_i i hi
    split at h
    case isFalse => cases h
    rename_i hsz
    split at h
    case h_2 => cases h
    rename_i k2 hk2
    cases h
    have hn' : f.name ≠ "_" := by simpa using hn
    obtain ⟨p1, p2⟩ := hp.split
    obtain ⟨q1, q2⟩ := hq.split
    rw [List.drop_drop] at p2 q2
    have hrest := flatF_ok hd (w := w) ih hk2 p2 q2 hx hy
    obtain ⟨hdesc, hin⟩ := hC.ty _ i hi
    rw [aggEq_split (xs.drop o) (ys.drop o) k1.length, List.drop_drop, List.drop_drop]
    cases hagg : isAggD i.desc with
    | true =>
      have hs : szT C f.type = some (some k1.length) := by simp [szT, hi, hagg, hsz]
      obtain ⟨a, r1, s1⟩ := part_ok hC (w := w) (off := o) (v := .agg ((xs.drop o).take k1.length)) hs rfl hx
      obtain ⟨b, r2, s2⟩ := part_ok hC (w := w) (off := o) (v := .agg ((ys.drop o).take k1.length)) hs rfl hy
      simp only [Rep] at s1 s2
      obtain ⟨al, rfl, s1⟩ := s1
      obtain ⟨bl, rfl, s2⟩ := s2
      have heq := (ih _ _ hm D E w _ _ _ _ hd p1 q1 s1 s2).2 _ hs
      simp only [Op.eqFields, ne_eq, hn', not_false_eq_true, if_true, Sem.run_bind, ho, r1, r2, heq, Result.andThen_ok]
      cases aggEq ((xs.drop o).take k1.length) ((ys.drop o).take k1.length)
      · simp
      · simp only [Bool.not_true, Bool.false_eq_true, if_false, Bool.true_and]; exact hrest
    | false =>
      have hs : szT C f.type = some none := by simp [szT, hi, hagg]
      obtain ⟨a, b, e1, e2, heq⟩ := (ih _ _ hm D E w _ _ _ _ hd p1 q1 ((hx.drop o).take k1.length) ((hy.drop o).take k1.length)).1 hs
      have hm1 : k1.length = 1 := by
        have := ((hx.drop o).take k1.length).length
        rw [e1, p1.length] at this; simpa using this.symm
      rw [hm1] at e1 e2 heq ⊢
      have ga : xv[o]? = some a := by
        have := congrArg (fun l => l[0]?) e1
        simpa [List.getElem?_take, List.getElem?_drop] using this
      have gb : yv[o]? = some b := by
        have := congrArg (fun l => l[0]?) e2
        simpa [List.getElem?_take, List.getElem?_drop] using this
      have r1 : (part f.type xv.toArray o).run C.P w = .ok a w := by
        simp only [part, Sem.run_bind, run_isAgg' w hdesc, Result.andThen_ok, hagg]; simp [ga]
      have r2 : (part f.type yv.toArray o).run C.P w = .ok b w := by
        simp only [part, Sem.run_bind, run_isAgg' w hdesc, Result.andThen_ok, hagg]; simp [gb]
      rw [hm1] at hrest
      simp only [Op.eqFields, ne_eq, hn', not_false_eq_true, if_true, Sem.run_bind, ho, r1, r2, heq, Result.andThen_ok]
      cases aggEq ((xs.drop o).take 1) ((ys.drop o).take 1)
      · simp
      · simp only [Bool.not_true, Bool.false_eq_true, if_false, Bool.true_and]; exact hrest

theorem flatA_ok {d D : Nat} (hd : d ≤ D) {E : Env} {w : World} {e : TypeId} {j : TI} {ks : List KD} (hj : C.tt e = some j) (hm : j.info.size = ks.length) (ih : FlatOk C d e ks) : ∀ {n i : Nat} {xs ys : List PV} {xv yv : List Value}, PlainK (List.replicate n ks).flatten (xs.drop (i * ks.length)) → PlainK (List.replicate n ks).flatten (ys.drop (i * ks.length)) →
    RepL E xs xv → RepL E ys yv → (eqElems D e ks.length xv.toArray yv.toArray n i).run C.P w = .ok (aggEq (xs.drop (i * ks.length)) (ys.drop (i * ks.length))) w
  | 0, i, xs, ys, xv, yv, hp, hq, hx, hy => by
    have h1 : xs.drop (i * ks.length) = [] := List.eq_nil_of_length_eq_zero hp.length
    have h2 : ys.drop (i * ks.length) = [] := List.eq_nil_of_length_eq_zero hq.length
    have h3 : aggEq ([] : List PV) [] = true := by rw [aggEq_eq]
    simp [eqElems, h1, h2, h3]
  | n + 1, i, xs, ys, xv, yv, hp, hq, hx, hy => by
    rw [List.replicate_succ, List.flatten_cons] at hp hq
    obtain ⟨p1, p2⟩ := hp.split
    obtain ⟨q1, q2⟩ := hq.split
    have hmul : i * ks.length + ks.length = (i + 1) * ks.length := by rw [Nat.succ_mul]
    rw [List.drop_drop, hmul] at p2 q2
    have hrest := flatA_ok hd (w := w) hj hm ih p2 q2 hx hy
    obtain ⟨hdesc, hin⟩ := hC.ty _ j hj
    rw [aggEq_split (xs.drop (i * ks.length)) (ys.drop (i * ks.length)) ks.length, List.drop_drop, List.drop_drop, hmul]
    cases hagg : isAggD j.desc with
    | true =>
      have hs : szT C e = some (some ks.length) := by simp [szT, hj, hagg, hm]
      obtain ⟨a, r1, s1⟩ := part_ok hC (w := w) (off := i * ks.length) (v := .agg ((xs.drop (i * ks.length)).take ks.length)) hs rfl hx
      obtain ⟨b, r2, s2⟩ := part_ok hC (w := w) (off := i * ks.length) (v := .agg ((ys.drop (i * ks.length)).take ks.length)) hs rfl hy
      simp only [Rep] at s1 s2
      obtain ⟨al, rfl, s1⟩ := s1
      obtain ⟨bl, rfl, s2⟩ := s2
      have heq := (ih D E w _ _ _ _ hd p1 q1 s1 s2).2 _ hs
      simp only [eqElems, Sem.run_bind, r1, r2, heq, Result.andThen_ok]
      cases aggEq ((xs.drop (i * ks.length)).take ks.length) ((ys.drop (i * ks.length)).take ks.length)
      · simp
      · simp only [Bool.not_true, Bool.false_eq_true, if_false, Bool.true_and]; exact hrest
    | false =>
      have hs : szT C e = some none := by simp [szT, hj, hagg]
      obtain ⟨a, b, e1, e2, heq⟩ := (ih D E w _ _ _ _ hd p1 q1 ((hx.drop (i * ks.length)).take ks.length) ((hy.drop (i * ks.length)).take ks.length)).1 hs
      have hm1 : ks.length = 1 := by
        have := ((hx.drop (i * ks.length)).take ks.length).length
        rw [e1, p1.length] at this; simpa using this.symm
      rw [hm1] at e1 e2 heq hrest ⊢
      have ga : xv[i * 1]? = some a := by
        have := congrArg (fun l => l[0]?) e1
        simpa [List.getElem?_take, List.getElem?_drop] using this
      have gb : yv[i * 1]? = some b := by
        have := congrArg (fun l => l[0]?) e2
        simpa [List.getElem?_take, List.getElem?_drop] using this
      have r1 : (part e xv.toArray (i * 1)).run C.P w = .ok a w := by
        simp only [part, Sem.run_bind, run_isAgg' w hdesc, Result.andThen_ok, hagg]
        simp at ga; simp [ga]
      have r2 : (part e yv.toArray (i * 1)).run C.P w = .ok b w := by
        simp only [part, Sem.run_bind, run_isAgg' w hdesc, Result.andThen_ok, hagg]
        simp at gb; simp [gb]
      simp only [eqElems, Sem.run_bind, r1, r2, heq, Result.andThen_ok]
      cases aggEq ((xs.drop (i * 1)).take 1) ((ys.drop (i * 1)).take 1)
      · simp
      · simp only [Bool.not_true, Bool.false_eq_true, if_false, Bool.true_and]; exact hrest

omit hC in
theorem plain1 {E : Env} {k : KD} {xs : List PV} {xv : List Value} (hp : PlainK [k] xs) (hx : RepL E xs xv) : ∃ x a, xs = [x] ∧ xv = [a] ∧ Rep E x a ∧ k.ok x := by
  match xs, hp with
  | [x], hp =>
    obtain ⟨a, r, rfl, h1, h2⟩ := hx.cons
    rw [h2.nil]
    simp only [PlainK] at hp
    exact ⟨x, a, rfl, rfl, h1, hp.1⟩
  | [], hp => simp [PlainK] at hp
  | x :: y :: r, hp => simp [PlainK] at hp

theorem flat_ok : ∀ (d : Nat) (t : TypeId) (ks : List KD), flatT C d t = some ks → FlatOk C d t ks
  | 0, t, n, h => by simp [flatT] at h
  | d + 1, t, ks, h => by
    have ih := flat_ok d
    intro D E w xs ys xv yv hD hp hq hx hy
    obtain ⟨D, rfl⟩ : ∃ k, D = k + 1 := ⟨D - 1, by omega⟩
    simp only [flatT] at h
    split at h
    · cases h
    rename_i i hi
    obtain ⟨hdesc, hin⟩ := hC.ty _ i hi
    split at h
    · rename_i hk
      cases h
      rw [hk] at hdesc
      obtain ⟨x, a, rfl, rfl, r1, k1⟩ := plain1 hp hx
      obtain ⟨y, b, rfl, rfl, r2, k2⟩ := plain1 hq hy
      refine ⟨fun _ => ⟨a, b, rfl, rfl, ?_⟩, fun m hm => by simp [szT, hi, hk, isAggD] at hm⟩
      cases x <;> simp only [KD.ok] at k1
      cases y <;> simp only [KD.ok] at k2
      simp only [Rep] at r1 r2; subst r1; subst r2
      simp only [Op.equalIn, Sem.run_bind, run_underlying hdesc, Result.andThen_ok, Sem.run_pure]
      congr 1
      rw [Bool.eq_iff_iff, aggEq_eq]; simp
    · rename_i k hk
      cases h
      rw [hk] at hdesc
      obtain ⟨x, a, rfl, rfl, r1, k1⟩ := plain1 hp hx
      obtain ⟨y, b, rfl, rfl, r2, k2⟩ := plain1 hq hy
      refine ⟨fun _ => ⟨a, b, rfl, rfl, ?_⟩, fun m hm => by simp [szT, hi, hk, isAggD] at hm⟩
      cases x <;> simp only [KD.ok] at k1
      cases y <;> simp only [KD.ok] at k2
      subst k1; subst k2
      simp only [Rep] at r1 r2; subst r1; subst r2
      simp only [Op.equalIn, Sem.run_bind, run_underlying hdesc, Result.andThen_ok, if_true, Sem.run_pure]
      congr 1
      rw [Bool.eq_iff_iff, aggEq_eq]; simp
    · rename_i hk
      cases h
      rw [hk] at hdesc
      obtain ⟨x, a, rfl, rfl, r1, k1⟩ := plain1 hp hx
      obtain ⟨y, b, rfl, rfl, r2, k2⟩ := plain1 hq hy
      refine ⟨fun _ => ⟨a, b, rfl, rfl, ?_⟩, fun m hm => by simp [szT, hi, hk, isAggD] at hm⟩
      cases x <;> simp only [KD.ok] at k1
      cases y <;> simp only [KD.ok] at k2
      simp only [Rep] at r1 r2; subst r1; subst r2
      simp only [Op.equalIn, Sem.run_bind, run_underlying hdesc, Result.andThen_ok, Sem.run_pure, beq_toListBytes, ByteArray.toList_mk]
      congr 1
      rw [Bool.eq_iff_iff, aggEq_eq]; simp
    · rename_i fs hk
      rw [hk] at hdesc
      split at h
      case isFalse => cases h
      rename_i hsok
      refine ⟨fun hs => by simp [szT, hi, hk, isAggD] at hs, fun m hm => ?_⟩
      have hf : C.P.fieldsOf t = fs := by simp [Program.fieldsOf, hdesc]
      rw [run_equalIn_struct w D t xv.toArray yv.toArray (by rw [hf]; exact hdesc) (hC.sok t (by simpa using hsok)).1, hf]
      exact flatF_ok hC (D := D) (by omega) ih h hp hq hx hy
    · rename_i n e hk
      rw [hk] at hdesc
      split at h
      case h_2 => cases h
      rename_i k1 hk1
      split at h
      case h_2 => cases h
      rename_i j hj
      split at h
      case isFalse => cases h
      rename_i hsz
      cases h
      refine ⟨fun hs => by simp [szT, hi, hk, isAggD] at hs, fun m hm => ?_⟩
      rw [run_equalIn_array w D t e n xv.toArray yv.toArray hdesc (hC.ty e j hj).2, hsz]
      have := flatA_ok hC (D := D) (by omega) (w := w) hj hsz (ih _ _ hk1) (n := n) (i := 0) (xs := xs) (ys := ys) (by simpa using hp) (by simpa using hq) hx hy
      simpa using this
    · cases h
end
end Go.Pv
