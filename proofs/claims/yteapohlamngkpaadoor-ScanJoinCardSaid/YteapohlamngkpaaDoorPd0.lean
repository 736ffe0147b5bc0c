/-
  Values of a program as plain data: what single operations of the model make of plain values (laws that speak of no program).
-/
import Derived.Test.YteapohlamngkpaaDoorPc
import Derived.Laws.CopyRow
import Derived.Laws.MakeOwn
import Derived.Laws.Entries
import Derived.Laws.Rows
import Derived.Laws.Strings
import Derived.Laws.Strings2
import Derived.Laws.StructEq
import Derived.Laws.Bits
import Derived.Laws.Slices
import Derived.Lib.Bytealg
import Derived.Lib.Builder
import Derived.Laws.Externs
namespace Go.Pv
open Go.RowKit
set_option linter.unusedVariables false

def iop (op : BinOp) (k : IntKind) (x y : Int) : Int :=
  match op with
  | .add => k.wrap (x + y)
  | .sub => k.wrap (x - y)
  | .mul => k.wrap (x * y)
  | .quo => k.wrap (x.tdiv y)
  | .rem => x.tmod y
  | .and => k.wrap ((BitVec.ofInt k.bits x &&& BitVec.ofInt k.bits y).toNat)
  | .or => k.wrap ((BitVec.ofInt k.bits x ||| BitVec.ofInt k.bits y).toNat)
  | .xor => k.wrap ((BitVec.ofInt k.bits x ^^^ BitVec.ofInt k.bits y).toNat)
  | .andNot => k.wrap ((BitVec.ofInt k.bits x &&& ~~~BitVec.ofInt k.bits y).toNat)
  | .shl => k.wrap (x * 2 ^ (min y.toNat k.bits))
  | .shr => x.fdiv (2 ^ (min y.toNat k.bits))
  | _ => 0

def icmp (op : BinOp) (x y : Int) : Bool :=
  match op with
  | .eql => x == y
  | .neq => x != y
  | .lss => decide (x < y)
  | .leq => decide (x ≤ y)
  | .gtr => decide (x > y)
  | .geq => decide (x ≥ y)
  | _ => false

section
variable {P : Program} (w : World)

theorem run_typeInfo {t : TypeId} {i : TypeInfo} (h : P.info? t = some i) : (typeInfo t).run P w = .ok i w := by simp [typeInfo, h]

theorem run_sizeOf' {t : TypeId} {i : TypeInfo} (h : P.info? t = some i) : (sizeOf t).run P w = .ok i.size w := by simp [sizeOf, typeInfo, h]

theorem run_zeroValue' {t : TypeId} {i : TypeInfo} {z : Value} (h : P.info? t = some i) (hz : i.zero = some z) : (zeroValue t).run P w = .ok z w := by simp [zeroValue, typeInfo, h, hz]

def isAggD : TypeDesc → Bool
  | .struct _ => true
  | .array _ _ => true
  | _ => false

theorem run_isAgg' {t : TypeId} {d : TypeDesc} (h : P.underlying t = some d) : (isAgg t).run P w = .ok (isAggD d) w := by
  simp only [isAgg, Sem.run_bind, run_underlying h, Result.andThen_ok]
  cases d <;> rfl

end

def spliceV : List Value → Nat → List Value → List Value
  | l, _, [] => l
  | l, k, v :: vs => spliceV (l.set k v) (k + 1) vs

theorem spliceV_length : ∀ (xs m : List Value) (k : Nat), (spliceV m k xs).length = m.length
  | [], m, k => rfl
  | x :: xs, m, k => by rw [spliceV, spliceV_length]; simp

theorem spliceV_append : ∀ (xs m rest : List Value) (k : Nat), k + xs.length ≤ m.length → spliceV (m ++ rest) k xs = spliceV m k xs ++ rest
  | [], m, rest, k, h => rfl
  | x :: xs, m, rest, k, h => by
    simp only [List.length_cons] at h
    rw [spliceV, spliceV, List.set_append_left _ _ (by omega), spliceV_append xs (m.set k x) rest (k + 1) (by simp; omega)]

theorem setCell_setRow' (w : World) (g j : Nat) (l : List Value) (t : TypeId) (fr : Nat × Nat) (v : Value) (hg : w.heap[g]? = some (.cells l.toArray t fr)) :
    w.setCell ⟨g, j, none⟩ v = w.setRow g (l.set j v).toArray := by
  rw [setCell_eq_setRow w g j l.toArray t fr v hg]; simp

theorem run_storeCells_gen {P : Program} (g o : Nat) (t : TypeId) (fz : Nat × Nat) : ∀ (vs : List Value) (i : Nat) (l : List Value) (w : World), w.heap[g]? = some (.cells l.toArray t fz) → o + i + vs.length ≤ l.length →
    (fz = (0, 0) ∨ o + i + vs.length ≤ fz.1) → (∀ v ∈ vs, v.oneCell' = true) →
    (storeCells ⟨g, o, none⟩ vs i).run P w = .ok () (w.setRow g (spliceV l (o + i) vs).toArray)
  | [], i, l, w, hg, _, _, _ => by
    simp only [storeCells, spliceV]
    rw [setRow_self w g l.toArray t fz hg]; rfl
  | v :: vs, i, l, w, hg, hl, hf, h1 => by
    simp only [List.length_cons] at hl hf
    have hadd : (⟨g, o, none⟩ : Addr).add i = ⟨g, o + i, none⟩ := by unfold Addr.add; split <;> simp_all
    have hcell : w.cell? ⟨g, o + i, none⟩ = some (l[o + i]'(by omega)) := by
      rw [cell_of_row w g (o + i) l.toArray t fz hg]; simp
    have hfro : w.frozen? ⟨g, o + i, none⟩ = false := by
      rcases hf with rfl | hf
      · simp [World.frozen?, hg]
      · obtain ⟨f1, f2⟩ := fz
        simp only at hf
        simp only [World.frozen?, hg, Bool.and_eq_false_iff, decide_eq_false_iff_not]
        left; omega
    have hst : (store ((⟨g, o, none⟩ : Addr).add i) v).run P w = .ok () (w.setRow g (l.set (o + i) v).toArray) := by
      rw [hadd, run_store P w _ v _ (h1 v (by simp)), hcell]
      simp [hfro, setCell_setRow' w g (o + i) l t fz v hg]
    have ih := run_storeCells_gen (P := P) g o t fz vs (i + 1) (l.set (o + i) v) (w.setRow g (l.set (o + i) v).toArray) (setRow_heap w g l.toArray _ t _ hg) (by simp; omega)
      (hf.imp id (fun h => by omega)) (fun x hx => h1 x (by simp [hx]))
    simp only [storeCells, Sem.run_bind, hst, Result.andThen_ok, ih, setRow_setRow]
    rfl

theorem setRow_other' (w : World) (g k : Nat) (cs : Array Value) (h : k ≠ g) : (w.setRow g cs).heap[k]? = w.heap[k]? := by
  simp only [World.setRow, Array.getElem?_modify]
  rw [if_neg (by omega)]

def isCmp : BinOp → Bool
  | .eql => true | .neq => true | .lss => true | .leq => true | .gtr => true | .geq => true
  | _ => false

theorem run_intOp {P : Program} (w : World) (t : TypeId) (op : BinOp) (k : IntKind) (x y : Int) (h1 : isCmp op = false) (h2 : op ≠ .shl) (h3 : op ≠ .shr) (h4 : (op = .quo ∨ op = .rem) → y ≠ 0) :
    (binOp op t (.int k x) (.int k y)).run P w = .ok (.int k (iop op k x y)) w := by
  cases op <;> simp_all [binOp, isCmp, Op.intArith, Op.intBits, Op.intDiv, iop]

theorem run_intCmp {P : Program} (w : World) (t : TypeId) (op : BinOp) (k : IntKind) (x y : Int) (h1 : isCmp op = true) :
    (binOp op t (.int k x) (.int k y)).run P w = .ok (.bool (icmp op x y)) w := by
  cases op <;> simp_all [binOp, isCmp, Op.intCmp, icmp]

theorem wrap_u64_nonneg (x : Int) : 0 ≤ IntKind.u64.wrap x := by
  show 0 ≤ (if (false && decide (x % (2 ^ 64 : Int) ≥ (2 ^ 63 : Int))) = true then x % (2 ^ 64 : Int) - (2 ^ 64 : Int) else x % (2 ^ 64 : Int))
  rw [Bool.false_and, if_neg (by decide)]
  exact Int.emod_nonneg _ (by decide)

theorem size_mk (l : List UInt8) : (ByteArray.mk l.toArray).size = l.length := by simp [ByteArray.size]

theorem append_mk (x y : List UInt8) : (ByteArray.mk x.toArray) ++ (ByteArray.mk y.toArray) = ByteArray.mk (x ++ y).toArray := by
  apply ByteArray.ext
  simp

section
variable {P : Program}

theorem shape_of_cells {w : World} {b : Nat} {c : Array Value} {e : TypeId} {fz : Nat × Nat} (h : w.heap[b]? = some (.cells c e fz)) : w.shape? b = some (e, c.size) := by
  simp [World.shape?, h]

theorem frozen00 {w : World} {b off : Nat} {c : Array Value} {e : TypeId} (h : w.heap[b]? = some (.cells c e (0, 0))) : w.frozen? ⟨b, off, none⟩ = false := by
  simp [World.frozen?, h]

theorem run_sameAddr_same {w : World} (b o q : Nat) : (sameAddr ⟨b, o, none⟩ ⟨b, q, none⟩).run P w = .ok (decide (o = q)) w := by
  simp only [sameAddr, BEq.rfl, if_true, Sem.run_pure]
  congr 1
  by_cases h : o = q
  · subst h; simp
  · have : ¬ ((⟨b, o, none⟩ : Addr) = ⟨b, q, none⟩) := fun e => h (by injection e)
    simp [h]

theorem run_sameAddr_other {w : World} {a b o q : Nat} {c c' : Array Value} {e e' : TypeId} (h : w.heap[a]? = some (.cells c e (0, 0))) (h' : w.heap[b]? = some (.cells c' e' (0, 0))) (hne : a ≠ b) :
    (sameAddr ⟨a, o, none⟩ ⟨b, q, none⟩).run P w = .ok false w := by
  have e1 : (a == b) = false := by simpa using hne
  simp [sameAddr, e1, frozen00 h, frozen00 h', noView, viewAt, mayBeOne, stringish, shape_of_cells h, shape_of_cells h']

def eqElems (d : Nat) (e : TypeId) (sz : Nat) (xs ys : Array Value) : Nat → Nat → Sem Bool
  | 0, _ => pure true
  | n + 1, i => do
    let a ← part e xs (i * sz)
    let b ← part e ys (i * sz)
    let r ← Op.equalIn d e a b
    if (!r) = true then pure false else eqElems d e sz xs ys n (i + 1)

theorem run_equalIn_array (w : World) (d : Nat) (t e : TypeId) (n : Nat) {j : TypeInfo} (xs ys : Array Value) (ht : P.underlying t = some (.array n e)) (he : P.info? e = some j) :
    (Op.equalIn (d + 1) t (.agg xs) (.agg ys)).run P w = (eqElems d e j.size xs ys n 0).run P w := by
  simp only [Op.equalIn, Sem.run_bind, run_underlying ht, Result.andThen_ok, run_sizeOf' w he]
  rw [Std.Legacy.Range.forIn_eq_forIn_range']
  simp only [Std.Legacy.Range.size, Nat.sub_zero, Nat.add_sub_cancel, Nat.div_one]
  generalize hk : (0 : Nat) = k
  clear hk ht
  induction n generalizing w k with
  | zero => simp [eqElems]
  | succ n ih =>
    simp only [List.range'_succ, List.forIn_cons, eqElems, Sem.run_bind, Sem.run_ite]
    generalize (part e xs (k * j.size)).run P w = r1
    cases r1 with
    | ok a w1 =>
      simp only [Result.andThen_ok]
      generalize (part e ys (k * j.size)).run P w1 = r2
      cases r2 with
      | ok b w2 =>
        simp only [Result.andThen_ok]
        generalize (Op.equalIn d e a b).run P w2 = r3
        cases r3 with
        | ok r w3 =>
          cases r
          · simp only [Result.andThen_ok, Bool.not_false, if_true, Sem.run_pure]
          · simp only [Result.andThen_ok, Bool.not_true, Bool.false_eq_true, if_false, Sem.run_pure]
            exact ih w3 (k + 1)
        | halt x w3 => simp [Result.andThen]
      | halt x w2 => simp [Result.andThen]
    | halt x w1 => simp [Result.andThen]

end

def otherV : Value → Bool
  | .bool _ => true | .pointer _ => true | .slice _ _ _ => true | .map _ => true | .func _ _ _ => true | .nilFunc => true | .nilIface => true | .iface _ _ => true
  | _ => false

theorem binOp_eql_other (t : TypeId) (x y : Value) (h : otherV x = true) : binOp .eql t x y = (do pure (.bool (← Op.equal t x y)) : Sem Value) := by
  cases x <;> first | (simp [otherV] at h; done) | (cases y <;> rfl)

theorem binOp_neq_other (t : TypeId) (x y : Value) (h : otherV x = true) : binOp .neq t x y = (do pure (.bool (!(← Op.equal t x y))) : Sem Value) := by
  cases x <;> first | (simp [otherV] at h; done) | (cases y <;> rfl)

def isConstX : Operand → Bool
  | .const _ => true
  | _ => false

theorem fold_set (xs : List Value) : ∀ (m : List Value) (off k : Nat), ((xs.zipIdx k).foldl (fun (cs : Array Value) (c, j) => cs.setIfInBounds (off + j) c) m.toArray) = (spliceV m (off + k) xs).toArray := by
  induction xs with
  | nil => intro m off k; rfl
  | cons x xs ih =>
    intro m off k
    simp only [List.zipIdx_cons, List.foldl_cons, List.setIfInBounds_toArray]
    rw [ih, spliceV, Nat.add_assoc]

theorem flat_len (l : List Value) : ∀ n, (List.replicate n l).flatten.length = n * l.length
  | 0 => by simp
  | n + 1 => by rw [List.replicate_succ, List.flatten_cons, List.length_append, flat_len l n, Nat.succ_mul, Nat.add_comm]

section
variable {P : Program}

theorem run_mapM_list {α β : Type} (w : World) (g : α → Sem β) (r : α → β) : ∀ (l : List α), (∀ a ∈ l, (g a).run P w = .ok (r a) w) → (l.mapM g).run P w = .ok (l.map r) w
  | [], _ => rfl
  | a :: l, h => by
    have := run_mapM_list w g r l (fun b hb => h b (List.mem_cons_of_mem _ hb))
    simp only [List.mapM_cons, Sem.run_bind, h a (List.mem_cons_self), Result.andThen_ok, this, Sem.run_pure, List.map_cons]

theorem run_mapM_array {α β : Type} (w : World) (g : α → Sem β) (r : α → β) (l : Array α) (h : ∀ a ∈ l, (g a).run P w = .ok (r a) w) : (l.mapM g).run P w = .ok (l.map r) w := by
  rw [Array.mapM_eq_mapM_toList]
  have := run_mapM_list (P := P) w g r l.toList (fun a ha => h a (by simpa using ha))
  simp only [Sem.run_map, this, Result.andThen_ok]
  congr 1
  apply Array.ext'; simp

theorem madeCells_eq (z : Array Value) : ∀ n, madeCells z (n * z.size) = (List.replicate n z.toList).flatten.toArray := by
  intro n
  apply Array.ext'
  apply List.ext_getElem?
  intro i
  rw [madeCells]
  simp only [Array.toList_map, Array.toList_range, List.getElem?_map]
  by_cases hi : i < n * z.size
  · have hz : 0 < z.size := by
      rcases Nat.eq_zero_or_pos z.size with h | h
      · rw [h] at hi; omega
      · exact h
    have hm : i % z.size < z.size := Nat.mod_lt _ hz
    rw [List.getElem?_range hi]
    simp only [Option.map_some]
    have key : ∀ (n i : Nat), i < n * z.size → ((List.replicate n z.toList).flatten)[i]? = some z[i % z.size]! := by
      intro n
      induction n with
      | zero => intro i h; omega
      | succ n ih =>
        intro i h
        rw [List.replicate_succ, List.flatten_cons]
        by_cases h1 : i < z.size
        · rw [List.getElem?_append_left (by simpa using h1), Nat.mod_eq_of_lt h1]
          simp [h1]
        · rw [List.getElem?_append_right (by simpa using h1)]
          rw [Nat.succ_mul] at h
          simp only [Array.length_toList]
          have hmm : i % z.size = (i - z.size) % z.size := Nat.mod_eq_sub_mod (by omega)
          rw [ih (i - z.size) (by omega), hmm]
    exact (key n i hi).symm
  · rw [List.getElem?_eq_none (by simp; omega)]
    simp only [Option.map_none]
    rw [List.getElem?_eq_none]
    rw [flat_len, Array.length_toList]
    omega

end

def isKeyD : TypeDesc → Bool
  | .int _ => true
  | .string => true
  | .bool => true
  | _ => false

theorem run_checkKey' {P : Program} {w : World} {t : TypeId} {d : TypeDesc} (e : Bool) (v : Value) (h : P.underlying t = some d) (hk : isKeyD d = true) (m : Nat) : (Instr.checkKey e (m + 1) t v).run P w = .ok () w := by
  rw [Instr.checkKey]
  simp only [Sem.run_bind, run_underlying h, Result.andThen_ok]
  cases d <;> first
    | (simp [isKeyD] at hk; done)
    | rfl

theorem run_checkKey {P : Program} {w : World} {t : TypeId} {d : TypeDesc} (e : Bool) (v : Value) (h : P.underlying t = some d) (hk : isKeyD d = true) : (Instr.checkKey e 10000 t v).run P w = .ok () w :=
  run_checkKey' e v h hk 9999

theorem run_findKey {P : Program} {w : World} {t : TypeId} {d : TypeDesc} {kv : Value} {ents : List MapEntry} {r : Option (Nat × Value)} (h : P.underlying t = some d) (hf : Instr.findNow d kv ents 0 = some r) :
    (Instr.findKey t kv ents).run P w = .ok r w := by
  simp [Instr.findKey, run_underlying h, hf]

def _root_.notInt : TypeDesc → Bool
  | .int _ => false
  | _ => true

section
variable {P : Program}

theorem run_append_head {w : World} {t u ty e : TypeId} {ui ei : TI} {base : Option Addr} {len cap m : Nat} {xv : Value} (ht : P.underlying t = some (.slice e)) (hu : P.underlying u = some ui.desc) (hn : notInt ui.desc = true) (hei : P.info? e = some ei.info)
    (hl : (Builtin.lenOf xv).run P w = .ok m w) (hin : len + m ≤ cap) {new : Array Value} (hf : (Builtin.firstCells ei.info.size m xv).run P w = .ok new w) :
    (Builtin.append_ #[t, u] ty #[.slice base len cap, xv]).run P w = (do
      if let some a := base then storeCells (a.add (len * ei.info.size)) new.toList
      pure (.slice base (len + m) cap) : Sem Value).run P w := by
  generalize ui.desc = d at hu hn
  simp only [Builtin.append_, List.getElem?_toArray, List.getElem?_cons_zero, List.getElem?_cons_succ, Sem.run_bind, run_underlying ht, run_underlying hu, Result.andThen_ok, run_sizeOf' w hei, Sem.run_pure]
  cases d <;> first
    | (cases hn; done)
    | (simp only [Bool.false_eq_true, if_false, hl, Result.andThen_ok, hin, if_true, Bool.not_false, Sem.run_bind, hf]
       cases base <;> rfl)

theorem run_append_grow' {w : World} {t u ty e : TypeId} {ui ei : TI} {base : Option Addr} {len cap m : Nat} {xv z : Value} (ht : P.underlying t = some (.slice e)) (hu : P.underlying u = some ui.desc) (hn : notInt ui.desc = true) (hei : P.info? e = some ei.info)
    (hz : ei.info.zero = some z) (hl : (Builtin.lenOf xv).run P w = .ok m w) (hin : ¬ (len + m ≤ cap)) {old new : Array Value} (hf : (Builtin.firstCells ei.info.size m xv).run P w.drew = .ok new w.drew)
    (ho : (Builtin.firstCells ei.info.size len (.slice base len cap)).run P w.drew = .ok old w.drew) (hb : (len + m) * ei.info.bytes ≤ 140737488355328) (hb2 : len + m ≤ 140737488355328) :
    (Builtin.append_ #[t, u] ty #[.slice base len cap, xv]).run P w = .ok (.slice (some ⟨w.heap.size, 0, none⟩) (len + m) (grownCap w (len + m) cap e))
      (w.drew.alloc (.cells (old ++ new ++ Builtin.zeroCells z.cells (grownCap w (len + m) cap e - (len + m))) e)) := by
  generalize ui.desc = d at hu hn
  have h48 := growslice_fits (need := len + m) (old := cap) (bytes := ei.info.bytes) (by omega) hb
  have h48' : ¬ (Builtin.nextslicecap (len + m) cap * ei.info.bytes > 2 ^ 48) := by omega
  have h63 : ¬ (((len + m : Nat) : Int) > IntKind.i64.max ∧ (False ∨ ei.info.bytes = 0)) := by rw [IntKind.max_i64]; omega
  simp only [Builtin.append_, List.getElem?_toArray, List.getElem?_cons_zero, List.getElem?_cons_succ, Sem.run_bind, run_underlying ht, run_underlying hu, Result.andThen_ok, run_sizeOf' w hei, Sem.run_pure]
  have hd : ({ w with drawn := w.drawn + 1 } : World) = w.drew := rfl
  cases d <;> first
    | (cases hn; done)
    | (simp only [Bool.false_eq_true, if_false, hl, Result.andThen_ok, hin, Bool.not_false, if_true, Sem.run_bind, run_typeInfo w hei, h63, h48', run_choose, Question.forced, run_askRoom, hd, run_typeInfo w.drew hei, ho, hf,
        run_zeroValue' w.drew hei hz, newRow, run_newObj, Sem.run_pure]
       rfl)

end

end Go.Pv
