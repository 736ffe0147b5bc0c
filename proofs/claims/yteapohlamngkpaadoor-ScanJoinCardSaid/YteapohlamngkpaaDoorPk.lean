/-
  Values of a program as plain data: operations that make new objects and lists.
-/
import Derived.Test.YteapohlamngkpaaDoorPj
import Derived.Laws.MakeOwn
import Derived.Lib.ConvBytes
namespace Go.Pv
open Go.RowKit
set_option linter.unusedVariables false

/-- What is new: an object, a list that may be appended to. -/
inductive Nd where
  | o (ao : AO)
  | t (len : Nat)
  | z

def add1 (id q : Nat) : Nd → Hs → Hs
  | .o ao, s => { s with H := hset s.H id (some ao) }
  | .t len, s => { s with T := hset s.T q (some len) }
  | .z, s => s

inductive A where
  | zero (t : TypeId) (xs : List X)
  | box (t : TypeId) (x : X)
  | mkmap (kd : KD) (x : Option X)
  | mksl (t : TypeId) (zs : List PV) (bytes : Nat) (len cap : X)
  | mktip (sz bytes : Nat) (len cap : X)                    -- of length 0
  | lit (zs : List PV) (len : Nat) (n : Option Nat) (ps : List (Nat × X))         -- a list of so many, by their places
  | litf (zs : List PV) (len : Nat) (n : Option Nat) (ps : List (Nat × X))        -- nobody appends to it
  | byts (x : X)
  | litm (t : TypeId) (zs : List PV) (len : Nat) (n : Option Nat) (ps : List (Nat × X))

abbrev EvA := Option (Prop × PV × Nd)

def onA (o : Option PV) (f : PV → EvA) : EvA := match o with
  | some v => f v
  | none => none

def onAL : List (Option PV) → (List PV → EvA) → EvA
  | [], f => f []
  | some v :: r, f => onAL r fun l => f (v :: l)
  | none :: _, _ => none

/-- All of one shape. -/
def ShapeL (n : Option Nat) : List PV → Prop
  | [] => True
  | v :: r => Shape n v ∧ ShapeL n r

/-- Elements put at their places. -/
def fillE : List (List PV) → List (Nat × PV) → List (List PV)
  | es, [] => es
  | es, (k, v) :: r => fillE (es.set k (cellsP v)) r

def evalA (lk : X → Option PV) (id q : Nat) : A → EvA
  | .zero t xs => onAL (xs.map lk) fun l => some (True, .ptr id 0, .o (.cells l t false))
  | .box t x => onA (lk x) fun v => some (True, .ptr id 0, .o (.cells (cellsP v) t false))
  | .mkmap kd none => some (True, .map id, .o (.map kd []))
  | .mkmap kd (some x) => onA (lk x) fun
    | .int _ _ => some (True, .map id, .o (.map kd []))
    | _ => none
  | .mksl t zs bytes l c => onA (lk l) fun a => onA (lk c) fun b => match a, b with
    | .int _ l, .int _ c => some (0 ≤ l ∧ l ≤ c ∧ (bytes : Int) * c ≤ 281474976710656 ∧ c ≤ 9223372036854775807, .sl id 0 l.toNat, .o (.cells (List.replicate c.toNat zs).flatten t false))
    | _, _ => none
  | .mktip sz bytes l c => onA (lk l) fun a => onA (lk c) fun b => match a, b with
    | .int _ l, .int _ c => some (l = 0 ∧ 0 ≤ c ∧ (bytes : Int) * c ≤ 281474976710656 ∧ c ≤ 9223372036854775807, .lst sz [] (some q), .t 0)
    | _, _ => none
  | .lit zs len n ps => onAL (ps.map fun p => lk p.2) fun l => some (ShapeL n l, .lst zs.length (fillE (List.replicate len zs) (List.zip (ps.map (·.1)) l)) (some q), .t len)
  | .litf zs len n ps => onAL (ps.map fun p => lk p.2) fun l => some (ShapeL n l, .lst zs.length (fillE (List.replicate len zs) (List.zip (ps.map (·.1)) l)) none, .z)
  | .byts x => onA (lk x) fun
    | .str b => some (True, .lst 1 (b.map fun c => [byteP c]) none, .z)
    | _ => none
  | .litm t zs len n ps => onAL (ps.map fun p => lk p.2) fun l => some (ShapeL n l, .sl id 0 len, .o (.cells (fillE (List.replicate len zs) (List.zip (ps.map (·.1)) l)).flatten t false))

/-- A list's parts: in it, by one way. -/
def partsE (len : Nat) : List (Nat × Operand) → List (Nat × X) → Bool
  | [], [] => true
  | (i, _) :: r, (k, _) :: r' => Nat.beq i k && Nat.blt k len && partsE len r r'
  | _, _ => false

def cxE (cx : Operand → X → Bool) : List (Nat × Operand) → List (Nat × X) → Bool
  | [], [] => true
  | a :: x, b :: y => cx a.2 b.2 && cxE cx x y
  | _, _ => false

/-- An element's zero cells, as they are there. -/
def zeroE (C : Cx) (e : TypeId) (zs : List PV) : Bool := match zeroCs C e with
  | none => false
  | some z => match ofVs z with
    | none => false
    | some z' => wkPVs z' zs && (match C.tt e with | some ei => Nat.beq zs.length ei.info.size | none => false)

def elemT (C : Cx) (ty : TypeId) : Option TypeId := match C.tt ty with
  | none => none
  | some i => match i.desc with
    | .slice e => some e
    | _ => none

def bytesT (C : Cx) (ty : TypeId) : Option Nat := match C.tt ty with
  | some i => some i.info.bytes
  | none => none

def chkA (C : Cx) (cx : Operand → X → Bool) (op : Op) (a : A) : Bool := match op, a with
  | .alloc ty, .zero t xs => Nat.beq ty t && (match zeroCs C ty with
    | some z => cxL cx (z.map Operand.const) xs
    | none => false)
  | .box ty x, .box t y => Nat.beq ty t && cx x y
  | .makeMap ty none, .mkmap kd none => (match mapT C ty with
    | some (kd', _, _) => beqKD kd' kd
    | none => false)
  | .makeMap ty (some r), .mkmap kd (some x) => cx r x && (match mapT C ty with
    | some (kd', _, _) => beqKD kd' kd
    | none => false)
  | .makeSlice ty a b, .mksl t zs bytes x y => cx a x && cx b y && (match elemT C ty with
    | some e => Nat.beq e t && zeroE C e zs && beqN (bytesT C e) (some bytes)
    | none => false)
  | .makeSlice ty a b, .mktip sz bytes x y => cx a x && cx b y && (match elemT C ty with
    | some e => (match zeroCs C e with | some z => Nat.beq z.length sz | none => false) && beqN (sizeT C e) (some sz) && beqN (bytesT C e) (some bytes)
    | none => false)
  | .buildSlice ty len ps, .lit zs len' n ps' => Nat.beq len len' && partsE len ps.toList ps' && cxE cx ps.toList ps' && (match elemT C ty with
    | some e => zeroE C e zs && Nat.beq zs.length (n.getD 1) && Nat.ble (Nat.mul len zs.length) 16777216 && !Nat.beq zs.length 0
    | none => false)
  | .buildSlice ty len ps, .litf zs len' n ps' => Nat.beq len len' && partsE len ps.toList ps' && cxE cx ps.toList ps' && (match elemT C ty with
    | some e => zeroE C e zs && Nat.beq zs.length (n.getD 1) && Nat.ble (Nat.mul len zs.length) 16777216 && !Nat.beq zs.length 0
    | none => false)
  | .convert s d x, .byts y => cx x y && (match C.tt s, C.tt d with
    | some i, some j => (match i.desc with | .string => true | _ => false) && (match j.desc with
      | .slice e => (match C.tt e with | some k => (match k.desc with | .int .u8 => true | _ => false) | none => false)
      | _ => false)
    | _, _ => false)
  | .buildSlice ty len ps, .litm t zs len' n ps' => Nat.beq len len' && partsE len ps.toList ps' && cxE cx ps.toList ps' && (match elemT C ty with
    | some e => Nat.beq e t && zeroE C e zs && Nat.beq zs.length (n.getD 1) && Nat.ble (Nat.mul len zs.length) 16777216 && !Nat.beq zs.length 0
    | none => false)
  | _, _ => false

theorem onA_some {o : Option PV} {f : PV → EvA} {r : Prop × PV × Nd} : onA o f = some r → ∃ v, o = some v ∧ f v = some r := by
  intro h
  cases o with
  | none => simp [onA] at h
  | some v => exact ⟨v, rfl, h⟩

theorem onAL_some {r : Prop × PV × Nd} : ∀ {l : List (Option PV)} {g : List PV → EvA}, onAL l g = some r → ∃ vs, l = vs.map some ∧ g vs = some r
  | [], g, h => ⟨[], rfl, h⟩
  | none :: l, g, h => by simp [onAL] at h
  | some v :: l, g, h => by
    simp only [onAL] at h
    obtain ⟨vs, e1, e2⟩ := onAL_some h
    exact ⟨v :: vs, by simp [e1], e2⟩

/-- What a new thing leaves as it was. -/
structure Only (E E' : Env) (id q : Nat) : Prop where
  blk : ∀ i, i ≠ id → E'.blk i = E.blk i
  tip : ∀ p l, p ≠ q → E'.tip p l = E.tip p l

theorem Only.setB (E : Env) (id q b : Nat) : Only E (E.setB id b) id q := ⟨fun i h => Env.setB_ne _ _ h, fun _ _ _ => rfl⟩
theorem Only.setT (E : Env) (id q k l : Nat) (f : Nat → Option Value) (x : Nat × Nat × Nat × Nat) : Only E ((E.setF k f).setT q l x) id q :=
  ⟨fun _ _ => rfl, fun p i h => by simp [Env.setT, h, Env.setF]⟩

section
variable {C : Cx} (hC : C.Ok)

theorem bytesWorld_eq (w : World) (e : TypeId) (s : ByteArray) : Lib.bytesWorld w e s = w.drew.alloc (.cells (Lib.bytesCells w e s) e ((Lib.bytesCells w e s).size, (Lib.bytesCells w e s).size + 1)) := by
  have hh : (Lib.bytesWorld w e s).heap = (w.drew.alloc (.cells (Lib.bytesCells w e s) e ((Lib.bytesCells w e s).size, (Lib.bytesCells w e s).size + 1))).heap := by
    apply Array.ext_getElem?
    intro i
    rcases Nat.lt_trichotomy i w.heap.size with h | h | h
    · rw [Lib.bytesWorld_at_old w e s i h]
      exact (Array.getElem?_push_lt h ▸ (Array.getElem?_eq_getElem h))
    · subst h
      rw [Lib.bytesWorld_at_new]
      exact (Array.getElem?_push_size).symm
    · rw [Array.getElem?_eq_none (by rw [Lib.bytesWorld_size]; omega), Array.getElem?_eq_none (by show (Array.push w.heap _).size ≤ i; rw [Array.size_push]; omega)]
  have hb : Lib.bytesWorld w e s = { (w.drew.alloc (.cells (Lib.bytesCells w e s) e ((Lib.bytesCells w e s).size, (Lib.bytesCells w e s).size + 1))) with heap := (Lib.bytesWorld w e s).heap } := rfl
  rw [hb, hh]

/-- A new object of cells. -/
theorem newCells {nn mm : Nat} {E : Env} {s : Hs} {w w' : World} (h : SH C E s w.heap) {id q : Nat} {cs : List PV} {xs : List Value} {t : TypeId} (hid : E.blk id = none) (hlt : id < s.n) (hnn : nn ≤ id) (hc : RepL E cs xs)
    (hhp : w'.heap = w.heap.push (.cells xs.toArray t)) (hos : w'.os = w.os) (ht : w'.tape = w.tape) (hout : w'.output = w.output) :
    Post C nn mm E s w (E.setB id w.heap.size) (add1 id q (.o (.cells cs t false)) s) w' := by
  have := Post.alloc (C := C) (nn := nn) (mm := mm) (w := w) (w' := w') (n' := s.n) (o := .cells cs t false) (O := .cells xs.toArray t) h hid (Nat.le_refl _) hlt hnn hhp hos ht hout
    ⟨xs, [], hc.mono (Env.setB_le hid), by simp, fun _ => rfl⟩
  exact this

theorem cxE_rep {E : Env} {ρ : Operand → Value} {lk : X → Option PV} {cx : Operand → X → Bool} : ∀ {a : List (Nat × Operand)} {b : List (Nat × X)} {vs : List PV}, (∀ x y v, x ∈ a.map (·.2) → cx x y = true → lk y = some v → Rep E v (ρ x)) → cxE cx a b = true → (b.map fun p => lk p.2) = vs.map some → RepL E vs (a.map fun p => ρ p.2)
  | [], [], vs, hcx, h, e => by
    cases vs with
    | nil => exact RepL.mk0
    | cons v vs => simp at e
  | [], _ :: _, vs, hcx, h, e => by simp [cxE] at h
  | _ :: _, [], vs, hcx, h, e => by simp [cxE] at h
  | x :: a, y :: b, vs, hcx, h, e => by
    cases vs with
    | nil => simp at e
    | cons v vs =>
      simp only [List.map_cons, List.cons.injEq] at e
      simp only [cxE, Bool.and_eq_true] at h
      exact RepL.mk (hcx x.2 y.2 v (by simp) h.1 e.1) (cxE_rep (fun x y v hx => hcx x y v (by simp only [List.map_cons, List.mem_cons]; exact Or.inr hx)) h.2 e.2)

theorem fillE_flat {n : Option Nat} : ∀ {es : List (List PV)} {ks : List Nat} {vs : List PV}, Even (n.getD 1) es → ShapeL n vs → Even (n.getD 1) (fillE es (List.zip ks vs))
  | es, [], vs, h, _ => by simpa [fillE] using h
  | es, k :: ks, [], h, _ => by simpa [fillE] using h
  | es, k :: ks, v :: vs, h, hs => by
    simp only [List.zip_cons_cons, fillE]
    refine fillE_flat (fun e he => ?_) hs.2
    rcases List.mem_or_eq_of_mem_set he with h1 | rfl
    · exact h e h1
    · exact hs.1.len

theorem fillE_length : ∀ {es : List (List PV)} {ps : List (Nat × PV)}, (fillE es ps).length = es.length
  | es, [] => rfl
  | es, (k, v) :: r => by rw [fillE, fillE_length, List.length_set]

theorem putP_append_left : ∀ (vs l r : List PV) (k : Nat), k + vs.length ≤ l.length → putP (l ++ r) k vs = putP l k vs ++ r
  | [], l, r, k, h => rfl
  | v :: vs, l, r, k, h => by
    simp only [List.length_cons] at h
    simp only [putP]
    rw [List.set_append_left _ _ (by omega)]
    exact putP_append_left vs (l.set k v) r (k + 1) (by simp; omega)

theorem putP_append_right : ∀ (vs l r : List PV) (k : Nat), putP (l ++ r) (l.length + k) vs = l ++ putP r k vs
  | [], l, r, k => rfl
  | v :: vs, l, r, k => by
    simp only [putP]
    rw [List.set_append_right _ _ (by omega), show l.length + k - l.length = k by omega, show l.length + k + 1 = l.length + (k + 1) by omega]
    exact putP_append_right vs l (r.set k v) (k + 1)

theorem putP_all : ∀ (vs l : List PV), vs.length = l.length → putP l 0 vs = vs := by
  have key : ∀ (vs a l : List PV), vs.length = l.length → putP (a ++ l) a.length vs = a ++ vs := by
    intro vs
    induction vs with
    | nil => intro a l h; cases l with
      | nil => rfl
      | cons x l => simp at h
    | cons v vs ih =>
      intro a l h
      cases l with
      | nil => simp at h
      | cons x l =>
        simp only [putP]
        rw [List.set_append_right _ _ (by omega), Nat.sub_self, List.set_cons_zero]
        have := ih (a ++ [v]) l (by simpa using h)
        simpa using this
  intro vs l h
  simpa using key vs [] l h

/-- An element is put where it stands. -/
theorem putP_flat {sz : Nat} : ∀ (es : List (List PV)) (k : Nat) (e : List PV), Even sz es → e.length = sz → k < es.length → putP es.flatten (k * sz) e = (es.set k e).flatten
  | [], k, e, _, _, h => by simp at h
  | x :: es, 0, e, hs, he, h => by
    have h1 : x.length = sz := hs x (by simp)
    simp only [List.flatten_cons, Nat.zero_mul, List.set_cons_zero]
    rw [putP_append_left _ _ _ _ (by omega), putP_all _ _ (by omega)]
  | x :: es, k + 1, e, hs, he, h => by
    have h1 : x.length = sz := hs x (by simp)
    simp only [List.flatten_cons, List.set_cons_succ]
    rw [Nat.succ_mul, Nat.add_comm, ← h1, putP_append_right, h1, putP_flat es k e hs.tail he (by simpa using h)]

theorem fillP_flat {n : Option Nat} : ∀ {es : List (List PV)} {ks : List Nat} {vs : List PV}, Even (n.getD 1) es → ShapeL n vs → ks.length = vs.length → (∀ k ∈ ks, k < es.length) →
    fillP es.flatten (List.zip (ks.map (· * n.getD 1)) vs) = (fillE es (List.zip ks vs)).flatten
  | es, [], vs, h, _, _, _ => by simp [fillE, fillP]
  | es, k :: ks, [], h, _, hl, _ => by simp at hl
  | es, k :: ks, v :: vs, h, hs, hl, hk => by
    simp only [List.map_cons, List.zip_cons_cons, fillE, fillP_cons]
    rw [putP_flat es k (cellsP v) h hs.1.len (hk k (by simp))]
    refine fillP_flat (fun e he => ?_) hs.2 (by simpa using hl) (fun j hj => by rw [List.length_set]; exact hk j (by simp [hj]))
    rcases List.mem_or_eq_of_mem_set he with h1 | rfl
    · exact h e h1
    · exact hs.1.len

theorem partsE_ok {len : Nat} {n : Option Nat} : ∀ {ops : List (Nat × Operand)} {ps : List (Nat × X)}, partsE len ops ps = true →
    partsOk (fun k => some (k * n.getD 1, n.getD 1)) (len * n.getD 1) ops (ps.map fun p => (p.1 * n.getD 1, n, p.2)) = true ∧ ∀ k ∈ ps.map (·.1), k < len
  | [], [], h => ⟨rfl, fun k hk => (by cases hk)⟩
  | [], _ :: _, h => by simp [partsE] at h
  | _ :: _, [], h => by simp [partsE] at h
  | (i, x) :: ops, (k, y) :: ps, h => by
    simp only [partsE, Bool.and_eq_true] at h
    obtain ⟨⟨h1, h2⟩, h3⟩ := h
    have := Nat.eq_of_beq_eq_true h1; subst this
    have h2' : i < len := by simpa [Nat.blt_eq] using h2
    obtain ⟨g1, g2⟩ := partsE_ok (n := n) h3
    refine ⟨?_, fun j hj => ?_⟩
    · simp only [List.map_cons, partsOk, Bool.and_eq_true]
      refine ⟨⟨⟨by simp, by simp⟩, ?_⟩, g1⟩
      have : (i + 1) * n.getD 1 ≤ len * n.getD 1 := Nat.mul_le_mul_right _ h2'
      rw [Nat.succ_mul] at this
      exact Nat.ble_eq_true_of_le this
    · rcases List.mem_cons.1 hj with rfl | hj
      · exact h2'
      · exact g2 j hj

theorem shapes_of {n : Option Nat} : ∀ {ps : List (Nat × X)} {vs : List PV}, ps.length = vs.length → ShapeL n vs → Shapes (ps.map fun p => (p.1 * n.getD 1, n, p.2)) vs
  | [], [], _, _ => by simp [Shapes]
  | [], _ :: _, h, _ => by simp at h
  | _ :: _, [], h, _ => by simp at h
  | p :: ps, v :: vs, h, hs => ⟨hs.1, shapes_of (by simpa using h) hs.2⟩

theorem flat_lenP (l : List PV) : ∀ n, (List.replicate n l).flatten.length = n * l.length
  | 0 => by simp
  | n + 1 => by rw [List.replicate_succ, List.flatten_cons, List.length_append, flat_lenP l n, Nat.succ_mul]; omega

theorem RepL.reps {E : Env} {vs : List PV} {xs : List Value} (h : RepL E vs xs) : ∀ n, RepL E (List.replicate n vs).flatten (List.replicate n xs).flatten
  | 0 => RepL.mk0
  | n + 1 => by
    simp only [List.replicate_succ, List.flatten_cons]
    exact h.append (RepL.reps h n)

include hC
theorem elemT_ok {ty e : TypeId} (h : elemT C ty = some e) : C.P.underlying ty = some (.slice e) := by
  unfold elemT at h
  split at h
  · cases h
  rename_i i hi
  split at h
  · rename_i e' he
    cases h
    obtain ⟨hd, _⟩ := hC.ty ty i hi
    rw [he] at hd; exact hd
  · cases h

theorem bytesT_ok {ty : TypeId} {n : Nat} (h : bytesT C ty = some n) : ∃ i, C.P.info? ty = some i ∧ i.bytes = n := by
  unfold bytesT at h
  split at h
  · rename_i i hi
    cases h
    exact ⟨i.info, (hC.ty ty i hi).2, rfl⟩
  · cases h

theorem zeroE_ok {e : TypeId} {zs : List PV} (h : zeroE C e zs = true) (E : Env) : ∃ x i, C.P.info? e = some i ∧ i.zero = some x ∧ RepL E zs x.cells.toList ∧ i.size = zs.length ∧ x.cells.size = zs.length := by
  unfold zeroE at h
  split at h
  · cases h
  rename_i z hz
  split at h
  · cases h
  rename_i z' hz'
  simp only [Bool.and_eq_true] at h
  obtain ⟨x, i, h1, h2, h3⟩ := zeroCs_ok hC hz
  have hr := wkPVs_ok (E := E) h.1 (ofVs_rep E z z' hz')
  have h4 := h.2
  split at h4
  case h_2 => cases h4
  rename_i ei hei
  obtain ⟨_, hin⟩ := hC.ty e ei hei
  rw [h1] at hin; cases hin
  refine ⟨x, _, h1, h2, by rw [h3]; exact hr, (Nat.eq_of_beq_eq_true h4).symm, ?_⟩
  rw [← Array.length_toList, h3, hr.length]

/-- A literal's cells. -/
theorem lit_ok {E : Env} {w : World} {ty e : TypeId} {zs : List PV} {len : Nat} {n : Option Nat} {ps : List (Nat × X)} {vs : List PV} {ρ : Operand → Value} {ops : Array (Nat × Operand)} (he : elemT C ty = some e) (hz : zeroE C e zs = true) (hn : zs.length = n.getD 1)
    (hsm : len * zs.length ≤ 16777216) (hp : partsE len ops.toList ps = true) (hlp : ps.length = vs.length) (hs : ShapeL n vs) (hv : RepL E vs (ops.toList.map fun p => ρ p.2)) :
    ∃ xs, RepL E (fillE (List.replicate len zs) (List.zip (ps.map (·.1)) vs)).flatten xs ∧
      (Instr.buildSlice ty len (ops.map fun (i, x) => (i, ρ x))).run C.P w = .ok (.slice (some ⟨w.heap.size, 0, none⟩) len len) (w.alloc (.cells xs.toArray e)) := by
  have hd := elemT_ok hC he
  obtain ⟨z, i, hi, hiz, hzr, hsz, hzs⟩ := zeroE_ok hC hz E
  have hev : Even (n.getD 1) (List.replicate len zs) := fun x hx => by rw [(List.mem_replicate.1 hx).2]; exact hn
  obtain ⟨g1, g2⟩ := partsE_ok (n := n) hp
  have hreps := hzr.reps len
  have hl : (List.replicate len zs).flatten.length = len * n.getD 1 := by rw [flat_lenP, hn]
  have hmap : (ps.map fun p => (p.1 * n.getD 1, n, p.2)).map (·.1) = (ps.map (·.1)).map (· * n.getD 1) := by simp
  obtain ⟨out, o1, o2⟩ := fill_ok (E := E) (ρ := ρ) (cs := (List.replicate len zs).flatten) (by rw [hl]; exact g1) (shapes_of (n := n) hlp hs) hreps hv
  rw [hmap, fillP_flat hev hs (by simpa using hlp) (fun k hk => by rw [List.length_replicate]; exact g2 k hk)] at o2
  refine ⟨out, o2, ?_⟩
  have he2 : ops.map (fun (i, x) => (i, ρ x)) = (ops.toList.map fun (i, x) => (i, ρ x)).toArray := by apply Array.ext'; simp
  rw [he2]
  have hno' : ¬ (16777216 < len * i.size) := by rw [hsz]; omega
  have hpl : (fun k => some (k * n.getD 1, n.getD 1)) = fun k : Nat => some (k * i.size, i.size) := by rw [hsz, hn]
  rw [hpl] at o1
  by_cases h0 : len * i.size = 0
  · have hemp : (List.replicate len z.cells.toList).flatten = [] := by
      apply List.eq_nil_of_length_eq_zero
      rw [flat_len, Array.length_toList, hzs, ← hsz]
      exact h0
    rw [hemp] at o1
    have o1' : Instr.fill (fun k => some (k * i.size, i.size)) #[] (ops.toList.map fun (i, x) => (i, ρ x)) = some out.toArray := o1
    simp [Instr.buildSlice, run_underlying hd, run_sizeOf' w hi, h0, newRow, Array.range_zero', o1']
  · have hmade : (Array.range (len * i.size)).map (z.cells[· % z.cells.size]!) = (List.replicate len z.cells.toList).flatten.toArray := by
      rw [hsz, ← hzs]; exact madeCells_eq z.cells len
    have o1' : Instr.fill (fun k => some (k * i.size, i.size)) (List.replicate len z.cells.toList).flatten.toArray (ops.toList.map fun (i, x) => (i, ρ x)) = some out.toArray := o1
    simp [Instr.buildSlice, run_underlying hd, run_sizeOf' w hi, hno', h0, run_zeroValue' w hi hiz, newRow]
    rw [hmade, o1']
    simp

omit hC in
/-- A new list. -/
theorem newList {nn mm : Nat} {E : Env} {s : Hs} {w w' : World} (h : SH C E s w.heap) {id q sz cap : Nat} {es : List (List PV)} {xs rest : List Value} {t : TypeId} (hq : ∀ i, E.tip q i = none) (hlt : q < s.m) (hmm : mm ≤ q) (hc : RepL E es.flatten xs)
    (hev : Even sz es) (hcap : es.length ≤ cap) (hrest : (xs ++ rest).length = cap * sz)
    (hhp : w'.heap = w.heap.push (.cells (xs ++ rest).toArray t)) (hos : w'.os = w.os) (ht : w'.tape = w.tape) (hout : w'.output = w.output) :
    ∃ E', Rep E' (.lst sz es (some q)) (.slice (some ⟨w.heap.size, 0, none⟩) es.length cap) ∧ Post C nn mm E s w E' (add1 id q (.t es.length) s) w' ∧ Only E E' id q := by
  have hxl : xs.length = es.length * sz := by rw [hc.length]; exact Even.flat hev
  let f : Nat → Option Value := fun j => xs[j]?
  have hpost : Post C nn mm E s w ((E.setF w.heap.size f).setT q es.length (w.heap.size, 0, cap, sz)) ⟨s.H, hset s.T q (some es.length), s.n, s.m⟩ w' := by
    refine Post.newtip h (c := (xs ++ rest).toArray) (e := t) (z := (0, 0)) hq (Nat.le_refl _) hlt hmm hhp hos ht hout ?_ ?_ ?_ (Or.inl rfl) hcap
    · intro j v hj
      have hj' : xs[j]? = some v := hj
      simp only [List.getElem?_toArray]
      rw [List.getElem?_append_left (List.getElem?_eq_some_iff.1 hj').1]
      exact hj'
    · intro j hj
      show xs[j]? = none
      rw [List.getElem?_eq_none]; omega
    · rw [List.size_toArray, hrest]; exact Nat.le_refl _
  refine ⟨_, ?_, hpost, Only.setT _ _ _ _ _ _ _⟩
  simp only [Rep]
  refine ⟨⟨_, _, rfl, hcap, Or.inr ⟨_, 0, rfl, ?_⟩, fun q' hq' => ?_⟩, hev⟩
  · rw [RepFs.flat]
    refine RepF.of (hc.mono hpost.le) (fun j x hj => ?_)
    rw [Nat.zero_add]
    show (E.setF w.heap.size f).fz w.heap.size j = some x
    rw [Env.setF_same]; exact hj
  · cases hq'
    exact Or.inr ⟨_, 0, rfl, Env.setT_same _ _ _ _⟩

variable {ρ : Operand → Value} {lk : X → Option PV} {cx : Operand → X → Bool}

set_option maxHeartbeats 1000000 in
theorem alloc_ok {nn mm : Nat} {E : Env} {s : Hs} {w : World} (h : SH C E s w.heap) {o : Oper} {a : A} {id q : Nat} {ob : Prop} {v : PV} {nd : Nd}
    (hid : E.blk id = none) (hq : ∀ i, E.tip q i = none) (hTq : ¬ ∃ l, s.T q = some l) (hlt : id < s.n) (hltq : q < s.m) (hnn : nn ≤ id) (hmm : mm ≤ q)
    (hcx : ∀ x y v, x ∈ o.op.operands → cx x y = true → lk y = some v → Rep E v (ρ x)) (hcc : ∀ c y v, cx (.const c) y = true → lk y = some v → Rep E v c)
    (hk : chkA C cx o.op a = true) (hx : evalA lk id q a = some (ob, v, nd)) (ho : ob) :
    ∃ u E' w', (execOp ρ o).run C.P w = .ok (.value u) w' ∧ Rep E' v u ∧ Post C nn mm E s w E' (add1 id q nd s) w' ∧ Only E E' id q := by
  obtain ⟨dst, op, ty0, pos, after, guard⟩ := o
  simp only at hcx hk
  unfold chkA at hk
  split at hk
  · -- alloc
    rename_i ty t xs
    simp only [Bool.and_eq_true] at hk
    obtain ⟨k1, k2⟩ := hk
    have := Nat.eq_of_beq_eq_true k1; subst this
    split at k2
    case h_2 => cases k2
    rename_i z hz
    simp only [evalA] at hx
    obtain ⟨vs, e1, e2⟩ := onAL_some hx
    simp only [Option.some.injEq, Prod.mk.injEq] at e2; obtain ⟨rfl, rfl, rfl⟩ := e2
    obtain ⟨zv, i, hi, hiz, hzc⟩ := zeroCs_ok hC hz
    have hzl : RepL E vs z := by
      have := cxL_rep (E := E) (ρ := constOf) (lk := lk) (fun x y v hx h1 h2 => by
        obtain ⟨c, hc, rfl⟩ := List.mem_map.1 hx
        exact hcc c y v h1 h2) k2 e1
      rw [List.map_map] at this
      have hidf : constOf ∘ Operand.const = fun c => c := by funext c; rfl
      rw [hidf, List.map_id'] at this
      exact this
    have hrun : (Instr.alloc ty true (.tuple #[])).run C.P w = .ok (.pointer (some ⟨w.heap.size, 0, none⟩)) (w.alloc (.cells zv.cells ty)) := by
      simp [Instr.alloc, run_zeroValue' w hi hiz, newVar, newRow]
    refine ⟨.pointer (some ⟨w.heap.size, 0, none⟩), E.setB id w.heap.size, w.alloc (.cells zv.cells ty), ?_, ?_, ?_, Only.setB _ _ _ _⟩
    · simp only [execOp, Sem.run_bind, hrun, Result.andThen_ok, Sem.run_pure]
    · simp only [Rep]; exact ⟨_, Env.setB_same _ _ _, rfl⟩
    · exact newCells (q := q) (xs := z) h hid hlt hnn hzl (by rw [← hzc]; rfl) rfl rfl rfl
  · -- box
    rename_i ty x t y
    simp only [Bool.and_eq_true] at hk
    obtain ⟨k1, k2⟩ := hk
    have := Nat.eq_of_beq_eq_true k1; subst this
    simp only [evalA] at hx
    obtain ⟨u, e1, e2⟩ := onA_some hx
    simp only [Option.some.injEq, Prod.mk.injEq] at e2; obtain ⟨rfl, rfl, rfl⟩ := e2
    have hr := hcx x y _ (by simp [Op.operands]) k2 e1
    refine ⟨.pointer (some ⟨w.heap.size, 0, none⟩), E.setB id w.heap.size, w.alloc (.cells (ρ x).cells ty), ?_, ?_, ?_, Only.setB _ _ _ _⟩
    · simp [execOp, Instr.box, newVar, newRow]
    · simp only [Rep]; exact ⟨_, Env.setB_same _ _ _, rfl⟩
    · exact newCells (q := q) (xs := (ρ x).cells.toList) h hid hlt hnn hr.cells rfl rfl rfl rfl
  · -- makeMap
    rename_i ty kd
    split at hk
    case h_2 => cases hk
    rename_i kd' kt et hm
    simp only [evalA, Option.some.injEq, Prod.mk.injEq] at hx; obtain ⟨rfl, rfl, rfl⟩ := hx
    refine ⟨.map (some w.heap.size), E.setB id w.heap.size, w.alloc (.map #[] 0), by simp [execOp, Instr.makeMap], ?_, ?_, Only.setB _ _ _ _⟩
    · simp only [Rep]; exact ⟨_, Env.setB_same _ _ _, rfl⟩
    · exact Post.alloc (n' := s.n) (o := .map kd []) (O := .map #[] 0) h hid (Nat.le_refl _) hlt hnn rfl rfl rfl rfl ⟨⟨#[], 0, by simp, rfl⟩, fun e he => (by cases he)⟩
  · -- makeMap, with room
    rename_i ty r kd x
    simp only [Bool.and_eq_true] at hk
    obtain ⟨k1, k2⟩ := hk
    split at k2
    case h_2 => cases k2
    rename_i kd' kt et hm
    obtain ⟨hd, _⟩ := mapT_ok hC hm
    simp only [evalA] at hx
    obtain ⟨u, e1, e2⟩ := onA_some hx
    split at e2
    case h_2 => cases e2
    simp only [Option.some.injEq, Prod.mk.injEq] at e2; obtain ⟨rfl, rfl, rfl⟩ := e2
    have hr := hcx r x _ (by simp [Op.operands]) k1 e1
    simp only [Rep] at hr
    refine ⟨.map (some w.heap.size), E.setB id w.heap.size, w.alloc (.map #[] 0), by simp [execOp, Instr.makeMap, run_underlying hd, hr, asInt, asIntOf], ?_, ?_, Only.setB _ _ _ _⟩
    · simp only [Rep]; exact ⟨_, Env.setB_same _ _ _, rfl⟩
    · exact Post.alloc (n' := s.n) (o := .map kd []) (O := .map #[] 0) h hid (Nat.le_refl _) hlt hnn rfl rfl rfl rfl ⟨⟨#[], 0, by simp, rfl⟩, fun e he => (by cases he)⟩
  · -- makeSlice, written into
    rename_i ty a b t zs bytes x y
    simp only [Bool.and_eq_true] at hk
    obtain ⟨⟨k1, k2⟩, k3⟩ := hk
    split at k3
    case h_2 => cases k3
    rename_i e he
    simp only [Bool.and_eq_true] at k3
    obtain ⟨⟨k3, k4⟩, k5⟩ := k3
    have := Nat.eq_of_beq_eq_true k3; subst this
    have hd := elemT_ok hC he
    obtain ⟨z, i, hi, hiz, hzr, hsz, hzs⟩ := zeroE_ok hC k4 E
    obtain ⟨i', hi', hby⟩ := bytesT_ok hC (beqN_eq k5)
    rw [hi] at hi'; cases hi'
    simp only [evalA] at hx
    obtain ⟨u1, e1, e2⟩ := onA_some hx
    obtain ⟨u2, e3, e4⟩ := onA_some e2
    split at e4
    case h_2 => cases e4
    rename_i kl l kc c
    simp only [Option.some.injEq, Prod.mk.injEq] at e4; obtain ⟨rfl, rfl, rfl⟩ := e4
    obtain ⟨o1, o2, o3, o4⟩ := ho
    have ha := hcx a x _ (by simp [Op.operands]) k1 e1
    have hb := hcx b y _ (by simp [Op.operands]) k2 e3
    simp only [Rep] at ha hb
    have hrun := run_make (P := C.P) w ty e i z hd hi hiz kl kc l c o1 o2 (by rw [hby]; exact o3) o4
    have hmc : madeCells z.cells (c.toNat * i.size) = (List.replicate c.toNat z.cells.toList).flatten.toArray := by rw [hsz, ← hzs]; exact madeCells_eq z.cells c.toNat
    rw [hmc] at hrun
    have hrl := hzr.reps c.toNat
    refine ⟨.slice (some ⟨w.heap.size, 0, none⟩) l.toNat c.toNat, E.setB id w.heap.size, w.alloc (.cells (List.replicate c.toNat z.cells.toList).flatten.toArray e), ?_, ?_, newCells (q := q) h hid hlt hnn hrl rfl rfl rfl rfl, Only.setB _ _ _ _⟩
    · simp only [execOp, ha, hb, Sem.run_bind, hrun, Result.andThen_ok, Sem.run_pure]
    · simp only [Rep]; exact ⟨_, _, Env.setB_same _ _ _, rfl, by omega⟩
  · -- makeSlice, with nothing in it
    rename_i ty a b sz bytes x y
    simp only [Bool.and_eq_true] at hk
    obtain ⟨⟨k1, k2⟩, k3⟩ := hk
    split at k3
    case h_2 => cases k3
    rename_i e he
    simp only [Bool.and_eq_true] at k3
    obtain ⟨⟨k3, k4⟩, k5⟩ := k3
    have hd := elemT_ok hC he
    split at k3
    case h_2 => cases k3
    rename_i zc hzc
    have k3' := Nat.eq_of_beq_eq_true k3
    obtain ⟨z, i, hi, hiz, hzl⟩ := zeroCs_ok hC hzc
    obtain ⟨i', hi', hby⟩ := bytesT_ok hC (beqN_eq k5)
    rw [hi] at hi'; cases hi'
    obtain ⟨i', hi', hsz⟩ := sizeT_ok hC (beqN_eq k4)
    rw [hi] at hi'; cases hi'
    simp only [evalA] at hx
    obtain ⟨u1, e1, e2⟩ := onA_some hx
    obtain ⟨u2, e3, e4⟩ := onA_some e2
    split at e4
    case h_2 => cases e4
    rename_i kl l kc c
    simp only [Option.some.injEq, Prod.mk.injEq] at e4; obtain ⟨rfl, rfl, rfl⟩ := e4
    obtain ⟨o0, o1, o3, o4⟩ := ho
    subst o0
    have ha := hcx a x _ (by simp [Op.operands]) k1 e1
    have hb := hcx b y _ (by simp [Op.operands]) k2 e3
    simp only [Rep] at ha hb
    have hrun := run_make (P := C.P) w ty e i z hd hi hiz kl kc 0 c (Int.le_refl _) o1 (by rw [hby]; exact o3) o4
    have hzs : z.cells.size = i.size := by rw [hsz, ← k3', ← hzl]; simp
    have hml : (madeCells z.cells (c.toNat * i.size)).toList.length = c.toNat * sz := by rw [Array.length_toList, size_madeCells, hsz]
    obtain ⟨E', r1, r2, r3⟩ := newList (C := C) (nn := nn) (mm := mm) (w' := w.alloc (.cells (madeCells z.cells (c.toNat * i.size)) e)) h (id := id) (q := q) (sz := sz) (cap := c.toNat) (es := []) (xs := []) (rest := (madeCells z.cells (c.toNat * i.size)).toList) (t := e) hq hltq hmm RepL.mk0 (fun e he => (by cases he)) (by simp)
      (by rw [List.nil_append]; exact hml) (by rw [List.nil_append, Array.toArray_toList]; rfl) rfl rfl rfl
    refine ⟨_, E', _, ?_, r1, r2, r3⟩
    simp only [execOp, ha, hb, Sem.run_bind, hrun, Result.andThen_ok, Sem.run_pure]
    rfl
  · -- a literal
    rename_i ty len ps zs len' n ps'
    simp only [Bool.and_eq_true] at hk
    obtain ⟨⟨⟨k1, k2⟩, k3⟩, k4⟩ := hk
    have := Nat.eq_of_beq_eq_true k1; subst this
    split at k4
    case h_2 => cases k4
    rename_i e he
    simp only [Bool.and_eq_true] at k4
    obtain ⟨⟨⟨k4, k5⟩, k6⟩, k7⟩ := k4
    have k5' := Nat.eq_of_beq_eq_true k5
    have k6' := Nat.le_of_ble_eq_true k6
    simp only [evalA] at hx
    obtain ⟨vs, e1, e2⟩ := onAL_some hx
    simp only [Option.some.injEq, Prod.mk.injEq] at e2; obtain ⟨rfl, rfl, rfl⟩ := e2
    have hv := cxE_rep (E := E) (ρ := ρ) (lk := lk) (fun x y v hx => hcx x y v (by simpa [Op.operands] using hx)) k3 e1
    have hlp : ps'.length = vs.length := by simpa using congrArg List.length e1
    obtain ⟨xs, g1, g2⟩ := lit_ok hC (w := w) (ρ := ρ) (ops := ps) he k4 k5' k6' k2 hlp ho hv
    have hev : Even zs.length (fillE (List.replicate len zs) (List.zip (ps'.map (·.1)) vs)) := by
      rw [k5']
      exact fillE_flat (fun x hx => by rw [(List.mem_replicate.1 hx).2]; exact k5') ho
    have hlen : (fillE (List.replicate len zs) (List.zip (ps'.map (·.1)) vs)).length = len := by rw [fillE_length, List.length_replicate]
    obtain ⟨E', r1, r2, r3⟩ := newList (C := C) (nn := nn) (mm := mm) (w' := w.alloc (.cells xs.toArray e)) h (id := id) (q := q) (sz := zs.length) (cap := len) (rest := []) (t := e) hq hltq hmm g1 hev (by omega)
      (by rw [List.append_nil, g1.length, Even.flat hev, hlen]) (by rw [List.append_nil]; rfl) rfl rfl rfl
    rw [hlen] at r1 r2
    exact ⟨_, E', _, by simp only [execOp, Sem.run_bind, g2, Result.andThen_ok, Sem.run_pure], r1, r2, r3⟩
  · -- a literal that stays
    rename_i ty len ps zs len' n ps'
    simp only [Bool.and_eq_true] at hk
    obtain ⟨⟨⟨k1, k2⟩, k3⟩, k4⟩ := hk
    have := Nat.eq_of_beq_eq_true k1; subst this
    split at k4
    case h_2 => cases k4
    rename_i e he
    simp only [Bool.and_eq_true] at k4
    obtain ⟨⟨⟨k4, k5⟩, k6⟩, k7⟩ := k4
    have k5' := Nat.eq_of_beq_eq_true k5
    have k6' := Nat.le_of_ble_eq_true k6
    simp only [evalA] at hx
    obtain ⟨vs, e1, e2⟩ := onAL_some hx
    simp only [Option.some.injEq, Prod.mk.injEq] at e2; obtain ⟨rfl, rfl, rfl⟩ := e2
    have hv := cxE_rep (E := E) (ρ := ρ) (lk := lk) (fun x y v hx => hcx x y v (by simpa [Op.operands] using hx)) k3 e1
    have hlp : ps'.length = vs.length := by simpa using congrArg List.length e1
    obtain ⟨xs, g1, g2⟩ := lit_ok hC (w := w) (ρ := ρ) (ops := ps) he k4 k5' k6' k2 hlp ho hv
    have hev : Even zs.length (fillE (List.replicate len zs) (List.zip (ps'.map (·.1)) vs)) := by
      rw [k5']
      exact fillE_flat (fun x hx => by rw [(List.mem_replicate.1 hx).2]; exact k5') ho
    have hlen : (fillE (List.replicate len zs) (List.zip (ps'.map (·.1)) vs)).length = len := by rw [fillE_length, List.length_replicate]
    obtain ⟨E', r1, r2, r3⟩ := newList (C := C) (nn := nn) (mm := mm) (w' := w.alloc (.cells xs.toArray e)) h (id := id) (q := q) (sz := zs.length) (cap := len) (rest := []) (t := e) hq hltq hmm g1 hev (by omega)
      (by rw [List.append_nil, g1.length, Even.flat hev, hlen]) (by rw [List.append_nil]; rfl) rfl rfl rfl
    rw [hlen] at r1 r2
    refine ⟨_, E', _, by simp only [execOp, Sem.run_bind, g2, Result.andThen_ok, Sem.run_pure], fgt_ok r1, r2.sub (s1 := s) ⟨fun _ _ e => e, fun p l e => ?_⟩ (Nat.le_refl _) (Nat.le_refl _), r3⟩
    show hset s.T q (some len) p = some l
    rw [hset_ne _ _ (fun e2 => by
      subst e2
      rcases h.tott p l e with ⟨x, hx⟩ | ⟨_, _, _⟩
      · rw [hq] at hx; cases hx
      · exact absurd ⟨_, e⟩ hTq)]
    exact e
  · -- a string's bytes
    rename_i sty dty x y
    simp only [Bool.and_eq_true] at hk
    obtain ⟨k1, k2⟩ := hk
    split at k2
    case h_2 => cases k2
    rename_i si di hsi hdi
    simp only [Bool.and_eq_true] at k2
    obtain ⟨k2, k3⟩ := k2
    split at k2
    case h_2 => cases k2
    rename_i hss
    split at k3
    case h_2 => cases k3
    rename_i e he
    split at k3
    case h_2 => cases k3
    rename_i ei hei
    split at k3
    case h_2 => cases k3
    rename_i hu8
    obtain ⟨d1, _⟩ := hC.ty sty si hsi
    obtain ⟨d2, _⟩ := hC.ty dty di hdi
    obtain ⟨d3, _⟩ := hC.ty e ei hei
    rw [hss] at d1
    rw [he] at d2
    rw [hu8] at d3
    simp only [evalA] at hx
    obtain ⟨u, e1, e2⟩ := onA_some hx
    split at e2
    case h_2 => cases e2
    rename_i l
    simp only [Option.some.injEq, Prod.mk.injEq] at e2; obtain ⟨rfl, rfl, rfl⟩ := e2
    have hr := hcx x y _ (by simp [Op.operands]) k1 e1
    simp only [Rep] at hr
    have hrun := Lib.run_convert_string_bytes (P := C.P) w sty dty e ⟨l.toArray⟩ d1 d2 d3
    rw [bytesWorld_eq] at hrun
    have hsz : (ByteArray.mk l.toArray).size = l.length := by simp [ByteArray.size]
    rw [hsz] at hrun
    have hge := grownCap_ge w l.length 0 e
    have hcells : Lib.bytesCells w e ⟨l.toArray⟩ = ((l.map fun b : UInt8 => Value.int IntKind.u8 (b.toNat : Int)) ++ List.replicate (grownCap w l.length 0 e - l.length) (Value.int IntKind.u8 0)).toArray := by
      apply Array.ext'
      simp [Lib.bytesCells, hsz]
    let f : Nat → Option Value := fun j => (l.map fun b : UInt8 => Value.int IntKind.u8 (b.toNat : Int))[j]?
    have hpost : Post C nn mm E s w (E.setF w.heap.size f) s (w.drew.alloc (.cells ((l.map fun b : UInt8 => Value.int IntKind.u8 (b.toNat : Int)) ++ List.replicate (grownCap w l.length 0 e - l.length) (Value.int IntKind.u8 0)).toArray e ((Lib.bytesCells w e ⟨l.toArray⟩).size, (Lib.bytesCells w e ⟨l.toArray⟩).size + 1))) := by
      refine Post.freeze h (O := _) rfl rfl rfl rfl (c := ((l.map fun b : UInt8 => Value.int IntKind.u8 (b.toNat : Int)) ++ List.replicate (grownCap w l.length 0 e - l.length) (Value.int IntKind.u8 0)).toArray) (e := e) (z := _) rfl (fun j v hj => ?_)
      simp only [List.getElem?_toArray]
      rw [List.getElem?_append_left (List.getElem?_eq_some_iff.1 hj).1]
      exact hj
    rw [← hcells] at hpost
    refine ⟨.slice (some ⟨w.heap.size, 0, none⟩) l.length (grownCap w l.length 0 e), E.setF w.heap.size f, _, ?_, ?_, hpost, Only.mk (fun _ _ => rfl) (fun _ _ _ => rfl)⟩
    · simp only [execOp, hr, Sem.run_bind, hrun, Result.andThen_ok, Sem.run_pure]
    · simp only [Rep]
      refine ⟨⟨_, _, by rw [List.length_map], by rw [List.length_map]; exact hge, Or.inr ⟨_, 0, rfl, ?_⟩, fun q' hq' => (by cases hq')⟩, ?_⟩
      · rw [RepFs.flat]
        refine RepF.of (bytes_rep l) (fun j x hj => ?_)
        rw [Nat.zero_add, Env.setF_same]; exact hj
      · intro e he
        obtain ⟨c, _, rfl⟩ := List.mem_map.1 he
        rfl
  · -- a literal that is written into
    rename_i ty len ps t zs len' n ps'
    simp only [Bool.and_eq_true] at hk
    obtain ⟨⟨⟨k1, k2⟩, k3⟩, k4⟩ := hk
    have := Nat.eq_of_beq_eq_true k1; subst this
    split at k4
    case h_2 => cases k4
    rename_i e he
    simp only [Bool.and_eq_true] at k4
    obtain ⟨⟨⟨⟨k0, k4⟩, k5⟩, k6⟩, k7⟩ := k4
    have := Nat.eq_of_beq_eq_true k0; subst this
    have k5' := Nat.eq_of_beq_eq_true k5
    have k6' := Nat.le_of_ble_eq_true k6
    simp only [evalA] at hx
    obtain ⟨vs, e1, e2⟩ := onAL_some hx
    simp only [Option.some.injEq, Prod.mk.injEq] at e2; obtain ⟨rfl, rfl, rfl⟩ := e2
    have hv := cxE_rep (E := E) (ρ := ρ) (lk := lk) (fun x y v hx => hcx x y v (by simpa [Op.operands] using hx)) k3 e1
    have hlp : ps'.length = vs.length := by simpa using congrArg List.length e1
    obtain ⟨xs, g1, g2⟩ := lit_ok hC (w := w) (ρ := ρ) (ops := ps) he k4 k5' k6' k2 hlp ho hv
    refine ⟨.slice (some ⟨w.heap.size, 0, none⟩) len len, E.setB id w.heap.size, w.alloc (.cells xs.toArray e), by simp only [execOp, Sem.run_bind, g2, Result.andThen_ok, Sem.run_pure], ?_, newCells (q := q) h hid hlt hnn g1 rfl rfl rfl rfl, Only.setB _ _ _ _⟩
    simp only [Rep]; exact ⟨_, _, Env.setB_same _ _ _, rfl, Nat.le_refl _⟩
  · cases hk
end
end Go.Pv
