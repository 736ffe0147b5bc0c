/-
  Values of a program as plain data: what they stand for in memory. Lists that nobody writes into any more are data; what may be written into is told by names of objects.
-/
import Derived.Tactics
import Derived.Orders
import Derived.Below
import Derived.Defers
namespace Go.Pv
set_option linter.unusedVariables false

inductive PV where
  | bool (b : Bool)
  | int (k : IntKind) (n : Int)
  | str (s : List UInt8)
  | nilp
  | nilsl
  | nilm
  | nilf
  | nili
  | ptr (id off : Nat)                              -- into an object
  | rp (cs : List PV)                               -- to cells that nobody writes into
  | sl (id off len : Nat)                           -- of an object's cells
  | lst (sz : Nat) (es : List (List PV)) (p : Option Nat)      -- elements of so many cells that nobody writes into; by whom it may be appended to
  | map (id : Nat)
  | func (f : Nat) (fst cap : List PV)
  | iface (t : TypeId) (v : PV)
  | agg (cs : List PV)
  | tup (vs : List PV)
  | yld (id : Nat)

/-- What names stand for: an object's block; cells that stay as they are; of a permit and a length where that slice stands: block, offset, capacity, size of an element. -/
structure Env where
  blk : Nat → Option Nat
  fz : Nat → Nat → Option Value
  tip : Nat → Nat → Option (Nat × Nat × Nat × Nat)

mutual
def Rep (E : Env) : PV → Value → Prop
  | .bool b, x => x = .bool b
  | .int k n, x => x = .int k n
  | .str s, x => x = .string ⟨s.toArray⟩
  | .nilp, x => x = .pointer none
  | .nilsl, x => x = .slice none 0 0
  | .nilm, x => x = .map none
  | .nilf, x => x = .nilFunc
  | .nili, x => x = .nilIface
  | .ptr id off, x => ∃ b, E.blk id = some b ∧ x = .pointer (some ⟨b, off, none⟩)
  | .rp cs, x => ∃ b o, x = .pointer (some ⟨b, o, none⟩) ∧ RepF E b o cs
  | .sl id off len, x => ∃ b cap, E.blk id = some b ∧ x = .slice (some ⟨b, off, none⟩) len cap ∧ len ≤ cap
  | .lst sz es p, x => (∃ base cap, x = .slice base es.length cap ∧ es.length ≤ cap ∧ (es = [] ∨ ∃ b o, base = some ⟨b, o, none⟩ ∧ RepFs E b o es) ∧
      (∀ q, p = some q → (base = none ∧ cap = 0) ∨ ∃ b o, base = some ⟨b, o, none⟩ ∧ E.tip q es.length = some (b, o, cap, sz))) ∧ ∀ e ∈ es, e.length = sz
  | .map id, x => ∃ b, E.blk id = some b ∧ x = .map (some b)
  | .func f fst cap, x => ∃ a c, x = .func (.func f) a.toArray c.toArray ∧ RepL E fst a ∧ RepL E cap c
  | .iface t v, x => ∃ y, x = .iface t y ∧ Rep E v y
  | .agg cs, x => ∃ a, x = .agg a.toArray ∧ RepL E cs a
  | .tup vs, x => ∃ a, x = .tuple a.toArray ∧ RepL E vs a
  | .yld id, x => ∃ b, E.blk id = some b ∧ x = .func (.yield b) #[] #[]
def RepL (E : Env) : List PV → List Value → Prop
  | [], xs => xs = []
  | v :: vs, xs => ∃ x r, xs = x :: r ∧ Rep E v x ∧ RepL E vs r
def RepF (E : Env) (b : Nat) : Nat → List PV → Prop
  | _, [] => True
  | o, v :: vs => (∃ x, E.fz b o = some x ∧ Rep E v x) ∧ RepF E b (o + 1) vs
def RepFs (E : Env) (b : Nat) : Nat → List (List PV) → Prop
  | _, [] => True
  | o, e :: es => RepF E b o e ∧ RepFs E b (o + e.length) es
end

/-- More is known. -/
structure Env.le (E E' : Env) : Prop where
  blk : ∀ id b, E.blk id = some b → E'.blk id = some b
  fz : ∀ b o x, E.fz b o = some x → E'.fz b o = some x
  tip : ∀ p l x, E.tip p l = some x → E'.tip p l = some x

theorem Env.le.refl (E : Env) : E.le E := ⟨fun _ _ h => h, fun _ _ _ h => h, fun _ _ _ h => h⟩
theorem Env.le.trans {A B C : Env} (h : A.le B) (k : B.le C) : A.le C := ⟨fun i p e => k.blk i p (h.blk i p e), fun b o x e => k.fz b o x (h.fz b o x e), fun p l x e => k.tip p l x (h.tip p l x e)⟩

mutual
theorem Rep.mono {E E' : Env} (h : E.le E') : ∀ {v : PV} {x : Value}, Rep E v x → Rep E' v x
  | .bool _, x, k => by simpa [Rep] using k
  | .int _ _, x, k => by simpa [Rep] using k
  | .str _, x, k => by simpa [Rep] using k
  | .nilp, x, k => by simpa [Rep] using k
  | .nilsl, x, k => by simpa [Rep] using k
  | .nilm, x, k => by simpa [Rep] using k
  | .nilf, x, k => by simpa [Rep] using k
  | .nili, x, k => by simpa [Rep] using k
  | .ptr id off, x, k => by
    simp only [Rep] at k ⊢
    obtain ⟨b, h1, h2⟩ := k
    exact ⟨b, h.blk _ _ h1, h2⟩
  | .rp cs, x, k => by
    simp only [Rep] at k ⊢
    obtain ⟨b, o, h1, h2⟩ := k
    exact ⟨b, o, h1, RepF.mono h h2⟩
  | .sl id off len, x, k => by
    simp only [Rep] at k ⊢
    obtain ⟨b, cap, h1, h2⟩ := k
    exact ⟨b, cap, h.blk _ _ h1, h2⟩
  | .lst sz es p, x, k => by
    simp only [Rep] at k ⊢
    obtain ⟨⟨base, cap, h1, h2, h3, h4⟩, h5⟩ := k
    refine ⟨⟨base, cap, h1, h2, h3.imp (fun e => e) (fun ⟨b, o, e1, e2⟩ => ⟨b, o, e1, RepFs.mono h e2⟩), fun q hq => ?_⟩, h5⟩
    exact (h4 q hq).imp (fun e => e) fun ⟨b, o, e1, e2⟩ => ⟨b, o, e1, h.tip _ _ _ e2⟩
  | .map id, x, k => by
    simp only [Rep] at k ⊢
    obtain ⟨b, h1, h2⟩ := k
    exact ⟨b, h.blk _ _ h1, h2⟩
  | .func f fst cap, x, k => by
    simp only [Rep] at k ⊢
    obtain ⟨a, c, h1, h2, h3⟩ := k
    exact ⟨a, c, h1, RepL.mono h h2, RepL.mono h h3⟩
  | .iface t v, x, k => by
    simp only [Rep] at k ⊢
    obtain ⟨y, h1, h2⟩ := k
    exact ⟨y, h1, Rep.mono h h2⟩
  | .agg cs, x, k => by
    simp only [Rep] at k ⊢
    obtain ⟨a, h1, h2⟩ := k
    exact ⟨a, h1, RepL.mono h h2⟩
  | .tup cs, x, k => by
    simp only [Rep] at k ⊢
    obtain ⟨a, h1, h2⟩ := k
    exact ⟨a, h1, RepL.mono h h2⟩
  | .yld id, x, k => by
    simp only [Rep] at k ⊢
    obtain ⟨b, h1, h2⟩ := k
    exact ⟨b, h.blk _ _ h1, h2⟩
theorem RepL.mono {E E' : Env} (h : E.le E') : ∀ {vs : List PV} {xs : List Value}, RepL E vs xs → RepL E' vs xs
  | [], xs, k => by simpa [RepL] using k
  | v :: vs, xs, k => by
    simp only [RepL] at k ⊢
    obtain ⟨x, r, h1, h2, h3⟩ := k
    exact ⟨x, r, h1, Rep.mono h h2, RepL.mono h h3⟩
theorem RepF.mono {E E' : Env} (h : E.le E') {b : Nat} : ∀ {o : Nat} {vs : List PV}, RepF E b o vs → RepF E' b o vs
  | o, [], k => by simp [RepF]
  | o, v :: vs, k => by
    simp only [RepF] at k ⊢
    obtain ⟨⟨x, h1, h2⟩, h3⟩ := k
    exact ⟨⟨x, h.fz _ _ _ h1, Rep.mono h h2⟩, RepF.mono h h3⟩
theorem RepFs.mono {E E' : Env} (h : E.le E') {b : Nat} : ∀ {o : Nat} {es : List (List PV)}, RepFs E b o es → RepFs E' b o es
  | o, [], k => by simp [RepFs]
  | o, e :: es, k => by
    simp only [RepFs] at k ⊢
    exact ⟨RepF.mono h k.1, RepFs.mono h k.2⟩
end

/-! ### Lists of values -/
theorem RepL.cons {E : Env} {v : PV} {vs : List PV} {xs : List Value} (h : RepL E (v :: vs) xs) : ∃ x r, xs = x :: r ∧ Rep E v x ∧ RepL E vs r := by simpa only [RepL] using h
theorem RepL.nil {E : Env} {xs : List Value} (h : RepL E [] xs) : xs = [] := by simpa only [RepL] using h
theorem RepL.mk0 {E : Env} : RepL E [] [] := by simp [RepL]
theorem RepL.mk {E : Env} {v : PV} {vs : List PV} {x : Value} {xs : List Value} (h : Rep E v x) (k : RepL E vs xs) : RepL E (v :: vs) (x :: xs) := by
  simp only [RepL]; exact ⟨x, xs, rfl, h, k⟩

theorem RepL.length {E : Env} : ∀ {vs : List PV} {xs : List Value}, RepL E vs xs → xs.length = vs.length
  | [], xs, h => by rw [h.nil]; rfl
  | v :: vs, xs, h => by
    obtain ⟨x, r, rfl, h1, h2⟩ := h.cons
    simp [RepL.length h2]

theorem RepL.append {E : Env} : ∀ {vs us : List PV} {xs ys : List Value}, RepL E vs xs → RepL E us ys → RepL E (vs ++ us) (xs ++ ys)
  | [], us, xs, ys, h, k => by rw [h.nil]; simpa using k
  | v :: vs, us, xs, ys, h, k => by
    obtain ⟨x, r, rfl, h1, h2⟩ := h.cons
    exact RepL.mk h1 (RepL.append h2 k)

theorem RepL.take {E : Env} : ∀ {vs : List PV} {xs : List Value} (n : Nat), RepL E vs xs → RepL E (vs.take n) (xs.take n)
  | [], xs, n, h => by rw [h.nil]; simp [RepL]
  | v :: vs, xs, 0, h => by simp [RepL]
  | v :: vs, xs, n + 1, h => by
    obtain ⟨x, r, rfl, h1, h2⟩ := h.cons
    exact RepL.mk h1 (RepL.take n h2)

theorem RepL.drop {E : Env} : ∀ {vs : List PV} {xs : List Value} (n : Nat), RepL E vs xs → RepL E (vs.drop n) (xs.drop n)
  | [], xs, n, h => by rw [h.nil]; simp [RepL]
  | v :: vs, xs, 0, h => h
  | v :: vs, xs, n + 1, h => by
    obtain ⟨x, r, rfl, h1, h2⟩ := h.cons
    exact RepL.drop n h2

theorem RepL.get {E : Env} : ∀ {vs : List PV} {xs : List Value} {n : Nat} {v : PV}, RepL E vs xs → vs[n]? = some v → ∃ x, Rep E v x ∧ xs[n]? = some x
  | [], xs, n, v, h, k => by simp at k
  | u :: vs, xs, 0, v, h, k => by
    obtain ⟨x, r, rfl, h1, h2⟩ := h.cons
    simp at k; subst k
    exact ⟨x, h1, rfl⟩
  | u :: vs, xs, n + 1, v, h, k => by
    obtain ⟨x, r, rfl, h1, h2⟩ := h.cons
    obtain ⟨y, e1, e2⟩ := RepL.get (n := n) h2 (by simpa using k)
    exact ⟨y, e1, by simpa using e2⟩

theorem RepL.set {E : Env} : ∀ {vs : List PV} {xs : List Value} (n : Nat) {v : PV} {x : Value}, RepL E vs xs → Rep E v x → RepL E (vs.set n v) (xs.set n x)
  | [], xs, n, v, x, h, k => by rw [h.nil]; simp [RepL]
  | u :: vs, xs, 0, v, x, h, k => by
    obtain ⟨y, r, rfl, h1, h2⟩ := h.cons
    exact RepL.mk k h2
  | u :: vs, xs, n + 1, v, x, h, k => by
    obtain ⟨y, r, rfl, h1, h2⟩ := h.cons
    exact RepL.mk h1 (RepL.set n h2 k)

theorem RepL.replicate {E : Env} {v : PV} {x : Value} (h : Rep E v x) : ∀ n, RepL E (List.replicate n v) (List.replicate n x)
  | 0 => RepL.mk0
  | n + 1 => RepL.mk h (RepL.replicate h n)

theorem RepL.split {E : Env} : ∀ {vs us : List PV} {xs : List Value}, RepL E (vs ++ us) xs → ∃ a b, xs = a ++ b ∧ RepL E vs a ∧ RepL E us b
  | [], us, xs, h => ⟨[], xs, rfl, RepL.mk0, by simpa using h⟩
  | v :: vs, us, xs, h => by
    obtain ⟨x, r, rfl, h1, h2⟩ := RepL.cons (by simpa using h)
    obtain ⟨a, b, rfl, h3, h4⟩ := RepL.split h2
    exact ⟨x :: a, b, rfl, RepL.mk h1 h3, h4⟩

/-! ### Cells that stay -/
theorem RepF.get {E : Env} {b : Nat} : ∀ {o : Nat} {vs : List PV} {n : Nat} {v : PV}, RepF E b o vs → vs[n]? = some v → ∃ x, E.fz b (o + n) = some x ∧ Rep E v x
  | o, [], n, v, h, k => by simp at k
  | o, u :: vs, 0, v, h, k => by
    simp only [RepF] at h
    simp at k; subst k
    exact h.1
  | o, u :: vs, n + 1, v, h, k => by
    simp only [RepF] at h
    obtain ⟨x, h1, h2⟩ := RepF.get (n := n) h.2 (by simpa using k)
    exact ⟨x, by rw [← h1]; congr 1; omega, h2⟩

theorem RepF.drop {E : Env} {b : Nat} : ∀ {o : Nat} {vs : List PV} (n : Nat), RepF E b o vs → RepF E b (o + n) (vs.drop n)
  | o, [], n, h => by simp [RepF]
  | o, u :: vs, 0, h => h
  | o, u :: vs, n + 1, h => by
    simp only [RepF] at h
    have := RepF.drop n h.2
    rw [show o + 1 + n = o + (n + 1) by omega] at this
    exact this

theorem RepF.take {E : Env} {b : Nat} : ∀ {o : Nat} {vs : List PV} (n : Nat), RepF E b o vs → RepF E b o (vs.take n)
  | o, [], n, h => by simp [RepF]
  | o, u :: vs, 0, h => by simp [RepF]
  | o, u :: vs, n + 1, h => by
    simp only [RepF] at h
    simp only [List.take_succ_cons, RepF]
    exact ⟨h.1, RepF.take n h.2⟩

theorem RepF.append {E : Env} {b : Nat} : ∀ {o : Nat} {vs us : List PV}, RepF E b o vs → RepF E b (o + vs.length) us → RepF E b o (vs ++ us)
  | o, [], us, h, k => by simpa using k
  | o, v :: vs, us, h, k => by
    simp only [RepF, List.cons_append] at h ⊢
    refine ⟨h.1, RepF.append h.2 ?_⟩
    rw [show o + 1 + vs.length = o + (v :: vs).length by simp; omega]
    exact k

/-- The values that stand in the cells. -/
theorem RepF.vals {E : Env} {b : Nat} : ∀ {o : Nat} {vs : List PV}, RepF E b o vs → ∃ xs, RepL E vs xs ∧ ∀ j x, xs[j]? = some x → E.fz b (o + j) = some x
  | o, [], h => ⟨[], RepL.mk0, fun j x k => by simp at k⟩
  | o, v :: vs, h => by
    simp only [RepF] at h
    obtain ⟨⟨x, h1, h2⟩, h3⟩ := h
    obtain ⟨xs, k1, k2⟩ := RepF.vals h3
    refine ⟨x :: xs, RepL.mk h2 k1, fun j y hj => ?_⟩
    cases j with
    | zero => simp at hj; subst hj; exact h1
    | succ j =>
      have := k2 j y (by simpa using hj)
      rw [← this]; congr 1; omega

theorem RepF.of {E : Env} {b : Nat} : ∀ {o : Nat} {vs : List PV} {xs : List Value}, RepL E vs xs → (∀ j x, xs[j]? = some x → E.fz b (o + j) = some x) → RepF E b o vs
  | o, [], xs, h, k => by simp [RepF]
  | o, v :: vs, xs, h, k => by
    obtain ⟨x, r, rfl, h1, h2⟩ := h.cons
    simp only [RepF]
    refine ⟨⟨x, by simpa using k 0 x (by simp), h1⟩, RepF.of h2 fun j y hj => ?_⟩
    have := k (j + 1) y (by simpa using hj)
    rw [← this]; congr 1; omega

theorem RepFs.flat {E : Env} {b : Nat} : ∀ {o : Nat} {es : List (List PV)}, RepFs E b o es ↔ RepF E b o es.flatten
  | o, [] => by simp [RepFs, RepF]
  | o, e :: es => by
    simp only [RepFs, List.flatten_cons]
    rw [RepFs.flat]
    constructor
    · rintro ⟨h1, h2⟩; exact h1.append h2
    · intro h
      refine ⟨?_, ?_⟩
      · have := h.take e.length; simpa using this
      · have := h.drop e.length; simpa using this

/-- All elements have so many cells. -/
def Even (sz : Nat) (es : List (List PV)) : Prop := ∀ e ∈ es, e.length = sz

theorem Even.flat {sz : Nat} : ∀ {es : List (List PV)}, Even sz es → es.flatten.length = es.length * sz
  | [], h => by simp
  | e :: es, h => by
    have h1 : e.length = sz := h e (by simp)
    have h2 := Even.flat (es := es) (fun x hx => h x (List.mem_cons_of_mem _ hx))
    simp only [List.flatten_cons, List.length_append, List.length_cons, h1, h2, Nat.succ_mul]; omega

theorem Even.tail {sz : Nat} {e : List PV} {es : List (List PV)} (h : Even sz (e :: es)) : Even sz es := fun x hx => h x (List.mem_cons_of_mem _ hx)
theorem Even.append {sz : Nat} {es fs : List (List PV)} (h : Even sz es) (k : Even sz fs) : Even sz (es ++ fs) := fun x hx => (List.mem_append.1 hx).elim (h x) (k x)

theorem RepFs.elem {E : Env} {b : Nat} {sz : Nat} : ∀ {o : Nat} {es : List (List PV)} {i : Nat} {e : List PV}, Even sz es → RepFs E b o es → es[i]? = some e → RepF E b (o + i * sz) e
  | o, [], i, e, _, h, k => by simp at k
  | o, f :: es, 0, e, hs, h, k => by
    simp at k; subst k
    simp only [RepFs] at h
    simpa using h.1
  | o, f :: es, i + 1, e, hs, h, k => by
    simp only [RepFs] at h
    have h1 : f.length = sz := hs f (by simp)
    have := RepFs.elem (i := i) hs.tail h.2 (by simpa using k)
    rw [h1, show o + sz + i * sz = o + (i + 1) * sz by rw [Nat.succ_mul]; omega] at this
    exact this

theorem RepFs.append {E : Env} {b : Nat} {o : Nat} {es fs : List (List PV)} (h : RepFs E b o es) (k : RepFs E b (o + es.flatten.length) fs) : RepFs E b o (es ++ fs) := by
  rw [RepFs.flat] at h k ⊢
  rw [List.flatten_append]
  exact h.append k

theorem RepFs.take {E : Env} {b : Nat} : ∀ {o : Nat} {es : List (List PV)} (n : Nat), RepFs E b o es → RepFs E b o (es.take n)
  | o, [], n, h => by simp [RepFs]
  | o, e :: es, 0, h => by simp [RepFs]
  | o, e :: es, n + 1, h => by
    simp only [RepFs, List.take_succ_cons] at h ⊢
    exact ⟨h.1, RepFs.take n h.2⟩

theorem RepFs.drop {E : Env} {b sz : Nat} : ∀ {o : Nat} {es : List (List PV)} (n : Nat), Even sz es → n ≤ es.length → RepFs E b o es → RepFs E b (o + n * sz) (es.drop n)
  | o, [], n, hs, hn, h => by simp [RepFs]
  | o, e :: es, 0, hs, hn, h => by simpa using h
  | o, e :: es, n + 1, hs, hn, h => by
    simp only [RepFs] at h
    have h1 : e.length = sz := hs e (by simp)
    have := RepFs.drop (o := o + e.length) n hs.tail (by simpa using hn) h.2
    rw [h1, show o + sz + n * sz = o + (n + 1) * sz by rw [Nat.succ_mul]; omega] at this
    simpa using this

/-! ### A value of the program's text -/
mutual
def ofV : Value → Option PV
  | .bool b => some (.bool b)
  | .int k n => some (.int k n)
  | .string s => some (.str s.data.toList)
  | .pointer none => some .nilp
  | .slice none 0 0 => some .nilsl
  | .map none => some .nilm
  | .nilFunc => some .nilf
  | .nilIface => some .nili
  | .agg ⟨cs⟩ => (ofVs cs).map .agg
  | .tuple ⟨cs⟩ => (ofVs cs).map .tup
  | _ => none
def ofVs : List Value → Option (List PV)
  | [] => some []
  | v :: vs => match ofV v, ofVs vs with
    | some x, some xs => some (x :: xs)
    | _, _ => none
end

mutual
theorem ofV_rep (E : Env) : ∀ (v : Value) (s : PV), ofV v = some s → Rep E s v
  | .bool b, s, h => by simp only [ofV, Option.some.injEq] at h; subst h; simp [Rep]
  | .int k n, s, h => by simp only [ofV, Option.some.injEq] at h; subst h; simp [Rep]
  | .string ⟨⟨l⟩⟩, s, h => by simp only [ofV, Option.some.injEq] at h; subst h; simp [Rep]
  | .pointer none, s, h => by simp only [ofV, Option.some.injEq] at h; subst h; simp [Rep]
  | .pointer (some _), s, h => by simp [ofV] at h
  | .slice none 0 0, s, h => by simp only [ofV, Option.some.injEq] at h; subst h; simp [Rep]
  | .slice none 0 (n + 1), s, h => by simp [ofV] at h
  | .slice none (n + 1) _, s, h => by simp [ofV] at h
  | .slice (some _) _ _, s, h => by simp [ofV] at h
  | .map none, s, h => by simp only [ofV, Option.some.injEq] at h; subst h; simp [Rep]
  | .map (some _), s, h => by simp [ofV] at h
  | .nilFunc, s, h => by simp only [ofV, Option.some.injEq] at h; subst h; simp [Rep]
  | .nilIface, s, h => by simp only [ofV, Option.some.injEq] at h; subst h; simp [Rep]
  | .agg ⟨cs⟩, s, h => by
    simp only [ofV, Option.map_eq_some_iff] at h
    obtain ⟨l, hl, rfl⟩ := h
    simp only [Rep]
    exact ⟨cs, rfl, ofVs_rep E cs l hl⟩
  | .tuple ⟨cs⟩, s, h => by
    simp only [ofV, Option.map_eq_some_iff] at h
    obtain ⟨l, hl, rfl⟩ := h
    simp only [Rep]
    exact ⟨cs, rfl, ofVs_rep E cs l hl⟩
  | .float _ _, s, h => by simp [ofV] at h
  | .complex _ _ _, s, h => by simp [ofV] at h
  | .chan _, s, h => by simp [ofV] at h
  | .func _ _ _, s, h => by simp [ofV] at h
  | .iface _ _, s, h => by simp [ofV] at h
theorem ofVs_rep (E : Env) : ∀ (vs : List Value) (s : List PV), ofVs vs = some s → RepL E s vs
  | [], s, h => by simp only [ofVs, Option.some.injEq] at h; subst h; exact RepL.mk0
  | v :: vs, s, h => by
    simp only [ofVs] at h
    cases h1 : ofV v with
    | none => rw [h1] at h; simp at h
    | some a =>
      cases h2 : ofVs vs with
      | none => rw [h1, h2] at h; simp at h
      | some b =>
        rw [h1, h2] at h
        simp only [Option.some.injEq] at h
        subst h
        exact RepL.mk (ofV_rep E v a h1) (ofVs_rep E vs b h2)
end
end Go.Pv
