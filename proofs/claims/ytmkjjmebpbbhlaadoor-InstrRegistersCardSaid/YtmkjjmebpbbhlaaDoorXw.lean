/-
  A run of closed code by the kernel: parameters that are plain structs of numbers and strings.
-/
import Derived.Test.YtmkjjmebpbbhlaaDoorXv
import Derived.Lib.SmallJoins
namespace Go.Xq
open Go.RowKit Go.ChangeShapes Go.WideShapes
set_option linter.unusedVariables false

/-- A type of numbers and strings alone. -/
def pureT (P : Program) : Nat → TypeId → Bool
  | 0, _ => false
  | n + 1, t => match P.underlying t with
    | some (.int _) => true
    | some .string => true
    | some (.struct fs) => fs.toList.all fun f => pureT P n f.type
    | _ => false

theorem mapM_congr' {α β : Type} {f g : α → Option β} : ∀ {l : List α}, (∀ x ∈ l, f x = g x) → l.mapM f = l.mapM g
  | [], _ => rfl
  | a :: l, h => by
    simp only [List.mapM_cons]
    rw [h a List.mem_cons_self, mapM_congr' (fun x hx => h x (List.mem_cons_of_mem _ hx))]

theorem trod_pure {H : Type} {enc : TypeId × Value → H} {P : Program} {w w' : World} {base base' : Nat} {sp sp' : Nat → Bool} {held held' : Bool} : ∀ (n : Nat) (t : TypeId), pureT P n t = true → ∀ (f : Nat) (cs : List Value),
    DataW.trod enc P w base sp held f t cs = DataW.trod enc P w' base' sp' held' f t cs
  | 0, t, h, f, cs => by cases h
  | n + 1, t, h, 0, cs => by simp [DataW.trod]
  | n + 1, t, h, f + 1, cs => by
    simp only [pureT] at h
    split at h
    · rename_i k hu
      cases cs with
      | nil => simp [DataW.trod, hu]
      | cons c r => cases r <;> cases c <;> simp [DataW.trod, hu]
    · rename_i hu
      cases cs with
      | nil => simp [DataW.trod, hu]
      | cons c r => cases r <;> cases c <;> simp [DataW.trod, hu]
    · rename_i fs hu
      have hm : (fs.toList.mapM fun x => DataW.trod enc P w base sp held f x.type ((cs.drop x.offset).take (P.cellsOf x.type))) = fs.toList.mapM fun x => DataW.trod enc P w' base' sp' held' f x.type ((cs.drop x.offset).take (P.cellsOf x.type)) :=
        mapM_congr' fun x hx => trod_pure n x.type (List.all_eq_true.1 h x hx) f _
      have key : ∀ {w : World} {base : Nat} {sp : Nat → Bool} {held : Bool}, DataW.trod enc P w base sp held (f + 1) t cs = if cs.length = P.cellsOf t then (fs.toList.mapM fun x => DataW.trod enc P w base sp held f x.type ((cs.drop x.offset).take (P.cellsOf x.type))).map fun xs => (.agg (xs.map (·.1)), xs.flatMap (·.2)) else none := by
        intro w base sp held
        rw [DataW.trod]
        rw [hu]
      rw [key, key, hm]
    · cases h

/-- What is read of plain data is read so anywhere. -/
theorem Trod_pure {H : Type} {enc : TypeId × Value → H} {P : Program} {w w' : World} {base base' : Nat} {sp sp' : Nat → Bool} {held held' : Bool} {n : Nat} {t : TypeId} (hp : pureT P n t = true) {v : Value} {d : DataW H} {p : List MemPlace}
    (h : DataW.Trod enc P w base sp held t v d p) : DataW.Trod enc P w' base' sp' held' t v d p := by
  obtain ⟨f, hf⟩ := h
  exact ⟨f, by rw [← trod_pure n t hp (w := w) (base := base) (sp := sp) (held := held)]; exact hf⟩

theorem trod_pure_nil {H : Type} {enc : TypeId × Value → H} {P : Program} {w : World} {base : Nat} {sp : Nat → Bool} {held : Bool} : ∀ (n : Nat) (t : TypeId), pureT P n t = true → ∀ (f : Nat) (cs : List Value) (x : DataW H × List MemPlace),
    DataW.trod enc P w base sp held f t cs = some x → x.2 = []
  | 0, t, h, f, cs, x, _ => by cases h
  | n + 1, t, h, 0, cs, x, hx => by simp [DataW.trod] at hx
  | n + 1, t, h, f + 1, cs, x, hx => by
    simp only [pureT] at h
    split at h
    · rename_i k hu
      cases cs with
      | nil => simp [DataW.trod, hu] at hx
      | cons c r => cases r <;> cases c <;> simp [DataW.trod, hu] at hx <;> (obtain ⟨_, rfl⟩ := hx; rfl)
    · rename_i hu
      cases cs with
      | nil => simp [DataW.trod, hu] at hx
      | cons c r => cases r <;> cases c <;> simp [DataW.trod, hu] at hx <;> (obtain ⟨_, rfl⟩ := hx; rfl)
    · rename_i fs hu
      obtain ⟨xs, m, _, e, _, hlen, hall⟩ := DataW.trod_struct hu hx
      subst e
      simp only [List.flatMap_eq_nil_iff]
      intro y hy
      obtain ⟨i, hi⟩ := List.getElem?_of_mem hy
      have hlt := (List.getElem?_eq_some_iff.1 hi).1
      have h2 : i < fs.size := by have : xs.length = fs.size := by simpa using hlen
                                  omega
      have := hall i (fs[i]'h2) (by simp)
      rw [hi] at this
      exact trod_pure_nil n _ (List.all_eq_true.1 h _ (by simp)) m _ y this
    · cases h

theorem Trod_pure_nil {H : Type} {enc : TypeId × Value → H} {P : Program} {w : World} {base : Nat} {sp : Nat → Bool} {held : Bool} {n : Nat} {t : TypeId} (hp : pureT P n t = true) {v : Value} {d : DataW H} {p : List MemPlace}
    (h : DataW.Trod enc P w base sp held t v d p) : p = [] := by
  obtain ⟨f, hf⟩ := h
  exact trod_pure_nil n t hp f _ _ hf

theorem trod_int_wf {H : Type} {enc : TypeId × Value → H} {P : Program} {w : World} {base : Nat} {sp : Nat → Bool} {held : Bool} {fuel : Nat} {t : TypeId} {k : IntKind} {cs : List Value} {x : DataW H × List MemPlace} (ht : P.underlying t = some (.int k))
    (h : DataW.trod enc P w base sp held fuel t cs = some x) : ∃ n, cs = [.int k n] ∧ (Lit.int k n).wf = true := by
  cases fuel with
  | zero => simp [DataW.trod] at h
  | succ f =>
    cases cs with
    | nil => simp [DataW.trod, ht] at h
    | cons c r =>
      cases r with
      | cons _ _ => cases c <;> simp [DataW.trod, ht] at h
      | nil =>
        cases c <;> simp [DataW.trod, ht] at h
        rename_i k' n
        obtain ⟨⟨rfl, h2⟩, _⟩ := h
        exact ⟨n, rfl, h2⟩

theorem trod_string_form {H : Type} {enc : TypeId × Value → H} {P : Program} {w : World} {base : Nat} {sp : Nat → Bool} {held : Bool} {fuel : Nat} {t : TypeId} {cs : List Value} {x : DataW H × List MemPlace} (ht : P.underlying t = some .string)
    (h : DataW.trod enc P w base sp held fuel t cs = some x) : ∃ s, cs = [.string s] := by
  cases fuel with
  | zero => simp [DataW.trod] at h
  | succ f =>
    cases cs with
    | nil => simp [DataW.trod, ht] at h
    | cons c r =>
      cases r with
      | cons _ _ => cases c <;> simp [DataW.trod, ht] at h
      | nil =>
        cases c <;> simp [DataW.trod, ht] at h
        exact ⟨_, rfl⟩

theorem array6 {α : Type} {cs : Array α} (h : cs.size = 6) : ∃ c0 c1 c2 c3 c4 c5, cs = #[c0, c1, c2, c3, c4, c5] := by
  obtain ⟨l⟩ := cs
  match l, h with
  | [c0, c1, c2, c3, c4, c5], _ => exact ⟨c0, c1, c2, c3, c4, c5, rfl⟩

/-- A struct of five numbers and a string. -/
theorem open_ins {H : Type} {enc : TypeId × Value → H} {P : Program} {w : World} {base : Nat} {sp : Nat → Bool} {held : Bool} {r : Reach} {b0 : Nat} {t ti ts : TypeId} {fs : Array Field} {v : Value} {d : DataW H} {p : List MemPlace} (hs : P.underlying t = some (.struct fs)) (hC : P.cellsOf t = 6)
    (hi : P.underlying ti = some (.int .i64)) (hst : P.underlying ts = some .string) (ci : P.cellsOf ti = 1) (cst : P.cellsOf ts = 1)
    (hf : ∀ j : Nat, j < 5 → ∃ f, fs[j]? = some f ∧ f.type = ti ∧ f.offset = j) (hg : ∃ f, fs[5]? = some f ∧ f.type = ts ∧ f.offset = 5)
    (hv : Value.okWide P w r b0 t v) (h : DataW.Trod enc P w base sp held t v d p) :
    ∃ (a0 a1 a2 a3 a4 : Int) (s : ByteArray), v = .agg #[.int .i64 a0, .int .i64 a1, .int .i64 a2, .int .i64 a3, .int .i64 a4, .string s] ∧
      (Lit.int .i64 a0).wf = true ∧ (Lit.int .i64 a1).wf = true ∧ (Lit.int .i64 a2).wf = true ∧ (Lit.int .i64 a3).wf = true ∧ (Lit.int .i64 a4).wf = true := by
  obtain ⟨cs, rfl, hsz⟩ := okWide_struct hs hv
  obtain ⟨c0, c1, c2, c3, c4, c5, rfl⟩ := array6 (hsz.trans hC)
  obtain ⟨fuel, hfu⟩ := h
  obtain ⟨xs, n, _, _, _, hlen, hall⟩ := DataW.trod_struct hs hfu
  have get : ∀ (j : Nat) (f : Field), fs[j]? = some f → ∃ x, xs[j]? = some x := by
    intro j f hj
    have h1 : j < fs.size := (Array.getElem?_eq_some_iff.1 hj).1
    have h2 : xs.length = fs.size := by simpa using hlen
    exact ⟨xs[j]'(by omega), by simp⟩
  have int : ∀ j : Nat, j < 5 → ∀ c, (([c0, c1, c2, c3, c4, c5] : List Value).drop j).take 1 = [c] → ∃ a, c = .int .i64 a ∧ (Lit.int .i64 a).wf = true := by
    intro j hj c hc
    obtain ⟨f, e1, e2, e3⟩ := hf j hj
    obtain ⟨x, hx⟩ := get j f e1
    have := hall j f (by simpa using e1)
    rw [hx, e2, e3, ci] at this
    have h3 : DataW.trod enc P w base sp held n ti [c] = some x := by rw [← hc]; exact this
    obtain ⟨a, h4, h5⟩ := trod_int_wf hi h3
    simp only [List.cons.injEq, and_true] at h4
    exact ⟨a, h4, h5⟩
  obtain ⟨a0, rfl, w0⟩ := int 0 (by decide) c0 rfl
  obtain ⟨a1, rfl, w1⟩ := int 1 (by decide) c1 rfl
  obtain ⟨a2, rfl, w2⟩ := int 2 (by decide) c2 rfl
  obtain ⟨a3, rfl, w3⟩ := int 3 (by decide) c3 rfl
  obtain ⟨a4, rfl, w4⟩ := int 4 (by decide) c4 rfl
  obtain ⟨f, e1, e2, e3⟩ := hg
  obtain ⟨x, hx⟩ := get 5 f e1
  have := hall 5 f (by simpa using e1)
  rw [hx, e2, e3, cst] at this
  have h3 : DataW.trod enc P w base sp held n ts [c5] = some x := this
  obtain ⟨s, h4⟩ := trod_string_form hst h3
  simp only [List.cons.injEq, and_true] at h4
  subst h4
  exact ⟨a0, a1, a2, a3, a4, s, rfl, w0, w1, w2, w3, w4⟩
end Go.Xq
