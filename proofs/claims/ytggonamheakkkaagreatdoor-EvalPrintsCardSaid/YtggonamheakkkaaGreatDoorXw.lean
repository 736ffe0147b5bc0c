/-
  A run of closed code by the kernel: parameters that are plain structs of numbers and strings.
-/
import Derived.Test.YtggonamheakkkaaGreatDoorXv
import Derived.Lib.SmallJoins
import Derived.ChangeSlices
import Derived.Below
namespace Go.Xq
open Go.RowKit Go.ChangeShapes Go.WideShapes
set_option linter.unusedVariables false

/-- A type of numbers and strings alone. -/
noncomputable def pureT (P : Program) : Nat → TypeId → Bool
  | 0, _ => false
  | n + 1, t => match P.underlying t with
    | some (.int _) => true
    | some .string => true
    | some (.struct fs) => fs.toList.all fun f => pureT P n f.type
    | _ => false

theorem mapM_congr' {α β : Type} {f g : α → Option β} : ∀ {l : List α}, (∀ x ∈ l, f x = g x) → l.mapM f = l.mapM g
  | [], _ => rfl
  | a :: l, h => by
    simp only [List.mapM_cons]
    rw [h a List.mem_cons_self, mapM_congr' (fun x hx => h x (List.mem_cons_of_mem _ hx))]

theorem trod_pure {H : Type} {enc : TypeId × Value → H} {P : Program} {w w' : World} {base base' : Nat} {sp sp' : Nat → Bool} {held held' : Bool} : ∀ (n : Nat) (t : TypeId), pureT P n t = true → ∀ (f : Nat) (cs : List Value),
    DataW.trod enc P w base sp held f t cs = DataW.trod enc P w' base' sp' held' f t cs
  | 0, t, h, f, cs => by cases h
  | n + 1, t, h, 0, cs => by simp [DataW.trod]
  | n + 1, t, h, f + 1, cs => by
    simp only [pureT] at h
    split at h
    · rename_i k hu
      cases cs with
      | nil => simp [DataW.trod, hu]
      | cons c r => cases r <;> cases c <;> simp [DataW.trod, hu]
    · rename_i hu
      cases cs with
      | nil => simp [DataW.trod, hu]
      | cons c r => cases r <;> cases c <;> simp [DataW.trod, hu]
    · rename_i fs hu
      have hm : (fs.toList.mapM fun x => DataW.trod enc P w base sp held f x.type ((cs.drop x.offset).take (P.cellsOf x.type))) = fs.toList.mapM fun x => DataW.trod enc P w' base' sp' held' f x.type ((cs.drop x.offset).take (P.cellsOf x.type)) :=
        mapM_congr' fun x hx => trod_pure n x.type (List.all_eq_true.1 h x hx) f _
      have key : ∀ {w : World} {base : Nat} {sp : Nat → Bool} {held : Bool}, DataW.trod enc P w base sp held (f + 1) t cs = if cs.length = P.cellsOf t then (fs.toList.mapM fun x => DataW.trod enc P w base sp held f x.type ((cs.drop x.offset).take (P.cellsOf x.type))).map fun xs => (.agg (xs.map (·.1)), xs.flatMap (·.2)) else none := by
        intro w base sp held
        rw [DataW.trod]
        rw [hu]
      rw [key, key, hm]
    · cases h

/-- What is read of plain data is read so anywhere. -/
theorem Trod_pure {H : Type} {enc : TypeId × Value → H} {P : Program} {w w' : World} {base base' : Nat} {sp sp' : Nat → Bool} {held held' : Bool} {n : Nat} {t : TypeId} (hp : pureT P n t = true) {v : Value} {d : DataW H} {p : List MemPlace}
    (h : DataW.Trod enc P w base sp held t v d p) : DataW.Trod enc P w' base' sp' held' t v d p := by
  obtain ⟨f, hf⟩ := h
  exact ⟨f, by rw [← trod_pure n t hp (w := w) (base := base) (sp := sp) (held := held)]; exact hf⟩

theorem trod_pure_nil {H : Type} {enc : TypeId × Value → H} {P : Program} {w : World} {base : Nat} {sp : Nat → Bool} {held : Bool} : ∀ (n : Nat) (t : TypeId), pureT P n t = true → ∀ (f : Nat) (cs : List Value) (x : DataW H × List MemPlace),
    DataW.trod enc P w base sp held f t cs = some x → x.2 = []
  | 0, t, h, f, cs, x, _ => by cases h
  | n + 1, t, h, 0, cs, x, hx => by simp [DataW.trod] at hx
  | n + 1, t, h, f + 1, cs, x, hx => by
    simp only [pureT] at h
    split at h
    · rename_i k hu
      cases cs with
      | nil => simp [DataW.trod, hu] at hx
      | cons c r => cases r <;> cases c <;> simp [DataW.trod, hu] at hx <;> (obtain ⟨_, rfl⟩ := hx; rfl)
    · rename_i hu
      cases cs with
      | nil => simp [DataW.trod, hu] at hx
      | cons c r => cases r <;> cases c <;> simp [DataW.trod, hu] at hx <;> (obtain ⟨_, rfl⟩ := hx; rfl)
    · rename_i fs hu
      obtain ⟨xs, m, _, e, _, hlen, hall⟩ := DataW.trod_struct hu hx
      subst e
      simp only [List.flatMap_eq_nil_iff]
      intro y hy
      obtain ⟨i, hi⟩ := List.getElem?_of_mem hy
      have hlt := (List.getElem?_eq_some_iff.1 hi).1
      have h2 : i < fs.size := by have : xs.length = fs.size := by simpa using hlen
                                  omega
      have := hall i (fs[i]'h2) (by simp)
      rw [hi] at this
      exact trod_pure_nil n _ (List.all_eq_true.1 h _ (by simp)) m _ y this
    · cases h

theorem Trod_pure_nil {H : Type} {enc : TypeId × Value → H} {P : Program} {w : World} {base : Nat} {sp : Nat → Bool} {held : Bool} {n : Nat} {t : TypeId} (hp : pureT P n t = true) {v : Value} {d : DataW H} {p : List MemPlace}
    (h : DataW.Trod enc P w base sp held t v d p) : p = [] := by
  obtain ⟨f, hf⟩ := h
  exact trod_pure_nil n t hp f _ _ hf

theorem trod_int_wf {H : Type} {enc : TypeId × Value → H} {P : Program} {w : World} {base : Nat} {sp : Nat → Bool} {held : Bool} {fuel : Nat} {t : TypeId} {k : IntKind} {cs : List Value} {x : DataW H × List MemPlace} (ht : P.underlying t = some (.int k))
    (h : DataW.trod enc P w base sp held fuel t cs = some x) : ∃ n, cs = [.int k n] ∧ (Lit.int k n).wf = true := by
  cases fuel with
  | zero => simp [DataW.trod] at h
  | succ f =>
    cases cs with
    | nil => simp [DataW.trod, ht] at h
    | cons c r =>
      cases r with
      | cons _ _ => cases c <;> simp [DataW.trod, ht] at h
      | nil =>
        cases c <;> simp [DataW.trod, ht] at h
        rename_i k' n
        obtain ⟨⟨rfl, h2⟩, _⟩ := h
        exact ⟨n, rfl, h2⟩

theorem trod_string_form {H : Type} {enc : TypeId × Value → H} {P : Program} {w : World} {base : Nat} {sp : Nat → Bool} {held : Bool} {fuel : Nat} {t : TypeId} {cs : List Value} {x : DataW H × List MemPlace} (ht : P.underlying t = some .string)
    (h : DataW.trod enc P w base sp held fuel t cs = some x) : ∃ s, cs = [.string s] := by
  cases fuel with
  | zero => simp [DataW.trod] at h
  | succ f =>
    cases cs with
    | nil => simp [DataW.trod, ht] at h
    | cons c r =>
      cases r with
      | cons _ _ => cases c <;> simp [DataW.trod, ht] at h
      | nil =>
        cases c <;> simp [DataW.trod, ht] at h
        exact ⟨_, rfl⟩

theorem array6 {α : Type} {cs : Array α} (h : cs.size = 6) : ∃ c0 c1 c2 c3 c4 c5, cs = #[c0, c1, c2, c3, c4, c5] := by
  obtain ⟨l⟩ := cs
  match l, h with
  | [c0, c1, c2, c3, c4, c5], _ => exact ⟨c0, c1, c2, c3, c4, c5, rfl⟩

/-- A struct of five numbers and a string. -/
theorem open_ins {H : Type} {enc : TypeId × Value → H} {P : Program} {w : World} {base : Nat} {sp : Nat → Bool} {held : Bool} {r : Reach} {b0 : Nat} {t ti ts : TypeId} {fs : Array Field} {v : Value} {d : DataW H} {p : List MemPlace} (hs : P.underlying t = some (.struct fs)) (hC : P.cellsOf t = 6)
    (hi : P.underlying ti = some (.int .i64)) (hst : P.underlying ts = some .string) (ci : P.cellsOf ti = 1) (cst : P.cellsOf ts = 1)
    (hf : ∀ j : Nat, j < 5 → ∃ f, fs[j]? = some f ∧ f.type = ti ∧ f.offset = j) (hg : ∃ f, fs[5]? = some f ∧ f.type = ts ∧ f.offset = 5)
    (hv : Value.okWide P w r b0 t v) (h : DataW.Trod enc P w base sp held t v d p) :
    ∃ (a0 a1 a2 a3 a4 : Int) (s : ByteArray), v = .agg #[.int .i64 a0, .int .i64 a1, .int .i64 a2, .int .i64 a3, .int .i64 a4, .string s] ∧
      (Lit.int .i64 a0).wf = true ∧ (Lit.int .i64 a1).wf = true ∧ (Lit.int .i64 a2).wf = true ∧ (Lit.int .i64 a3).wf = true ∧ (Lit.int .i64 a4).wf = true := by
  obtain ⟨cs, rfl, hsz⟩ := okWide_struct hs hv
  obtain ⟨c0, c1, c2, c3, c4, c5, rfl⟩ := array6 (hsz.trans hC)
  obtain ⟨fuel, hfu⟩ := h
  obtain ⟨xs, n, _, _, _, hlen, hall⟩ := DataW.trod_struct hs hfu
  have get : ∀ (j : Nat) (f : Field), fs[j]? = some f → ∃ x, xs[j]? = some x := by
    intro j f hj
    have h1 : j < fs.size := (Array.getElem?_eq_some_iff.1 hj).1
    have h2 : xs.length = fs.size := by simpa using hlen
    exact ⟨xs[j]'(by omega), by simp⟩
  have int : ∀ j : Nat, j < 5 → ∀ c, (([c0, c1, c2, c3, c4, c5] : List Value).drop j).take 1 = [c] → ∃ a, c = .int .i64 a ∧ (Lit.int .i64 a).wf = true := by
    intro j hj c hc
    obtain ⟨f, e1, e2, e3⟩ := hf j hj
    obtain ⟨x, hx⟩ := get j f e1
    have := hall j f (by simpa using e1)
    rw [hx, e2, e3, ci] at this
    have h3 : DataW.trod enc P w base sp held n ti [c] = some x := by rw [← hc]; exact this
    obtain ⟨a, h4, h5⟩ := trod_int_wf hi h3
    simp only [List.cons.injEq, and_true] at h4
    exact ⟨a, h4, h5⟩
  obtain ⟨a0, rfl, w0⟩ := int 0 (by decide) c0 rfl
  obtain ⟨a1, rfl, w1⟩ := int 1 (by decide) c1 rfl
  obtain ⟨a2, rfl, w2⟩ := int 2 (by decide) c2 rfl
  obtain ⟨a3, rfl, w3⟩ := int 3 (by decide) c3 rfl
  obtain ⟨a4, rfl, w4⟩ := int 4 (by decide) c4 rfl
  obtain ⟨f, e1, e2, e3⟩ := hg
  obtain ⟨x, hx⟩ := get 5 f e1
  have := hall 5 f (by simpa using e1)
  rw [hx, e2, e3, cst] at this
  have h3 : DataW.trod enc P w base sp held n ts [c5] = some x := this
  obtain ⟨s, h4⟩ := trod_string_form hst h3
  simp only [List.cons.injEq, and_true] at h4
  subst h4
  exact ⟨a0, a1, a2, a3, a4, s, rfl, w0, w1, w2, w3, w4⟩

/-! ### A slice of numbers -/
theorem okWide_slice {P : Program} {w : World} {r : Reach} {b0 : Nat} {t e : TypeId} {v : Value} (ht : P.underlying t = some (.slice e)) (hv : Value.okWide P w r b0 t v) :
    v = .slice none 0 0 ∨ ∃ b o len cap row cells, v = .slice (some ⟨b, o, none⟩) len cap ∧ w.shape? b = some (row, cells) := by
  have h : Cell.okWide P w r b0 t v := by simpa only [Value.okWide, ht] using hv
  have h2 : Cell.ok P w r b0 t v := by
    unfold Cell.okWide at h
    rw [ht] at h
    split at h <;> first
      | exact h
      | (rename_i hh; simp at hh; done)
      | (rename_i hh _; simp at hh; done)
      | (rename_i hh _ _; simp at hh; done)
      | simp_all
  unfold Cell.ok at h2
  rw [ht] at h2
  cases v with
  | slice a len cap =>
    cases a with
    | none =>
      cases len with
      | zero =>
        cases cap with
        | zero => exact Or.inl rfl
        | succ c => simp at h2
      | succ l => simp at h2
    | some a =>
      right
      simp only at h2
      obtain ⟨_, _, _, hs, row, cells, h4, _⟩ := h2
      obtain ⟨b, o, s⟩ := a
      simp only at hs h4
      subst hs
      exact ⟨b, o, len, cap, row, cells, rfl, h4⟩
  | _ => simp at h2

/-- A parameter that is a slice of numbers: nil, or what its cells hold; and how it is read when all that lay stays. -/
theorem open_ints_arg {H : Type} {enc : TypeId × Value → H} {P : Program} {w : World} {r : Reach} {b0 : Nat} {t e : TypeId} {v : Value} {d : DataW H} {p : List MemPlace} (ht : P.underlying t = some (.slice e)) (he : P.underlying e = some (.int .i64)) (hc : P.cellsOf e = 1)
    (hv : Value.okWide P w r b0 t v) (h : DataW.Trod enc P w 0 (fun _ => true) true t v d p) :
    (v = .slice none 0 0 ∨ ∃ bb o len cap cs et fz, ∃ zs : Nat → Int, v = .slice (some ⟨bb, o, none⟩) len cap ∧ w.heap[bb]? = some (.cells cs et fz) ∧ (∀ k, k < len → cs[o + k]? = some (.int .i64 (zs k))) ∧ ∀ k, -9223372036854775808 ≤ zs k ∧ zs k ≤ 9223372036854775807) ∧
    ∀ w' : World, Below w.heap.size w w' → ∃ p', DataW.Trod enc P w' 0 (fun b => decide (b < w.heap.size)) true t v d p' := by
  obtain ⟨f, hf⟩ := h
  rcases okWide_slice ht hv with rfl | ⟨bb, o, len, cap, row, cells, rfl, hsh⟩
  · refine ⟨Or.inl rfl, fun w' _ => ⟨[], 1, ?_⟩⟩
    rcases open_ints ht he hc hf with ⟨_, hx⟩ | ⟨a, l, c, zs, hcs, _⟩
    · cases hx
      simp [DataW.trod, Value.cells, ht]
    · simp [Value.cells] at hcs
  · rcases open_ints ht he hc hf with ⟨hcs, _⟩ | ⟨a, l, c, zs, hcs, h1, h2, h3, h4, hx, h6, h7⟩
    · simp [Value.cells] at hcs
    · simp only [Value.cells, List.cons.injEq, Value.slice.injEq, Option.some.injEq, and_true] at hcs
      obtain ⟨rfl, rfl, rfl⟩ := hcs
      simp only [if_true] at h4
      have hlt : bb < w.heap.size := by
        unfold World.shape? at hsh
        split at hsh
        · rename_i hh; exact (Array.getElem?_eq_some_iff.1 hh).1
        · cases hsh
      obtain ⟨cs, et, fz, hheap⟩ : ∃ cs et fz, w.heap[bb]? = some (.cells cs et fz) := by
        unfold World.shape? at hsh
        split at hsh
        · rename_i hh; exact ⟨_, _, _, hh⟩
        · cases hsh
      refine ⟨Or.inr ⟨bb, o, len, cap, cs, et, fz, fun k => zs.getD k 0, rfl, hheap, fun k hk => ?_, fun k => ?_⟩, fun w' hw => ⟨MemPlace.row ⟨bb, o, none⟩ zs.length, 2, ?_⟩⟩
      · have := h6 k (by omega)
        have hadd : (⟨bb, o, none⟩ : Addr).add k = ⟨bb, o + k, none⟩ := by unfold Addr.add; split <;> simp_all
        rw [hadd] at this
        simpa [World.cell?, hheap] using this
      · rcases Nat.lt_or_ge k zs.length with hk | hk
        · have hm : zs.getD k 0 ∈ zs := by
            have : zs.getD k 0 = zs[k] := by simp [List.getD, hk]
            rw [this]; exact List.getElem_mem hk
          have := h7 _ hm
          simpa [Lit.wf, IntKind.min, IntKind.max, IntKind.signed, IntKind.bits] using this
        · have : zs.getD k 0 = 0 := by simp [List.getD, List.getElem?_eq_none hk]
          show -9223372036854775808 ≤ zs.getD k 0 ∧ zs.getD k 0 ≤ 9223372036854775807
          rw [this]; decide
      · cases hx
        refine shut_ints 0 ht he hc h1 h2 h3 (by simp [hlt, h4]) (fun i hi => ?_) h7
        have := h6 i hi
        have hb : ((⟨bb, o, none⟩ : Addr).add i).block = bb := by unfold Addr.add; split <;> rfl
        unfold World.cell? at this ⊢
        rw [hb] at this ⊢
        rw [hw.block bb hlt]
        exact this
end Go.Xq
