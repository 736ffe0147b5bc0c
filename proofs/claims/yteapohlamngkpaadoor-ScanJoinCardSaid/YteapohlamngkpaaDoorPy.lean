/-
  Values of a program as plain data: shapes of parameters.
-/
import Derived.Test.YteapohlamngkpaaDoorPx
namespace Go.Pv
open Go.RowKit
set_option linter.unusedVariables false

def I64 (x : Int) : Prop := -9223372036854775808 ≤ x ∧ x ≤ 9223372036854775807
def intP (x : Int) : List PV := [.int .i64 x]
def pairP (p : Int × Int) : List PV := [.int .i64 p.1, .int .i64 p.2]
def strP (t : List UInt8) : List PV := [.str t]

def pickI (c n : Int) : Int := (if c < 0 then -(c + 1) else c) % n
theorem pickI_ge (c : Int) {n : Int} (h : 0 < n) : 0 ≤ pickI c n := Int.emod_nonneg _ (by omega)
theorem pickI_lt (c : Int) {n : Int} (h : 0 < n) : pickI c n < n := Int.emod_lt_of_pos _ h

theorem maxLen_eq : maxLen = 9223372036854775807 := by decide

theorem i64_wf {i : Int} (h : (Lit.int .i64 i).wf = true) : I64 i := bounds_i64 h

theorem list_of {α : Type} {f : α → List PV} {Q : α → Prop} : ∀ {es : List (List PV)}, (∀ c ∈ es, ∃ a, c = f a ∧ Q a) → ∃ l : List α, es = l.map f ∧ ∀ a ∈ l, Q a
  | [], _ => ⟨[], rfl, fun a h => (by cases h)⟩
  | c :: es, h => by
    obtain ⟨a, h1, h2⟩ := h c List.mem_cons_self
    obtain ⟨l, h3, h4⟩ := list_of (f := f) (Q := Q) (es := es) fun c hc => h c (List.mem_cons_of_mem _ hc)
    refine ⟨a :: l, by rw [h1, h3]; rfl, fun b hb => ?_⟩
    rcases List.mem_cons.1 hb with rfl | hb
    · exact h2
    · exact h4 b hb

section
variable {P : Program} {n : Nat} {t : TypeId}
theorem pty_int {k : IntKind} {cs : List PV} (ht : P.underlying t = some (.int k)) (h : PTy P (n + 1) t cs) : ∃ i, cs = [.int k i] ∧ (Lit.int k i).wf = true := by simpa only [PTy, ht] using h
theorem pty_str {cs : List PV} (ht : P.underlying t = some .string) (h : PTy P (n + 1) t cs) : ∃ s, cs = [.str s] ∧ s.length ≤ maxLen := by simpa only [PTy, ht] using h
theorem pty_slice {e : TypeId} {cs : List PV} (ht : P.underlying t = some (.slice e)) (h : PTy P (n + 1) t cs) : ∃ es, cs = [.lst (P.cellsOf e) es none] ∧ es.length ≤ maxLen ∧ ∀ c ∈ es, PTy P n e c := by simpa only [PTy, ht] using h

theorem parg_one {u : PV} (h : PArg P n t u) (hs : ∀ fs, P.underlying t ≠ some (.struct fs)) (ha : ∀ k e, P.underlying t ≠ some (.array k e)) : PTy P n t [u] := by
  unfold PArg at h
  split at h
  · rename_i fs hu; exact absurd hu (hs fs)
  · rename_i k e hu; exact absurd hu (ha k e)
  · exact h

theorem arg_int {u : PV} (ht : P.underlying t = some (.int .i64)) (h : PArg P (n + 1) t u) : ∃ i, u = .int .i64 i ∧ I64 i := by
  obtain ⟨i, h1, h2⟩ := pty_int ht (parg_one h (fun fs e => by rw [ht] at e; cases e) (fun k e' e => by rw [ht] at e; cases e))
  simp only [List.cons.injEq, and_true] at h1
  exact ⟨i, h1, i64_wf h2⟩
theorem arg_bool {u : PV} (ht : P.underlying t = some .bool) (h : PArg P (n + 1) t u) : ∃ b, u = .bool b := by
  have := parg_one h (fun fs e => by rw [ht] at e; cases e) (fun k e' e => by rw [ht] at e; cases e)
  simp only [PTy, ht, List.cons.injEq, and_true] at this
  exact this
theorem arg_str {u : PV} (ht : P.underlying t = some .string) (h : PArg P (n + 1) t u) : ∃ s, u = .str s ∧ s.length ≤ 9223372036854775807 := by
  obtain ⟨i, h1, h2⟩ := pty_str ht (parg_one h (fun fs e => by rw [ht] at e; cases e) (fun k e' e => by rw [ht] at e; cases e))
  simp only [List.cons.injEq, and_true] at h1
  rw [maxLen_eq] at h2
  exact ⟨i, h1, h2⟩
theorem arg_slice {e : TypeId} {u : PV} {α : Type} {f : α → List PV} {Q : α → Prop} (ht : P.underlying t = some (.slice e)) (hf : ∀ c, PTy P n e c → ∃ a, c = f a ∧ Q a) (h : PArg P (n + 1) t u) : ∃ l : List α, u = .lst (P.cellsOf e) (l.map f) none ∧ (∀ a ∈ l, Q a) ∧ l.length ≤ 9223372036854775807 := by
  obtain ⟨es, h1, h2, h3⟩ := pty_slice ht (parg_one h (fun fs e => by rw [ht] at e; cases e) (fun k e' e => by rw [ht] at e; cases e))
  simp only [List.cons.injEq, and_true] at h1
  obtain ⟨l, h4, h5⟩ := list_of (f := f) (Q := Q) fun c hc => hf c (h3 c hc)
  subst h4
  refine ⟨l, h1, h5, ?_⟩
  rw [List.length_map, maxLen_eq] at h2; exact h2
theorem arg_ints {e : TypeId} {u : PV} (ht : P.underlying t = some (.slice e)) (he : P.underlying e = some (.int .i64)) (hc : P.cellsOf e = 1) (h : PArg P (n + 2) t u) : ∃ l : List Int, u = .lst 1 (l.map intP) none ∧ (∀ a ∈ l, I64 a) ∧ l.length ≤ 9223372036854775807 := by
  have := arg_slice (f := intP) (Q := I64) ht (fun c hc => by obtain ⟨i, h1, h2⟩ := pty_int he hc; exact ⟨i, h1, i64_wf h2⟩) h
  rwa [hc] at this
theorem pty_pair {e : TypeId} {cs : List PV} (ht : P.underlying t = some (.array 2 e)) (he : P.underlying e = some (.int .i64)) (h : PTy P (n + 2) t cs) : ∃ p : Int × Int, cs = pairP p ∧ (I64 p.1 ∧ I64 p.2) := by
  rw [PTy, ht] at h
  simp only [PAr] at h
  obtain ⟨a, b, rfl, h1, c, d, rfl, h2, rfl⟩ := h
  obtain ⟨i, rfl, w1⟩ := pty_int he h1
  obtain ⟨j, rfl, w2⟩ := pty_int he h2
  exact ⟨(i, j), rfl, i64_wf w1, i64_wf w2⟩
theorem arg_pairs {e e2 : TypeId} {u : PV} (ht : P.underlying t = some (.slice e)) (he : P.underlying e = some (.array 2 e2)) (he2 : P.underlying e2 = some (.int .i64)) (hc : P.cellsOf e = 2) (h : PArg P (n + 3) t u) : ∃ l : List (Int × Int), u = .lst 2 (l.map pairP) none ∧ (∀ p ∈ l, I64 p.1 ∧ I64 p.2) ∧ l.length ≤ 9223372036854775807 := by
  have := arg_slice (f := pairP) (Q := fun p : Int × Int => I64 p.1 ∧ I64 p.2) ht (fun c hc => pty_pair he he2 hc) h
  rwa [hc] at this
end
end Go.Pv
