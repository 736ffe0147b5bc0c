/-
  A run of closed code by the kernel: package-level variables that are only read.
-/
import Derived.Test.YtggonamheakkkaaGreatDoorXr
import Derived.OpenShut
import Derived.MakeChecks
import GoSem.ClaimJoined
namespace Go.Xq
open Go.RowKit
set_option linter.unusedVariables false

/-! ### Plain data, cell by cell -/
noncomputable def layF (C : Cx) (lay : TypeId → DataW Unit → Option (List SV)) : List Field → List (DataW Unit) → Nat → Option (List SV)
  | [], [], _ => some []
  | f :: fs, d :: ds, a => match Nat.beq f.offset a with
    | false => none
    | true => match C.tt.get f.type with
      | none => none
      | some i => match lay f.type d with
        | none => none
        | some l => match Nat.beq l.length i.info.size with
          | false => none
          | true => match layF C lay fs ds (Nat.add a i.info.size) with
            | none => none
            | some r => some (l ++ r)
  | _, _, _ => none

noncomputable def layA (lay : DataW Unit → Option (List SV)) (sz : Nat) : List (DataW Unit) → Option (List SV)
  | [] => some []
  | d :: ds => match lay d with
    | none => none
    | some l => match Nat.beq l.length sz with
      | false => none
      | true => match layA lay sz ds with
        | none => none
        | some r => some (l ++ r)

noncomputable def layX (C : Cx) : Nat → TypeId → DataW Unit → Option (List SV)
  | 0, _, _ => none
  | f + 1, t, d => match C.tt.get t with
    | none => none
    | some i => match i.desc with
      | .int _ => match d with
        | .lit (.int k n) => some [.int k (.lit n)]
        | _ => none
      | .string => match d with
        | .lit (.string s) => some [.str s]
        | _ => none
      | .struct fs => match d with
        | .agg ds => match layF C (layX C f) fs.toList ds 0 with
          | none => none
          | some l => match Nat.beq l.length i.info.size with
            | true => some l
            | false => none
        | _ => none
      | .array _ e => match d with
        | .agg ds => match C.tt.get e with
          | none => none
          | some ei => match layA (layX C f e) ei.info.size ds with
            | none => none
            | some l => match Nat.beq l.length i.info.size with
              | true => some l
              | false => none
        | _ => none
      | _ => none

section
variable {P : Program} {C : Cx} (hC : C.Ok P)

theorem trod_int_at {t : TypeId} {k : IntKind} {w : World} {base : Nat} {sp : Nat → Bool} {held : Bool} {fuel : Nat} {cs : List Value} {d : DataW Unit} {m : List MemPlace} {enc : TypeId × Value → Unit} (ht : P.underlying t = some (.int k))
    (h : DataW.trod enc P w base sp held fuel t cs = some (d, m)) : ∃ n, cs = [.int k n] ∧ d = .lit (.int k n) := by
  cases fuel with
  | zero => simp [DataW.trod] at h
  | succ f =>
    unfold DataW.trod at h
    rw [ht] at h
    split at h <;> simp_all

theorem trod_string_at {t : TypeId} {w : World} {base : Nat} {sp : Nat → Bool} {held : Bool} {fuel : Nat} {cs : List Value} {d : DataW Unit} {m : List MemPlace} {enc : TypeId × Value → Unit} (ht : P.underlying t = some .string)
    (h : DataW.trod enc P w base sp held fuel t cs = some (d, m)) : ∃ s, cs = [.string s] ∧ d = .lit (.string s.data.toList) := by
  cases fuel with
  | zero => simp [DataW.trod] at h
  | succ f =>
    unfold DataW.trod at h
    rw [ht] at h
    split at h <;> simp_all

/-- What is read of a type, and laid out, is what the cells hold. -/
noncomputable def LayOk (P : Program) (w : World) (t : TypeId) (d : DataW Unit) (l : List SV) : Prop :=
  ∀ (E : Env) (base : Nat) (sp : Nat → Bool) (held : Bool) (enc : TypeId × Value → Unit) (fuel : Nat) (cs : List Value) (m : List MemPlace), DataW.trod enc P w base sp held fuel t cs = some (d, m) → denL E l = some cs

theorem denL_app {E : Env} : ∀ {a b : List SV} {x y : List Value}, denL E a = some x → denL E b = some y → denL E (a ++ b) = some (x ++ y)
  | [], b, x, y, h1, h2 => by rw [denL_nil h1]; exact h2
  | v :: a, b, x, y, h1, h2 => by
    obtain ⟨x', ys, e1, e2, rfl⟩ := denL_cons h1
    exact denL_mk e1 (denL_app e2 h2)

include hC in
theorem layF_ok {w : World} {lay : TypeId → DataW Unit → Option (List SV)} (hlay : ∀ t d l, lay t d = some l → LayOk P w t d l) {E : Env} {base : Nat} {sp : Nat → Bool} {held : Bool} {enc : TypeId × Value → Unit} {n : Nat} {cs : List Value} :
    ∀ {fs : List Field} {ds : List (DataW Unit)} {a : Nat} {l : List SV} {xs : List (DataW Unit × List MemPlace)}, layF C lay fs ds a = some l → xs.map (·.1) = ds →
      (∀ (i : Nat) (f : Field), fs[i]? = some f → DataW.trod enc P w base sp held n f.type ((cs.drop f.offset).take (P.cellsOf f.type)) = xs[i]?) → denL E l = some ((cs.drop a).take l.length)
  | [], [], a, l, xs, h, hx, ht => by
    simp only [layF, Option.some.injEq] at h
    subst h
    simp [denL]
  | f :: fs, d :: ds, a, l, xs, h, hx, ht => by
    simp only [layF] at h
    split at h
    · cases h
    rename_i ha
    have ha' := Nat.eq_of_beq_eq_true ha
    split at h
    · cases h
    rename_i i hi
    split at h
    · cases h
    rename_i l1 hl1
    split at h
    · cases h
    rename_i hlen
    have hlen' := Nat.eq_of_beq_eq_true hlen
    split at h
    · cases h
    rename_i r hr
    cases h
    cases xs with
    | nil => simp at hx
    | cons y ys =>
      simp only [List.map_cons, List.cons.injEq] at hx
      obtain ⟨rfl, rfl⟩ := hx
      have hcell : P.cellsOf f.type = i.info.size := by simp [Program.cellsOf, (hC.ty _ i hi).2]
      have h0 := ht 0 f rfl
      simp only [List.getElem?_cons_zero] at h0
      have d1 := hlay _ _ _ hl1 E base sp held enc n _ y.2 h0
      have ih := layF_ok hlay (E := E) hr rfl (fun j g hg => ht (j + 1) g (by simpa using hg))
      have := denL_app d1 ih
      rw [this, ha', hcell, ← hlen', List.length_append]
      congr 1
      rw [List.take_add, List.drop_drop]
      rfl
  | [], _ :: _, a, l, xs, h, _, _ => by simp [layF] at h
  | _ :: _, [], a, l, xs, h, _, _ => by simp [layF] at h

theorem layA_ok {w : World} {e : TypeId} {lay : DataW Unit → Option (List SV)} {sz : Nat} (hsz : P.cellsOf e = sz) (hlay : ∀ d l, lay d = some l → LayOk P w e d l) {E : Env} {base : Nat} {sp : Nat → Bool} {held : Bool} {enc : TypeId × Value → Unit} {n : Nat} {cs : List Value} :
    ∀ {ds : List (DataW Unit)} {a : Nat} {l : List SV} {xs : List (DataW Unit × List MemPlace)}, layA lay sz ds = some l → xs.map (·.1) = ds →
      (∀ i, i < xs.length → DataW.trod enc P w base sp held n e ((cs.drop ((a + i) * P.cellsOf e)).take (P.cellsOf e)) = xs[i]?) → denL E l = some ((cs.drop (a * sz)).take l.length)
  | [], a, l, xs, h, hx, ht => by
    simp only [layA, Option.some.injEq] at h
    subst h
    simp [denL]
  | d :: ds, a, l, xs, h, hx, ht => by
    simp only [layA] at h
    split at h
    · cases h
    rename_i l1 hl1
    split at h
    · cases h
    rename_i hlen
    have hlen' := Nat.eq_of_beq_eq_true hlen
    split at h
    · cases h
    rename_i r hr
    cases h
    cases xs with
    | nil => simp at hx
    | cons y ys =>
      simp only [List.map_cons, List.cons.injEq] at hx
      obtain ⟨rfl, rfl⟩ := hx
      have h0 := ht 0 (by simp)
      simp only [List.getElem?_cons_zero, Nat.add_zero] at h0
      have d1 := hlay _ _ hl1 E base sp held enc n _ y.2 h0
      have ih := layA_ok hsz hlay (E := E) (a := a + 1) hr rfl (fun i hi => by
        have := ht (i + 1) (by simp; omega)
        rw [show a + (i + 1) = a + 1 + i by omega] at this
        simpa using this)
      have := denL_app d1 ih
      rw [this, hsz, ← hlen', List.length_append]
      congr 1
      rw [Nat.add_mul, Nat.one_mul, List.take_add, List.drop_drop]

include hC in
theorem layX_ok {w : World} : ∀ (f : Nat) (t : TypeId) (d : DataW Unit) (l : List SV), layX C f t d = some l → LayOk P w t d l
  | 0, t, d, l, h => by simp [layX] at h
  | f + 1, t, d, l, h => by
    intro E base sp held enc fuel cs m ht
    simp only [layX] at h
    split at h
    · cases h
    rename_i i hi
    obtain ⟨hd, hin⟩ := hC.ty t i hi
    have hcell : P.cellsOf t = i.info.size := by simp [Program.cellsOf, hin]
    split at h
    · rename_i k hk
      rw [hk] at hd
      split at h
      case h_2 => cases h
      rename_i k' n
      obtain ⟨n', rfl, e⟩ := trod_int_at hd ht
      cases e; cases h
      rfl
    · rename_i hk
      rw [hk] at hd
      split at h
      case h_2 => cases h
      rename_i s
      obtain ⟨s', rfl, e⟩ := trod_string_at hd ht
      cases e; cases h
      rfl
    · rename_i fs hk
      rw [hk] at hd
      split at h
      case h_2 => cases h
      rename_i ds
      split at h
      · cases h
      rename_i l' hl
      split at h
      case h_2 => cases h
      rename_i hlen
      have hlen' := Nat.eq_of_beq_eq_true hlen
      cases h
      obtain ⟨xs, n, _, e, hcl, _, hall⟩ := DataW.trod_struct hd ht
      simp only [Prod.mk.injEq, DataW.agg.injEq] at e
      have := layF_ok hC (fun t d l h => layX_ok f t d l h) (E := E) hl e.1.symm (fun i f hf => hall i f (by simpa using hf))
      rw [this, hlen', ← hcell, ← hcl]
      simp
    · rename_i nn e hk
      rw [hk] at hd
      split at h
      case h_2 => cases h
      rename_i ds
      split at h
      · cases h
      rename_i ei hei
      split at h
      · cases h
      rename_i l' hl
      split at h
      case h_2 => cases h
      rename_i hlen
      have hlen' := Nat.eq_of_beq_eq_true hlen
      cases h
      obtain ⟨xs, n, _, e', hcl, hxn, hall⟩ := DataW.trod_array hd ht
      simp only [Prod.mk.injEq, DataW.agg.injEq] at e'
      have := layA_ok (P := P) (w := w) (a := 0) (by simp [Program.cellsOf, (hC.ty _ ei hei).2]) (fun d l h => layX_ok f e d l h) (E := E) hl e'.1.symm (fun i hi => by
        rw [Nat.zero_add]; exact hall i (by omega))
      rw [this, hlen', ← hcell, ← hcl]
      simp
    · cases h

/-! ### Where the variables are -/
noncomputable def roH : List (Nat × List SV) → Tr AO
  | [] => .nil
  | (g, cs) :: r => match Tr.upd 48 (roH r) g (some (.ro cs)) with
    | some t => t
    | none => .nil

theorem roH_get : ∀ {vs : List (Nat × List SV)} {g : Nat} {o : AO}, (roH vs).get g = some o → ∃ cs, (g, cs) ∈ vs ∧ o = .ro cs
  | [], g, o, h => by simp only [roH] at h; rw [Tr.get_nil] at h; cases h
  | (a, cs) :: r, g, o, h => by
    simp only [roH] at h
    split at h
    · rename_i t hu
      rw [Tr.get_upd _ _ _ _ _ hu] at h
      by_cases e : g = a
      · rw [if_pos e] at h; cases h; subst e
        exact ⟨cs, List.mem_cons_self, rfl⟩
      · rw [if_neg e] at h
        obtain ⟨cs', h1, h2⟩ := roH_get h
        exact ⟨cs', List.mem_cons_of_mem _ h1, h2⟩
    · rw [Tr.get_nil] at h; cases h

/-- Memory holds what the variables are said to hold. -/
noncomputable def RoAt (vs : List (Nat × List SV)) (hp : Nat → Option Obj) : Prop :=
  ∀ g cs, (g, cs) ∈ vs → ∃ c e fz, hp g = some (.cells c e fz) ∧ ∀ E : Env, E.opq g = c.getD 0 .nilIface → denL E cs = some c.toList

/-- What is known at the beginning: where the variables are, and what their first cells hold. -/
noncomputable def opq0 (C : Cx) (Q : Nat → Value) (hp : Nat → Option Obj) : Nat → Value := fun g => if g < C.g0 then (match hp g with
    | some (.cells c _ _) => c.getD 0 .nilIface
    | _ => .nilIface) else Q g
noncomputable def env0 (C : Cx) (I : Nat → Int) (Q : Nat → Value) (hp : Nat → Option Obj) : Env :=
  ⟨I, fun i => if i < C.g0 then some (i, 0) else none, opq0 C Q hp⟩

theorem SH.ro {vs : List (Nat × List SV)} (hv : (vs.all fun x => Nat.blt x.1 C.g0) = true) (hgG : C.g0 ≤ C.G) {I : Nat → Int} {Q : Nat → Value} {hp : Array Obj} (hF : FactsOk C.facts I ∧ C.K I (opq0 C Q fun k => hp[k]?)) (hr : RoAt vs fun k => hp[k]?)
    (hb : C.base ≤ hp.size) (hs : ∀ k, k < C.base → hp[k]? = C.heap0 k) : SH C (env0 C I Q fun k => hp[k]?) (roH vs) C.G hp := by
  have hlt : ∀ g o, (roH vs).get g = some o → g < C.g0 := by
    intro g o h
    obtain ⟨cs, h1, _⟩ := roH_get h
    have := List.all_eq_true.1 hv _ h1
    simpa [Nat.blt_eq] using this
  refine ⟨⟨?_, ?_⟩, ?_, ?_, Nat.le_refl _, ⟨hF.1, hF.2, hgG⟩, ⟨hs, ?_, hb⟩⟩
  · intro g o h
    obtain ⟨cs, h1, rfl⟩ := roH_get h
    obtain ⟨c, e, fz, h2, h3⟩ := hr g cs h1
    exact ⟨(g, 0), if_pos (hlt g _ h), c.toList, c, e, fz, h3 _ (by have hlt0 := hlt g _ h; simp only at h2; simp only [env0, opq0, if_pos hlt0, h2]), h2, fun j x hx => by simpa using hx⟩
  · intro i j o o' p q hi hj hp' hq' e
    simp only [env0, if_pos (hlt i _ hi), if_pos (hlt j _ hj), Option.some.injEq] at hp' hq'
    subst hp'; subst hq'
    exact e
  · intro id hid
    exact if_neg (by omega)
  · intro g hg
    exact ⟨0, if_pos hg⟩
  · intro k hk hi
    obtain ⟨id, o, p, h1, h2, _, _⟩ := hi
    have := hlt id o h2
    omega

noncomputable def _root_.Go.Xq.isValX (v0 : SV) (o : Option (SV × Tr AO × Nat)) : Bool := match o with
  | some (v, _, _) => beqSV v v0
  | none => false

include hC in
/-- A call that the kernel has run, where variables are laid: what it returns. -/
theorem val_at (f : Nat) {fn : Nat} {args : List SV} {vs : List (Nat × List SV)} (hv : (vs.all fun x => Nat.blt x.1 C.g0) = true) (hgG : C.g0 ≤ C.G) {v0 : SV} (hx : isValX v0 (callX C (codeX C f) fn args (roH vs) C.G) = true) {y : Value} (hy : ∀ E, v0.den E = some y)
    {I : Nat → Int} (w : World) {Q : Nat → Value} (hF : FactsOk C.facts I ∧ C.K I (opq0 C Q fun k => w.heap[k]?)) {xs : List Value} (ha : denL (env0 C I Q fun k => w.heap[k]?) args = some xs) (hr : RoAt vs fun k => w.heap[k]?)
    (hb : C.base ≤ w.heap.size) (hs : ∀ k, k < C.base → w.heap[k]? = C.heap0 k) : Calls P fn xs.toArray w fun e w' => e = .returned y ∧ Below w.heap.size w w' := by
  have hlt : ∀ g o, (roH vs).get g = some o → g < C.g0 := by
    intro g o h
    obtain ⟨cs, h1, _⟩ := roH_get h
    have := List.all_eq_true.1 hv _ h1
    simpa [Nat.blt_eq] using this
  unfold isValX at hx
  split at hx
  case h_2 => cases hx
  rename_i v h' n' hc
  have hvv := beqSV_eq _ _ hx
  subst hvv
  refine run_ok hC f hc (SH.ro hv hgG hF hr hb hs) ha (fun E' x w' hv' hp => ?_)
  rw [hy E'] at hv'
  simp only [Option.some.injEq] at hv'
  subst hv'
  refine ⟨rfl, hp.fr.os, hp.fr.tape, hp.fr.output, hp.fr.size, fun k hk => hp.fr.same k hk ?_⟩
  rintro ⟨i, o, p, h1, h2, _, _⟩
  have := hlt i o h2
  omega

include hC in
/-- A law that the kernel has run, where variables are laid. -/
theorem true_at (f : Nat) {fn : Nat} {args : List SV} {vs : List (Nat × List SV)} (hv : (vs.all fun x => Nat.blt x.1 C.g0) = true) (hgG : C.g0 ≤ C.G) (hx : isTrueX (callX C (codeX C f) fn args (roH vs) C.G) = true)
    {I : Nat → Int} (w : World) {Q : Nat → Value} (hF : FactsOk C.facts I ∧ C.K I (opq0 C Q fun k => w.heap[k]?)) {xs : List Value} (ha : denL (env0 C I Q fun k => w.heap[k]?) args = some xs) (hr : RoAt vs fun k => w.heap[k]?)
    (hb : C.base ≤ w.heap.size) (hs : ∀ k, k < C.base → w.heap[k]? = C.heap0 k) : Calls P fn xs.toArray w fun e w' => e = .returned (.bool true) ∧ Below w.heap.size w w' := by
  have hlt : ∀ g o, (roH vs).get g = some o → g < C.g0 := by
    intro g o h
    obtain ⟨cs, h1, _⟩ := roH_get h
    have := List.all_eq_true.1 hv _ h1
    simpa [Nat.blt_eq] using this
  unfold isTrueX at hx
  split at hx
  case h_2 => cases hx
  rename_i v h' n' hc
  split at hx
  case h_2 => cases hx
  rename_i b
  subst hx
  refine run_ok hC f hc (SH.ro hv hgG hF hr hb hs) ha (fun E' x w' hv' hp => ?_)
  simp only [SV.den, Option.some.injEq] at hv'
  subst hv'
  refine ⟨rfl, hp.fr.os, hp.fr.tape, hp.fr.output, hp.fr.size, fun k hk => hp.fr.same k hk ?_⟩
  rintro ⟨i, o, p, h1, h2, _, _⟩
  have := hlt i o h2
  omega

/-! ### What a row says of them -/
/-- A variable's data; one that holds an interface value that is not nil (an error of its own): its name. -/
noncomputable def layG (C : Cx) (f g : Nat) (t : TypeId) (d : DataW Unit) : Option (List SV) := match C.tt.get t with
  | none => none
  | some i => match i.desc with
    | .interface _ => match d with
      | .iface _ _ => some [.opq g]
      | _ => none
    | _ => layX C f t d

omit hC in
theorem trod_iface_at {t : TypeId} {ms : Array (String × TypeId)} {w : World} {base : Nat} {sp : Nat → Bool} {fuel : Nat} {cs : List Value} {nm : String} {x : DataW Unit} {m : List MemPlace} {enc : TypeId × Value → Unit} (ht : P.underlying t = some (.interface ms))
    (h : DataW.trod enc P w base sp false fuel t cs = some (.iface nm x, m)) : ∃ u v, cs = [.iface u v] := by
  cases fuel with
  | zero => simp [DataW.trod] at h
  | succ f =>
    unfold DataW.trod at h
    rw [ht] at h
    split at h <;> first
      | (simp at h; done)
      | exact ⟨_, _, rfl⟩
      | (rename_i hh; simp at hh; done)
      | (rename_i hh _; simp at hh; done)
      | (rename_i hh _ _; simp at hh; done)
      | simp_all

include hC in
theorem layG_ok {w : World} {f g : Nat} {t : TypeId} {d : DataW Unit} {l : List SV} (h : layG C f g t d = some l) {E : Env} {base : Nat} {sp : Nat → Bool} {enc : TypeId × Value → Unit} {fuel : Nat} {cs : List Value} {m : List MemPlace}
    (ht : DataW.trod enc P w base sp false fuel t cs = some (d, m)) (hE : E.opq g = cs.getD 0 .nilIface) : denL E l = some cs := by
  unfold layG at h
  split at h
  · cases h
  rename_i i hi
  obtain ⟨hd, hin⟩ := hC.ty t i hi
  split at h
  · rename_i ms hk
    rw [hk] at hd
    split at h
    case h_2 => cases h
    cases h
    obtain ⟨u, v, rfl⟩ := trod_iface_at hd ht
    simp only [List.getD_cons_zero] at hE
    simp [denL, SV.den, hE, ifaceV]
  · exact layX_ok hC f t d l h E base sp false enc fuel cs m ht

noncomputable def layAll (P : Program) (C : Cx) (f : Nat) : List (String × DataW Unit) → List (Nat × List SV)
  | [] => []
  | (n, d) :: r => match P.globalNamed n with
    | none => layAll P C f r
    | some g => match (P.globals[g]?).map (·.type) with
      | none => layAll P C f r
      | some t => match layG C f g t d with
        | none => layAll P C f r
        | some cs => (g, cs) :: layAll P C f r

theorem laidVars_at {w : World} : ∀ {laid : List (String × DataW Unit)} {ps : List MemPlace}, DataW.LaidVars P w laid ps → ∀ n d, (n, d) ∈ laid →
    ∃ g t cs fuel p, P.globalNamed n = some g ∧ (P.globals[g]?).map (·.type) = some t ∧ w.var? P n = some cs ∧ DataW.trod (fun _ => ()) P w 0 (fun _ => true) false fuel t cs.toList = some (d, p)
  | [], ps, _, n, d, h => by cases h
  | (n0, d0) :: r, ps, ⟨g, t, cs, fuel, p, q, h1, h2, h3, h4, h5, _⟩, n, d, h => by
    rcases List.mem_cons.1 h with e | h
    · cases e
      exact ⟨g, t, cs, fuel, p, h1, h2, h3, h4⟩
    · exact laidVars_at h5 n d h

include hC in
theorem roAt_of {w : World} {f : Nat} : ∀ {L : List (String × DataW Unit)}, (∀ n d, (n, d) ∈ L → ∃ g t cs fuel p, P.globalNamed n = some g ∧ (P.globals[g]?).map (·.type) = some t ∧ w.var? P n = some cs ∧ DataW.trod (fun _ => ()) P w 0 (fun _ => true) false fuel t cs.toList = some (d, p)) →
    RoAt (layAll P C f L) fun k => w.heap[k]?
  | [], _ => fun g cs h => by cases h
  | (n, d) :: r, hL => by
    have ih := roAt_of (f := f) (L := r) (fun n d h => hL n d (List.mem_cons_of_mem _ h))
    obtain ⟨g, t, cs, fuel, p, h1, h2, h3, h4⟩ := hL n d List.mem_cons_self
    simp only [layAll, h1, h2]
    split
    · exact ih
    · rename_i l hl
      intro g' cs' hm
      rcases List.mem_cons.1 hm with e | hm
      · cases e
        simp only [World.var?, h1, Option.bind_some] at h3
        split at h3
        · rename_i c e fz hh
          cases h3
          exact ⟨cs, e, fz, hh, fun E hE => layG_ok hC hl h4 (by rw [hE]; rcases cs with ⟨l⟩; cases l <;> rfl)⟩
        · cases h3
      · exact ih g' cs' hm

/-- The memory below is the old one: what was laid is laid. -/
theorem RoAt.mono {vs : List (Nat × List SV)} {hp : Nat → Option Obj} {b : Nat} {hq : Nat → Option Obj} (h : RoAt vs hp) (hlt : ∀ k x, hp k = some x → k < b) (hs : ∀ k, k < b → hq k = hp k) : RoAt vs hq :=
  fun g cs hm => by
    obtain ⟨c, e, fz, h1, h2⟩ := h g cs hm
    exact ⟨c, e, fz, by rw [hs g (hlt g _ h1)]; exact h1, h2⟩

end
end Go.Xq
