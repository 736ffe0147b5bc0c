/-
  Values of a program as plain data: what of a region's operations may be done in another order.
-/
import Derived.Test.YteapohlamngkpaaDoorPm
namespace Go.Pv
open Go.RowKit
set_option linter.unusedVariables false

/-- What an operation waits for: which operations come before it; by which operation a new thing is made. -/
structure Od where
  pre : Nat → Nat → Bool
  rk : Nat → Nat

def What.xs : What → List X
  | .q _ x => x.xs
  | .a _ x => x.xs
  | .w _ x _ => x.xs

def What.see : What → List Nat
  | .q l _ => l
  | .a _ _ => []
  | .w l _ _ => l

def What.re : What → List (Nat × List Nat × Q)
  | .w _ _ re => re
  | _ => []

def What.isW : What → Bool
  | .w _ _ _ => true
  | _ => false

def xPre (od : Od) (i : Nat) : X → Bool
  | .t j => od.pre i j
  | .tf j => od.pre i j
  | _ => true

def reOk (od : Od) : List (Nat × List Nat × Q) → Bool
  | [] => true
  | (j, see, q) :: r => q.xs.all (xPre od j) && see.all (fun r => od.pre j (od.rk r)) && reOk od r

def stepOk (od : Od) (x : Step) : Bool :=
  x.w.xs.all (xPre od x.i) && (match x.g with | some (j, _) => od.pre x.i j | none => true) && x.w.see.all (fun r => od.pre x.i (od.rk r)) &&
  (match x.w with | .a r _ => Nat.beq (od.rk r) x.i | _ => true) && reOk od x.w.re && (match od.pre x.i x.i with | true => false | false => true)

/-- What is done before, and waited for by nobody, is done once more. -/
def Cover (od : Od) (x y : Step) : Prop := x.w.isW = true ∨ od.pre y.i x.i = true ∨ (∃ r a, x.w = .a r a) ∨ ∃ see q, x.w = .q see q ∧ (q.heap = false ∨ (x.i, see, q) ∈ y.w.re)

def Lok (od : Od) : List Step → Prop
  | [] => True
  | x :: L => stepOk od x = true ∧ (∀ y ∈ L, od.pre x.i y.i = false ∧ x.i ≠ y.i) ∧ (x.w.isW = true → ∀ y ∈ L, od.pre y.i x.i = true) ∧ (∀ y ∈ L, y.w.isW = true → Cover od x y) ∧ Lok od L

theorem Lok.drop {od : Od} {x : Step} {B : List Step} : ∀ {A : List Step}, Lok od (A ++ x :: B) → Lok od (A ++ B)
  | [], h => h.2.2.2.2
  | y :: A, h => by
    obtain ⟨h1, h2, h3, h4, h5⟩ := h
    have sub : ∀ z, z ∈ A ++ B → z ∈ A ++ x :: B := by
      intro z hz
      rcases List.mem_append.1 hz with h | h
      · exact List.mem_append_left _ h
      · exact List.mem_append_right _ (List.mem_cons_of_mem _ h)
    exact ⟨h1, fun z hz => h2 z (sub z hz), fun e z hz => h3 e z (sub z hz), fun z hz => h4 z (sub z hz), Lok.drop h5⟩

theorem Lok.at {od : Od} {x : Step} {B : List Step} : ∀ {A : List Step}, Lok od (A ++ x :: B) → stepOk od x = true
  | [], h => h.1
  | y :: A, h => Lok.at h.2.2.2.2

theorem Lok.ne {od : Od} {x : Step} {B : List Step} : ∀ {A : List Step}, Lok od (A ++ x :: B) → ∀ y ∈ A ++ B, y.i ≠ x.i
  | [], h, y, hy => fun e => (h.2.1 y hy).2 e.symm
  | z :: A, h, y, hy => by
    rcases List.mem_cons.1 hy with rfl | hy
    · exact (h.2.1 x (by simp)).2
    · exact Lok.ne h.2.2.2.2 y hy

/-! ### Operations that do not write -/
def status (g : Option (Nat × Bool)) (tm : Nat → Tm) : Option Bool := match g with
  | none => some true
  | some (j, b) => match tm j with
    | .val (.bool c) => some (c == b)
    | .skip => some false
    | _ => none

theorem guardP_iff {g : Option (Nat × Bool)} {y n : RS → Prop} {rs : RS} : guardP g y n rs ↔ ∃ b, status g rs.tm = some b ∧ (match b with | true => y rs | false => n rs) := by
  unfold guardP status
  cases g with
  | none => exact ⟨fun h => ⟨true, rfl, h⟩, fun ⟨b, e, h⟩ => by cases e; exact h⟩
  | some p =>
    obtain ⟨j, b⟩ := p
    simp only
    cases ht : rs.tm j with
    | no => simp
    | skip => exact ⟨fun h => ⟨false, rfl, h⟩, fun ⟨b, e, h⟩ => by cases e; exact h⟩
    | val v =>
      cases v with
      | bool c =>
        have hput : rs.put j (.val (.bool c)) = rs := by unfold RS.put; rw [tset_id ht]
        simp only [gsplit, Option.some.injEq, exists_eq_left']
        cases c <;> cases b <;> simp [gbr, hput]
      | _ => simp

noncomputable def dlt (C : Cx) (g : Rg) (x : Step) (rs : RS) : Option (Prop × Tm × Option (Nat × Nd)) := match status x.g rs.tm with
  | none => none
  | some false => some (True, .skip, none)
  | some true => match x.w with
    | .q see q => match evalQ (lkR C g rs.tm) (addL g see rs.pd rs.s).H q with
      | some (ob, v) => some (ob, .val v, none)
      | none => none
    | .a r a => match evalA (lkR C g rs.tm) (g.n0 + r) (g.m0 + r) a with
      | some (ob, v, nd) => some (ob, .val v, some (r, nd))
      | none => none
    | .w _ _ _ => none

def putO (pd : Nat → Option Nd) : Option (Nat × Nd) → (Nat → Option Nd)
  | none => pd
  | some (r, nd) => hset pd r (some nd)

def RS.ap (rs : RS) (i : Nat) (t : Tm) (o : Option (Nat × Nd)) : RS := ⟨tset rs.tm i t, putO rs.pd o, rs.s⟩

theorem stp_nw {C : Cx} {g : Rg} {x : Step} (hx : x.w.isW = false) {K : RS → Prop} {kp : PV → Hs → Prop} {rs : RS} : stp C g x K kp rs ↔ ∃ ob t o, dlt C g x rs = some (ob, t, o) ∧ ob ∧ K (rs.ap x.i t o) := by
  unfold stp
  rw [guardP_iff]
  unfold dlt
  constructor
  · rintro ⟨b, hs, h⟩
    rw [hs]
    cases b with
    | false => exact ⟨True, .skip, none, rfl, trivial, h⟩
    | true =>
      have h' : doS C g x.i K kp rs x.w := h
      cases hw : x.w with
      | q see q =>
        rw [hw] at h'
        simp only [doS] at h'
        split at h'
        · rename_i ob v he
          exact ⟨ob, .val v, none, by simp only [he], h'.1, h'.2⟩
        · exact h'.elim
      | a r a =>
        rw [hw] at h'
        simp only [doS] at h'
        split at h'
        · rename_i ob v nd he
          exact ⟨ob, .val v, some (r, nd), by simp only [he], h'.1, h'.2⟩
        · exact h'.elim
      | w _ _ _ => rw [hw] at hx; cases hx
  · rintro ⟨ob, t, o, e, ho, h⟩
    cases hs : status x.g rs.tm with
    | none => rw [hs] at e; cases e
    | some b =>
      rw [hs] at e
      refine ⟨b, rfl, ?_⟩
      cases b with
      | false => simp only at e; cases e; exact h
      | true =>
        show doS C g x.i K kp rs x.w
        simp only at e
        cases hw : x.w with
        | q see q =>
          rw [hw] at e
          simp only [doS] at e ⊢
          split at e
          · rename_i ob' v he
            simp only [Option.some.injEq, Prod.mk.injEq] at e
            obtain ⟨rfl, rfl, rfl⟩ := e
            rw [he]
            exact ⟨ho, h⟩
          · cases e
        | a r a =>
          rw [hw] at e
          simp only [doS] at e ⊢
          split at e
          · rename_i ob' v nd he
            simp only [Option.some.injEq, Prod.mk.injEq] at e
            obtain ⟨rfl, rfl, rfl⟩ := e
            rw [he]
            exact ⟨ho, h⟩
          · cases e
        | w _ _ _ => rw [hw] at hx; cases hx

theorem xPre_dep {od : Od} {i : Nat} {y : X} {j : Nat} (h : xPre od i y = true) (hj : y.dep = some j) : od.pre i j = true := by
  cases y <;> simp only [X.dep] at hj <;> cases hj <;> exact h

theorem stepOk_xs {od : Od} {x : Step} (h : stepOk od x = true) : ∀ y ∈ x.w.xs, ∀ j, y.dep = some j → od.pre x.i j = true := by
  intro y hy j hj
  simp only [stepOk, Bool.and_eq_true, List.all_eq_true] at h
  exact xPre_dep (h.1.1.1.1.1 _ hy) hj
theorem stepOk_gd {od : Od} {x : Step} (h : stepOk od x = true) {j : Nat} {b : Bool} (hg : x.g = some (j, b)) : od.pre x.i j = true := by
  simp only [stepOk, Bool.and_eq_true, hg] at h
  exact h.1.1.1.1.2
theorem stepOk_seen {od : Od} {x : Step} (h : stepOk od x = true) : ∀ r ∈ x.w.see, od.pre x.i (od.rk r) = true := by
  simp only [stepOk, Bool.and_eq_true, List.all_eq_true] at h
  exact h.1.1.1.2
theorem stepOk_rk {od : Od} {x : Step} (h : stepOk od x = true) {r : Nat} {a : A} (hw : x.w = .a r a) : od.rk r = x.i := by
  simp only [stepOk, Bool.and_eq_true, hw] at h
  exact Nat.eq_of_beq_eq_true h.1.1.2
theorem stepOk_irr {od : Od} {x : Step} (h : stepOk od x = true) : od.pre x.i x.i = false := by
  simp only [stepOk, Bool.and_eq_true] at h
  have := h.2
  split at this
  · cases this
  · assumption
theorem stepOk_reo {od : Od} {x : Step} (h : stepOk od x = true) : reOk od x.w.re = true := by
  simp only [stepOk, Bool.and_eq_true] at h
  exact h.1.2
theorem reOk_mem {od : Od} : ∀ {l : List (Nat × List Nat × Q)}, reOk od l = true → ∀ j see q, (j, see, q) ∈ l → (∀ y ∈ q.xs, ∀ k, y.dep = some k → od.pre j k = true) ∧ ∀ r ∈ see, od.pre j (od.rk r) = true
  | [], h, j, see, q, hm => (by cases hm)
  | (j0, see0, q0) :: r, h, j, see, q, hm => by
    simp only [reOk, Bool.and_eq_true, List.all_eq_true] at h
    rcases List.mem_cons.1 hm with e | hm
    · cases e
      exact ⟨fun y hy k hk => xPre_dep (h.1.1 _ hy) hk, h.1.2⟩
    · exact reOk_mem h.2 j see q hm

theorem lkR_congr {C : Cx} {g : Rg} {tm tm' : Nat → Tm} {l : List X} (h : ∀ y ∈ l, ∀ j, y.dep = some j → tm j = tm' j) : ∀ x ∈ l, lkR C g tm x = lkR C g tm' x := by
  intro x hx
  cases x with
  | t j => simp only [lkR, h _ hx j rfl]
  | tf j => simp only [lkR, h _ hx j rfl]
  | _ => rfl

theorem status_congr {g : Option (Nat × Bool)} {tm tm' : Nat → Tm} (h : ∀ j b, g = some (j, b) → tm j = tm' j) : status g tm = status g tm' := by
  cases g with
  | none => rfl
  | some p => obtain ⟨j, b⟩ := p; simp only [status, h j b rfl]

theorem dlt_congr {od : Od} {C : Cx} {g : Rg} {x : Step} (hx : stepOk od x = true) {rs rs' : RS} (h1 : ∀ k, od.pre x.i k = true → rs.tm k = rs'.tm k) (h2 : ∀ r, od.pre x.i (od.rk r) = true → rs.pd r = rs'.pd r) (h3 : rs.s = rs'.s) : dlt C g x rs = dlt C g x rs' := by
  unfold dlt
  rw [status_congr (fun j b hg => h1 j (stepOk_gd hx hg))]
  have hl := lkR_congr (C := C) (g := g) (l := x.w.xs) (fun y hy j hj => h1 j (stepOk_xs hx y hy j hj))
  have hs : addL g x.w.see rs.pd rs.s = addL g x.w.see rs'.pd rs'.s := by rw [h3]; exact addL_pd g _ _ _ _ fun r hr => h2 r (stepOk_seen hx r hr)
  cases hw : x.w with
  | q see q =>
    rw [hw] at hl hs
    simp only [What.xs, What.see] at hl hs
    simp only [hs, evalQ_congr hl]
  | a r a =>
    rw [hw] at hl
    simp only [What.xs] at hl
    simp only [evalA_congr hl]
  | w _ _ _ => rfl

/-- What is made is one's own. -/
theorem dlt_own {od : Od} {C : Cx} {g : Rg} {x : Step} (hx : stepOk od x = true) {rs : RS} {ob : Prop} {t : Tm} {o : Option (Nat × Nd)} (h : dlt C g x rs = some (ob, t, o)) : (t ≠ .no) ∧ ∀ r nd, o = some (r, nd) → od.rk r = x.i := by
  unfold dlt at h
  split at h
  · cases h
  · cases h; exact ⟨by simp, fun r nd e => (by cases e)⟩
  · split at h
    · split at h
      · cases h; exact ⟨by simp, fun r nd e => (by cases e)⟩
      · cases h
    · rename_i r a hw
      split at h
      · cases h; exact ⟨by simp, fun r' nd e => by cases e; exact stepOk_rk hx hw⟩
      · cases h
    · cases h

theorem ap_comm {rs : RS} {i j : Nat} {t u : Tm} {o p : Option (Nat × Nd)} (h : i ≠ j) (hr : ∀ r nd r' nd', o = some (r, nd) → p = some (r', nd') → r ≠ r') : (rs.ap i t o).ap j u p = (rs.ap j u p).ap i t o := by
  unfold RS.ap
  simp only [RS.mk.injEq, and_true]
  refine ⟨tset_comm _ _ _ h, ?_⟩
  cases o with
  | none => cases p <;> rfl
  | some a =>
    cases p with
    | none => rfl
    | some b =>
      obtain ⟨r, nd⟩ := a
      obtain ⟨r', nd'⟩ := b
      exact hset_comm _ _ _ (hr r nd r' nd' rfl rfl)

theorem comm {od : Od} {C : Cx} {g : Rg} {a b : Step} (ha : stepOk od a = true) (hb : stepOk od b = true) (wa : a.w.isW = false) (wb : b.w.isW = false) (hne : a.i ≠ b.i) (hab : od.pre b.i a.i = false) (hba : od.pre a.i b.i = false)
    {K : RS → Prop} {kp : PV → Hs → Prop} {rs : RS} (h : stp C g a (stp C g b K kp) kp rs) : stp C g b (stp C g a K kp) kp rs := by
  rw [stp_nw wa] at h
  obtain ⟨oba, ta, oa, e1, h1, h2⟩ := h
  rw [stp_nw wb] at h2
  obtain ⟨obb, tb, o_b, e2, h3, h4⟩ := h2
  have own1 := (dlt_own ha e1).2
  have own2 := (dlt_own hb e2).2
  have e2' : dlt C g b rs = some (obb, tb, o_b) := by
    rw [← e2]
    refine dlt_congr hb (fun k hk => ?_) (fun r hr => ?_) rfl
    · exact (tset_ne _ _ (fun e => by subst e; rw [hab] at hk; cases hk)).symm
    · cases oa with
      | none => rfl
      | some p =>
        obtain ⟨r', nd'⟩ := p
        refine (hset_ne _ _ (fun e => ?_)).symm
        subst e
        rw [own1 _ _ rfl, hab] at hr; cases hr
  rw [stp_nw wb]
  refine ⟨obb, tb, o_b, e2', h3, ?_⟩
  rw [stp_nw wa]
  refine ⟨oba, ta, oa, ?_, h1, ?_⟩
  · rw [← e1]
    refine dlt_congr ha (fun k hk => ?_) (fun r hr => ?_) rfl
    · exact tset_ne _ _ (fun e => by subst e; rw [hba] at hk; cases hk)
    · cases o_b with
      | none => rfl
      | some p =>
        obtain ⟨r', nd'⟩ := p
        refine hset_ne _ _ (fun e => ?_)
        subst e
        rw [own2 _ _ rfl, hba] at hr; cases hr
  · rw [ap_comm hne.symm (fun r nd r' nd' e1 e2 e => hne (by subst e; rw [← own1 _ _ e2, own2 _ _ e1]))]
    exact h4

theorem reP_mem {C : Cx} {g : Rg} {tm : Nat → Tm} {pd : Nat → Option Nd} {s : Hs} : ∀ {l : List (Nat × List Nat × Q)}, reP C g tm pd s l ↔ ∀ j see q, (j, see, q) ∈ l → ∀ v0, tm j = .val v0 → ∃ ob, evalQ (lkR C g tm) (addL g see pd s).H q = some (ob, v0) ∧ ob
  | [] => by simp [reP]
  | (j, see, q) :: r => by
    simp only [reP, reP_mem (l := r)]
    constructor
    · rintro ⟨h1, h2⟩ j' see' q' hm v0 hv
      rcases List.mem_cons.1 hm with e | hm
      · cases e
        rw [hv] at h1
        simp only at h1
        split at h1
        · rename_i ob v he
          exact ⟨ob, by rw [he, h1.2], h1.1⟩
        · exact h1.elim
      · exact h2 j' see' q' hm v0 hv
    · intro h
      refine ⟨?_, fun j' see' q' hm => h j' see' q' (List.mem_cons_of_mem _ hm)⟩
      split
      · rename_i v0 hv
        obtain ⟨ob, e, ho⟩ := h j see q List.mem_cons_self v0 hv
        rw [e]
        exact ⟨ho, rfl⟩
      · trivial

/-- An operation that does not write, and one that writes. -/
theorem commw {od : Od} {C : Cx} {g : Rg} {a w : Step} (ha : stepOk od a = true) (hw : stepOk od w = true) (wa : a.w.isW = false) (ww : w.w.isW = true) (hne : a.i ≠ w.i) (haw : od.pre w.i a.i = false) (hwa : od.pre a.i w.i = false)
    (hcov : Cover od a w) {K : RS → Prop} {kp : PV → Hs → Prop} {rs : RS} (hno : rs.tm a.i = .no) (hcl : ∀ j, rs.tm j ≠ .no → ∀ k, od.pre j k = true → rs.tm k ≠ .no)
    (h : stp C g a (stp C g w K kp) kp rs) : stp C g w (stp C g a K kp) kp rs := by
  rw [stp_nw wa] at h
  obtain ⟨oba, ta, oa, e1, h1, h2⟩ := h
  have own1 := (dlt_own ha e1).2
  have tno := (dlt_own ha e1).1
  unfold stp at h2 ⊢
  rw [guardP_iff] at h2 ⊢
  obtain ⟨b, e2, h2⟩ := h2
  have tm1 : ∀ k, k ≠ a.i → (rs.ap a.i ta oa).tm k = rs.tm k := fun k hk => tset_ne _ _ hk
  have pd1 : ∀ r, od.rk r ≠ a.i → (rs.ap a.i ta oa).pd r = rs.pd r := by
    intro r hr
    cases oa with
    | none => rfl
    | some p =>
      obtain ⟨r', nd'⟩ := p
      exact hset_ne _ _ (fun e => hr (by subst e; exact own1 _ _ rfl))
  have hst : status w.g rs.tm = status w.g (rs.ap a.i ta oa).tm := status_congr (fun j b hg => (tm1 j (fun e => by subst e; rw [stepOk_gd hw hg] at haw; cases haw)).symm)
  refine ⟨b, by rw [hst]; exact e2, ?_⟩
  -- what a makes where w is done
  have fin : ∀ (t : Tm) (pd' : Nat → Option Nd) (s' : Hs), t ≠ .no → (∀ r, od.pre a.i (od.rk r) = true → evalA (lkR C g rs.tm) 0 0 = evalA (lkR C g rs.tm) 0 0) →
      (∀ see q, a.w = .q see q → ∀ v0, ta = .val v0 → ∃ ob, evalQ (lkR C g (tset rs.tm w.i t)) (addL g see pd' s').H q = some (ob, v0) ∧ ob) →
      K ⟨tset (tset rs.tm w.i t) a.i ta, putO pd' oa, s'⟩ → stp C g a K kp ⟨tset rs.tm w.i t, pd', s'⟩ := by
    intro t pd' s' ht _ hq hK
    rw [stp_nw wa]
    have hsa : status a.g (tset rs.tm w.i t) = status a.g rs.tm := status_congr (fun j b hg => tset_ne _ _ (fun e => by subst e; rw [stepOk_gd ha hg] at hwa; cases hwa))
    have hl := lkR_congr (C := C) (g := g) (l := a.w.xs) (tm := tset rs.tm w.i t) (tm' := rs.tm) (fun y hy j hj => tset_ne _ _ (fun e => by subst e; rw [stepOk_xs ha _ hy _ hj] at hwa; cases hwa))
    unfold dlt at e1 ⊢
    simp only [hsa]
    split at e1
    · cases e1
    · cases e1
      exact ⟨True, .skip, none, rfl, trivial, hK⟩
    · cases hwh : a.w with
      | q see q =>
        rw [hwh] at e1
        simp only at e1 ⊢
        split at e1
        · rename_i ob0 v0 he0
          simp only [Option.some.injEq, Prod.mk.injEq] at e1
          obtain ⟨_, rfl, rfl⟩ := e1
          obtain ⟨ob, e, ho⟩ := hq see q hwh v0 rfl
          exact ⟨ob, .val v0, none, by rw [e], ho, hK⟩
        · cases e1
      | a r al =>
        rw [hwh] at e1 hl
        simp only [What.xs] at hl
        simp only at e1 ⊢
        rw [evalA_congr hl]
        split at e1
        · rename_i ob0 v0 nd0 he0
          simp only [Option.some.injEq, Prod.mk.injEq] at e1
          obtain ⟨rfl, rfl, rfl⟩ := e1
          exact ⟨_, _, _, rfl, h1, hK⟩
        · cases e1
      | w _ _ _ => rw [hwh] at wa; cases wa
  cases b with
  | false =>
    -- passed over
    show stp C g a K kp (rs.put w.i .skip)
    refine fin .skip rs.pd rs.s (by simp) (fun _ _ => rfl) ?_ ?_
    · intro see q hwh v0 hv0
      have := dlt_congr (C := C) (g := g) ha (rs := ⟨tset rs.tm w.i .skip, rs.pd, rs.s⟩) (rs' := rs) (fun k hk => tset_ne _ _ (fun e => by subst e; rw [hwa] at hk; cases hk)) (fun _ _ => rfl) rfl
      rw [e1] at this
      unfold dlt at this
      split at this
      · cases this
      · simp only [Option.some.injEq, Prod.mk.injEq] at this
        rw [hv0] at this
        exact absurd this.2.1 (by simp)
      · rw [hwh] at this
        simp only at this
        split at this
        · rename_i ob v he
          simp only [Option.some.injEq, Prod.mk.injEq] at this
          rw [hv0] at this
          obtain ⟨rfl, h5, _⟩ := this
          cases h5
          exact ⟨_, he, h1⟩
        · cases this
    · have h3 : K ((rs.ap a.i ta oa).put w.i .skip) := h2
      unfold RS.put RS.ap at h3
      rw [tset_comm _ _ _ hne] at h3
      exact h3
  | true =>
    cases hwh : w.w with
    | w see wr re =>
      have hxs := stepOk_xs hw
      have hsee := stepOk_seen hw
      have hre := stepOk_reo hw
      simp only [doW, hwh, doS] at h2 ⊢
      rw [hwh] at hxs hsee hre
      simp only [What.xs, What.see, What.re] at hxs hsee hre
      have hl := lkR_congr (C := C) (g := g) (l := wr.xs) (tm := (rs.ap a.i ta oa).tm) (tm' := rs.tm) (fun y hy j hj => tm1 j (fun e => by subst e; rw [hxs _ hy _ hj] at haw; cases haw))
      rw [evalW_congr hl] at h2
      have hpd : addL g see (rs.ap a.i ta oa).pd (rs.ap a.i ta oa).s = addL g see rs.pd rs.s := addL_pd g _ _ _ _ (fun r hr => pd1 r (fun e => by have := hsee r hr; rw [e, haw] at this; cases this))
      rw [hpd] at h2
      refine evalW_mono (fun o s' hk => ?_) h2
      cases o with
      | pan v => exact hk
      | ret v =>
        obtain ⟨hr, hK⟩ := hk
        have hclr : clrL see (rs.ap a.i ta oa).pd = putO (clrL see rs.pd) oa := by
          cases hoa : oa with
          | none => rfl
          | some p =>
            obtain ⟨r', nd'⟩ := p
            exact clrL_hset see rs.pd _ (fun hm => by have := hsee r' hm; rw [own1 r' nd' hoa, haw] at this; cases this)
        rw [reP_mem] at hr
        refine ⟨?_, ?_⟩
        · rw [reP_mem]
          intro j see' q hm v0 hv0
          obtain ⟨g1, g2⟩ := reOk_mem hre j see' q hm
          have hja : j ≠ a.i := fun e => by subst e; rw [hno] at hv0; cases hv0
          have hdone := hcl j (by rw [hv0]; simp)
          have hpa : od.pre j a.i = false := by
            cases hp : od.pre j a.i with
            | false => rfl
            | true => exact absurd hno (hdone _ hp)
          obtain ⟨ob, e, ho⟩ := hr j see' q hm v0 (by rw [tm1 j hja]; exact hv0)
          refine ⟨ob, ?_, ho⟩
          rw [← e, evalQ_congr (lkR_congr (C := C) (g := g) (l := q.xs) (tm := rs.tm) (tm' := (rs.ap a.i ta oa).tm) (fun y hy k hk => (tm1 k (fun e => by subst e; rw [g1 _ hy _ hk] at hpa; cases hpa)).symm))]
          congr 2
          refine addL_pd g _ _ _ _ (fun r hr => ?_)
          rw [clrL_get, clrL_get]
          split
          · rfl
          · exact (pd1 r (fun e => by have := g2 r hr; rw [e, hpa] at this; cases this)).symm
        · refine fin (.val v) (clrL see rs.pd) s' (by simp) (fun _ _ => rfl) ?_ ?_
          · intro see' q haq v0 hv0
            have hl2 := lkR_congr (C := C) (g := g) (l := q.xs) (tm := tset rs.tm w.i (.val v)) (tm' := rs.tm) (fun y hy j hj => tset_ne _ _ (fun e => by
              have := stepOk_xs ha y (by rw [haq]; exact hy) j hj
              rw [e, hwa] at this; cases this))
            have hl3 := lkR_congr (C := C) (g := g) (l := q.xs) (tm := (rs.ap a.i ta oa).tm) (tm' := rs.tm) (fun y hy j hj => tm1 j (fun e => by
              have := stepOk_xs ha y (by rw [haq]; exact hy) j hj
              rw [e, stepOk_irr ha] at this; cases this))
            rw [evalQ_congr hl2]
            rcases hcov with hc | hc | ⟨r, al, hc⟩ | ⟨see2, q2, hc, hc2⟩
            · rw [hc] at wa; cases wa
            · rw [hc] at haw; cases haw
            · rw [haq] at hc; cases hc
            · rw [haq] at hc; cases hc
              rcases hc2 with hc2 | hc2
              · -- it does not look at memory
                rw [evalQ_heap (H' := (addL g see' rs.pd rs.s).H) hc2]
                unfold dlt at e1
                split at e1
                · cases e1
                · simp only [Option.some.injEq, Prod.mk.injEq] at e1
                  rw [hv0] at e1
                  exact absurd e1.2.1 (by simp)
                · rw [haq] at e1
                  simp only at e1
                  split at e1
                  · rename_i ob v1 he
                    simp only [Option.some.injEq, Prod.mk.injEq] at e1
                    rw [hv0] at e1
                    obtain ⟨rfl, h5, _⟩ := e1
                    cases h5
                    exact ⟨_, he, h1⟩
                  · cases e1
              · rw [hwh] at hc2
                have hat : (rs.ap a.i ta oa).tm a.i = .val v0 := by rw [← hv0]; exact tset_same _ _ _
                obtain ⟨ob, e, ho⟩ := hr a.i see' q hc2 v0 hat
                refine ⟨ob, ?_, ho⟩
                rw [← e, evalQ_congr hl3]
                congr 2
                refine addL_pd g _ _ _ _ (fun r hr => ?_)
                rw [clrL_get, clrL_get]
                split
                · rfl
                · exact (pd1 r (fun e => by
                    have := stepOk_seen ha r (by rw [haq]; exact hr)
                    rw [e, stepOk_irr ha] at this; cases this)).symm
          · rw [hclr] at hK
            have : (rs.ap a.i ta oa).tm = tset rs.tm a.i ta := rfl
            rw [this, tset_comm _ _ _ hne] at hK
            exact hK
    | _ => rw [hwh] at ww; cases ww

/-- Where it is in its order. -/
structure Wf (od : Od) (rs : RS) (L : List Step) : Prop where
  cl : ∀ j, rs.tm j ≠ .no → ∀ k, od.pre j k = true → rs.tm k ≠ .no
  no : ∀ x ∈ L, rs.tm x.i = .no
  dep : ∀ x ∈ L, ∀ k, od.pre x.i k = true → rs.tm k ≠ .no ∨ ∃ y ∈ L, y.i = k

theorem Wf.step {od : Od} {rs rs' : RS} {x : Step} {A B : List Step} (h : Wf od rs (A ++ x :: B)) (hl : Lok od (A ++ x :: B)) (hr : ∀ y ∈ A ++ x :: B, od.pre x.i y.i = false) {t : Tm} (ht : t ≠ .no) (htm : rs'.tm = tset rs.tm x.i t) : Wf od rs' (A ++ B) := by
  have hmem : ∀ y, y ∈ A ++ B → y ∈ A ++ x :: B := fun y hy => by
    rcases List.mem_append.1 hy with h | h
    · exact List.mem_append_left _ h
    · exact List.mem_append_right _ (List.mem_cons_of_mem _ h)
  have more : ∀ k, rs.tm k ≠ .no → rs'.tm k ≠ .no := by
    intro k hk
    rw [htm]
    by_cases e : k = x.i
    · subst e; rw [tset_same]; exact ht
    · rw [tset_ne _ _ e]; exact hk
  refine ⟨fun j hj k hk => ?_, fun y hy => ?_, fun y hy k hk => ?_⟩
  · by_cases e : j = x.i
    · subst e
      rcases h.dep x (by simp) k hk with h1 | ⟨z, hz, rfl⟩
      · exact more k h1
      · rw [hr z hz] at hk; cases hk
    · rw [htm, tset_ne _ _ e] at hj
      exact more k (h.cl j hj k hk)
  · rw [htm, tset_ne _ _ (Lok.ne hl y hy)]
    exact h.no y (hmem y hy)
  · rcases h.dep y (hmem y hy) k hk with h1 | ⟨z, hz, rfl⟩
    · exact Or.inl (more k h1)
    · by_cases e : z.i = x.i
      · left; rw [e, htm, tset_same]; exact ht
      · right
        refine ⟨z, ?_, rfl⟩
        rcases List.mem_append.1 hz with h2 | h2
        · exact List.mem_append_left _ h2
        · rcases List.mem_cons.1 h2 with h3 | h3
          · subst h3; exact absurd rfl e
          · exact List.mem_append_right _ h3

/-- What is ready may come first. -/
theorem bubble {od : Od} {C : Cx} {g : Rg} {x : Step} {B : List Step} {k : RS → Prop} {kp : PV → Hs → Prop} : ∀ {A : List Step} {rs : RS}, Lok od (A ++ x :: B) → (∀ y ∈ A, od.pre x.i y.i = false) → Wf od rs (A ++ x :: B) →
    rgw C g (A ++ x :: B) k kp rs → stp C g x (rgw C g (A ++ B) k kp) kp rs
  | [], rs, hl, hr, hw, h => h
  | y :: A, rs, hl, hr, hw, h => by
    obtain ⟨l1, l2, l3, l4, l5⟩ := hl
    have hyx := l2 x (by simp)
    have wy : y.w.isW = false := by
      cases hc : y.w.isW with
      | false => rfl
      | true =>
        have := l3 hc x (by simp)
        rw [hr y (by simp)] at this; cases this
    have hy0 : ∀ z ∈ [] ++ y :: (A ++ x :: B), od.pre y.i z.i = false := by
      intro z hz
      rcases List.mem_cons.1 hz with rfl | hz
      · exact stepOk_irr l1
      · exact (l2 z hz).1
    have hx := Lok.at l5
    have key : stp C g y (stp C g x (rgw C g (A ++ B) k kp) kp) kp rs := by
      have h' : stp C g y (rgw C g (A ++ x :: B) k kp) kp rs := h
      rw [stp_nw wy] at h' ⊢
      obtain ⟨ob, t, o, e1, h1, h2⟩ := h'
      refine ⟨ob, t, o, e1, h1, bubble l5 (fun z hz => hr z (List.mem_cons_of_mem _ hz)) ?_ h2⟩
      exact Wf.step (A := []) (t := t) hw ⟨l1, l2, l3, l4, l5⟩ hy0 (dlt_own l1 e1).1 rfl
    cases wx : x.w.isW with
    | false => exact comm l1 hx wy wx hyx.2 (hr y (by simp)) hyx.1 key
    | true => exact commw l1 hx wy wx hyx.2 (hr y (by simp)) hyx.1 (l4 x (by simp) wx) (hw.no y (by simp)) hw.cl key
end Go.Pv
