/-
  Values of a program as plain data: a region as a whole.
-/
import Derived.Test.YteapohlamngkpaaDoorPo
import Derived.OrdersIn
import Derived.TacticsIn
namespace Go.Pv
open Go.RowKit
set_option linter.unusedVariables false

/-- A region's text in plain form: how many new things, permits of no list; what comes before what (where the order is drawn); the operations in an order; the variables that are set. -/
structure Rt where
  na : Nat
  al : List Nat
  nn : Nat
  pres : List (List Nat)
  ss : List Step
  outs : List (Nat × Nat)

def memN (k : Nat) : List Nat → Bool
  | [] => false
  | a :: r => Nat.beq a k || memN k r

def rkOf : List Step → Nat → Nat
  | [], _ => 0
  | x :: r, k => match x.w with
    | .a q _ => match Nat.beq q k with
      | true => x.i
      | false => rkOf r k
    | _ => rkOf r k

def odL (ss : List Step) : Od := ⟨fun i k => Nat.blt k i, rkOf ss⟩
def odD (pres : List (List Nat)) (ss : List Step) : Od := ⟨fun i k => memN k (pres.getD i []), rkOf ss⟩

def beqX : X → X → Bool
  | .c v, .c v' => beqPV v v'
  | .nl a b, .nl a' b' => Nat.beq a a' && Nat.beq b b'
  | .g a, .g b => Nat.beq a b
  | .v a, .v b => Nat.beq a b
  | .t a, .t b => Nat.beq a b
  | .vf a, .vf b => Nat.beq a b
  | .tf a, .tf b => Nat.beq a b
  | _, _ => false

theorem beqX_eq {x y : X} (h : beqX x y = true) : x = y := by
  cases x <;> cases y <;> simp only [beqX, Bool.and_eq_true] at h <;> (try (cases h; done))
  · rw [beqPV_eq h]
  · rw [Nat.eq_of_beq_eq_true h.1, Nat.eq_of_beq_eq_true h.2]
  all_goals rw [Nat.eq_of_beq_eq_true h]

def beqL : List Nat → List Nat → Bool
  | [], [] => true
  | a :: x, b :: y => Nat.beq a b && beqL x y
  | _, _ => false

theorem beqL_eq : ∀ {a b : List Nat}, beqL a b = true → a = b
  | [], [], _ => rfl
  | [], _ :: _, h => by cases h
  | _ :: _, [], h => by cases h
  | a :: x, b :: y, h => by
    simp only [beqL, Bool.and_eq_true] at h
    rw [Nat.eq_of_beq_eq_true h.1, beqL_eq h.2]

/-- Of those that look at memory. -/
def beqQ : Q → Q → Bool
  | .ld n x, .ld n' x' => beqN n n' && beqX x x'
  | .lk kd z ok x i, .lk kd' z' ok' x' i' => beqKD kd kd' && beqPV z z' && (match ok, ok' with | true, true => true | false, false => true | _, _ => false) && beqX x x' && beqX i i'
  | .len k x, .len k' x' => Nat.beq k k' && beqX x x'
  | _, _ => false

theorem beqQ_eq {x y : Q} (h : beqQ x y = true) : x = y := by
  unfold beqQ at h
  split at h
  · simp only [Bool.and_eq_true] at h
    rw [beqN_eq h.1, beqX_eq h.2]
  · rename_i kd z ok x i kd' z' ok' x' i'
    simp only [Bool.and_eq_true] at h
    obtain ⟨⟨⟨⟨h1, h2⟩, h3⟩, h4⟩, h5⟩ := h
    rw [beqKD_eq h1, beqPV_eq h2, beqX_eq h4, beqX_eq h5]
    cases ok <;> cases ok' <;> simp at h3 <;> rfl
  · simp only [Bool.and_eq_true] at h
    rw [Nat.eq_of_beq_eq_true h.1, beqX_eq h.2]
  · cases h

def memRe (i : Nat) (see : List Nat) (q : Q) : List (Nat × List Nat × Q) → Bool
  | [] => false
  | (j, see', q') :: r => (Nat.beq j i && beqL see' see && beqQ q' q) || memRe i see q r

theorem memRe_ok {i : Nat} {see : List Nat} {q : Q} : ∀ {l : List (Nat × List Nat × Q)}, memRe i see q l = true → (i, see, q) ∈ l
  | [], h => by cases h
  | (j, see', q') :: r, h => by
    simp only [memRe, Bool.or_eq_true, Bool.and_eq_true] at h
    rcases h with ⟨⟨h1, h2⟩, h3⟩ | h
    · rw [Nat.eq_of_beq_eq_true h1, beqL_eq h2, beqQ_eq h3]; exact List.mem_cons_self
    · exact List.mem_cons_of_mem _ (memRe_ok h)

def coverB (od : Od) (x y : Step) : Bool := od.pre y.i x.i || x.w.isW || (match x.w with
  | .a _ _ => true
  | .q see q => (match q.heap with | true => false | false => true) || memRe x.i see q y.w.re
  | .w _ _ _ => true)

theorem coverB_ok {od : Od} {x y : Step} (h : coverB od x y = true) : Cover od x y := by
  simp only [coverB, Bool.or_eq_true] at h
  rcases h with (h | h) | h
  · exact Or.inr (Or.inl h)
  · exact Or.inl h
  · cases hw : x.w with
    | a r a => exact Or.inr (Or.inr (Or.inl ⟨r, a, hw⟩))
    | w _ _ _ => exact Or.inl (by rw [hw]; rfl)
    | q see q =>
      rw [hw] at h
      simp only [Bool.or_eq_true] at h
      refine Or.inr (Or.inr (Or.inr ⟨see, q, hw, ?_⟩))
      rcases h with h | h
      · left
        cases hh : q.heap with
        | false => rfl
        | true => rw [hh] at h; cases h
      · exact Or.inr (memRe_ok h)

def lokB (od : Od) : List Step → Bool
  | [] => true
  | x :: L => stepOk od x && L.all (fun y => (match od.pre x.i y.i with | true => false | false => true) && (match Nat.beq x.i y.i with | true => false | false => true)) &&
    (match x.w.isW with | true => L.all (fun y => od.pre y.i x.i) | false => true) && L.all (fun y => match y.w.isW with | true => coverB od x y | false => true) && lokB od L

theorem lokB_ok {od : Od} : ∀ {L : List Step}, lokB od L = true → Lok od L
  | [], _ => trivial
  | x :: L, h => by
    simp only [lokB, Bool.and_eq_true, List.all_eq_true] at h
    obtain ⟨⟨⟨⟨h1, h2⟩, h3⟩, h4⟩, h5⟩ := h
    refine ⟨h1, fun y hy => ?_, fun e y hy => ?_, fun y hy e => ?_, lokB_ok h5⟩
    · obtain ⟨g1, g2⟩ := h2 y hy
      constructor
      · cases hc : od.pre x.i y.i with
        | false => rfl
        | true => rw [hc] at g1; cases g1
      · intro e
        rw [e, Nat.beq_refl] at g2; cases g2
    · rw [e] at h3
      simp only [List.all_eq_true] at h3
      exact h3 y hy
    · have := h4 y hy
      rw [e] at this
      exact coverB_ok this

/-! ### The static part -/
def noneO (o : Option Nat) (d : Nat) : Bool := match o with
  | none => true
  | some t => match Nat.beq t d with | true => false | false => true

def dstL : List Oper → Bool
  | [] => true
  | o :: r => (match o.dst with
    | none => true
    | some t => r.all fun p => noneO p.dst t) && dstL r

def beqG : Option (Nat × Bool) → Option (Nat × Bool) → Bool
  | none, none => true
  | some (a, b), some (c, d) => Nat.beq a c && (match b, d with | true, true => true | false, false => true | _, _ => false)
  | _, _ => false

def ltO (o : Option Nat) (sz : Nat) : Bool := match o with
  | none => true
  | some t => Nat.blt t sz

/-- The operation and its plain form, one by one. -/
def chkL (C : Cx) (ops : Array Oper) (od : Od) (sz na : Nat) : List Step → Bool
  | [] => true
  | x :: r => (match ops[x.i]? with
    | some o => beqG o.guard x.g && chkS C (cxR ops od x.i) o.op x.w && ltO o.dst sz && (match x.g with
        | some (j, _) => (match ops[j]? with | some oj => oj.dst.isSome | none => true)
        | none => true) && (match x.w with | .a q _ => Nat.blt q na | _ => true)
    | none => false) && chkL C ops od sz na r

def memP (d j : Nat) : List (Nat × Nat) → Bool
  | [] => false
  | (a, b) :: r => (Nat.beq a d && Nat.beq b j) || memP d j r

/-- What is set is told, and what is told is set. -/
def chkO (V : List Nat) (outs : List (Nat × Nat)) : List Oper → Nat → Bool
  | [], _ => true
  | o :: r, j => (match o.dst with
    | some d => match memN d V with
      | true => memP d j outs
      | false => true
    | none => true) && chkO V outs r (Nat.succ j)

def chkO2 (V : List Nat) (ops : Array Oper) : List (Nat × Nat) → Bool
  | [] => true
  | (d, j) :: r => memN d V && (match ops[j]? with | some o => beqN o.dst (some d) | none => false) && chkO2 V ops r

def idxL : List Step → Nat → Bool
  | [], _ => true
  | x :: r, k => Nat.beq x.i k && idxL r (Nat.succ k)

def bindsB (e : Edge) : Bool := Region.binds .any e

/-- What comes before: by the text's edges. -/
def chkE (od : Od) : List Oper → Nat → List (List Nat) → Bool
  | [], _, _ => true
  | _ :: _, _, [] => false
  | o :: r, i, p :: ps => o.after.toList.all (fun e => match bindsB e with | true => Nat.blt e.on i && memN e.on p | false => true) &&
      p.all (fun k => o.after.toList.any fun e => match bindsB e with | true => Nat.beq e.on k || od.pre e.on k | false => false) && chkE od r (Nat.succ i) ps

/-- Each of them. -/
def allI (ss : List Step) : Nat → Bool
  | 0 => true
  | k + 1 => ss.any (fun x => Nat.beq x.i k) && allI ss k

def upN : Nat → Nat → List Nat
  | 0, _ => []
  | n + 1, k => k :: upN n (Nat.succ k)

theorem upN_eq : ∀ n k, upN n k = List.range' k n
  | 0, k => rfl
  | n + 1, k => by rw [upN, upN_eq n]; rfl

def chkR (C : Cx) (V : List Nat) (sz : Nat) (ops : Array Oper) (drw : Bool) (rt : Rt) : Bool :=
  (match drw with
    | false => lokB (odL rt.ss) rt.ss && chkL C ops (odL rt.ss) sz rt.na rt.ss && idxL rt.ss 0
    | true => lokB (odD rt.pres rt.ss) rt.ss && chkL C ops (odD rt.pres rt.ss) sz rt.na rt.ss && chkE (odD rt.pres rt.ss) ops.toList 0 rt.pres && allI rt.ss ops.size) &&
  Nat.beq rt.ss.length ops.size && beqL rt.al (upN rt.na 0) && dstL ops.toList && chkO V rt.outs ops.toList 0 && chkO2 V ops rt.outs

theorem memN_ok {k : Nat} : ∀ {l : List Nat}, memN k l = true ↔ k ∈ l
  | [] => by simp [memN]
  | a :: r => by
    simp only [memN, Bool.or_eq_true, List.mem_cons, memN_ok (l := r)]
    exact ⟨fun h => h.imp (fun e => (Nat.eq_of_beq_eq_true e).symm) (fun e => e), fun h => h.imp (fun e => by rw [e]; exact Nat.beq_refl _) (fun e => e)⟩

theorem memP_ok {d j : Nat} : ∀ {l : List (Nat × Nat)}, memP d j l = true → (d, j) ∈ l
  | [], h => by cases h
  | (a, b) :: r, h => by
    simp only [memP, Bool.or_eq_true, Bool.and_eq_true] at h
    rcases h with ⟨h1, h2⟩ | h
    · rw [Nat.eq_of_beq_eq_true h1, Nat.eq_of_beq_eq_true h2]; exact List.mem_cons_self
    · exact List.mem_cons_of_mem _ (memP_ok h)

theorem dstL_ok : ∀ {l : List Oper}, dstL l = true → ∀ (i j : Nat) (o o' : Oper) t, l[i]? = some o → l[j]? = some o' → o.dst = some t → o'.dst = some t → i = j
  | [], _, i, j, o, o', t, h1, _, _, _ => by simp at h1
  | x :: l, h, 0, 0, o, o', t, h1, h2, h3, h4 => rfl
  | x :: l, h, 0, j + 1, o, o', t, h1, h2, h3, h4 => by
    simp at h1; subst h1
    simp only [dstL, h3, Bool.and_eq_true, List.all_eq_true] at h
    have := h.1 o' (List.mem_of_getElem? (by simpa using h2))
    simp [noneO, h4] at this
  | x :: l, h, i + 1, 0, o, o', t, h1, h2, h3, h4 => by
    simp at h2; subst h2
    simp only [dstL, h4, Bool.and_eq_true, List.all_eq_true] at h
    have := h.1 o (List.mem_of_getElem? (by simpa using h1))
    simp [noneO, h3] at this
  | x :: l, h, i + 1, j + 1, o, o', t, h1, h2, h3, h4 => by
    simp only [dstL, Bool.and_eq_true] at h
    rw [dstL_ok h.2 i j o o' t (by simpa using h1) (by simpa using h2) h3 h4]

theorem chkO_ok {V : List Nat} {outs : List (Nat × Nat)} : ∀ {l : List Oper} {j0 : Nat}, chkO V outs l j0 = true → ∀ j o d, l[j]? = some o → o.dst = some d → d ∈ V → (d, j0 + j) ∈ outs
  | [], j0, _, j, o, d, h1, _, _ => by simp at h1
  | x :: l, j0, h, 0, o, d, h1, h2, h3 => by
    simp at h1; subst h1
    simp only [chkO, h2, Bool.and_eq_true] at h
    have := h.1
    rw [memN_ok.2 h3] at this
    exact memP_ok this
  | x :: l, j0, h, j + 1, o, d, h1, h2, h3 => by
    simp only [chkO, Bool.and_eq_true] at h
    have := chkO_ok h.2 j o d (by simpa using h1) h2 h3
    rw [show Nat.succ j0 + j = j0 + (j + 1) by omega] at this
    exact this

theorem chkO2_ok {V : List Nat} {ops : Array Oper} : ∀ {l : List (Nat × Nat)}, chkO2 V ops l = true → ∀ d j, (d, j) ∈ l → d ∈ V ∧ ∃ o, ops[j]? = some o ∧ o.dst = some d
  | [], _, d, j, h => (by cases h)
  | (a, b) :: r, h, d, j, hm => by
    simp only [chkO2, Bool.and_eq_true] at h
    obtain ⟨⟨h1, h2⟩, h3⟩ := h
    rcases List.mem_cons.1 hm with e | hm
    · cases e
      split at h2
      · rename_i o ho
        exact ⟨memN_ok.1 h1, o, ho, beqN_eq h2⟩
      · cases h2
    · exact chkO2_ok h3 d j hm

theorem beqG_eq {a b : Option (Nat × Bool)} (h : beqG a b = true) : a = b := by
  cases a with
  | none => cases b with
    | none => rfl
    | some _ => cases h
  | some x => cases b with
    | none => obtain ⟨_, _⟩ := x; cases h
    | some y =>
      obtain ⟨i, p⟩ := x
      obtain ⟨j, q⟩ := y
      simp only [beqG, Bool.and_eq_true] at h
      rw [Nat.eq_of_beq_eq_true h.1]
      cases p <;> cases q <;> simp at h <;> rfl

theorem chkL_ok {C : Cx} {ops : Array Oper} {od : Od} {sz na : Nat} : ∀ {l : List Step}, chkL C ops od sz na l = true → ∀ x ∈ l, ∃ o, ops[x.i]? = some o ∧ o.guard = x.g ∧ chkS C (cxR ops od x.i) o.op x.w = true ∧ (∀ t, o.dst = some t → t < sz) ∧
    (∀ j b oj, x.g = some (j, b) → ops[j]? = some oj → oj.dst.isSome = true) ∧ (∀ r a, x.w = .a r a → r < na)
  | [], _, x, hx => (by cases hx)
  | y :: l, h, x, hx => by
    simp only [chkL, Bool.and_eq_true] at h
    rcases List.mem_cons.1 hx with rfl | hx
    · have h1 := h.1
      split at h1
      case h_2 => cases h1
      rename_i o ho
      simp only [Bool.and_eq_true] at h1
      obtain ⟨⟨⟨⟨h1, h2⟩, h3⟩, h4⟩, h5⟩ := h1
      refine ⟨o, ho, beqG_eq h1, h2, fun t ht => ?_, fun j b oj hg hoj => ?_, fun r a hw => ?_⟩
      · rw [ht] at h3; simpa [ltO, Nat.blt_eq] using h3
      · rw [hg] at h4; simpa [hoj] using h4
      · rw [hw] at h5; simpa [Nat.blt_eq] using h5
    · exact chkL_ok h.2 x hx

theorem idxL_ok : ∀ {l : List Step} {k : Nat}, idxL l k = true → ∀ j x, l[j]? = some x → x.i = k + j
  | [], k, _, j, x, h => by simp at h
  | y :: l, k, h, 0, x, hx => by
    simp at hx; subst hx
    simp only [idxL, Bool.and_eq_true] at h
    rw [Nat.eq_of_beq_eq_true h.1]; rfl
  | y :: l, k, h, j + 1, x, hx => by
    simp only [idxL, Bool.and_eq_true] at h
    rw [idxL_ok h.2 j x (by simpa using hx)]; omega

theorem allI_ok {ss : List Step} : ∀ {n : Nat}, allI ss n = true → ∀ i, i < n → ∃ x ∈ ss, x.i = i
  | 0, _, i, h => by omega
  | n + 1, h, i, hi => by
    simp only [allI, Bool.and_eq_true, List.any_eq_true] at h
    by_cases e : i = n
    · obtain ⟨x, hx, hb⟩ := h.1
      exact ⟨x, hx, by rw [e]; exact Nat.eq_of_beq_eq_true hb⟩
    · exact allI_ok h.2 i (by omega)

theorem chkE_ok {od : Od} : ∀ {l : List Oper} {i0 : Nat} {ps : List (List Nat)}, chkE od l i0 ps = true → ∀ i o, l[i]? = some o →
    (∀ e ∈ o.after, Region.binds .any e = true → e.on < i0 + i ∧ e.on ∈ ps.getD i []) ∧ ∀ k ∈ ps.getD i [], ∃ e ∈ o.after, Region.binds .any e = true ∧ (e.on = k ∨ od.pre e.on k = true)
  | [], i0, ps, _, i, o, h => by simp at h
  | x :: l, i0, [], h, i, o, hi => by cases h
  | x :: l, i0, p :: ps, h, 0, o, hi => by
    simp at hi; subst hi
    simp only [chkE, Bool.and_eq_true, List.all_eq_true, List.any_eq_true] at h
    obtain ⟨⟨h1, h2⟩, _⟩ := h
    constructor
    · intro e he hb
      have := h1 e (by simpa using he)
      rw [show bindsB e = true from hb] at this
      simp only [Bool.and_eq_true, Nat.blt_eq] at this
      exact ⟨this.1, memN_ok.1 this.2⟩
    · intro k hk
      obtain ⟨e, he, hb⟩ := h2 k hk
      split at hb
      · rename_i hb2
        simp only [Bool.or_eq_true] at hb
        exact ⟨e, by simpa using he, hb2, hb.imp (fun h => Nat.eq_of_beq_eq_true h) (fun h => h)⟩
      · cases hb
  | x :: l, i0, p :: ps, h, i + 1, o, hi => by
    simp only [chkE, Bool.and_eq_true] at h
    have := chkE_ok h.2 i o (by simpa using hi)
    rw [show Nat.succ i0 + i = i0 + (i + 1) by omega] at this
    simpa using this

/-! ### From its start to its end -/
structure St where
  fr : Nat → Option PV
  s : Hs

structure SR (C : Cx) (V : List Nat) (sz : Nat) (d : List Deferred) (E : Env) (st : St) (a : Act) (w : World) : Prop where
  sh : SH C E st.s w.heap
  fr : ∀ s v, st.fr s = some v → s ∈ V ∧ ∃ x, a.tmps[s]? = some x ∧ Rep E v x
  sz : a.tmps.size = sz
  df : a.defers = d

def nilT (m1 : Nat) : Nat → (Nat → Option Nat) → (Nat → Option Nat)
  | 0, T => T
  | r + 1, T => hset (nilT m1 r T) (m1 + r) (some 0)

def outsP (tm : Nat → Tm) : List (Nat × Nat) → (Nat → Option PV) → Option (Nat → Option PV)
  | [], fr => some fr
  | (d, j) :: r, fr => match tm j with
    | .val v => outsP tm r (hset fr d (some v))
    | _ => none

def outK (rt : Rt) (g : Rg) (al : List Nat) (K : St → Prop) (rs : RS) : Prop := match outsP rs.tm rt.outs g.fr with
  | some fr' => K ⟨fr', addL g al rs.pd rs.s⟩
  | none => False

def regW (C : Cx) (rt : Rt) (K : St → Prop) (kp : PV → Hs → Prop) (st : St) : Prop :=
  rgw C ⟨st.fr, st.s.n, st.s.m, st.s.m + rt.na⟩ rt.ss (outK rt ⟨st.fr, st.s.n, st.s.m, st.s.m + rt.na⟩ rt.al K) kp
    ⟨fun _ => .no, fun _ => none, ⟨st.s.H, nilT (st.s.m + rt.na) rt.nn st.s.T, st.s.n + rt.na, st.s.m + rt.na + rt.nn⟩⟩

theorem nils_post {C : Cx} {E : Env} {s : Hs} {w : World} (h : SH C E s w.heap) (na : Nat) : ∀ nn, Post C s.n s.m E s w E ⟨s.H, nilT (s.m + na) nn s.T, s.n + na, s.m + na + nn⟩ w
  | 0 => (Post.refl h).sub (s1 := ⟨s.H, s.T, s.n + na, s.m + na⟩) ⟨fun _ _ e => e, fun _ _ e => e⟩ (Nat.le_add_right _ _) (Nat.le_add_right _ _)
  | nn + 1 => by
    have h1 := nils_post h na nn
    exact h1.trans (Post.newnil h1.sh (q := s.m + na + nn) (m' := s.m + na + (nn + 1)) (Nat.le_refl _) (by omega) (by omega))

theorem nilT_get (m1 : Nat) (T : Nat → Option Nat) {p : Nat} : ∀ nn, p < m1 → nilT m1 nn T p = T p
  | 0, _ => rfl
  | nn + 1, h => by rw [nilT, hset_ne _ _ (by omega)]; exact nilT_get m1 T nn h

theorem addL_none (g : Rg) : ∀ (l : List Nat) (s : Hs), addL g l (fun _ => none) s = s
  | [], s => rfl
  | r :: l, s => addL_none g l s

section
variable {C : Cx} {V : List Nat} {sz : Nat} {d : List Deferred} {ops : Array Oper} {rt : Rt}

theorem outsP_ok {tm : Nat → Tm} : ∀ {outs : List (Nat × Nat)} {fr fr' : Nat → Option PV}, outsP tm outs fr = some fr' → ∀ s v, fr' s = some v → (∃ j, (s, j) ∈ outs ∧ tm j = .val v) ∨ (fr s = some v ∧ ∀ j, (s, j) ∉ outs)
  | [], fr, fr', h, s, v, hs => by simp only [outsP, Option.some.injEq] at h; subst h; exact Or.inr ⟨hs, fun j hj => (by cases hj)⟩
  | (d, j) :: r, fr, fr', h, s, v, hs => by
    simp only [outsP] at h
    split at h
    case h_2 => cases h
    rename_i u hu
    rcases outsP_ok h s v hs with ⟨j', h1, h2⟩ | ⟨h1, h2⟩
    · exact Or.inl ⟨j', List.mem_cons_of_mem _ h1, h2⟩
    · by_cases e : s = d
      · subst e
        rw [hset_same] at h1; cases h1
        exact Or.inl ⟨j, List.mem_cons_self, hu⟩
      · rw [hset_ne _ _ e] at h1
        exact Or.inr ⟨h1, fun j' hj => (List.mem_cons.1 hj).elim (fun e2 => by cases e2; exact e rfl) (h2 j')⟩

/-- At its end. -/
theorem out_ok {E0 E : Env} {s0 : Hs} {w0 w : World} {g : Rg} {rs : RS} {a : Act} {st0 : St} {a0 : Act} {w1 : World} (sr : SR C V sz d E0 st0 a0 w1) (hg : g.fr = st0.fr) (h : RR C g ops sz rt.na d E0 s0 w0 [] E rs a w)
    (ho : chkO V rt.outs ops.toList 0 = true) (ho2 : chkO2 V ops rt.outs = true) {K : St → Prop} (hk : outK rt g (List.range rt.na) K rs) :
    ∃ st', K st' ∧ SR C V sz d E st' a w ∧ Post C s0.n s0.m E0 s0 w0 E st'.s w := by
  unfold outK at hk
  split at hk
  case h_2 => exact hk.elim
  rename_i fr' hfr
  refine ⟨_, hk, ⟨h.post.sh, fun s v hs => ?_, h.sz, h.df⟩, h.post⟩
  rcases outsP_ok hfr s v hs with ⟨j, h1, h2⟩ | ⟨h1, h2⟩
  · obtain ⟨g1, o, g2, g3⟩ := chkO2_ok ho2 s j h1
    obtain ⟨x, e1, e2⟩ := h.tm j o s g2 g3 (by rw [h2]; simp)
    rw [h2] at e2
    exact ⟨g1, x, e1, e2⟩
  · have hV := (sr.fr s v (by rw [← hg]; exact h1)).1
    refine ⟨hV, ?_⟩
    refine h.fr s v h1 (fun j o hj hoj hd => ?_)
    have := chkO_ok ho j o s (by simpa using hoj) hd hV
    rw [Nat.zero_add] at this
    exact h2 j this

/-- At its start. -/
theorem start_ok {E : Env} {st : St} {a : Act} {w w' : World} (sr : SR C V sz d E st a w) (hw : w'.heap = w.heap) (hp : Post C st.s.n st.s.m E st.s w E st.s w') (hna : ∀ x ∈ rt.ss, ∀ r al, x.w = .a r al → r < rt.na) :
    RR C ⟨st.fr, st.s.n, st.s.m, st.s.m + rt.na⟩ ops sz rt.na d E st.s w rt.ss E ⟨fun _ => .no, fun _ => none, ⟨st.s.H, nilT (st.s.m + rt.na) rt.nn st.s.T, st.s.n + rt.na, st.s.m + rt.na + rt.nn⟩⟩ a w' := by
  have h1 := nils_post hp.sh rt.na rt.nn
  refine ⟨?_, ⟨Nat.le_refl _, Nat.le_refl _⟩, ⟨Nat.le_refl _, Nat.le_add_right _ _⟩, fun s v hs _ => (sr.fr s v hs).2, fun j o t _ _ hj => absurd rfl hj, fun j hj => absurd rfl hj, fun x hx r al hxa => ?_, (fun r nd h => (by cases h)), sr.sz, sr.df⟩
  · show Post C st.s.n st.s.m E st.s w E (addL _ _ (fun _ => none) _) w'
    rw [addL_none]
    exact hp.trans h1
  · have hr := hna x hx r al hxa
    have hb := sr.sh.freshb (st.s.n + r) (Nat.le_add_right _ _)
    have ht := fun l => sr.sh.fresht (st.s.m + r) l (Nat.le_add_right _ _)
    refine ⟨hr, hb, ht, rfl, ?_, ?_⟩
    · show st.s.H (st.s.n + r) = none
      cases hc : st.s.H (st.s.n + r) with
      | none => rfl
      | some o => obtain ⟨b, hb'⟩ := sr.sh.toth _ o hc; rw [hb] at hb'; cases hb'
    · show nilT (st.s.m + rt.na) rt.nn st.s.T (st.s.m + r) = none
      rw [nilT_get _ _ _ (by omega)]
      cases hc : st.s.T (st.s.m + r) with
      | none => rfl
      | some l =>
        rcases sr.sh.tott _ l hc with ⟨x, hx⟩ | ⟨_, h2, _⟩
        · rw [ht] at hx; cases hx
        · omega

variable (hC : C.Ok) {ro : Option Nat} {Q : Exit → Act → World → Prop} {E0 : Env} {s0 : Hs} {w0 : World} {g : Rg} {K : RS → Prop} {kp : PV → Hs → Prop}
include hC

/-- In the text's order. -/
theorem list_ok (hdst : ∀ (i j : Nat) (o o' : Oper) t, ops[i]? = some o → ops[j]? = some o' → o.dst = some t → o'.dst = some t → i = j)
    (hK : ∀ E rs a w, K rs → RR C g ops sz rt.na d E0 s0 w0 [] E rs a w → Q .normal a w) (hP : ∀ v s' E a w x, kp v s' → Rep E v x → a.defers = d ∧ a.tmps.size = sz → Post C s0.n s0.m E0 s0 w0 E s' w → Q (.panic (panicOf x)) a w) :
    ∀ {L : List Step} {k : Nat}, chkL C ops (odL rt.ss) sz rt.na L = true → (∀ j x, L[j]? = some x → x.i = k + j) → k + L.length = ops.size → Lok (odL rt.ss) L → ∀ {E : Env} {rs : RS} {a : Act} {w : World},
      Wf (odL rt.ss) rs L → RR C g ops sz rt.na d E0 s0 w0 L E rs a w → rgw C g L K kp rs → wpListIn (Fw ro) 0 C.P ops Q (ops.toList.drop k) a w
  | [], k, hc, hi, hn, hl, E, rs, a, w, hwf, hr, hx => by
    have : ops.toList.drop k = [] := List.drop_eq_nil_of_le (by simp at hn ⊢; omega)
    rw [this]
    exact hK E rs a w hx hr
  | st :: L, k, hc, hi, hn, hl, E, rs, a, w, hwf, hr, hx => by
    obtain ⟨o, ho, hg, hk, hsz, hgd, _⟩ := chkL_ok hc st (by simp)
    have hik : st.i = k := by have := hi 0 st rfl; simpa using this
    have hcL : chkL C ops (odL rt.ss) sz rt.na L = true := by simp only [chkL, Bool.and_eq_true] at hc; exact hc.2
    have hdrop : ops.toList.drop k = o :: ops.toList.drop (k + 1) := by
      rw [hik] at ho
      have ho' : ops.toList[k]? = some o := by simpa using ho
      obtain ⟨hlt, he⟩ := List.getElem?_eq_some_iff.1 ho'
      rw [List.drop_eq_getElem_cons hlt, he]
    have key := step_ok hC (ro := ro) (A := []) (B := L) (a := a) (w := w) (Q := Q) (KK := wpListIn (Fw ro) 0 C.P ops Q (ops.toList.drop (k + 1))) hr hl hwf ho hg hgd hk hdst hsz hx
      (fun E' rs' a' w' t hKr ht htm hr' => list_ok hdst hK hP hcL (fun j x hj => by have := hi (j + 1) x (by simpa using hj); omega) (by simp only [List.length_cons] at hn; omega) hl.2.2.2.2
        (Wf.step (A := []) hwf hl (by
          intro y hy
          rcases List.mem_cons.1 hy with rfl | hy
          · exact stepOk_irr hl.1
          · exact (hl.2.1 y hy).1) ht htm) hr' hKr)
      (fun v s' E' w' x h1 h2 h3 => hP v s' E' a w' x h1 h2 ⟨hr.df, hr.sz⟩ h3)
    rw [hdrop]
    unfold wpListIn
    split
    · rename_i hw; exact key.1 hw
    · rename_i hw; exact ⟨fun _ _ => trivial, key.2 (by simpa using hw)⟩

/-- In whatever order. -/
theorem any_ok {od : Od} (hdst : ∀ (i j : Nat) (o o' : Oper) t, ops[i]? = some o → ops[j]? = some o' → o.dst = some t → o'.dst = some t → i = j)
    (he1 : ∀ i o, ops[i]? = some o → (∀ e ∈ o.after, Region.binds .any e = true → e.on < i ∧ od.pre i e.on = true) ∧ ∀ k, od.pre i k = true → ∃ e ∈ o.after, Region.binds .any e = true ∧ (e.on = k ∨ od.pre e.on k = true))
    (hK : ∀ E rs a w, K rs → RR C g ops sz rt.na d E0 s0 w0 [] E rs a w → Q .normal a w) (hP : ∀ v s' E a w x, kp v s' → Rep E v x → a.defers = d ∧ a.tmps.size = sz → Post C s0.n s0.m E0 s0 w0 E s' w → Q (.panic (panicOf x)) a w) :
    ∀ (fuel : Nat) {L : List Step} {listed : Array Bool}, chkL C ops od sz rt.na L = true → L.length ≤ fuel → Lok od L → listed.size = ops.size → (∀ i, i < ops.size → (listed.getD i true = false ↔ ∃ x ∈ L, x.i = i)) → ∀ {E : Env} {rs : RS} {a : Act} {w : World},
      Wf od rs L → (∀ i, i < ops.size → (listed.getD i false = true ↔ rs.tm i ≠ .no)) → RR C g ops sz rt.na d E0 s0 w0 L E rs a w → rgw C g L K kp rs → wpAnyIn (Fw ro) 0 C.P .any ops Q fuel listed a w := by
  -- what is listed has all before it listed
  have hgetD : ∀ (listed : Array Bool) i, i < listed.size → listed.getD i true = listed.getD i false := by
    intro listed i hi
    simp [hi]
  have ready_pre : ∀ {rs : RS} {L : List Step} {listed : Array Bool}, listed.size = ops.size → Wf od rs L → (∀ i, i < ops.size → (listed.getD i false = true ↔ rs.tm i ≠ .no)) → ∀ i o, ops[i]? = some o →
      (∀ e ∈ o.after, Region.binds .any e = true → listed.getD e.on false = true) → ∀ k, od.pre i k = true → rs.tm k ≠ .no := by
    intro rs L listed hsz hwf htl i o ho hall k hk
    obtain ⟨e, he, hb, h2⟩ := (he1 i o ho).2 k hk
    have hlt : i < ops.size := (Array.getElem?_eq_some_iff.1 ho).1
    have hon := ((he1 i o ho).1 e he hb).1
    have hdone := (htl e.on (by omega)).1 (hall e he hb)
    rcases h2 with h2 | h2
    · rw [← h2]; exact hdone
    · exact hwf.cl e.on hdone k h2
  have empty_ready : ∀ {L : List Step} {listed : Array Bool}, L = [] → listed.size = ops.size → (∀ i, i < ops.size → (listed.getD i true = false ↔ ∃ x ∈ L, x.i = i)) → Region.ready .any ops listed = [] := by
    intro L listed hL hsz hln
    cases hr : Region.ready .any ops listed with
    | nil => rfl
    | cons i r =>
      have hm : i ∈ Region.ready .any ops listed := by rw [hr]; simp
      rw [mem_ready] at hm
      obtain ⟨h1, o, ho, _⟩ := hm
      have hlt : i < ops.size := (Array.getElem?_eq_some_iff.1 ho).1
      obtain ⟨x, hx, _⟩ := (hln i hlt).1 h1
      rw [hL] at hx; cases hx
  intro fuel
  induction fuel with
  | zero =>
    intro L listed hc hlen hl hsz hln E rs a w hwf htl hr hx
    have hL : L = [] := List.eq_nil_of_length_eq_zero (Nat.le_zero.1 hlen)
    refine ⟨empty_ready hL hsz hln, ?_⟩
    subst hL
    exact hK E rs a w hx hr
  | succ fuel ih =>
    intro L listed hc hlen hl hsz hln E rs a w hwf htl hr hx
    refine ⟨fun hre => ?_, fun i hi => ?_⟩
    · cases L with
      | nil => exact hK E rs a w hx hr
      | cons st L =>
        exfalso
        obtain ⟨o, ho, _⟩ := chkL_ok hc st (by simp)
        have hlt : st.i < ops.size := (Array.getElem?_eq_some_iff.1 ho).1
        have : st.i ∈ Region.ready .any ops listed := by
          rw [mem_ready]
          refine ⟨(hln st.i hlt).2 ⟨st, by simp, rfl⟩, o, ho, fun e he hb => ?_⟩
          obtain ⟨h1, h2⟩ := (he1 st.i o ho).1 e he hb
          rw [htl e.on (by omega)]
          rcases hwf.dep st (by simp) e.on h2 with h3 | ⟨y, hy, hye⟩
          · exact h3
          · exfalso
            rcases List.mem_cons.1 hy with rfl | hy
            · rw [← hye] at h2
              rw [stepOk_irr hl.1] at h2; cases h2
            · rw [← hye, (hl.2.1 y hy).1] at h2; cases h2
        rw [hre] at this; cases this
    · rw [mem_ready] at hi
      obtain ⟨h1, o, ho, hall⟩ := hi
      have hlt : i < ops.size := (Array.getElem?_eq_some_iff.1 ho).1
      obtain ⟨st, hst, rfl⟩ := (hln i hlt).1 h1
      obtain ⟨A, B, rfl⟩ := List.append_of_mem hst
      obtain ⟨o', ho', hg, hk, hdsz, hgd, _⟩ := chkL_ok hc st hst
      rw [ho] at ho'; cases ho'
      have hpre := ready_pre hsz hwf htl st.i o ho hall
      have hr0 : ∀ y ∈ A ++ st :: B, od.pre st.i y.i = false := by
        intro y hy
        cases hp : od.pre st.i y.i with
        | false => rfl
        | true => exact absurd (hwf.no y hy) (hpre y.i hp)
      have hb := bubble hl (fun y hy => hr0 y (List.mem_append_left _ hy)) hwf hx
      have hcAB : chkL C ops od sz rt.na (A ++ B) = true := by
        clear hr hwf hl hln hst hlen hr0 hb hx
        induction A with
        | nil => simp only [List.nil_append, chkL, Bool.and_eq_true] at hc ⊢; exact hc.2
        | cons y A ihA => simp only [List.cons_append, chkL, Bool.and_eq_true] at hc ⊢; exact ⟨hc.1, ihA hc.2⟩
      have key := step_ok hC (ro := ro) (a := a) (w := w) (Q := Q) (KK := wpAnyIn (Fw ro) 0 C.P .any ops Q fuel (listed.setIfInBounds st.i true)) hr hl hwf ho hg hgd hk hdst hdsz hb
        (fun E' rs' a' w' t hKr ht htm hr' => by
          have hne := Lok.ne hl
          refine ih (listed := listed.setIfInBounds st.i true) hcAB (by simp only [List.length_append, List.length_cons] at hlen ⊢; omega) (Lok.drop hl) (by simp [hsz]) (fun j hj => ?_) (Wf.step hwf hl hr0 ht htm) (fun j hj => ?_) hr' hKr
          · by_cases e : j = st.i
            · subst e
              have hs : (listed.setIfInBounds st.i true).getD st.i true = true := by simp
              rw [hs]
              refine ⟨(fun h => (by cases h)), fun ⟨y, hy, hye⟩ => absurd hye (hne y hy)⟩
            · rw [getD_set_ne true (fun e2 => e e2.symm), hln j hj]
              constructor
              · rintro ⟨y, hy, rfl⟩
                refine ⟨y, ?_, rfl⟩
                rcases List.mem_append.1 hy with h | h
                · exact List.mem_append_left _ h
                · rcases List.mem_cons.1 h with h2 | h2
                  · subst h2; exact absurd rfl e
                  · exact List.mem_append_right _ h2
              · rintro ⟨y, hy, rfl⟩
                refine ⟨y, ?_, rfl⟩
                rcases List.mem_append.1 hy with h | h
                · exact List.mem_append_left _ h
                · exact List.mem_append_right _ (List.mem_cons_of_mem _ h)
          · rw [htm]
            by_cases e : j = st.i
            · subst e
              rw [tset_same]
              have hs : (listed.setIfInBounds st.i true).getD st.i false = true := by simp [hsz, hlt]
              rw [hs]
              exact ⟨fun _ => ht, fun _ => rfl⟩
            · rw [getD_set_ne false (fun e2 => e e2.symm), tset_ne _ _ e, htl j hj])
        (fun v s' E' w' x h1 h2 h3 => hP v s' E' a w' x h1 h2 ⟨hr.df, hr.sz⟩ h3)
      unfold wpOpIn
      rw [ho]
      simp only
      split
      · rename_i hw; exact key.1 hw
      · rename_i hw; exact ⟨fun _ _ => trivial, key.2 (by simpa using hw)⟩

/-- A region. -/
theorem region_ok {drw : Bool} {id : Nat} (hchk : chkR C V sz ops drw rt = true) {E : Env} {st : St} {a : Act} {w : World} (sr : SR C V sz d E st a w) {K : St → Prop} (hx : regW C rt K kp st)
    (hK : ∀ st' E' a' w', K st' → SR C V sz d E' st' a' w' → Post C st.s.n st.s.m E st.s w E' st'.s w' → Q .normal a' w') (hP : ∀ v s' E' a' w' x, kp v s' → Rep E' v x → a'.defers = d ∧ a'.tmps.size = sz → Post C st.s.n st.s.m E st.s w E' s' w' → Q (.panic (panicOf x)) a' w') :
    (Code.region id ops drw).wpIn (Fw ro) 0 C.P Q a w := by
  simp only [chkR, Bool.and_eq_true] at hchk
  obtain ⟨⟨⟨⟨⟨h1, h2⟩, h0⟩, h3⟩, h4⟩, h5⟩ := hchk
  have hal : rt.al = List.range rt.na := by rw [beqL_eq h0, upN_eq, List.range_eq_range']
  unfold regW at hx
  rw [hal] at hx
  have hlen := Nat.eq_of_beq_eq_true h2
  have hdst : ∀ (i j : Nat) (o o' : Oper) t, ops[i]? = some o → ops[j]? = some o' → o.dst = some t → o'.dst = some t → i = j :=
    fun i j o o' t e1 e2 => dstL_ok h3 i j o o' t (by simpa using e1) (by simpa using e2)
  have fin : ∀ E' rs' a' w', outK rt ⟨st.fr, st.s.n, st.s.m, st.s.m + rt.na⟩ (List.range rt.na) K rs' → RR C ⟨st.fr, st.s.n, st.s.m, st.s.m + rt.na⟩ ops sz rt.na d E st.s w [] E' rs' a' w' → Q .normal a' w' := by
    intro E' rs' a' w' hk hr
    obtain ⟨st', k1, k2, k3⟩ := out_ok (rt := rt) sr rfl hr h4 h5 hk
    exact hK st' E' a' w' k1 k2 k3
  cases drw with
  | false =>
    simp only [Bool.and_eq_true] at h1
    obtain ⟨⟨g1, g2⟩, g3⟩ := h1
    refine wpIn_region_list ?_
    have hr := start_ok (ops := ops) sr rfl (Post.refl sr.sh) (fun x hx r al hxa => (chkL_ok g2 x hx).choose_spec.2.2.2.2.2 r al hxa)
    have := list_ok hC (ro := ro) (Q := Q) hdst fin hP (k := 0) g2 (fun j x hj => by have := idxL_ok g3 j x hj; simpa using this) (by omega) (lokB_ok g1) (Wf.mk (fun j hj => absurd rfl hj) (fun _ _ => rfl) (fun x hx k hk => ?_)) hr hx
    · simpa using this
    · -- all before stand in the list
      right
      obtain ⟨j, hjl, hje⟩ := List.getElem_of_mem hx
      have hxi := idxL_ok g3 j x (by rw [List.getElem?_eq_getElem hjl, hje])
      have hk' : k < x.i := by simpa [odL, Nat.blt_eq] using hk
      have hkl : k < rt.ss.length := by omega
      refine ⟨rt.ss[k], List.getElem_mem hkl, ?_⟩
      have := idxL_ok g3 k rt.ss[k] (List.getElem?_eq_getElem hkl)
      omega
  | true =>
    simp only [Bool.and_eq_true] at h1
    obtain ⟨⟨⟨g1, g2⟩, g3⟩, g4⟩ := h1
    refine wpIn_region_any hC.mixed ?_
    have hr := start_ok (ops := ops) sr (w' := { w with drawn := w.drawn + 1 }) rfl (SH.drew sr.sh) (fun x hx r al hxa => (chkL_ok g2 x hx).choose_spec.2.2.2.2.2 r al hxa)
    have hfalse : ∀ i, (Array.replicate ops.size false).getD i false = false := by
      intro i
      simp only [Array.getD_eq_getD_getElem?, Array.getElem?_replicate]
      split <;> rfl
    refine any_ok hC (od := odD rt.pres rt.ss) (Q := Q) hdst (fun i o ho => ?_) fin hP ops.size g2 (by omega) (lokB_ok g1) (by simp) (fun i hi => ?_) (Wf.mk (fun j hj => absurd rfl hj) (fun _ _ => rfl) (fun x hx k hk => ?_)) (fun i hi => ?_) hr hx
    · have := chkE_ok g3 i o (by simpa using ho)
      refine ⟨fun e he hb => ?_, fun k hk => this.2 k (memN_ok.1 hk)⟩
      obtain ⟨q1, q2⟩ := this.1 e he hb
      exact ⟨by omega, memN_ok.2 q2⟩
    · refine ⟨fun _ => allI_ok g4 i hi, fun _ => by simp [hi]⟩
    · right
      obtain ⟨o, ho, _⟩ := chkL_ok g2 x hx
      obtain ⟨e, he, hb, h6⟩ := (chkE_ok g3 x.i o (by simpa using ho)).2 k (memN_ok.1 hk)
      have hlt : x.i < ops.size := (Array.getElem?_eq_some_iff.1 ho).1
      -- what comes before is an operation of the region
      have small : ∀ i, i < ops.size → ∀ k, (odD rt.pres rt.ss).pre i k = true → k < i := by
        intro i
        induction i using Nat.strongRecOn with
        | _ i ih =>
          intro hi k hk
          obtain ⟨oi, hoi⟩ : ∃ oi, ops[i]? = some oi := ⟨ops[i], by simp [hi]⟩
          have q := chkE_ok g3 i oi (by simpa using hoi)
          obtain ⟨e, he, hb, h6⟩ := q.2 k (memN_ok.1 hk)
          have q1 := (q.1 e he hb).1
          rcases h6 with h6 | h6
          · omega
          · have := ih e.on (by omega) (by omega) k h6; omega
      have := small x.i hlt k hk
      exact allI_ok g4 k (by omega)
    · rw [hfalse]
      exact ⟨(fun h => (by cases h)), fun h => absurd rfl h⟩
end
end Go.Pv
