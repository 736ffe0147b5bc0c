/-
  Values of a program as plain data: a region of the text: its operations in one order, and what of them may be done in another.
-/
import Derived.Test.YteapohlamngkpaaDoorPl
namespace Go.Pv
open Go.RowKit
set_option linter.unusedVariables false

/-- What is known of an operation: not done; passed over; its value. -/
inductive Tm where
  | no
  | skip
  | val (v : PV)

/-- In a region: what its operations made, what is new and nobody's yet, memory. -/
structure RS where
  tm : Nat → Tm
  pd : Nat → Option Nd
  s : Hs

def tset (tm : Nat → Tm) (i : Nat) (t : Tm) : Nat → Tm := fun j => if j = i then t else tm j
theorem tset_same (tm : Nat → Tm) (i : Nat) (t : Tm) : tset tm i t i = t := by simp [tset]
theorem tset_ne (tm : Nat → Tm) {i j : Nat} (t : Tm) (h : j ≠ i) : tset tm i t j = tm j := by simp [tset, h]
theorem tset_comm (tm : Nat → Tm) {i j : Nat} (t u : Tm) (h : i ≠ j) : tset (tset tm i t) j u = tset (tset tm j u) i t := by
  funext k; simp only [tset]; split <;> split <;> simp_all
theorem tset_id {tm : Nat → Tm} {i : Nat} {t : Tm} (h : tm i = t) : tset tm i t = tm := by
  funext k; simp only [tset]; split
  · rename_i e; rw [e, h]
  · rfl
theorem hset_comm {α : Type} (H : Nat → Option α) {i j : Nat} (o p : Option α) (h : i ≠ j) : hset (hset H i o) j p = hset (hset H j p) i o := by
  funext k; simp only [hset]; split <;> split <;> simp_all

/-- Of a region: the variables, the first numbers of what is new: objects, permits, permits of no list yet. -/
structure Rg where
  fr : Nat → Option PV
  n0 : Nat
  m0 : Nat
  m1 : Nat

def lkR (C : Cx) (g : Rg) (tm : Nat → Tm) : X → Option PV
  | .c v => some v
  | .nl sz r => some (.lst sz [] (some (g.m1 + r)))
  | .g i => match C.glob i with
    | some cs => some (.rp cs)
    | none => none
  | .v s => g.fr s
  | .t j => match tm j with
    | .val v => some v
    | _ => none
  | .vf s => match g.fr s with
    | some v => some (fgt v)
    | none => none
  | .tf j => match tm j with
    | .val v => some (fgt v)
    | _ => none

inductive What where
  | q (see : List Nat) (q : Q)                                               -- of the new ones those seen
  | a (r : Nat) (a : A)
  | w (see : List Nat) (w : W) (re : List (Nat × List Nat × Q))               -- what may be done behind it as well

structure Step where
  i : Nat
  g : Option (Nat × Bool)
  w : What

def addO (g : Rg) (r : Nat) : Option Nd → Hs → Hs
  | none, s => s
  | some nd, s => add1 (g.n0 + r) (g.m0 + r) nd s

def addL (g : Rg) : List Nat → (Nat → Option Nd) → Hs → Hs
  | [], _, s => s
  | r :: l, pd, s => addL g l pd (addO g r (pd r) s)

def clrL : List Nat → (Nat → Option Nd) → (Nat → Option Nd)
  | [], pd => pd
  | r :: l, pd => clrL l (hset pd r none)

/-- One way, or the other. -/
def gsplit (c : Bool) (f : Bool → Prop) : Prop := (c = true → f true) ∧ (c = false → f false)
theorem gsplit_true (f : Bool → Prop) : gsplit true f = f true := by simp [gsplit]
theorem gsplit_false (f : Bool → Prop) : gsplit false f = f false := by simp [gsplit]
theorem gsplit_intro {c : Bool} {f : Bool → Prop} (h1 : c = true → f true) (h2 : c = false → f false) : gsplit c f := ⟨h1, h2⟩

def RS.put (rs : RS) (i : Nat) (t : Tm) : RS := ⟨tset rs.tm i t, rs.pd, rs.s⟩

def gbr (j : Nat) (b : Bool) (y n : RS → Prop) (rs : RS) (d : Bool) : Prop := match d, b with
  | true, true => y (rs.put j (.val (.bool true)))
  | false, false => y (rs.put j (.val (.bool false)))
  | true, false => n (rs.put j (.val (.bool true)))
  | false, true => n (rs.put j (.val (.bool false)))

def guardP (g : Option (Nat × Bool)) (y n : RS → Prop) (rs : RS) : Prop := match g with
  | none => y rs
  | some (j, b) => match rs.tm j with
    | .val (.bool c) => gsplit c (gbr j b y n rs)
    | .skip => n rs
    | _ => False

/-- Once more, behind. -/
def reP (C : Cx) (g : Rg) (tm : Nat → Tm) (pd : Nat → Option Nd) (s : Hs) : List (Nat × List Nat × Q) → Prop
  | [] => True
  | (j, see, q) :: r => (match tm j with
    | .val v0 => match evalQ (lkR C g tm) (addL g see pd s).H q with
      | some (ob, v) => ob ∧ v = v0
      | none => False
    | _ => True) ∧ reP C g tm pd s r

def afterW (C : Cx) (g : Rg) (i : Nat) (see : List Nat) (re : List (Nat × List Nat × Q)) (K : RS → Prop) (kp : PV → Hs → Prop) (rs : RS) : Out → Hs → Prop
  | .ret v, s' => reP C g rs.tm (clrL see rs.pd) s' re ∧ K ⟨tset rs.tm i (.val v), clrL see rs.pd, s'⟩
  | .pan v, s' => kp v s'

def doS (C : Cx) (g : Rg) (i : Nat) (K : RS → Prop) (kp : PV → Hs → Prop) (rs : RS) : What → Prop
  | .q see q => match evalQ (lkR C g rs.tm) (addL g see rs.pd rs.s).H q with
    | some (ob, v) => ob ∧ K ⟨tset rs.tm i (.val v), rs.pd, rs.s⟩
    | none => False
  | .a r a => match evalA (lkR C g rs.tm) (g.n0 + r) (g.m0 + r) a with
    | some (ob, v, nd) => ob ∧ K ⟨tset rs.tm i (.val v), hset rs.pd r (some nd), rs.s⟩
    | none => False
  | .w see w re => evalW C (lkR C g rs.tm) (addL g see rs.pd rs.s) (afterW C g i see re K kp rs) w

def doW (C : Cx) (g : Rg) (i : Nat) (w : What) (K : RS → Prop) (kp : PV → Hs → Prop) (rs : RS) : Prop := doS C g i K kp rs w
def skipK (i : Nat) (K : RS → Prop) (rs : RS) : Prop := K (rs.put i .skip)

def stp (C : Cx) (g : Rg) (st : Step) (K : RS → Prop) (kp : PV → Hs → Prop) (rs : RS) : Prop :=
  guardP st.g (doW C g st.i st.w K kp) (skipK st.i K) rs

def rgw (C : Cx) (g : Rg) : List Step → (RS → Prop) → (PV → Hs → Prop) → RS → Prop
  | [], k, _, rs => k rs
  | st :: L, k, kp, rs => stp C g st (rgw C g L k kp) kp rs

/-! ### What they look at -/
def Q.xs : Q → List X
  | .mov x => [x]
  | .pick c a b => [c, a, b]
  | .build zs ps => zs ++ ps.map (·.2.2)
  | .ld _ x => [x]
  | .nilc x => [x]
  | .bin _ x y => [x, y]
  | .eqn _ _ x y => [x, y]
  | .eqa _ _ x y => [x, y]
  | .un _ x => [x]
  | .cint _ x => [x]
  | .cid x => [x]
  | .cbytes x => [x]
  | .crune x => [x]
  | .mkif _ x => [x]
  | .mkfn _ a b => a ++ b
  | .slc _ x lo hi => x :: (lo.toList ++ hi.toList)
  | .slcs x lo hi => x :: (lo.toList ++ hi.toList)
  | .fa _ x => [x]
  | .fld _ _ x => [x]
  | .ia _ _ x i => [x, i]
  | .idx _ _ _ x i => [x, i]
  | .idxs x i => [x, i]
  | .lk _ _ _ x i => [x, i]
  | .ta _ _ _ x => [x]
  | .ext _ x => [x]
  | .len _ x => [x]
  | .mm _ x y => [x, y]
  | .no => []

/-- Whether it looks at memory. -/
def Q.heap : Q → Bool
  | .ld _ _ => true
  | .lk _ _ _ _ _ => true
  | .len k _ => Nat.beq k 3
  | _ => false

def A.xs : A → List X
  | .zero _ xs => xs
  | .box _ x => [x]
  | .mkmap _ x => x.toList
  | .mksl _ _ _ l c => [l, c]
  | .mktip _ _ l c => [l, c]
  | .lit _ _ _ ps => ps.map (·.2)
  | .litm _ _ _ _ ps => ps.map (·.2)
  | .litf _ _ _ ps => ps.map (·.2)
  | .byts x => [x]

def W.xs : W → List X
  | .store _ a x => [a, x]
  | .mapup _ m k v => [m, k, v]
  | .del _ m k => [m, k]
  | .app _ _ x y => [x, y]
  | .rng x => [x]
  | .nxt x => [x]
  | .call f args => f :: args
  | .pan x => [x]

theorem evalQ_congr {lk lk' : X → Option PV} {H : Nat → Option AO} {q : Q} (h : ∀ x ∈ q.xs, lk x = lk' x) : evalQ lk H q = evalQ lk' H q := by
  have hm : ∀ {l : List X}, (∀ x ∈ l, lk x = lk' x) → l.map lk = l.map lk' := fun hl => List.map_congr_left hl
  cases q with
  | build zs ps =>
    simp only [Q.xs, List.mem_append] at h
    have h1 := hm (l := zs) (fun x hx => h x (Or.inl hx))
    have h2 : (ps.map fun p => lk p.2.2) = ps.map fun p => lk' p.2.2 := List.map_congr_left fun p hp => h _ (Or.inr (List.mem_map.2 ⟨p, hp, rfl⟩))
    simp only [evalQ, h1, h2]
  | mkfn f a b =>
    simp only [Q.xs, List.mem_append] at h
    simp only [evalQ, hm (l := a) (fun x hx => h x (Or.inl hx)), hm (l := b) (fun x hx => h x (Or.inr hx))]
  | slc sz x lo hi =>
    cases lo <;> cases hi <;> simp [Q.xs] at h <;> simp [evalQ, h]
  | slcs x lo hi =>
    cases lo <;> cases hi <;> simp [Q.xs] at h <;> simp [evalQ, h]
  | _ => simp [Q.xs] at h; simp [evalQ, h]

theorem evalQ_heap {lk : X → Option PV} {H H' : Nat → Option AO} {q : Q} (h : q.heap = false) : evalQ lk H q = evalQ lk H' q := by
  cases q with
  | ld n x => simp [Q.heap] at h
  | lk kd z ok x i => simp [Q.heap] at h
  | len k x =>
    have hk : k ≠ 3 := by simp only [Q.heap] at h; exact Nat.ne_of_beq_eq_false h
    simp only [evalQ]
    cases lk x with
    | none => rfl
    | some v =>
      simp only [on1]
      unfold evalLen
      split <;> first | rfl | exact absurd rfl hk | skip
  | _ => rfl

theorem evalA_congr {lk lk' : X → Option PV} {id q : Nat} {a : A} (h : ∀ x ∈ a.xs, lk x = lk' x) : evalA lk id q a = evalA lk' id q a := by
  cases a with
  | zero t xs => simp only [A.xs] at h; simp only [evalA, List.map_congr_left h]
  | mkmap kd x => cases x <;> simp [A.xs] at h <;> simp [evalA, h]
  | lit zs len n ps =>
    have h2 : (ps.map fun p => lk p.2) = ps.map fun p => lk' p.2 := List.map_congr_left fun p hp => h _ (by simp only [A.xs]; exact List.mem_map.2 ⟨p, hp, rfl⟩)
    simp only [evalA, h2]
  | litf zs len n ps =>
    have h2 : (ps.map fun p => lk p.2) = ps.map fun p => lk' p.2 := List.map_congr_left fun p hp => h _ (by simp only [A.xs]; exact List.mem_map.2 ⟨p, hp, rfl⟩)
    simp only [evalA, h2]
  | litm t zs len n ps =>
    have h2 : (ps.map fun p => lk p.2) = ps.map fun p => lk' p.2 := List.map_congr_left fun p hp => h _ (by simp only [A.xs]; exact List.mem_map.2 ⟨p, hp, rfl⟩)
    simp only [evalA, h2]
  | _ => simp [A.xs] at h; simp [evalA, h]

theorem onP_eq {o o' : Option PV} {f f' : PV → Prop} (h : o = o') (hf : ∀ v, f v = f' v) : onP o f = onP o' f' := by
  subst h
  cases o with
  | none => rfl
  | some v => exact hf v

theorem evalW_congr {C : Cx} {lk lk' : X → Option PV} {s : Hs} {k : Out → Hs → Prop} {w : W} (h : ∀ x ∈ w.xs, lk x = lk' x) : evalW C lk s k w = evalW C lk' s k w := by
  cases w with
  | call f args =>
    simp only [W.xs, List.mem_cons] at h
    have h2 : args.map lk = args.map lk' := List.map_congr_left fun x hx => h x (Or.inr hx)
    simp only [evalW, h f (Or.inl rfl), h2]
  | _ => simp [W.xs] at h; simp only [evalW, h]

theorem onP_mono {o : Option PV} {f f' : PV → Prop} (hf : ∀ v, f v → f' v) (h : onP o f) : onP o f' := by
  cases o with
  | none => exact h
  | some v => exact hf v h

theorem onPL_mono : ∀ {l : List (Option PV)} {f f' : List PV → Prop}, (∀ v, f v → f' v) → onPL l f → onPL l f'
  | [], f, f', hf, h => hf _ h
  | none :: l, f, f', hf, h => h
  | some v :: l, f, f', hf, h => onPL_mono (l := l) (fun r hr => hf _ hr) h

theorem evalW_mono {C : Cx} {lk : X → Option PV} {s : Hs} {k k' : Out → Hs → Prop} {w : W} (hk : ∀ o s', k o s' → k' o s') (h : evalW C lk s k w) : evalW C lk s k' w := by
  cases w with
  | store n a x =>
    simp only [evalW] at h ⊢
    refine onP_mono (fun v hv => ?_) h
    cases v <;> (try exact hv)
    rename_i id off
    simp only at hv ⊢
    split at hv
    · refine onP_mono (fun v hv => ?_) hv
      exact ⟨hv.1, hv.2.1, hv.2.2.1, hk _ _ hv.2.2.2⟩
    · exact hv
  | mapup kd m i x =>
    simp only [evalW] at h ⊢
    refine onP_mono (fun v hv => ?_) h
    cases v <;> (try exact hv)
    simp only at hv ⊢
    split at hv
    · exact onP_mono (fun v hv => onP_mono (fun u hu => ⟨hu.1, hu.2.1, hk _ _ hu.2.2⟩) hv) hv
    · exact hv
  | del kd m i =>
    simp only [evalW] at h ⊢
    refine onP_mono (fun v hv => ?_) h
    cases v <;> (try exact hv)
    simp only at hv ⊢
    split at hv
    · exact onP_mono (fun u hu => ⟨hu.1, hu.2.1, hk _ _ hu.2.2⟩) hv
    · exact hv
  | app sz bytes x y =>
    simp only [evalW] at h ⊢
    refine onP_mono (fun v hv => onP_mono (fun u hu => ?_) hv) h
    split at hu
    · refine ⟨hu.1, ?_⟩
      have hu := hu.2
      unfold appP at hu ⊢
      split at hu
      · exact ⟨hu.1, hu.2.1, hu.2.2.1, hu.2.2.2.1, hu.2.2.2.2.1, hk _ _ hu.2.2.2.2.2⟩
      · exact ⟨hu.1, hu.2.1, fun e => hk _ _ (hu.2.2.1 e), fun e => hk _ _ (hu.2.2.2 e)⟩
      · exact hu
    · exact hu
  | rng x =>
    simp only [evalW] at h ⊢
    refine onP_mono (fun v hv => ?_) h
    cases v <;> first | exact hv | exact hk _ _ hv
  | nxt x =>
    simp only [evalW] at h ⊢
    refine onP_mono (fun v hv => ?_) h
    split at hv
    · unfold nxtP at hv ⊢
      split at hv
      · exact ⟨fun e => hk _ _ (hv.1 e), fun e => hk _ _ (hv.2 e)⟩
      · exact hv
    · exact hv
  | call f args =>
    simp only [evalW] at h ⊢
    refine onP_mono (fun v hv => ?_) h
    cases v <;> (try exact hv)
    exact onPL_mono (fun l hl => hl.mono hk) hv
  | pan x =>
    simp only [evalW] at h ⊢
    refine onP_mono (fun v hv => ?_) h
    cases v <;> first | exact hv | exact hk _ _ hv

/-! ### What is added -/
theorem addL_s (g : Rg) : ∀ (l : List Nat) (pd : Nat → Option Nd) (s : Hs), (addL g l pd s).n = s.n ∧ (addL g l pd s).m = s.m
  | [], pd, s => ⟨rfl, rfl⟩
  | r :: l, pd, s => by
    have h := addL_s g l pd (addO g r (pd r) s)
    have h2 : (addO g r (pd r) s).n = s.n ∧ (addO g r (pd r) s).m = s.m := by
      cases pd r with
      | none => exact ⟨rfl, rfl⟩
      | some nd => cases nd <;> exact ⟨rfl, rfl⟩
    exact ⟨h.1.trans h2.1, h.2.trans h2.2⟩

open Classical in
theorem addL_H (g : Rg) : ∀ (l : List Nat) (pd : Nat → Option Nd) (s : Hs) (id : Nat), (addL g l pd s).H id = if g.n0 ≤ id ∧ (id - g.n0) ∈ l then (match pd (id - g.n0) with | some (.o ao) => some ao | _ => s.H id) else s.H id
  | [], pd, s, id => by simp [addL]
  | r :: l, pd, s, id => by
    rw [addL, addL_H g l]
    have hO : (addO g r (pd r) s).H id = if id = g.n0 + r then (match pd r with | some (.o ao) => some ao | _ => s.H id) else s.H id := by
      cases pd r with
      | none => simp [addO]
      | some nd => cases nd <;> simp [addO, add1, hset]
    by_cases h1 : id = g.n0 + r
    · subst h1
      have h2 : g.n0 + r - g.n0 = r := by omega
      rw [h2, hO, if_pos rfl]
      rw [if_pos (⟨Nat.le_add_right _ _, by simp⟩ : g.n0 ≤ g.n0 + r ∧ r ∈ r :: l)]
      by_cases h3 : r ∈ l
      · rw [if_pos ⟨Nat.le_add_right _ _, h3⟩]
        split
        · rfl
        · rename_i h4
          split
          · rename_i h5; exact absurd h5 (h4 _)
          · rfl
      · rw [if_neg (fun h => h3 h.2)]
    · rw [hO, if_neg h1]
      by_cases h2 : g.n0 ≤ id ∧ id - g.n0 ∈ l
      · rw [if_pos h2, if_pos ⟨h2.1, List.mem_cons_of_mem _ h2.2⟩]
      · rw [if_neg h2, if_neg]
        rintro ⟨h3, h4⟩
        rcases List.mem_cons.1 h4 with h5 | h5
        · omega
        · exact h2 ⟨h3, h5⟩

open Classical in
theorem addL_T (g : Rg) : ∀ (l : List Nat) (pd : Nat → Option Nd) (s : Hs) (id : Nat), (addL g l pd s).T id = if g.m0 ≤ id ∧ (id - g.m0) ∈ l then (match pd (id - g.m0) with | some (.t n) => some n | _ => s.T id) else s.T id
  | [], pd, s, id => by simp [addL]
  | r :: l, pd, s, id => by
    rw [addL, addL_T g l]
    have hO : (addO g r (pd r) s).T id = if id = g.m0 + r then (match pd r with | some (.t n) => some n | _ => s.T id) else s.T id := by
      cases pd r with
      | none => simp [addO]
      | some nd => cases nd <;> simp [addO, add1, hset]
    by_cases h1 : id = g.m0 + r
    · subst h1
      have h2 : g.m0 + r - g.m0 = r := by omega
      rw [h2, hO, if_pos rfl]
      rw [if_pos (⟨Nat.le_add_right _ _, by simp⟩ : g.m0 ≤ g.m0 + r ∧ r ∈ r :: l)]
      by_cases h3 : r ∈ l
      · rw [if_pos ⟨Nat.le_add_right _ _, h3⟩]
        split
        · rfl
        · rename_i h4
          split
          · rename_i h5; exact absurd h5 (h4 _)
          · rfl
      · rw [if_neg (fun h => h3 h.2)]
    · rw [hO, if_neg h1]
      by_cases h2 : g.m0 ≤ id ∧ id - g.m0 ∈ l
      · rw [if_pos h2, if_pos ⟨h2.1, List.mem_cons_of_mem _ h2.2⟩]
      · rw [if_neg h2, if_neg]
        rintro ⟨h3, h4⟩
        rcases List.mem_cons.1 h4 with h5 | h5
        · omega
        · exact h2 ⟨h3, h5⟩

theorem addL_pd (g : Rg) : ∀ (l : List Nat) (pd pd' : Nat → Option Nd) (s : Hs), (∀ r ∈ l, pd r = pd' r) → addL g l pd s = addL g l pd' s
  | [], pd, pd', s, h => rfl
  | r :: l, pd, pd', s, h => by
    rw [addL, addL, h r (by simp)]
    exact addL_pd g l pd pd' _ fun x hx => h x (by simp [hx])

theorem clrL_get : ∀ (l : List Nat) (pd : Nat → Option Nd) (r : Nat), clrL l pd r = if r ∈ l then none else pd r
  | [], pd, r => by simp [clrL]
  | x :: l, pd, r => by
    rw [clrL, clrL_get l]
    by_cases h1 : r ∈ l
    · simp [h1]
    · by_cases h2 : r = x
      · simp [h2, hset_same]
      · simp [h1, h2, hset_ne]

theorem clrL_hset (l : List Nat) (pd : Nat → Option Nd) {r : Nat} (o : Option Nd) (h : r ∉ l) : clrL l (hset pd r o) = hset (clrL l pd) r o := by
  funext x
  rw [clrL_get]
  by_cases e : x = r
  · subst e; simp [h, hset_same]
  · rw [hset_ne _ _ e, hset_ne _ _ e, clrL_get]
end Go.Pv
