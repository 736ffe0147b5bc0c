/-
  Values of a program as plain data: code and functions.
-/
import Derived.Test.YteapohlamngkpaaDoorPp
import Derived.Calls
namespace Go.Pv
open Go.RowKit
set_option linter.unusedVariables false

inductive PC where
  | skip
  | reg (rt : Rt)
  | seq (a b : PC)
  | cond (x : X) (a b : PC)
  | blk (id : Nat) (b : PC)
  | loop (live : List Nat) (b : PC)
  | exit (id : Nat)
  | ret
  | no                                   -- nothing is said of it: it is not reached

/-- Where code leaves. -/
inductive Ex where
  | normal
  | exit (id : Nat)
  | ret
  | pan (v : PV)

abbrev Kt := Ex → St → Prop

def panK (K : Kt) (v : PV) (s : Hs) : Prop := K (.pan v) ⟨fun _ => none, s⟩

def Kseq (n : St → Prop) (K : Kt) : Kt
  | .normal, st => n st
  | .exit i, st => K (.exit i) st
  | .ret, st => K .ret st
  | .pan v, st => K (.pan v) st

def Kblk (id : Nat) (K : Kt) : Kt
  | .normal, st => K .normal st
  | .exit i, st => if i = id then K .normal st else K (.exit i) st
  | .ret, st => K .ret st
  | .pan v, st => K (.pan v) st

def getF (fr : Nat → Option PV) : List Nat → Option (List PV)
  | [] => some []
  | s :: r => match fr s with
    | some v => match getF fr r with
      | some l => some (v :: l)
      | none => none
    | none => none

def mkF : List Nat → List PV → Nat → Option PV
  | s :: r, v :: vs => hset (mkF r vs) s (some v)
  | _, _ => fun _ => none

/-- With as much of memory as is wanted. -/
def LoopI (I : List PV → Hs → Prop) (vs : List PV) (s : Hs) : Prop := ∃ s1 : Hs, s1.le s ∧ s.n ≤ s1.n ∧ s.m ≤ s1.m ∧ I vs s1

theorem LoopI.same {I : List PV → Hs → Prop} {vs : List PV} {s : Hs} (h : I vs s) : LoopI I vs s := ⟨s, Hs.le.refl s, Nat.le_refl _, Nat.le_refl _, h⟩

def Kloop (live : List Nat) (I : List PV → Hs → Prop) (K : Kt) : Kt
  | .normal, st => match getF st.fr live with
    | some vs => LoopI I vs st.s
    | none => False
  | .exit i, st => K (.exit i) st
  | .ret, st => K .ret st
  | .pan v, st => K (.pan v) st

/-- A loop, from its head, with these values of the variables that live. -/
def LoopV (live : List Nat) (B : Kt → St → Prop) (K : Kt) (vs : List PV) (s : Hs) : Prop :=
  ∀ I : List PV → Hs → Prop, (∀ vs s, B (Kloop live I K) ⟨mkF live vs, s⟩ → I vs s) → I vs s

def cbr (y n : St → Prop) (st : St) : Bool → Prop
  | true => y st
  | false => n st

def condV (fr : Nat → Option PV) : X → Option PV
  | .c v => some v
  | .v s => fr s
  | _ => none

def pw (C : Cx) : PC → Kt → St → Prop
  | .skip, K, st => K .normal st
  | .reg rt, K, st => regW C rt (K .normal) (panK K) st
  | .seq a b, K, st => pw C a (Kseq (pw C b K) K) st
  | .cond x a b, K, st => match condV st.fr x with
    | some (.bool c) => gsplit c (cbr (pw C a K) (pw C b K) st)
    | _ => False
  | .blk id b, K, st => pw C b (Kblk id K) st
  | .loop live b, K, st => match getF st.fr live with
    | some vs => LoopV live (pw C b) K vs st.s
    | none => False
  | .exit id, K, st => K (.exit id) st
  | .ret, K, st => K .ret st
  | .no, _, _ => False

/-! ### More may be wanted -/
theorem guardP_mono {g : Option (Nat × Bool)} {y n y' n' : RS → Prop} (hy : ∀ rs, y rs → y' rs) (hn : ∀ rs, n rs → n' rs) {rs : RS} (h : guardP g y n rs) : guardP g y' n' rs := by
  rw [guardP_iff] at h ⊢
  obtain ⟨b, e, h⟩ := h
  refine ⟨b, e, ?_⟩
  cases b with
  | true => exact hy _ h
  | false => exact hn _ h

theorem stp_mono {C : Cx} {g : Rg} {x : Step} {K K' : RS → Prop} {kp kp' : PV → Hs → Prop} (hK : ∀ rs, K rs → K' rs) (hp : ∀ v s, kp v s → kp' v s) {rs : RS} (h : stp C g x K kp rs) : stp C g x K' kp' rs := by
  refine guardP_mono (fun rs h => ?_) (fun rs h => hK _ h) h
  unfold doW at h ⊢
  cases hw : x.w with
  | q see q =>
    rw [hw] at h
    simp only [doS] at h ⊢
    split at h
    · exact ⟨h.1, hK _ h.2⟩
    · exact h
  | a r a =>
    rw [hw] at h
    simp only [doS] at h ⊢
    split at h
    · exact ⟨h.1, hK _ h.2⟩
    · exact h
  | w see w re =>
    rw [hw] at h
    simp only [doS] at h ⊢
    refine evalW_mono (fun o s' hk => ?_) h
    cases o with
    | ret v => exact ⟨hk.1, hK _ hk.2⟩
    | pan v => exact hp _ _ hk

theorem rgw_mono {C : Cx} {g : Rg} {K K' : RS → Prop} {kp kp' : PV → Hs → Prop} (hK : ∀ rs, K rs → K' rs) (hp : ∀ v s, kp v s → kp' v s) : ∀ {L : List Step} {rs : RS}, rgw C g L K kp rs → rgw C g L K' kp' rs
  | [], rs, h => hK rs h
  | x :: L, rs, h => stp_mono (fun rs h => rgw_mono hK hp h) hp h

theorem regW_mono {C : Cx} {rt : Rt} {K K' : St → Prop} {kp kp' : PV → Hs → Prop} (hK : ∀ st, K st → K' st) (hp : ∀ v s, kp v s → kp' v s) {st : St} (h : regW C rt K kp st) : regW C rt K' kp' st := by
  refine rgw_mono (fun rs h => ?_) hp h
  unfold outK at h ⊢
  split at h
  · exact hK _ h
  · exact h

theorem pw_mono {C : Cx} : ∀ {pc : PC} {K K' : Kt} {st : St}, (∀ e st, K e st → K' e st) → pw C pc K st → pw C pc K' st
  | .skip, K, K', st, hK, h => hK _ _ h
  | .reg rt, K, K', st, hK, h => regW_mono (fun st h => hK _ _ h) (fun v s h => hK _ _ h) h
  | .seq a b, K, K', st, hK, h => pw_mono (pc := a) (fun e st h => by
      cases e with
      | normal => exact pw_mono (pc := b) hK h
      | _ => exact hK _ _ h) h
  | .cond x a b, K, K', st, hK, h => by
    simp only [pw] at h ⊢
    split at h
    · exact ⟨fun e => pw_mono (pc := a) hK (h.1 e), fun e => pw_mono (pc := b) hK (h.2 e)⟩
    · exact h
  | .blk id b, K, K', st, hK, h => pw_mono (pc := b) (fun e st h => by
      cases e with
      | exit i =>
        simp only [Kblk] at h ⊢
        split at h
        · rename_i e; rw [if_pos e]; exact hK _ _ h
        · rename_i e; rw [if_neg e]; exact hK _ _ h
      | _ => exact hK _ _ h) h
  | .loop live b, K, K', st, hK, h => by
    simp only [pw] at h ⊢
    split at h
    · intro I hI
      refine h I fun vs s hb => hI vs s (pw_mono (pc := b) (fun e st h => ?_) hb)
      cases e with
      | normal => exact h
      | _ => exact hK _ _ h
    · exact h
  | .exit id, K, K', st, hK, h => hK _ _ h
  | .ret, K, K', st, hK, h => hK _ _ h
  | .no, K, K', st, hK, h => h

theorem Kloop_mono {live : List Nat} {I I' : List PV → Hs → Prop} {K : Kt} (hI : ∀ vs s, I vs s → I' vs s) : ∀ e st, Kloop live I K e st → Kloop live I' K e st := by
  intro e st h
  cases e with
  | normal =>
    simp only [Kloop] at h ⊢
    split at h
    · obtain ⟨s1, h1, h2, h3, h4⟩ := h
      exact ⟨s1, h1, h2, h3, hI _ _ h4⟩
    · exact h
  | _ => exact h

/-- One round, and the loop again. -/
theorem LoopV.round {C : Cx} {live : List Nat} {b : PC} {K : Kt} {vs : List PV} {s : Hs} (h : pw C b (Kloop live (LoopV live (pw C b) K) K) ⟨mkF live vs, s⟩) : LoopV live (pw C b) K vs s := by
  intro I hI
  exact hI vs s (pw_mono (Kloop_mono fun vs s h => h I hI) h)

theorem LoopV.mono {C : Cx} {live : List Nat} {b : PC} {K K' : Kt} {vs : List PV} {s : Hs} (hK : ∀ e st, K e st → K' e st) (h : LoopV live (pw C b) K vs s) : LoopV live (pw C b) K' vs s := by
  intro I hI
  refine h I fun vs s hb => hI vs s (pw_mono (fun e st h => ?_) hb)
  cases e with
  | normal => exact h
  | _ => exact hK _ _ h

/-! ### The code, and its plain form -/
def cxC : Operand → X → Bool
  | .const c, .c v => match ofV c with
    | some q => wkPV q v
    | none => false
  | .tmp d, .v s => Nat.beq d s
  | _, _ => false

def bsame (a b : Bool) : Bool := match a, b with
  | true, true => true
  | false, false => true
  | _, _ => false

def isDraw : List (List Nat) → Bool
  | [] => false
  | _ :: _ => true

def chkC (C : Cx) (V : List Nat) (sz : Nat) : Code → PC → Bool
  | .skip, .skip => true
  | .region _ ops d, .reg rt => bsame d (isDraw rt.pres) && chkR C V sz ops d rt
  | .seq x y, .seq a b => chkC C V sz x a && chkC C V sz y b
  | .cond c x y, .cond u a b => cxC c u && chkC C V sz x a && chkC C V sz y b
  | .block i x, .blk j a => Nat.beq i j && chkC C V sz x a
  | .loop x, .loop _ a => chkC C V sz x a
  | .exit i, .exit j => Nat.beq i j
  | .ret, .ret => true
  | _, .no => true
  | _, _ => false

def Ex.is (E : Env) : Ex → Exit → Prop
  | .normal, e => e = .normal
  | .exit i, e => e = .exit i
  | .ret, e => e = .ret
  | .pan v, e => ∃ x, e = .panic (panicOf x) ∧ Rep E v x

/-- A loop from its body on. -/
def Lp (F : Fence) (n : Nat) (P : Program) (c : Code) (Q : Exit → Act → World → Prop) (a : Act) (w : World) : Prop :=
  ∀ (b : Frame) (k : List Item) (cs : List Frame), b.roundOf = F.round → F.fn b.fn → F.room (cs.length + 1 + n) →
    ∃ e a' w', Q e a' w' ∧ ArrivesIn (Machine.fenced P F) P (lone (b.atR a (.code c :: .inLoop c :: k)) cs w) b k cs e a' w'

theorem Lp.round {F : Fence} {n : Nat} {P : Program} {c : Code} {Q : Exit → Act → World → Prop} {a : Act} {w : World} (h : c.wpIn F n P (Exit.then (Lp F n P c Q) Q) a w) : Lp F n P c Q a w := by
  intro b k cs hro hb hr
  obtain ⟨e, a₁, w₁, hq, harr⟩ := h b (.inLoop c :: k) cs hro hb hr
  cases e with
  | normal =>
    obtain ⟨e₂, a₂, w₂, hq₂, harr₂⟩ := hq b k cs hro hb hr
    exact ⟨e₂, a₂, w₂, hq₂, .of_steps (StepsIn.trans harr (.one (fenced_calm hb hr rfl) stepR_inLoop)) harr₂⟩
  | exit id => exact ⟨_, a₁, w₁, hq, .pass (x := .inLoop c) rfl (fun _ _ => .inl (by simp)) harr⟩
  | goto l => exact ⟨_, a₁, w₁, hq, .pass (x := .inLoop c) rfl (fun _ _ => .inl (by simp)) harr⟩
  | ret => exact ⟨_, a₁, w₁, hq, .pass (x := .inLoop c) rfl (fun _ _ => .inl (by simp)) harr⟩
  | panic ch => exact ⟨_, a₁, w₁, hq, .pass (x := .inLoop c) rfl (fun _ _ => .inl (by simp)) harr⟩
  | outgrown => exact ⟨_, a₁, w₁, hq, .pass (x := .inLoop c) rfl (fun _ _ => .inl (by simp)) harr⟩

theorem Lp.loop {F : Fence} {n : Nat} {P : Program} {c : Code} {Q : Exit → Act → World → Prop} {a : Act} {w : World} (h : Lp F n P c Q a w) : (Code.loop c).wpIn F n P Q a w := by
  intro b k cs hro hb hr
  obtain ⟨e, a', w', hq, harr⟩ := h b k cs hro hb hr
  exact ⟨e, a', w', hq, .of_steps (.one (fenced_calm hb hr rfl) stepR_loop) harr⟩

section
variable {C : Cx} (hC : C.Ok) {V : List Nat} {sz : Nat} {d : List Deferred}

theorem mkF_get : ∀ {live : List Nat} {vs : List PV} {s : Nat} {v : PV}, mkF live vs s = some v → ∃ j : Nat, live[j]? = some s ∧ vs[j]? = some v
  | [], vs, s, v, h => by simp [mkF] at h
  | _ :: _, [], s, v, h => by simp [mkF] at h
  | u :: r, x :: vs, s, v, h => by
    simp only [mkF] at h
    by_cases e : s = u
    · subst e; rw [hset_same] at h; cases h
      exact ⟨0, rfl, rfl⟩
    · rw [hset_ne _ _ e] at h
      obtain ⟨j, h1, h2⟩ := mkF_get h
      exact ⟨j + 1, by simpa using h1, by simpa using h2⟩

theorem getF_get {fr : Nat → Option PV} : ∀ {live : List Nat} {vs : List PV}, getF fr live = some vs → ∀ (j : Nat) s v, live[j]? = some s → vs[j]? = some v → fr s = some v
  | [], vs, h, j, s, v, h1, _ => by simp at h1
  | u :: r, vs, h, j, s, v, h1, h2 => by
    simp only [getF] at h
    split at h
    case h_2 => cases h
    rename_i x hx
    split at h
    case h_2 => cases h
    rename_i l hl
    cases h
    cases j with
    | zero => simp at h1 h2; subst h1; subst h2; exact hx
    | succ j => exact getF_get hl j s v (by simpa using h1) (by simpa using h2)

/-- Only the variables that live. -/
theorem SR.live {E : Env} {st : St} {a : Act} {w : World} (sr : SR C V sz d E st a w) {live : List Nat} {vs : List PV} (h : getF st.fr live = some vs) : SR C V sz d E ⟨mkF live vs, st.s⟩ a w :=
  ⟨sr.sh, fun s v hs => by
    obtain ⟨j, h1, h2⟩ := mkF_get hs
    exact sr.fr s v (getF_get h j s v h1 h2), sr.sz, sr.df⟩

include hC
theorem pw_ok {ro : Option Nat} : ∀ {pc : PC} {c : Code}, chkC C V sz c pc = true → ∀ {K : Kt} {st : St}, pw C pc K st → ∀ {E : Env} {a : Act} {w : World}, SR C V sz d E st a w → ∀ {Q : Exit → Act → World → Prop},
    (∀ ex st' E' e a' w', K ex st' → ex.is E' e → SR C V sz d E' st' a' w' → Post C st.s.n st.s.m E st.s w E' st'.s w' → Q e a' w') → c.wpIn (Fw ro) 0 C.P Q a w
  | .skip, c, hc, K, st, h, E, a, w, sr, Q, hQ => by
    cases c <;> simp only [chkC] at hc <;> (try (cases hc; done))
    exact wpIn_skip (hQ .normal st E _ a w h rfl sr (Post.refl sr.sh))
  | .reg rt, c, hc, K, st, h, E, a, w, sr, Q, hQ => by
    cases c <;> simp only [chkC] at hc <;> (try (cases hc; done))
    simp only [Bool.and_eq_true] at hc
    exact region_ok hC hc.2 sr h (fun st' E' a' w' hk s' p => hQ .normal st' E' _ a' w' hk rfl s' p)
      (fun v s' E' a' w' x hk hr hd p => hQ (.pan v) ⟨fun _ => none, s'⟩ E' _ a' w' hk ⟨x, rfl, hr⟩ ⟨p.sh, (fun s v h => (by cases h)), hd.2, hd.1⟩ p)
  | .seq p q, c, hc, K, st, h, E, a, w, sr, Q, hQ => by
    cases c <;> simp only [chkC] at hc <;> (try (cases hc; done))
    rename_i x y
    simp only [Bool.and_eq_true] at hc
    refine wpIn_seq (pw_ok (pc := p) hc.1 h sr fun ex st1 E1 e a1 w1 hk he s1 p1 => ?_)
    cases ex with
    | normal =>
      subst he
      exact pw_ok (pc := q) hc.2 hk s1 fun ex2 st2 E2 e2 a2 w2 hk2 he2 s2 p2 => hQ ex2 st2 E2 e2 a2 w2 hk2 he2 s2 (p1.trans (p2.low p1.mono.1 p1.mono.2))
    | exit i => subst he; exact hQ (.exit i) st1 E1 _ a1 w1 hk rfl s1 p1
    | ret => subst he; exact hQ .ret st1 E1 _ a1 w1 hk rfl s1 p1
    | pan v => obtain ⟨u, rfl, hu⟩ := he; exact hQ (.pan v) st1 E1 _ a1 w1 hk ⟨u, rfl, hu⟩ s1 p1
  | .cond u p q, c, hc, K, st, h, E, a, w, sr, Q, hQ => by
    cases c <;> simp only [chkC] at hc <;> (try (cases hc; done))
    rename_i co x y
    simp only [Bool.and_eq_true] at hc
    obtain ⟨⟨h1, h2⟩, h3⟩ := hc
    simp only [pw] at h
    split at h
    case h_2 => exact h.elim
    rename_i cb hcb
    have hev : a.eval co = .bool cb := by
      cases co <;> cases u <;> simp only [cxC] at h1 <;> (try (cases h1; done))
      · have := Nat.eq_of_beq_eq_true h1
        subst this
        obtain ⟨_, x, e1, e2⟩ := sr.fr _ _ hcb
        simp only [Rep] at e2
        subst e2
        simp [Act.eval, e1]
      · split at h1
        · rename_i q hq
          simp only [condV, Option.some.injEq] at hcb
          subst hcb
          have := wkPV_ok h1 (ofV_rep E _ q hq)
          simp only [Rep] at this
          exact this
        · cases h1
    exact wpIn_cond_split hev (fun e => pw_ok (pc := p) h2 (h.1 e) sr hQ) (fun e => pw_ok (pc := q) h3 (h.2 e) sr hQ)
  | .blk id p, c, hc, K, st, h, E, a, w, sr, Q, hQ => by
    cases c <;> simp only [chkC] at hc <;> (try (cases hc; done))
    rename_i i x
    simp only [Bool.and_eq_true] at hc
    have := Nat.eq_of_beq_eq_true hc.1
    subst this
    refine wpIn_block (pw_ok (pc := p) hc.2 h sr fun ex st1 E1 e a1 w1 hk he s1 p1 => ?_)
    cases ex with
    | normal => subst he; exact hQ .normal st1 E1 _ a1 w1 hk rfl s1 p1
    | exit j =>
      subst he
      simp only [Kblk] at hk
      simp only [Exit.inBlock]
      split at hk
      · rename_i e; rw [if_pos e]; exact hQ .normal st1 E1 _ a1 w1 hk rfl s1 p1
      · rename_i e; rw [if_neg e]; exact hQ (.exit j) st1 E1 _ a1 w1 hk rfl s1 p1
    | ret => subst he; exact hQ .ret st1 E1 _ a1 w1 hk rfl s1 p1
    | pan v => obtain ⟨u, rfl, hu⟩ := he; exact hQ (.pan v) st1 E1 _ a1 w1 hk ⟨u, rfl, hu⟩ s1 p1
  | .loop live p, c, hc, K, st, h, E, a, w, sr, Q, hQ => by
    cases c <;> simp only [chkC] at hc <;> (try (cases hc; done))
    rename_i x
    simp only [pw] at h
    split at h
    case h_2 => exact h.elim
    rename_i vs hvs
    refine Lp.loop ?_
    have key := h (fun vs s => ∀ (E1 : Env) (a1 : Act) (w1 : World), SR C V sz d E1 ⟨mkF live vs, s⟩ a1 w1 → Post C st.s.n st.s.m E st.s w E1 s w1 → Lp (Fw ro) 0 C.P x Q a1 w1) (fun vs s hb E1 a1 w1 s1 p1 => by
      refine Lp.round (pw_ok (pc := p) hc hb s1 fun ex st2 E2 e a2 w2 hk he s2 p2 => ?_)
      have p12 := p1.trans (p2.low p1.mono.1 p1.mono.2)
      cases ex with
      | normal =>
        subst he
        simp only [Kloop] at hk
        split at hk
        case h_2 => exact hk.elim
        rename_i vs2 hvs2
        obtain ⟨s3, g1, g2, g3, hk⟩ := hk
        have s4 := s2.live hvs2
        exact hk E2 a2 w2 ⟨s4.sh.sub g1 g2 g3, s4.fr, s4.sz, s4.df⟩ (p12.sub g1 g2 g3)
      | exit i => subst he; exact hQ (.exit i) st2 E2 _ a2 w2 hk rfl s2 p12
      | ret => subst he; exact hQ .ret st2 E2 _ a2 w2 hk rfl s2 p12
      | pan v => obtain ⟨u, rfl, hu⟩ := he; exact hQ (.pan v) st2 E2 _ a2 w2 hk ⟨u, rfl, hu⟩ s2 p12)
    exact key E a w (sr.live hvs) (Post.refl sr.sh)
  | .exit id, c, hc, K, st, h, E, a, w, sr, Q, hQ => by
    cases c <;> simp only [chkC] at hc <;> (try (cases hc; done))
    have := Nat.eq_of_beq_eq_true hc
    subst this
    exact wpIn_exit (hQ (.exit _) st E _ a w h rfl sr (Post.refl sr.sh))
  | .ret, c, hc, K, st, h, E, a, w, sr, Q, hQ => by
    cases c <;> simp only [chkC] at hc <;> (try (cases hc; done))
    exact wpIn_ret (hQ .ret st E _ a w h rfl sr (Post.refl sr.sh))
  | .no, c, hc, K, st, h, E, a, w, sr, Q, hQ => h.elim
end

/-! ### Functions -/
inductive RV where
  | t (k : Nat)
  | c (k : Nat) (n : Option Nat)

/-- A function's plain form: its parameters, its variables, its code, its results. -/
structure Fp where
  ps : List Nat
  V : List Nat
  pc : PC
  rs : List RV

def resL (st : St) : List RV → Option (Prop × List PV)
  | [] => some (True, [])
  | .t k :: r => match st.fr k with
    | some v => match resL st r with
      | some (ob, l) => some (ob, v :: l)
      | none => none
    | none => none
  | .c k n :: r => match st.fr k with
    | some a => match evalLd n st.s.H a with
      | some (ob, v) => match resL st r with
        | some (ob', l) => some (ob ∧ ob', v :: l)
        | none => none
      | none => none
    | none => none

def oneOf : List PV → PV
  | [v] => v
  | l => .tup l

def endK (rs : List RV) (k : Out → Hs → Prop) (st : St) : Prop := match resL st rs with
  | some (ob, l) => ob ∧ k (.ret (oneOf l)) st.s
  | none => False

def finK (rs : List RV) (k : Out → Hs → Prop) : Kt
  | .normal, st => endK rs k st
  | .ret, st => endK rs k st
  | .exit _, _ => False
  | .pan v, st => k (.pan v) st.s

def chkV (C : Cx) : List ResultVar → List RV → Bool
  | [], [] => true
  | .tmp k :: r, .t j :: q => Nat.beq k j && chkV C r q
  | .cell k ty :: r, .c j n :: q => Nat.beq k j && (match szT C ty with | some m => beqN m n | none => false) && chkV C r q
  | _, _ => false

def chkF (C : Cx) (f : Nat) (fp : Fp) : Bool := match C.ft f with
  | none => false
  | some fn => match fn.body with
    | none => false
    | some c => chkC C fp.V (Nat.add fp.ps.length (Nat.sub fn.ntmps fp.ps.length)) c fp.pc && chkV C fn.results.toList fp.rs && beqL fp.ps (upN fp.ps.length 0) && fp.ps.all fun p => memN p fp.V

/-- What a call comes to, by the text. -/
def callW (C : Cx) (fp : Fp) (args : List PV) (s : Hs) (k : Out → Hs → Prop) : Prop := pw C fp.pc (finK fp.rs k) ⟨mkF fp.ps args, s⟩

/-- One result. -/
def resOf (tmps : Array Value) : ResultVar → Sem Value
  | .tmp t => pure (tmps.getD t undef)
  | .cell a t => do loadVar t (← asAddr (tmps.getD a undef))

theorem results_eq (fn : Func) (tmps : Array Value) : results fn tmps = (do
    let vs ← fn.results.mapM (resOf tmps)
    pure (if h : vs.size = 1 then vs[0] else .tuple vs)) := by
  rfl

theorem oneOf_rep {E : Env} {l : List PV} {xs : List Value} (h : RepL E l xs) : Rep E (oneOf l) (if h : xs.toArray.size = 1 then xs.toArray[0] else .tuple xs.toArray) := by
  have hl := h.length
  cases l with
  | nil => rw [h.nil]; simp only [oneOf, Rep]; exact ⟨[], rfl, RepL.mk0⟩
  | cons v l =>
    obtain ⟨x, r, rfl, h1, h2⟩ := h.cons
    cases l with
    | nil => rw [h2.nil]; simpa [oneOf] using h1
    | cons u l =>
      have hl2 := h2.length
      have : ¬ ((x :: r).toArray.size = 1) := by
        simp only [List.length_cons] at hl2
        simp only [List.size_toArray, List.length_cons]
        omega
      rw [dif_neg this]
      simp only [oneOf, Rep]
      exact ⟨_, rfl, h⟩

section
variable {C : Cx} (hC : C.Ok)

theorem upN_get : ∀ {n k j : Nat} {s : Nat}, (upN n k)[j]? = some s → s = k + j := by
  intro n k j s h
  rw [upN_eq] at h
  have := List.getElem?_eq_some_iff.1 h
  obtain ⟨h1, h2⟩ := this
  simp at h2
  omega

include hC
theorem resL_ok {V : List Nat} {sz : Nat} {d : List Deferred} {E : Env} {st : St} {a : Act} {w : World} (sr : SR C V sz d E st a w) : ∀ {rs : List ResultVar} {qs : List RV} {ob : Prop} {l : List PV}, chkV C rs qs = true → resL st qs = some (ob, l) → ob →
    ∃ xs, RepL E l xs ∧ (rs.mapM (resOf a.tmps)).run C.P w = .ok xs w
  | [], [], ob, l, hc, h, ho => by
    simp only [resL, Option.some.injEq, Prod.mk.injEq] at h
    obtain ⟨rfl, rfl⟩ := h
    exact ⟨[], RepL.mk0, rfl⟩
  | .tmp k :: rs, .t j :: qs, ob, l, hc, h, ho => by
    simp only [chkV, Bool.and_eq_true] at hc
    have := Nat.eq_of_beq_eq_true hc.1
    subst this
    simp only [resL] at h
    split at h
    case h_2 => cases h
    rename_i v hv
    split at h
    case h_2 => cases h
    rename_i ob' l' hl
    simp only [Option.some.injEq, Prod.mk.injEq] at h
    obtain ⟨rfl, rfl⟩ := h
    obtain ⟨xs, h1, h2⟩ := resL_ok sr hc.2 hl ho
    obtain ⟨_, x, e1, e2⟩ := sr.fr k v hv
    refine ⟨x :: xs, RepL.mk e2 h1, ?_⟩
    have : a.tmps.getD k undef = x := by simp [e1]
    simp only [List.mapM_cons, resOf, Sem.run_bind, Sem.run_pure, Result.andThen_ok, h2, this]
  | .cell k ty :: rs, .c j n :: qs, ob, l, hc, h, ho => by
    simp only [chkV, Bool.and_eq_true] at hc
    obtain ⟨⟨h1, h2⟩, h3⟩ := hc
    have := Nat.eq_of_beq_eq_true h1
    subst this
    split at h2
    case h_2 => cases h2
    rename_i m hm
    have := beqN_eq h2
    subst this
    simp only [resL] at h
    split at h
    case h_2 => cases h
    rename_i pv hpv
    split at h
    case h_2 => cases h
    rename_i ob1 v hv
    split at h
    case h_2 => cases h
    rename_i ob' l' hl
    simp only [Option.some.injEq, Prod.mk.injEq] at h
    obtain ⟨rfl, rfl⟩ := h
    obtain ⟨xs, g1, g2⟩ := resL_ok sr h3 hl ho.2
    obtain ⟨_, x, e1, e2⟩ := sr.fr k pv hpv
    obtain ⟨u, r1, r2⟩ := evalLd_ok hC sr.sh hm hv ho.1 e2
    refine ⟨u :: xs, RepL.mk r2 g1, ?_⟩
    have : a.tmps.getD k undef = x := by simp [e1]
    have hpt : ∃ ad, x = .pointer (some ad) := by
      cases pv <;> simp only [evalLd] at hv <;> (try (cases hv; done)) <;> simp only [Rep] at e2
      · obtain ⟨b, _, e⟩ := e2; exact ⟨_, e⟩
      · obtain ⟨b, o, e, _⟩ := e2; exact ⟨_, e⟩
    obtain ⟨ad, rfl⟩ := hpt
    have hasa : (asAddr (a.tmps.getD k undef)).run C.P w = .ok ad w := by rw [this]; rfl
    have hld : (loadVar ty ad).run C.P w = .ok u w := r1
    simp only [List.mapM_cons, resOf, Sem.run_bind, hasa, Result.andThen_ok, hld, Sem.run_pure, g2]
  | [], .t _ :: _, _, _, hc, _, _ => by cases hc
  | [], .c _ _ :: _, _, _, hc, _, _ => by cases hc
  | .tmp _ :: _, [], _, _, hc, _, _ => by cases hc
  | .cell _ _ :: _, [], _, _, hc, _, _ => by cases hc
  | .tmp _ :: _, .c _ _ :: _, _, _, hc, _, _ => by cases hc
  | .cell _ _ :: _, .t _ :: _, _, _, hc, _, _ => by cases hc

/-- A call by the function's text. -/
theorem call_ok {f : Nat} {fp : Fp} (hf : chkF C f fp = true) {args : List PV} (hn : args.length = fp.ps.length) {s : Hs} {k : Out → Hs → Prop} (h : callW C fp args s k) : CallP C f args s k := by
  unfold chkF at hf
  split at hf
  · cases hf
  rename_i fn hfn
  split at hf
  · cases hf
  rename_i c hc
  simp only [Bool.and_eq_true, List.all_eq_true] at hf
  obtain ⟨⟨⟨h1, h2⟩, h3⟩, h4⟩ := hf
  obtain ⟨hfun, _⟩ := hC.fn f fn hfn
  refine ⟨⟨fn, hfn, by rw [hc]; rfl⟩, fun E w xs hs ha R hR => ?_⟩
  have hal : xs.length = fp.ps.length := by rw [ha.length, hn]
  have hsr : SR C fp.V (Nat.add fp.ps.length (Nat.sub fn.ntmps fp.ps.length)) [] E ⟨mkF fp.ps args, s⟩ { tmps := xs.toArray ++ Array.replicate (fn.ntmps - xs.toArray.size) undef, defers := [] } w := by
    refine ⟨hs, fun sl v hv => ?_, ?_, rfl⟩
    · obtain ⟨j, g1, g2⟩ := mkF_get hv
      have hsl : sl = j := by
        rw [beqL_eq h3] at g1
        have := upN_get g1
        omega
      subst hsl
      refine ⟨memN_ok.1 (h4 sl (List.mem_of_getElem? g1)), ?_⟩
      obtain ⟨x, e1, e2⟩ := ha.get g2
      refine ⟨x, ?_, e1⟩
      have hlt := (List.getElem?_eq_some_iff.1 e2).1
      rw [Array.getElem?_append_left (by simpa using hlt)]
      simpa using e2
    · simp only [Array.size_append, List.size_toArray, Array.size_replicate, hal]; rfl
  refine calls_of_wp hfun hc (wpIn_wide (n := 0).1 ?_)
  show c.wpIn (Fw none) 0 C.P _ _ w
  refine pw_ok hC h1 h hsr fun ex st' E' e a' w' hk he s' p' => ?_
  have hend : endK fp.rs k st' → a'.defers = [] ∧ ∃ v, (results fn a'.tmps).run C.P w' = .ok v w' ∧ R (.returned v) w' := by
    intro hk
    unfold endK at hk
    split at hk
    case h_2 => exact hk.elim
    rename_i ob l hl
    obtain ⟨xs, g1, g2⟩ := resL_ok hC s' h2 hl hk.1
    refine ⟨s'.df, _, ?_, hR (.ret (oneOf l)) st'.s E' _ w' hk.2 ⟨_, rfl, oneOf_rep g1⟩ p'⟩
    have hm : (fn.results.mapM (resOf a'.tmps)).run C.P w' = .ok xs.toArray w' := by
      rw [Array.mapM_eq_mapM_toList]
      simp only [Sem.run_map, g2, Result.andThen_ok]
    rw [results_eq]
    simp only [Sem.run_bind, hm, Result.andThen_ok, Sem.run_pure]
  cases ex with
  | normal => subst he; exact hend hk
  | ret => subst he; exact hend hk
  | exit i => exact hk.elim
  | pan v =>
    obtain ⟨x, rfl, hx⟩ := he
    exact ⟨s'.df, hR (.pan v) st'.s E' _ w' hk ⟨x, rfl, hx⟩ p'⟩
end
end Go.Pv
