/-
  Values of a program as plain data: an operation of the text that only looks, held against its plain form.
-/
import Derived.Test.YteapohlamngkpaaDoorPg
namespace Go.Pv
open Go.RowKit
set_option linter.unusedVariables false

def beqN (a b : Option Nat) : Bool := match a, b with
  | none, none => true
  | some x, some y => Nat.beq x y
  | _, _ => false

theorem beqN_eq {a b : Option Nat} (h : beqN a b = true) : a = b := by
  cases a <;> cases b <;> simp [beqN] at h <;> simp [h]

def beqKD : KD → KD → Bool
  | .int k, .int k' => Nat.beq (kN k) (kN k')
  | .str, .str => true
  | .bool, .bool => true
  | _, _ => false

theorem beqKD_eq {a b : KD} (h : beqKD a b = true) : a = b := by
  cases a <;> cases b <;> simp only [beqKD] at h <;> (try (cases h; done)) <;> (try rfl)
  rw [kN_inj h]

def beqKDs : List KD → List KD → Bool
  | [], [] => true
  | a :: x, b :: y => beqKD a b && beqKDs x y
  | _, _ => false

theorem beqKDs_eq : ∀ {a b : List KD}, beqKDs a b = true → a = b
  | [], [], _ => rfl
  | [], b :: y, h => by cases h
  | a :: x, [], h => by cases h
  | a :: x, b :: y, h => by
    simp only [beqKDs, Bool.and_eq_true] at h
    rw [beqKD_eq h.1, beqKDs_eq h.2]

def beqOp : BinOp → BinOp → Bool := fun a b => decide (a = b)
def beqUOp : UnOp → UnOp → Bool := fun a b => decide (a = b)

/-! ### An operation and its plain form -/
def cxL (cx : Operand → X → Bool) : List Operand → List X → Bool
  | [], [] => true
  | a :: x, b :: y => cx a b && cxL cx x y
  | _, _ => false

def cxO (cx : Operand → X → Bool) : Option Operand → Option X → Bool
  | none, none => true
  | some a, some b => cx a b
  | _, _ => false

def cxP (cx : Operand → X → Bool) : List (Nat × Operand) → List (Nat × Option Nat × X) → Bool
  | [], [] => true
  | a :: x, b :: y => cx a.2 b.2.2 && cxP cx x y
  | _, _ => false

def notIface (d : TypeDesc) : Bool := match d with | .interface _ => false | _ => true

def notDefer : Op → Bool
  | .defer _ => false
  | _ => true

def chkQ (C : Cx) (cx : Operand → X → Bool) (op : Op) (q : Q) : Bool := match op, q with
  | .move x, .mov y => cx x y
  | .assign x, .mov y => cx x y
  | .pick c a b, .pick c' a' b' => cx c c' && cx a a' && cx b b'
  | .build ty ps, .build zs ps' => match zeroCs C ty with
    | none => false
    | some z => cxL cx (z.map Operand.const) zs && (match placeT C ty with
      | none => false
      | some place => partsOk place zs.length ps.toList ps') && cxP cx ps.toList ps'
  | .load ty x, .ld n y => cx x y && (match szT C ty with
    | some m => beqN m n
    | none => false)
  | .nilCheck x, .nilc y => cx x y
  | .binOp op _ x y _, .bin op' x' y' => beqOp op op' && cx x x' && cx y y'
  | .binOp op ty x y _, .eqn neg k x' y' => (match neg with | true => beqOp op .neq | false => beqOp op .eql) && cx x x' && cx y y' && (match C.tt ty with
    | some i => Nat.beq (eqKind i.desc) k && !Nat.beq k 0 && (Nat.beq k 1 || isConstX x || isConstX y)
    | none => false)
  | .binOp op ty x y _, .eqa neg ks x' y' => (match neg with | true => beqOp op .neq | false => beqOp op .eql) && cx x x' && cx y y' && C.sok.contains ty && (match flatT C 6 ty with
    | some l => beqKDs l ks
    | none => false) && (match szT C ty with | some (some _) => true | _ => false)
  | .unOp op _ x, .un op' y => beqUOp op op' && cx x y
  | .convert s d x, .cint k y => cx x y && (match C.tt s, C.tt d with
    | some i, some j => (match i.desc with | .int _ => true | _ => false) && (match j.desc with | .int k' => Nat.beq (kN k') (kN k) | _ => false)
    | _, _ => false)
  | .convert s d x, .cid y => cx x y && (match C.tt s, C.tt d with
    | some i, some j => (match i.desc with | .string => true | _ => false) && (match j.desc with | .string => true | _ => false)
    | _, _ => false)
  | .convert s d x, .crune y => cx x y && (match C.tt s, C.tt d with
    | some i, some j => (match i.desc with | .int _ => true | _ => false) && (match j.desc with | .string => true | _ => false)
    | _, _ => false)
  | .convert s d x, .cbytes y => cx x y && (match C.tt s, C.tt d with
    | some i, some j => (match i.desc with
      | .slice e => (match C.tt e with | some k => (match k.desc with | .int .u8 => true | _ => false) | none => false)
      | _ => false) && (match j.desc with | .string => true | _ => false)
    | _, _ => false)
  | .makeInterface ty x, .mkif t y => cx x y && Nat.beq ty t && (match C.tt ty with
    | some i => notIface i.desc
    | none => false)
  | .makeFunc (.func f) a b, .mkfn f' a' b' => Nat.beq f f' && cxL cx a.toList a' && cxL cx b.toList b'
  | .slice ty x lo hi none, .slc sz y lo' hi' => cx x y && cxO cx lo lo' && cxO cx hi hi' && (match C.tt ty with
    | some i => (match i.desc with | .slice e => beqN (sizeT C e) (some sz) | _ => false)
    | none => false)
  | .slice ty x lo hi none, .slcs y lo' hi' => cx x y && cxO cx lo lo' && cxO cx hi hi' && (match C.tt ty with
    | some i => (match i.desc with | .string => true | _ => false)
    | none => false)
  | .fieldAddr ty x f, .fa off y => cx x y && (match fieldT C ty f with
    | some fd => Nat.beq fd.offset off && (match sizeT C fd.type with | some n => !Nat.beq n 0 | none => false)
    | none => false)
  | .field ty x f, .fld off n y => cx x y && (match fieldT C ty f with
    | some fd => Nat.beq fd.offset off && (match szT C fd.type with | some m => beqN m n | none => false)
    | none => false)
  | .indexAddr ty x i, .ia sz arr y j => cx x y && cx i j && (match C.tt ty with
    | some i => (match i.desc, arr with
      | .slice e, none => beqN (sizeT C e) (some sz)
      | .array n e, some m => Nat.beq n m && beqN (sizeT C e) (some sz)
      | _, _ => false)
    | none => false)
  | .index ty x i, .idx sz n len y j => cx x y && cx i j && (match C.tt ty with
    | some i => (match i.desc with
      | .array m e => Nat.beq m len && beqN (sizeT C e) (some sz) && (match szT C e with | some l => beqN l n | none => false)
      | _ => false)
    | none => false)
  | .index ty x i, .idxs y j => cx x y && cx i j && (match C.tt ty with
    | some i => (match i.desc with | .string => true | _ => false)
    | none => false)
  | .lookup ty x i ok, .lk kd z ok' y j => cx x y && cx i j && (match ok, ok' with | true, true => true | false, false => true | _, _ => false) && (match mapT C ty with
    | some (kd', _, et) => beqKD kd' kd && (match zeroT C et with | some z' => wkPV z' z | none => false)
    | none => false)
  | .typeAssert x _ ty ok, .ta t z ok' y => cx x y && Nat.beq ty t && (match ok, ok' with | true, true => true | false, false => true | _, _ => false) && (match zeroT C ty with | some z' => wkPV z' z | none => false) && (match C.tt ty with
    | some i => notIface i.desc
    | none => false)
  | .extract x i, .ext j y => cx x y && Nat.beq i j
  | .call ⟨.builtin .len, args, ts⟩, .len k y => match args.toList, ts.toList with
    | [x], ty :: _ => cx x y && (match C.tt ty with | some i => Nat.beq (lenKind i.desc) k | none => false)
    | _, _ => false
  | .call ⟨.builtin .min, args, _⟩, .mm false x y => match args.toList with
    | [a, b] => cx a x && cx b y
    | _ => false
  | .call ⟨.builtin .max, args, _⟩, .mm true x y => match args.toList with
    | [a, b] => cx a x && cx b y
    | _ => false
  | op, .no => notDefer op
  | _, _ => false

def constOf : Operand → Value
  | .const c => c
  | _ => undef

theorem on1_some_iff {o : Option PV} {f : PV → Ev} {r : Prop × PV} : on1 o f = some r → ∃ v, o = some v ∧ f v = some r := by
  intro h
  cases o with
  | none => simp [on1] at h
  | some v => exact ⟨v, rfl, h⟩

theorem onL_some {f : List PV → Ev} {r : Prop × PV} : ∀ {l : List (Option PV)} {g : List PV → Ev}, onL l g = some r → ∃ vs, l = vs.map some ∧ g vs = some r
  | [], g, h => ⟨[], rfl, h⟩
  | none :: l, g, h => by simp [onL] at h
  | some v :: l, g, h => by
    simp only [onL] at h
    obtain ⟨vs, e1, e2⟩ := onL_some (f := f) h
    exact ⟨v :: vs, by simp [e1], e2⟩

theorem onO_some {o : Option (Option PV)} {f : Option PV → Ev} {r : Prop × PV} (h : onO o f = some r) : ∃ v, o = v.map some ∧ f v = some r := by
  cases o with
  | none => exact ⟨none, rfl, h⟩
  | some o =>
    cases o with
    | none => simp [onO] at h
    | some v => exact ⟨some v, rfl, h⟩

section
variable {C : Cx} (hC : C.Ok) {E : Env} {ρ : Operand → Value} {lk : X → Option PV} {cx : Operand → X → Bool}

theorem cxL_rep : ∀ {a : List Operand} {b : List X} {vs : List PV}, (∀ x y v, x ∈ a → cx x y = true → lk y = some v → Rep E v (ρ x)) → cxL cx a b = true → b.map lk = vs.map some → RepL E vs (a.map ρ)
  | [], [], vs, hcx, h, e => by
    cases vs with
    | nil => exact RepL.mk0
    | cons v vs => simp at e
  | [], _ :: _, vs, hcx, h, e => by simp [cxL] at h
  | _ :: _, [], vs, hcx, h, e => by simp [cxL] at h
  | x :: a, y :: b, vs, hcx, h, e => by
    cases vs with
    | nil => simp at e
    | cons v vs =>
      simp only [List.map_cons, List.cons.injEq] at e
      simp only [cxL, Bool.and_eq_true] at h
      exact RepL.mk (hcx x y v List.mem_cons_self h.1 e.1) (cxL_rep (fun x y v hx => hcx x y v (List.mem_cons_of_mem _ hx)) h.2 e.2)

theorem cxP_rep : ∀ {a : List (Nat × Operand)} {b : List (Nat × Option Nat × X)} {vs : List PV}, (∀ x y v, x ∈ a.map (·.2) → cx x y = true → lk y = some v → Rep E v (ρ x)) → cxP cx a b = true → (b.map fun p => lk p.2.2) = vs.map some → RepL E vs (a.map fun p => ρ p.2)
  | [], [], vs, hcx, h, e => by
    cases vs with
    | nil => exact RepL.mk0
    | cons v vs => simp at e
  | [], _ :: _, vs, hcx, h, e => by simp [cxP] at h
  | _ :: _, [], vs, hcx, h, e => by simp [cxP] at h
  | x :: a, y :: b, vs, hcx, h, e => by
    cases vs with
    | nil => simp at e
    | cons v vs =>
      simp only [List.map_cons, List.cons.injEq] at e
      simp only [cxP, Bool.and_eq_true] at h
      exact RepL.mk (hcx x.2 y.2.2 v (by simp) h.1 e.1) (cxP_rep (fun x y v hx => hcx x y v (by simp only [List.map_cons, List.mem_cons]; exact Or.inr hx)) h.2 e.2)

theorem cxO_rep {a : Option Operand} {b : Option X} {o : Option PV} (hcx : ∀ x y v, x ∈ a.toList → cx x y = true → lk y = some v → Rep E v (ρ x)) (h : cxO cx a b = true) (e : b.map lk = o.map some) :
    (∀ v, o = some v → ∃ u, a.map ρ = some u ∧ Rep E v u) ∧ (o = none → a.map ρ = none) := by
  cases a <;> cases b <;> simp only [cxO] at h <;> (try (cases h; done))
  · cases o with
    | none => exact ⟨(fun v e => (by cases e)), fun _ => rfl⟩
    | some v => simp at e
  · rename_i x y
    cases o with
    | none => simp at e
    | some v =>
      simp only [Option.map_some, Option.some.injEq] at e
      refine ⟨(fun u hu => ?_), (fun hn => (by cases hn))⟩
      cases hu
      exact ⟨ρ x, rfl, hcx x y v (by simp) h e⟩

include hC
set_option maxHeartbeats 2000000 in
theorem quiet_ok {s : Hs} {w : World} (h : SH C E s w.heap) {o : Oper} {q : Q} {ob : Prop} {v : PV} (hcx : ∀ x y v, x ∈ o.op.operands → cx x y = true → lk y = some v → Rep E v (ρ x)) (hcc : ∀ c y v, cx (.const c) y = true → lk y = some v → Rep E v c) (hq : chkQ C cx o.op q = true) (hx : evalQ lk s.H q = some (ob, v)) (ho : ob) :
    ∃ u, (execOp ρ o).run C.P w = .ok (.value u) w ∧ Rep E v u := by
  obtain ⟨dst, op, ty0, pos, after, guard⟩ := o
  simp only at hcx hq
  have fin : ∀ {m : Sem Value} {u : Value}, m.run C.P w = .ok u w → Rep E v u → (execOp ρ ⟨dst, op, ty0, pos, after, guard⟩ = (do let x ← m; pure (.value x))) → ∃ u, (execOp ρ ⟨dst, op, ty0, pos, after, guard⟩).run C.P w = .ok (.value u) w ∧ Rep E v u := by
    intro m u h1 h2 h3
    exact ⟨u, by rw [h3]; simp only [Sem.run_bind, h1, Result.andThen_ok, Sem.run_pure], h2⟩
  unfold chkQ at hq
  split at hq
  · -- move
    rename_i x y
    simp only [evalQ] at hx
    obtain ⟨v', e1, e2⟩ := on1_some_iff hx
    simp only [Option.some.injEq, Prod.mk.injEq] at e2; obtain ⟨_, rfl⟩ := e2
    exact ⟨ρ x, rfl, hcx x y _ (by simp [Op.operands]) hq e1⟩
  · -- assign
    rename_i x y
    simp only [evalQ] at hx
    obtain ⟨v', e1, e2⟩ := on1_some_iff hx
    simp only [Option.some.injEq, Prod.mk.injEq] at e2; obtain ⟨_, rfl⟩ := e2
    exact ⟨ρ x, rfl, hcx x y _ (by simp [Op.operands]) hq e1⟩
  · -- pick
    rename_i c a b c' a' b'
    simp only [Bool.and_eq_true] at hq
    simp only [evalQ] at hx
    obtain ⟨vc, e1, e2⟩ := on1_some_iff hx
    have hc := hcx c c' _ (by simp [Op.operands]) hq.1.1 e1
    split at e2
    · obtain ⟨v', e3, e4⟩ := on1_some_iff e2
      simp only [Option.some.injEq, Prod.mk.injEq] at e4; obtain ⟨_, rfl⟩ := e4
      simp only [Rep] at hc
      exact ⟨ρ a, by simp [execOp, hc, asBool], hcx a a' _ (by simp [Op.operands]) hq.1.2 e3⟩
    · obtain ⟨v', e3, e4⟩ := on1_some_iff e2
      simp only [Option.some.injEq, Prod.mk.injEq] at e4; obtain ⟨_, rfl⟩ := e4
      simp only [Rep] at hc
      exact ⟨ρ b, by simp [execOp, hc, asBool], hcx b b' _ (by simp [Op.operands]) hq.2 e3⟩
    · cases e2
  · -- build
    rename_i ty ps zs ps'
    split at hq
    · cases hq
    rename_i z hz
    simp only [Bool.and_eq_true] at hq
    obtain ⟨⟨q1, q2⟩, q3⟩ := hq
    split at q2
    · cases q2
    rename_i place hpl
    simp only [evalQ] at hx
    obtain ⟨zs', e3, e4⟩ := onL_some (f := fun _ => none) hx
    obtain ⟨vs, e1, e2⟩ := onL_some (f := fun _ => none) e4
    simp only [Option.some.injEq, Prod.mk.injEq] at e2; obtain ⟨rfl, rfl⟩ := e2
    have hzl : RepL E zs' z := by
      have := cxL_rep (E := E) (ρ := constOf) (lk := lk) (fun x y v hx h1 h2 => by
        obtain ⟨c, hc, rfl⟩ := List.mem_map.1 hx
        exact hcc c y v h1 h2) q1 e3
      rw [List.map_map] at this
      have hid : constOf ∘ Operand.const = id := by funext c; rfl
      rw [hid, List.map_id] at this
      exact this
    have hlz : zs'.length = zs.length := by
      have := congrArg List.length e3
      simpa using this.symm
    rw [← hlz] at q2
    have hv := cxP_rep (E := E) (ρ := ρ) (lk := lk) (fun x y v hx => hcx x y v (by simpa [Op.operands] using hx)) q3 e1
    obtain ⟨u, h1, h2⟩ := build_ok hC (w := w) hz hzl hpl q2 ho hv
    exact fin h1 h2 rfl
  · -- load
    rename_i ty x n y
    simp only [Bool.and_eq_true] at hq
    obtain ⟨q1, q2⟩ := hq
    split at q2
    case h_2 => cases q2
    rename_i m hm
    have := beqN_eq q2; subst this
    simp only [evalQ] at hx
    obtain ⟨v', e1, e2⟩ := on1_some_iff hx
    obtain ⟨u, h1, h2⟩ := evalLd_ok hC h hm e2 ho (hcx x y _ (by simp [Op.operands]) q1 e1)
    exact fin h1 h2 rfl
  · -- nilCheck
    rename_i x y
    simp only [evalQ] at hx
    obtain ⟨v', e1, e2⟩ := on1_some_iff hx
    have hr := hcx x y _ (by simp [Op.operands]) hq e1
    split at e2 <;> (first | (cases e2; done) | skip) <;> simp only [Option.some.injEq, Prod.mk.injEq] at e2 <;> obtain ⟨_, rfl⟩ := e2
    · refine ⟨ρ x, ?_, hr⟩
      simp only [Rep] at hr; obtain ⟨b, _, e⟩ := hr
      simp only [execOp, e, Sem.run_pure]
    · refine ⟨ρ x, ?_, hr⟩
      simp only [Rep] at hr; obtain ⟨b, o, e, _⟩ := hr
      simp only [execOp, e, Sem.run_pure]
    · refine ⟨ρ x, ?_, hr⟩
      simp only [Rep] at hr; obtain ⟨b, e, _⟩ := hr
      simp only [execOp, e, Sem.run_pure]
    · refine ⟨ρ x, ?_, hr⟩
      simp only [Rep] at hr; obtain ⟨b, o, e, _⟩ := hr
      simp only [execOp, e, Sem.run_pure]
  · -- bin
    rename_i op ty x y yt op' x' y'
    simp only [Bool.and_eq_true, beqOp, decide_eq_true_eq] at hq
    obtain ⟨⟨rfl, q2⟩, q3⟩ := hq
    simp only [evalQ] at hx
    obtain ⟨a, e1, e2⟩ := on1_some_iff hx
    obtain ⟨b, e3, e4⟩ := on1_some_iff e2
    have ha := hcx x x' _ (by simp [Op.operands]) q2 e1
    have hb := hcx y y' _ (by simp [Op.operands]) q3 e3
    cases a <;> cases b <;> simp only [evalBin] at e4 <;> (first | (cases e4; done) | skip)
    · simp only [Rep] at ha hb
      obtain ⟨u, h1, h2⟩ := evalInt_ok (P := C.P) (E := E) (w := w) (t := ty) e4 ho
      refine ⟨u, ?_, h2⟩
      simp only [execOp, ha, hb, Sem.run_bind, eqGuard_at_int, Sem.run_pure, Result.andThen_ok, h1]
    · simp only [Rep] at ha hb
      obtain ⟨u, h1, h2⟩ := evalStr_ok (P := C.P) (E := E) (w := w) (t := ty) e4 ho
      refine ⟨u, ?_, h2⟩
      simp only [execOp, ha, hb, Sem.run_bind, eqGuard_at_string, Sem.run_pure, Result.andThen_ok, h1]
  · -- eqn
    rename_i op ty x y yt neg k x' y'
    simp only [Bool.and_eq_true] at hq
    obtain ⟨⟨⟨q0, q2⟩, q3⟩, q4⟩ := hq
    split at q4
    case h_2 => cases q4
    rename_i i hi
    obtain ⟨hd, _⟩ := hC.ty ty i hi
    simp only [Bool.and_eq_true, Bool.or_eq_true, Bool.not_eq_true'] at q4
    obtain ⟨⟨q5, q6⟩, q7⟩ := q4
    have q5' := Nat.eq_of_beq_eq_true q5
    simp only [evalQ] at hx
    obtain ⟨a, e1, e2⟩ := on1_some_iff hx
    obtain ⟨b, e3, e4⟩ := on1_some_iff e2
    have ha := hcx x x' _ (by simp [Op.operands]) q2 e1
    have hb := hcx y y' _ (by simp [Op.operands]) q3 e3
    split at e4
    case h_2 => cases e4
    rename_i ob' r hr
    simp only [Option.some.injEq, Prod.mk.injEq] at e4
    obtain ⟨rfl, rfl⟩ := e4
    obtain ⟨o1, o2⟩ := ho
    have hbool : ∀ c, eqKindP c = 1 → ∃ z, c = .bool z := by intro c hc; cases c <;> simp [eqKindP] at hc; exact ⟨_, rfl⟩
    have hgd : (eqGuard op ty x y (ρ x) (ρ y)).run C.P w = .ok () w := eqGuard_ok (P := C.P) w op ty x y hr ha hb (by
      rcases q7 with (q7 | q7) | q7
      · exact Or.inr (Or.inr (hbool a (by rw [o1]; exact Nat.eq_of_beq_eq_true q7)))
      · exact Or.inl q7
      · exact Or.inr (Or.inl q7))
    obtain ⟨heq, hoth⟩ := equalIn_ok (P := C.P) (w := w) 9999 hd hr o2 (by rw [q5', o1]) ha hb
    cases neg with
    | true =>
      simp only [beqOp, decide_eq_true_eq] at q0
      subst q0
      refine ⟨.bool (!r), ?_, by simp [Rep]⟩
      simp only [execOp, Sem.run_bind, hgd, Result.andThen_ok, binOp_neq_other _ _ _ hoth, Op.equal, Op.maxDepth, heq, Sem.run_pure]
    | false =>
      simp only [beqOp, decide_eq_true_eq] at q0
      subst q0
      refine ⟨.bool r, ?_, by simp [Rep]⟩
      simp only [execOp, Sem.run_bind, hgd, Result.andThen_ok, binOp_eql_other _ _ _ hoth, Op.equal, Op.maxDepth, heq, Sem.run_pure]
  · -- eqa
    rename_i op ty x y yt neg ks x' y'
    simp only [Bool.and_eq_true] at hq
    obtain ⟨⟨⟨⟨⟨q0, q2⟩, q3⟩, q4⟩, q5⟩, q6⟩ := hq
    split at q5
    case h_2 => cases q5
    rename_i l hl
    have := beqKDs_eq q5; subst this
    split at q6
    case h_2 => cases q6
    rename_i m hm
    simp only [evalQ] at hx
    obtain ⟨a, e1, e2⟩ := on1_some_iff hx
    obtain ⟨b, e3, e4⟩ := on1_some_iff e2
    have ha := hcx x x' _ (by simp [Op.operands]) q2 e1
    have hb := hcx y y' _ (by simp [Op.operands]) q3 e3
    split at e4
    case h_2 => cases e4
    rename_i ob' r hr
    simp only [Option.some.injEq, Prod.mk.injEq] at e4
    obtain ⟨rfl, rfl⟩ := e4
    cases a <;> cases b <;> simp only [evalEqa] at hr <;> (first | (cases hr; done) | skip)
    rename_i xs ys
    simp only [Option.some.injEq, Prod.mk.injEq] at hr
    obtain ⟨rfl, rfl⟩ := hr
    obtain ⟨o1, o2⟩ := ho
    simp only [Rep] at ha hb
    obtain ⟨xv, hxe, hxv⟩ := ha
    obtain ⟨yv, hye, hyv⟩ := hb
    have hgd : (eqGuard op ty x y (.agg xv.toArray) (.agg yv.toArray)).run C.P w = .ok () w := run_eqGuard_agg w op ty x y _ _ (hC.sok ty (by simpa using q4)).2
    have heq := (flat_ok hC 6 ty l hl 10000 E w xs ys xv yv (by omega) o1 o2 hxv hyv).2 m hm
    cases neg with
    | true =>
      simp only [beqOp, decide_eq_true_eq] at q0
      subst q0
      refine ⟨.bool (!aggEq xs ys), ?_, by simp [Rep]⟩
      simp only [execOp, hxe, hye, Sem.run_bind, hgd, Result.andThen_ok, run_neq_struct, heq, Sem.run_pure]
    | false =>
      simp only [beqOp, decide_eq_true_eq] at q0
      subst q0
      refine ⟨.bool (aggEq xs ys), ?_, by simp [Rep]⟩
      simp only [execOp, hxe, hye, Sem.run_bind, hgd, Result.andThen_ok, run_eql_struct, heq, Sem.run_pure]
  · -- un
    rename_i op ty x op' y
    simp only [Bool.and_eq_true, beqUOp, decide_eq_true_eq] at hq
    obtain ⟨rfl, q2⟩ := hq
    simp only [evalQ] at hx
    obtain ⟨a, e1, e2⟩ := on1_some_iff hx
    obtain ⟨u, h1, h2⟩ := evalUn_ok (P := C.P) (w := w) e2 (hcx x y _ (by simp [Op.operands]) q2 e1)
    exact fin h1 h2 rfl
  · -- cint
    rename_i sty dty x k y
    simp only [Bool.and_eq_true] at hq
    obtain ⟨q1, q2⟩ := hq
    split at q2
    case h_2 => cases q2
    rename_i i j hi hj
    simp only [Bool.and_eq_true] at q2
    obtain ⟨q2, q3⟩ := q2
    split at q2
    case h_2 => cases q2
    rename_i k0 hk0
    split at q3
    case h_2 => cases q3
    rename_i k1 hk1
    have := kN_inj q3; subst this
    simp only [evalQ] at hx
    obtain ⟨a, e1, e2⟩ := on1_some_iff hx
    split at e2
    case h_2 => cases e2
    simp only [Option.some.injEq, Prod.mk.injEq] at e2; obtain ⟨_, rfl⟩ := e2
    have hr := hcx x y _ (by simp [Op.operands]) q1 e1
    simp only [Rep] at hr
    refine fin (m := convert sty dty (ρ x)) (by rw [hr]; exact cint_ok hC (E := E) hi hj hk0 hk1) (by simp [Rep]) rfl
  · -- cid
    rename_i sty dty x y
    simp only [Bool.and_eq_true] at hq
    obtain ⟨q1, q2⟩ := hq
    split at q2
    case h_2 => cases q2
    rename_i i j hi hj
    simp only [Bool.and_eq_true] at q2
    obtain ⟨q2, q3⟩ := q2
    split at q2
    case h_2 => cases q2
    rename_i hk0
    split at q3
    case h_2 => cases q3
    rename_i hk1
    simp only [evalQ] at hx
    obtain ⟨a, e1, e2⟩ := on1_some_iff hx
    split at e2
    case h_2 => cases e2
    simp only [Option.some.injEq, Prod.mk.injEq] at e2; obtain ⟨_, rfl⟩ := e2
    have hr := hcx x y _ (by simp [Op.operands]) q1 e1
    refine fin (m := convert sty dty (ρ x)) (u := ρ x) ?_ hr rfl
    simp only [Rep] at hr
    rw [hr]
    exact cstr_ok hC (E := E) hi hj hk0 hk1
  · -- crune
    rename_i sty dty x y
    simp only [Bool.and_eq_true] at hq
    obtain ⟨q1, q2⟩ := hq
    split at q2
    case h_2 => cases q2
    rename_i i j hi hj
    simp only [Bool.and_eq_true] at q2
    obtain ⟨q2, q3⟩ := q2
    split at q2
    case h_2 => cases q2
    rename_i k0 hk0
    split at q3
    case h_2 => cases q3
    rename_i hk1
    simp only [evalQ] at hx
    obtain ⟨a, e1, e2⟩ := on1_some_iff hx
    split at e2
    case h_2 => cases e2
    simp only [Option.some.injEq, Prod.mk.injEq] at e2; obtain ⟨_, rfl⟩ := e2
    have hr := hcx x y _ (by simp [Op.operands]) q1 e1
    simp only [Rep] at hr
    obtain ⟨u, h1, h2⟩ := crune_ok hC (E := E) (w := w) (n := _) (k1 := _) hi hj hk0 hk1
    refine fin (m := convert sty dty (ρ x)) (u := u) ?_ h2 rfl
    rw [hr]; exact h1
  · -- cbytes
    rename_i sty dty x y
    simp only [Bool.and_eq_true] at hq
    obtain ⟨q1, q2⟩ := hq
    split at q2
    case h_2 => cases q2
    rename_i i j hi hj
    simp only [Bool.and_eq_true] at q2
    obtain ⟨q2, q3⟩ := q2
    split at q2
    case h_2 => cases q2
    rename_i e hk0
    split at q2
    case h_2 => cases q2
    rename_i k hk
    split at q2
    case h_2 => cases q2
    rename_i hku
    split at q3
    case h_2 => cases q3
    rename_i hk1
    simp only [evalQ] at hx
    obtain ⟨a, e1, e2⟩ := on1_some_iff hx
    have hr := hcx x y _ (by simp [Op.operands]) q1 e1
    split at e2
    · split at e2
      case h_2 => cases e2
      rename_i l hl
      simp only [Option.some.injEq, Prod.mk.injEq] at e2; obtain ⟨_, rfl⟩ := e2
      obtain ⟨u, h1, h2⟩ := cbytes_ok hC h hi hj hk hk0 hk1 hku hl hr
      exact fin h1 h2 rfl
    · simp only [Option.some.injEq, Prod.mk.injEq] at e2; obtain ⟨_, rfl⟩ := e2
      have hr2 : Rep E (.lst 1 [] none) (ρ x) := by
        simp only [Rep] at hr ⊢
        exact ⟨⟨none, 0, hr, by simp, Or.inl trivial, (fun q hq => (by cases hq))⟩, fun e he => by simp at he⟩
      obtain ⟨u, h1, h2⟩ := cbytes_ok hC h hi hj hk hk0 hk1 hku (l := []) rfl hr2
      exact fin h1 h2 rfl
    · cases e2
  · -- mkif
    rename_i ty x t y
    simp only [Bool.and_eq_true] at hq
    obtain ⟨⟨q1, q2⟩, q3⟩ := hq
    have := Nat.eq_of_beq_eq_true q2; subst this
    split at q3
    case h_2 => cases q3
    rename_i i hi
    simp only [evalQ] at hx
    obtain ⟨a, e1, e2⟩ := on1_some_iff hx
    simp only [Option.some.injEq, Prod.mk.injEq] at e2; obtain ⟨_, rfl⟩ := e2
    obtain ⟨u, h1, h2⟩ := mkif_ok hC (w := w) hi q3 (hcx x y _ (by simp [Op.operands]) q1 e1)
    exact fin h1 h2 rfl
  · -- mkfn
    rename_i f a b f' a' b'
    simp only [Bool.and_eq_true] at hq
    obtain ⟨⟨q1, q2⟩, q3⟩ := hq
    have := Nat.eq_of_beq_eq_true q1; subst this
    simp only [evalQ] at hx
    obtain ⟨vs, e1, e2⟩ := onL_some (f := fun _ => none) hx
    obtain ⟨us, e3, e4⟩ := onL_some (f := fun _ => none) e2
    simp only [Option.some.injEq, Prod.mk.injEq] at e4; obtain ⟨_, rfl⟩ := e4
    have h1 := cxL_rep (E := E) (ρ := ρ) (lk := lk) (fun x y v hx => hcx x y v (by simp only [Op.operands, Array.mem_append]; exact Or.inl (by simpa using hx))) q2 e1
    have h2 := cxL_rep (E := E) (ρ := ρ) (lk := lk) (fun x y v hx => hcx x y v (by simp only [Op.operands, Array.mem_append]; exact Or.inr (by simpa using hx))) q3 e3
    refine ⟨.func (.func f) (a.map ρ) (b.map ρ), rfl, ?_⟩
    simp only [Rep]
    exact ⟨_, _, by rw [← Array.toList_map, ← Array.toList_map], h1, h2⟩
  · -- slc
    rename_i ty x lo hi sz y lo' hi'
    simp only [Bool.and_eq_true] at hq
    obtain ⟨⟨⟨q1, q2⟩, q3⟩, q4⟩ := hq
    split at q4
    case h_2 => cases q4
    rename_i i hi0
    split at q4
    case h_2 => cases q4
    rename_i e he
    have q4' := beqN_eq q4
    simp only [evalQ] at hx
    obtain ⟨a, e1, e2⟩ := on1_some_iff hx
    obtain ⟨l, e3, e4⟩ := onO_some e2
    obtain ⟨k, e5, e6⟩ := onO_some e4
    obtain ⟨r1, r2⟩ := cxO_rep (E := E) (ρ := ρ) (lk := lk) (fun x y v hx => hcx x y v (by simp only [Op.operands, Array.mem_append]; exact Or.inl (Or.inl (Or.inr (by simpa using hx))))) q2 e3
    obtain ⟨r3, r4⟩ := cxO_rep (E := E) (ρ := ρ) (lk := lk) (fun x y v hx => hcx x y v (by simp only [Op.operands, Array.mem_append]; exact Or.inl (Or.inr (by simpa using hx)))) q3 e5
    obtain ⟨u, h1, h2⟩ := evalSlc_ok hC (w := w) hi0 he q4' e6 ho (hcx x y _ (by simp [Op.operands]) q1 e1) r1 r2 r3 r4
    exact fin h1 h2 rfl
  · -- slcs
    rename_i ty x lo hi y lo' hi'
    simp only [Bool.and_eq_true] at hq
    obtain ⟨⟨⟨q1, q2⟩, q3⟩, q4⟩ := hq
    split at q4
    case h_2 => cases q4
    rename_i i hi0
    split at q4
    case h_2 => cases q4
    rename_i he
    simp only [evalQ] at hx
    obtain ⟨a, e1, e2⟩ := on1_some_iff hx
    obtain ⟨l, e3, e4⟩ := onO_some e2
    obtain ⟨k, e5, e6⟩ := onO_some e4
    obtain ⟨r1, r2⟩ := cxO_rep (E := E) (ρ := ρ) (lk := lk) (fun x y v hx => hcx x y v (by simp only [Op.operands, Array.mem_append]; exact Or.inl (Or.inl (Or.inr (by simpa using hx))))) q2 e3
    obtain ⟨r3, r4⟩ := cxO_rep (E := E) (ρ := ρ) (lk := lk) (fun x y v hx => hcx x y v (by simp only [Op.operands, Array.mem_append]; exact Or.inl (Or.inr (by simpa using hx)))) q3 e5
    obtain ⟨u, h1, h2⟩ := evalSlcs_ok hC (w := w) hi0 he e6 ho (hcx x y _ (by simp [Op.operands]) q1 e1) r1 r2 r3 r4
    exact fin h1 h2 rfl
  · -- fieldAddr
    rename_i ty x f off y
    simp only [Bool.and_eq_true] at hq
    obtain ⟨q1, q2⟩ := hq
    split at q2
    case h_2 => cases q2
    rename_i fd hfd
    simp only [Bool.and_eq_true] at q2
    obtain ⟨q2, q3⟩ := q2
    split at q3
    case h_2 => cases q3
    rename_i n hn
    simp only [Bool.not_eq_true'] at q3
    simp only [evalQ] at hx
    obtain ⟨a, e1, e2⟩ := on1_some_iff hx
    obtain ⟨u, h1, h2⟩ := evalFa_ok hC (w := w) hfd (Nat.eq_of_beq_eq_true q2) hn (Nat.ne_of_beq_eq_false q3) e2 (hcx x y _ (by simp [Op.operands]) q1 e1)
    exact fin h1 h2 rfl
  · -- field
    rename_i ty x f off n y
    simp only [Bool.and_eq_true] at hq
    obtain ⟨q1, q2⟩ := hq
    split at q2
    case h_2 => cases q2
    rename_i fd hfd
    simp only [Bool.and_eq_true] at q2
    obtain ⟨q2, q3⟩ := q2
    split at q3
    case h_2 => cases q3
    rename_i m hm
    have := beqN_eq q3; subst this
    simp only [evalQ] at hx
    obtain ⟨a, e1, e2⟩ := on1_some_iff hx
    obtain ⟨u, h1, h2⟩ := evalFld_ok hC (w := w) hfd (Nat.eq_of_beq_eq_true q2) hm e2 (hcx x y _ (by simp [Op.operands]) q1 e1)
    exact fin h1 h2 rfl
  · -- indexAddr
    rename_i ty x i sz arr y j
    simp only [Bool.and_eq_true] at hq
    obtain ⟨⟨q1, q2⟩, q3⟩ := hq
    split at q3
    case h_2 => cases q3
    rename_i ti hi
    simp only [evalQ] at hx
    obtain ⟨a, e1, e2⟩ := on1_some_iff hx
    obtain ⟨b, e3, e4⟩ := on1_some_iff e2
    have ha := hcx x y _ (by simp [Op.operands]) q1 e1
    have hb := hcx i j _ (by simp [Op.operands]) q2 e3
    split at q3
    · rename_i e he
      obtain ⟨u, h1, h2⟩ := evalIa_ok hC (w := w) hi (Or.inl ⟨rfl, he⟩) (beqN_eq q3) e4 ho ha hb
      exact fin h1 h2 rfl
    · rename_i n e m he
      simp only [Bool.and_eq_true] at q3
      have := Nat.eq_of_beq_eq_true q3.1; subst this
      obtain ⟨u, h1, h2⟩ := evalIa_ok hC (w := w) hi (Or.inr ⟨n, rfl, he⟩) (beqN_eq q3.2) e4 ho ha hb
      exact fin h1 h2 rfl
    · cases q3
  · -- index
    rename_i ty x i sz n len y j
    simp only [Bool.and_eq_true] at hq
    obtain ⟨⟨q1, q2⟩, q3⟩ := hq
    split at q3
    case h_2 => cases q3
    rename_i ti hi
    split at q3
    case h_2 => cases q3
    rename_i m e he
    simp only [Bool.and_eq_true] at q3
    obtain ⟨⟨q3, q4⟩, q5⟩ := q3
    have := Nat.eq_of_beq_eq_true q3; subst this
    split at q5
    case h_2 => cases q5
    rename_i l hl
    have := beqN_eq q5; subst this
    simp only [evalQ] at hx
    obtain ⟨a, e1, e2⟩ := on1_some_iff hx
    obtain ⟨b, e3, e4⟩ := on1_some_iff e2
    obtain ⟨u, h1, h2⟩ := evalIdx_ok hC (w := w) hi he (beqN_eq q4) hl e4 ho (hcx x y _ (by simp [Op.operands]) q1 e1) (hcx i j _ (by simp [Op.operands]) q2 e3)
    exact fin h1 h2 rfl
  · -- index of a string
    rename_i ty x i y j
    simp only [Bool.and_eq_true] at hq
    obtain ⟨⟨q1, q2⟩, q3⟩ := hq
    split at q3
    case h_2 => cases q3
    rename_i ti hi
    split at q3
    case h_2 => cases q3
    rename_i he
    simp only [evalQ] at hx
    obtain ⟨a, e1, e2⟩ := on1_some_iff hx
    obtain ⟨b, e3, e4⟩ := on1_some_iff e2
    obtain ⟨u, h1, h2⟩ := evalIdxs_ok hC (w := w) hi he e4 ho (hcx x y _ (by simp [Op.operands]) q1 e1) (hcx i j _ (by simp [Op.operands]) q2 e3)
    exact fin h1 h2 rfl
  · -- lookup
    rename_i ty x i ok kd z ok' y j
    simp only [Bool.and_eq_true] at hq
    obtain ⟨⟨⟨q1, q2⟩, q3⟩, q4⟩ := hq
    have hok : ok = ok' := by cases ok <;> cases ok' <;> simp at q3 <;> rfl
    subst hok
    split at q4
    case h_2 => cases q4
    rename_i kd' kt et hm
    simp only [Bool.and_eq_true] at q4
    obtain ⟨q4, q5⟩ := q4
    have := beqKD_eq q4; subst this
    split at q5
    case h_2 => cases q5
    rename_i z' hz
    simp only [evalQ] at hx
    obtain ⟨a, e1, e2⟩ := on1_some_iff hx
    obtain ⟨b, e3, e4⟩ := on1_some_iff e2
    obtain ⟨u, h1, h2⟩ := evalLk_ok hC h hm hz q5 e4 ho (hcx x y _ (by simp [Op.operands]) q1 e1) (hcx i j _ (by simp [Op.operands]) q2 e3)
    exact fin h1 h2 rfl
  · -- typeAssert
    rename_i x xt ty ok t z ok' y
    simp only [Bool.and_eq_true] at hq
    obtain ⟨⟨⟨⟨q1, q2⟩, q3⟩, q4⟩, q5⟩ := hq
    have := Nat.eq_of_beq_eq_true q2; subst this
    have hok : ok = ok' := by cases ok <;> cases ok' <;> simp at q3 <;> rfl
    subst hok
    split at q4
    case h_2 => cases q4
    rename_i z' hz
    split at q5
    case h_2 => cases q5
    rename_i i hi
    simp only [evalQ] at hx
    obtain ⟨a, e1, e2⟩ := on1_some_iff hx
    obtain ⟨u, h1, h2⟩ := evalTa_ok hC (w := w) (xt := xt) hi q5 hz q4 e2 ho (hcx x y _ (by simp [Op.operands]) q1 e1)
    exact fin h1 h2 rfl
  · -- extract
    rename_i x i j y
    simp only [Bool.and_eq_true] at hq
    have := Nat.eq_of_beq_eq_true hq.2; subst this
    simp only [evalQ] at hx
    obtain ⟨a, e1, e2⟩ := on1_some_iff hx
    have hr := hcx x y _ (by simp [Op.operands]) hq.1 e1
    split at e2
    case h_2 => cases e2
    split at e2
    case h_2 => cases e2
    rename_i v0 hv0
    simp only [Option.some.injEq, Prod.mk.injEq] at e2; obtain ⟨_, rfl⟩ := e2
    simp only [Rep] at hr
    obtain ⟨l, e, hl⟩ := hr
    obtain ⟨u, h1, h2⟩ := hl.get hv0
    exact fin (m := Instr.extract (ρ x) i) (u := u) (by rw [e]; simp [Instr.extract, h2]) h1 rfl
  · -- len
    rename_i args ts k y
    split at hq
    case h_2 => cases hq
    rename_i x ty r ha ht
    simp only [Bool.and_eq_true] at hq
    obtain ⟨q1, q2⟩ := hq
    split at q2
    case h_2 => cases q2
    rename_i i hi
    simp only [evalQ] at hx
    obtain ⟨a, e1, e2⟩ := on1_some_iff hx
    have hargs : args = #[x] := by apply Array.ext'; simpa using ha
    have hts : ts = (ty :: r).toArray := by apply Array.ext'; simpa using ht
    subst hargs
    obtain ⟨u, h1, h2⟩ := evalLen_ok hC h (rt := ty0) (ats := ts) hi (Nat.eq_of_beq_eq_true q2) e2 (hcx x y _ (by simp [Op.operands, Call.operands]) q1 e1) (by simp [hts])
    refine ⟨u, ?_, h2⟩
    simp only [execOp, resolve, Sem.run_bind, Sem.run_pure, Result.andThen_ok, invoke, builtin, List.map_toArray, List.map_cons, List.map_nil, h1]
  · -- min
    rename_i args ts x y
    split at hq
    case h_2 => cases hq
    rename_i a b ha
    simp only [Bool.and_eq_true] at hq
    have hargs : args = #[a, b] := by apply Array.ext'; simpa using ha
    subst hargs
    simp only [evalQ] at hx
    obtain ⟨va, e1, e2⟩ := on1_some_iff hx
    obtain ⟨vb, e3, e4⟩ := on1_some_iff e2
    have r1 := hcx a x _ (by simp [Op.operands, Call.operands]) hq.1 e1
    have r2 := hcx b y _ (by simp [Op.operands, Call.operands]) hq.2 e3
    split at e4
    case h_2 => cases e4
    rename_i k1 n1 k2 n2
    simp only [Option.some.injEq, Prod.mk.injEq] at e4; obtain ⟨rfl, rfl⟩ := e4
    subst ho
    simp only [Rep] at r1 r2
    have h1 := mm_ok (P := C.P) (E := E) (w := w) false (ats := ts) (ty := ty0) k1 n1 n2
    simp only [Bool.false_eq_true, if_false] at h1
    refine ⟨.int k1 (min n1 n2), ?_, by simp only [Rep]⟩
    simp only [execOp, resolve, Sem.run_bind, Sem.run_pure, Result.andThen_ok, invoke, builtin, List.map_toArray, List.map_cons, List.map_nil, r1, r2, h1]
  · -- max
    rename_i args ts x y
    split at hq
    case h_2 => cases hq
    rename_i a b ha
    simp only [Bool.and_eq_true] at hq
    have hargs : args = #[a, b] := by apply Array.ext'; simpa using ha
    subst hargs
    simp only [evalQ] at hx
    obtain ⟨va, e1, e2⟩ := on1_some_iff hx
    obtain ⟨vb, e3, e4⟩ := on1_some_iff e2
    have r1 := hcx a x _ (by simp [Op.operands, Call.operands]) hq.1 e1
    have r2 := hcx b y _ (by simp [Op.operands, Call.operands]) hq.2 e3
    split at e4
    case h_2 => cases e4
    rename_i k1 n1 k2 n2
    simp only [Option.some.injEq, Prod.mk.injEq] at e4; obtain ⟨rfl, rfl⟩ := e4
    subst ho
    simp only [Rep] at r1 r2
    have h1 := mm_ok (P := C.P) (E := E) (w := w) true (ats := ts) (ty := ty0) k1 n1 n2
    simp only [if_true] at h1
    refine ⟨.int k1 (max n1 n2), ?_, by simp only [Rep]⟩
    simp only [execOp, resolve, Sem.run_bind, Sem.run_pure, Result.andThen_ok, invoke, builtin, List.map_toArray, List.map_cons, List.map_nil, r1, r2, h1]
  · simp only [evalQ] at hx
    cases hx
  · cases hq
end
end Go.Pv
