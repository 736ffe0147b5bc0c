/-
  Values of a program as plain data: operations that change memory, or call.
-/
import Derived.Test.YteapohlamngkpaaDoorPk
import Derived.CallsIn
import Derived.Laws.RangeString
namespace Go.Pv
open Go.RowKit
set_option linter.unusedVariables false
set_option linter.unusedSimpArgs false

/-- How something ends: with a value, with a panic. -/
inductive Out where
  | ret (v : PV)
  | pan (v : PV)

def panicOf (x : Value) : List PanicEntry := [{ v := x, recovered := false }]

def Out.is (E : Env) : Out → Ending → Prop
  | .ret v, e => ∃ x, e = .returned x ∧ Rep E v x
  | .pan v, e => ∃ x, e = .panicked (panicOf x) ∧ Rep E v x

/-- A call, in any world that holds what is claimed, ends as k says. -/
def CallP (C : Cx) (f : Nat) (args : List PV) (s : Hs) (k : Out → Hs → Prop) : Prop :=
  (∃ fn, C.ft f = some fn ∧ fn.body.isNone = false) ∧
  ∀ (E : Env) (w : World) (xs : List Value), SH C E s w.heap → RepL E args xs → ∀ R : Ending → World → Prop,
    (∀ o s' E' e w', k o s' → o.is E' e → Post C s.n s.m E s w E' s' w' → R e w') → Calls C.P f xs.toArray w R

theorem CallP.mono {C : Cx} {f : Nat} {args : List PV} {s : Hs} {k k' : Out → Hs → Prop} (h : CallP C f args s k) (hk : ∀ o s', k o s' → k' o s') : CallP C f args s k' :=
  ⟨h.1, fun E w xs hs ha R hR => h.2 E w xs hs ha R fun o s' E' e w' h1 h2 h3 => hR o s' E' e w' (hk o s' h1) h2 h3⟩

inductive W where
  | store (n : Option Nat) (a x : X)
  | mapup (kd : KD) (m k v : X)
  | del (kd : KD) (m k : X)
  | app (sz bytes : Nat) (x y : X)
  | rng (x : X)
  | nxt (x : X)
  | call (f : X) (args : List X)
  | pan (x : X)

def onP (o : Option PV) (f : PV → Prop) : Prop := match o with
  | some v => f v
  | none => False

def onPL : List (Option PV) → (List PV → Prop) → Prop
  | [], f => f []
  | some v :: r, f => onPL r fun l => f (v :: l)
  | none :: _, _ => False

def OnesL : List (List PV) → Prop
  | [] => True
  | e :: r => Ones e ∧ OnesL r

/-- The first character of bytes: what it is, how many bytes it takes. -/
def decL (l : List UInt8) : Nat × Nat := Utf8.decode ⟨l.toArray⟩ 0

def appP (s : Hs) (sz bytes : Nat) (a : PV) (ys : List (List PV)) (k : Out → Hs → Prop) : Prop := match a with
  | .lst sz' es (some q) => sz' = sz ∧ s.T q = some es.length ∧ (es.length + ys.length) * bytes ≤ 140737488355328 ∧ es.length + ys.length ≤ 140737488355328 ∧ OnesL ys ∧
      k (.ret (.lst sz (es ++ ys) (some q))) ⟨s.H, hset s.T q (some (es.length + ys.length)), s.n, s.m⟩
  | .nilsl => ys.length * bytes ≤ 140737488355328 ∧ ys.length ≤ 140737488355328 ∧ (ys = [] → k (.ret .nilsl) s) ∧
      (ys ≠ [] → k (.ret (.lst sz ys (some s.m))) ⟨s.H, hset s.T s.m (some ys.length), s.n, s.m + 1⟩)
  | _ => False

def nxtP (s : Hs) (id : Nat) (k : Out → Hs → Prop) : Prop := match s.H id with
  | some (.siter b pos) =>
    (pos < b.length → k (.ret (.tup [.bool true, .int .i64 pos, .int .i32 (decL (b.drop pos)).1])) ⟨hset s.H id (some (.siter b (pos + (decL (b.drop pos)).2))), s.T, s.n, s.m⟩) ∧
    (b.length ≤ pos → k (.ret (.tup [.bool false])) s)
  | _ => False

def evalW (C : Cx) (lk : X → Option PV) (s : Hs) (k : Out → Hs → Prop) : W → Prop
  | .store n a x => onP (lk a) fun
    | .ptr id off => match s.H id with
      | some (.cells cs e more) => onP (lk x) fun v => Shape n v ∧ Ones (cellsP v) ∧ off + n.getD 1 ≤ cs.length ∧ k (.ret (.tup [])) ⟨hset s.H id (some (.cells (putP cs off (cellsP v)) e more)), s.T, s.n, s.m⟩
      | _ => False
    | _ => False
  | .mapup kd m i x => onP (lk m) fun
    | .map id => match s.H id with
      | some (.map kd' es) => onP (lk i) fun key => onP (lk x) fun v => kd' = kd ∧ kd.ok key ∧ k (.ret (.tup [])) ⟨hset s.H id (some (.map kd' (mput key v es))), s.T, s.n, s.m⟩
      | _ => False
    | _ => False
  | .del kd m i => onP (lk m) fun
    | .map id => match s.H id with
      | some (.map kd' es) => onP (lk i) fun key => kd' = kd ∧ kd.ok key ∧ k (.ret (.tup [])) ⟨hset s.H id (some (.map kd' (mdel key es))), s.T, s.n, s.m⟩
      | _ => False
    | _ => False
  | .app sz bytes x y => onP (lk x) fun a => onP (lk y) fun b => match srcOf sz b with
    | some (ob, ys) => ob ∧ appP s sz bytes a ys k
    | none => False
  | .rng x => onP (lk x) fun
    | .str b => k (.ret (.ptr s.n 0)) ⟨hset s.H s.n (some (.siter b 0)), s.T, s.n + 1, s.m⟩
    | _ => False
  | .nxt x => onP (lk x) fun
    | .ptr id 0 => nxtP s id k
    | _ => False
  | .call f args => onP (lk f) fun
    | .func g fst cap => onPL (args.map lk) fun l => CallP C g (fst ++ (l ++ cap)) s k
    | _ => False
  | .pan x => onP (lk x) fun v => match v with
    | .iface _ _ => k (.pan v) s
    | _ => False

def chkW (C : Cx) (cx : Operand → X → Bool) (op : Op) (a : W) : Bool := match op, a with
  | .store ty a x, .store n a' x' => cx a a' && cx x x' && (match szT C ty with
    | some m => beqN m n
    | none => false) && beqN (sizeT C ty) (some (n.getD 1))
  | .mapUpdate ty m k v, .mapup kd m' k' v' => cx m m' && cx k k' && cx v v' && (match mapT C ty with
    | some (kd', _, _) => beqKD kd' kd
    | none => false)
  | .insert ty m k v, .mapup kd m' k' v' => cx m m' && cx k k' && cx v v' && (match mapT C ty with
    | some (kd', _, _) => beqKD kd' kd
    | none => false)
  | .call ⟨.builtin .delete, args, ts⟩, .del kd m' k' => match args.toList, ts.toList with
    | [m, k], ty :: _ => cx m m' && cx k k' && (match mapT C ty with
      | some (kd', _, _) => beqKD kd' kd
      | none => false)
    | _, _ => false
  | .call ⟨.builtin .append, args, ts⟩, .app sz bytes x' y' => match args.toList, ts.toList with
    | [x, y], [t, u] => cx x x' && cx y y' && !Nat.beq sz 0 && (match C.tt t, C.tt u with
      | some ti, some ui => notInt ui.desc && (match ti.desc with
        | .slice e => (match C.tt e with
          | some ei => Nat.beq ei.info.size sz && Nat.beq ei.info.bytes bytes && (match zeroCs C e with | some z => Nat.beq z.length sz | none => false)
          | none => false)
        | _ => false)
      | _, _ => false)
    | _, _ => false
  | .range ty x, .rng y => cx x y && (match C.tt ty with
    | some i => (match i.desc with | .string => true | _ => false)
    | none => false)
  | .next x true, .nxt y => cx x y
  | .call ⟨.value f, args, _⟩, .call f' args' => cx f f' && cxL cx args.toList args'
  | .panic x, .pan y => cx x y
  | _, _ => false

theorem onP_some {o : Option PV} {f : PV → Prop} (h : onP o f) : ∃ v, o = some v ∧ f v := by
  cases o with
  | none => exact h.elim
  | some v => exact ⟨v, rfl, h⟩

theorem onPL_some : ∀ {l : List (Option PV)} {f : List PV → Prop}, onPL l f → ∃ vs, l = vs.map some ∧ f vs
  | [], f, h => ⟨[], rfl, h⟩
  | none :: l, f, h => h.elim
  | some v :: l, f, h => by
    obtain ⟨vs, e1, e2⟩ := onPL_some (l := l) h
    exact ⟨v :: vs, by simp [e1], e2⟩

theorem OnesL.all : ∀ {es : List (List PV)}, OnesL es → ∀ e ∈ es, Ones e
  | [], _, e, he => (by cases he)
  | x :: es, h, e, he => by
    rcases List.mem_cons.1 he with rfl | he
    · exact h.1
    · exact OnesL.all h.2 e he

/-! ### Characters of strings -/
theorem get_drop (l : List UInt8) (i k : Nat) : (ByteArray.mk l.toArray).get! (i + k) = (ByteArray.mk (l.drop i).toArray).get! (0 + k) := by
  simp only [ByteArray.get!, Array.get!Internal_eq_getElem!, List.getElem!_toArray, Nat.zero_add]
  simp only [List.getElem!_eq_getElem?_getD, List.getElem?_drop]

theorem decode_drop (l : List UInt8) (i : Nat) (h : i ≤ l.length) : Utf8.decode ⟨l.toArray⟩ i = decL (l.drop i) := by
  have hs : ∀ k, (decide (i + k < (ByteArray.mk l.toArray).size)) = decide (0 + k < (ByteArray.mk (l.drop i).toArray).size) := by
    intro k
    simp only [size_mk, List.length_drop, decide_eq_decide]
    omega
  have hg := get_drop l i
  unfold decL
  generalize ByteArray.mk (l.drop i).toArray = B at hs hg ⊢
  generalize ByteArray.mk l.toArray = A at hs hg ⊢
  simp only [Utf8.decode, hg, hs]

/-! ### The model makes of them what stands there -/
/-- A frame of a function's, or of a round's. -/
def Fw (ro : Option Nat) : Fence := { Fence.wide with round := ro }

theorem callsFw {P : Program} {ro : Option Nat} {f : FuncId} {args : Array Value} {w : World} {R : Ending → World → Prop} (h : Calls P f args w R) : CallsIn (Fw ro) 0 P f args w R :=
  have h' : CallsIn Fence.wide 0 P f args w R := callsIn_wide.2 h
  ⟨trivial, h'.2⟩

theorem semFw {ro : Option Nat} {ρ : Operand → Value} {o : Oper} (h : ∀ c, o.op ≠ .defer c) : o.semAt (Fw ro).round ρ = execOp ρ o := by
  cases ro with
  | none => exact Oper.semAt_none ρ o
  | some l => exact Oper.semAt_eq _ ρ o h

section
variable {C : Cx} (hC : C.Ok) {lk : X → Option PV} {cx : Operand → X → Bool}
include hC

set_option maxHeartbeats 1000000 in
theorem writer_ok {ro : Option Nat} {nn mm : Nat} {E : Env} {s : Hs} {w : World} (h : SH C E s w.heap) {o : Oper} {a : Act} {wr : W} {k : Out → Hs → Prop} (hnn : nn ≤ s.n) (hmm : mm ≤ s.m)
    (hcx : ∀ x y v, x ∈ o.op.operands → cx x y = true → lk y = some v → Rep E v (a.eval x)) (hk : chkW C cx o.op wr = true) (hx : evalW C lk s k wr)
    {K : Act → World → Prop} {Q : Exit → Act → World → Prop}
    (hK : ∀ v s' E' w' x, k (.ret v) s' → Rep E' v x → Post C nn mm E s w E' s' w' → K (a.put o.dst x) w')
    (hQ : ∀ v s' E' w' x, k (.pan v) s' → Rep E' v x → Post C nn mm E s w E' s' w' → Q (.panic (panicOf x)) a w') : o.wpIn (Fw ro) 0 C.P a w K Q := by
  have nd : ∀ c, o.op ≠ .defer c := by
    intro c e
    rw [e] at hk
    simp [chkW] at hk
  refine ⟨fun _ _ => trivial, ?_⟩
  rw [semFw nd]
  obtain ⟨dst, op, ty0, pos0, after, guard⟩ := o
  simp only at hcx hk hK hQ ⊢
  have tup0 : ∀ E', Rep E' (.tup []) undef := fun E' => by simp only [Rep]; exact ⟨[], rfl, RepL.mk0⟩
  unfold chkW at hk
  split at hk
  · -- store
    rename_i ty x y n x' y'
    simp only [Bool.and_eq_true] at hk
    obtain ⟨⟨⟨k1, k2⟩, k3⟩, k4⟩ := hk
    split at k3
    case h_2 => cases k3
    rename_i m hm
    have := beqN_eq k3; subst this
    simp only [evalW] at hx
    obtain ⟨v1, e1, hx⟩ := onP_some hx
    split at hx
    case h_2 => exact hx.elim
    rename_i id off
    split at hx
    case h_2 => exact hx.elim
    rename_i cs e more hg
    obtain ⟨v2, e2, q1, q2, q3, q4⟩ := onP_some hx
    obtain ⟨w', hr, hp⟩ := store_ok hC (nn := nn) (mm := mm) h hm (beqN_eq k4) hg q1 q2 q3 (hcx x x' _ (by simp [Op.operands]) k1 e1) (hcx y y' _ (by simp [Op.operands]) k2 e2)
    have hrun : (execOp a.eval ⟨dst, .store ty x y, ty0, pos0, after, guard⟩).run C.P w = .ok .skip w' := by simp only [execOp, Sem.run_bind, hr, Result.andThen_ok, Sem.run_pure]
    rw [hrun]
    exact hK _ _ _ _ _ q4 (tup0 _) hp
  · -- mapUpdate
    rename_i ty m i x kd m' i' x'
    simp only [Bool.and_eq_true] at hk
    obtain ⟨⟨⟨k1, k2⟩, k3⟩, k4⟩ := hk
    split at k4
    case h_2 => cases k4
    rename_i kd1 kt et hm
    have := beqKD_eq k4; subst this
    simp only [evalW] at hx
    obtain ⟨v1, e1, hx⟩ := onP_some hx
    split at hx
    case h_2 => exact hx.elim
    rename_i id
    split at hx
    case h_2 => exact hx.elim
    rename_i kd' es hg
    obtain ⟨v2, e2, hx⟩ := onP_some hx
    obtain ⟨v3, e3, q1, q2, q3⟩ := onP_some hx
    obtain ⟨w', hr, hp⟩ := mapUpdate_ok hC (nn := nn) (mm := mm) h hm hg q1 q2 (hcx m m' _ (by simp [Op.operands]) k1 e1) (hcx i i' _ (by simp [Op.operands]) k2 e2) (hcx x x' _ (by simp [Op.operands]) k3 e3)
    have hrun : (execOp a.eval ⟨dst, .mapUpdate ty m i x, ty0, pos0, after, guard⟩).run C.P w = .ok .skip w' := by simp only [execOp, Sem.run_bind, hr, Result.andThen_ok, Sem.run_pure]
    rw [hrun]
    exact hK _ _ _ _ _ q3 (tup0 _) hp
  · -- insert
    rename_i ty m i x kd m' i' x'
    simp only [Bool.and_eq_true] at hk
    obtain ⟨⟨⟨k1, k2⟩, k3⟩, k4⟩ := hk
    split at k4
    case h_2 => cases k4
    rename_i kd1 kt et hm
    have := beqKD_eq k4; subst this
    simp only [evalW] at hx
    obtain ⟨v1, e1, hx⟩ := onP_some hx
    split at hx
    case h_2 => exact hx.elim
    rename_i id
    split at hx
    case h_2 => exact hx.elim
    rename_i kd' es hg
    obtain ⟨v2, e2, hx⟩ := onP_some hx
    obtain ⟨v3, e3, q1, q2, q3⟩ := onP_some hx
    obtain ⟨w', hr, hp⟩ := mapUpdate_ok hC (nn := nn) (mm := mm) h hm hg q1 q2 (hcx m m' _ (by simp [Op.operands]) k1 e1) (hcx i i' _ (by simp [Op.operands]) k2 e2) (hcx x x' _ (by simp [Op.operands]) k3 e3)
    have hrun : (execOp a.eval ⟨dst, .insert ty m i x, ty0, pos0, after, guard⟩).run C.P w = .ok .skip w' := by simp only [execOp, Sem.run_bind, hr, Result.andThen_ok, Sem.run_pure]
    rw [hrun]
    exact hK _ _ _ _ _ q3 (tup0 _) hp
  · -- delete
    rename_i args ts kd m' i'
    split at hk
    case h_2 => cases hk
    rename_i m i ty r ha ht
    simp only [Bool.and_eq_true] at hk
    obtain ⟨⟨k1, k2⟩, k4⟩ := hk
    split at k4
    case h_2 => cases k4
    rename_i kd1 kt et hm
    have := beqKD_eq k4; subst this
    have hargs : args = #[m, i] := by apply Array.ext'; simpa using ha
    have hts : ts[0]? = some ty := by rw [← Array.getElem?_toList, ht]; rfl
    subst hargs
    simp only [evalW] at hx
    obtain ⟨v1, e1, hx⟩ := onP_some hx
    split at hx
    case h_2 => exact hx.elim
    rename_i id
    split at hx
    case h_2 => exact hx.elim
    rename_i kd' es hg
    obtain ⟨v2, e2, q1, q2, q3⟩ := onP_some hx
    obtain ⟨w', hr, hp⟩ := mapDelete_ok hC (nn := nn) (mm := mm) h (rt := ty0) (ats := ts) hm hg q1 q2 (hcx m m' _ (by simp [Op.operands, Call.operands]) k1 e1) (hcx i i' _ (by simp [Op.operands, Call.operands]) k2 e2) hts
    have hrun : (execOp a.eval ⟨dst, .call ⟨.builtin .delete, #[m, i], ts⟩, ty0, pos0, after, guard⟩).run C.P w = .ok (.value (.tuple #[])) w' := by
      simp only [execOp, resolve, Sem.run_bind, Sem.run_pure, Result.andThen_ok, invoke, builtin, List.map_toArray, List.map_cons, List.map_nil, hr]
    rw [hrun]
    exact hK _ _ _ _ _ q3 (tup0 _) hp
  · -- append
    rename_i args ts sz bytes x' y'
    split at hk
    case h_2 => cases hk
    rename_i x y t ut ha ht
    simp only [Bool.and_eq_true, Bool.not_eq_true'] at hk
    obtain ⟨⟨⟨k1, k2⟩, k3⟩, k4⟩ := hk
    split at k4
    case h_2 => cases k4
    rename_i ti ui hti hui
    simp only [Bool.and_eq_true] at k4
    obtain ⟨k4, k5⟩ := k4
    split at k5
    case h_2 => cases k5
    rename_i e he
    split at k5
    case h_2 => cases k5
    rename_i ei hei
    simp only [Bool.and_eq_true] at k5
    obtain ⟨⟨k5, k6⟩, k7⟩ := k5
    split at k7
    case h_2 => cases k7
    rename_i zc hzc
    obtain ⟨z, i, hi, hiz, hzl⟩ := zeroCs_ok hC hzc
    obtain ⟨_, hein⟩ := hC.ty e ei hei
    rw [hi] at hein; cases hein
    have hzs : z.cells.size = sz := by rw [← Array.length_toList, hzl]; exact Nat.eq_of_beq_eq_true k7
    have hargs : args = #[x, y] := by apply Array.ext'; simpa using ha
    have hts : ts = #[t, ut] := by apply Array.ext'; simpa using ht
    subst hargs; subst hts
    have hsz0 : 0 < sz := Nat.pos_of_ne_zero (Nat.ne_of_beq_eq_false k3)
    simp only [evalW] at hx
    obtain ⟨v1, e1, hx⟩ := onP_some hx
    obtain ⟨v2, e2, hx⟩ := onP_some hx
    split at hx
    case h_2 => exact hx.elim
    rename_i ob ys hsrc
    obtain ⟨ho, hx⟩ := hx
    have hrx := hcx x x' _ (by simp [Op.operands, Call.operands]) k1 e1
    have hry := hcx y y' _ (by simp [Op.operands, Call.operands]) k2 e2
    obtain ⟨xs, g1, g2, g3, g4, g5⟩ := src_ok h hsrc ho hry
    have go : ∀ {u : Value} {w' : World}, (Builtin.append_ #[t, ut] ty0 #[a.eval x, a.eval y]).run C.P w = .ok u w' →
        (execOp a.eval ⟨dst, .call ⟨.builtin .append, #[x, y], #[t, ut]⟩, ty0, pos0, after, guard⟩).run C.P w = .ok (.value u) w' := by
      intro u w' hr
      simp only [execOp, resolve, Sem.run_bind, Sem.run_pure, Result.andThen_ok, invoke, builtin, List.map_toArray, List.map_cons, List.map_nil, hr]
    unfold appP at hx
    split at hx
    · rename_i sz' es q
      obtain ⟨rfl, q1, q2, q3, q4, q5⟩ := hx
      obtain ⟨E', r, w', hr, hrep, hp⟩ := append_ok hC (nn := nn) (mm := mm) h (ty := ty0) hti hui he k4 hei (Nat.eq_of_beq_eq_true k5) hsz0 (Nat.eq_of_beq_eq_true k6) hiz hzs q1 hrx g1 g2 g3
        (allOne_rep g1 (Even.ones (sz := 0) fun e he => q4.all e he)) g4 g5 q2 q3
      rw [go hr]
      exact hK _ _ _ _ _ q5 hrep hp
    · obtain ⟨q1, q2, q3, q4⟩ := hx
      simp only [Rep] at hrx
      rw [hrx] at go
      obtain ⟨r1, r2⟩ := appendNil_ok hC (nn := nn) (mm := mm) h (ty := ty0) hti hui he k4 hei (Nat.eq_of_beq_eq_true k5) hsz0 (Nat.eq_of_beq_eq_true k6) hiz hzs hmm g1 g2 g3 g4 g5 q1 q2
      by_cases hne : ys = []
      · rw [go (r1 hne)]
        exact hK _ _ E _ _ (q3 hne) (by simp only [Rep]) (Post.refl h)
      · obtain ⟨E', r, w', hr, hrep, hp⟩ := r2 hne
        rw [go hr]
        exact hK _ _ _ _ _ (q4 hne) hrep hp
    · exact hx.elim
  · -- range
    rename_i ty x y
    simp only [Bool.and_eq_true] at hk
    obtain ⟨k1, k2⟩ := hk
    split at k2
    case h_2 => cases k2
    rename_i i hi
    obtain ⟨hd, _⟩ := hC.ty ty i hi
    split at k2
    case h_2 => cases k2
    rename_i he
    rw [he] at hd
    simp only [evalW] at hx
    obtain ⟨v1, e1, hx⟩ := onP_some hx
    split at hx
    case h_2 => exact hx.elim
    rename_i b
    have hrx := hcx x y _ (by simp [Op.operands]) k1 e1
    simp only [Rep] at hrx
    have hrun : (execOp a.eval ⟨dst, .range ty x, ty0, pos0, after, guard⟩).run C.P w = .ok (.value (.pointer (some ⟨w.heap.size, 0, none⟩))) (w.alloc (.stringIter ⟨b.toArray⟩ 0)) := by
      simp [execOp, hrx, Instr.range, run_underlying hd]
    rw [hrun]
    have hfr := h.freshb s.n (Nat.le_refl _)
    refine hK _ _ (E.setB s.n w.heap.size) _ _ hx (by simp only [Rep]; exact ⟨_, Env.setB_same _ _ _, rfl⟩) (Post.alloc (O := .stringIter ⟨b.toArray⟩ 0) h hfr (Nat.le_succ _) (Nat.lt_succ_self _) hnn rfl rfl rfl rfl ?_)
    show (w.heap.push _)[w.heap.size]? = _
    simp
  · -- next
    rename_i x y
    simp only [evalW] at hx
    obtain ⟨v1, e1, hx⟩ := onP_some hx
    split at hx
    case h_2 => exact hx.elim
    rename_i id
    have hrx := hcx x y _ (by simp [Op.operands]) hk e1
    simp only [nxtP] at hx
    split at hx
    case h_2 => exact hx.elim
    rename_i b pos hg
    obtain ⟨blk, hb, h1, _⟩ := h.obj hg
    have h1' : w.heap[blk]? = some (.stringIter ⟨b.toArray⟩ pos) := h1
    simp only [Rep] at hrx
    obtain ⟨blk', hb', hrx⟩ := hrx
    rw [hb] at hb'; cases hb'
    have hgo : (getObj blk).run C.P w = .ok (.stringIter ⟨b.toArray⟩ pos) w := by simp [getObj, Sem.run, h1']
    have hso : ∀ O : Obj, (Go.setObj blk O).run C.P w = .ok () { w with heap := w.heap.setIfInBounds blk O } := by
      intro O; simp [Go.setObj, Sem.run, h1']
    have hlt : blk < w.heap.size := (Array.getElem?_eq_some_iff.1 h1').1
    by_cases hl : pos < b.length
    · have hl' : pos < (ByteArray.mk b.toArray).size := by rw [size_mk]; exact hl
      have hrun : (execOp a.eval ⟨dst, .next x true, ty0, pos0, after, guard⟩).run C.P w = .ok (.value (.tuple #[.bool true, goInt pos, .int .i32 (decL (b.drop pos)).1])) { w with heap := w.heap.setIfInBounds blk (.stringIter ⟨b.toArray⟩ (pos + (decL (b.drop pos)).2)) } := by
        simp only [execOp, hrx, Instr.next, Sem.run_bind, hgo, Result.andThen_ok, hl', if_true, decode_drop b pos (Nat.le_of_lt hl), hso, Sem.run_pure]
      rw [hrun]
      refine hK _ _ E _ _ (hx.1 hl) ?_ (Post.setObj (O := .stringIter ⟨b.toArray⟩ (pos + (decL (b.drop pos)).2)) (o' := .siter b (pos + (decL (b.drop pos)).2)) h hg hb ?_)
      · simp only [Rep]
        exact ⟨_, rfl, RepL.mk (by simp [Rep]) (RepL.mk (by simp [Rep, goInt]) (RepL.mk (by simp [Rep]) RepL.mk0))⟩
      · show (w.heap.setIfInBounds blk _)[blk]? = _
        simp [hlt]
    · have hl' : ¬ pos < (ByteArray.mk b.toArray).size := by rw [size_mk]; exact hl
      have hrun : (execOp a.eval ⟨dst, .next x true, ty0, pos0, after, guard⟩).run C.P w = .ok (.value (.tuple #[.bool false])) w := by
        simp only [execOp, hrx, Instr.next, Sem.run_bind, hgo, Result.andThen_ok, hl', if_false, Sem.run_pure]
      rw [hrun]
      refine hK _ _ E _ _ (hx.2 (by omega)) ?_ (Post.refl h)
      simp only [Rep]
      exact ⟨_, rfl, RepL.mk (by simp [Rep]) RepL.mk0⟩
  · -- call
    rename_i f args ts f' args'
    simp only [Bool.and_eq_true] at hk
    obtain ⟨k1, k2⟩ := hk
    simp only [evalW] at hx
    obtain ⟨v1, e1, hx⟩ := onP_some hx
    split at hx
    case h_2 => exact hx.elim
    rename_i g fst cap
    obtain ⟨l, e2, hx⟩ := onPL_some hx
    obtain ⟨⟨fn, hfn, hbn⟩, hcall⟩ := hx
    obtain ⟨hfun, hname⟩ := hC.fn g fn hfn
    have hf := hcx f f' _ (by simp [Op.operands, Call.operands]) k1 e1
    simp only [Rep] at hf
    obtain ⟨av, bv, hfe, ha, hb⟩ := hf
    have hl := cxL_rep (E := E) (ρ := a.eval) (lk := lk) (fun x y v hx => hcx x y v (by simp only [Op.operands, Call.operands, Array.mem_append]; exact Or.inr (by simpa using hx))) k2 e2
    have hall := ha.append (hl.append hb)
    have harr : (av.toArray ++ args.map a.eval) ++ bv.toArray = (av ++ ((args.toList.map a.eval) ++ bv)).toArray := by apply Array.ext'; simp
    have hrun : (execOp a.eval ⟨dst, .call ⟨.value f, args, ts⟩, ty0, pos0, after, guard⟩).run C.P w = .ok (.enter g (av ++ ((args.toList.map a.eval) ++ bv)).toArray) w := by
      simp only [execOp, resolve, Sem.run_bind, hfe, Deferred.ofValue, Sem.run_pure, Result.andThen_ok, invoke, callFunc, run_program, hfun, hname, hbn, Bool.false_eq_true, if_false, harr]
    rw [hrun]
    refine ⟨fun h => (by simp [Fw, Fence.wide] at h), callsFw (hcall E w _ h hall _ fun o s' E' e w' h1 h2 h3 => ?_)⟩
    cases o with
    | ret v =>
      obtain ⟨x, rfl, hr⟩ := h2
      exact hK _ _ _ _ _ h1 hr (h3.low hnn hmm)
    | pan v =>
      obtain ⟨x, rfl, hr⟩ := h2
      exact hQ _ _ _ _ _ h1 hr (h3.low hnn hmm)
  · -- panic
    rename_i x y
    simp only [evalW] at hx
    obtain ⟨v1, e1, hx⟩ := onP_some hx
    split at hx
    case h_2 => exact hx.elim
    rename_i t v
    have hr := hcx x y _ (by simp [Op.operands]) hk e1
    have hr0 := hr
    simp only [Rep] at hr0
    obtain ⟨y', hy, _⟩ := hr0
    have hrun : (execOp a.eval ⟨dst, .panic x, ty0, pos0, after, guard⟩).run C.P w = .halt (.panic (a.eval x)) w := by
      simp only [execOp, hy, Sem.run_bind]; rfl
    rw [hrun]
    exact hQ _ _ E _ _ hx hr (Post.refl h)
  · cases hk
end
end Go.Pv
