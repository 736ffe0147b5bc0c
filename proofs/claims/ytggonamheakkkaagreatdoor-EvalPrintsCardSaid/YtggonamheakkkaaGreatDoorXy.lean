/-
  A run of closed code by the kernel: the same run, laid so that the kernel has less to write.
-/
import Derived.Test.YtggonamheakkkaaGreatDoorXr
namespace Go.Xq
open Go.RowKit
set_option linter.unusedVariables false

abbrev EX := Nat → Code → St → Option (Ex × St)
abbrev RX := Option (Ex × St)
abbrev WX := Option (Bool × SV × Tr AO × Nat)

/-- What is done with what there is. -/
noncomputable def optF {α β : Type} (n : β) (s : α → β) (o : Option α) : β := Option.rec (motive := fun _ => β) n s o
theorem optF_eq {α β : Type} (n : β) (s : α → β) (o : Option α) : optF n s o = (match o with | some v => s v | none => n) := by cases o <;> rfl

/-! ### Temporaries -/
noncomputable def updF {α : Type} (t : Tr α) (k : Nat) (a : Option α) : Option (Tr α) := Bool.rec (motive := fun _ => Option (Tr α)) none (some (Tr.put a t k)) (Nat.ble (Nat.succ k) 281474976710655)
theorem updF_eq {α : Type} (f : Nat) (t : Tr α) (k : Nat) (a : Option α) : updF t k a = Tr.upd f t k a := by
  unfold updF Tr.upd
  show (Bool.rec (motive := fun _ => Option (Tr α)) none (some (Tr.put a t k)) (Nat.blt k 281474976710655)) = _
  cases Nat.blt k 281474976710655 <;> rfl

noncomputable def getF : Operand → Nat → Tr SV → Option SV := Operand.rec (motive := fun _ => Nat → Tr SV → Option SV)
  (fun k => fun _ t => t.get k) (fun v => fun _ _ => ofV v)
  (fun g => fun G _ => Bool.rec (motive := fun _ => Option SV) none (some (.ptr g 0)) (Nat.blt g G))
  (fun f => fun _ _ => some (.func (.func f) [] []))
theorem getF_eq (G : Nat) (t : Tr SV) (x : Operand) : getF x G t = getX G t x := by
  cases x with
  | global g =>
    show (Bool.rec (motive := fun _ => Option SV) none (some (.ptr g 0)) (Nat.blt g G)) = _
    simp only [getX]
    cases Nat.blt g G <;> rfl
  | _ => rfl

noncomputable def putF : Option Tmp → Nat → Tr SV → SV → Option (Tr SV) := Option.rec (motive := fun _ => Nat → Tr SV → SV → Option (Tr SV))
  (fun _ t _ => some t) (fun d => fun sz t v => Bool.rec (motive := fun _ => Option (Tr SV)) none (updF t d (some v)) (Nat.ble (Nat.succ d) sz))
theorem putF_eq (sz : Nat) (t : Tr SV) (d : Option Tmp) (v : SV) : putF d sz t v = putX sz t d v := by
  cases d with
  | none => rfl
  | some d =>
    show (Bool.rec (motive := fun _ => Option (Tr SV)) none (updF t d (some v)) (Nat.blt d sz)) = _
    rw [updF_eq 24]
    unfold putX
    simp only
    cases Nat.blt d sz <;> rfl

/-! ### Memory -/
noncomputable def rowF (h : Tr AO) (id : Nat) : Option (List SV) := optF none (AO.rec (motive := fun _ => Option (List SV)) (fun cs _ _ _ => some cs) (fun _ => none) (fun _ _ => none) (fun cs => some cs) (fun _ _ _ _ _ _ _ => none)) (h.get id)
theorem rowF_eq (h : Tr AO) (id : Nat) : rowF h id = rowS h id := by
  unfold rowF rowS
  rw [optF_eq]
  cases h.get id with
  | none => rfl
  | some o => cases o <;> rfl

/-- The element of a row. -/
noncomputable def nthF : List SV → Nat → Option SV := List.rec (motive := fun _ => Nat → Option SV) (fun _ => none) (fun a _ ih => fun k => Bool.rec (motive := fun _ => Option SV) (ih (Nat.sub k 1)) (some a) (Nat.beq k 0))
theorem nthF_eq : ∀ (l : List SV) (k : Nat), nthF l k = l[k]?
  | [], k => rfl
  | a :: r, 0 => rfl
  | a :: r, k + 1 => by
    show nthF r k = _
    rw [nthF_eq r k]; rfl

noncomputable def loadA (cs : List SV) (off : Nat) (i : TI) : Option SV :=
  match Nat.beq ((cs.drop off).take i.info.size).length i.info.size with
  | true => some (.agg ((cs.drop off).take i.info.size))
  | false => none

noncomputable def loadI : Option TI → List SV → Nat → Option SV := Option.rec (motive := fun _ => List SV → Nat → Option SV) (fun _ _ => none)
  (fun i => fun cs off => Bool.rec (motive := fun _ => Option SV) (nthF cs off) (loadA cs off i) (isAggD i.desc))

noncomputable def loadR : Option (List SV) → Nat → Cx → TypeId → Option SV := Option.rec (motive := fun _ => Nat → Cx → TypeId → Option SV) (fun _ _ _ => none)
  (fun cs => fun off C ty => loadI (C.tt.get ty) cs off)

abbrev LX := Cx → Tr AO → TypeId → Option SV
noncomputable def loadF : SV → LX := SV.rec (motive_1 := fun _ => LX) (motive_2 := fun _ => Unit)
  (fun _ _ _ _ => none) (fun _ _ _ _ _ => none) (fun _ _ _ _ => none) (fun _ _ _ => none)
  (fun id off => fun C h ty => loadR (rowF h id) off C ty)
  (fun _ _ _ => none) (fun _ _ _ _ _ _ _ => none) (fun _ _ _ => none) (fun _ _ _ _ => none) (fun _ _ _ => none) (fun _ _ _ _ _ _ _ _ => none) (fun _ _ _ => none) (fun _ _ _ _ _ _ => none) (fun _ _ _ _ _ => none) (fun _ _ _ _ _ => none) (fun _ _ _ _ => none) (fun _ _ _ _ => none) (fun _ _ _ _ => none)
  (fun i k => fun C _ ty => xLoadO C ty i k) (fun _ _ _ _ => none)
  () (fun _ _ _ _ => ())

theorem loadF_eq (C : Cx) (h : Tr AO) (ty : TypeId) (v : SV) : loadF v C h ty = (match v with | .optr i k => xLoadO C ty i k | v => xLoad C h ty v) := by
  cases v with
  | ptr id off =>
    show loadR (rowF h id) off C ty = xLoad C h ty (.ptr id off)
    rw [rowF_eq]
    simp only [xLoad]
    cases rowS h id with
    | none => rfl
    | some cs =>
      show loadI (C.tt.get ty) cs off = _
      simp only
      cases C.tt.get ty with
      | none => rfl
      | some i =>
        show (Bool.rec (motive := fun _ => Option SV) (nthF cs off) (loadA cs off i) (isAggD i.desc)) = _
        rw [nthF_eq]
        simp only
        cases isAggD i.desc <;> rfl
  | _ => rfl

/-! ### One operation -/
abbrev BX := Cx → Tr AO → BinOp → TypeId → Operand → Operand → Option SV
noncomputable def binG : SV → IntKind → SI → BX := SV.rec (motive_1 := fun _ => IntKind → SI → BX) (motive_2 := fun _ => Unit)
  (fun b => fun k e C h op t x y => xBin C h op t x y (.int k e) (.bool b))
  (fun yk f => fun k e C _ op _ _ _ => xInt C.facts op k yk e f)
  (fun s => fun k e C h op t x y => xBin C h op t x y (.int k e) (.str s))
  (fun k e C h op t x y => xBin C h op t x y (.int k e) .nilptr)
  (fun i o => fun k e C h op t x y => xBin C h op t x y (.int k e) (.ptr i o))
  (fun k e C h op t x y => xBin C h op t x y (.int k e) .nilslice)
  (fun i o n c => fun k e C h op t x y => xBin C h op t x y (.int k e) (.slice i o n c))
  (fun k e C h op t x y => xBin C h op t x y (.int k e) .nilmap)
  (fun i => fun k e C h op t x y => xBin C h op t x y (.int k e) (.map i))
  (fun k e C h op t x y => xBin C h op t x y (.int k e) .nilfunc)
  (fun f a b _ _ => fun k e C h op t x y => xBin C h op t x y (.int k e) (.func f a b))
  (fun k e C h op t x y => xBin C h op t x y (.int k e) .nilIface)
  (fun u v _ => fun k e C h op t x y => xBin C h op t x y (.int k e) (.iface u v))
  (fun cs _ => fun k e C h op t x y => xBin C h op t x y (.int k e) (.agg cs))
  (fun cs _ => fun k e C h op t x y => xBin C h op t x y (.int k e) (.tuple cs))
  (fun i => fun k e C h op t x y => xBin C h op t x y (.int k e) (.opq i))
  (fun i => fun k e C h op t x y => xBin C h op t x y (.int k e) (.ostr i))
  (fun i => fun k e C h op t x y => xBin C h op t x y (.int k e) (.oslice i))
  (fun i j => fun k e C h op t x y => xBin C h op t x y (.int k e) (.optr i j))
  (fun i => fun k e C h op t x y => xBin C h op t x y (.int k e) (.yld i))
  () (fun _ _ _ _ => ())

noncomputable def binH : SV → SV → BX := SV.rec (motive_1 := fun _ => SV → BX) (motive_2 := fun _ => Unit)
  (fun b => fun q C h op t x y => xBin C h op t x y (.bool b) q)
  (fun k e => fun q => binG q k e)
  (fun s => fun q C h op t x y => xBin C h op t x y (.str s) q)
  (fun q C h op t x y => xBin C h op t x y .nilptr q)
  (fun i o => fun q C h op t x y => xBin C h op t x y (.ptr i o) q)
  (fun q C h op t x y => xBin C h op t x y .nilslice q)
  (fun i o n c => fun q C h op t x y => xBin C h op t x y (.slice i o n c) q)
  (fun q C h op t x y => xBin C h op t x y .nilmap q)
  (fun i => fun q C h op t x y => xBin C h op t x y (.map i) q)
  (fun q C h op t x y => xBin C h op t x y .nilfunc q)
  (fun f a b _ _ => fun q C h op t x y => xBin C h op t x y (.func f a b) q)
  (fun q C h op t x y => xBin C h op t x y .nilIface q)
  (fun u v _ => fun q C h op t x y => xBin C h op t x y (.iface u v) q)
  (fun cs _ => fun q C h op t x y => xBin C h op t x y (.agg cs) q)
  (fun cs _ => fun q C h op t x y => xBin C h op t x y (.tuple cs) q)
  (fun i => fun q C h op t x y => xBin C h op t x y (.opq i) q)
  (fun i => fun q C h op t x y => xBin C h op t x y (.ostr i) q)
  (fun i => fun q C h op t x y => xBin C h op t x y (.oslice i) q)
  (fun i j => fun q C h op t x y => xBin C h op t x y (.optr i j) q)
  (fun i => fun q C h op t x y => xBin C h op t x y (.yld i) q)
  () (fun _ _ _ _ => ())

noncomputable def binF (a b : SV) (C : Cx) (h : Tr AO) (op : BinOp) (t : TypeId) (x y : Operand) : Option SV := binH a b C h op t x y

theorem binF_eq (a b : SV) (C : Cx) (h : Tr AO) (op : BinOp) (t : TypeId) (x y : Operand) : binF a b C h op t x y = xBin C h op t x y a b := by
  cases a with
  | int k e => cases b <;> rfl
  | _ => rfl

noncomputable def quietF : Op → Cx → Tr SV → Tr AO → Option SV := Op.rec (motive := fun _ => Cx → Tr SV → Tr AO → Option SV)
  (fun x => fun C t h => getF x C.g0 t)
  (fun x => fun C t h => getF x C.g0 t)
  (fun c a b => fun C t h => quietX C t h (.pick c a b))
  (fun _ => fun C t h => none)
  (fun _ _ => fun C t h => none)
  (fun ty ps => fun C t h => quietX C t h (.build ty ps))
  (fun _ _ _ => fun C t h => none)
  (fun _ _ _ _ => fun C t h => none)
  (fun ty a => fun C t h => optF none (fun v => loadF v C h ty) (getF a C.g0 t))
  (fun _ _ _ => fun C t h => none)
  (fun _ => fun C t h => none)
  (fun _ => fun C t h => none)
  (fun x => fun C t h => quietX C t h (.nilCheck x))
  (fun op ty x y _ => fun C t h => optF none (fun p => optF none (fun q => binF p q C h op ty x y) (getF y C.g0 t)) (getF x C.g0 t))
  (fun op _ x => fun C t h => optF none (fun a => xUn op a) (getF x C.g0 t))
  (fun s d x => fun C t h => optF none (fun a => xConv C h s d a) (getF x C.g0 t))
  (fun _ _ => fun C t h => none)
  (fun ty x => fun C t h => optF none (fun a => xMakeIface C ty a) (getF x C.g0 t))
  (fun fn a b => fun C t h => quietX C t h (.makeFunc fn a b))
  (fun _ _ => fun C t h => none)
  (fun _ _ => fun C t h => none)
  (fun _ _ _ => fun C t h => none)
  (fun ty x lo hi mx => fun C t h => quietX C t h (.slice ty x lo hi mx))
  (fun ty x f => fun C t h => optF none (fun a => xFieldAddr C ty f a) (getF x C.g0 t))
  (fun ty x f => fun C t h => optF none (fun a => xField C ty f a) (getF x C.g0 t))
  (fun ty x i => fun C t h => quietX C t h (.indexAddr ty x i))
  (fun ty x i => fun C t h => optF none (fun p => optF none (fun q => xIndex C ty p q) (getF i C.g0 t)) (getF x C.g0 t))
  (fun ty x i ok => fun C t h => optF none (fun p => optF none (fun q => xLookup C h ty p q ok) (getF i C.g0 t)) (getF x C.g0 t))
  (fun _ _ _ _ => fun C t h => none)
  (fun _ _ _ => fun C t h => none)
  (fun _ _ _ _ => fun C t h => none)
  (fun _ _ => fun C t h => none)
  (fun _ _ => fun C t h => none)
  (fun _ => fun C t h => none)
  (fun x _ ty ok => fun C t h => optF none (fun a => xAssert C a ty ok) (getF x C.g0 t))
  (fun x i => fun C t h => optF none (fun a => xExtract a i) (getF x C.g0 t))
  (fun c => fun C t h => quietX C t h (.call c))
  (fun _ => fun C t h => none)
  (fun _ => fun C t h => none)
  (fun _ => fun C t h => none)
  (fun _ _ => fun C t h => none)
  (fun _ _ _ => fun C t h => none)
  (fun _ _ => fun C t h => none)

theorem quietF_eq (C : Cx) (t : Tr SV) (h : Tr AO) (op : Op) : quietF op C t h = quietX C t h op := by
  cases op with
  | move x => exact getF_eq _ _ _
  | assign x => exact getF_eq _ _ _
  | binOp o ty x y yt =>
    show optF none (fun p => optF none (fun q => binF p q C h o ty x y) (getF y C.g0 t)) (getF x C.g0 t) = _
    simp only [getF_eq, binF_eq, quietX]
    cases getX C.g0 t x with
    | none => rfl
    | some p => cases getX C.g0 t y <;> rfl
  | load ty a =>
    show optF none (fun v => loadF v C h ty) (getF a C.g0 t) = _
    simp only [getF_eq, loadF_eq, quietX]
    cases getX C.g0 t a <;> rfl
  | unOp o ty x =>
    show optF none (fun a => xUn o a) (getF x C.g0 t) = _
    simp only [getF_eq, quietX]
    cases getX C.g0 t x <;> rfl
  | convert s d x =>
    show optF none (fun a => xConv C h s d a) (getF x C.g0 t) = _
    simp only [getF_eq, quietX]
    cases getX C.g0 t x <;> rfl
  | makeInterface ty x =>
    show optF none (fun a => xMakeIface C ty a) (getF x C.g0 t) = _
    simp only [getF_eq, quietX]
    cases getX C.g0 t x <;> rfl
  | fieldAddr ty x f =>
    show optF none (fun a => xFieldAddr C ty f a) (getF x C.g0 t) = _
    simp only [getF_eq, quietX]
    cases getX C.g0 t x <;> rfl
  | field ty x f =>
    show optF none (fun a => xField C ty f a) (getF x C.g0 t) = _
    simp only [getF_eq, quietX]
    cases getX C.g0 t x <;> rfl
  | index ty x i =>
    show optF none (fun p => optF none (fun q => xIndex C ty p q) (getF i C.g0 t)) (getF x C.g0 t) = _
    simp only [getF_eq, quietX]
    cases getX C.g0 t x with
    | none => rfl
    | some p => cases getX C.g0 t i <;> rfl
  | lookup ty x i ok =>
    show optF none (fun p => optF none (fun q => xLookup C h ty p q ok) (getF i C.g0 t)) (getF x C.g0 t) = _
    simp only [getF_eq, quietX]
    cases getX C.g0 t x with
    | none => rfl
    | some p => cases getX C.g0 t i <;> rfl
  | typeAssert x st ty ok =>
    show optF none (fun a => xAssert C a ty ok) (getF x C.g0 t) = _
    simp only [getF_eq, quietX]
    cases getX C.g0 t x <;> rfl
  | extract x i =>
    show optF none (fun a => xExtract a i) (getF x C.g0 t) = _
    simp only [getF_eq, quietX]
    cases getX C.g0 t x <;> rfl
  | slice ty x lo hi mx => cases mx <;> rfl
  | _ => rfl

noncomputable def kindF : Op → Cx → OK := Op.rec (motive := fun _ => Cx → OK)
  (fun _ => fun C => .quiet)
  (fun _ => fun C => .quiet)
  (fun _ _ _ => fun C => .quiet)
  (fun _ => fun C => .alloc)
  (fun _ _ => fun C => .alloc)
  (fun _ _ => fun C => .quiet)
  (fun _ _ _ => fun C => .alloc)
  (fun _ _ _ _ => fun C => .write)
  (fun _ _ => fun C => .quiet)
  (fun _ _ _ => fun C => .write)
  (fun _ => fun C => .quiet)
  (fun _ => fun C => .quiet)
  (fun _ => fun C => .quiet)
  (fun _ _ _ _ _ => fun C => .quiet)
  (fun _ _ _ => fun C => .quiet)
  (fun s d x => fun C => kindX C (.convert s d x))
  (fun _ _ => fun C => .quiet)
  (fun _ _ => fun C => .quiet)
  (fun _ _ _ => fun C => .quiet)
  (fun _ _ => fun C => .alloc)
  (fun _ _ => fun C => .quiet)
  (fun _ _ _ => fun C => .alloc)
  (fun _ _ _ _ _ => fun C => .quiet)
  (fun _ _ _ => fun C => .quiet)
  (fun _ _ _ => fun C => .quiet)
  (fun _ _ _ => fun C => .quiet)
  (fun _ _ _ => fun C => .quiet)
  (fun _ _ _ _ => fun C => .quiet)
  (fun _ _ _ _ => fun C => .write)
  (fun _ _ _ => fun C => .quiet)
  (fun _ _ _ _ => fun C => .quiet)
  (fun _ _ => fun C => .write)
  (fun _ _ => fun C => .write)
  (fun _ => fun C => .quiet)
  (fun _ _ _ _ => fun C => .quiet)
  (fun _ _ => fun C => .quiet)
  (fun c => fun C => kindX C (.call c))
  (fun _ => fun C => .quiet)
  (fun _ => fun C => .quiet)
  (fun _ => fun C => .write)
  (fun _ _ => fun C => .quiet)
  (fun _ _ _ => fun C => .quiet)
  (fun _ _ => fun C => .quiet)

theorem kindF_eq (C : Cx) (op : Op) : kindF op C = kindX C op := by cases op <;> rfl

noncomputable def allocF : Op → Cx → Tr SV → Nat → Option (SV × AO) := Op.rec (motive := fun _ => Cx → Tr SV → Nat → Option (SV × AO))
  (fun _ => fun C t n => none)
  (fun _ => fun C t n => none)
  (fun _ _ _ => fun C t n => none)
  (fun e => fun C t n => xAlloc C n e)
  (fun e x => fun C t n => match getX C.g0 t x with | some v => xBox n e v | none => none)
  (fun _ _ => fun C t n => none)
  (fun ty len ps => fun C t n => match getP C.g0 t ps.toList with | some l => xBuildSlice C n ty len l | none => none)
  (fun _ _ _ _ => fun C t n => none)
  (fun _ _ => fun C t n => none)
  (fun _ _ _ => fun C t n => none)
  (fun _ => fun C t n => none)
  (fun _ => fun C t n => none)
  (fun _ => fun C t n => none)
  (fun _ _ _ _ _ => fun C t n => none)
  (fun _ _ _ => fun C t n => none)
  (fun _ _ _ => fun C t n => none)
  (fun _ _ => fun C t n => none)
  (fun _ _ => fun C t n => none)
  (fun _ _ _ => fun C t n => none)
  (fun ty r => fun C t n => allocX C t n (.makeMap ty r))
  (fun _ _ => fun C t n => none)
  (fun ty a b => fun C t n => match getX C.g0 t a with | some l => (match getX C.g0 t b with | some c => xMakeSlice C n ty l c | none => none) | none => none)
  (fun _ _ _ _ _ => fun C t n => none)
  (fun _ _ _ => fun C t n => none)
  (fun _ _ _ => fun C t n => none)
  (fun _ _ _ => fun C t n => none)
  (fun _ _ _ => fun C t n => none)
  (fun _ _ _ _ => fun C t n => none)
  (fun _ _ _ _ => fun C t n => none)
  (fun _ _ _ => fun C t n => none)
  (fun _ _ _ _ => fun C t n => none)
  (fun _ _ => fun C t n => none)
  (fun _ _ => fun C t n => none)
  (fun _ => fun C t n => none)
  (fun _ _ _ _ => fun C t n => none)
  (fun _ _ => fun C t n => none)
  (fun _ => fun C t n => none)
  (fun _ => fun C t n => none)
  (fun _ => fun C t n => none)
  (fun _ => fun C t n => none)
  (fun _ _ => fun C t n => none)
  (fun _ _ _ => fun C t n => none)
  (fun _ _ => fun C t n => none)

theorem allocF_eq (C : Cx) (t : Tr SV) (n : Nat) (op : Op) : allocF op C t n = allocX C t n op := by cases op <;> rfl

/-- A call of a function of the program. -/
noncomputable def callFn (v : SV) : Call → Cx → Tr SV → Tr AO → Nat → Option WR :=
  match v with
  | .yld k => fun c C t h n => match getL C.g0 t c.args.toList with
    | none => none
    | some args => some (.round k args)
  | .func fn fst cap => (match fn with
    | .func g => fun c C t h n => match getL C.g0 t c.args.toList with
      | none => none
      | some args => match C.ft.get g with
        | some fn => match fn.body with
          | some _ => some (.enter g (fst ++ (args ++ cap)))
          | none => match C.et.get g with
            | some k => match xExt k (fst ++ (args ++ cap)) with
              | some v => some (.val v h n)
              | none => match xMakeNZ h n k (fst ++ (args ++ cap)) with
                | some (v, h', n') => some (.val v h' n')
                | none => none
            | none => none
        | none => none
    | _ => fun _ _ _ _ _ => none)
  | _ => fun _ _ _ _ _ => none

noncomputable def callF (e : Callee) : Call → Cx → Tr SV → Tr AO → Nat → Option WR :=
  match e with
  | .value f => fun c C t h n => match getX C.g0 t f with
    | some v => callFn v c C t h n
    | none => none
  | _ => fun c C t h n => writeX C t h n (.call c)

theorem callF_eq (C : Cx) (t : Tr SV) (h : Tr AO) (n : Nat) (c : Call) : callF c.callee c C t h n = writeX C t h n (.call c) := by
  obtain ⟨e, args, tys⟩ := c
  cases e with
  | invoke _ _ => rfl
  | builtin _ => rfl
  | value f =>
    show (match getX C.g0 t f with | some v => callFn v ⟨.value f, args, tys⟩ C t h n | none => none) = writeX C t h n (.call ⟨.value f, args, tys⟩)
    simp only [writeX]
    cases hf : getX C.g0 t f with
    | none => rfl
    | some v =>
      cases v with
      | func fn a b => cases fn <;> rfl
      | _ => rfl

noncomputable def writeF : Op → Cx → Tr SV → Tr AO → Nat → Option WR := Op.rec (motive := fun _ => Cx → Tr SV → Tr AO → Nat → Option WR)
  (fun _ => fun C t h n => none)
  (fun _ => fun C t h n => none)
  (fun _ _ _ => fun C t h n => none)
  (fun _ => fun C t h n => none)
  (fun _ _ => fun C t h n => none)
  (fun _ _ => fun C t h n => none)
  (fun _ _ _ => fun C t h n => none)
  (fun ty m k v => fun C t h n => writeX C t h n (.insert ty m k v))
  (fun _ _ => fun C t h n => none)
  (fun ty a x => fun C t h n => match getX C.g0 t a with | some v => (match getX C.g0 t x with | some u => (match xStore C h ty v u with | some h1 => some (.skip h1) | none => none) | none => none) | none => none)
  (fun _ => fun C t h n => none)
  (fun _ => fun C t h n => none)
  (fun _ => fun C t h n => none)
  (fun _ _ _ _ _ => fun C t h n => none)
  (fun _ _ _ => fun C t h n => none)
  (fun s d x => fun C t h n => writeX C t h n (.convert s d x))
  (fun _ _ => fun C t h n => none)
  (fun _ _ => fun C t h n => none)
  (fun _ _ _ => fun C t h n => none)
  (fun _ _ => fun C t h n => none)
  (fun _ _ => fun C t h n => none)
  (fun _ _ _ => fun C t h n => none)
  (fun _ _ _ _ _ => fun C t h n => none)
  (fun _ _ _ => fun C t h n => none)
  (fun _ _ _ => fun C t h n => none)
  (fun _ _ _ => fun C t h n => none)
  (fun _ _ _ => fun C t h n => none)
  (fun _ _ _ _ => fun C t h n => none)
  (fun ty m k v => fun C t h n => writeX C t h n (.mapUpdate ty m k v))
  (fun _ _ _ => fun C t h n => none)
  (fun _ _ _ _ => fun C t h n => none)
  (fun ty x => fun C t h n => writeX C t h n (.range ty x))
  (fun x b => fun C t h n => writeX C t h n (.next x b))
  (fun _ => fun C t h n => none)
  (fun _ _ _ _ => fun C t h n => none)
  (fun _ _ => fun C t h n => none)
  (fun c => fun C t h n => callF c.callee c C t h n)
  (fun _ => fun C t h n => none)
  (fun _ => fun C t h n => none)
  (fun x => fun C t h n => writeX C t h n (.panic x))
  (fun _ _ => fun C t h n => none)
  (fun _ _ _ => fun C t h n => none)
  (fun _ _ => fun C t h n => none)

theorem writeF_eq (C : Cx) (t : Tr SV) (h : Tr AO) (n : Nat) (op : Op) : writeF op C t h n = writeX C t h n op := by
  cases op <;> first
    | rfl
    | exact callF_eq C t h n _

/-! ### A row of operations -/
noncomputable def wantedF : Option (Nat × Bool) → List Oper → Tr SV → Oper → Option Bool :=
  Option.rec (motive := fun _ => List Oper → Tr SV → Oper → Option Bool) (fun _ _ _ => some true) (fun _ => fun ops t o => wantedX ops t o)

theorem wantedF_eq (ops : List Oper) (t : Tr SV) (o : Oper) : wantedF o.guard ops t o = wantedX ops t o := by
  unfold wantedX
  cases hg : o.guard with
  | none => rfl
  | some g => simp only [wantedF, wantedX, hg]

noncomputable def wrF : WR → Cx → EX → Tr AO → Nat → WX :=
  WR.rec (motive := fun _ => Cx → EX → Tr AO → Nat → WX)
    (fun v h' n' => fun _ _ _ _ => some (false, v, h', n'))
    (fun h' => fun _ _ _ n => some (false, .tuple [], h', n))
    (fun f args => fun C ex h n => callR C ex f args h n)
    (fun k args => fun C ex h n => roundR C ex h n k args)
    (fun ty v => fun _ _ h n => some (true, .iface ty v, h, n))

noncomputable def wrO : Option WR → Cx → EX → Tr AO → Nat → WX := Option.rec (motive := fun _ => Cx → EX → Tr AO → Nat → WX) (fun _ _ _ _ => none) wrF

noncomputable def writerF (C : Cx) (ex : EX) (t : Tr SV) (h : Tr AO) (n : Nat) (op : Op) : WX := wrO (writeF op C t h n) C ex h n

theorem writerF_eq (C : Cx) (ex : EX) (t : Tr SV) (h : Tr AO) (n : Nat) (op : Op) : writerF C ex t h n op = writerR C ex t h n op := by
  unfold writerF writerR
  rw [writeF_eq]
  cases writeX C t h n op with
  | none => rfl
  | some r => cases r <;> rfl

/-- What a row does behind an operation. -/
abbrev KX := Cx → EX → Nat → List Oper → St → RX
abbrev GX := KX → Tr AO → Nat → Cx → EX → Nat → List Oper → RX

noncomputable def goF : Option (Tr SV) → GX := Option.rec (motive := fun _ => GX) (fun _ _ _ _ _ _ _ => none) (fun t' => fun k h n C ex sz all => k C ex sz all ⟨t', h, n⟩)

abbrev DX := Oper → KX → Cx → EX → Nat → List Oper → St → RX

noncomputable def dqF : Option SV → DX :=
  Option.rec (motive := fun _ => DX) (fun _ _ _ _ _ _ _ => none) (fun v => fun o k C ex sz all s => goF (putF o.dst sz s.t v) k s.h s.n C ex sz all)

noncomputable def dbF : Option (Tr AO) → SV → DX :=
  Option.rec (motive := fun _ => SV → DX) (fun _ _ _ _ _ _ _ _ => none) (fun h' => fun v o k C ex sz all s => goF (putF o.dst sz s.t v) k h' (Nat.succ s.n) C ex sz all)

noncomputable def daF : Option (SV × AO) → DX :=
  Option.rec (motive := fun _ => DX) (fun _ _ _ _ _ _ _ => none) (fun p => fun o k C ex sz all s => dbF (updF s.h s.n (some p.2)) p.1 o k C ex sz all s)

noncomputable def dwB : Bool → SV × Tr AO × Nat → DX := Bool.rec (motive := fun _ => SV × Tr AO × Nat → DX)
    (fun r o k C ex sz all s => goF (putF o.dst sz s.t r.1) k r.2.1 r.2.2 C ex sz all)
    (fun r _ _ _ _ _ _ s => some (.panic r.1, ⟨s.t, r.2.1, r.2.2⟩))

noncomputable def dwF : WX → DX := Option.rec (motive := fun _ => DX) (fun _ _ _ _ _ _ _ => none) (fun p => dwB p.1 p.2)

noncomputable def doF : OK → DX := OK.rec (motive := fun _ => DX)
  (fun o k C ex sz all s => dqF (quietF o.op C s.t s.h) o k C ex sz all s)
  (fun o k C ex sz all s => daF (allocF o.op C s.t s.n) o k C ex sz all s)
  (fun o k C ex sz all s => dwF (writerF C ex s.t s.h s.n o.op) o k C ex sz all s)

noncomputable def wtB : Bool → DX := Bool.rec (motive := fun _ => DX)
  (fun o k C ex sz all s => goF (putF o.dst sz s.t (.tuple [])) k s.h s.n C ex sz all)
  (fun o k C ex sz all s => doF (kindF o.op C) o k C ex sz all s)

noncomputable def wtF : Option Bool → DX := Option.rec (motive := fun _ => DX) (fun _ _ _ _ _ _ _ => none) wtB

noncomputable def opsF : List Oper → KX := List.rec (motive := fun _ => KX) (fun _ _ _ _ s => some (.normal, s)) (fun o _ k => fun C ex sz all s => wtF (wantedF o.guard all s.t o) o k C ex sz all s)

theorem opsF_eq (C : Cx) (ex : EX) (sz : Nat) (all : List Oper) : ∀ (l : List Oper) (s : St), opsF l C ex sz all s = opsX C ex sz all l s
  | [], s => rfl
  | o :: r, s => by
    have ih := opsF_eq C ex sz all r
    show wtF (wantedF o.guard all s.t o) o (opsF r) C ex sz all s = _
    rw [wantedF_eq]
    have go : ∀ (t : Option (Tr SV)) (h : Tr AO) (n : Nat), goF t (opsF r) h n C ex sz all = (match t with | some t' => opsX C ex sz all r ⟨t', h, n⟩ | none => none) := by
      intro t h n
      cases t with
      | none => rfl
      | some t' => exact ih ⟨t', h, n⟩
    simp only [opsX]
    cases hw : wantedX all s.t o with
    | none => rfl
    | some b =>
      cases b with
      | false =>
        show goF (putF o.dst sz s.t (.tuple [])) (opsF r) s.h s.n C ex sz all = _
        rw [go, putF_eq]
        dsimp only
        cases putX sz s.t o.dst (.tuple []) <;> rfl
      | true =>
        show doF (kindF o.op C) o (opsF r) C ex sz all s = _
        rw [kindF_eq]
        cases hk : kindX C o.op with
        | quiet =>
          show dqF (quietF o.op C s.t s.h) o (opsF r) C ex sz all s = _
          rw [quietF_eq]
          simp only
          cases hq : quietX C s.t s.h o.op with
          | none => rfl
          | some v =>
            show goF (putF o.dst sz s.t v) (opsF r) s.h s.n C ex sz all = _
            rw [go, putF_eq]
            dsimp only
            cases putX sz s.t o.dst v <;> rfl
        | alloc =>
          show daF (allocF o.op C s.t s.n) o (opsF r) C ex sz all s = _
          rw [allocF_eq]
          simp only
          cases hq : allocX C s.t s.n o.op with
          | none => rfl
          | some p =>
            obtain ⟨v, ao⟩ := p
            show dbF (updF s.h s.n (some ao)) v o (opsF r) C ex sz all s = _
            rw [updF_eq 48]
            simp only
            cases hu : Tr.upd 48 s.h s.n (some ao) with
            | none => rfl
            | some h' =>
              show goF (putF o.dst sz s.t v) (opsF r) h' (Nat.succ s.n) C ex sz all = _
              simp only
              rw [go, putF_eq]
              cases putX sz s.t o.dst v <;> rfl
        | write =>
          show dwF (writerF C ex s.t s.h s.n o.op) o (opsF r) C ex sz all s = _
          rw [writerF_eq]
          simp only
          cases hq : writerR C ex s.t s.h s.n o.op with
          | none => rfl
          | some p =>
            obtain ⟨b, v, h', n'⟩ := p
            cases b with
            | true => rfl
            | false =>
              show goF (putF o.dst sz s.t v) (opsF r) h' n' C ex sz all = _
              rw [go, putF_eq]
              dsimp only
              cases putX sz s.t o.dst v <;> rfl

/-! ### A region whose order is drawn -/
abbrev PR := Option (Tr SV × List Rec × Ph × List Ph × Option (SV × Tr AO × Nat))
/-- What is done with the rest: of how many, temporaries, records, phases. -/
abbrev KP := Cx → EX → Nat → Nat → List Oper → Tr Nat → Nat → Tr SV → List Rec → Ph → Nat → List Ph → PR
abbrev GP := KP → Cx → EX → Nat → Nat → List Oper → Tr Nat → Nat → List Rec → Ph → Nat → List Ph → PR
abbrev DP := Nat → Oper → KP → Cx → EX → Nat → Nat → List Oper → Tr Nat → Nat → Tr SV → List Rec → Ph → Nat → List Ph → PR
abbrev DR := List Oper → DP

noncomputable def pgF : Option (Tr SV) → GP := Option.rec (motive := fun _ => GP) (fun _ _ _ _ _ _ _ _ _ _ _ _ => none)
  (fun t' => fun k C ex sz n0 all as i rs p c ph => k C ex sz n0 all as (Nat.succ i) t' rs p c ph)

noncomputable def pqF : Option SV → DP := Option.rec (motive := fun _ => DP) (fun _ _ _ _ _ _ _ _ _ _ _ _ _ _ _ => none)
  (fun v => fun anc o k C ex sz n0 all as i t rs p c ph => pgF (putF o.dst sz t v) k C ex sz n0 all as i (⟨i, o, anc, v, t, .quiet c⟩ :: rs) p c ph)

noncomputable def phF : Option (Tr AO) → DP := Option.rec (motive := fun _ => DP) (fun _ _ _ _ _ _ _ _ _ _ _ _ _ _ _ => none)
  (fun h => fun anc o k C ex sz n0 all as i t rs p c ph => pqF (quietF o.op C t h) anc o k C ex sz n0 all as i t rs p c ph)

noncomputable def paF : Option (SV × AO) → DP := Option.rec (motive := fun _ => DP) (fun _ _ _ _ _ _ _ _ _ _ _ _ _ _ _ => none)
  (fun q => fun anc o k C ex sz n0 all as i t rs p c ph => pgF (putF o.dst sz t q.1) k C ex sz n0 all as i (⟨i, o, anc, q.1, t, .alloc q.2⟩ :: rs) p c ph)

noncomputable def pwB : Bool → SV × Tr AO × Nat → DR := Bool.rec (motive := fun _ => SV × Tr AO × Nat → DR)
  (fun q => fun _ anc o k C ex sz n0 all as i t rs p c ph => pgF (putF o.dst sz t q.1) k C ex sz n0 all as i (⟨i, o, anc, q.1, t, .write c⟩ :: rs) ⟨q.2.1, q.2.2, Nat.lor p.wm (Nat.shiftLeft 1 i), Nat.lor p.am anc⟩ (Nat.succ c) (p :: ph))
  (fun q => fun r anc o k C ex sz n0 all as i t rs p c ph => match lateX as i r (Nat.succ i) with
    | true => some (t, rs, p, ph, some (q.1, q.2.1, q.2.2))
    | false => none)

noncomputable def pwF : WX → DR := Option.rec (motive := fun _ => DR) (fun _ _ _ _ _ _ _ _ _ _ _ _ _ _ _ _ => none) (fun p => pwB p.1 p.2)

noncomputable def pvF : Option (Tr AO) → DR := Option.rec (motive := fun _ => DR) (fun _ _ _ _ _ _ _ _ _ _ _ _ _ _ _ _ => none)
  (fun h => fun r anc o k C ex sz n0 all as i t rs p c ph => pwF (writerF C ex t h p.n o.op) r anc o k C ex sz n0 all as i t rs p c ph)

noncomputable def pdF : OK → DR := OK.rec (motive := fun _ => DR)
  (fun _ anc o k C ex sz n0 all as i t rs p c ph => phF (addA n0 anc p.am rs p.h) anc o k C ex sz n0 all as i t rs p c ph)
  (fun _ anc o k C ex sz n0 all as i t rs p c ph => paF (allocF o.op C t (Nat.add n0 i)) anc o k C ex sz n0 all as i t rs p c ph)
  (fun r anc o k C ex sz n0 all as i t rs p c ph => match Nat.beq (Nat.land p.wm anc) p.wm with
    | false => none
    | true => pvF (addA n0 anc p.am rs p.h) r anc o k C ex sz n0 all as i t rs p c ph)

noncomputable def ptB : Bool → DR := Bool.rec (motive := fun _ => DR)
  (fun _ anc o k C ex sz n0 all as i t rs p c ph => pgF (putF o.dst sz t (.tuple [])) k C ex sz n0 all as i (⟨i, o, anc, .tuple [], t, .skip⟩ :: rs) p c ph)
  (fun r anc o k C ex sz n0 all as i t rs p c ph => pdF (kindF o.op C) r anc o k C ex sz n0 all as i t rs p c ph)

noncomputable def ptF : Option Bool → DR := Option.rec (motive := fun _ => DR) (fun _ _ _ _ _ _ _ _ _ _ _ _ _ _ _ _ => none) ptB

abbrev DN := List Oper → Oper → KP → Cx → EX → Nat → Nat → List Oper → Tr Nat → Nat → Tr SV → List Rec → Ph → Nat → List Ph → PR
noncomputable def pnF : Option Nat → DN := Option.rec (motive := fun _ => DN) (fun _ _ _ _ _ _ _ _ _ _ _ _ _ _ _ => none)
  (fun anc => fun r o k C ex sz n0 all as i t rs p c ph => ptF (wantedF o.guard all t o) r anc o k C ex sz n0 all as i t rs p c ph)

noncomputable def passF : List Oper → KP := List.rec (motive := fun _ => KP) (fun _ _ _ _ _ _ _ t rs p _ ph => some (t, rs, p, ph, none)) (fun o r k => fun C ex sz n0 all as i t rs p c ph => pnF (as.get i) r o k C ex sz n0 all as i t rs p c ph)

theorem passF_eq (C : Cx) (ex : EX) (sz n0 : Nat) (all : List Oper) (as : Tr Nat) : ∀ (l : List Oper) (i : Nat) (t : Tr SV) (rs : List Rec) (p : Ph) (c : Nat) (ph : List Ph), passF l C ex sz n0 all as i t rs p c ph = passX C ex sz n0 all as l i t rs p c ph
  | [], i, t, rs, p, c, ph => rfl
  | o :: r, i, t, rs, p, c, ph => by
    have go : ∀ (t' : Option (Tr SV)) (rs : List Rec) (p : Ph) (c : Nat) (ph : List Ph), pgF t' (passF r) C ex sz n0 all as i rs p c ph = (match t' with | some t' => passX C ex sz n0 all as r (Nat.succ i) t' rs p c ph | none => none) := by
      intro t' rs p c ph
      cases t' with
      | none => rfl
      | some t' => exact passF_eq C ex sz n0 all as r _ t' rs p c ph
    show pnF (as.get i) r o (passF r) C ex sz n0 all as i t rs p c ph = _
    simp only [passX]
    cases has : as.get i with
    | none => rfl
    | some anc =>
      show ptF (wantedF o.guard all t o) r anc o (passF r) C ex sz n0 all as i t rs p c ph = _
      rw [wantedF_eq]
      simp only
      cases hw : wantedX all t o with
      | none => rfl
      | some b =>
        cases b with
        | false =>
          show pgF (putF o.dst sz t (.tuple [])) (passF r) C ex sz n0 all as i _ p c ph = _
          rw [go, putF_eq]
          dsimp only
          cases putX sz t o.dst (.tuple []) <;> rfl
        | true =>
          show pdF (kindF o.op C) r anc o (passF r) C ex sz n0 all as i t rs p c ph = _
          rw [kindF_eq]
          simp only
          cases hk : kindX C o.op with
          | quiet =>
            show phF (addA n0 anc p.am rs p.h) anc o (passF r) C ex sz n0 all as i t rs p c ph = _
            simp only
            cases hadd : addA n0 anc p.am rs p.h with
            | none => rfl
            | some h =>
              show pqF (quietF o.op C t h) anc o (passF r) C ex sz n0 all as i t rs p c ph = _
              rw [quietF_eq]
              simp only
              cases hq : quietX C t h o.op with
              | none => rfl
              | some v =>
                show pgF (putF o.dst sz t v) (passF r) C ex sz n0 all as i _ p c ph = _
                rw [go, putF_eq]
                dsimp only
                cases putX sz t o.dst v <;> rfl
          | alloc =>
            show paF (allocF o.op C t (Nat.add n0 i)) anc o (passF r) C ex sz n0 all as i t rs p c ph = _
            rw [allocF_eq]
            simp only
            cases hq : allocX C t (Nat.add n0 i) o.op with
            | none => rfl
            | some q =>
              obtain ⟨v, ao⟩ := q
              show pgF (putF o.dst sz t v) (passF r) C ex sz n0 all as i _ p c ph = _
              rw [go, putF_eq]
              dsimp only
              cases putX sz t o.dst v <;> rfl
          | write =>
            show (match Nat.beq (Nat.land p.wm anc) p.wm with | false => none | true => pvF (addA n0 anc p.am rs p.h) r anc o (passF r) C ex sz n0 all as i t rs p c ph) = _
            simp only
            cases hb : Nat.beq (Nat.land p.wm anc) p.wm with
            | false => rfl
            | true =>
              simp only
              cases hadd : addA n0 anc p.am rs p.h with
              | none => rfl
              | some h =>
                show pwF (writerF C ex t h p.n o.op) r anc o (passF r) C ex sz n0 all as i t rs p c ph = _
                rw [writerF_eq]
                simp only
                cases hq : writerR C ex t h p.n o.op with
                | none => rfl
                | some q =>
                  obtain ⟨b, v, h', n'⟩ := q
                  cases b with
                  | true => rfl
                  | false =>
                    show pgF (putF o.dst sz t v) (passF r) C ex sz n0 all as i _ _ _ _ = _
                    rw [go, putF_eq]
                    dsimp only
                    cases putX sz t o.dst v <;> rfl

noncomputable def regPF (C : Cx) (ex : EX) (sz m : Nat) (ops : List Oper) (as : Tr Nat) (s : St) : RX :=
  match clrX ops s.t with
  | none => none
  | some t0 => match passF ops C ex sz s.n ops as 0 t0 [] ⟨s.h, Nat.add s.n m, 0, 0⟩ 0 [] with
    | none => none
    | some (t, rs, p, ph, z) => match chkX C s.n rs p.wm (p :: ph) rs with
      | false => none
      | true => match z with
        | some (v, h', n') => some (.panic v, ⟨t0, h', n'⟩)
        | none => match addA s.n (Nat.sub (Nat.shiftLeft 1 m) 1) p.am rs p.h with
          | none => none
          | some h => some (.normal, ⟨t, h, p.n⟩)

theorem regPF_eq (C : Cx) (ex : EX) (sz m : Nat) (ops : List Oper) (as : Tr Nat) (s : St) : regPF C ex sz m ops as s = regPX C ex sz m ops as s := by
  unfold regPF regPX
  simp only [passF_eq]
  rfl

noncomputable def regF (C : Cx) (ex : EX) (sz : Nat) (ops : List Oper) (s : St) : RX :=
  match regStat ops with
  | some as => regPF C ex sz ops.length ops as s
  | none => match lastX ops with
    | none => none
    | some (pre, o) => match regStat pre with
      | none => none
      | some as => match (match behindX o pre.length with | true => lowX pre.length o.after.toList | false => false) with
        | false => none
        | true => match regPF C ex sz ops.length pre as s with
          | some (.normal, s') => opsF [o] C ex sz ops s'
          | _ => none

theorem regF_eq (C : Cx) (ex : EX) (sz : Nat) (ops : List Oper) (s : St) : regF C ex sz ops s = regX C ex sz ops s := by
  unfold regF regX
  simp only [regPF_eq, opsF_eq]
  rfl

/-! ### Code -/
abbrev SX := Cx → EX → Nat → St → RX

abbrev QX := St → Code → EX → Nat → RX
noncomputable def seqE : Ex → QX := Ex.rec (motive := fun _ => QX) (fun s' b ex sz => ex sz b s') (fun id s' _ _ _ => some (.exit id, s')) (fun s' _ _ _ => some (.ret, s')) (fun v s' _ _ _ => some (.panic v, s'))
noncomputable def seqF : RX → Code → EX → Nat → RX := Option.rec (motive := fun _ => Code → EX → Nat → RX) (fun _ _ _ => none) (fun p => seqE p.1 p.2)

abbrev CX := Code → Code → EX → Nat → St → RX
noncomputable def condB : Bool → CX := Bool.rec (motive := fun _ => CX) (fun _ y ex sz s => ex sz y s) (fun x _ ex sz s => ex sz x s)
noncomputable def condV : SV → CX := SV.rec (motive_1 := fun _ => CX) (motive_2 := fun _ => Unit)
  condB (fun _ _ _ _ _ _ _ => none) (fun _ _ _ _ _ _ => none) (fun _ _ _ _ _ => none)
  (fun _ _ _ _ _ _ _ => none) (fun _ _ _ _ _ => none) (fun _ _ _ _ _ _ _ _ _ => none) (fun _ _ _ _ _ => none) (fun _ _ _ _ _ _ => none) (fun _ _ _ _ _ => none) (fun _ _ _ _ _ _ _ _ _ _ => none) (fun _ _ _ _ _ => none) (fun _ _ _ _ _ _ _ _ => none) (fun _ _ _ _ _ _ _ => none) (fun _ _ _ _ _ _ _ => none) (fun _ _ _ _ _ _ => none) (fun _ _ _ _ _ _ => none) (fun _ _ _ _ _ _ => none)
  (fun _ _ _ _ _ _ _ => none) (fun _ _ _ _ _ _ => none)
  () (fun _ _ _ _ => ())
noncomputable def condF : Option SV → CX := Option.rec (motive := fun _ => CX) (fun _ _ _ _ _ => none) condV

noncomputable def flipF : Option (List Oper × List Oper × List Oper) → Code → Code → SX := Option.rec (motive := fun _ => Code → Code → SX) (fun a b _ ex sz s => seqF (ex sz a s) b ex sz)
  (fun p => fun _ b C ex sz s => bothX C ex sz b s p.1 p.2.1 p.2.2)

noncomputable def stepF : Code → SX := Code.rec (motive := fun _ => SX)
  (fun _ _ _ s => some (.normal, s))
  (fun _ ops draw => fun C ex sz s => match draw with
    | false => opsF ops.toList C ex sz ops.toList s
    | true => regF C ex sz ops.toList s)
  (fun a b _ _ => fun C ex sz s => flipF (flipL a) a b C ex sz s)
  (fun c a b _ _ => fun C ex sz s => condF (getF c C.g0 s.t) a b ex sz s)
  (fun id b _ => fun C ex sz s => stepX C ex sz (.block id b) s)
  (fun b _ => fun _ ex sz s => seqF (ex sz b s) (.loop b) ex sz)
  (fun f ps a b _ _ => fun C ex sz s => stepX C ex sz (.rangeFunc f ps a b) s)
  (fun id => fun _ _ _ s => some (.exit id, s))
  (fun b _ => fun _ ex sz s => ex sz b s)
  (fun _ => fun _ _ _ s => some (.normal, s))
  (fun _ => fun _ _ _ _ => none)
  (fun _ _ _ s => some (.ret, s))
  (fun _ => fun _ _ _ _ => none)

theorem stepF_eq (C : Cx) (ex : EX) (sz : Nat) (c : Code) (s : St) : stepF c C ex sz s = stepX C ex sz c s := by
  cases c with
  | region id ops draw =>
    show (match draw with | false => opsF ops.toList C ex sz ops.toList s | true => regF C ex sz ops.toList s) = _
    simp only [stepX, opsF_eq, regF_eq]
    rfl
  | seq a b =>
    show flipF (flipL a) a b C ex sz s = _
    simp only [stepX]
    cases flipL a with
    | some p => rfl
    | none =>
      show seqF (ex sz a s) b ex sz = _
      cases ex sz a s with
      | none => rfl
      | some p => obtain ⟨e, s'⟩ := p; cases e <;> rfl
  | loop b =>
    show seqF (ex sz b s) (.loop b) ex sz = _
    simp only [stepX]
    cases ex sz b s with
    | none => rfl
    | some p => obtain ⟨e, s'⟩ := p; cases e <;> rfl
  | cond c a b =>
    show condF (getF c C.g0 s.t) a b ex sz s = _
    rw [getF_eq]
    simp only [stepX]
    cases getX C.g0 s.t c with
    | none => rfl
    | some v =>
      cases v with
      | bool b => cases b <;> rfl
      | _ => rfl
  | _ => rfl

noncomputable def codeF (C : Cx) (f : Nat) : EX :=
  Nat.rec (motive := fun _ => EX) (fun _ _ _ => none) (fun _ ih => fun sz c s => stepF c C ih sz s) f

theorem codeF_eq (C : Cx) : ∀ f, codeF C f = codeX C f
  | 0 => rfl
  | f + 1 => by
    rw [codeX_succ, ← codeF_eq C f]
    funext sz c s
    exact stepF_eq C (codeF C f) sz c s

/-- A call, run so. -/
noncomputable def callFX (C : Cx) (f : Nat) (fn : Nat) (args : List SV) (h : Tr AO) (n : Nat) : Option (SV × Tr AO × Nat) := callX C (codeF C f) fn args h n

theorem callFX_eq (C : Cx) (f : Nat) (fn : Nat) (args : List SV) (h : Tr AO) (n : Nat) : callFX C f fn args h n = callX C (codeX C f) fn args h n := by
  unfold callFX; rw [codeF_eq]

/-- A part, run so. -/
noncomputable def partFX (C : Cx) (f : Nat) (p : Part) : Bool := match addH p.old .nil with
  | none => false
  | some hs => partIs p (callFX C f p.f p.args hs p.n)

theorem partFX_eq (C : Cx) (f : Nat) (p : Part) : partFX C f p = partRun C f p := by
  unfold partFX partRun
  simp only [callFX_eq]
  rfl

theorem partF_ok {P : Program} {C : Cx} (hC : C.Ok P) {C' : Cx} (f : Nat) {p : Part} (hrun : partFX C f p = true) (he : C'.g0 = C.g0 ∧ C'.G = C.G ∧ C'.base = C.base ∧ C'.heap0 = C.heap0) (hkn : ∀ I Q, FactsOk C'.facts I → C'.K I Q → FactsOk C.facts I ∧ C.K I Q) : PartOk P C' p :=
  part_ok hC f (by rw [← partFX_eq]; exact hrun) he hkn

/-- A run, so. -/
noncomputable def runFX (C : Cx) (f : Nat) (fn : Nat) (args : List SV) (h : Tr AO) (n : Nat) : Bool := isTrueX (callFX C f fn args h n)

theorem runFX_eq {C : Cx} {f : Nat} {fn : Nat} {args : List SV} {h : Tr AO} {n : Nat} (k : runFX C f fn args h n = true) : isTrueX (callX C (codeX C f) fn args h n) = true := by
  rw [← callFX_eq]; exact k
end Go.Xq
