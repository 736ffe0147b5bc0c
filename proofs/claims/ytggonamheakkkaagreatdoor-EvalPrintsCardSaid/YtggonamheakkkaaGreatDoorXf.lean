/-
  A run of closed code by the kernel: operators, literals, indexes, slices.
-/
import Derived.Test.YtggonamheakkkaaGreatDoorXe
namespace Go.Xq
open Go.RowKit
set_option linter.unusedVariables false

/-! ### Operators -/
noncomputable def otherV : Value → Bool
  | .bool _ => true | .pointer _ => true | .slice _ _ _ => true | .map _ => true | .func _ _ _ => true | .nilFunc => true | .nilIface => true | .iface _ _ => true
  | _ => false

theorem binOp_eql_other (t : TypeId) (x y : Value) (h : otherV x = true) : binOp .eql t x y = (do pure (.bool (← Op.equal t x y)) : Sem Value) := by
  cases x <;> first | (simp [otherV] at h; done) | (cases y <;> rfl)

theorem binOp_neq_other (t : TypeId) (x y : Value) (h : otherV x = true) : binOp .neq t x y = (do pure (.bool (!(← Op.equal t x y))) : Sem Value) := by
  cases x <;> first | (simp [otherV] at h; done) | (cases y <;> rfl)

noncomputable def otherS : SV → Bool
  | .bool _ => true | .nilptr => true | .ptr _ _ => true | .nilslice => true | .slice _ _ _ _ => true | .nilmap => true | .map _ => true | .func _ _ _ => true | .nilfunc => true | .nilIface => true | .iface _ _ => true | .opq _ => true
  | _ => false

theorem otherS_den {E : Env} {v : SV} {x : Value} (h : otherS v = true) (hv : v.den E = some x) : otherV x = true := by
  cases v <;> simp only [SV.den, Option.map_eq_some_iff, Option.some.injEq, otherS] at h hv <;> first
    | (subst hv; rfl)
    | (obtain ⟨l, hl, rfl⟩ := hv; rfl)
    | (obtain ⟨t, u, rfl⟩ := ifaceV_eq hv; rfl)
    | (split at hv <;> first | (cases hv; done) | (simp only [Option.some.injEq] at hv; subst hv; rfl))
    | (cases h; done)

noncomputable def isConstX : Operand → Bool
  | .const _ => true
  | _ => false

noncomputable def nilnil : SV → SV → Bool
  | .nilIface, .nilIface => true
  | _, _ => false

theorem eqGuard_ok {P : Program} {E : Env} (w : World) (op : BinOp) (t : TypeId) (x y : Operand) {a b : SV} {av bv : Value} (ha : a.den E = some av) (hb : b.den E = some bv) (ho : otherS a = true)
    (hn : nilnil a b = false ∨ isConstX x = true ∨ isConstX y = true) : (eqGuard op t x y av bv).run P w = .ok () w := by
  have key : ∀ u, eqGuard op t x y .nilIface u = pure () ∨ u = .nilIface := by
    intro u; cases u <;> first | (exact Or.inr rfl) | (left; cases op <;> rfl)
  have hcs : (isConstX x = true ∨ isConstX y = true) → eqGuard op t x y .nilIface .nilIface = pure () := by
    rintro (h | h)
    · cases x <;> first | (simp [isConstX] at h; done) | (cases op <;> rfl)
    · cases y <;> first | (simp [isConstX] at h; done) | (cases op <;> cases x <;> rfl)
  cases a with
  | nilIface =>
    cases ha
    rcases key bv with h | h
    · rw [h]; rfl
    · subst h
      rcases hn with hn | hn
      · cases b <;> simp only [SV.den, Option.map_eq_some_iff, Option.some.injEq, nilnil] at hb hn <;> first
          | (cases hb; done)
          | (cases hn; done)
          | (obtain ⟨l, hl, h⟩ := hb; cases h; done)
          | (obtain ⟨t, u, h⟩ := ifaceV_eq hb; cases h; done)
          | (obtain ⟨s, h⟩ := strV_eq hb; cases h; done)
          | (obtain ⟨b, o, n, c, h, _⟩ := osliceV_eq hb; cases h; done)
          | (obtain ⟨b, o, n, c, h, _⟩ := optrV_eq hb; cases h; done)
          | (split at hb <;> cases hb; done)
      · rw [hcs hn]; rfl
  | bool _ => cases ha; rw [eqGuard_at_bool]; rfl
  | nilptr => cases ha; rw [eqGuard_at_pointer]; rfl
  | ptr _ _ => simp only [SV.den, Option.map_eq_some_iff] at ha; obtain ⟨p, hp, rfl⟩ := ha; rw [eqGuard_at_pointer]; rfl
  | nilslice => cases ha; rw [eqGuard_at_slice]; rfl
  | slice _ _ _ _ => simp only [SV.den, Option.map_eq_some_iff] at ha; obtain ⟨p, hp, rfl⟩ := ha; rw [eqGuard_at_slice]; rfl
  | nilmap => cases ha; rw [eqGuard_at_map]; rfl
  | map _ => simp only [SV.den, Option.map_eq_some_iff] at ha; obtain ⟨p, hp, rfl⟩ := ha; rw [eqGuard_at_map]; rfl
  | nilfunc => cases ha; rw [eqGuard_at_nilFunc]; rfl
  | func _ _ _ => obtain ⟨p, q, rfl⟩ := getFunc ha; rw [eqGuard_at_func]; rfl
  | iface _ _ => simp only [SV.den, Option.map_eq_some_iff] at ha; obtain ⟨p, hp, rfl⟩ := ha; rw [eqGuard_at_iface]; rfl
  | yld _ => simp only [SV.den, Option.map_eq_some_iff] at ha; obtain ⟨p, hp, rfl⟩ := ha; rw [eqGuard_at_func]; rfl
  | opq _ => obtain ⟨t, u, rfl⟩ := ifaceV_eq ha; rw [eqGuard_at_iface]; rfl
  | ostr _ => cases ho
  | oslice _ => cases ho
  | optr _ _ => cases ho
  | int _ _ => cases ho
  | str _ => cases ho
  | agg _ => cases ho
  | tuple _ => cases ho

noncomputable def xBin (C : Cx) (h : Tr AO) (op : BinOp) (t : TypeId) (x y : Operand) (a b : SV) : Option SV :=
  match a, b with
  | .int k e, .int yk f => xInt C.facts op k yk e f
  | .str s, .str u => xStr op s u
  | .agg xs, .agg ys => match memN C.sok t with
    | false => none
    | true => match op with
      | .eql => match xEq C h 3 t (.agg xs) (.agg ys) with
        | some r => some (.bool r)
        | none => none
      | .neq => match xEq C h 3 t (.agg xs) (.agg ys) with
        | some r => some (.bool (notB r))
        | none => none
      | _ => none
  | a, b => match otherS a with
    | false => none
    | true => match (match nilnil a b with | false => true | true => match isConstX x with | true => true | false => isConstX y) with
      | false => none
      | true => match op with
        | .eql => match xEq C h 3 t a b with
          | some r => some (.bool r)
          | none => none
        | .neq => match xEq C h 3 t a b with
          | some r => some (.bool (notB r))
          | none => none
        | _ => none

theorem notB_eq (b : Bool) : notB b = !b := by cases b <;> rfl

section
variable {P : Program} {C : Cx} (hC : C.Ok P)
include hC

theorem xBin_ok {E : Env} {h : Tr AO} {n : Nat} {w : World} (s : SH C E h n w.heap) {op : BinOp} {t : TypeId} {x y : Operand} {a b v : SV} {av bv : Value} (hx : xBin C h op t x y a b = some v)
    (ha : a.den E = some av) (hb : b.den E = some bv) : ∃ u, (do eqGuard op t x y av bv; binOp op t av bv : Sem Value).run P w = .ok u w ∧ v.den E = some u := by
  unfold xBin at hx
  split at hx
  · rename_i k e yk f
    cases ha; cases hb
    obtain ⟨u, h1, h2⟩ := xInt_ok (P := P) (w := w) (t := t) s.facts hx
    refine ⟨u, ?_, h2⟩
    rw [eqGuard_at_int]; exact h1
  · rename_i s1 s2
    cases ha; cases hb
    obtain ⟨u, h1, h2⟩ := xStr_ok (P := P) (w := w) (E := E) (t := t) hx
    refine ⟨u, ?_, h2⟩
    rw [eqGuard_at_string]; exact h1
  · rename_i xs ys
    split at hx
    · cases hx
    rename_i hsok
    obtain ⟨xl, hxl, hxe⟩ : ∃ xl, denL E xs = some xl ∧ av = .agg xl.toArray := by
      simp only [SV.den, Option.map_eq_some_iff] at ha
      obtain ⟨xl, hxl, rfl⟩ := ha
      exact ⟨xl, hxl, rfl⟩
    obtain ⟨yl, hyl, hye⟩ : ∃ yl, denL E ys = some yl ∧ bv = .agg yl.toArray := by
      simp only [SV.den, Option.map_eq_some_iff] at hb
      obtain ⟨yl, hyl, rfl⟩ := hb
      exact ⟨yl, hyl, rfl⟩
    have hgd : (eqGuard op t x y av bv).run P w = .ok () w := by rw [hxe, hye]; exact run_eqGuard_agg w op t x y _ _ (hC.sok t hsok).2
    split at hx
    · split at hx
      case h_2 => cases hx
      rename_i r hr
      cases hx
      refine ⟨.bool r, ?_, rfl⟩
      have := xEq_ok hC s 3 10000 (by omega) hr ha hb
      simp only [Sem.run_bind, hgd, Result.andThen_ok]
      rw [hxe, hye, run_eql_struct, ← hxe, ← hye, this]; rfl
    · split at hx
      case h_2 => cases hx
      rename_i r hr
      cases hx
      refine ⟨.bool (notB r), ?_, rfl⟩
      have := xEq_ok hC s 3 10000 (by omega) hr ha hb
      simp only [Sem.run_bind, hgd, Result.andThen_ok]
      rw [hxe, hye, run_neq_struct, ← hxe, ← hye, this, notB_eq]; rfl
    · cases hx
  · split at hx
    · cases hx
    rename_i ho
    split at hx
    · cases hx
    rename_i hg
    have hg' : nilnil a b = false ∨ isConstX x = true ∨ isConstX y = true := by
      cases h1 : nilnil a b with
      | false => exact Or.inl rfl
      | true =>
        rw [h1] at hg
        cases h2 : isConstX x with
        | true => exact Or.inr (Or.inl rfl)
        | false => rw [h2] at hg; exact Or.inr (Or.inr hg)
    have hgd := eqGuard_ok (P := P) w op t x y ha hb ho hg'
    have hov := otherS_den ho ha
    split at hx
    · split at hx
      case h_2 => cases hx
      rename_i r hr
      cases hx
      refine ⟨.bool r, ?_, rfl⟩
      have := xEq_ok hC s 3 10000 (by omega) hr ha hb
      simp only [Sem.run_bind, hgd, Result.andThen_ok, binOp_eql_other t av bv hov, Op.equal, Op.maxDepth, this, Sem.run_pure]
    · split at hx
      case h_2 => cases hx
      rename_i r hr
      cases hx
      refine ⟨.bool (notB r), ?_, rfl⟩
      have := xEq_ok hC s 3 10000 (by omega) hr ha hb
      simp only [Sem.run_bind, hgd, Result.andThen_ok, binOp_neq_other t av bv hov, Op.equal, Op.maxDepth, this, Sem.run_pure, notB_eq]
    · cases hx

omit hC in
noncomputable def _root_.Go.Xq.xUn (op : UnOp) (a : SV) : Option SV :=
  match op, a with
  | .neg, .int k (.lit n) => some (forceI (iopF .sub k 0 n) fun n => .int k (.lit n))
  | .neg, .int k e => some (.int k (.bin .sub k (.lit 0) e))
  | .xor, .int k (.lit n) => some (forceI (iopF .xor k (if k.signed then -1 else k.max) n) fun n => .int k (.lit n))
  | .xor, .int k e => some (.int k (.bin .xor k (.lit (if k.signed then -1 else k.max)) e))
  | .not, .bool b => some (.bool (notB b))
  | _, _ => none

omit hC in
theorem xUn_ok {E : Env} {w : World} {op : UnOp} {a v : SV} {av : Value} (hx : xUn op a = some v) (ha : a.den E = some av) : ∃ u, (Op.unary op av).run P w = .ok u w ∧ v.den E = some u := by
  unfold xUn at hx
  split at hx
  · cases ha; cases hx
    exact ⟨_, by simp only [Op.unary, Op.intArith, Sem.run_pure]; rfl, by rw [forceI_eq, iopF_eq]; rfl⟩
  · cases ha; cases hx
    exact ⟨_, by simp only [Op.unary, Op.intArith, Sem.run_pure]; rfl, rfl⟩
  · cases ha; cases hx
    exact ⟨_, by simp only [Op.unary, Op.intBits, Sem.run_pure]; rfl, by rw [forceI_eq, iopF_eq]; rfl⟩
  · cases ha; cases hx
    exact ⟨_, by simp only [Op.unary, Op.intBits, Sem.run_pure]; rfl, rfl⟩
  · cases ha; cases hx
    exact ⟨_, by simp only [Op.unary, Sem.run_pure]; rfl, by simp [SV.den, notB_eq]⟩
  · cases hx

/-! ### Parts of values -/
noncomputable def _root_.Go.Xq.xExtract (a : SV) (i : Nat) : Option SV :=
  match a with
  | .tuple vs => vs[i]?
  | _ => none

omit hC in
theorem xExtract_ok {E : Env} {w : World} {a v : SV} {av : Value} {i : Nat} (hx : xExtract a i = some v) (ha : a.den E = some av) : ∃ u, (Instr.extract av i).run P w = .ok u w ∧ v.den E = some u := by
  unfold xExtract at hx
  split at hx
  case h_2 => cases hx
  simp only [SV.den, Option.map_eq_some_iff] at ha
  obtain ⟨l, hl, rfl⟩ := ha
  obtain ⟨x, h1, h2⟩ := denL_get hl hx
  exact ⟨x, by simp [Instr.extract, h2], h1⟩

noncomputable def _root_.Go.Xq.xIndex (C : Cx) (ty : TypeId) : SV → SV → Option SV
  | .agg cs, .int _ (.lit (.ofNat i)) => match C.tt.get ty with
    | some d => match d.desc with
      | .array len e => match Nat.blt i len with
        | true => match C.tt.get e with
          | some j => xPart C e cs (Nat.mul i j.info.size)
          | none => none
        | false => none
      | _ => none
    | none => none
  | .str s, .int _ (.lit (.ofNat i)) => match C.tt.get ty with
    | some d => match d.desc with
      | .string => match s[i]? with
        | some b => some (.int .u8 (.lit (.ofNat b.toNat)))
        | none => none
      | _ => none
    | none => none
  | _, _ => none

theorem xIndex_ok {E : Env} {w : World} {ty : TypeId} {a b v : SV} {av bv : Value} (hx : xIndex C ty a b = some v) (ha : a.den E = some av) (hb : b.den E = some bv) :
    ∃ x, (Instr.index ty av bv).run P w = .ok x w ∧ v.den E = some x := by
  unfold xIndex at hx
  split at hx
  · rename_i cs k i
    split at hx
    case h_2 => cases hx
    rename_i d hd
    split at hx
    case h_2 => cases hx
    rename_i len e he
    split at hx
    case h_2 => cases hx
    rename_i hlt
    split at hx
    case h_2 => cases hx
    rename_i j hj
    obtain ⟨hd1, _⟩ := hC.ty ty d hd
    obtain ⟨_, hj2⟩ := hC.ty e j hj
    simp only [SV.den, Option.map_eq_some_iff] at ha
    obtain ⟨l, hl, rfl⟩ := ha
    simp only [SV.den, SI.den, Option.some.injEq] at hb
    subst hb
    have hlt' : i < len := by simpa [Nat.blt_eq] using hlt
    rw [he] at hd1
    obtain ⟨x, h1, h2⟩ := xPart_ok (P := P) hC (w := w) hx hl
    refine ⟨x, ?_, h2⟩
    have h0 : (0 : Int) ≤ Int.ofNat i ∧ Int.ofNat i < (len : Int) := ⟨by simp, by simpa using hlt'⟩
    simp only [Instr.index, asIntOf, Sem.run_bind, Sem.run_pure, Result.andThen_ok, run_underlying hd1, h0, and_self, if_true, run_sizeOf' w hj2]
    simpa using h1
  · rename_i s k i
    split at hx
    case h_2 => cases hx
    rename_i d hd
    split at hx
    case h_2 => cases hx
    rename_i he
    split at hx
    case h_2 => cases hx
    rename_i b hb'
    cases hx; cases ha
    simp only [SV.den, SI.den, Option.some.injEq] at hb
    subst hb
    obtain ⟨hd1, _⟩ := hC.ty ty d hd
    rw [he] at hd1
    have hlt := (List.getElem?_eq_some_iff.1 hb').1
    have hget : (ByteArray.mk s.toArray)[i]? = some b := by
      rw [ByteArray.getElem?_lt' _ _ (by rw [size_mk]; exact hlt)]
      have := (List.getElem?_eq_some_iff.1 hb').2
      rw [← this]; rfl
    refine ⟨_, ?_, rfl⟩
    have h0 : (0 : Int) ≤ Int.ofNat i := by simp
    simp only [Instr.index, asIntOf, Sem.run_bind, Sem.run_pure, Result.andThen_ok, run_underlying hd1, h0, if_true]
    simp [hget, SI.den]
  · cases hx

/-! ### Slices -/
/-- A bound: a number that is known. -/
noncomputable def _root_.Go.Xq.bnd : Option SV → Option (Option Nat)
  | none => some none
  | some (.int _ (.lit (.ofNat i))) => some (some i)
  | _ => none

omit hC in
theorem bnd_den {E : Env} {o : Option SV} {b : Option Nat} {ov : Option Value} (h : bnd o = some b) (ho : ∀ v, o = some v → ∃ x, ov = some x ∧ v.den E = some x) (hn : o = none → ov = none) :
    (b = none ∧ ov = none) ∨ ∃ i k, b = some i ∧ ov = some (.int k (Int.ofNat i)) := by
  cases o with
  | none => simp only [bnd, Option.some.injEq] at h; exact Or.inl ⟨h.symm, hn rfl⟩
  | some v =>
    obtain ⟨x, hx, hd⟩ := ho v rfl
    unfold bnd at h
    split at h
    · cases ‹some v = none›
    · rename_i k i e
      cases e; cases h
      cases hd
      exact Or.inr ⟨i, k, rfl, hx⟩
    · cases h

omit hC in
theorem run_bound {w : World} (k : IntKind) (i y : Nat) (code : BoundsCode) (h : i ≤ y) : (Instr.sliceBound (.int k (Int.ofNat i)) y code).run P w = .ok i w := by
  have h0 : (0 : Int) ≤ Int.ofNat i ∧ Int.ofNat i ≤ (y : Int) := ⟨by simp, by simpa using h⟩
  simp only [Instr.sliceBound, asIntOf, Sem.run_bind, Sem.run_pure, Result.andThen_ok, h0, and_self, if_true]
  rfl

/-- A slice of a slice's, or of a string's: bounds low and high. -/
noncomputable def _root_.Go.Xq.xSlice (C : Cx) (h : Tr AO) (ty : TypeId) (x : SV) (lo hi : Option SV) : Option SV :=
  match bnd lo, bnd hi with
  | some lo, some hi =>
    let l := lo.getD 0
    match C.tt.get ty with
    | none => none
    | some d => match d.desc with
      | .string => match x with
        | .str s => let hh := hi.getD s.length
          match Nat.ble l hh with
          | true => match Nat.ble hh s.length with
            | true => some (.str ((s.drop l).take (Nat.sub hh l)))
            | false => none
          | false => none
        | _ => none
      | .slice e => match C.tt.get e with
        | none => none
        | some ei => match x with
          | .nilslice => match Nat.beq l 0 with
            | true => match Nat.beq (hi.getD 0) 0 with
              | true => some .nilslice
              | false => none
            | false => none
          | .slice id off len cap => let hh := hi.getD len
            match Nat.ble l hh with
            | false => none
            | true => match cap with
              | .fix c => match (match hi with | none => true | some _ => Nat.ble hh c) with
                | false => none
                | true => match Nat.beq c l with
                  | true => some (.slice id off (Nat.sub hh l) (.fix 0))
                  | false => some (.slice id (Nat.add off (Nat.mul l ei.info.size)) (Nat.sub hh l) (.fix (Nat.sub c l)))
              | .less k => match h.get id with
                | some (.cells cs _ (some sz) _) => match Nat.beq sz 0 with
                  | true => none
                  | false => match Nat.beq sz ei.info.size with
                    | false => none
                    | true => match Nat.ble (Nat.mul (Nat.add k hh) sz) cs.length with
                      | false => none
                      | true => match Nat.beq l 0 with
                        | true => some (.slice id off hh (.less k))
                        | false => match Nat.blt (Nat.mul (Nat.add k l) sz) cs.length with
                          | true => some (.slice id (Nat.add off (Nat.mul l sz)) (Nat.sub hh l) (.less (Nat.add k l)))
                          | false => none
                | _ => none
          | _ => none
      | .array m e => match x with
        | .ptr id off => match C.tt.get e with
          | none => none
          | some ei => let hh := hi.getD m
            match Nat.ble l hh with
            | false => none
            | true => match Nat.ble hh m with
              | false => none
              | true => match Nat.beq m l with
                | true => some (.slice id off (Nat.sub hh l) (.fix 0))
                | false => some (.slice id (Nat.add off (Nat.mul l ei.info.size)) (Nat.sub hh l) (.fix (Nat.sub m l)))
        | _ => none
      | _ => none
  | _, _ => none

omit hC in
theorem run_bounds {w : World} (isS : Bool) (len cap : Nat) (lo hi : Option Nat) (lov hiv : Option Value) (hlo : (lo = none ∧ lov = none) ∨ ∃ i k, lo = some i ∧ lov = some (.int k (Int.ofNat i)))
    (hhi : (hi = none ∧ hiv = none) ∨ ∃ i k, hi = some i ∧ hiv = some (.int k (Int.ofNat i))) (h1 : lo.getD 0 ≤ hi.getD len) (h2 : ∀ i, hi = some i → i ≤ cap) :
    (Instr.sliceBounds isS len cap lov hiv none).run P w = .ok (lo.getD 0, hi.getD len, cap) w := by
  rcases hlo with ⟨rfl, rfl⟩ | ⟨i, k, rfl, rfl⟩ <;> rcases hhi with ⟨rfl, rfl⟩ | ⟨j, k', rfl, rfl⟩
  · simp [Instr.sliceBounds]
  · have := h2 j rfl
    simp only [Instr.sliceBounds, Sem.run_bind, Sem.run_pure, Result.andThen_ok, run_bound k' j cap _ this, Option.getD]
  · simp only [Option.getD] at h1
    simp only [Instr.sliceBounds, Sem.run_bind, Sem.run_pure, Result.andThen_ok, run_bound k i len _ h1, Option.getD]
  · have := h2 j rfl
    simp only [Option.getD] at h1
    simp only [Instr.sliceBounds, Sem.run_bind, Sem.run_pure, Result.andThen_ok, run_bound k' j cap _ this, run_bound k i j _ h1, Option.getD]

theorem xSlice_ok {E : Env} {h : Tr AO} {n : Nat} {w : World} (s : SH C E h n w.heap) {ty : TypeId} {x v : SV} {lo hi : Option SV} {xv : Value} {lov hiv : Option Value} (hx : xSlice C h ty x lo hi = some v)
    (hxv : x.den E = some xv) (hlo : ∀ v, lo = some v → ∃ x, lov = some x ∧ v.den E = some x) (hlon : lo = none → lov = none) (hhi : ∀ v, hi = some v → ∃ x, hiv = some x ∧ v.den E = some x) (hhin : hi = none → hiv = none) :
    ∃ u, (Instr.sliceAt ty xv lov hiv none).run P w = .ok u w ∧ v.den E = some u := by
  unfold xSlice at hx
  split at hx
  case h_2 => cases hx
  rename_i _ _ bl bh hbl hbh
  have hL := bnd_den hbl hlo hlon
  have hH := bnd_den hbh hhi hhin
  simp only at hx
  split at hx
  · cases hx
  rename_i d hd
  obtain ⟨hd1, _⟩ := hC.ty ty d hd
  split at hx
  · rename_i he
    rw [he] at hd1
    split at hx
    case h_2 => cases hx
    rename_i str
    split at hx
    case h_2 => cases hx
    rename_i h1
    split at hx
    case h_2 => cases hx
    rename_i h2
    cases hx; cases hxv
    have h1' : bl.getD 0 ≤ bh.getD str.length := Nat.le_of_ble_eq_true h1
    have h2' : bh.getD str.length ≤ str.length := Nat.le_of_ble_eq_true h2
    refine ⟨.string ⟨((str.drop (bl.getD 0)).take (bh.getD str.length - bl.getD 0)).toArray⟩, ?_, rfl⟩
    have hb := run_bounds (P := P) (w := w) false str.length str.length bl bh lov hiv hL hH h1' (fun i hi => by rw [hi] at h2'; exact h2')
    simp only [Instr.sliceAt, Sem.run_bind, run_underlying hd1, Result.andThen_ok, Instr.slice, Option.isSome_none, Bool.false_eq_true, if_false, size_mk, hb, Sem.run_pure, ByteArray.extract_mk]
  · rename_i e he
    rw [he] at hd1
    split at hx
    · cases hx
    rename_i ei hei
    obtain ⟨_, hein⟩ := hC.ty e ei hei
    split at hx
    · split at hx
      case h_2 => cases hx
      rename_i h1
      split at hx
      case h_2 => cases hx
      rename_i h2
      cases hx; cases hxv
      have h1' := Nat.eq_of_beq_eq_true h1
      have h2' := Nat.eq_of_beq_eq_true h2
      have hb := run_bounds (P := P) (w := w) true 0 0 bl bh lov hiv hL hH (by omega) (fun i hi => by rw [hi] at h2'; simp at h2'; omega)
      rw [h1', h2'] at hb
      refine ⟨.slice none 0 0, ?_, rfl⟩
      simp only [Instr.sliceAt, Sem.run_bind, run_underlying hd1, Result.andThen_ok, Instr.slice, hb, run_sizeOf' w hein, Sem.run_pure]
      rfl
    · rename_i id off len cap
      simp only [SV.den, Option.map_eq_some_iff] at hxv
      obtain ⟨p, hp, rfl⟩ := hxv
      split at hx
      · cases hx
      rename_i h1
      have h1' : bl.getD 0 ≤ bh.getD len := Nat.le_of_ble_eq_true h1
      split at hx
      · rename_i c
        split at hx
        · cases hx
        rename_i h2
        have hb := run_bounds (P := P) (w := w) true len c bl bh lov hiv hL hH h1' (fun i hi => by subst hi; simp only at h2; exact Nat.le_of_ble_eq_true h2)
        split at hx
        · rename_i hcl
          have hcl' := Nat.eq_of_beq_eq_true hcl
          cases hx
          refine ⟨.slice (some ⟨p.1, off, none⟩) (bh.getD len - bl.getD 0) 0, ?_, by simp [SV.den, hp, Cap.den]⟩
          simp only [Instr.sliceAt, Sem.run_bind, run_underlying hd1, Result.andThen_ok, Instr.slice, Cap.den, hb, run_sizeOf' w hein, Sem.run_pure, ← hcl', if_true, Nat.sub_self]
        · rename_i hcl
          have hcl' := Nat.ne_of_beq_eq_false hcl
          cases hx
          refine ⟨.slice (some ⟨p.1, off + bl.getD 0 * ei.info.size, none⟩) (bh.getD len - bl.getD 0) (c - bl.getD 0), ?_, by simp [SV.den, hp, Cap.den]⟩
          simp only [Instr.sliceAt, Sem.run_bind, run_underlying hd1, Result.andThen_ok, Instr.slice, Cap.den, hb, run_sizeOf' w hein, Sem.run_pure, hcl', if_false, Option.map_some, Addr.add_lit]
      · rename_i k
        split at hx
        case h_2 => cases hx
        rename_i cs e' sz mk hg
        split at hx
        · cases hx
        rename_i hz
        split at hx
        · cases hx
        rename_i hzs
        have hzs' := Nat.eq_of_beq_eq_true hzs
        have hz' : 0 < sz := by
          have := Nat.ne_of_beq_eq_false hz
          omega
        split at hx
        · cases hx
        rename_i hfit
        have hfit' : (k + bh.getD len) * sz ≤ cs.length := Nat.le_of_ble_eq_true hfit
        obtain ⟨q, hq, vs, rest, fz, r1, r2, r3, r4, r5, r6⟩ := s.obj hg
        rw [hp] at hq; cases hq
        have r4' := r4 sz rfl
        have hvl := denL_length r1
        have hroom : k + bh.getD len ≤ p.2 := by
          have : (k + bh.getD len) * sz ≤ p.2 * sz := by omega
          exact Nat.le_of_mul_le_mul_right this hz'
        have hb := run_bounds (P := P) (w := w) true len (p.2 - k) bl bh lov hiv hL hH h1' (fun i hi => by subst hi; simp only [Option.getD] at hroom; omega)
        split at hx
        · rename_i hl0
          have hl0' := Nat.eq_of_beq_eq_true hl0
          cases hx
          refine ⟨.slice (some ⟨p.1, off, none⟩) (bh.getD len) (p.2 - k), ?_, by simp [SV.den, hp, Cap.den]⟩
          rw [hl0'] at hb
          simp only [Instr.sliceAt, Sem.run_bind, run_underlying hd1, Result.andThen_ok, Instr.slice, Cap.den, hb, run_sizeOf' w hein, Sem.run_pure, Nat.sub_zero, Option.map_some, Nat.zero_mul, Addr.add_zero', ite_self]
        · rename_i hl0
          split at hx
          case h_2 => cases hx
          rename_i hlt
          have hlt' : (k + bl.getD 0) * sz < cs.length := by simpa [Nat.blt_eq] using hlt
          have hroom2 : k + bl.getD 0 < p.2 := by
            have : (k + bl.getD 0) * sz < p.2 * sz := by omega
            exact Nat.lt_of_mul_lt_mul_right this
          cases hx
          refine ⟨.slice (some ⟨p.1, off + bl.getD 0 * sz, none⟩) (bh.getD len - bl.getD 0) (p.2 - (k + bl.getD 0)), ?_, by simp [SV.den, hp, Cap.den]⟩
          have hne : ¬ (p.2 - k = bl.getD 0) := by omega
          simp only [Instr.sliceAt, Sem.run_bind, run_underlying hd1, Result.andThen_ok, Instr.slice, Cap.den, hb, run_sizeOf' w hein, Sem.run_pure, hne, if_false, Option.map_some, Addr.add_lit, ← hzs', Nat.sub_sub]
    · cases hx
  · rename_i m e he
    rw [he] at hd1
    split at hx
    case h_2 => cases hx
    rename_i id off
    split at hx
    · cases hx
    rename_i ei hei
    obtain ⟨_, hein⟩ := hC.ty e ei hei
    simp only [SV.den, Option.map_eq_some_iff] at hxv
    obtain ⟨p, hp, rfl⟩ := hxv
    split at hx
    · cases hx
    rename_i h1
    have h1' : bl.getD 0 ≤ bh.getD m := Nat.le_of_ble_eq_true h1
    split at hx
    · cases hx
    rename_i h2
    have h2' : bh.getD m ≤ m := Nat.le_of_ble_eq_true h2
    have hb := run_bounds (P := P) (w := w) false m m bl bh lov hiv hL hH h1' (fun i hi => by rw [hi] at h2'; exact h2')
    split at hx
    · rename_i hcl
      have hcl' := Nat.eq_of_beq_eq_true hcl
      cases hx
      refine ⟨.slice (some ⟨p.1, off, none⟩) (bh.getD m - bl.getD 0) 0, ?_, by simp [SV.den, hp, Cap.den]⟩
      simp only [Instr.sliceAt, Sem.run_bind, run_underlying hd1, Result.andThen_ok, Instr.sureAddr, hb, run_sizeOf' w hein, Sem.run_pure, ← hcl', if_true, Nat.sub_self]
    · rename_i hcl
      have hcl' := Nat.ne_of_beq_eq_false hcl
      cases hx
      refine ⟨.slice (some ⟨p.1, off + bl.getD 0 * ei.info.size, none⟩) (bh.getD m - bl.getD 0) (m - bl.getD 0), ?_, by simp [SV.den, hp, Cap.den]⟩
      simp only [Instr.sliceAt, Sem.run_bind, run_underlying hd1, Result.andThen_ok, Instr.sureAddr, hb, run_sizeOf' w hein, Sem.run_pure, hcl', if_false, Addr.add_lit]
  · cases hx

/-- An element of a slice that was there. -/
noncomputable def _root_.Go.Xq.xIndexO (C : Cx) (ty : TypeId) (i : Nat) (b : SV) : Option SV := match b with
  | .int _ (.lit (.ofNat k)) => match parX C.par i with
    | none => none
    | some (j, _, _) => match cmpSI C.facts .lss (.lit (.ofNat k)) (.var j) with
      | some true => match C.tt.get ty with
        | none => none
        | some d => match d.desc with
          | .slice e => match C.tt.get e with
            | none => none
            | some ei => match Nat.beq ei.info.size 1 with
              | true => some (.optr i k)
              | false => none
          | _ => none
      | _ => none
  | _ => none

theorem xIndexO_ok {E : Env} {h : Nat → Option AO} {n : Nat} {w : World} (s : SH C E h n w.heap) {ty : TypeId} {i : Nat} {b v : SV} {av bv : Value} (hx : xIndexO C ty i b = some v) (ha : (SV.oslice i).den E = some av) (hb : b.den E = some bv) :
    ∃ x, (Instr.indexAt ty av bv).run P w = .ok x w ∧ v.den E = some x := by
  unfold xIndexO at hx
  split at hx
  case h_2 => cases hx
  rename_i kk k
  split at hx
  · cases hx
  rename_i j e m hpar
  split at hx
  case h_2 => cases hx
  rename_i hcmp
  split at hx
  · cases hx
  rename_i d hd0
  obtain ⟨hd, _⟩ := hC.ty ty d hd0
  split at hx
  case h_2 => cases hx
  rename_i el he
  rw [he] at hd
  split at hx
  · cases hx
  rename_i ei hei
  split at hx
  case h_2 => cases hx
  rename_i hsz
  have hsz' := Nat.eq_of_beq_eq_true hsz
  cases hx
  obtain ⟨B, o, N, c, cs, et, fz, h1, h2, h3, h4, h5⟩ := hC.par i j e m hpar E.ints E.opq s.kn.2.1
  obtain ⟨b', o', N', c', rfl, h6⟩ := osliceV_eq ha
  rw [h1] at h6
  cases h6
  have hlt := cmpSI_ok s.facts hcmp
  have hlt' : k < N := by
    have h7 : Int.ofNat k < E.ints j := of_decide_eq_true hlt
    rw [← h2] at h7
    have : (k : Int) < (N : Int) := h7
    omega
  simp only [SV.den, SI.den, Option.some.injEq] at hb
  subst hb
  refine ⟨.pointer (some ⟨B, o + k, none⟩), ?_, by simp [SV.den, h1, optrV, hlt']⟩
  simp only [Instr.indexAt, asIntOf, Sem.run_bind, Sem.run_pure, Result.andThen_ok, run_underlying hd, Addr.add_lit]
  simp [hlt', run_sizeOf' w (hC.ty el ei hei).2, hsz']
end
end Go.Xq
