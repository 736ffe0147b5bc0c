/-
  A run of closed code by the kernel: an operation of the program's text.
-/
import Derived.Test.YtggonamheakkkaaGreatDoorXi
namespace Go.Xq
open Go.RowKit
set_option linter.unusedVariables false

inductive WR where
  | val (v : SV) (h : Tr AO) (n : Nat)
  | skip (h : Tr AO)
  | enter (f : FuncId) (args : List SV)
  | round (k : Nat) (args : List SV)
  | panic (t : TypeId) (v : SV)

inductive OK where
  | quiet | alloc | write

noncomputable def kindX (C : Cx) : Op → OK
  | .convert _ d _ => match C.tt.get d with
    | some i => match i.desc with
      | .slice _ => .write
      | _ => .quiet
    | none => .quiet
  | .alloc _ => .alloc
  | .box _ _ => .alloc
  | .buildSlice _ _ _ => .alloc
  | .makeMap _ _ => .alloc
  | .makeSlice _ _ _ => .alloc
  | .store _ _ _ => .write
  | .mapUpdate _ _ _ _ => .write
  | .insert _ _ _ _ => .write
  | .range _ _ => .write
  | .next _ _ => .write
  | .panic _ => .write
  | .call c => match c.callee with
    | .builtin .len => .quiet
    | .builtin .min => .quiet
    | .builtin .unsafeSliceData => .quiet
    | .builtin .max => .quiet
    | _ => .write
  | _ => .quiet

noncomputable def getL (G : Nat) (t : Tr SV) : List Operand → Option (List SV)
  | [] => some []
  | x :: r => match getX G t x with
    | none => none
    | some v => match getL G t r with
      | none => none
      | some l => some (v :: l)

noncomputable def getP (G : Nat) (t : Tr SV) : List (Nat × Operand) → Option (List (Nat × SV))
  | [] => some []
  | (i, x) :: r => match getX G t x with
    | none => none
    | some v => match getP G t r with
      | none => none
      | some l => some ((i, v) :: l)

/-- An operand's value, if there is an operand: none inside: it is not known. -/
noncomputable def getO (G : Nat) (t : Tr SV) : Option Operand → Option (Option SV)
  | none => some none
  | some x => match getX G t x with
    | none => none
    | some v => some (some v)

noncomputable def quietX (C : Cx) (t : Tr SV) (h : Tr AO) (op : Op) : Option SV :=
  match op with
  | .move x => getX C.g0 t x
  | .assign x => getX C.g0 t x
  | .pick c a b => match getX C.g0 t c with
    | some (.bool true) => getX C.g0 t a
    | some (.bool false) => getX C.g0 t b
    | _ => none
  | .build ty ps => match getP C.g0 t ps.toList with
    | some l => xBuild C ty l
    | none => none
  | .load ty a => match getX C.g0 t a with
    | some v => match v with
      | .optr i k => xLoadO C ty i k
      | v => xLoad C h ty v
    | none => none
  | .nilCheck x => match getX C.g0 t x with
    | some (.ptr i o) => some (.ptr i o)
    | some (.iface t v) => some (.iface t v)
    | some (.func (.func f) a b) => some (.func (.func f) a b)
    | _ => none
  | .binOp op ty x y _ => match getX C.g0 t x with
    | some a => match getX C.g0 t y with
      | some b => xBin C h op ty x y a b
      | none => none
    | none => none
  | .unOp op _ x => match getX C.g0 t x with
    | some a => xUn op a
    | none => none
  | .convert s d x => match getX C.g0 t x with
    | some a => xConv C h s d a
    | none => none
  | .makeInterface ty x => match getX C.g0 t x with
    | some a => xMakeIface C ty a
    | none => none
  | .makeFunc fn a b => match getL C.g0 t a.toList with
    | some l => match getL C.g0 t b.toList with
      | some k => some (.func fn l k)
      | none => none
    | none => none
  | .slice ty x lo hi none => match getX C.g0 t x with
    | some a => match getO C.g0 t lo with
      | some l => match getO C.g0 t hi with
        | some k => xSlice C h ty a l k
        | none => none
      | none => none
    | none => none
  | .fieldAddr ty x f => match getX C.g0 t x with
    | some a => xFieldAddr C ty f a
    | none => none
  | .field ty x f => match getX C.g0 t x with
    | some a => xField C ty f a
    | none => none
  | .indexAddr ty x i => match getX C.g0 t x with
    | some a => match getX C.g0 t i with
      | some b => match a with
        | .oslice n => xIndexO C ty n b
        | a => xIndexAddr C ty a b
      | none => none
    | none => none
  | .index ty x i => match getX C.g0 t x with
    | some a => match getX C.g0 t i with
      | some b => xIndex C ty a b
      | none => none
    | none => none
  | .lookup ty x i ok => match getX C.g0 t x with
    | some a => match getX C.g0 t i with
      | some b => xLookup C h ty a b ok
      | none => none
    | none => none
  | .typeAssert x _ ty ok => match getX C.g0 t x with
    | some a => xAssert C a ty ok
    | none => none
  | .extract x i => match getX C.g0 t x with
    | some a => xExtract a i
    | none => none
  | .call c => match c.callee with
    | .builtin .len => match c.argTypes.toList with
      | [ty] => match c.args.toList with
        | [x] => match getX C.g0 t x with
          | some a => xLen C h ty a
          | none => none
        | _ => none
      | _ => none
    | .builtin .unsafeSliceData => match c.args.toList with
      | [x] => match getX C.g0 t x with
        | some a => xSliceData h a
        | none => none
      | _ => none
    | .builtin .min => match c.args.toList with
      | [x, y] => match getX C.g0 t x with
        | some a => match getX C.g0 t y with
          | some b => xMin C.facts false a b
          | none => none
        | none => none
      | _ => none
    | .builtin .max => match c.args.toList with
      | [x, y] => match getX C.g0 t x with
        | some a => match getX C.g0 t y with
          | some b => xMin C.facts true a b
          | none => none
        | none => none
      | _ => none
    | _ => none
  | _ => none

noncomputable def allocX (C : Cx) (t : Tr SV) (n : Nat) (op : Op) : Option (SV × AO) :=
  match op with
  | .alloc e => xAlloc C n e
  | .box e x => match getX C.g0 t x with
    | some v => xBox n e v
    | none => none
  | .buildSlice ty len ps => match getP C.g0 t ps.toList with
    | some l => xBuildSlice C n ty len l
    | none => none
  | .makeMap ty r => match r with
    | none => some (.map n, .map [])
    | some x => match C.tt.get ty with
      | some i => match i.desc with
        | .map _ _ => match getX C.g0 t x with
          | some (.int _ _) => some (.map n, .map [])
          | _ => none
        | _ => none
      | none => none
  | .makeSlice ty a b => match getX C.g0 t a with
    | some l => match getX C.g0 t b with
      | some c => xMakeSlice C n ty l c
      | none => none
    | none => none
  | _ => none

noncomputable def writeX (C : Cx) (t : Tr SV) (h : Tr AO) (n : Nat) (op : Op) : Option WR :=
  match op with
  | .panic x => match getX C.g0 t x with
    | some (.iface ty v) => some (.panic ty v)
    | _ => none
  | .store ty a x => match getX C.g0 t a with
    | some v => match getX C.g0 t x with
      | some u => match xStore C h ty v u with
        | some h' => some (.skip h')
        | none => none
      | none => none
    | none => none
  | .mapUpdate ty m k v => match getX C.g0 t m with
    | some a => match getX C.g0 t k with
      | some b => match getX C.g0 t v with
        | some c => match xMapUpdate C h ty a b c with
          | some h' => some (.skip h')
          | none => none
        | none => none
      | none => none
    | none => none
  | .insert ty m k v => match getX C.g0 t m with
    | some a => match getX C.g0 t k with
      | some b => match getX C.g0 t v with
        | some c => match xMapUpdate C h ty a b c with
          | some h' => some (.skip h')
          | none => none
        | none => none
      | none => none
    | none => none
  | .range ty x => match getX C.g0 t x with
    | some a => match xRange C h n ty a with
      | some (v, h', n') => some (.val v h' n')
      | none => none
    | none => none
  | .next x b => match getX C.g0 t x with
    | some a => match xNext C h a b with
      | some (v, h') => some (.val v h' n)
      | none => none
    | none => none
  | .convert src dst x => match getX C.g0 t x with
    | some a => match xBytes C h n src dst a with
      | some (v, h', n') => some (.val v h' n')
      | none => none
    | none => none
  | .call c => match c.callee with
    | .builtin .append => match c.argTypes.toList with
      | [ty, u] => match c.args.toList with
        | [s, x] => match getX C.g0 t s with
          | some a => match getX C.g0 t x with
            | some b => match xAppend C h n ty u a b with
              | some (v, h', n') => some (.val v h' n')
              | none => none
            | none => none
          | none => none
        | _ => none
      | _ => none
    | .builtin .copy => match c.argTypes.toList with
      | ty :: _ => match c.args.toList with
        | [s, x] => match getX C.g0 t s with
          | some a => match getX C.g0 t x with
            | some b => match xCopy C h ty a b with
              | some (v, h') => some (.val v h' n)
              | none => none
            | none => none
          | none => none
        | _ => none
      | _ => none
    | .builtin .unsafeString => match c.argTypes.toList with
      | [ty, _] => match c.args.toList with
        | [s, x] => match getX C.g0 t s with
          | some a => match getX C.g0 t x with
            | some b => match xUStr C h ty a b with
              | some (v, h') => some (.val v h' n)
              | none => none
            | none => none
          | none => none
        | _ => none
      | _ => none
    | .builtin .delete => match c.argTypes.toList with
      | ty :: _ => match c.args.toList with
        | [s, x] => match getX C.g0 t s with
          | some a => match getX C.g0 t x with
            | some b => match xDelete C h ty a b with
              | some h' => some (.val (.tuple []) h' n)
              | none => none
            | none => none
          | none => none
        | _ => none
      | _ => none
    | .value f => match getX C.g0 t f with
      | some (.yld k) => match getL C.g0 t c.args.toList with
        | none => none
        | some args => some (.round k args)
      | some (.func (.func g) fst cap) => match getL C.g0 t c.args.toList with
        | none => none
        | some args => match C.ft.get g with
          | some fn => match fn.body with
            | some _ => some (.enter g (fst ++ (args ++ cap)))
            | none => match C.et.get g with
              | some k => match xExt k (fst ++ (args ++ cap)) with
                | some v => some (.val v h n)
                | none => match xMakeNZ h n k (fst ++ (args ++ cap)) with
                  | some (v, h', n') => some (.val v h' n')
                  | none => none
              | none => none
          | none => none
      | _ => none
    | _ => none
  | _ => none

section
variable {P : Program} {C : Cx} (hC : C.Ok P)

theorem getL_den {E : Env} {ρ : Operand → Value} {t : Tr SV} : ∀ {xs : List Operand} {l : List SV}, (∀ x v, x ∈ xs → getX C.g0 t x = some v → v.den E = some (ρ x)) → getL C.g0 t xs = some l → denL E l = some (xs.map ρ)
  | [], l, _, h => by simp only [getL, Option.some.injEq] at h; subst h; rfl
  | x :: xs, l, hg, h => by
    simp only [getL] at h
    split at h
    · cases h
    rename_i v hv
    split at h
    · cases h
    rename_i k hk
    cases h
    exact denL_mk (hg x v List.mem_cons_self hv) (getL_den (fun y u hy => hg y u (List.mem_cons_of_mem _ hy)) hk)

theorem getP_den {E : Env} {ρ : Operand → Value} {t : Tr SV} : ∀ {xs : List (Nat × Operand)} {l : List (Nat × SV)}, (∀ x v, x ∈ xs.map (·.2) → getX C.g0 t x = some v → v.den E = some (ρ x)) → getP C.g0 t xs = some l →
    partsDen E l (xs.map fun (i, x) => (i, ρ x))
  | [], l, _, h => by simp only [getP, Option.some.injEq] at h; subst h; rfl
  | (i, x) :: xs, l, hg, h => by
    simp only [getP] at h
    split at h
    · cases h
    rename_i v hv
    split at h
    · cases h
    rename_i k hk
    cases h
    exact ⟨ρ x, _, rfl, hg x v (by simp) hv, getP_den (fun y u hy => hg y u (by simp only [List.map_cons, List.mem_cons]; exact Or.inr hy)) hk⟩

theorem getO_den {E : Env} {ρ : Operand → Value} {t : Tr SV} {x : Option Operand} {o : Option SV} (hg : ∀ y v, y ∈ x.toList → getX C.g0 t y = some v → v.den E = some (ρ y)) (h : getO C.g0 t x = some o) :
    (∀ v, o = some v → ∃ u, x.map ρ = some u ∧ v.den E = some u) ∧ (o = none → x.map ρ = none) := by
  cases x with
  | none => simp only [getO, Option.some.injEq] at h; subst h; exact ⟨fun v e => (by cases e), fun _ => rfl⟩
  | some y =>
    simp only [getO] at h
    split at h
    · cases h
    rename_i v hv
    cases h
    refine ⟨fun u e => ?_, fun e => by cases e⟩
    cases e
    exact ⟨ρ y, rfl, hg y v (by simp) hv⟩

include hC
set_option maxHeartbeats 2000000 in
theorem quietX_ok {E : Env} {t : Tr SV} {h : Tr AO} {n : Nat} {w : World} {ρ : Operand → Value} (s : SH C E h n w.heap) {o : Oper} {v : SV} (hget : ∀ x v, x ∈ o.op.operands → getX C.g0 t x = some v → v.den E = some (ρ x))
    (hx : quietX C t h o.op = some v) : ∃ x, (execOp ρ o).run P w = .ok (.value x) w ∧ v.den E = some x := by
  obtain ⟨dst, op, ty0, pos, after, guard⟩ := o
  simp only at hget hx
  unfold quietX at hx
  split at hx
  · rename_i x
    exact ⟨ρ x, rfl, hget x v (by simp [Op.operands]) hx⟩
  · rename_i x
    exact ⟨ρ x, rfl, hget x v (by simp [Op.operands]) hx⟩
  · rename_i c a b
    split at hx
    · rename_i hc
      have := hget c _ (by simp [Op.operands]) hc
      cases this' : ρ c <;> rw [this'] at this <;> simp [SV.den] at this
      subst this
      exact ⟨ρ a, by simp [execOp, this', asBool], hget a v (by simp [Op.operands]) hx⟩
    · rename_i hc
      have := hget c _ (by simp [Op.operands]) hc
      cases this' : ρ c <;> rw [this'] at this <;> simp [SV.den] at this
      subst this
      exact ⟨ρ b, by simp [execOp, this', asBool], hget b v (by simp [Op.operands]) hx⟩
    · cases hx
  · rename_i ty ps
    split at hx
    case h_2 => cases hx
    rename_i l hl
    have hp := getP_den (ρ := ρ) (E := E) (fun x v hm => hget x v (by simpa [Op.operands] using hm)) hl
    obtain ⟨u, h1, h2⟩ := xBuild_ok hC (w := w) hx hp
    refine ⟨u, ?_, h2⟩
    have he : (Array.map (fun (i, x) => (i, ρ x)) ps) = (List.map (fun (i, x) => (i, ρ x)) ps.toList).toArray := by
      apply Array.ext'; simp
    simp only [execOp, he, Sem.run_bind, h1, Result.andThen_ok, Sem.run_pure]
  · rename_i ty a
    split at hx
    case h_2 => cases hx
    rename_i av ha
    split at hx
    · obtain ⟨u, h1, h2⟩ := xLoadO_ok hC s hx (hget a _ (by simp [Op.operands]) ha)
      exact ⟨u, by simp only [execOp, Sem.run_bind, h1, Result.andThen_ok, Sem.run_pure], h2⟩
    · obtain ⟨u, h1, h2⟩ := xLoad_ok hC s hx (hget a av (by simp [Op.operands]) ha)
      exact ⟨u, by simp only [execOp, Sem.run_bind, h1, Result.andThen_ok, Sem.run_pure], h2⟩
  · rename_i x
    split at hx
    · rename_i i o' ha
      cases hx
      have := hget x _ (by simp [Op.operands]) ha
      have hd := this
      simp only [SV.den, Option.map_eq_some_iff] at this
      obtain ⟨p, hp, e⟩ := this
      refine ⟨ρ x, ?_, hd⟩
      simp only [execOp, ← e, Sem.run_pure]
    · rename_i i o' ha
      cases hx
      have := hget x _ (by simp [Op.operands]) ha
      have hd := this
      simp only [SV.den, Option.map_eq_some_iff] at this
      obtain ⟨p, hp, e⟩ := this
      refine ⟨ρ x, ?_, hd⟩
      simp only [execOp, ← e, Sem.run_pure]
    · rename_i f a b ha
      cases hx
      have := hget x _ (by simp [Op.operands]) ha
      have hd := this
      simp only [SV.den] at this
      split at this
      · simp only [Option.some.injEq] at this
        refine ⟨ρ x, ?_, hd⟩
        simp only [execOp, ← this, Sem.run_pure]
      · cases this
    · cases hx
  · rename_i op ty x y yt
    split at hx
    case h_2 => cases hx
    rename_i a ha
    split at hx
    case h_2 => cases hx
    rename_i b hb
    obtain ⟨u, h1, h2⟩ := xBin_ok hC s hx (hget x a (by simp [Op.operands]) ha) (hget y b (by simp [Op.operands]) hb)
    exact ⟨u, by simp only [execOp, Sem.run_bind] at h1 ⊢; rw [h1]; rfl, h2⟩
  · rename_i op ty x
    split at hx
    case h_2 => cases hx
    rename_i a ha
    obtain ⟨u, h1, h2⟩ := xUn_ok (P := P) (w := w) hx (hget x a (by simp [Op.operands]) ha)
    exact ⟨u, by simp only [execOp, Sem.run_bind, h1, Result.andThen_ok, Sem.run_pure], h2⟩
  · rename_i sty dty x
    split at hx
    case h_2 => cases hx
    rename_i a ha
    obtain ⟨u, h1, h2⟩ := xConv_ok hC s hx (hget x a (by simp [Op.operands]) ha)
    exact ⟨u, by simp only [execOp, Sem.run_bind, h1, Result.andThen_ok, Sem.run_pure], h2⟩
  · rename_i ty x
    split at hx
    case h_2 => cases hx
    rename_i a ha
    obtain ⟨u, h1, h2⟩ := xMakeIface_ok hC (w := w) hx (hget x a (by simp [Op.operands]) ha)
    exact ⟨u, by simp only [execOp, Sem.run_bind, h1, Result.andThen_ok, Sem.run_pure], h2⟩
  · rename_i fn a b
    split at hx
    case h_2 => cases hx
    rename_i l hl
    split at hx
    case h_2 => cases hx
    rename_i k hk
    cases hx
    have h1 := getL_den (ρ := ρ) (E := E) (fun x v hm => hget x v (by simp only [Op.operands, Array.mem_append, Array.mem_toList_iff] at hm ⊢; exact Or.inl hm)) hl
    have h2 := getL_den (ρ := ρ) (E := E) (fun x v hm => hget x v (by simp only [Op.operands, Array.mem_append, Array.mem_toList_iff] at hm ⊢; exact Or.inr hm)) hk
    refine ⟨.func fn (a.map ρ) (b.map ρ), by simp only [execOp, Instr.makeFunc, Sem.run_bind, Sem.run_pure, Result.andThen_ok], ?_⟩
    simp only [SV.den, h1, h2, Option.some.injEq, Value.func.injEq, true_and]
    constructor <;> (apply Array.ext'; simp)
  · rename_i ty x lo hi
    split at hx
    case h_2 => cases hx
    rename_i a ha
    split at hx
    case h_2 => cases hx
    rename_i l hl
    split at hx
    case h_2 => cases hx
    rename_i k hk
    obtain ⟨l1, l2⟩ := getO_den (ρ := ρ) (E := E) (fun y v hm => hget y v (by simp only [Op.operands, Array.mem_append] at hm ⊢; simp_all)) hl
    obtain ⟨k1, k2⟩ := getO_den (ρ := ρ) (E := E) (fun y v hm => hget y v (by simp only [Op.operands, Array.mem_append] at hm ⊢; simp_all)) hk
    obtain ⟨u, h1, h2⟩ := xSlice_ok hC s hx (hget x a (by simp [Op.operands]) ha) l1 l2 k1 k2
    exact ⟨u, by simp only [execOp, Option.map_none, Sem.run_bind, h1, Result.andThen_ok, Sem.run_pure], h2⟩
  · rename_i ty x f
    split at hx
    case h_2 => cases hx
    rename_i a ha
    obtain ⟨u, h1, h2⟩ := xFieldAddr_ok hC (w := w) hx (hget x a (by simp [Op.operands]) ha)
    exact ⟨u, by simp only [execOp, Sem.run_bind, h1, Result.andThen_ok, Sem.run_pure], h2⟩
  · rename_i ty x f
    split at hx
    case h_2 => cases hx
    rename_i a ha
    obtain ⟨u, h1, h2⟩ := xField_ok hC (w := w) hx (hget x a (by simp [Op.operands]) ha)
    exact ⟨u, by simp only [execOp, Sem.run_bind, h1, Result.andThen_ok, Sem.run_pure], h2⟩
  · rename_i ty x i
    split at hx
    case h_2 => cases hx
    rename_i a ha
    split at hx
    case h_2 => cases hx
    rename_i b hb
    split at hx
    · obtain ⟨u, h1, h2⟩ := xIndexO_ok hC s hx (hget x _ (by simp [Op.operands]) ha) (hget i b (by simp [Op.operands]) hb)
      exact ⟨u, by simp only [execOp, Sem.run_bind, h1, Result.andThen_ok, Sem.run_pure], h2⟩
    · obtain ⟨u, h1, h2⟩ := xIndexAddr_ok hC (w := w) hx (hget x a (by simp [Op.operands]) ha) (hget i b (by simp [Op.operands]) hb)
      exact ⟨u, by simp only [execOp, Sem.run_bind, h1, Result.andThen_ok, Sem.run_pure], h2⟩
  · rename_i ty x i
    split at hx
    case h_2 => cases hx
    rename_i a ha
    split at hx
    case h_2 => cases hx
    rename_i b hb
    obtain ⟨u, h1, h2⟩ := xIndex_ok hC (w := w) hx (hget x a (by simp [Op.operands]) ha) (hget i b (by simp [Op.operands]) hb)
    exact ⟨u, by simp only [execOp, Sem.run_bind, h1, Result.andThen_ok, Sem.run_pure], h2⟩
  · rename_i ty x i ok
    split at hx
    case h_2 => cases hx
    rename_i a ha
    split at hx
    case h_2 => cases hx
    rename_i b hb
    obtain ⟨u, h1, h2⟩ := xLookup_ok hC s hx (hget x a (by simp [Op.operands]) ha) (hget i b (by simp [Op.operands]) hb)
    exact ⟨u, by simp only [execOp, Sem.run_bind, h1, Result.andThen_ok, Sem.run_pure], h2⟩
  · rename_i x xt ty ok
    split at hx
    case h_2 => cases hx
    rename_i a ha
    obtain ⟨u, h1, h2⟩ := xAssert_ok hC (w := w) (xt := xt) hx (hget x a (by simp [Op.operands]) ha)
    exact ⟨u, by simp only [execOp, Sem.run_bind, h1, Result.andThen_ok, Sem.run_pure], h2⟩
  · rename_i x i
    split at hx
    case h_2 => cases hx
    rename_i a ha
    obtain ⟨u, h1, h2⟩ := xExtract_ok (P := P) (w := w) hx (hget x a (by simp [Op.operands]) ha)
    exact ⟨u, by simp only [execOp, Sem.run_bind, h1, Result.andThen_ok, Sem.run_pure], h2⟩
  · rename_i c
    obtain ⟨cal, args, ats⟩ := c
    simp only at hx
    split at hx
    · split at hx
      case h_2 => cases hx
      rename_i ty hty
      split at hx
      case h_2 => cases hx
      rename_i x hxa
      split at hx
      case h_2 => cases hx
      rename_i a ha
      have hargs : args = #[x] := by apply Array.ext'; simpa using hxa
      have hats : ats = #[ty] := by apply Array.ext'; simpa using hty
      subst hargs; subst hats
      obtain ⟨u, h1, h2⟩ := xLen_ok hC s (rt := ty0) (ats := #[ty]) hx (hget x a (by simp [Op.operands, Call.operands]) ha) rfl
      refine ⟨u, ?_, h2⟩
      simp only [execOp, resolve, Sem.run_bind, Sem.run_pure, Result.andThen_ok, invoke, builtin, List.map_toArray, List.map_cons, List.map_nil, h1]
    · split at hx
      case h_2 => cases hx
      rename_i x hxa
      split at hx
      case h_2 => cases hx
      rename_i a ha
      have hargs : args = #[x] := by apply Array.ext'; simpa using hxa
      subst hargs
      obtain ⟨u, h1, h2⟩ := xSliceData_ok (P := P) s (ts := ats) (ty := ty0) hx (hget x a (by simp [Op.operands, Call.operands]) ha)
      refine ⟨u, ?_, h2⟩
      simp only [execOp, resolve, Sem.run_bind, Sem.run_pure, Result.andThen_ok, invoke, builtin, List.map_toArray, List.map_cons, List.map_nil, h1]
    · split at hx
      case h_2 => cases hx
      rename_i x y hxa
      split at hx
      case h_2 => cases hx
      rename_i a ha
      split at hx
      case h_2 => cases hx
      rename_i b hb
      have hargs : args = #[x, y] := by apply Array.ext'; simpa using hxa
      subst hargs
      obtain ⟨u, h1, h2⟩ := xMin_ok (P := P) (w := w) (ats := ats) (ty := ty0) s.facts hx (hget x a (by simp [Op.operands, Call.operands]) ha) (hget y b (by simp [Op.operands, Call.operands]) hb)
      refine ⟨u, ?_, h2⟩
      simp only [execOp, resolve, Sem.run_bind, Sem.run_pure, Result.andThen_ok, invoke, builtin, List.map_toArray, List.map_cons, List.map_nil, h1]
    · split at hx
      case h_2 => cases hx
      rename_i x y hxa
      split at hx
      case h_2 => cases hx
      rename_i a ha
      split at hx
      case h_2 => cases hx
      rename_i b hb
      have hargs : args = #[x, y] := by apply Array.ext'; simpa using hxa
      subst hargs
      obtain ⟨u, h1, h2⟩ := xMax_ok (P := P) (w := w) (ats := ats) (ty := ty0) s.facts hx (hget x a (by simp [Op.operands, Call.operands]) ha) (hget y b (by simp [Op.operands, Call.operands]) hb)
      refine ⟨u, ?_, h2⟩
      simp only [execOp, resolve, Sem.run_bind, Sem.run_pure, Result.andThen_ok, invoke, builtin, List.map_toArray, List.map_cons, List.map_nil, h1]
    · cases hx
  · cases hx

theorem allocX_ok {E : Env} {t : Tr SV} {n : Nat} {w : World} {ρ : Operand → Value} (hn : E.blk n = none) {o : Oper} {v : SV} {ao : AO} (hget : ∀ x v, x ∈ o.op.operands → getX C.g0 t x = some v → v.den E = some (ρ x))
    (hx : allocX C t n o.op = some (v, ao)) : ∃ O y, (execOp ρ o).run P w = .ok (.value y) (w.alloc O) ∧ AOK E w n v ao O y := by
  obtain ⟨dst, op, ty0, pos, after, guard⟩ := o
  simp only at hget hx
  unfold allocX at hx
  split at hx
  · obtain ⟨O, y, h1, h2⟩ := xAlloc_ok hC (w := w) hn hx
    exact ⟨O, y, by simp only [execOp, Sem.run_bind, h1, Result.andThen_ok, Sem.run_pure], h2⟩
  · rename_i e x
    split at hx
    case h_2 => cases hx
    rename_i a ha
    obtain ⟨O, y, h1, h2⟩ := xBox_ok (P := P) (w := w) hn hx (hget x a (by simp [Op.operands]) ha)
    refine ⟨O, y, ?_, h2⟩
    simp only [Sem.run_bind, Sem.run_pure] at h1
    simp only [execOp, Instr.box, Sem.run_bind, h1, Result.andThen_ok, Sem.run_pure]
  · rename_i ty len ps
    split at hx
    case h_2 => cases hx
    rename_i l hl
    have hp := getP_den (ρ := ρ) (E := E) (fun x v hm => hget x v (by simpa [Op.operands] using hm)) hl
    obtain ⟨O, y, h1, h2⟩ := xBuildSlice_ok hC (w := w) hn hx hp
    refine ⟨O, y, ?_, h2⟩
    have he : (Array.map (fun (i, x) => (i, ρ x)) ps) = (List.map (fun (i, x) => (i, ρ x)) ps.toList).toArray := by
      apply Array.ext'; simp
    simp only [execOp, he, Sem.run_bind, h1, Result.andThen_ok, Sem.run_pure]
  · rename_i ty r
    split at hx
    · cases hx
      refine ⟨.map #[] 0, .map (some w.heap.size), by simp [execOp, Instr.makeMap], 0, by simp [SV.den, Env.set_same], #[], 0, by simp, rfl⟩
    · rename_i x
      split at hx
      case h_2 => cases hx
      rename_i i hi
      split at hx
      case h_2 => cases hx
      rename_i kt et hd
      split at hx
      case h_2 => cases hx
      rename_i k e ha
      cases hx
      have := hget x _ (by simp [Op.operands]) ha
      simp only [SV.den, Option.some.injEq] at this
      obtain ⟨hu, _⟩ := hC.ty ty i hi
      rw [hd] at hu
      refine ⟨.map #[] 0, .map (some w.heap.size), ?_, 0, by simp [SV.den, Env.set_same], #[], 0, by simp, rfl⟩
      simp [execOp, Instr.makeMap, run_underlying hu, ← this, asInt, asIntOf]
  · rename_i ty a b
    split at hx
    case h_2 => cases hx
    rename_i av ha
    split at hx
    case h_2 => cases hx
    rename_i bv hb
    obtain ⟨O, y, h1, h2⟩ := xMakeSlice_ok hC (w := w) hn hx (hget a av (by simp [Op.operands]) ha) (hget b bv (by simp [Op.operands]) hb)
    exact ⟨O, y, by simp only [execOp, Sem.run_bind, h1, Result.andThen_ok, Sem.run_pure], h2⟩
  · cases hx

/-- What an operation that changes memory, or calls, comes to. -/
noncomputable def _root_.Go.Xq.WOK (P : Program) (C : Cx) (E : Env) (h : Tr AO) (n : Nat) (w : World) (res : Result Next) : WR → Prop
  | .val v h' n' => ∃ E' x w', res = .ok (.value x) w' ∧ v.den E' = some x ∧ Post C E h n w E' h' n' w'
  | .skip h' => ∃ w', res = .ok .skip w' ∧ Post C E h n w E h' n w'
  | .enter f args => ∃ xs, res = .ok (.enter f xs.toArray) w ∧ denL E args = some xs
  | .round k args => ∃ p xs, E.blk k = some p ∧ denL E args = some xs ∧ res = (Instr.yield p.1 xs.toArray).run P w
  | .panic ty v => ∃ x, v.den E = some x ∧ res = .halt (.panic (.iface ty x)) w

set_option maxHeartbeats 1000000 in
theorem writeX_ok {E : Env} {t : Tr SV} {h : Tr AO} {n : Nat} {w : World} {ρ : Operand → Value} (s : SH C E h n w.heap) {o : Oper} {r : WR} (hget : ∀ x v, x ∈ o.op.operands → getX C.g0 t x = some v → v.den E = some (ρ x))
    (hx : writeX C t h n o.op = some r) : WOK P C E h n w ((execOp ρ o).run P w) r := by
  obtain ⟨dst, op, ty0, pos, after, guard⟩ := o
  simp only at hget hx
  unfold writeX at hx
  split at hx
  · rename_i x
    split at hx
    case h_2 => cases hx
    rename_i ty v hv
    cases hx
    have hd := hget x _ (by simp [Op.operands]) hv
    simp only [SV.den, Option.map_eq_some_iff] at hd
    obtain ⟨y, hy, hd⟩ := hd
    exact ⟨y, hy, by simp only [execOp, Sem.run_bind, ← hd]; rfl⟩
  · rename_i ty a x
    split at hx
    case h_2 => cases hx
    rename_i av ha
    split at hx
    case h_2 => cases hx
    rename_i xv hxv
    split at hx
    case h_2 => cases hx
    rename_i h' hs
    cases hx
    obtain ⟨w', h1, h2⟩ := xStore_ok hC s hs (hget a av (by simp [Op.operands]) ha) (hget x xv (by simp [Op.operands]) hxv)
    exact ⟨w', by simp only [execOp, Sem.run_bind, h1, Result.andThen_ok, Sem.run_pure], h2⟩
  · rename_i ty m k v
    split at hx
    case h_2 => cases hx
    rename_i a ha
    split at hx
    case h_2 => cases hx
    rename_i b hb
    split at hx
    case h_2 => cases hx
    rename_i c hc
    split at hx
    case h_2 => cases hx
    rename_i h' hs
    cases hx
    obtain ⟨w', h1, h2⟩ := xMapUpdate_ok hC s hs (hget m a (by simp [Op.operands]) ha) (hget k b (by simp [Op.operands]) hb) (hget v c (by simp [Op.operands]) hc)
    exact ⟨w', by simp only [execOp, Sem.run_bind, h1, Result.andThen_ok, Sem.run_pure], h2⟩
  · rename_i ty m k v
    split at hx
    case h_2 => cases hx
    rename_i a ha
    split at hx
    case h_2 => cases hx
    rename_i b hb
    split at hx
    case h_2 => cases hx
    rename_i c hc
    split at hx
    case h_2 => cases hx
    rename_i h' hs
    cases hx
    obtain ⟨w', h1, h2⟩ := xMapUpdate_ok hC s hs (hget m a (by simp [Op.operands]) ha) (hget k b (by simp [Op.operands]) hb) (hget v c (by simp [Op.operands]) hc)
    exact ⟨w', by simp only [execOp, Sem.run_bind, h1, Result.andThen_ok, Sem.run_pure], h2⟩
  · rename_i ty x
    split at hx
    case h_2 => cases hx
    rename_i a ha
    split at hx
    case h_2 => cases hx
    rename_i v h' n' hs
    cases hx
    obtain ⟨E', y, w', h1, h2, h3⟩ := xRange_ok hC s hs (hget x a (by simp [Op.operands]) ha)
    exact ⟨E', y, w', by simp only [execOp, Sem.run_bind, h1, Result.andThen_ok, Sem.run_pure], h2, h3⟩
  · rename_i x b
    split at hx
    case h_2 => cases hx
    rename_i a ha
    split at hx
    case h_2 => cases hx
    rename_i v h' hs
    cases hx
    obtain ⟨y, w', h1, h2, h3⟩ := xNext_ok (P := P) (ty := ty0) s hs (hget x a (by simp [Op.operands]) ha)
    exact ⟨E, y, w', by simp only [execOp, Sem.run_bind, h1, Result.andThen_ok, Sem.run_pure], h2, h3⟩
  · rename_i src dst x
    split at hx
    case h_2 => cases hx
    rename_i a ha
    split at hx
    case h_2 => cases hx
    rename_i v h' n' hs
    cases hx
    obtain ⟨E', y, w', h1, h2, h3⟩ := xBytes_ok hC s hs (hget x a (by simp [Op.operands]) ha)
    exact ⟨E', y, w', by simp only [execOp, Sem.run_bind, h1, Result.andThen_ok, Sem.run_pure], h2, h3⟩
  · rename_i c
    obtain ⟨cal, args, ats⟩ := c
    simp only at hx
    split at hx
    · split at hx
      case h_2 => cases hx
      rename_i ty u hty
      split at hx
      case h_2 => cases hx
      rename_i sx x hxa
      split at hx
      case h_2 => cases hx
      rename_i a ha
      split at hx
      case h_2 => cases hx
      rename_i b hb
      split at hx
      case h_2 => cases hx
      rename_i v h' n' hs
      cases hx
      have hargs : args = #[sx, x] := by apply Array.ext'; simpa using hxa
      have hats : ats = #[ty, u] := by apply Array.ext'; simpa using hty
      subst hargs; subst hats
      obtain ⟨E', y, w', h1, h2, h3⟩ := xAppend_ok hC s (ty := ty0) hs (hget sx a (by simp [Op.operands, Call.operands]) ha) (hget x b (by simp [Op.operands, Call.operands]) hb)
      refine ⟨E', y, w', ?_, h2, h3⟩
      simp only [execOp, resolve, Sem.run_bind, Sem.run_pure, Result.andThen_ok, invoke, builtin, List.map_toArray, List.map_cons, List.map_nil, h1]
    · split at hx
      case h_2 => cases hx
      rename_i ty tys hty
      split at hx
      case h_2 => cases hx
      rename_i sx x hxa
      split at hx
      case h_2 => cases hx
      rename_i a ha
      split at hx
      case h_2 => cases hx
      rename_i b hb
      split at hx
      case h_2 => cases hx
      rename_i v h' hs
      cases hx
      have hargs : args = #[sx, x] := by apply Array.ext'; simpa using hxa
      have hats : ats[0]? = some ty := by rw [← Array.getElem?_toList, hty]; rfl
      subst hargs
      obtain ⟨y, w', h1, h2, h3⟩ := xCopy_ok hC s (rt := ty0) (ats := ats) hs (hget sx a (by simp [Op.operands, Call.operands]) ha) (hget x b (by simp [Op.operands, Call.operands]) hb) hats
      refine ⟨E, y, w', ?_, h2, h3⟩
      simp only [execOp, resolve, Sem.run_bind, Sem.run_pure, Result.andThen_ok, invoke, builtin, List.map_toArray, List.map_cons, List.map_nil, h1]
    · split at hx
      case h_2 => cases hx
      rename_i ty u hty
      split at hx
      case h_2 => cases hx
      rename_i sx x hxa
      split at hx
      case h_2 => cases hx
      rename_i a ha
      split at hx
      case h_2 => cases hx
      rename_i b hb
      split at hx
      case h_2 => cases hx
      rename_i v h' hs
      cases hx
      have hargs : args = #[sx, x] := by apply Array.ext'; simpa using hxa
      have hats : ats = #[ty, u] := by apply Array.ext'; simpa using hty
      subst hargs; subst hats
      obtain ⟨y, w', h1, h2, h3⟩ := xUStr_ok hC s (it := u) (ty := ty0) hs (hget sx a (by simp [Op.operands, Call.operands]) ha) (hget x b (by simp [Op.operands, Call.operands]) hb)
      refine ⟨E, y, w', ?_, h2, h3⟩
      simp only [execOp, resolve, Sem.run_bind, Sem.run_pure, Result.andThen_ok, invoke, builtin, List.map_toArray, List.map_cons, List.map_nil, h1]
    · split at hx
      case h_2 => cases hx
      rename_i ty tys hty
      split at hx
      case h_2 => cases hx
      rename_i sx x hxa
      split at hx
      case h_2 => cases hx
      rename_i a ha
      split at hx
      case h_2 => cases hx
      rename_i b hb
      split at hx
      case h_2 => cases hx
      rename_i h' hs
      cases hx
      have hargs : args = #[sx, x] := by apply Array.ext'; simpa using hxa
      have hats : ats[0]? = some ty := by rw [← Array.getElem?_toList, hty]; rfl
      subst hargs
      obtain ⟨w', h1, h3⟩ := xDelete_ok hC s (rt := ty0) (ats := ats) hs (hget sx a (by simp [Op.operands, Call.operands]) ha) (hget x b (by simp [Op.operands, Call.operands]) hb) hats
      refine ⟨E, .tuple #[], w', ?_, rfl, h3⟩
      simp only [execOp, resolve, Sem.run_bind, Sem.run_pure, Result.andThen_ok, invoke, builtin, List.map_toArray, List.map_cons, List.map_nil, h1]
    · rename_i f
      split at hx
      case h_3 => cases hx
      · rename_i k hf
        split at hx
        · cases hx
        rename_i l hl
        cases hx
        have hfd := hget f _ (by simp [Op.operands, Call.operands]) hf
        have hld := getL_den (ρ := ρ) (E := E) (fun x v hm => hget x v (by simp only [Op.operands, Call.operands, Array.mem_append, Array.mem_toList_iff] at hm ⊢; exact Or.inr hm)) hl
        simp only [SV.den, Option.map_eq_some_iff] at hfd
        obtain ⟨p, hp, hfd⟩ := hfd
        refine ⟨p, _, hp, hld, ?_⟩
        have harr : (#[] : Array Value) ++ args.map ρ = (args.toList.map ρ).toArray := by apply Array.ext'; simp
        simp only [execOp, resolve, Sem.run_bind, ← hfd, Deferred.ofValue, Sem.run_pure, Result.andThen_ok, invoke, harr]
      rename_i g fst cap hf
      split at hx
      · cases hx
      rename_i l hl
      split at hx
      case h_2 => cases hx
      rename_i fn hfn
      obtain ⟨hfun, hname⟩ := hC.fn g fn hfn
      have hfd := hget f _ (by simp [Op.operands, Call.operands]) hf
      have hld := getL_den (ρ := ρ) (E := E) (fun x v hm => hget x v (by simp only [Op.operands, Call.operands, Array.mem_append, Array.mem_toList_iff] at hm ⊢; exact Or.inr hm)) hl
      simp only [SV.den] at hfd
      split at hfd
      case h_2 => cases hfd
      rename_i av bv ha hb
      simp only [Option.some.injEq] at hfd
      have hall := denL_append ha (denL_append hld hb)
      have harr : (av.toArray ++ args.map ρ) ++ bv.toArray = (av ++ ((args.toList.map ρ) ++ bv)).toArray := by apply Array.ext'; simp
      split at hx
      · rename_i body hbody
        cases hx
        refine ⟨av ++ ((args.toList.map ρ) ++ bv), ?_, hall⟩
        have hbn : fn.body.isNone = false := by rw [hbody]; rfl
        simp only [execOp, resolve, Sem.run_bind, ← hfd, Deferred.ofValue, Sem.run_pure, Result.andThen_ok, invoke, callFunc, run_program, hfun, hname, hbn, Bool.false_eq_true, if_false, harr]
      · split at hx
        case h_2 => cases hx
        rename_i k hk
        split at hx
        · rename_i v hv
          cases hx
          obtain ⟨u, h1, h2⟩ := xExt_ok (w := w) (hC.ext g k hk) hv hall
          refine ⟨E, u, w, ?_, h2, Post.refl s⟩
          simp only [execOp, resolve, Sem.run_bind, ← hfd, Deferred.ofValue, Sem.run_pure, Result.andThen_ok, invoke, harr]
          exact h1
        · split at hx
          case h_2 => cases hx
          rename_i v h' n' hv
          cases hx
          obtain ⟨E', u, w', h1, h2, h3⟩ := xMakeNZ_ok s (hC.ext g k hk) hv hall
          refine ⟨E', u, w', ?_, h2, h3⟩
          simp only [execOp, resolve, Sem.run_bind, ← hfd, Deferred.ofValue, Sem.run_pure, Result.andThen_ok, invoke, harr]
          exact h1
    · cases hx
  · cases hx
end
end Go.Xq
