/-
  A run of closed code by the kernel: maps, lengths, ranges over strings, conversions.
-/
import Derived.Test.YtggonamheakkkaaGreatDoorXg
import Derived.Lib.Builder
import Derived.Laws.RangeString
import Derived.Laws.BytesString
namespace Go.Xq
open Go.RowKit
set_option linter.unusedVariables false

/-! ### Maps -/
noncomputable def keyEq (F : List Fact) (d : TypeDesc) (a b : SV) : Option Bool :=
  match d with
  | .int _ => match a, b with
    | .int k x, .int k' y => match Nat.beq (kN k) (kN k') with
      | true => cmpSI F .eql x y
      | false => none
    | _, _ => none
  | .string => match a, b with
    | .str x, .str y => some (beqB x y)
    | _, _ => none
  | .bool => match a, b with
    | .bool x, .bool y => some (match x with | true => y | false => notB y)
    | _, _ => none
  | _ => none

theorem keyEq_ok {E : Env} {F : List Fact} (hF : FactsOk F E.ints) {d : TypeDesc} {a b : SV} {r : Bool} {av bv : Value} (h : keyEq F d a b = some r) (ha : a.den E = some av) (hb : b.den E = some bv) :
    Instr.sameNow d av bv = some r ∧ (r = true → Instr.sameBits 10000 bv av = true) := by
  unfold keyEq at h
  split at h
  · split at h
    case h_2 => cases h
    rename_i k x k' y
    split at h
    case h_2 => cases h
    rename_i hk
    have := kN_inj hk
    subst this
    cases ha; cases hb
    have := cmpSI_ok hF h
    simp only [icmp] at this
    refine ⟨by simp [Instr.sameNow, this], fun hr => ?_⟩
    subst hr
    simp only [beq_iff_eq] at this
    simp [Instr.sameBits, this]
  · split at h
    case h_2 => cases h
    rename_i x y
    cases ha; cases hb
    simp only [Option.some.injEq] at h
    rw [beqB_eq] at h
    refine ⟨by simp [Instr.sameNow, beq_toListBytes, h], fun hr => ?_⟩
    subst hr
    simp only [beq_iff_eq] at h
    simp [Instr.sameBits, beq_toListBytes, h]
  · split at h
    case h_2 => cases h
    rename_i x y
    cases ha; cases hb
    simp only [Option.some.injEq] at h
    subst h
    refine ⟨by cases x <;> cases y <;> rfl, fun hr => ?_⟩
    cases x <;> cases y <;> first | rfl | (simp [notB] at hr)
  · cases h

noncomputable def isKeyD : TypeDesc → Bool
  | .int _ => true
  | .string => true
  | .bool => true
  | _ => false

theorem run_checkKey' {P : Program} {w : World} {t : TypeId} {d : TypeDesc} (e : Bool) (v : Value) (h : P.underlying t = some d) (hk : isKeyD d = true) (m : Nat) : (Instr.checkKey e (m + 1) t v).run P w = .ok () w := by
  rw [Instr.checkKey]
  simp only [Sem.run_bind, run_underlying h, Result.andThen_ok]
  cases d <;> first
    | (simp [isKeyD] at hk; done)
    | rfl

theorem run_checkKey {P : Program} {w : World} {t : TypeId} {d : TypeDesc} (e : Bool) (v : Value) (h : P.underlying t = some d) (hk : isKeyD d = true) : (Instr.checkKey e 10000 t v).run P w = .ok () w :=
  run_checkKey' e v h hk 9999

noncomputable def xFind (F : List Fact) (d : TypeDesc) (k : SV) : List (SV × SV) → Nat → Option (Option (Nat × SV))
  | [], _ => some none
  | (k', v) :: r, i => match keyEq F d k k' with
    | some true => some (some (i, v))
    | some false => xFind F d k r (Nat.succ i)
    | none => none

theorem xFind_ok {E : Env} {F : List Fact} (hF : FactsOk F E.ints) {d : TypeDesc} {k : SV} {kv : Value} (hk : k.den E = some kv) : ∀ {es : List (SV × SV)} {ents : List MapEntry} {i : Nat} {r : Option (Nat × SV)}, denE E es ents →
    xFind F d k es i = some r → (r = none → Instr.findNow d kv ents i = some none) ∧
      (∀ j v, r = some (j, v) → ∃ x e, v.den E = some x ∧ Instr.findNow d kv ents i = some (some (j, x)) ∧ i ≤ j ∧ ents[j - i]? = some e ∧ e.val = x ∧ Instr.sameBits 10000 e.key kv = true)
  | [], ents, i, r, he, hx => by
    have he' : ents = [] := he
    subst he'
    simp only [xFind, Option.some.injEq] at hx
    subst hx
    exact ⟨fun _ => rfl, (fun j v e => nomatch e)⟩
  | (k', v) :: es, ents, i, r, he, hx => by
    obtain ⟨e, ents', rfl, h1, h2, h3⟩ := he
    simp only [xFind] at hx
    split at hx
    · rename_i hq
      cases hx
      obtain ⟨a, b⟩ := keyEq_ok hF hq hk h1
      refine ⟨(fun e => nomatch e), fun j u e2 => ?_⟩
      cases e2
      exact ⟨_, e, h2, by simp [Instr.findNow, a], Nat.le_refl _, by simp, rfl, b rfl⟩
    · rename_i hq
      obtain ⟨a, _⟩ := keyEq_ok hF hq hk h1
      obtain ⟨p, q⟩ := xFind_ok hF hk h3 hx
      refine ⟨fun e2 => by simp [Instr.findNow, a, p e2], fun j u e2 => ?_⟩
      obtain ⟨x, e', w1, w2, w3, w4, w5, w6⟩ := q j u e2
      have w3' : i + 1 ≤ j := w3
      refine ⟨x, e', w1, by simp [Instr.findNow, a, w2], by omega, ?_, w5, w6⟩
      rw [show j - i = (j - Nat.succ i) + 1 by show _ = j - (i + 1) + 1; omega, List.getElem?_cons_succ]
      exact w4
    · cases hx

theorem run_findKey {P : Program} {w : World} {t : TypeId} {d : TypeDesc} {kv : Value} {ents : List MapEntry} {r : Option (Nat × Value)} (h : P.underlying t = some d) (hf : Instr.findNow d kv ents 0 = some r) :
    (Instr.findKey t kv ents).run P w = .ok r w := by
  simp [Instr.findKey, run_underlying h, hf]

noncomputable def xMapOf (h : Tr AO) : SV → Option (List (SV × SV))
  | .nilmap => some []
  | .map id => match h.get id with
    | some (.map es) => some es
    | _ => none
  | _ => none

noncomputable def xLookup (C : Cx) (h : Tr AO) (ty : TypeId) (x ix : SV) (ok : Bool) : Option SV :=
  match C.tt.get ty with
  | none => none
  | some i => match i.desc with
    | .map kt et => match C.tt.get kt with
      | none => none
      | some ki => match isKeyD ki.desc with
        | false => none
        | true => match xMapOf h x with
          | none => none
          | some es => match xFind C.facts ki.desc ix es 0 with
            | none => none
            | some (some (_, v)) => some (match ok with | true => .tuple [v, .bool true] | false => v)
            | some none => match C.tt.get et with
              | none => none
              | some ei => match ei.info.zero with
                | none => none
                | some z => match ofV z with
                  | none => none
                  | some zv => some (match ok with | true => .tuple [zv, .bool false] | false => zv)
    | _ => none

section
variable {P : Program} {C : Cx} (hC : C.Ok P)
include hC

theorem xLookup_ok {E : Env} {h : Tr AO} {n : Nat} {w : World} (s : SH C E h n w.heap) {ty : TypeId} {x ix v : SV} {ok : Bool} {xv iv : Value} (hx : xLookup C h ty x ix ok = some v) (hxv : x.den E = some xv) (hiv : ix.den E = some iv) :
    ∃ u, (Instr.lookup ty xv iv ok).run P w = .ok u w ∧ v.den E = some u := by
  simp only [xLookup] at hx
  split at hx
  · cases hx
  rename_i i hi
  obtain ⟨hd, hin⟩ := hC.ty ty i hi
  split at hx
  case h_2 => cases hx
  rename_i kt et he
  rw [he] at hd
  split at hx
  · cases hx
  rename_i ki hki
  obtain ⟨hkd, hkin⟩ := hC.ty kt ki hki
  split at hx
  · cases hx
  rename_i hkk
  split at hx
  · cases hx
  rename_i es hes
  obtain ⟨ents, hents, hcase⟩ : ∃ ents : Array MapEntry, denE E es ents.toList ∧ ((xv = .map none ∧ ents = #[]) ∨ ∃ r clock, xv = .map (some r) ∧ (getObj r).run P w = .ok (.map ents clock) w) := by
    unfold xMapOf at hes
    split at hes
    · cases hes; cases hxv; exact ⟨#[], rfl, Or.inl ⟨rfl, rfl⟩⟩
    · rename_i id
      split at hes
      case h_2 => cases hes
      rename_i es' hg
      cases hes
      obtain ⟨p, hp, ents, clock, h1, h2⟩ := s.obj hg
      simp only [SV.den, hp, Option.map_some, Option.some.injEq] at hxv
      exact ⟨ents, h2, Or.inr ⟨p.1, clock, hxv.symm, by simp [getObj, Sem.run, h1]⟩⟩
    · cases hes
  have hck := fun e => run_checkKey (P := P) (w := w) e iv hkd hkk
  split at hx
  · cases hx
  · rename_i j u hf
    cases hx
    obtain ⟨_, q⟩ := xFind_ok s.facts hiv hents hf
    obtain ⟨y, _, h1, h2, _⟩ := q j u rfl
    have hfk := run_findKey (P := P) (w := w) hkd h2
    refine ⟨if ok then .tuple #[y, .bool true] else y, ?_, by cases ok <;> simp [SV.den, denL, h1]⟩
    rcases hcase with ⟨rfl, rfl⟩ | ⟨r, clock, rfl, hrun⟩
    · simp only [Instr.lookup, Sem.run_bind, run_underlying hd, Result.andThen_ok, hck, hfk, Sem.run_pure]
    · simp only [Instr.lookup, Sem.run_bind, run_underlying hd, Result.andThen_ok, hrun, hck, hfk, Sem.run_pure]
  · rename_i hf
    split at hx
    · cases hx
    rename_i ei hei
    obtain ⟨_, hein⟩ := hC.ty et ei hei
    split at hx
    · cases hx
    rename_i z hz
    split at hx
    · cases hx
    rename_i zv hzv
    cases hx
    obtain ⟨q, _⟩ := xFind_ok s.facts hiv hents hf
    have hfk := run_findKey (P := P) (w := w) hkd (q rfl)
    refine ⟨if ok then .tuple #[z, .bool false] else z, ?_, by cases ok <;> simp [SV.den, denL, ofV_den E z zv hzv]⟩
    rcases hcase with ⟨rfl, rfl⟩ | ⟨r, clock, rfl, hrun⟩
    · simp only [Instr.lookup, Sem.run_bind, run_underlying hd, Result.andThen_ok, hck, hfk, Sem.run_pure, run_zeroValue' w hein hz]
    · simp only [Instr.lookup, Sem.run_bind, run_underlying hd, Result.andThen_ok, hrun, hck, hfk, Sem.run_pure, run_zeroValue' w hein hz]

omit hC in
theorem denE_set {E : Env} {k v : SV} {kv x : Value} (hk : k.den E = some kv) (hv : v.den E = some x) : ∀ {es : List (SV × SV)} {ents : List MapEntry} (j : Nat), denE E es ents →
    denE E (es.set j (k, v)) (ents.modify j fun e => { e with key := kv, val := x })
  | [], ents, j, h => by
    have h' : ents = [] := h
    subst h'
    cases j <;> exact rfl
  | (a, b) :: es, ents, 0, h => by
    obtain ⟨e, ents', rfl, h1, h2, h3⟩ := h
    exact ⟨_, _, rfl, hk, hv, h3⟩
  | (a, b) :: es, ents, j + 1, h => by
    obtain ⟨e, ents', rfl, h1, h2, h3⟩ := h
    exact ⟨e, _, rfl, h1, h2, denE_set hk hv j h3⟩

omit hC in
theorem denE_append {E : Env} {k v : SV} {e : MapEntry} (hk : k.den E = some e.key) (hv : v.den E = some e.val) : ∀ {es : List (SV × SV)} {ents : List MapEntry}, denE E es ents → denE E (es ++ [(k, v)]) (ents ++ [e])
  | [], ents, h => by
    have h' : ents = [] := h
    subst h'
    exact ⟨e, [], rfl, hk, hv, rfl⟩
  | (a, b) :: es, ents, h => by
    obtain ⟨e', ents', rfl, h1, h2, h3⟩ := h
    exact ⟨e', _, rfl, h1, h2, denE_append hk hv h3⟩

omit hC in
theorem denE_erase {E : Env} : ∀ {es : List (SV × SV)} {ents : List MapEntry} (j : Nat), denE E es ents → denE E (es.eraseIdx j) (ents.eraseIdx j)
  | [], ents, j, h => by
    have h' : ents = [] := h
    subst h'
    exact rfl
  | (a, b) :: es, ents, 0, h => by
    obtain ⟨e, ents', rfl, h1, h2, h3⟩ := h
    exact h3
  | (a, b) :: es, ents, j + 1, h => by
    obtain ⟨e, ents', rfl, h1, h2, h3⟩ := h
    exact ⟨e, _, rfl, h1, h2, denE_erase j h3⟩

omit hC in
/-- An object of the run's own becomes another. -/
theorem _root_.Go.Xq.Post.setObj {E : Env} {h h' : Tr AO} {n f : Nat} {w : World} {id : Nat} {o o' : AO} {O : Obj} {p : Nat × Nat} (s : SH C E h n w.heap) (hG : C.G ≤ id) (hg : h.get id = some o) (hb : E.blk id = some p)
    (hu : Tr.upd f h id (some o') = some h') (ho : o'.rel E p (w.heap.setIfInBounds p.1 O)) : Post C E h n w E h' n { w with heap := w.heap.setIfInBounds p.1 O } := by
  refine Post.change s hG hg hb hu ho rfl rfl rfl (by simp) ?_
  intro k hk
  show (w.heap.setIfInBounds p.1 O)[k]? = _
  rw [Array.getElem?_setIfInBounds_ne (by omega)]

noncomputable def _root_.Go.Xq.xMapUpdate (C : Cx) (h : Tr AO) (ty : TypeId) (x k v : SV) : Option (Tr AO) :=
  match C.tt.get ty with
  | none => none
  | some i => match i.desc with
    | .map kt _ => match C.tt.get kt with
      | none => none
      | some ki => match isKeyD ki.desc with
        | false => none
        | true => match x with
          | .map id => match Nat.ble C.G id with
            | false => none
            | true => match h.get id with
              | some (.map es) => match xFind C.facts ki.desc k es 0 with
                | none => none
                | some (some (j, _)) => h.upd 48 id (some (.map (es.set j (k, v))))
                | some none => h.upd 48 id (some (.map (es ++ [(k, v)])))
              | _ => none
          | _ => none
    | _ => none

theorem xMapUpdate_ok {E : Env} {h h' : Tr AO} {n : Nat} {w : World} (s : SH C E h n w.heap) {ty : TypeId} {x k v : SV} {xv kv vv : Value} (hx : xMapUpdate C h ty x k v = some h') (hxv : x.den E = some xv) (hkv : k.den E = some kv) (hvv : v.den E = some vv) :
    ∃ w', (Instr.mapUpdate ty xv kv vv).run P w = .ok () w' ∧ Post C E h n w E h' n w' := by
  simp only [xMapUpdate] at hx
  split at hx
  · cases hx
  rename_i i hi
  obtain ⟨hd, hin⟩ := hC.ty ty i hi
  split at hx
  case h_2 => cases hx
  rename_i kt et he
  rw [he] at hd
  split at hx
  · cases hx
  rename_i ki hki
  obtain ⟨hkd, hkin⟩ := hC.ty kt ki hki
  split at hx
  · cases hx
  rename_i hkk
  split at hx
  case h_2 => cases hx
  rename_i id
  split at hx
  · cases hx
  rename_i hG
  split at hx
  case h_2 => cases hx
  rename_i es hg
  obtain ⟨p, hp, ents, clock, h1, h2⟩ := s.obj hg
  simp only [SV.den, hp, Option.map_some, Option.some.injEq] at hxv
  subst hxv
  have hck := run_checkKey (P := P) (w := w) false kv hkd hkk
  have hgo : (getObj p.1).run P w = .ok (.map ents clock) w := by simp [getObj, Sem.run, h1]
  have hlt : p.1 < w.heap.size := (Array.getElem?_eq_some_iff.1 h1).1
  have hso : ∀ O : Obj, (setObj p.1 O).run P w = .ok () { w with heap := w.heap.setIfInBounds p.1 O } := by
    intro O; simp [setObj, Sem.run, h1]
  split at hx
  · cases hx
  · rename_i j u hf
    obtain ⟨_, q⟩ := xFind_ok s.facts hkv h2 hf
    obtain ⟨y, e, e1, e2, e3, e4, e5, e6⟩ := q j u rfl
    have hfk := run_findKey (P := P) (w := w) hkd e2
    simp only [Nat.sub_zero] at e4
    have hkts : (Instr.keyThatStays (((ents[j]?).map (·.key)).getD kv) kv).run P w = .ok kv w := by
      have : ents[j]? = some e := by simpa using e4
      rw [this]
      simp [Instr.keyThatStays, e6]
    refine ⟨_, ?_, Post.setObj (O := .map (ents.modify j fun e => { e with key := kv, val := vv }) clock) (p := p) s (Nat.le_of_ble_eq_true hG) hg hp hx ?_⟩
    · simp only [Instr.mapUpdate, Sem.run_bind, run_underlying hd, Result.andThen_ok, hgo, hck, hfk, hkts, hso]
    · refine ⟨ents.modify j fun e => { e with key := kv, val := vv }, clock, by simp [hlt], ?_⟩
      have := denE_set hkv hvv j h2
      simpa using this
  · rename_i hf
    obtain ⟨q, _⟩ := xFind_ok s.facts hkv h2 hf
    have hfk := run_findKey (P := P) (w := w) hkd (q rfl)
    refine ⟨_, ?_, Post.setObj (O := .map (ents.push { key := kv, val := vv, born := clock }) (clock + 1)) (p := p) s (Nat.le_of_ble_eq_true hG) hg hp hx ?_⟩
    · simp only [Instr.mapUpdate, Sem.run_bind, run_underlying hd, Result.andThen_ok, hgo, hck, hfk, hso]
    · refine ⟨ents.push { key := kv, val := vv, born := clock }, clock + 1, by simp [hlt], ?_⟩
      have := denE_append (e := { key := kv, val := vv, born := clock }) hkv hvv h2
      simpa using this

noncomputable def _root_.Go.Xq.xDelete (C : Cx) (h : Tr AO) (ty : TypeId) (x k : SV) : Option (Tr AO) :=
  match C.tt.get ty with
  | none => none
  | some i => match i.desc with
    | .map kt _ => match C.tt.get kt with
      | none => none
      | some ki => match isKeyD ki.desc with
        | false => none
        | true => match x with
          | .nilmap => some h
          | .map id => match Nat.ble C.G id with
            | false => none
            | true => match h.get id with
              | some (.map es) => match xFind C.facts ki.desc k es 0 with
                | none => none
                | some (some (j, _)) => h.upd 48 id (some (.map (es.eraseIdx j)))
                | some none => h.upd 48 id (some (.map es))
              | _ => none
          | _ => none
    | _ => none

theorem xDelete_ok {E : Env} {h h' : Tr AO} {n : Nat} {w : World} (s : SH C E h n w.heap) {ty rt : TypeId} {ats : Array TypeId} {x k : SV} {xv kv : Value} (hx : xDelete C h ty x k = some h') (hxv : x.den E = some xv) (hkv : k.den E = some kv) (hat : ats[0]? = some ty) :
    ∃ w', (Builtin.delete_ ats rt #[xv, kv]).run P w = .ok (.tuple #[]) w' ∧ Post C E h n w E h' n w' := by
  simp only [xDelete] at hx
  split at hx
  · cases hx
  rename_i i hi
  obtain ⟨hd, hin⟩ := hC.ty ty i hi
  split at hx
  case h_2 => cases hx
  rename_i kt et he
  rw [he] at hd
  split at hx
  · cases hx
  rename_i ki hki
  obtain ⟨hkd, hkin⟩ := hC.ty kt ki hki
  split at hx
  · cases hx
  rename_i hkk
  have hck := fun e => run_checkKey (P := P) (w := w) e kv hkd hkk
  split at hx
  · cases hx; cases hxv
    refine ⟨w, ?_, Post.refl s⟩
    simp [Builtin.delete_, hat, run_underlying hd, hck]
  · rename_i id
    split at hx
    · cases hx
    rename_i hG
    split at hx
    case h_2 => cases hx
    rename_i es hg
    obtain ⟨p, hp, ents, clock, h1, h2⟩ := s.obj hg
    simp only [SV.den, hp, Option.map_some, Option.some.injEq] at hxv
    subst hxv
    have hgo : (getObj p.1).run P w = .ok (.map ents clock) w := by simp [getObj, Sem.run, h1]
    have hlt : p.1 < w.heap.size := (Array.getElem?_eq_some_iff.1 h1).1
    have hso : ∀ O : Obj, (setObj p.1 O).run P w = .ok () { w with heap := w.heap.setIfInBounds p.1 O } := by
      intro O; simp [setObj, Sem.run, h1]
    split at hx
    · cases hx
    · rename_i j u hf
      obtain ⟨_, q⟩ := xFind_ok s.facts hkv h2 hf
      obtain ⟨y, e, e1, e2, e3, e4, e5, e6⟩ := q j u rfl
      have hfk := run_findKey (P := P) (w := w) hkd e2
      refine ⟨_, ?_, Post.setObj (O := .map (ents.eraseIdxIfInBounds j) clock) (p := p) s (Nat.le_of_ble_eq_true hG) hg hp hx ?_⟩
      · simp [Builtin.delete_, hat, run_underlying hd, hck, hgo, hfk, hso]
      · refine ⟨ents.eraseIdxIfInBounds j, clock, by simp [hlt], ?_⟩
        have := denE_erase j h2
        simpa using this
    · rename_i hf
      obtain ⟨q, _⟩ := xFind_ok s.facts hkv h2 hf
      have hfk := run_findKey (P := P) (w := w) hkd (q rfl)
      refine ⟨_, ?_, Post.setObj (O := .map ents clock) (p := p) s (Nat.le_of_ble_eq_true hG) hg hp hx ?_⟩
      · simp [Builtin.delete_, hat, run_underlying hd, hck, hgo, hfk, hso]
      · exact ⟨ents, clock, by simp [hlt], h2⟩
  · cases hx

/-! ### Lengths -/
noncomputable def _root_.Go.Xq.xLen (C : Cx) (h : Tr AO) (ty : TypeId) (x : SV) : Option SV :=
  match C.tt.get ty with
  | none => none
  | some i => match i.desc with
    | .string => match x with
      | .str s => some (.int .i64 (.lit (.ofNat s.length)))
      | _ => none
    | .array m _ => some (.int .i64 (.lit (.ofNat m)))
    | .slice _ => match x with
      | .nilslice => some (.int .i64 (.lit (.ofNat 0)))
      | .slice _ _ len _ => some (.int .i64 (.lit (.ofNat len)))
      | .oslice i => match parX C.par i with
        | some (j, _, _) => some (.int .i64 (.var j))
        | none => none
      | _ => none
    | .map _ _ => match x with
      | .nilmap => some (.int .i64 (.lit (.ofNat 0)))
      | .map id => match h.get id with
        | some (.map es) => some (.int .i64 (.lit (.ofNat es.length)))
        | _ => none
      | _ => none
    | _ => none

theorem xLen_ok {E : Env} {h : Tr AO} {n : Nat} {w : World} (s : SH C E h n w.heap) {ty rt : TypeId} {ats : Array TypeId} {x v : SV} {xv : Value} (hx : xLen C h ty x = some v) (hxv : x.den E = some xv) (hat : ats[0]? = some ty) :
    ∃ u, (Builtin.len_ ats rt #[xv]).run P w = .ok u w ∧ v.den E = some u := by
  simp only [xLen] at hx
  split at hx
  · cases hx
  rename_i i hi
  obtain ⟨hd, hin⟩ := hC.ty ty i hi
  split at hx
  · rename_i he
    rw [he] at hd
    split at hx
    case h_2 => cases hx
    cases hx; cases hxv
    exact ⟨_, by simp only [Builtin.len_, hat, List.getElem?_toArray, List.getElem?_cons_zero, Sem.run_bind, run_underlying hd, Result.andThen_ok, Sem.run_pure]; rfl, by simp [SV.den, SI.den, goInt, size_mk]⟩
  · rename_i m e he
    rw [he] at hd
    cases hx
    exact ⟨_, by simp only [Builtin.len_, hat, List.getElem?_toArray, List.getElem?_cons_zero, Sem.run_bind, run_underlying hd, Result.andThen_ok, Sem.run_pure]; rfl, rfl⟩
  · rename_i e he
    rw [he] at hd
    split at hx
    · cases hx; cases hxv
      exact ⟨_, by simp only [Builtin.len_, hat, List.getElem?_toArray, List.getElem?_cons_zero, Sem.run_bind, run_underlying hd, Result.andThen_ok, Sem.run_pure]; rfl, rfl⟩
    · cases hx
      simp only [SV.den, Option.map_eq_some_iff] at hxv
      obtain ⟨p, hp, rfl⟩ := hxv
      exact ⟨_, by simp only [Builtin.len_, hat, List.getElem?_toArray, List.getElem?_cons_zero, Sem.run_bind, run_underlying hd, Result.andThen_ok, Sem.run_pure]; rfl, rfl⟩
    · rename_i i
      split at hx
      case h_2 => cases hx
      rename_i j e' m hpar
      cases hx
      obtain ⟨B, o, N, c, cs, et, fz, h1, h2, h3, h4, h5⟩ := hC.par i j e' m hpar E.ints E.opq s.kn.2.1
      obtain ⟨b', o', N', c', rfl, h6⟩ := osliceV_eq hxv
      rw [h1] at h6
      cases h6
      exact ⟨_, by simp only [Builtin.len_, hat, List.getElem?_toArray, List.getElem?_cons_zero, Sem.run_bind, run_underlying hd, Result.andThen_ok, Sem.run_pure]; rfl, by simp only [SV.den, SI.den, ← h2]; rfl⟩
    · cases hx
  · rename_i e1 e2 he
    rw [he] at hd
    split at hx
    · cases hx; cases hxv
      exact ⟨_, by simp only [Builtin.len_, hat, List.getElem?_toArray, List.getElem?_cons_zero, Sem.run_bind, run_underlying hd, Result.andThen_ok, Sem.run_pure]; rfl, rfl⟩
    · rename_i id
      split at hx
      case h_2 => cases hx
      rename_i es hg
      cases hx
      obtain ⟨p, hp, ents, clock, h1, h2⟩ := s.obj hg
      simp only [SV.den, hp, Option.map_some, Option.some.injEq] at hxv
      subst hxv
      have hgo : (getObj p.1).run P w = .ok (.map ents clock) w := by simp [getObj, Sem.run, h1]
      refine ⟨goInt ents.size, by simp [Builtin.len_, hat, run_underlying hd, hgo], ?_⟩
      have := denE_length es _ h2
      simp only [SV.den, SI.den, goInt, ← this, Array.length_toList]
      rfl
    · cases hx
  · cases hx

/-! ### Ranges over strings -/
noncomputable def _root_.Go.Xq.xRange (C : Cx) (h : Tr AO) (n : Nat) (ty : TypeId) : SV → Option (SV × Tr AO × Nat)
  | .str s => match C.tt.get ty with
    | none => none
    | some i => match i.desc with
      | .string => match h.upd 48 n (some (.siter s 0)) with
        | some h' => some (.ptr n 0, h', Nat.succ n)
        | none => none
      | _ => none
  | _ => none

theorem xRange_ok {E : Env} {h h' : Tr AO} {n n' : Nat} {w : World} (s : SH C E h n w.heap) {ty : TypeId} {x r : SV} {xv : Value} (hx : xRange C h n ty x = some (r, h', n')) (hxv : x.den E = some xv) :
    ∃ E' y w', (Instr.range ty xv).run P w = .ok y w' ∧ r.den E' = some y ∧ Post C E h n w E' h' n' w' := by
  unfold xRange at hx
  split at hx
  case h_2 => cases hx
  rename_i str
  split at hx
  · cases hx
  rename_i i hi
  obtain ⟨hd, hin⟩ := hC.ty ty i hi
  split at hx
  case h_2 => cases hx
  rename_i he
  rw [he] at hd
  split at hx
  case h_2 => cases hx
  rename_i h2 hu
  simp only [Option.some.injEq, Prod.mk.injEq] at hx
  obtain ⟨rfl, rfl, rfl⟩ := hx
  cases hxv
  refine ⟨E.set n (w.heap.size, 0), .pointer (some ⟨w.heap.size, 0, none⟩), w.alloc (.stringIter ⟨str.toArray⟩ 0), by simp [Instr.range, run_underlying hd], by simp [SV.den, Env.set_same], ?_⟩
  refine Post.alloc (f := 48) s hu ?_
  show (w.heap.push _)[w.heap.size]? = _
  simp

noncomputable def _root_.Go.Xq.xNext (C : Cx) (h : Tr AO) : SV → Bool → Option (SV × Tr AO)
  | .ptr id 0, true => match Nat.ble C.G id with
    | false => none
    | true => match h.get id with
      | some (.siter s pos) => match s[pos]? with
        | none => some (.tuple [.bool false], h)
        | some b => match Nat.blt b.toNat 128 with
          | false => none
          | true => match h.upd 48 id (some (.siter s (forceN (Nat.succ pos) fun p => p))) with
            | some h' => some (.tuple [.bool true, .int .i64 (.lit (.ofNat pos)), .int .i32 (.lit (.ofNat b.toNat))], h')
            | none => none
      | _ => none
  | _, _ => none

omit hC in
theorem xNext_ok {E : Env} {h h' : Tr AO} {n : Nat} {w : World} (s : SH C E h n w.heap) {ty : TypeId} {x r : SV} {b : Bool} {xv : Value} (hx : xNext C h x b = some (r, h')) (hxv : x.den E = some xv) :
    ∃ y w', (Instr.next xv b ty).run P w = .ok y w' ∧ r.den E = some y ∧ Post C E h n w E h' n w' := by
  unfold xNext at hx
  split at hx
  case h_2 => cases hx
  rename_i id
  split at hx
  · cases hx
  rename_i hG
  split at hx
  case h_2 => cases hx
  rename_i str pos hg
  obtain ⟨p, hp, h1⟩ := s.obj hg
  have h1' : w.heap[p.1]? = some (.stringIter ⟨str.toArray⟩ pos) := h1
  simp only [SV.den, hp, Option.map_some, Option.some.injEq] at hxv
  subst hxv
  have hgo : (getObj p.1).run P w = .ok (.stringIter ⟨str.toArray⟩ pos) w := by simp [getObj, Sem.run, h1']
  have hso : ∀ O : Obj, (setObj p.1 O).run P w = .ok () { w with heap := w.heap.setIfInBounds p.1 O } := by
    intro O; simp [setObj, Sem.run, h1']
  have hlt : p.1 < w.heap.size := (Array.getElem?_eq_some_iff.1 h1').1
  split at hx
  · rename_i hn
    cases hx
    have : ¬ pos < (ByteArray.mk str.toArray).size := by
      rw [size_mk]; intro hl; rw [List.getElem?_eq_getElem hl] at hn; cases hn
    exact ⟨.tuple #[.bool false], w, by simp [Instr.next, hgo, this], rfl, Post.refl s⟩
  · rename_i c hc
    split at hx
    · cases hx
    rename_i hasc
    split at hx
    case h_2 => cases hx
    rename_i h2 hu
    cases hx
    have hl : pos < (ByteArray.mk str.toArray).size := by rw [size_mk]; exact (List.getElem?_eq_some_iff.1 hc).1
    have hb : (ByteArray.mk str.toArray)[pos]'hl = c := (List.getElem?_eq_some_iff.1 hc).2
    have hdec := decode_ascii ⟨str.toArray⟩ pos hl (by rw [hb]; simpa [Nat.blt_eq] using hasc)
    rw [hb] at hdec
    refine ⟨.tuple #[.bool true, goInt pos, .int .i32 c.toNat], _, ?_, rfl, Post.setObj (O := .stringIter ⟨str.toArray⟩ (pos + 1)) (p := p) s (Nat.le_of_ble_eq_true hG) hg hp hu ?_⟩
    · simp only [Instr.next, Sem.run_bind, hgo, Result.andThen_ok, hl, if_true, hdec, hso, Sem.run_pure]
    · rw [forceN_eq]
      show (w.heap.setIfInBounds p.1 _)[p.1]? = _
      simp [hlt]

/-! ### Conversions -/
/-- Bytes that are known. -/
noncomputable def _root_.Go.Xq.toB : List SV → Option (List UInt8)
  | [] => some []
  | v :: r => match v with
    | .int .u8 (.lit (.ofNat n)) => match toB r with
      | some l => some (UInt8.ofNat n :: l)
      | none => none
    | _ => none

omit hC in
theorem toB_ok {E : Env} : ∀ {vs : List SV} {xs : List Value} {l : List UInt8}, toB vs = some l → denL E vs = some xs → ∃ ns : List Int, xs = ns.map (Value.int .u8) ∧ l = ns.map fun n => UInt8.ofNat n.toNat
  | [], xs, l, h, hd => by simp only [toB, Option.some.injEq] at h; subst h; rw [denL_nil hd]; exact ⟨[], rfl, rfl⟩
  | v :: r, xs, l, h, hd => by
    obtain ⟨x, ys, h1, h2, rfl⟩ := denL_cons hd
    simp only [toB] at h
    split at h
    case h_2 => cases h
    rename_i n
    split at h
    case h_2 => cases h
    rename_i l' hl
    cases h; cases h1
    obtain ⟨ns, e1, e2⟩ := toB_ok hl h2
    exact ⟨Int.ofNat n :: ns, by rw [e1]; rfl, by rw [e2]; rfl⟩

omit hC in
theorem fold_push : ∀ (ns : List Int) (l : List UInt8), ns.foldl (fun r n => r.push (UInt8.ofNat n.toNat)) (ByteArray.mk l.toArray) = ByteArray.mk (l ++ ns.map fun n => UInt8.ofNat n.toNat).toArray
  | [], l => by simp
  | n :: ns, l => by
    rw [List.foldl_cons]
    have : (ByteArray.mk l.toArray).push (UInt8.ofNat n.toNat) = ByteArray.mk (l ++ [UInt8.ofNat n.toNat]).toArray := by
      apply ByteArray.ext; simp [ByteArray.push]
    rw [this, fold_push ns]
    simp

/-- A struct that begins with a field of a type. -/
noncomputable def _root_.Go.Xq.firstX (C : Cx) (e u : TypeId) (n : Nat) : Bool := match memN C.sok e with
  | false => false
  | true => match C.tt.get e with
    | none => false
    | some ei => match ei.desc with
      | .struct fs => match fs.toList with
        | f :: _ => match Nat.beq f.offset 0 with
          | false => false
          | true => match Nat.beq f.type u with
            | false => false
            | true => match Nat.beq ei.info.size 0 with
              | true => false
              | false => Nat.ble ei.info.size n
        | [] => false
      | _ => false

omit hC in
theorem lies_first {e u : TypeId} {fs : Array Field} {f : Field} {r : List Field} (hd : P.underlying e = some (.struct fs)) (hf : fs.toList = f :: r) (ho : f.offset = 0) (ht : f.type = u) (hu : P.cellsOf u ≠ 0) (hs : P.cellsOf e ≠ 0)
    (hst : P.stoodInHeld e = false) {count : Nat} (hn : 1 ≤ count) : liesAt P P.depth e count 0 u 1 = true := by
  have hdp : P.depth = (2 * (P.types.size + Made.depth)) + 1 + 1 := rfl
  have hin : ∀ D, rowAt P (fun x => sameLayout P P.depth x u) (D + 1) u 1 0 1 = true := by
    intro D
    simp [rowAt, hu, hdp, sameLayout]
  have hfs : fs = (f :: r).toArray := by rw [← hf]
  rw [hdp]
  simp only [liesAt, Bool.or_eq_true]
  left
  generalize (fun x => sameLayout P P.depth x u) = fits at hin ⊢
  rw [hdp]
  unfold rowAt
  simp only [hs, if_false, Nat.zero_div, Nat.zero_mod, Bool.or_eq_true]
  right
  simp only [hd, hst, Bool.not_false, Bool.true_and, Bool.and_eq_true, decide_eq_true_eq]
  refine ⟨hn, ?_⟩
  rw [hfs]
  simp only [List.any_toArray, List.any_cons, Bool.or_eq_true]
  left
  simp only [ho, ht, Nat.le_refl, decide_true, Nat.zero_add, Nat.sub_zero, Bool.true_and, Bool.and_eq_true, decide_eq_true_eq]
  refine ⟨Nat.pos_of_ne_zero hu, ?_⟩
  exact hin _

noncomputable def _root_.Go.Xq.xConv (C : Cx) (h : Tr AO) (src dst : TypeId) (x : SV) : Option SV :=
  match C.tt.get src, C.tt.get dst with
  | some i, some j => match j.desc with
    | .int k => match x with
      | .int _ (.lit n) => some (forceI (wrapF k n) fun n => .int k (.lit n))
      | .int _ e => some (.int k (.conv k e))
      | _ => none
    | .string => match x with
      | .str s => some (.str s)
      | .int _ (.lit (.ofNat m)) => match i.desc with
        | .int _ => match Nat.blt m 128 with
          | true => some (.str [UInt8.ofNat m])
          | false => none
        | _ => none
      | .slice id off len _ => match i.desc with
        | .slice e => match C.tt.get e with
          | some ei => match ei.desc with
            | .int .u8 => match rowS h id with
              | some cs => match Nat.beq ((cs.drop off).take len).length len with
                | true => match toB ((cs.drop off).take len) with
                  | some l => some (.str l)
                  | none => none
                | false => none
              | none => none
            | _ => none
          | none => none
        | _ => none
      | _ => none
    | .unsafePointer => match i.desc with
      | .pointer t => match x with
        | .nilptr => some .nilptr
        | .ptr id off => match C.tt.get t with
          | some ti => match Nat.beq ti.info.size 0 with
            | true => none
            | false => match h.get id with
              | some (.cells cs _ _ _) => match Nat.blt off cs.length with
                | true => some (.ptr id off)
                | false => none
              | _ => none
          | none => none
        | _ => none
      | _ => none
    | .pointer u => match i.desc with
      | .unsafePointer => match x with
        | .nilptr => some .nilptr
        | .ptr id off => match C.tt.get u with
          | some ui => match Nat.beq ui.info.size 0 with
            | true => none
            | false => match h.get id with
              | some (.cells cs e _ _) => match (match Nat.beq off 0 with | false => false | true => match Nat.beq e u with | false => firstX C e u cs.length | true => Nat.ble ui.info.size cs.length) with
                | true => some (.ptr id off)
                | false => none
              | _ => none
          | none => none
        | _ => none
      | _ => none
    | _ => none
  | _, _ => none

omit hC in
theorem lies_self {e : TypeId} (hs : P.cellsOf e ≠ 0) {count : Nat} (hn : 1 ≤ count) : liesAt P P.depth e count 0 e 1 = true := by
  have hd : P.depth = (2 * (P.types.size + Made.depth) + 1) + 1 := rfl
  rw [hd]
  simp only [liesAt, Bool.or_eq_true]
  left
  rw [hd]
  simp [rowAt, hs, hn, sameLayout]

theorem xConv_ok {E : Env} {h : Tr AO} {n : Nat} {w : World} (s : SH C E h n w.heap) {src dst : TypeId} {x v : SV} {xv : Value} (hx : xConv C h src dst x = some v) (hxv : x.den E = some xv) : ∃ u, (convert src dst xv).run P w = .ok u w ∧ v.den E = some u := by
  unfold xConv at hx
  split at hx
  case h_2 => cases hx
  rename_i i j hi hj
  obtain ⟨hd, _⟩ := hC.ty _ i hi
  obtain ⟨hd2, _⟩ := hC.ty _ j hj
  split at hx
  · rename_i k he
    rw [he] at hd2
    split at hx
    · cases hx; cases hxv
      refine ⟨.int k (k.wrap _), ?_, by rw [forceI_eq, wrapF_eq]; rfl⟩
      simp only [convert, Sem.run_bind, run_underlying hd, run_underlying hd2, Result.andThen_ok, Conv.intToInt, Sem.run_pure]; rfl
    · cases hx; cases hxv
      refine ⟨.int k (k.wrap _), ?_, rfl⟩
      simp only [convert, Sem.run_bind, run_underlying hd, run_underlying hd2, Result.andThen_ok, Conv.intToInt, Sem.run_pure]
    · cases hx
  · rename_i he
    rw [he] at hd2
    split at hx
    · cases hx; cases hxv
      refine ⟨_, ?_, rfl⟩
      simp only [convert, Sem.run_bind, run_underlying hd, run_underlying hd2, Result.andThen_ok, Sem.run_pure]
    · rename_i kk m
      split at hx
      case h_2 => cases hx
      rename_i k' hie
      rw [hie] at hd
      split at hx
      case h_2 => cases hx
      rename_i hlt
      have hm : m < 128 := by simpa [Nat.blt_eq] using hlt
      cases hx; cases hxv
      refine ⟨.string (Utf8.encode (Int.ofNat m)), ?_, ?_⟩
      · simp only [convert, Sem.run_bind, run_underlying hd, run_underlying hd2, Result.andThen_ok, Conv.intToString, SI.den, Sem.run_pure]
      · have hv : Utf8.valid (Int.ofNat m) = true := by simp [Utf8.valid]; omega
        have : Utf8.encode (Int.ofNat m) = ⟨#[UInt8.ofNat m]⟩ := by
          unfold Utf8.encode
          simp only [hv, if_true]
          rw [if_pos (by show m < 0x80; exact hm)]
          rfl
        rw [this]; rfl
    · rename_i id off len cap
      split at hx
      case h_2 => cases hx
      rename_i e hie
      rw [hie] at hd
      split at hx
      case h_2 => cases hx
      rename_i ei hei
      obtain ⟨hde, _⟩ := hC.ty _ ei hei
      split at hx
      case h_2 => cases hx
      rename_i hu8
      rw [hu8] at hde
      split at hx
      case h_2 => cases hx
      rename_i cs hcs
      split at hx
      case h_2 => cases hx
      rename_i hl
      split at hx
      case h_2 => cases hx
      rename_i l htb
      cases hx
      obtain ⟨p, hp, _, hpt⟩ := rowS_ok s hcs
      simp only [SV.den, hp, Option.map_some, Option.some.injEq] at hxv
      subst hxv
      obtain ⟨xs, h1, h2⟩ := hpt off len
      obtain ⟨ns, e1, e2⟩ := toB_ok htb h1
      have hlen : xs.length = len := by rw [denL_length h1]; exact Nat.eq_of_beq_eq_true hl
      have hload := run_loadCells_list (P := P) w ⟨p.1, off, none⟩ xs h2
      rw [hlen, e1] at hload
      refine ⟨.string ⟨l.toArray⟩, ?_, rfl⟩
      rw [run_convert_bytes_string w src dst e _ _ _ hd hde hd2, run_bytesToString w _ len _ ns (by rw [hload])]
      have := fold_push ns []
      rw [show ByteArray.empty = ByteArray.mk ([] : List UInt8).toArray from rfl, this, e2]
      simp
    · cases hx
  · rename_i he
    rw [he] at hd2
    split at hx
    case h_2 => cases hx
    rename_i t hie
    rw [hie] at hd
    split at hx
    · cases hx; cases hxv
      refine ⟨.pointer none, ?_, rfl⟩
      simp only [convert, Sem.run_bind, run_underlying hd, run_underlying hd2, Result.andThen_ok, Conv.unsafePointer, Sem.run_pure]
    · rename_i id off
      split at hx
      case h_2 => cases hx
      rename_i ti hti
      split at hx
      · cases hx
      rename_i hz
      have hz' : ti.info.size ≠ 0 := Nat.ne_of_beq_eq_false hz
      split at hx
      case h_2 => cases hx
      rename_i cs e sl mk hg
      split at hx
      case h_2 => cases hx
      rename_i hlt
      have hlt' : off < cs.length := by simpa [Nat.blt_eq] using hlt
      cases hx
      obtain ⟨p, hp, vs, rest, fz, h1, h2, _⟩ := s.obj hg
      have hl := denL_length h1
      simp only [SV.den, hp, Option.map_some, Option.some.injEq] at hxv
      subst hxv
      exact ⟨_, Lib.run_to_unsafe w ⟨p.1, off, none⟩ hd hd2 (hC.ty _ ti hti).2 hz' (shape_of_cells h2) (by simp; omega), by simp [SV.den, hp]⟩
    · cases hx
  · rename_i u he
    rw [he] at hd2
    split at hx
    case h_2 => cases hx
    rename_i hie
    rw [hie] at hd
    split at hx
    · cases hx; cases hxv
      refine ⟨.pointer none, ?_, rfl⟩
      simp only [convert, Sem.run_bind, run_underlying hd, run_underlying hd2, Result.andThen_ok, Conv.unsafePointer, Sem.run_pure]
    · rename_i id off
      split at hx
      case h_2 => cases hx
      rename_i ui hui
      split at hx
      · cases hx
      rename_i hz
      have hz' : ui.info.size ≠ 0 := Nat.ne_of_beq_eq_false hz
      split at hx
      case h_2 => cases hx
      rename_i cs e sl mk hg
      split at hx
      case h_2 => cases hx
      rename_i hq
      have hqq : off = 0 ∧ ((e = u ∧ ui.info.size ≤ cs.length) ∨ firstX C e u cs.length = true) := by
        split at hq
        · cases hq
        · rename_i q1
          refine ⟨Nat.eq_of_beq_eq_true q1, ?_⟩
          split at hq
          · exact Or.inr hq
          · rename_i q2
            exact Or.inl ⟨Nat.eq_of_beq_eq_true q2, Nat.le_of_ble_eq_true hq⟩
      obtain ⟨rfl, hor⟩ := hqq
      cases hx
      obtain ⟨p, hp, vs, rest, fz, h1, h2, _⟩ := s.obj hg
      have hl := denL_length h1
      simp only [SV.den, hp, Option.map_some, Option.some.injEq] at hxv
      subst hxv
      have hin := (hC.ty _ ui hui).2
      rcases hor with ⟨rfl, hle⟩ | hfst
      · have hc : P.cellsOf e = ui.info.size := by simp [Program.cellsOf, hin]
        exact ⟨_, Lib.run_from_unsafe w ⟨p.1, 0, none⟩ hd hd2 hin (shape_of_cells h2) (lies_self (by rw [hc]; exact hz') (by
          rw [hc]
          have : ui.info.size ≤ (vs ++ rest).toArray.size := by simp; omega
          exact (Nat.one_le_div_iff (by omega)).2 this)), by simp [SV.den, hp]⟩
      · unfold firstX at hfst
        split at hfst
        · cases hfst
        rename_i hsok
        split at hfst
        · cases hfst
        rename_i ei hei
        obtain ⟨hde, hine⟩ := hC.ty _ ei hei
        split at hfst
        case h_2 => cases hfst
        rename_i fs hfs
        rw [hfs] at hde
        split at hfst
        case h_2 => cases hfst
        rename_i f r hfl
        split at hfst
        · cases hfst
        rename_i hof
        split at hfst
        · cases hfst
        rename_i hft
        split at hfst
        · cases hfst
        rename_i hez
        have hle := Nat.le_of_ble_eq_true hfst
        have hez' : ei.info.size ≠ 0 := Nat.ne_of_beq_eq_false hez
        have hce : P.cellsOf e = ei.info.size := by simp [Program.cellsOf, hine]
        have hcu : P.cellsOf u = ui.info.size := by simp [Program.cellsOf, hin]
        exact ⟨_, Lib.run_from_unsafe w ⟨p.1, 0, none⟩ hd hd2 hin (shape_of_cells h2) (lies_first hde hfl (Nat.eq_of_beq_eq_true hof) (Nat.eq_of_beq_eq_true hft) (by rw [hcu]; exact hz') (by rw [hce]; exact hez') (hC.sok e hsok).1 (by
          rw [hce]
          have : ei.info.size ≤ (vs ++ rest).toArray.size := by simp; omega
          exact (Nat.one_le_div_iff (by omega)).2 this)), by simp [SV.den, hp]⟩
    · cases hx
  · cases hx

/-! ### The least, the greatest of two numbers -/
noncomputable def _root_.Go.Xq.xMin (F : List Fact) (mx : Bool) (a b : SV) : Option SV :=
  match a, b with
  | .int k x, .int _ y => match cmpSI F (match mx with | true => .gtr | false => .lss) y x with
    | some true => some (.int k y)
    | some false => some (.int k x)
    | none => none
  | _, _ => none

omit hC in
theorem xMin_ok {E : Env} {F : List Fact} (hF : FactsOk F E.ints) {w : World} {ats : Array TypeId} {ty : TypeId} {a b v : SV} {av bv : Value} (hx : xMin F false a b = some v) (ha : a.den E = some av) (hb : b.den E = some bv) :
    ∃ u, (Builtin.min_ ats ty #[av, bv]).run P w = .ok u w ∧ v.den E = some u := by
  unfold xMin at hx
  split at hx
  case h_2 => cases hx
  rename_i k x k' y
  cases ha; cases hb
  split at hx
  · rename_i hc
    cases hx
    have := cmpSI_ok hF hc
    simp only [icmp, decide_eq_true_eq] at this
    exact ⟨_, by simp [Builtin.min_, Builtin.min2, this], rfl⟩
  · rename_i hc
    cases hx
    have := cmpSI_ok hF hc
    simp only [icmp, decide_eq_false_iff_not] at this
    exact ⟨_, by simp only [Builtin.min_, List.foldlM_cons, List.foldlM_nil, Builtin.min2, this, if_false, Sem.run_bind, Sem.run_pure, Result.andThen_ok], rfl⟩
  · cases hx

omit hC in
theorem xMax_ok {E : Env} {F : List Fact} (hF : FactsOk F E.ints) {w : World} {ats : Array TypeId} {ty : TypeId} {a b v : SV} {av bv : Value} (hx : xMin F true a b = some v) (ha : a.den E = some av) (hb : b.den E = some bv) :
    ∃ u, (Builtin.max_ ats ty #[av, bv]).run P w = .ok u w ∧ v.den E = some u := by
  unfold xMin at hx
  split at hx
  case h_2 => cases hx
  rename_i k x k' y
  cases ha; cases hb
  split at hx
  · rename_i hc
    cases hx
    have := cmpSI_ok hF hc
    simp only [icmp, decide_eq_true_eq] at this
    exact ⟨_, by simp [Builtin.max_, Builtin.max2, this], rfl⟩
  · rename_i hc
    cases hx
    have := cmpSI_ok hF hc
    simp only [icmp, decide_eq_false_iff_not] at this
    exact ⟨_, by simp only [Builtin.max_, List.foldlM_cons, List.foldlM_nil, Builtin.max2, this, if_false, Sem.run_bind, Sem.run_pure, Result.andThen_ok], rfl⟩
  · cases hx

/-! ### Functions of Go's library that the model runs -/
noncomputable def _root_.Go.Xq.cntB : List UInt8 → Nat → Nat
  | [], _ => 0
  | b :: r, n => match Nat.beq b.toNat n with
    | true => Nat.succ (cntB r n)
    | false => cntB r n

noncomputable def _root_.Go.Xq.idxB : List UInt8 → Nat → Nat → Int
  | [], _, _ => .negSucc 0
  | b :: r, n, i => match Nat.beq b.toNat n with
    | true => .ofNat i
    | false => idxB r n (Nat.succ i)

omit hC in
theorem byte_beq (b : UInt8) {n : Nat} (hn : n < 256) : (b == n.toUInt8) = Nat.beq b.toNat n := by
  rw [nbeq]
  have : n.toUInt8.toNat = n := UInt8.toNat_ofNat_of_lt' hn
  by_cases h : b.toNat = n
  · have hb : b = n.toUInt8 := UInt8.toNat_inj.1 (by omega)
    rw [hb]; simp [this]
  · have hne : ¬ b = n.toUInt8 := fun e => h (by rw [e]; exact this)
    simp [h, hne]

omit hC in
theorem cntB_eq {n : Nat} (hn : n < 256) : ∀ l, cntB l n = Lib.countByte l n.toUInt8
  | [] => rfl
  | b :: r => by
    simp only [cntB, Lib.countByte, List.count_cons, byte_beq b hn]
    have ih := cntB_eq hn r
    unfold Lib.countByte at ih
    cases Nat.beq b.toNat n <;> simp [ih]

omit hC in
theorem idxB_eq {n : Nat} (hn : n < 256) : ∀ l i, idxB l n i = if Lib.indexByte l n.toUInt8 = -1 then -1 else Lib.indexByte l n.toUInt8 + i
  | [], i => rfl
  | b :: r, i => by
    have hge := Lib.indexByte_ge r n.toUInt8
    simp only [idxB, Lib.indexByte, byte_beq b hn, idxB_eq hn r (Nat.succ i)]
    cases Nat.beq b.toNat n
    · simp only [Bool.false_eq_true, if_false, beq_iff_eq]
      by_cases h : Lib.indexByte r n.toUInt8 = -1
      · simp [h]
      · rw [if_neg h, if_neg h, if_neg (by omega)]; simp only [Nat.succ_eq_add_one]; omega
    · simp

noncomputable def _root_.Go.Xq.xExt (k : Nat) (args : List SV) : Option SV :=
  match args with
  | [v] => match k with
    | 2 => some v
    | _ => none
  | [.str s, .int .u8 (.lit (.ofNat n))] => match Nat.blt n 256 with
    | false => none
    | true => match k with
      | 0 => some (.int .i64 (.lit (.ofNat (cntB s n))))
      | 1 => some (.int .i64 (.lit (idxB s n 0)))
      | _ => none
  | _ => none

omit hC in
theorem xExt_ok {E : Env} {w : World} {f k : Nat} (hk : ExtOk P f k) {args : List SV} {xs : List Value} {v : SV} (hx : xExt k args = some v) (ha : denL E args = some xs) : ∃ u, (callFunc f xs.toArray).run P w = .ok (.value u) w ∧ v.den E = some u := by
  unfold xExt at hx
  split at hx
  · split at hx
    · cases hx
      obtain ⟨x, ys, h1, h2, rfl⟩ := denL_cons ha
      rw [denL_nil h2]
      exact ⟨x, hk x w, h1⟩
    · cases hx
  case h_3 => cases hx
  rename_i s n
  have hxs : xs = [.string ⟨s.toArray⟩, .int .u8 (Int.ofNat n)] := by simpa [denL, SV.den, SI.den, eq_comm] using ha
  subst hxs
  split at hx
  · cases hx
  rename_i hb
  have hn : n < 256 := by simpa [Nat.blt_eq] using hb
  split at hx
  · cases hx
    refine ⟨_, hk ⟨s.toArray⟩ (Int.ofNat n) w, ?_⟩
    simp [SV.den, SI.den, cntB_eq hn]
  · cases hx
    refine ⟨_, hk ⟨s.toArray⟩ (Int.ofNat n) w, ?_⟩
    simp only [SV.den, SI.den, idxB_eq hn]
    by_cases h : Lib.indexByte s n.toUInt8 = -1
    · simp [h]
    · simp [h]
  · cases hx

noncomputable def _root_.Go.Xq.xMakeNZ (h : Tr AO) (n k : Nat) (args : List SV) : Option (SV × Tr AO × Nat) :=
  match k with
  | e + 3 => match args with
    | [.int .i64 (.lit (.ofNat m))] => match Nat.ble m 281474976710656 with
      | false => none
      | true => match h.upd 48 n (some (.cells [] e (some 1) false)) with
        | some h' => some (.slice n 0 m (.less 0), h', Nat.succ n)
        | none => none
    | _ => none
  | _ => none

omit hC in
theorem xMakeNZ_ok {E : Env} {h h' : Tr AO} {n n' : Nat} {w : World} (s : SH C E h n w.heap) {f k : Nat} (hk : ExtOk P f k) {args : List SV} {xs : List Value} {v : SV} (hx : xMakeNZ h n k args = some (v, h', n')) (ha : denL E args = some xs) :
    ∃ E' u w', (callFunc f xs.toArray).run P w = .ok (.value u) w' ∧ v.den E' = some u ∧ Post C E h n w E' h' n' w' := by
  unfold xMakeNZ at hx
  split at hx
  case h_2 => cases hx
  rename_i e
  split at hx
  case h_2 => cases hx
  rename_i m
  split at hx
  · cases hx
  rename_i hm
  split at hx
  case h_2 => cases hx
  rename_i h3 hu
  simp only [Option.some.injEq, Prod.mk.injEq] at hx
  obtain ⟨rfl, rfl, rfl⟩ := hx
  have hxs : xs = [.int .i64 (Int.ofNat m)] := by simpa [denL, SV.den, SI.den, eq_comm] using ha
  subst hxs
  obtain ⟨cs, hrun⟩ := hk m w (Nat.le_of_ble_eq_true hm)
  refine ⟨E.set n (w.heap.size, cs.size), _, _, hrun, by simp [SV.den, Env.set_same, Cap.den], ?_⟩
  refine (SH.drew s).trans ((SH.drew (w := w.drew) s).trans ?_)
  refine Post.alloc (C := C) (f := 48) (w := w.drew.drew) (room := cs.size) s hu
    ⟨[], cs.toList, (0, 0), rfl, by show (w.heap.push _)[w.heap.size]? = _; rw [Array.getElem?_push_size]; simp, (fun h => nomatch h), ?_, fun _ => rfl, Or.inl rfl⟩
  intro sz hsz
  cases hsz
  simp
end
end Go.Xq
