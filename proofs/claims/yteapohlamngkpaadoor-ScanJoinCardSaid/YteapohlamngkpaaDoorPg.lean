/-
  Values of a program as plain data: operations that only look: maps, lengths, conversions, interfaces, literals of structs.
-/
import Derived.Test.YteapohlamngkpaaDoorPf
import Derived.Laws.RangeString
import Derived.Laws.BytesString
namespace Go.Pv
open Go.RowKit
set_option linter.unusedVariables false

/-! ### Maps -/
/-- The kind of a key's type. -/
def keyD : TypeDesc → Option KD
  | .int k => some (.int k)
  | .string => some .str
  | .bool => some .bool
  | _ => none

theorem keyD_key {d : TypeDesc} {kd : KD} (h : keyD d = some kd) : isKeyD d = true := by
  cases d <;> simp only [keyD] at h <;> first | rfl | cases h

theorem sameNow_ok {E : Env} {d : TypeDesc} {kd : KD} (hd : keyD d = some kd) {a b : PV} {av bv : Value} (ka : kd.ok a) (kb : kd.ok b) (ha : Rep E a av) (hb : Rep E b bv) :
    (a = b → Instr.sameNow d av bv = some true ∧ Instr.sameBits 10000 bv av = true) ∧ (a ≠ b → Instr.sameNow d av bv = some false) := by
  cases d <;> simp only [keyD] at hd <;> (try (cases hd; done)) <;> simp only [Option.some.injEq] at hd <;> subst hd
  · cases a <;> simp only [KD.ok] at ka
    cases b <;> simp only [KD.ok] at kb
    rename_i x y
    simp only [Rep] at ha hb; subst ha; subst hb
    refine ⟨fun e => ?_, fun e => ?_⟩
    · cases e; constructor
      · cases x <;> rfl
      · cases x <;> rfl
    · cases x <;> cases y <;> first | rfl | exact absurd rfl e
  · cases a <;> simp only [KD.ok] at ka
    cases b <;> simp only [KD.ok] at kb
    subst ka; subst kb
    simp only [Rep] at ha hb; subst ha; subst hb
    refine ⟨fun e => ?_, fun e => ?_⟩
    · cases e; simp [Instr.sameNow, Instr.sameBits]
    · simp only [ne_eq, PV.int.injEq, true_and] at e
      simp [Instr.sameNow, e]
  · cases a <;> simp only [KD.ok] at ka
    cases b <;> simp only [KD.ok] at kb
    simp only [Rep] at ha hb; subst ha; subst hb
    refine ⟨fun e => ?_, fun e => ?_⟩
    · cases e; simp [Instr.sameNow, Instr.sameBits, beq_toListBytes]
    · simp only [ne_eq, PV.str.injEq] at e
      simp [Instr.sameNow, beq_toListBytes, e]

/-- Where a key stands, and what. -/
theorem mfind_ok {E : Env} {d : TypeDesc} {kd : KD} (hd : keyD d = some kd) {k : PV} {kv : Value} (kk : kd.ok k) (hk : Rep E k kv) : ∀ {es : List (PV × PV)} {ents : List MapEntry} (i : Nat), RepE E es ents → (∀ e ∈ es, kd.ok e.1) →
    (mfind k es = none → Instr.findNow d kv ents i = some none) ∧
      (∀ v, mfind k es = some v → ∃ j x e, Rep E v x ∧ Instr.findNow d kv ents i = some (some (j, x)) ∧ i ≤ j ∧ ents[j - i]? = some e ∧ e.val = x ∧ Instr.sameBits 10000 e.key kv = true ∧ es[j - i]? = some (k, v))
  | [], ents, i, he, _ => by
    have he' : ents = [] := he
    subst he'
    exact ⟨fun _ => rfl, fun v h => by simp [mfind] at h⟩
  | (k', v) :: es, ents, i, he, hok => by
    obtain ⟨e, ents', rfl, h1, h2, h3⟩ := he
    have hk' := hok (k', v) (by simp)
    obtain ⟨s1, s2⟩ := sameNow_ok hd kk hk' hk h1
    by_cases hq : k = k'
    · obtain ⟨a, b⟩ := s1 hq
      subst hq
      refine ⟨fun h => by simp [mfind] at h, fun u h => ?_⟩
      simp only [mfind, if_true, Option.some.injEq] at h
      subst h
      exact ⟨i, e.val, e, h2, by simp [Instr.findNow, a], Nat.le_refl _, by simp, rfl, b, by simp⟩
    · have a := s2 hq
      obtain ⟨p, q⟩ := mfind_ok hd kk hk (i + 1) h3 (fun x hx => hok x (List.mem_cons_of_mem _ hx))
      refine ⟨fun h => ?_, fun u h => ?_⟩
      · simp only [mfind, hq, if_false] at h
        simp [Instr.findNow, a, p h]
      · simp only [mfind, hq, if_false] at h
        obtain ⟨j, x, e', w1, w2, w3, w4, w5, w6, w7⟩ := q u h
        refine ⟨j, x, e', w1, by simp [Instr.findNow, a, w2], by omega, ?_, w5, w6, ?_⟩
        · rw [show j - i = (j - (i + 1)) + 1 by omega, List.getElem?_cons_succ]; exact w4
        · rw [show j - i = (j - (i + 1)) + 1 by omega, List.getElem?_cons_succ]; exact w7

section
variable {C : Cx} (hC : C.Ok)
include hC

/-- A map type: its keys' kind and type, its elements' type. -/
def _root_.Go.Pv.mapT (C : Cx) (ty : TypeId) : Option (KD × TypeId × TypeId) := match C.tt ty with
  | none => none
  | some i => match i.desc with
    | .map kt et => match C.tt kt with
      | none => none
      | some ki => match keyD ki.desc with
        | some kd => some (kd, kt, et)
        | none => none
    | _ => none

theorem mapT_ok {ty kt et : TypeId} {kd : KD} (h : mapT C ty = some (kd, kt, et)) : C.P.underlying ty = some (.map kt et) ∧ ∃ d, C.P.underlying kt = some d ∧ keyD d = some kd := by
  unfold mapT at h
  split at h
  · cases h
  rename_i i hi
  split at h
  case h_2 => cases h
  rename_i kt' et' he
  split at h
  · cases h
  rename_i ki hki
  split at h
  case h_2 => cases h
  rename_i kd' hkd
  cases h
  obtain ⟨hd, _⟩ := hC.ty _ i hi
  obtain ⟨hk, _⟩ := hC.ty _ ki hki
  rw [he] at hd
  exact ⟨hd, _, hk, hkd⟩

/-- A type's zero value. -/
def _root_.Go.Pv.zeroT (C : Cx) (ty : TypeId) : Option PV := match C.tt ty with
  | none => none
  | some i => match i.info.zero with
    | none => none
    | some z => ofV z

theorem zeroT_ok {ty : TypeId} {z : PV} (h : zeroT C ty = some z) (E : Env) : ∃ x i, C.P.info? ty = some i ∧ i.zero = some x ∧ Rep E z x := by
  unfold zeroT at h
  split at h
  · cases h
  rename_i i hi
  split at h
  · cases h
  rename_i x hx
  obtain ⟨_, hin⟩ := hC.ty _ i hi
  exact ⟨x, i.info, hin, hx, ofV_rep E x z h⟩

theorem evalLk_ok {E : Env} {s : Hs} {w : World} (h : SH C E s w.heap) {ty kt et : TypeId} {kd : KD} {z0 z x ix v : PV} {ok : Bool} {ob : Prop} {xv iv : Value} (hm : mapT C ty = some (kd, kt, et)) (hz : zeroT C et = some z0) (hwk : wkPV z0 z = true)
    (hx : evalLk kd z ok s.H x ix = some (ob, v)) (ho : ob) (hxv : Rep E x xv) (hiv : Rep E ix iv) : ∃ u, (Instr.lookup ty xv iv ok).run C.P w = .ok u w ∧ Rep E v u := by
  obtain ⟨hd, d, hkd, hkey⟩ := mapT_ok hC hm
  obtain ⟨zv, zi, hzi, hzz, hzr⟩ := zeroT_ok hC hz E
  replace hzr := wkPV_ok hwk hzr
  have hck := fun e => run_checkKey (P := C.P) (w := w) e iv hkd (keyD_key hkey)
  cases x with
  | nilm =>
    simp only [evalLk, Option.some.injEq, Prod.mk.injEq] at hx
    obtain ⟨rfl, rfl⟩ := hx
    simp only [Rep] at hxv
    subst hxv
    have hfk := run_findKey (P := C.P) (w := w) (kv := iv) (ents := []) (r := none) hkd rfl
    refine ⟨if ok then .tuple #[zv, .bool false] else zv, ?_, ?_⟩
    · have hfk' : (Instr.findKey kt iv (#[] : Array MapEntry).toList).run C.P w = .ok none w := hfk
      simp only [Instr.lookup, Sem.run_bind, run_underlying hd, Result.andThen_ok, hck, hfk', Sem.run_pure, run_zeroValue' w hzi hzz]
    · cases ok
      · exact hzr
      · simp only [Rep]; exact ⟨_, rfl, RepL.mk hzr (RepL.mk (by simp [Rep]) RepL.mk0)⟩
  | map id =>
    simp only [evalLk] at hx
    split at hx
    case h_2 => cases hx
    rename_i kd' es hg
    simp only [Option.some.injEq, Prod.mk.injEq] at hx
    obtain ⟨rfl, rfl⟩ := hx
    obtain ⟨rfl, hok⟩ := ho
    obtain ⟨b, hb, ⟨⟨ents, clock, h1, h2⟩, h3⟩, _⟩ := h.obj hg
    simp only [Rep] at hxv
    obtain ⟨b', hb', rfl⟩ := hxv
    rw [hb] at hb'; cases hb'
    have hrun : (getObj b).run C.P w = .ok (.map ents clock) w := by simp [getObj, Sem.run, h1]
    obtain ⟨q1, q2⟩ := mfind_ok hkey hok hiv 0 h2 h3
    cases hf : mfind ix es with
    | none =>
      have hfk := run_findKey (P := C.P) (w := w) hkd (q1 hf)
      refine ⟨if ok then .tuple #[zv, .bool false] else zv, ?_, ?_⟩
      · simp only [Instr.lookup, Sem.run_bind, run_underlying hd, Result.andThen_ok, hrun, hck, hfk, Sem.run_pure, run_zeroValue' w hzi hzz]
      · cases ok
        · simpa using hzr
        · simp only [Option.getD_none, Option.isSome_none, Rep]; exact ⟨_, rfl, RepL.mk hzr (RepL.mk (by simp [Rep]) RepL.mk0)⟩
    | some u =>
      obtain ⟨j, y, e, r1, r2, _⟩ := q2 u hf
      have hfk := run_findKey (P := C.P) (w := w) hkd r2
      refine ⟨if ok then .tuple #[y, .bool true] else y, ?_, ?_⟩
      · simp only [Instr.lookup, Sem.run_bind, run_underlying hd, Result.andThen_ok, hrun, hck, hfk, Sem.run_pure]
      · cases ok
        · simpa using r1
        · simp only [Option.getD_some, Option.isSome_some, Rep]; exact ⟨_, rfl, RepL.mk r1 (RepL.mk (by simp [Rep]) RepL.mk0)⟩
  | _ => simp [evalLk] at hx

/-! ### Lengths -/
def _root_.Go.Pv.lenKind : TypeDesc → Nat
  | .string => 1
  | .slice _ => 2
  | .map _ _ => 3
  | _ => 0

theorem evalLen_ok {E : Env} {s : Hs} {w : World} (h : SH C E s w.heap) {ty rt : TypeId} {i : TI} {ats : Array TypeId} {x v : PV} {ob : Prop} {xv : Value} {k : Nat} (hi : C.tt ty = some i) (hk : lenKind i.desc = k) (hx : evalLen s.H k x = some (ob, v)) (hxv : Rep E x xv) (hat : ats[0]? = some ty) :
    ∃ u, (Builtin.len_ ats rt #[xv]).run C.P w = .ok u w ∧ Rep E v u := by
  obtain ⟨hd, hin⟩ := hC.ty ty i hi
  have k1 : ∀ {d}, lenKind d = 1 → d = .string := by intro d h; cases d <;> simp [lenKind] at h; rfl
  have k2 : ∀ {d}, lenKind d = 2 → ∃ e, d = .slice e := by intro d h; cases d <;> simp [lenKind] at h; exact ⟨_, rfl⟩
  have k3 : ∀ {d}, lenKind d = 3 → ∃ e f, d = .map e f := by intro d h; cases d <;> simp [lenKind] at h; exact ⟨_, _, rfl⟩
  unfold evalLen at hx
  split at hx <;> (first | (cases hx; done) | skip)
  · simp only [Option.some.injEq, Prod.mk.injEq] at hx; obtain ⟨_, rfl⟩ := hx
    rw [k1 hk] at hd
    simp only [Rep] at hxv; subst hxv
    exact ⟨_, by simp only [Builtin.len_, hat, List.getElem?_toArray, List.getElem?_cons_zero, Sem.run_bind, run_underlying hd, Result.andThen_ok, Sem.run_pure]; rfl, by simp [Rep, goInt, size_mk]⟩
  · simp only [Option.some.injEq, Prod.mk.injEq] at hx; obtain ⟨_, rfl⟩ := hx
    obtain ⟨e, he⟩ := k2 hk
    rw [he] at hd
    simp only [Rep] at hxv; subst hxv
    exact ⟨_, by simp only [Builtin.len_, hat, List.getElem?_toArray, List.getElem?_cons_zero, Sem.run_bind, run_underlying hd, Result.andThen_ok, Sem.run_pure]; rfl, by simp [Rep, goInt]⟩
  · simp only [Option.some.injEq, Prod.mk.injEq] at hx; obtain ⟨_, rfl⟩ := hx
    obtain ⟨e, he⟩ := k2 hk
    rw [he] at hd
    simp only [Rep] at hxv; obtain ⟨⟨base, cap, rfl, _⟩, _⟩ := hxv
    exact ⟨_, by simp only [Builtin.len_, hat, List.getElem?_toArray, List.getElem?_cons_zero, Sem.run_bind, run_underlying hd, Result.andThen_ok, Sem.run_pure]; rfl, by simp [Rep, goInt]⟩
  · simp only [Option.some.injEq, Prod.mk.injEq] at hx; obtain ⟨_, rfl⟩ := hx
    obtain ⟨e, he⟩ := k2 hk
    rw [he] at hd
    simp only [Rep] at hxv; obtain ⟨b, cap, _, rfl, _⟩ := hxv
    exact ⟨_, by simp only [Builtin.len_, hat, List.getElem?_toArray, List.getElem?_cons_zero, Sem.run_bind, run_underlying hd, Result.andThen_ok, Sem.run_pure]; rfl, by simp [Rep, goInt]⟩
  · simp only [Option.some.injEq, Prod.mk.injEq] at hx; obtain ⟨_, rfl⟩ := hx
    obtain ⟨e, f, he⟩ := k3 hk
    rw [he] at hd
    simp only [Rep] at hxv; subst hxv
    exact ⟨_, by simp only [Builtin.len_, hat, List.getElem?_toArray, List.getElem?_cons_zero, Sem.run_bind, run_underlying hd, Result.andThen_ok, Sem.run_pure]; rfl, by simp [Rep, goInt]⟩
  · rename_i id
    split at hx
    case h_2 => cases hx
    rename_i kd es hg
    simp only [Option.some.injEq, Prod.mk.injEq] at hx; obtain ⟨_, rfl⟩ := hx
    obtain ⟨e, f, he⟩ := k3 hk
    rw [he] at hd
    obtain ⟨b, hb, ⟨⟨ents, clock, h1, h2⟩, h3⟩, _⟩ := h.obj hg
    simp only [Rep] at hxv; obtain ⟨b', hb', rfl⟩ := hxv
    rw [hb] at hb'; cases hb'
    have hgo : (getObj b).run C.P w = .ok (.map ents clock) w := by simp [getObj, Sem.run, h1]
    refine ⟨goInt ents.size, by simp [Builtin.len_, hat, run_underlying hd, hgo], ?_⟩
    have := h2.length
    simp only [Rep, goInt, ← this, Array.length_toList]

/-! ### Conversions -/
theorem cint_ok {E : Env} {w : World} {src dst : TypeId} {i j : TI} {k k0 k1 : IntKind} {n : Int} (hi : C.tt src = some i) (hj : C.tt dst = some j) (hs : i.desc = .int k0) (hd : j.desc = .int k) :
    (convert src dst (.int k1 n)).run C.P w = .ok (.int k (k.wrap n)) w := by
  obtain ⟨h1, _⟩ := hC.ty _ i hi
  obtain ⟨h2, _⟩ := hC.ty _ j hj
  rw [hs] at h1
  rw [hd] at h2
  simp only [convert, Sem.run_bind, run_underlying h1, run_underlying h2, Result.andThen_ok, Conv.intToInt, Sem.run_pure]

theorem cstr_ok {E : Env} {w : World} {src dst : TypeId} {i j : TI} {s : ByteArray} (hi : C.tt src = some i) (hj : C.tt dst = some j) (hs : i.desc = .string) (hd : j.desc = .string) :
    (convert src dst (.string s)).run C.P w = .ok (.string s) w := by
  obtain ⟨h1, _⟩ := hC.ty _ i hi
  obtain ⟨h2, _⟩ := hC.ty _ j hj
  rw [hs] at h1
  rw [hd] at h2
  simp only [convert, Sem.run_bind, run_underlying h1, run_underlying h2, Result.andThen_ok, Sem.run_pure]

theorem crune_ok {E : Env} {w : World} {src dst : TypeId} {i j : TI} {k0 k1 : IntKind} {n : Int} (hi : C.tt src = some i) (hj : C.tt dst = some j) (hs : i.desc = .int k0) (hd : j.desc = .string) :
    ∃ u, (convert src dst (.int k1 n)).run C.P w = .ok u w ∧ Rep E (.str (runeStr n)) u := by
  obtain ⟨h1, _⟩ := hC.ty _ i hi
  obtain ⟨h2, _⟩ := hC.ty _ j hj
  rw [hs] at h1
  rw [hd] at h2
  refine ⟨.string (Utf8.encode n), ?_, by simp [Rep, runeStr]⟩
  simp only [convert, Sem.run_bind, run_underlying h1, run_underlying h2, Result.andThen_ok, Conv.intToString, Sem.run_pure]

omit hC in
theorem bytesOf_ok {E : Env} : ∀ {es : List (List PV)} {l : List UInt8} {xs : List Value}, bytesOf es = some l → RepL E es.flatten xs → ∃ ns : List Int, xs = ns.map (Value.int .u8) ∧ l = ns.map (fun n => UInt8.ofNat n.toNat) ∧ ns.length = es.length
  | [], l, xs, h, hx => by
    simp only [bytesOf, Option.some.injEq] at h; subst h
    rw [show xs = [] from hx.nil]; exact ⟨[], rfl, rfl, rfl⟩
  | e :: es, l, xs, h, hx => by
    unfold bytesOf at h
    split at h
    · rename_i heq; cases heq
    · rename_i n r heq
      cases heq
      split at h
      case h_2 => cases h
      rename_i l' hl
      simp only [Option.some.injEq] at h; subst h
      obtain ⟨x, ys, rfl, h1, h2⟩ := RepL.cons (by simpa using hx)
      obtain ⟨ns, e2, e3, e4⟩ := bytesOf_ok hl h2
      simp only [Rep] at h1; subst h1
      exact ⟨n :: ns, by simp [e2], by simp [e3], by simp [e4]⟩
    · cases h

omit hC in
theorem fold_push : ∀ (ns : List Int) (l : List UInt8), ns.foldl (fun r n => r.push (UInt8.ofNat n.toNat)) (ByteArray.mk l.toArray) = ByteArray.mk (l ++ ns.map fun n => UInt8.ofNat n.toNat).toArray
  | [], l => by simp
  | n :: ns, l => by
    rw [List.foldl_cons]
    have : (ByteArray.mk l.toArray).push (UInt8.ofNat n.toNat) = ByteArray.mk (l ++ [UInt8.ofNat n.toNat]).toArray := by
      apply ByteArray.ext; simp [ByteArray.push]
    rw [this, fold_push ns]
    simp

/-- Bytes as a string. -/
theorem cbytes_ok {E : Env} {s : Hs} {w : World} (h : SH C E s w.heap) {src dst e : TypeId} {i j k : TI} {sz : Nat} {es : List (List PV)} {p : Option Nat} {l : List UInt8} {xv : Value} (hi : C.tt src = some i) (hj : C.tt dst = some j) (hk : C.tt e = some k)
    (hs : i.desc = .slice e) (hd : j.desc = .string) (he : k.desc = .int .u8) (hb : bytesOf es = some l) (hx : Rep E (.lst sz es p) xv) :
    ∃ u, (convert src dst xv).run C.P w = .ok u w ∧ Rep E (.str l) u := by
  obtain ⟨h1, _⟩ := hC.ty _ i hi
  obtain ⟨h2, _⟩ := hC.ty _ j hj
  obtain ⟨h3, _⟩ := hC.ty _ k hk
  rw [hs] at h1
  rw [hd] at h2
  rw [he] at h3
  simp only [Rep] at hx
  obtain ⟨⟨base, cap, rfl, hcap, hr, _⟩, hev⟩ := hx
  rw [run_convert_bytes_string w src dst e _ _ _ h1 h3 h2]
  have hemp : ByteArray.empty = ByteArray.mk ([] : List UInt8).toArray := rfl
  rcases hr with rfl | ⟨b, o, rfl, hr⟩
  · simp only [bytesOf, Option.some.injEq] at hb; subst hb
    refine ⟨.string ⟨#[]⟩, ?_, by simp [Rep]⟩
    cases base with
    | none => rfl
    | some a =>
      have h0 := run_loadCells_list (P := C.P) w a [] (fun j x hj => by simp at hj)
      exact run_bytesToString (P := C.P) w a 0 cap [] h0
  · rw [RepFs.flat] at hr
    obtain ⟨xs, k1, k2⟩ := hr.vals
    obtain ⟨ns, e1, e2, e3⟩ := bytesOf_ok hb k1
    have hload := run_loadCells_list (P := C.P) w ⟨b, o, none⟩ xs (fun j x hj => by
      have hadd : (⟨b, o, none⟩ : Addr).add j = ⟨b, o + j, none⟩ := by unfold Addr.add; split <;> simp_all
      rw [hadd]; exact fz_cell h (k2 j x hj))
    have hl : xs.length = es.length := by rw [e1, List.length_map, e3]
    rw [hl, e1] at hload
    refine ⟨.string ⟨l.toArray⟩, ?_, by simp [Rep]⟩
    rw [run_bytesToString w _ es.length _ ns (by rw [hload]), hemp, fold_push ns [], e2]
    simp

/-! ### Interfaces -/
theorem mkif_ok {E : Env} {w : World} {t : TypeId} {i : TI} {a : PV} {av : Value} (hi : C.tt t = some i) (hn : (match i.desc with | .interface _ => false | _ => true) = true) (ha : Rep E a av) : ∃ u, (Instr.makeInterface t av).run C.P w = .ok u w ∧ Rep E (.iface t a) u := by
  obtain ⟨hd, hin⟩ := hC.ty t i hi
  refine ⟨.iface t av, ?_, by simp only [Rep]; exact ⟨_, rfl, ha⟩⟩
  generalize i.desc = d at hd hn
  simp only [Instr.makeInterface, Sem.run_bind, run_underlying hd, Result.andThen_ok]
  cases d <;> first | rfl | (cases hn; done)

theorem evalTa_ok {E : Env} {w : World} {xt t : TypeId} {i : TI} {ok : Bool} {z0 z a v : PV} {ob : Prop} {av : Value} (hi : C.tt t = some i) (hn : (match i.desc with | .interface _ => false | _ => true) = true) (hz : zeroT C t = some z0) (hwk : wkPV z0 z = true) (hx : evalTa t z ok a = some (ob, v)) (ho : ob) (ha : Rep E a av) :
    ∃ u, (Instr.typeAssert av xt t ok).run C.P w = .ok u w ∧ Rep E v u := by
  obtain ⟨hd, hin⟩ := hC.ty t i hi
  obtain ⟨zv, zi, hzi, hzz, hzr⟩ := zeroT_ok hC hz E
  replace hzr := wkPV_ok hwk hzr
  generalize i.desc = d at hd hn
  cases a with
  | nili =>
    simp only [Rep] at ha; subst ha
    cases ok
    · simp [evalTa] at hx
    · simp only [evalTa, Option.some.injEq, Prod.mk.injEq] at hx
      obtain ⟨_, rfl⟩ := hx
      refine ⟨.tuple #[zv, .bool false], ?_, by simp only [Rep]; exact ⟨_, rfl, RepL.mk hzr (RepL.mk (by simp [Rep]) RepL.mk0)⟩⟩
      simp only [Instr.typeAssert, Sem.run_bind, run_underlying hd, Result.andThen_ok]
      cases d <;> first | (cases hn; done) | simp [run_zeroValue' w hzi hzz]
  | iface t' u =>
    simp only [Rep] at ha; obtain ⟨y, rfl, hy⟩ := ha
    cases ok
    · simp only [evalTa, Option.some.injEq, Prod.mk.injEq] at hx
      obtain ⟨rfl, rfl⟩ := hx
      subst ho
      refine ⟨y, ?_, hy⟩
      simp only [Instr.typeAssert, Sem.run_bind, run_underlying hd, Result.andThen_ok]
      cases d <;> first | (cases hn; done) | simp
    · simp only [evalTa, Option.some.injEq, Prod.mk.injEq] at hx
      obtain ⟨rfl, rfl⟩ := hx
      by_cases ht : t' = t
      · subst ht
        refine ⟨.tuple #[y, .bool true], ?_, by rw [if_pos rfl]; simp only [Rep]; exact ⟨_, rfl, RepL.mk hy (RepL.mk (by simp [Rep]) RepL.mk0)⟩⟩
        simp only [Instr.typeAssert, Sem.run_bind, run_underlying hd, Result.andThen_ok]
        cases d <;> first | (cases hn; done) | simp
      · refine ⟨.tuple #[zv, .bool false], ?_, by rw [if_neg ht]; simp only [Rep]; exact ⟨_, rfl, RepL.mk hzr (RepL.mk (by simp [Rep]) RepL.mk0)⟩⟩
        simp only [Instr.typeAssert, Sem.run_bind, run_underlying hd, Result.andThen_ok]
        cases d <;> first | (cases hn; done) | simp [ht, run_zeroValue' w hzi hzz]
  | _ => simp [evalTa] at hx

omit hC in
theorem mm_ok {P : Program} {E : Env} {w : World} (mx : Bool) {ats : Array TypeId} {ty : TypeId} (k : IntKind) (a b : Int) :
    ((if mx then Builtin.max_ else Builtin.min_) ats ty #[.int k a, .int k b]).run P w = .ok (.int k (match mx with | true => max a b | false => min a b)) w := by
  cases mx
  · simp only [Bool.false_eq_true, if_false]
    by_cases h : b < a
    · simp [Builtin.min_, Builtin.min2, h]; omega
    · simp only [Builtin.min_, List.foldlM_cons, List.foldlM_nil, Builtin.min2, h, if_false, Sem.run_bind, Sem.run_pure, Result.andThen_ok]
      congr 2; omega
  · simp only [if_true]
    by_cases h : b > a
    · simp [Builtin.max_, Builtin.max2, h]; omega
    · simp only [Builtin.max_, List.foldlM_cons, List.foldlM_nil, Builtin.max2, h, if_false, Sem.run_bind, Sem.run_pure, Result.andThen_ok]
      congr 2; omega

/-! ### Literals of structs and arrays -/
omit hC in
theorem putP_ok {E : Env} : ∀ {vs l : List PV} {xs m : List Value} (k : Nat), RepL E l m → RepL E vs xs → RepL E (putP l k vs) (spliceV m k xs)
  | [], l, xs, m, k, h, hv => by rw [hv.nil]; exact h
  | v :: vs, l, xs, m, k, h, hv => by
    obtain ⟨x, r, rfl, h1, h2⟩ := hv.cons
    exact putP_ok (k + 1) (h.set k h1) h2

omit hC in
theorem fillP_cons (cs : List PV) (off : Nat) (v : PV) (r : List (Nat × PV)) : fillP cs ((off, v) :: r) = fillP (putP cs off (cellsP v)) r := by
  cases v <;> simp [fillP, cellsP, putP]

omit hC in
theorem Shape.len {n : Option Nat} {v : PV} (h : Shape n v) : (cellsP v).length = n.getD 1 := by
  cases n <;> cases v <;> simp only [Shape] at h <;> simp [cellsP, h]

/-- A literal's parts: of which place, where that is, of how many cells. -/
def _root_.Go.Pv.partsOk (place : Nat → Option (Nat × Nat)) (sz : Nat) : List (Nat × Operand) → List (Nat × Option Nat × X) → Bool
  | [], [] => true
  | (i, _) :: r, (off, n, _) :: r' => (match place i with
    | some (o, m) => Nat.beq o off && Nat.beq m (n.getD 1) && Nat.ble (off + n.getD 1) sz
    | none => false) && partsOk place sz r r'
  | _, _ => false

omit hC in
theorem putP_length : ∀ (vs l : List PV) (k : Nat), (putP l k vs).length = l.length
  | [], l, k => rfl
  | v :: vs, l, k => by simp [putP, putP_length vs]

omit hC in
theorem fill_ok {E : Env} {place : Nat → Option (Nat × Nat)} {ρ : Operand → Value} : ∀ {ops : List (Nat × Operand)} {ps : List (Nat × Option Nat × X)} {vs cs : List PV} {m : List Value}, partsOk place cs.length ops ps = true → Shapes ps vs → RepL E cs m →
    RepL E vs (ops.map fun p => ρ p.2) → ∃ out, Instr.fill place m.toArray (ops.map fun (i, x) => (i, ρ x)) = some out.toArray ∧ RepL E (fillP cs (List.zip (ps.map (·.1)) vs)) out
  | [], [], vs, cs, m, hp, hs, hc, hv => by
    cases vs with
    | nil => exact ⟨m, rfl, by simpa [fillP] using hc⟩
    | cons v vs => simp [Shapes] at hs
  | (i, x) :: ops, (off, n, y) :: ps, vs, cs, m, hp, hs, hc, hv => by
    cases vs with
    | nil => simp [Shapes] at hs
    | cons v vs =>
      simp only [Shapes] at hs
      obtain ⟨x', r, e1, h1, h2⟩ := hv.cons
      simp only [List.map_cons, List.cons.injEq] at e1
      obtain ⟨rfl, rfl⟩ := e1
      simp only [partsOk, Bool.and_eq_true] at hp
      obtain ⟨hp1, hp2⟩ := hp
      split at hp1
      case h_2 => cases hp1
      rename_i o q hpl
      simp only [Bool.and_eq_true] at hp1
      obtain ⟨⟨e2, e3⟩, e4⟩ := hp1
      have e2' := Nat.eq_of_beq_eq_true e2
      have e3' := Nat.eq_of_beq_eq_true e3
      have e4' := Nat.le_of_ble_eq_true e4
      subst e2'
      have hcv := h1.cells
      have hl := hcv.length
      rw [hs.1.len] at hl
      have hml := hc.length
      have hnew := putP_ok o hc hcv
      obtain ⟨out, o1, o2⟩ := fill_ok (ops := ops) (ps := ps) (cs := putP cs o (cellsP v)) (by rw [putP_length]; exact hp2) hs.2 hnew h2
      refine ⟨out, ?_, ?_⟩
      · have hsz : (ρ x).cells.size = q := by rw [e3', ← hl]; simp
        have hsz2 : (ρ x).cells.size = (ρ x).cells.toList.length := by simp
        have hfold := fold_set (ρ x).cells.toList m o 0
        rw [Nat.add_zero] at hfold
        have hz : (ρ x).cells.zipIdx.foldl (fun (cs : Array Value) (c, j) => cs.setIfInBounds (o + j) c) m.toArray = (spliceV m o (ρ x).cells.toList).toArray := by
          rw [← hfold, ← Array.foldl_toList]; simp
        simp only [List.map_cons, Instr.fill, hpl]
        rw [if_neg (by simp only [hsz, ne_eq, not_true_eq_false, List.size_toArray, decide_false, Bool.false_or, decide_eq_true_eq]; omega), hz]
        exact o1
      · simp only [List.map_cons, List.zip_cons_cons, fillP_cons]
        exact o2
  | [], (_, _, _) :: ps, vs, cs, m, hp, hs, hc, hv => by simp [partsOk] at hp
  | (_, _) :: ops, [], vs, cs, m, hp, hs, hc, hv => by simp [partsOk] at hp

/-- Where a literal's parts stand. -/
def _root_.Go.Pv.placesF (C : Cx) : List Field → Option (List (Nat × Nat))
  | [] => some []
  | f :: r => match sizeT C f.type with
    | none => none
    | some n => match placesF C r with
      | none => none
      | some l => some ((f.offset, n) :: l)

def _root_.Go.Pv.placeT (C : Cx) (t : TypeId) : Option (Nat → Option (Nat × Nat)) := match C.tt t with
  | none => none
  | some i => match i.desc with
    | .struct fs => match placesF C fs.toList with
      | some pl => some fun k => pl[k]?
      | none => none
    | .array _ e => match sizeT C e with
      | some n => some fun k => some (k * n, n)
      | none => none
    | _ => none

theorem placesF_ok : ∀ {l : List Field} {pl : List (Nat × Nat)}, placesF C l = some pl → (∀ f ∈ l, ∃ i, C.P.info? f.type = some i) ∧ pl = l.map fun f => (f.offset, ((C.P.info? f.type).map (·.size)).getD 0)
  | [], pl, h => by simp only [placesF, Option.some.injEq] at h; subst h; exact ⟨(fun f hf => (by cases hf)), rfl⟩
  | f :: l, pl, h => by
    simp only [placesF] at h
    split at h
    · cases h
    rename_i n hn
    obtain ⟨i, hi, hs⟩ := sizeT_ok hC hn
    split at h
    · cases h
    rename_i q hq
    cases h
    obtain ⟨a, b⟩ := placesF_ok hq
    refine ⟨fun g hg => ?_, ?_⟩
    · rcases List.mem_cons.1 hg with rfl | hg
      · exact ⟨i, hi⟩
      · exact a g hg
    · rw [b]; simp [hi, hs]

/-- A type's zero cells. -/
def _root_.Go.Pv.zeroCs (C : Cx) (ty : TypeId) : Option (List Value) := match C.tt ty with
  | none => none
  | some i => match i.info.zero with
    | none => none
    | some z => match z with
      | .agg ⟨l⟩ => some l
      | .tuple _ => none
      | v => some [v]

theorem zeroCs_ok {ty : TypeId} {z : List Value} (h : zeroCs C ty = some z) : ∃ x i, C.P.info? ty = some i ∧ i.zero = some x ∧ x.cells.toList = z := by
  unfold zeroCs at h
  split at h
  · cases h
  rename_i i hi
  split at h
  · cases h
  rename_i x hx
  obtain ⟨_, hin⟩ := hC.ty _ i hi
  refine ⟨x, i.info, hin, hx, ?_⟩
  split at h
  · cases h; rfl
  · cases h
  · cases h
    rename_i h1 h2
    cases x <;> first | rfl | (rename_i l; cases l; exact absurd rfl (h1 _)) | exact absurd rfl (h2 _)

theorem build_ok {E : Env} {w : World} {t : TypeId} {place : Nat → Option (Nat × Nat)} {ρ : Operand → Value} {ops : Array (Nat × Operand)} {ps : List (Nat × Option Nat × X)} {vs zs : List PV} {zl : List Value} (hz : zeroCs C t = some zl) (hzl : RepL E zs zl) (hpl : placeT C t = some place)
    (hp : partsOk place zs.length ops.toList ps = true) (hs : Shapes ps vs) (hv : RepL E vs (ops.toList.map fun p => ρ p.2)) :
    ∃ u, (Instr.build t (ops.map fun (i, x) => (i, ρ x))).run C.P w = .ok u w ∧ Rep E (.agg (fillP zs (List.zip (ps.map (·.1)) vs))) u := by
  obtain ⟨zv, zi, hzi, hzz, hzr⟩ := zeroCs_ok hC hz
  obtain ⟨out, ho, hr⟩ := fill_ok hp hs hzl hv
  rw [← hzr] at ho
  have he : ops.map (fun (i, x) => (i, ρ x)) = (ops.toList.map fun (i, x) => (i, ρ x)).toArray := by apply Array.ext'; simp
  refine ⟨.agg out.toArray, ?_, by simp only [Rep]; exact ⟨_, rfl, hr⟩⟩
  rw [he]
  have ho' : Instr.fill place zv.cells (ops.toList.map fun (i, x) => (i, ρ x)) = some out.toArray := by simpa using ho
  unfold placeT at hpl
  split at hpl
  · cases hpl
  rename_i i hi
  obtain ⟨hd, _⟩ := hC.ty t i hi
  split at hpl
  · rename_i fs hfs
    rw [hfs] at hd
    split at hpl
    case h_2 => cases hpl
    rename_i pl hpf
    cases hpl
    obtain ⟨hall, hple⟩ := placesF_ok hC hpf
    have hmap := run_mapM_array (P := C.P) w (fun f : Field => (do pure (f.offset, ← sizeOf f.type) : Sem (Nat × Nat))) (fun f => (f.offset, ((C.P.info? f.type).map (·.size)).getD 0)) fs (by
      intro f hf
      obtain ⟨j, hj⟩ := hall f (by simpa using hf)
      simp [run_sizeOf' w hj, hj])
    have hpp : (fun x => (Array.map (fun f : Field => (f.offset, ((C.P.info? f.type).map (·.size)).getD 0)) fs)[x]?) = fun k : Nat => pl[k]? := by
      funext k; rw [hple]; simp
    simp only [Instr.build, Sem.run_bind, run_zeroValue' w hzi hzz, Result.andThen_ok, run_underlying hd, hmap]
    rw [hpp]
    simp [ho']
  · rename_i m e he'
    rw [he'] at hd
    split at hpl
    case h_2 => cases hpl
    rename_i n hn
    cases hpl
    obtain ⟨j, hj, hjs⟩ := sizeT_ok hC hn
    simp only [Instr.build, Sem.run_bind, run_zeroValue' w hzi hzz, Result.andThen_ok, run_underlying hd, run_sizeOf' w hj, hjs]
    simp [ho']
  · cases hpl
end
end Go.Pv
