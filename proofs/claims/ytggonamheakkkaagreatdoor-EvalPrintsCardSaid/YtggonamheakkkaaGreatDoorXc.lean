/-
  A run of closed code by the kernel: single operations on memory.
-/
import Derived.Test.YtggonamheakkkaaGreatDoorXb
import Derived.Laws.CopyRow
import Derived.Laws.MakeOwn
import Derived.Laws.Entries
import Derived.Laws.Rows
namespace Go.Xq
open Go.RowKit
set_option linter.unusedVariables false

section
variable {P : Program} (w : World)

theorem run_typeInfo {t : TypeId} {i : TypeInfo} (h : P.info? t = some i) : (typeInfo t).run P w = .ok i w := by simp [typeInfo, h]
theorem run_sizeOf' {t : TypeId} {i : TypeInfo} (h : P.info? t = some i) : (sizeOf t).run P w = .ok i.size w := by simp [sizeOf, typeInfo, h]
theorem run_zeroValue' {t : TypeId} {i : TypeInfo} {z : Value} (h : P.info? t = some i) (hz : i.zero = some z) : (zeroValue t).run P w = .ok z w := by simp [zeroValue, typeInfo, h, hz]

noncomputable def isAggD : TypeDesc → Bool
  | .struct _ => true
  | .array _ _ => true
  | _ => false

theorem run_isAgg' {t : TypeId} {d : TypeDesc} (h : P.underlying t = some d) : (isAgg t).run P w = .ok (isAggD d) w := by
  simp only [isAgg, Sem.run_bind, run_underlying h, Result.andThen_ok]
  cases d <;> rfl
end

/-! ### Cells -/
noncomputable def cellsS : SV → List SV
  | .agg cs => cs
  | v => [v]

theorem cellsS_den {E : Env} : ∀ {v : SV} {x : Value}, v.den E = some x → denL E (cellsS v) = some x.cells.toList := by
  intro v x h
  cases v with
  | agg cs =>
    simp only [SV.den, Option.map_eq_some_iff] at h
    obtain ⟨l, hl, rfl⟩ := h
    simpa [cellsS, Value.cells] using hl
  | func fn a b =>
    have : x.cells = #[x] := by
      simp only [SV.den] at h
      split at h
      · cases h; rfl
      · cases h
    rw [this]; exact denL_mk h rfl
  | iface t u =>
    have : x.cells = #[x] := by
      simp only [SV.den, Option.map_eq_some_iff] at h
      obtain ⟨l, hl, rfl⟩ := h; rfl
    rw [this]; exact denL_mk h rfl
  | tuple cs =>
    have : x.cells = #[x] := by
      simp only [SV.den, Option.map_eq_some_iff] at h
      obtain ⟨l, hl, rfl⟩ := h; rfl
    rw [this]; exact denL_mk h rfl
  | ptr i o =>
    have : x.cells = #[x] := by
      simp only [SV.den, Option.map_eq_some_iff] at h
      obtain ⟨l, hl, rfl⟩ := h; rfl
    rw [this]; exact denL_mk h rfl
  | slice i o n c =>
    have : x.cells = #[x] := by
      simp only [SV.den, Option.map_eq_some_iff] at h
      obtain ⟨l, hl, rfl⟩ := h; rfl
    rw [this]; exact denL_mk h rfl
  | map i =>
    have : x.cells = #[x] := by
      simp only [SV.den, Option.map_eq_some_iff] at h
      obtain ⟨l, hl, rfl⟩ := h; rfl
    rw [this]; exact denL_mk h rfl
  | yld i =>
    have : x.cells = #[x] := by
      simp only [SV.den, Option.map_eq_some_iff] at h
      obtain ⟨l, hl, rfl⟩ := h; rfl
    rw [this]; exact denL_mk h rfl
  | bool b => cases h; exact denL_mk rfl rfl
  | int k e => cases h; exact denL_mk rfl rfl
  | str s => cases h; exact denL_mk rfl rfl
  | nilptr => cases h; exact denL_mk rfl rfl
  | nilslice => cases h; exact denL_mk rfl rfl
  | nilmap => cases h; exact denL_mk rfl rfl
  | nilfunc => cases h; exact denL_mk rfl rfl
  | nilIface => cases h; exact denL_mk rfl rfl
  | opq i =>
    have : x.cells = #[x] := by
      obtain ⟨t, u, rfl⟩ := ifaceV_eq h; rfl
    rw [this]; exact denL_mk h rfl
  | ostr i =>
    have : x.cells = #[x] := by
      obtain ⟨s, rfl⟩ := strV_eq h; rfl
    rw [this]; exact denL_mk h rfl
  | oslice i =>
    have : x.cells = #[x] := by
      obtain ⟨b, o, n, c, rfl, _⟩ := osliceV_eq h; rfl
    rw [this]; exact denL_mk h rfl
  | optr i k =>
    have : x.cells = #[x] := by
      obtain ⟨b, o, n, c, rfl, _⟩ := optrV_eq h; rfl
    rw [this]; exact denL_mk h rfl

/-- One cell's value. -/
noncomputable def oneS : SV → Bool
  | .agg _ => false
  | .tuple _ => false
  | _ => true

theorem oneS_den {E : Env} {v : SV} {x : Value} (h : v.den E = some x) (k : oneS v = true) : x.oneCell' = true := by
  cases v <;> simp only [SV.den, Option.map_eq_some_iff, Option.some.injEq, oneS] at h k <;> first
    | (subst h; rfl)
    | (obtain ⟨l, hl, rfl⟩ := h; rfl)
    | (obtain ⟨t, u, rfl⟩ := ifaceV_eq h; rfl)
    | (obtain ⟨s, rfl⟩ := strV_eq h; rfl)
    | (obtain ⟨b, o, n, c, rfl, _⟩ := osliceV_eq h; rfl)
    | (obtain ⟨b, o, n, c, rfl, _⟩ := optrV_eq h; rfl)
    | (split at h <;> first | (cases h; done) | (simp only [Option.some.injEq] at h; subst h; rfl))
    | (cases k; done)

noncomputable def allOne : List SV → Bool
  | [] => true
  | v :: r => match oneS v with
    | true => allOne r
    | false => false

theorem allOne_den {E : Env} : ∀ {vs : List SV} {xs : List Value}, denL E vs = some xs → allOne vs = true → ∀ x ∈ xs, x.oneCell' = true
  | [], xs, h, _, x, hx => by rw [denL_nil h] at hx; cases hx
  | v :: vs, xs, h, k, x, hx => by
    obtain ⟨y, r, h1, h2, rfl⟩ := denL_cons h
    simp only [allOne] at k
    cases ho : oneS v with
    | false => rw [ho] at k; cases k
    | true =>
      rw [ho] at k
      rcases List.mem_cons.1 hx with rfl | hx
      · exact oneS_den h1 ho
      · exact allOne_den h2 k x hx

/-- Cells from a place on become others. -/
noncomputable def splice : List SV → Nat → List SV → List SV
  | l, _, [] => l
  | l, k, v :: vs => splice (l.set k v) (Nat.succ k) vs

noncomputable def spliceV : List Value → Nat → List Value → List Value
  | l, _, [] => l
  | l, k, v :: vs => spliceV (l.set k v) (k + 1) vs

theorem splice_den {E : Env} : ∀ {vs l : List SV} {xs m : List Value} (k : Nat), denL E l = some m → denL E vs = some xs → denL E (splice l k vs) = some (spliceV m k xs)
  | [], l, xs, m, k, h, hv => by rw [denL_nil hv]; exact h
  | v :: vs, l, xs, m, k, h, hv => by
    obtain ⟨x, r, h1, h2, rfl⟩ := denL_cons hv
    exact splice_den (k + 1) (denL_set k h h1) h2

theorem spliceV_length : ∀ (xs m : List Value) (k : Nat), (spliceV m k xs).length = m.length
  | [], m, k => rfl
  | x :: xs, m, k => by rw [spliceV, spliceV_length]; simp

theorem spliceV_append : ∀ (xs m rest : List Value) (k : Nat), k + xs.length ≤ m.length → spliceV (m ++ rest) k xs = spliceV m k xs ++ rest
  | [], m, rest, k, h => rfl
  | x :: xs, m, rest, k, h => by
    simp only [List.length_cons] at h
    rw [spliceV, spliceV, List.set_append_left _ _ (by omega), spliceV_append xs (m.set k x) rest (k + 1) (by simp; omega)]

theorem setCell_setRow' (w : World) (g j : Nat) (l : List Value) (t : TypeId) (fr : Nat × Nat) (v : Value) (hg : w.heap[g]? = some (.cells l.toArray t fr)) :
    w.setCell ⟨g, j, none⟩ v = w.setRow g (l.set j v).toArray := by
  rw [setCell_eq_setRow w g j l.toArray t fr v hg]; simp

theorem run_storeCells_gen {P : Program} (g o : Nat) (t : TypeId) (fz : Nat × Nat) : ∀ (vs : List Value) (i : Nat) (l : List Value) (w : World), w.heap[g]? = some (.cells l.toArray t fz) → o + i + vs.length ≤ l.length →
    (fz = (0, 0) ∨ o + i + vs.length ≤ fz.1) → (∀ v ∈ vs, v.oneCell' = true) →
    (storeCells ⟨g, o, none⟩ vs i).run P w = .ok () (w.setRow g (spliceV l (o + i) vs).toArray)
  | [], i, l, w, hg, _, _, _ => by
    simp only [storeCells, spliceV]
    rw [setRow_self w g l.toArray t fz hg]; rfl
  | v :: vs, i, l, w, hg, hl, hf, h1 => by
    simp only [List.length_cons] at hl hf
    have hadd : (⟨g, o, none⟩ : Addr).add i = ⟨g, o + i, none⟩ := by unfold Addr.add; split <;> simp_all
    have hcell : w.cell? ⟨g, o + i, none⟩ = some (l[o + i]'(by omega)) := by
      rw [cell_of_row w g (o + i) l.toArray t fz hg]; simp
    have hfro : w.frozen? ⟨g, o + i, none⟩ = false := by
      rcases hf with rfl | hf
      · simp [World.frozen?, hg]
      · obtain ⟨f1, f2⟩ := fz
        simp only at hf
        simp only [World.frozen?, hg, Bool.and_eq_false_iff, decide_eq_false_iff_not]
        left; omega
    have hst : (store ((⟨g, o, none⟩ : Addr).add i) v).run P w = .ok () (w.setRow g (l.set (o + i) v).toArray) := by
      rw [hadd, run_store P w _ v _ (h1 v (by simp)), hcell]
      simp [hfro, setCell_setRow' w g (o + i) l t fz v hg]
    have ih := run_storeCells_gen (P := P) g o t fz vs (i + 1) (l.set (o + i) v) (w.setRow g (l.set (o + i) v).toArray) (setRow_heap w g l.toArray _ t _ hg) (by simp; omega)
      (hf.imp id (fun h => by omega)) (fun x hx => h1 x (by simp [hx]))
    simp only [storeCells, Sem.run_bind, hst, Result.andThen_ok, ih, setRow_setRow]
    rfl

theorem setRow_other' (w : World) (g k : Nat) (cs : Array Value) (h : k ≠ g) : (w.setRow g cs).heap[k]? = w.heap[k]? := by
  simp only [World.setRow, Array.getElem?_modify]
  rw [if_neg (by omega)]

/-! ### A row of memory -/
theorem cell_at {E : Env} {w : World} {p : Nat × Nat} {cs : List SV} {e : TypeId} {sl : Option Nat} {mk : Bool} (h : (AO.cells cs e sl mk).rel E p w.heap) {off : Nat} {v : SV} (hv : cs[off]? = some v) :
    ∃ x, v.den E = some x ∧ w.cell? ⟨p.1, off, none⟩ = some x := by
  obtain ⟨vs, rest, fz, h1, h2, h3, h4, h5, h6⟩ := h
  obtain ⟨x, hx, hg⟩ := denL_get h1 hv
  refine ⟨x, hx, ?_⟩
  rw [cell_of_row w p.1 off _ e fz h2]
  have := (List.getElem?_eq_some_iff.1 hg).1
  simp [List.getElem?_append_left this, hg]

theorem part_cells {E : Env} {w : World} {p : Nat × Nat} {cs : List SV} {e : TypeId} {sl : Option Nat} {mk : Bool} (h : (AO.cells cs e sl mk).rel E p w.heap) (off n : Nat) :
    ∃ xs, denL E ((cs.drop off).take n) = some xs ∧ ∀ j x, xs[j]? = some x → w.cell? ((⟨p.1, off, none⟩ : Addr).add j) = some x := by
  obtain ⟨vs, rest, fz, h1, h2, h3, h4, h5, h6⟩ := h
  refine ⟨(vs.drop off).take n, denL_take n (denL_drop off h1), ?_⟩
  intro j x hj
  have hadd : (⟨p.1, off, none⟩ : Addr).add j = ⟨p.1, off + j, none⟩ := by unfold Addr.add; split <;> simp_all
  rw [hadd, cell_of_row w p.1 (off + j) _ e fz h2]
  have hjn : j < n := by
    rcases Nat.lt_or_ge j n with h | h
    · exact h
    · rw [List.getElem?_take, if_neg (by omega)] at hj; cases hj
  rw [List.getElem?_take, if_pos hjn, List.getElem?_drop] at hj
  have := (List.getElem?_eq_some_iff.1 hj).1
  simp [List.getElem?_append_left this, hj]

theorem cell_ro {E : Env} {w : World} {p : Nat × Nat} {cs : List SV} (h : (AO.ro cs).rel E p w.heap) {off : Nat} {v : SV} (hv : cs[off]? = some v) :
    ∃ x, v.den E = some x ∧ w.cell? ⟨p.1, off, none⟩ = some x := by
  obtain ⟨xs, c, e, fz, h1, h2, h3⟩ := h
  obtain ⟨x, hx, hg⟩ := denL_get h1 hv
  exact ⟨x, hx, by rw [cell_of_row w p.1 off _ e fz h2]; exact h3 off x hg⟩

theorem part_ro {E : Env} {w : World} {p : Nat × Nat} {cs : List SV} (h : (AO.ro cs).rel E p w.heap) (off n : Nat) :
    ∃ xs, denL E ((cs.drop off).take n) = some xs ∧ ∀ j x, xs[j]? = some x → w.cell? ((⟨p.1, off, none⟩ : Addr).add j) = some x := by
  obtain ⟨xs, c, e, fz, h1, h2, h3⟩ := h
  refine ⟨(xs.drop off).take n, denL_take n (denL_drop off h1), ?_⟩
  intro j x hj
  have hadd : (⟨p.1, off, none⟩ : Addr).add j = ⟨p.1, off + j, none⟩ := by unfold Addr.add; split <;> simp_all
  rw [hadd, cell_of_row w p.1 (off + j) _ e fz h2]
  have hjn : j < n := by
    rcases Nat.lt_or_ge j n with h | h
    · exact h
    · rw [List.getElem?_take, if_neg (by omega)] at hj; cases hj
  rw [List.getElem?_take, if_pos hjn, List.getElem?_drop] at hj
  exact h3 _ x hj

/-- The cells of a block that can be read. -/
noncomputable def rowS (h : Tr AO) (id : Nat) : Option (List SV) :=
  match h.get id with
  | some (.cells cs _ _ _) => some cs
  | some (.ro cs) => some cs
  | _ => none

theorem rowS_ok {C : Cx} {E : Env} {h : Tr AO} {n : Nat} {w : World} (s : SH C E h n w.heap) {id : Nat} {cs : List SV} (hr : rowS h id = some cs) : ∃ p, E.blk id = some p ∧
    (∀ off v, cs[off]? = some v → ∃ x, v.den E = some x ∧ w.cell? ⟨p.1, off, none⟩ = some x) ∧
    (∀ off n, ∃ xs, denL E ((cs.drop off).take n) = some xs ∧ ∀ j x, xs[j]? = some x → w.cell? ((⟨p.1, off, none⟩ : Addr).add j) = some x) := by
  unfold rowS at hr
  split at hr
  · rename_i cs' e sl mk hg
    cases hr
    obtain ⟨p, hp, hrel⟩ := s.obj hg
    exact ⟨p, hp, fun off v hv => cell_at hrel hv, fun off n => part_cells hrel off n⟩
  · rename_i cs' hg
    cases hr
    obtain ⟨p, hp, hrel⟩ := s.obj hg
    exact ⟨p, hp, fun off v hv => cell_ro hrel hv, fun off n => part_ro hrel off n⟩
  · cases hr

/-- A variable is read. -/
noncomputable def xLoad (C : Cx) (h : Tr AO) (ty : TypeId) : SV → Option SV
  | .ptr id off => match rowS h id with
    | some cs => match C.tt.get ty with
      | some i => match isAggD i.desc with
        | true => let l := (cs.drop off).take i.info.size
          match Nat.beq l.length i.info.size with
          | true => some (.agg l)
          | false => none
        | false => cs[off]?
      | none => none
    | none => none
  | _ => none

section
variable {P : Program} {C : Cx} (hC : C.Ok P)
include hC

theorem xLoad_var {E : Env} {h : Tr AO} {n : Nat} {w : World} (s : SH C E h n w.heap) {ty : TypeId} {id off : Nat} {v : SV} (hx : xLoad C h ty (.ptr id off) = some v) :
    ∃ p x, E.blk id = some p ∧ (loadVar ty ⟨p.1, off, none⟩).run P w = .ok x w ∧ v.den E = some x := by
  simp only [xLoad] at hx
  split at hx
  case h_2 => cases hx
  rename_i cs hg
  obtain ⟨p, hp, hcl, hpt⟩ := rowS_ok s hg
  split at hx
  case h_2 => cases hx
  rename_i i hi
  obtain ⟨hd, hin⟩ := hC.ty ty i hi
  split at hx
  · rename_i hagg
    split at hx
    case h_2 => cases hx
    rename_i hl
    simp only [Option.some.injEq] at hx
    subst hx
    obtain ⟨xs, hxs, hcell⟩ := hpt off i.info.size
    refine ⟨p, .agg xs.toArray, hp, ?_, by simp [SV.den, hxs]⟩
    have hlen : xs.length = i.info.size := by rw [denL_length hxs]; exact Nat.eq_of_beq_eq_true hl
    simp only [loadVar, Sem.run_bind, run_isAgg' w hd, Result.andThen_ok, hagg, if_true, run_sizeOf' w hin]
    rw [← hlen, run_loadCells_list (P := P) w _ xs hcell]
    rfl
  · rename_i hagg
    obtain ⟨x, hx1, hx2⟩ := hcl off v hx
    refine ⟨p, x, hp, ?_, hx1⟩
    simp only [loadVar, Sem.run_bind, run_isAgg' w hd, Result.andThen_ok, hagg]
    simp [hx2]

theorem xLoad_ok {E : Env} {h : Tr AO} {n : Nat} {w : World} (s : SH C E h n w.heap) {ty : TypeId} {a v : SV} {av : Value} (hx : xLoad C h ty a = some v) (ha : a.den E = some av) :
    ∃ x, (Instr.loadAt ty av).run P w = .ok x w ∧ v.den E = some x := by
  cases a with
  | ptr id off =>
    obtain ⟨p, x, hp, hr, hv⟩ := xLoad_var hC s hx
    simp only [SV.den, hp, Option.map_some, Option.some.injEq] at ha
    subst ha
    exact ⟨x, by simpa [Instr.loadAt, Instr.sureAddr] using hr, hv⟩
  | _ => simp [xLoad] at hx

/-- A variable is written. -/
noncomputable def _root_.Go.Xq.xStore (C : Cx) (h : Tr AO) (ty : TypeId) : SV → SV → Option (Tr AO)
  | .ptr id off, v => match Nat.ble C.G id with
    | false => none
    | true => match h.get id with
      | some (.cells cs e sl mk) => match C.tt.get ty with
        | some i => let l := cellsS v
          match Nat.beq l.length i.info.size with
          | true => match allOne l with
            | true => match Nat.ble (Nat.add off l.length) cs.length with
              | true => h.upd 48 id (some (.cells (splice cs off l) e sl mk))
              | false => none
            | false => none
          | false => none
        | none => none
      | _ => none
  | _, _ => none

theorem xStore_ok {E : Env} {h h' : Tr AO} {n : Nat} {w : World} (s : SH C E h n w.heap) {ty : TypeId} {a v : SV} {av x : Value} (hx : xStore C h ty a v = some h') (ha : a.den E = some av) (hv : v.den E = some x) :
    ∃ w', (Instr.storeAt ty av x).run P w = .ok () w' ∧ Post C E h n w E h' n w' := by
  cases a with
  | ptr id off =>
    simp only [xStore] at hx
    split at hx
    · cases hx
    rename_i hG
    split at hx
    case h_2 => cases hx
    rename_i cs e sl mk hg
    split at hx
    case h_2 => cases hx
    rename_i i hi
    split at hx
    case h_2 => cases hx
    rename_i hsz
    split at hx
    case h_2 => cases hx
    rename_i h1
    split at hx
    case h_2 => cases hx
    rename_i hfit
    obtain ⟨p, hp, hrel⟩ := s.obj hg
    obtain ⟨hd, hin⟩ := hC.ty ty i hi
    have hcs := cellsS_den hv
    have hsz' : (cellsS v).length = i.info.size := Nat.eq_of_beq_eq_true hsz
    have hfit' : off + (cellsS v).length ≤ cs.length := Nat.le_of_ble_eq_true hfit
    obtain ⟨vs, rest, fz, r1, r2, r3, r4, r5, r6⟩ := hrel
    have hlen := denL_length hcs
    have hvl := denL_length r1
    simp only [SV.den, hp, Option.map_some, Option.some.injEq] at ha
    subst ha
    have hrun := run_storeCells_gen (P := P) p.1 off e fz x.cells.toList 0 (vs ++ rest) w r2 (by simp only [List.length_append]; omega) (r6.imp (fun h => h) (fun h => by omega)) (allOne_den hcs h1)
    rw [Nat.add_zero, spliceV_append _ _ _ _ (by omega)] at hrun
    refine ⟨w.setRow p.1 (spliceV vs off x.cells.toList ++ rest).toArray, ?_, Post.change (id := id) (p := p) (f := 48) (o := .cells cs e sl mk) (o' := .cells (splice cs off (cellsS v)) e sl mk) s (Nat.le_of_ble_eq_true hG) hg hp hx ?_ rfl rfl rfl (by simp) (fun k hk => setRow_other' w p.1 k _ hk)⟩
    · have hns : x.cells.size = i.info.size := by rw [← hsz', ← hlen]; simp
      simp only [Instr.storeAt, Instr.sureAddr, Sem.run_bind, Sem.run_pure, Result.andThen_ok, storeVar, run_sizeOf' w hin, hns, ne_eq, not_true_eq_false, if_false]
      exact hrun
    · refine ⟨spliceV vs off x.cells.toList, rest, fz, splice_den off r1 hcs, setRow_heap w p.1 _ _ e _ r2, r3, fun sz hs => ?_, r5, r6.imp (fun h => h) (fun h => by rw [spliceV_length]; exact h)⟩
      rw [spliceV_length]; exact r4 sz hs
  | _ => simp [xStore] at hx

/-- What a new block is to be. -/
noncomputable def _root_.Go.Xq.AOK (E : Env) (w : World) (id : Nat) (v : SV) (ao : AO) (O : Obj) (y : Value) : Prop :=
  ∃ room, v.den (E.set id (w.heap.size, room)) = some y ∧ ao.rel (E.set id (w.heap.size, room)) (w.heap.size, room) (w.heap.push O)

/-- A new variable. -/
noncomputable def _root_.Go.Xq.xBox (n : Nat) (ty : TypeId) (v : SV) : Option (SV × AO) := some (.ptr n 0, .cells (cellsS v) ty none false)

omit hC in
theorem xBox_ok {E : Env} {n : Nat} {w : World} (hn : E.blk n = none) {ty : TypeId} {v r : SV} {o : AO} {x : Value} (hx : xBox n ty v = some (r, o)) (hv : v.den E = some x) :
    ∃ O y, (do pure (Value.pointer (some (← newVar ty x))) : Sem Value).run P w = .ok y (w.alloc O) ∧ AOK E w n r o O y := by
  simp only [xBox, Option.some.injEq, Prod.mk.injEq] at hx
  obtain ⟨rfl, rfl⟩ := hx
  refine ⟨.cells x.cells ty, .pointer (some ⟨w.heap.size, 0, none⟩), by simp [newVar, newRow], 0, by simp [SV.den, Env.set_same], ?_⟩
  exact ⟨x.cells.toList, [], (0, 0), denL_mono (Env.set_le hn) _ _ (cellsS_den hv), by simp, fun _ => rfl, (fun sz h => nomatch h), fun _ => rfl, Or.inl rfl⟩

noncomputable def _root_.Go.Xq.xAlloc (C : Cx) (n : Nat) (ty : TypeId) : Option (SV × AO) :=
  match C.tt.get ty with
  | some i => match i.info.zero with
    | some z => match ofV z with
      | some v => xBox n ty v
      | none => none
    | none => none
  | none => none

theorem xAlloc_ok {E : Env} {n : Nat} {w : World} (hn : E.blk n = none) {ty : TypeId} {r : SV} {o : AO} (hx : xAlloc C n ty = some (r, o)) :
    ∃ O y, (Instr.alloc ty true (.tuple #[])).run P w = .ok y (w.alloc O) ∧ AOK E w n r o O y := by
  simp only [xAlloc] at hx
  split at hx
  case h_2 => cases hx
  rename_i i hi
  split at hx
  case h_2 => cases hx
  rename_i z hz
  split at hx
  case h_2 => cases hx
  rename_i v hv
  obtain ⟨hd, hin⟩ := hC.ty ty i hi
  obtain ⟨O, y, h1, h2⟩ := xBox_ok (P := P) (w := w) hn hx (ofV_den E z v hv)
  refine ⟨O, y, ?_, h2⟩
  simp only [Instr.alloc, Sem.run_bind, run_zeroValue' w hin hz, Result.andThen_ok]
  simpa using h1

/-- The address of a field. -/
noncomputable def _root_.Go.Xq.xFieldAddr (C : Cx) (ty : TypeId) (f : Nat) : SV → Option SV
  | .ptr id off => match C.tt.get ty with
    | some i => match i.desc with
      | .struct fs => match fs[f]? with
        | some fd => match C.tt.get fd.type with
          | some j => match Nat.beq j.info.size 0 with
            | true => none
            | false => some (.ptr id (Nat.add off fd.offset))
          | none => none
        | none => none
      | _ => none
    | none => none
  | _ => none

omit hC in
theorem run_fieldPlace {w : World} {b off : Nat} {fd : Field} {j : TypeInfo} (hj : P.info? fd.type = some j) (h0 : Nat.beq j.size 0 = false) :
    (fieldPlace ⟨b, off, none⟩ fd).run P w = .ok ⟨b, off + fd.offset, none⟩ w := by
  have : ¬ j.size = 0 := by intro e; rw [e] at h0; cases h0
  simp only [fieldPlace, Sem.run_bind, run_sizeOf' w hj, Result.andThen_ok, this, if_false, Sem.run_pure, Addr.add_lit]

theorem xFieldAddr_ok {E : Env} {w : World} {ty : TypeId} {f : Nat} {a v : SV} {av : Value} (hx : xFieldAddr C ty f a = some v) (ha : a.den E = some av) :
    ∃ x, (Instr.fieldAt ty av f).run P w = .ok x w ∧ v.den E = some x := by
  cases a with
  | ptr id off =>
    simp only [xFieldAddr] at hx
    split at hx
    case h_2 => cases hx
    rename_i i hi
    obtain ⟨hd, hin⟩ := hC.ty ty i hi
    split at hx
    case h_2 => cases hx
    rename_i fs hfs
    split at hx
    case h_2 => cases hx
    rename_i fd hfd
    split at hx
    case h_2 => cases hx
    rename_i j hj
    split at hx
    · cases hx
    rename_i h0
    simp only [Option.some.injEq] at hx
    subst hx
    simp only [SV.den, Option.map_eq_some_iff] at ha
    obtain ⟨p, hp, rfl⟩ := ha
    refine ⟨.pointer (some ⟨p.1, off + fd.offset, none⟩), ?_, by simp [SV.den, hp]⟩
    rw [hfs] at hd
    simp only [Instr.fieldAt, Sem.run_bind, run_underlying hd, Result.andThen_ok, hfd, Instr.sureAddr, Sem.run_pure, run_fieldPlace (hC.ty _ j hj).2 h0]
  | _ => simp [xFieldAddr] at hx

/-- A part of a struct's or an array's value. -/
noncomputable def _root_.Go.Xq.xPart (C : Cx) (ty : TypeId) (cs : List SV) (off : Nat) : Option SV :=
  match C.tt.get ty with
  | some i => match isAggD i.desc with
    | true => some (.agg ((cs.drop off).take i.info.size))
    | false => cs[off]?
  | none => none

theorem xPart_ok {E : Env} {w : World} {ty : TypeId} {off : Nat} {cs : List SV} {xs : List Value} {v : SV} (hx : xPart C ty cs off = some v) (hc : denL E cs = some xs) :
    ∃ x, (part ty xs.toArray off).run P w = .ok x w ∧ v.den E = some x := by
  simp only [xPart] at hx
  split at hx
  case h_2 => cases hx
  rename_i i hi
  obtain ⟨hd, hin⟩ := hC.ty ty i hi
  split at hx
  · rename_i hagg
    simp only [Option.some.injEq] at hx
    subst hx
    refine ⟨.agg ((xs.drop off).take i.info.size).toArray, ?_, by simp [SV.den, denL_take _ (denL_drop off hc)]⟩
    simp only [part, Sem.run_bind, run_isAgg' w hd, Result.andThen_ok, hagg, if_true, run_sizeOf' w hin, Sem.run_pure]
    congr 2
    simp [List.extract_eq_take_drop]
  · rename_i hagg
    obtain ⟨x, h1, h2⟩ := denL_get hc hx
    refine ⟨x, ?_, h1⟩
    simp only [part, Sem.run_bind, run_isAgg' w hd, Result.andThen_ok, hagg]
    simp [h2]

noncomputable def _root_.Go.Xq.xField (C : Cx) (ty : TypeId) (f : Nat) : SV → Option SV
  | .agg cs => match C.tt.get ty with
    | some i => match i.desc with
      | .struct fs => match fs[f]? with
        | some fd => xPart C fd.type cs fd.offset
        | none => none
      | _ => none
    | none => none
  | _ => none

theorem xField_ok {E : Env} {w : World} {ty : TypeId} {f : Nat} {a v : SV} {av : Value} (hx : xField C ty f a = some v) (ha : a.den E = some av) :
    ∃ x, (Instr.field ty av f).run P w = .ok x w ∧ v.den E = some x := by
  cases a with
  | agg cs =>
    simp only [xField] at hx
    split at hx
    case h_2 => cases hx
    rename_i i hi
    obtain ⟨hd, hin⟩ := hC.ty ty i hi
    split at hx
    case h_2 => cases hx
    rename_i fs hfs
    split at hx
    case h_2 => cases hx
    rename_i fd hfd
    simp only [SV.den, Option.map_eq_some_iff] at ha
    obtain ⟨xs, hxs, rfl⟩ := ha
    obtain ⟨x, h1, h2⟩ := xPart_ok (P := P) hC (w := w) hx hxs
    refine ⟨x, ?_, h2⟩
    rw [hfs] at hd
    simp only [Instr.field, Sem.run_bind, run_underlying hd, Result.andThen_ok, hfd, asAgg, Sem.run_pure]
    exact h1
  | _ => simp [xField] at hx

/-- The address of an element. -/
noncomputable def _root_.Go.Xq.xIndexAddr (C : Cx) (ty : TypeId) : SV → SV → Option SV
  | .slice id off len _, .int _ (.lit (.ofNat i)) => match C.tt.get ty with
    | some d => match d.desc with
      | .slice e => match Nat.blt i len with
        | true => match C.tt.get e with
          | some j => some (.ptr id (Nat.add off (Nat.mul i j.info.size)))
          | none => none
        | false => none
      | _ => none
    | none => none
  | .ptr id off, .int _ (.lit (.ofNat i)) => match C.tt.get ty with
    | some d => match d.desc with
      | .array len e => match Nat.blt i len with
        | true => match C.tt.get e with
          | some j => some (.ptr id (Nat.add off (Nat.mul i j.info.size)))
          | none => none
        | false => none
      | _ => none
    | none => none
  | _, _ => none

theorem xIndexAddr_ok {E : Env} {w : World} {ty : TypeId} {a b v : SV} {av bv : Value} (hx : xIndexAddr C ty a b = some v) (ha : a.den E = some av) (hb : b.den E = some bv) :
    ∃ x, (Instr.indexAt ty av bv).run P w = .ok x w ∧ v.den E = some x := by
  unfold xIndexAddr at hx
  split at hx
  · rename_i id off len cap k i
    split at hx
    case h_2 => cases hx
    rename_i d hd
    split at hx
    case h_2 => cases hx
    rename_i e he
    split at hx
    case h_2 => cases hx
    rename_i hlt
    split at hx
    case h_2 => cases hx
    rename_i j hj
    simp only [Option.some.injEq] at hx
    subst hx
    obtain ⟨hd1, _⟩ := hC.ty ty d hd
    obtain ⟨_, hj2⟩ := hC.ty e j hj
    simp only [SV.den, Option.map_eq_some_iff] at ha
    obtain ⟨p, hp, rfl⟩ := ha
    simp only [SV.den, SI.den, Option.some.injEq] at hb
    subst hb
    have hlt' : i < len := by simpa [Nat.blt_eq] using hlt
    rw [he] at hd1
    refine ⟨.pointer (some ⟨p.1, off + i * j.info.size, none⟩), ?_, by simp [SV.den, hp]⟩
    have h0 : (0 : Int) ≤ Int.ofNat i ∧ Int.ofNat i < (len : Int) := ⟨by simp, by simpa using hlt'⟩
    simp only [Instr.indexAt, asIntOf, Sem.run_bind, Sem.run_pure, Result.andThen_ok, run_underlying hd1, Addr.add_lit]
    simp [hlt', run_sizeOf' w hj2]
  · rename_i id off k i
    split at hx
    case h_2 => cases hx
    rename_i d hd
    split at hx
    case h_2 => cases hx
    rename_i len e he
    split at hx
    case h_2 => cases hx
    rename_i hlt
    split at hx
    case h_2 => cases hx
    rename_i j hj
    simp only [Option.some.injEq] at hx
    subst hx
    obtain ⟨hd1, _⟩ := hC.ty ty d hd
    obtain ⟨_, hj2⟩ := hC.ty e j hj
    simp only [SV.den, Option.map_eq_some_iff] at ha
    obtain ⟨p, hp, rfl⟩ := ha
    simp only [SV.den, SI.den, Option.some.injEq] at hb
    subst hb
    have hlt' : i < len := by simpa [Nat.blt_eq] using hlt
    rw [he] at hd1
    refine ⟨.pointer (some ⟨p.1, off + i * j.info.size, none⟩), ?_, by simp [SV.den, hp]⟩
    have h0 : (0 : Int) ≤ Int.ofNat i ∧ Int.ofNat i < (len : Int) := ⟨by simp, by simpa using hlt'⟩
    simp only [Instr.indexAt, asIntOf, Sem.run_bind, Sem.run_pure, Result.andThen_ok, run_underlying hd1, Addr.add_lit, Instr.sureAddr]
    simp [hlt', run_sizeOf' w hj2]
  · cases hx

/-! ### Slices that were there -/
noncomputable def _root_.Go.Xq.xLoadO (C : Cx) (ty : TypeId) (i k : Nat) : Option SV := match parX C.par i with
  | none => none
  | some (_, e, m) => match Nat.blt k m with
    | false => none
    | true => match C.tt.get ty with
      | none => none
      | some d => match isAggD d.desc with
        | true => none
        | false => some (.int .i64 (.var (Nat.add e k)))

theorem xLoadO_ok {E : Env} {h : Nat → Option AO} {n : Nat} {w : World} (s : SH C E h n w.heap) {ty : TypeId} {i k : Nat} {v : SV} {av : Value} (hx : xLoadO C ty i k = some v) (ha : (SV.optr i k).den E = some av) :
    ∃ x, (Instr.loadAt ty av).run P w = .ok x w ∧ v.den E = some x := by
  unfold xLoadO at hx
  split at hx
  · cases hx
  rename_i j e m hpar
  split at hx
  · cases hx
  rename_i hkm
  split at hx
  · cases hx
  rename_i d hd0
  obtain ⟨hd, hin⟩ := hC.ty ty d hd0
  split at hx
  · cases hx
  rename_i hagg
  cases hx
  obtain ⟨b, o, N, c, cs, et, fz, h1, h2, h3, h4, h5⟩ := hC.par i j e m hpar E.ints E.opq s.kn.2.1
  obtain ⟨b', o', N', c', rfl, h6, h7⟩ := optrV_eq ha
  rw [h1] at h6
  cases h6
  have hcell := h5 k (by simpa [Nat.blt_eq] using hkm) h7
  have hheap : w.heap[b]? = some (.cells cs et fz) := (s.anc.same b h3).trans h4
  have hc : w.cell? ⟨b, o + k, none⟩ = some (.int .i64 (E.ints (e + k))) := by rw [cell_of_row w b (o + k) _ et fz hheap]; exact hcell
  refine ⟨.int .i64 (E.ints (e + k)), ?_, rfl⟩
  show (loadVar ty ⟨b, o + k, none⟩).run P w = _
  simp only [loadVar, Sem.run_bind, run_isAgg' w hd, Result.andThen_ok, hagg]
  simp [hc]
end
end Go.Xq
