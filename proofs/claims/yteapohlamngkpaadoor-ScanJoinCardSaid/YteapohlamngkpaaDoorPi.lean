/-
  Values of a program as plain data: new memory, writes, maps, lists that are appended to.
-/
import Derived.Test.YteapohlamngkpaaDoorPh
namespace Go.Pv
open Go.RowKit
set_option linter.unusedVariables false

/-! ### Maps that are changed -/
open Classical in
noncomputable def mput (k v : PV) : List (PV × PV) → List (PV × PV)
  | [] => [(k, v)]
  | (a, b) :: r => if k = a then (k, v) :: r else (a, b) :: mput k v r

open Classical in
noncomputable def mdel (k : PV) : List (PV × PV) → List (PV × PV)
  | [] => []
  | (a, b) :: r => if k = a then r else (a, b) :: mdel k r

theorem mput_none {k v : PV} : ∀ {es : List (PV × PV)}, mfind k es = none → mput k v es = es ++ [(k, v)] ∧ mdel k es = es
  | [], _ => ⟨rfl, rfl⟩
  | (a, b) :: r, h => by
    by_cases e : k = a
    · simp [mfind, e] at h
    · simp only [mfind, e, if_false] at h
      obtain ⟨h1, h2⟩ := mput_none (v := v) h
      simp [mput, mdel, e, h1, h2]

theorem mput_some {E : Env} {d : TypeDesc} {kd : KD} (hd : keyD d = some kd) {k v : PV} {kv : Value} (kk : kd.ok k) (hk : Rep E k kv) : ∀ {es : List (PV × PV)} {ents : List MapEntry} {i j : Nat} {x : Value}, RepE E es ents → (∀ e ∈ es, kd.ok e.1) →
    Instr.findNow d kv ents i = some (some (j, x)) → i ≤ j ∧ mput k v es = es.set (j - i) (k, v) ∧ mdel k es = es.eraseIdx (j - i)
  | [], ents, i, j, x, he, _, h => by
    have he' : ents = [] := he
    subst he'
    simp [Instr.findNow] at h
  | (k', v') :: es, ents, i, j, x, he, hok, h => by
    obtain ⟨e, ents', rfl, h1, h2, h3⟩ := he
    obtain ⟨s1, s2⟩ := sameNow_ok hd kk (hok (k', v') (by simp)) hk h1
    by_cases hq : k = k'
    · obtain ⟨a, b⟩ := s1 hq
      simp [Instr.findNow, a] at h
      obtain ⟨rfl, _⟩ := h
      simp [mput, mdel, hq]
    · have a := s2 hq
      simp only [Instr.findNow, a] at h
      obtain ⟨g1, g2, g3⟩ := mput_some (v := v) hd kk hk (i := i + 1) h3 (fun x hx => hok x (List.mem_cons_of_mem _ hx)) h
      have e1 : j - i = (j - (i + 1)) + 1 := by omega
      refine ⟨by omega, ?_, ?_⟩
      · simp only [mput, hq, if_false, g2, e1, List.set_cons_succ]
      · simp only [mdel, hq, if_false, g3, e1, List.eraseIdx_cons_succ]

theorem RepE.set {E : Env} {k v : PV} {kv x : Value} (hk : Rep E k kv) (hv : Rep E v x) : ∀ {es : List (PV × PV)} {ents : List MapEntry} (j : Nat), RepE E es ents →
    RepE E (es.set j (k, v)) (ents.modify j fun e => { e with key := kv, val := x })
  | [], ents, j, h => by
    have h' : ents = [] := h
    subst h'
    cases j <;> exact rfl
  | (a, b) :: es, ents, 0, h => by
    obtain ⟨e, ents', rfl, h1, h2, h3⟩ := h
    exact ⟨_, _, rfl, hk, hv, h3⟩
  | (a, b) :: es, ents, j + 1, h => by
    obtain ⟨e, ents', rfl, h1, h2, h3⟩ := h
    exact ⟨e, _, rfl, h1, h2, RepE.set hk hv j h3⟩

theorem RepE.append {E : Env} {k v : PV} {e : MapEntry} (hk : Rep E k e.key) (hv : Rep E v e.val) : ∀ {es : List (PV × PV)} {ents : List MapEntry}, RepE E es ents → RepE E (es ++ [(k, v)]) (ents ++ [e])
  | [], ents, h => by
    have h' : ents = [] := h
    subst h'
    exact ⟨e, [], rfl, hk, hv, rfl⟩
  | (a, b) :: es, ents, h => by
    obtain ⟨e', ents', rfl, h1, h2, h3⟩ := h
    exact ⟨e', _, rfl, h1, h2, RepE.append hk hv h3⟩

theorem RepE.erase {E : Env} : ∀ {es : List (PV × PV)} {ents : List MapEntry} (j : Nat), RepE E es ents → RepE E (es.eraseIdx j) (ents.eraseIdx j)
  | [], ents, j, h => by
    have h' : ents = [] := h
    subst h'
    exact rfl
  | (a, b) :: es, ents, 0, h => by
    obtain ⟨e, ents', rfl, h1, h2, h3⟩ := h
    exact h3
  | (a, b) :: es, ents, j + 1, h => by
    obtain ⟨e, ents', rfl, h1, h2, h3⟩ := h
    exact ⟨e, _, rfl, h1, h2, RepE.erase j h3⟩

theorem mem_mput {k v : PV} {es : List (PV × PV)} {e : PV × PV} (h : e ∈ mput k v es) : e = (k, v) ∨ e ∈ es := by
  induction es with
  | nil => simp [mput] at h; exact Or.inl h
  | cons x es ih =>
    obtain ⟨a, b⟩ := x
    by_cases hq : k = a
    · simp [mput, hq] at h
      rcases h with h | h
      · left; rw [h, hq]
      · right; exact List.mem_cons_of_mem _ h
    · simp [mput, hq] at h
      rcases h with h | h
      · right; rw [h]; simp
      · rcases ih h with h | h
        · exact Or.inl h
        · exact Or.inr (List.mem_cons_of_mem _ h)

theorem mem_mdel {k : PV} {es : List (PV × PV)} {e : PV × PV} (h : e ∈ mdel k es) : e ∈ es := by
  induction es with
  | nil => simp [mdel] at h
  | cons x es ih =>
    obtain ⟨a, b⟩ := x
    by_cases hq : k = a
    · simp [mdel, hq] at h
      exact List.mem_cons_of_mem _ h
    · simp [mdel, hq] at h
      rcases h with h | h
      · rw [h]; simp
      · exact List.mem_cons_of_mem _ (ih h)

section
variable {C : Cx} (hC : C.Ok)

/-- An object becomes another. -/
theorem Post.setObj {nn mm : Nat} {E : Env} {s : Hs} {w : World} (h : SH C E s w.heap) {id b : Nat} {o o' : AO} {O : Obj} (hg : s.H id = some o) (hb : E.blk id = some b)
    (ho : o'.rel E b (w.heap.setIfInBounds b O)) : Post C nn mm E s w E ⟨hset s.H id (some o'), s.T, s.n, s.m⟩ { w with heap := w.heap.setIfInBounds b O } := by
  refine Post.change h hg hb ho rfl rfl rfl (by simp) ?_
  intro k hk
  show (w.heap.setIfInBounds b O)[k]? = _
  rw [Array.getElem?_setIfInBounds_ne (by omega)]

include hC
theorem mapUpdate_ok {nn mm : Nat} {E : Env} {s : Hs} {w : World} (h : SH C E s w.heap) {ty kt et : TypeId} {kd kd' : KD} {id : Nat} {es : List (PV × PV)} {k v : PV} {xv kv vv : Value} (hm : mapT C ty = some (kd, kt, et)) (hg : s.H id = some (.map kd' es)) (hkd' : kd' = kd) (hk : kd.ok k)
    (hxv : Rep E (.map id) xv) (hkv : Rep E k kv) (hvv : Rep E v vv) :
    ∃ w', (Instr.mapUpdate ty xv kv vv).run C.P w = .ok () w' ∧ Post C nn mm E s w E ⟨hset s.H id (some (.map kd' (mput k v es))), s.T, s.n, s.m⟩ w' := by
  subst hkd'
  obtain ⟨hd, d, hkd, hkey⟩ := mapT_ok hC hm
  obtain ⟨b, hb, ⟨⟨ents, clock, h1, h2⟩, h3⟩, _⟩ := h.obj hg
  simp only [Rep] at hxv
  obtain ⟨b', hb', rfl⟩ := hxv
  rw [hb] at hb'; cases hb'
  have hck := run_checkKey (P := C.P) (w := w) false kv hkd (keyD_key hkey)
  have hgo : (getObj b).run C.P w = .ok (.map ents clock) w := by simp [getObj, Sem.run, h1]
  have hlt : b < w.heap.size := (Array.getElem?_eq_some_iff.1 h1).1
  have hso : ∀ O : Obj, (setObj b O).run C.P w = .ok () { w with heap := w.heap.setIfInBounds b O } := by
    intro O; simp [setObj, Sem.run, h1]
  obtain ⟨q1, q2⟩ := mfind_ok hkey hk hkv 0 h2 h3
  have hok : ∀ e ∈ mput k v es, kd'.ok e.1 := fun e he => (mem_mput he).elim (fun e1 => by rw [e1]; exact hk) (h3 e)
  cases hf : mfind k es with
  | some u =>
    obtain ⟨j, y, e, e1, e2, e3, e4, e5, e6, e7⟩ := q2 u hf
    obtain ⟨_, m1, _⟩ := mput_some (v := v) hkey hk hkv h2 h3 e2
    have hfk := run_findKey (P := C.P) (w := w) hkd e2
    simp only [Nat.sub_zero] at e4 m1
    have hkts : (Instr.keyThatStays (((ents[j]?).map (·.key)).getD kv) kv).run C.P w = .ok kv w := by
      have : ents[j]? = some e := by simpa using e4
      rw [this]
      simp [Instr.keyThatStays, e6]
    refine ⟨_, ?_, Post.setObj (O := .map (ents.modify j fun e => { e with key := kv, val := vv }) clock) h hg hb ⟨⟨ents.modify j fun e => { e with key := kv, val := vv }, clock, by simp [hlt], ?_⟩, hok⟩⟩
    · simp only [Instr.mapUpdate, Sem.run_bind, run_underlying hd, Result.andThen_ok, hgo, hck, hfk, hkts, hso]
    · have := RepE.set hkv hvv j h2
      rw [m1]
      simpa using this
  | none =>
    have hfk := run_findKey (P := C.P) (w := w) hkd (q1 hf)
    refine ⟨_, ?_, Post.setObj (O := .map (ents.push { key := kv, val := vv, born := clock }) (clock + 1)) h hg hb ⟨⟨ents.push { key := kv, val := vv, born := clock }, clock + 1, by simp [hlt], ?_⟩, hok⟩⟩
    · simp only [Instr.mapUpdate, Sem.run_bind, run_underlying hd, Result.andThen_ok, hgo, hck, hfk, hso]
    · have := RepE.append (e := { key := kv, val := vv, born := clock }) hkv hvv h2
      rw [(mput_none hf).1]
      simpa using this

theorem mapDelete_ok {nn mm : Nat} {E : Env} {s : Hs} {w : World} (h : SH C E s w.heap) {ty kt et rt : TypeId} {ats : Array TypeId} {kd kd' : KD} {id : Nat} {es : List (PV × PV)} {k : PV} {xv kv : Value} (hm : mapT C ty = some (kd, kt, et)) (hg : s.H id = some (.map kd' es)) (hkd' : kd' = kd) (hk : kd.ok k)
    (hxv : Rep E (.map id) xv) (hkv : Rep E k kv) (hat : ats[0]? = some ty) :
    ∃ w', (Builtin.delete_ ats rt #[xv, kv]).run C.P w = .ok (.tuple #[]) w' ∧ Post C nn mm E s w E ⟨hset s.H id (some (.map kd' (mdel k es))), s.T, s.n, s.m⟩ w' := by
  subst hkd'
  obtain ⟨hd, d, hkd, hkey⟩ := mapT_ok hC hm
  obtain ⟨b, hb, ⟨⟨ents, clock, h1, h2⟩, h3⟩, _⟩ := h.obj hg
  simp only [Rep] at hxv
  obtain ⟨b', hb', rfl⟩ := hxv
  rw [hb] at hb'; cases hb'
  have hck := fun e => run_checkKey (P := C.P) (w := w) e kv hkd (keyD_key hkey)
  have hgo : (getObj b).run C.P w = .ok (.map ents clock) w := by simp [getObj, Sem.run, h1]
  have hlt : b < w.heap.size := (Array.getElem?_eq_some_iff.1 h1).1
  have hso : ∀ O : Obj, (Go.setObj b O).run C.P w = .ok () { w with heap := w.heap.setIfInBounds b O } := by
    intro O; simp [Go.setObj, Sem.run, h1]
  obtain ⟨q1, q2⟩ := mfind_ok hkey hk hkv 0 h2 h3
  have hok : ∀ e ∈ mdel k es, kd'.ok e.1 := fun e he => h3 e (mem_mdel he)
  cases hf : mfind k es with
  | some u =>
    obtain ⟨j, y, e, e1, e2, e3, e4, e5, e6, e7⟩ := q2 u hf
    obtain ⟨_, _, m1⟩ := mput_some (v := .nilp) hkey hk hkv h2 h3 e2
    have hfk := run_findKey (P := C.P) (w := w) hkd e2
    simp only [Nat.sub_zero] at m1
    refine ⟨_, ?_, Post.setObj (O := .map (ents.eraseIdxIfInBounds j) clock) h hg hb ⟨⟨ents.eraseIdxIfInBounds j, clock, by simp [hlt], ?_⟩, hok⟩⟩
    · simp [Builtin.delete_, hat, run_underlying hd, hck, hgo, hfk, hso]
    · have := RepE.erase j h2
      rw [m1]
      simpa using this
  | none =>
    have hfk := run_findKey (P := C.P) (w := w) hkd (q1 hf)
    refine ⟨_, ?_, Post.setObj (O := .map ents clock) h hg hb ⟨⟨ents, clock, by simp [hlt], by rw [(mput_none (v := .nilp) hf).2]; exact h2⟩, hok⟩⟩
    simp [Builtin.delete_, hat, run_underlying hd, hck, hgo, hfk, hso]

/-! ### Cells that are written -/
omit hC in
theorem run_storeCells_at {P : Program} (g o : Nat) (t : TypeId) (fz : Nat × Nat) : ∀ (vs : List Value) (i : Nat) (l : List Value) (w : World), w.heap[g]? = some (.cells l.toArray t fz) → o + i + vs.length ≤ l.length →
    (fz = (0, 0) ∨ fz.2 ≤ o + i) → (∀ v ∈ vs, v.oneCell' = true) →
    (storeCells ⟨g, o, none⟩ vs i).run P w = .ok () (w.setRow g (spliceV l (o + i) vs).toArray)
  | [], i, l, w, hg, _, _, _ => by
    simp only [storeCells, spliceV]
    rw [setRow_self w g l.toArray t fz hg]; rfl
  | v :: vs, i, l, w, hg, hl, hf, h1 => by
    simp only [List.length_cons] at hl
    have hadd : (⟨g, o, none⟩ : Addr).add i = ⟨g, o + i, none⟩ := by unfold Addr.add; split <;> simp_all
    have hcell : w.cell? ⟨g, o + i, none⟩ = some (l[o + i]'(by omega)) := by
      rw [cell_of_row w g (o + i) l.toArray t fz hg]; simp
    have hfro : w.frozen? ⟨g, o + i, none⟩ = false := by
      rcases hf with rfl | hf
      · simp [World.frozen?, hg]
      · obtain ⟨f1, f2⟩ := fz
        simp only at hf
        simp only [World.frozen?, hg, Bool.and_eq_false_iff, decide_eq_false_iff_not]
        right; omega
    have hst : (store ((⟨g, o, none⟩ : Addr).add i) v).run P w = .ok () (w.setRow g (l.set (o + i) v).toArray) := by
      rw [hadd, run_store P w _ v _ (h1 v (by simp)), hcell]
      simp [hfro, setCell_setRow' w g (o + i) l t fz v hg]
    have ih := run_storeCells_at (P := P) g o t fz vs (i + 1) (l.set (o + i) v) (w.setRow g (l.set (o + i) v).toArray) (setRow_heap w g l.toArray _ t _ hg) (by simp; omega)
      (hf.imp id (fun h => by omega)) (fun x hx => h1 x (by simp [hx]))
    simp only [storeCells, Sem.run_bind, hst, Result.andThen_ok, ih, setRow_setRow]
    rfl

omit hC in
theorem allOne_rep {E : Env} : ∀ {vs : List PV} {xs : List Value}, RepL E vs xs → (∀ v ∈ vs, oneP v = true) → ∀ x ∈ xs, x.oneCell' = true
  | [], xs, h, _, x, hx => by rw [h.nil] at hx; cases hx
  | v :: vs, xs, h, k, x, hx => by
    obtain ⟨y, r, rfl, h1, h2⟩ := h.cons
    rcases List.mem_cons.1 hx with rfl | hx
    · exact h1.one (k v (by simp))
    · exact allOne_rep h2 (fun u hu => k u (List.mem_cons_of_mem _ hu)) x hx

/-- All cells of one. -/
def _root_.Go.Pv.Ones : List PV → Prop
  | [] => True
  | .agg _ :: _ => False
  | .tup _ :: _ => False
  | _ :: r => Ones r

omit hC in
theorem Ones.all : ∀ {vs : List PV}, Ones vs → ∀ v ∈ vs, oneP v = true
  | [], _, v, hv => by cases hv
  | u :: r, h, v, hv => by
    have h1 : oneP u = true ∧ Ones r := by cases u <;> simp only [Ones] at h <;> first | exact ⟨rfl, h⟩ | exact h.elim
    rcases List.mem_cons.1 hv with rfl | hv
    · exact h1.1
    · exact Ones.all h1.2 v hv

theorem store_ok {nn mm : Nat} {E : Env} {s : Hs} {w : World} (h : SH C E s w.heap) {ty : TypeId} {n : Option Nat} {id off : Nat} {cs : List PV} {e : TypeId} {more : Bool} {v : PV} {av x : Value} (hs : szT C ty = some n) (hsz : sizeT C ty = some (n.getD 1)) (hg : s.H id = some (.cells cs e more))
    (hsh : Shape n v) (h1 : Ones (cellsP v)) (hfit : off + n.getD 1 ≤ cs.length) (ha : Rep E (.ptr id off) av) (hv : Rep E v x) :
    ∃ w', (Instr.storeAt ty av x).run C.P w = .ok () w' ∧ Post C nn mm E s w E ⟨hset s.H id (some (.cells (putP cs off (cellsP v)) e more)), s.T, s.n, s.m⟩ w' := by
  obtain ⟨b, hb, ⟨vs, rest, r1, r2, r3⟩, _⟩ := h.obj hg
  simp only [Rep] at ha
  obtain ⟨b', hb', rfl⟩ := ha
  rw [hb] at hb'; cases hb'
  obtain ⟨i, hi, his⟩ := sizeT_ok hC hsz
  have hcs := hv.cells
  have hcl := hsh.len
  have hlen := hcs.length
  have hvl := r1.length
  have hrun := run_storeCells_at (P := C.P) b off e (0, 0) x.cells.toList 0 (vs ++ rest) w r2 (by simp only [List.length_append]; omega) (Or.inl rfl) (allOne_rep hcs h1.all)
  rw [Nat.add_zero, spliceV_append _ _ _ _ (by omega)] at hrun
  refine ⟨w.setRow b (spliceV vs off x.cells.toList ++ rest).toArray, ?_, Post.change h hg hb ?_ rfl rfl rfl (by simp) (fun k hk => setRow_other' w b k _ hk)⟩
  · have hns : x.cells.size = i.size := by rw [his, ← hcl, ← hlen]; simp
    simp only [Instr.storeAt, Instr.sureAddr, Sem.run_bind, Sem.run_pure, Result.andThen_ok, storeVar, run_sizeOf' w hi, hns, ne_eq, not_true_eq_false, if_false]
    exact hrun
  · exact ⟨spliceV vs off x.cells.toList, rest, putP_ok off r1 hcs, setRow_heap w b _ _ e _ r2, r3⟩
end
end Go.Pv
