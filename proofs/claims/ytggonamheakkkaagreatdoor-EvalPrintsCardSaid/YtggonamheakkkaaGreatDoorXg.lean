/-
  A run of closed code by the kernel: literals, makes, conversions, type assertions.
-/
import Derived.Test.YtggonamheakkkaaGreatDoorXf
namespace Go.Xq
open Go.RowKit
set_option linter.unusedVariables false

/-! ### Literals of structs, arrays, slices -/
/-- Parts are put into cells. -/
noncomputable def xFill (place : Nat → Option (Nat × Nat)) : List SV → List (Nat × SV) → Option (List SV)
  | cells, [] => some cells
  | cells, (i, v) :: r => match place i with
    | none => none
    | some (off, size) =>
      let l := cellsS v
      match Nat.beq l.length size with
      | false => none
      | true => match Nat.ble (Nat.add off l.length) cells.length with
        | false => none
        | true => xFill place (splice cells off l) r

theorem fold_set (xs : List Value) : ∀ (m : List Value) (off k : Nat), ((xs.zipIdx k).foldl (fun (cs : Array Value) (c, j) => cs.setIfInBounds (off + j) c) m.toArray) = (spliceV m (off + k) xs).toArray := by
  induction xs with
  | nil => intro m off k; rfl
  | cons x xs ih =>
    intro m off k
    simp only [List.zipIdx_cons, List.foldl_cons, List.setIfInBounds_toArray]
    rw [ih, spliceV, Nat.add_assoc]

noncomputable def partsDen (E : Env) : List (Nat × SV) → List (Nat × Value) → Prop
  | [], b => b = []
  | (i, v) :: r, b => ∃ x b', b = (i, x) :: b' ∧ v.den E = some x ∧ partsDen E r b'

theorem flat_len (l : List Value) : ∀ n, (List.replicate n l).flatten.length = n * l.length
  | 0 => by simp
  | n + 1 => by rw [List.replicate_succ, List.flatten_cons, List.length_append, flat_len l n, Nat.succ_mul, Nat.add_comm]

theorem xFill_ok {E : Env} {place : Nat → Option (Nat × Nat)} : ∀ {parts : List (Nat × SV)} {pv : List (Nat × Value)} {cells r : List SV} {m : List Value}, xFill place cells parts = some r → denL E cells = some m →
    partsDen E parts pv → ∃ out, Instr.fill place m.toArray pv = some out.toArray ∧ denL E r = some out ∧ out.length = m.length
  | [], pv, cells, r, m, hx, hm, hp => by
    have hp' : pv = [] := hp
    subst hp'
    simp only [xFill, Option.some.injEq] at hx; subst hx
    exact ⟨m, rfl, hm, rfl⟩
  | (i, v) :: ps, pv, cells, r, m, hx, hm, hp => by
    obtain ⟨x, pv', rfl, hv, h2⟩ := hp
    simp only [xFill] at hx
    split at hx
    · cases hx
    rename_i off size hpl
    split at hx
    · cases hx
    rename_i hs
    split at hx
    · cases hx
    rename_i hf
    have hc := cellsS_den hv
    have hl := denL_length hc
    have hml := denL_length hm
    have hs' : (cellsS v).length = size := Nat.eq_of_beq_eq_true hs
    have hf' : off + (cellsS v).length ≤ cells.length := Nat.le_of_ble_eq_true hf
    obtain ⟨out, ho, hd, hlen⟩ := xFill_ok hx (splice_den off hm hc) h2
    refine ⟨out, ?_, hd, by rw [hlen, spliceV_length]⟩
    have hsz : x.cells.size = size := by rw [← hs', ← hl]; simp
    have hsz2 : x.cells.size = x.cells.toList.length := by simp
    have hfold := fold_set x.cells.toList m off 0
    rw [Nat.add_zero] at hfold
    have hz : x.cells.zipIdx.foldl (fun (cs : Array Value) (c, j) => cs.setIfInBounds (off + j) c) m.toArray = (spliceV m off x.cells.toList).toArray := by
      rw [← hfold, ← Array.foldl_toList]; simp
    simp only [Instr.fill, hpl]
    rw [if_neg (by simp only [hsz, ne_eq, not_true_eq_false, List.size_toArray, decide_false, Bool.false_or, decide_eq_true_eq]; omega), hz]
    exact ho

noncomputable def placesS (C : Cx) : List Field → Option (List (Nat × Nat))
  | [] => some []
  | f :: r => match C.tt.get f.type with
    | none => none
    | some i => match placesS C r with
      | none => none
      | some l => some ((f.offset, i.info.size) :: l)

noncomputable def xBuild (C : Cx) (t : TypeId) (parts : List (Nat × SV)) : Option SV :=
  match C.tt.get t with
  | none => none
  | some i => match i.info.zero with
    | none => none
    | some z => match ofV z with
      | none => none
      | some zv => match i.desc with
        | .struct fs => match placesS C fs.toList with
          | none => none
          | some pl => match xFill (fun k => pl[k]?) (cellsS zv) parts with
            | some cs => some (.agg cs)
            | none => none
        | .array _ e => match C.tt.get e with
          | none => none
          | some ei => match xFill (fun k => some (Nat.mul k ei.info.size, ei.info.size)) (cellsS zv) parts with
            | some cs => some (.agg cs)
            | none => none
        | _ => none

section
variable {P : Program} {C : Cx} (hC : C.Ok P)

theorem run_mapM_list {α β : Type} (w : World) (g : α → Sem β) (r : α → β) : ∀ (l : List α), (∀ a ∈ l, (g a).run P w = .ok (r a) w) → (l.mapM g).run P w = .ok (l.map r) w
  | [], _ => rfl
  | a :: l, h => by
    have := run_mapM_list w g r l (fun b hb => h b (List.mem_cons_of_mem _ hb))
    simp only [List.mapM_cons, Sem.run_bind, h a (List.mem_cons_self), Result.andThen_ok, this, Sem.run_pure, List.map_cons]

theorem run_mapM_array {α β : Type} (w : World) (g : α → Sem β) (r : α → β) (l : Array α) (h : ∀ a ∈ l, (g a).run P w = .ok (r a) w) : (l.mapM g).run P w = .ok (l.map r) w := by
  rw [Array.mapM_eq_mapM_toList]
  have := run_mapM_list (P := P) w g r l.toList (fun a ha => h a (by simpa using ha))
  simp only [Sem.run_map, this, Result.andThen_ok]
  congr 1
  apply Array.ext'; simp

include hC
theorem placesS_ok : ∀ {l : List Field} {pl : List (Nat × Nat)}, placesS C l = some pl → (∀ f ∈ l, ∃ i, C.tt.get f.type = some i) ∧ pl = l.map fun f => (f.offset, ((P.info? f.type).map (·.size)).getD 0)
  | [], pl, h => by simp only [placesS, Option.some.injEq] at h; subst h; exact ⟨(fun f hf => nomatch hf), rfl⟩
  | f :: l, pl, h => by
    simp only [placesS] at h
    split at h
    · cases h
    rename_i i hi
    split at h
    · cases h
    rename_i q hq
    cases h
    obtain ⟨a, b⟩ := placesS_ok hq
    refine ⟨fun g hg => ?_, ?_⟩
    · rcases List.mem_cons.1 hg with rfl | hg
      · exact ⟨i, hi⟩
      · exact a g hg
    · rw [b]; simp [(hC.ty _ i hi).2]

theorem xBuild_ok {E : Env} {w : World} {t : TypeId} {parts : List (Nat × SV)} {pv : List (Nat × Value)} {v : SV} (hx : xBuild C t parts = some v)
    (hp : partsDen E parts pv) : ∃ u, (Instr.build t pv.toArray).run P w = .ok u w ∧ v.den E = some u := by
  simp only [xBuild] at hx
  split at hx
  · cases hx
  rename_i i hi
  obtain ⟨hd, hin⟩ := hC.ty t i hi
  split at hx
  · cases hx
  rename_i z hz
  split at hx
  · cases hx
  rename_i zv hzv
  have hzd := cellsS_den (ofV_den E z zv hzv)
  split at hx
  · rename_i fs hfs
    rw [hfs] at hd
    split at hx
    · cases hx
    rename_i pl hpl
    split at hx
    case h_2 => cases hx
    rename_i cs hcs
    cases hx
    obtain ⟨hall, hple⟩ := placesS_ok hC hpl
    obtain ⟨out, ho, hod, _⟩ := xFill_ok hcs hzd hp
    refine ⟨.agg out.toArray, ?_, by simp [SV.den, hod]⟩
    have hmap := run_mapM_array (P := P) w (fun f : Field => (do pure (f.offset, ← sizeOf f.type) : Sem (Nat × Nat))) (fun f => (f.offset, ((P.info? f.type).map (·.size)).getD 0)) fs (by
      intro f hf
      obtain ⟨j, hj⟩ := hall f (by simpa using hf)
      have := (hC.ty _ j hj).2
      simp [run_sizeOf' w this, this])
    have hpp : (fun x => (Array.map (fun f : Field => (f.offset, ((P.info? f.type).map (·.size)).getD 0)) fs)[x]?) = fun k : Nat => pl[k]? := by
      funext k; rw [hple]; simp
    simp only [Instr.build, Sem.run_bind, run_zeroValue' w hin hz, Result.andThen_ok, run_underlying hd, hmap]
    rw [hpp]
    have ho' : Instr.fill (fun k => pl[k]?) z.cells pv = some out.toArray := by simpa using ho
    simp [ho']
  · rename_i m e he
    rw [he] at hd
    split at hx
    · cases hx
    rename_i ei hei
    split at hx
    case h_2 => cases hx
    rename_i cs hcs
    cases hx
    obtain ⟨out, ho, hod, _⟩ := xFill_ok hcs hzd hp
    refine ⟨.agg out.toArray, ?_, by simp [SV.den, hod]⟩
    have ho' : Instr.fill (fun k => some (k * ei.info.size, ei.info.size)) z.cells pv = some out.toArray := by simpa using ho
    simp only [Instr.build, Sem.run_bind, run_zeroValue' w hin hz, Result.andThen_ok, run_underlying hd, run_sizeOf' w (hC.ty e ei hei).2]
    simp [ho']
  · cases hx

omit hC in
/-- So many zero values, one behind the other. -/
noncomputable def _root_.Go.Xq.reps : Nat → List SV → List SV
  | 0, _ => []
  | n + 1, z => z ++ reps n z

omit hC in
theorem reps_den {E : Env} {z : List SV} {m : List Value} (h : denL E z = some m) : ∀ n, denL E (reps n z) = some (List.replicate n m).flatten
  | 0 => rfl
  | n + 1 => by
    rw [reps, List.replicate_succ, List.flatten_cons]
    exact denL_append h (reps_den h n)

omit hC in
theorem madeCells_eq (z : Array Value) : ∀ n, madeCells z (n * z.size) = (List.replicate n z.toList).flatten.toArray := by
  intro n
  apply Array.ext'
  apply List.ext_getElem?
  intro i
  rw [madeCells]
  simp only [Array.toList_map, Array.toList_range, List.getElem?_map]
  by_cases hi : i < n * z.size
  · have hz : 0 < z.size := by
      rcases Nat.eq_zero_or_pos z.size with h | h
      · rw [h] at hi; omega
      · exact h
    have hm : i % z.size < z.size := Nat.mod_lt _ hz
    rw [List.getElem?_range hi]
    simp only [Option.map_some]
    have key : ∀ (n i : Nat), i < n * z.size → ((List.replicate n z.toList).flatten)[i]? = some z[i % z.size]! := by
      intro n
      induction n with
      | zero => intro i h; omega
      | succ n ih =>
        intro i h
        rw [List.replicate_succ, List.flatten_cons]
        by_cases h1 : i < z.size
        · rw [List.getElem?_append_left (by simpa using h1), Nat.mod_eq_of_lt h1]
          simp [h1]
        · rw [List.getElem?_append_right (by simpa using h1)]
          rw [Nat.succ_mul] at h
          simp only [Array.length_toList]
          have hmm : i % z.size = (i - z.size) % z.size := Nat.mod_eq_sub_mod (by omega)
          rw [ih (i - z.size) (by omega), hmm]
    exact (key n i hi).symm
  · rw [List.getElem?_eq_none (by simp; omega)]
    simp only [Option.map_none]
    rw [List.getElem?_eq_none]
    rw [flat_len, Array.length_toList]
    omega

/-- A new row. -/
noncomputable def _root_.Go.Xq.xRow (n : Nat) (e : TypeId) (cs : List SV) (len cap : Nat) : Option (SV × AO) := some (.slice n 0 len (.fix cap), .cells cs e none false)

omit hC in
theorem xRow_ok {E : Env} {n : Nat} {w : World} (hn : E.blk n = none) {e : TypeId} {cs : List SV} {xs : List Value} {len cap : Nat} {r : SV} {o : AO} (hx : xRow n e cs len cap = some (r, o)) (hc : denL E cs = some xs) :
    AOK E w n r o (.cells xs.toArray e) (.slice (some ⟨w.heap.size, 0, none⟩) len cap) := by
  simp only [xRow, Option.some.injEq, Prod.mk.injEq] at hx
  obtain ⟨rfl, rfl⟩ := hx
  exact ⟨0, by simp [SV.den, Env.set_same, Cap.den], xs, [], (0, 0), denL_mono (Env.set_le hn) _ _ hc, by simp, fun _ => rfl, (fun sz h => nomatch h), fun _ => rfl, Or.inl rfl⟩

noncomputable def _root_.Go.Xq.xBuildSlice (C : Cx) (n : Nat) (t : TypeId) (len : Nat) (parts : List (Nat × SV)) : Option (SV × AO) :=
  match C.tt.get t with
  | none => none
  | some i => match i.desc with
    | .slice e => match C.tt.get e with
      | none => none
      | some ei => match Nat.ble (Nat.mul len ei.info.size) 16777216 with
        | false => none
        | true => match ei.info.zero with
          | none => none
          | some z => match ofV z with
            | none => none
            | some zv => match Nat.beq (cellsS zv).length ei.info.size with
              | false => none
              | true => match xFill (fun k => some (Nat.mul k ei.info.size, ei.info.size)) (reps len (cellsS zv)) parts with
                | some cs => xRow n e cs len len
                | none => none
    | _ => none

theorem xBuildSlice_ok {E : Env} {n : Nat} {w : World} (hn : E.blk n = none) {t : TypeId} {len : Nat} {parts : List (Nat × SV)} {pv : List (Nat × Value)} {r : SV} {o : AO} (hx : xBuildSlice C n t len parts = some (r, o))
    (hp : partsDen E parts pv) :
    ∃ O y, (Instr.buildSlice t len pv.toArray).run P w = .ok y (w.alloc O) ∧ AOK E w n r o O y := by
  simp only [xBuildSlice] at hx
  split at hx
  · cases hx
  rename_i i hi
  obtain ⟨hd, hin⟩ := hC.ty t i hi
  split at hx
  case h_2 => cases hx
  rename_i e he
  rw [he] at hd
  split at hx
  · cases hx
  rename_i ei hei
  obtain ⟨_, hein⟩ := hC.ty e ei hei
  split at hx
  · cases hx
  rename_i hsm
  split at hx
  · cases hx
  rename_i z hz
  split at hx
  · cases hx
  rename_i zv hzv
  split at hx
  · cases hx
  rename_i hzs
  split at hx
  case h_2 => cases hx
  rename_i cs hcs
  have hzd := cellsS_den (ofV_den E z zv hzv)
  have hzl := denL_length hzd
  have hzs' : (cellsS zv).length = ei.info.size := Nat.eq_of_beq_eq_true hzs
  have hsm' : len * ei.info.size ≤ 16777216 := Nat.le_of_ble_eq_true hsm
  have hzc : z.cells.size = ei.info.size := by rw [← hzs', ← hzl]; simp
  obtain ⟨out, ho, hod, hol⟩ := xFill_ok hcs (reps_den hzd len) hp
  have hpost := xRow_ok (w := w) hn hx hod
  refine ⟨_, _, ?_, hpost⟩
  have hno : ¬ (len * ei.info.size > 2 ^ 24) := by omega
  have hmade : (Array.range (len * ei.info.size)).map (z.cells[· % z.cells.size]!) = (List.replicate len z.cells.toList).flatten.toArray := by
    rw [← hzc]; exact madeCells_eq z.cells len
  have hno' : ¬ (16777216 < len * ei.info.size) := by omega
  by_cases h0 : len * ei.info.size = 0
  · have hemp : (List.replicate len z.cells.toList).flatten = [] := by
      apply List.eq_nil_of_length_eq_zero
      rw [flat_len, Array.length_toList, hzc]
      exact h0
    rw [hemp] at ho
    have ho' : Instr.fill (fun k => some (k * ei.info.size, ei.info.size)) #[] pv = some out.toArray := ho
    simp [Instr.buildSlice, run_underlying hd, run_sizeOf' w hein, h0, newRow, Array.range_zero', ho']
  · have ho' : Instr.fill (fun k => some (k * ei.info.size, ei.info.size)) (List.replicate len z.cells.toList).flatten.toArray pv = some out.toArray := ho
    simp [Instr.buildSlice, run_underlying hd, run_sizeOf' w hein, hno', h0, run_zeroValue' w hein hz, newRow]
    rw [hmade, ho']
    simp

noncomputable def _root_.Go.Xq.xMakeSlice (C : Cx) (n : Nat) (t : TypeId) : SV → SV → Option (SV × AO)
  | .int _ (.lit (.ofNat len)), .int _ (.lit (.ofNat cap)) => match C.tt.get t with
    | none => none
    | some i => match i.desc with
      | .slice e => match C.tt.get e with
        | none => none
        | some ei => match ei.info.zero with
          | none => none
          | some z => match ofV z with
            | none => none
            | some zv => match Nat.beq (cellsS zv).length ei.info.size with
              | false => none
              | true => match Nat.ble len cap with
                | false => none
                | true => match Nat.ble (Nat.mul ei.info.bytes cap) 281474976710656 with
                  | false => none
                  | true => match Nat.ble cap 9223372036854775807 with
                    | false => none
                    | true => xRow n e (reps cap (cellsS zv)) len cap
      | _ => none
  | _, _ => none

theorem xMakeSlice_ok {E : Env} {n : Nat} {w : World} (hn : E.blk n = none) {t : TypeId} {a b r : SV} {o : AO} {av bv : Value} (hx : xMakeSlice C n t a b = some (r, o)) (ha : a.den E = some av) (hb : b.den E = some bv) :
    ∃ O y, (Instr.makeSlice t av bv).run P w = .ok y (w.alloc O) ∧ AOK E w n r o O y := by
  unfold xMakeSlice at hx
  split at hx
  case h_2 => cases hx
  rename_i k1 len k2 cap
  cases ha; cases hb
  split at hx
  · cases hx
  rename_i i hi
  obtain ⟨hd, hin⟩ := hC.ty t i hi
  split at hx
  case h_2 => cases hx
  rename_i e he
  rw [he] at hd
  split at hx
  · cases hx
  rename_i ei hei
  obtain ⟨_, hein⟩ := hC.ty e ei hei
  split at hx
  · cases hx
  rename_i z hz
  split at hx
  · cases hx
  rename_i zv hzv
  split at hx
  · cases hx
  rename_i hzs
  split at hx
  · cases hx
  rename_i h1
  split at hx
  · cases hx
  rename_i h2
  split at hx
  · cases hx
  rename_i h3
  have hzd := cellsS_den (ofV_den E z zv hzv)
  have hzl := denL_length hzd
  have hzs' : (cellsS zv).length = ei.info.size := Nat.eq_of_beq_eq_true hzs
  have hzc : z.cells.size = ei.info.size := by rw [← hzs', ← hzl]; simp
  have h1' : len ≤ cap := Nat.le_of_ble_eq_true h1
  have h2' : ei.info.bytes * cap ≤ 281474976710656 := Nat.le_of_ble_eq_true h2
  have h3' : cap ≤ 9223372036854775807 := Nat.le_of_ble_eq_true h3
  have hpost := xRow_ok (w := w) hn hx (reps_den hzd cap)
  refine ⟨_, _, ?_, hpost⟩
  have := run_make (P := P) w t e ei.info z hd hein hz k1 k2 (Int.ofNat len) (Int.ofNat cap) (by simp) (by simpa using h1') (by simp only [Int.ofNat_eq_natCast]; omega) (by simp only [Int.ofNat_eq_natCast]; omega)
  simp only [SI.den]
  rw [this]
  have hmc : madeCells z.cells (cap * ei.info.size) = (List.replicate cap z.cells.toList).flatten.toArray := by rw [← hzc]; exact madeCells_eq z.cells cap
  simp only [Int.ofNat_eq_natCast, Int.toNat_natCast, hmc]

/-! ### Interfaces -/
noncomputable def _root_.Go.Xq.xMakeIface (C : Cx) (t : TypeId) (v : SV) : Option SV :=
  match C.tt.get t with
  | none => none
  | some i => match i.desc with
    | .interface _ => none
    | _ => some (.iface t v)

theorem xMakeIface_ok {E : Env} {w : World} {t : TypeId} {a v : SV} {av : Value} (hx : xMakeIface C t a = some v) (ha : a.den E = some av) : ∃ u, (Instr.makeInterface t av).run P w = .ok u w ∧ v.den E = some u := by
  simp only [xMakeIface] at hx
  split at hx
  · cases hx
  rename_i i hi
  obtain ⟨hd, hin⟩ := hC.ty t i hi
  split at hx
  · cases hx
  rename_i hn
  cases hx
  refine ⟨.iface t av, ?_, by simp [SV.den, ha]⟩
  generalize i.desc = d at hd hn
  simp only [Instr.makeInterface, Sem.run_bind, run_underlying hd, Result.andThen_ok]
  cases d <;> first | rfl | exact (hn _ rfl).elim

noncomputable def _root_.Go.Xq.xAssert (C : Cx) (x : SV) (asserted : TypeId) (ok : Bool) : Option SV :=
  match C.tt.get asserted with
  | none => none
  | some i => match i.desc with
    | .interface _ => none
    | _ => match x with
      | .nilIface => match ok with
        | false => none
        | true => match i.info.zero with
          | none => none
          | some z => match ofV z with
            | none => none
            | some zv => some (.tuple [zv, .bool false])
      | .iface t v => match Nat.beq t asserted with
        | true => some (match ok with | true => .tuple [v, .bool true] | false => v)
        | false => match ok with
          | false => none
          | true => match i.info.zero with
            | none => none
            | some z => match ofV z with
              | none => none
              | some zv => some (.tuple [zv, .bool false])
      | _ => none

theorem xAssert_ok {E : Env} {w : World} {xt t : TypeId} {ok : Bool} {a v : SV} {av : Value} (hx : xAssert C a t ok = some v) (ha : a.den E = some av) : ∃ u, (Instr.typeAssert av xt t ok).run P w = .ok u w ∧ v.den E = some u := by
  simp only [xAssert] at hx
  split at hx
  · cases hx
  rename_i i hi
  obtain ⟨hd, hin⟩ := hC.ty t i hi
  split at hx
  · cases hx
  rename_i hn
  generalize i.desc = d at hd hn
  split at hx
  · cases ha
    split at hx
    · cases hx
    split at hx
    · cases hx
    rename_i z hz
    split at hx
    · cases hx
    rename_i zv hzv
    cases hx
    refine ⟨.tuple #[z, .bool false], ?_, by simp [SV.den, denL, ofV_den E z zv hzv]⟩
    simp only [Instr.typeAssert, Sem.run_bind, run_underlying hd, Result.andThen_ok]
    cases d <;> first | exact (hn _ rfl).elim | simp [run_zeroValue' w hin hz]
  · rename_i tx vx
    simp only [SV.den, Option.map_eq_some_iff] at ha
    obtain ⟨xv, hxv, rfl⟩ := ha
    split at hx
    · rename_i he
      have he' := Nat.eq_of_beq_eq_true he
      subst he'
      cases hx
      cases ok
      · refine ⟨xv, ?_, hxv⟩
        simp only [Instr.typeAssert, Sem.run_bind, run_underlying hd, Result.andThen_ok]
        cases d <;> first | exact (hn _ rfl).elim | simp
      · refine ⟨.tuple #[xv, .bool true], ?_, by simp [SV.den, denL, hxv]⟩
        simp only [Instr.typeAssert, Sem.run_bind, run_underlying hd, Result.andThen_ok]
        cases d <;> first | exact (hn _ rfl).elim | simp
    · rename_i hne
      have hne' := Nat.ne_of_beq_eq_false hne
      split at hx
      · cases hx
      split at hx
      · cases hx
      rename_i z hz
      split at hx
      · cases hx
      rename_i zv hzv
      cases hx
      refine ⟨.tuple #[z, .bool false], ?_, by simp [SV.den, denL, ofV_den E z zv hzv]⟩
      simp only [Instr.typeAssert, Sem.run_bind, run_underlying hd, Result.andThen_ok]
      cases d <;> first | exact (hn _ rfl).elim | simp [hne', run_zeroValue' w hin hz]
  · cases hx
end
end Go.Xq
