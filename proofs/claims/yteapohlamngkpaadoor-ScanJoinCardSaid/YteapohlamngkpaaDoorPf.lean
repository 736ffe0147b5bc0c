/-
  Values of a program as plain data: operations that only look: comparisons with nil, memory, parts, indexes, slices, maps.
-/
import Derived.Test.YteapohlamngkpaaDoorPe
namespace Go.Pv
open Go.RowKit
set_option linter.unusedVariables false

section
variable {C : Cx} (hC : C.Ok)

/-! ### == -/
theorem eqGuard_ok {P : Program} {E : Env} (w : World) (op : BinOp) (t : TypeId) (x y : Operand) {a b : PV} {av bv : Value} {r : Prop × Bool} (h : evalEq a b = some r) (ha : Rep E a av) (hb : Rep E b bv)
    (hn : isConstX x = true ∨ isConstX y = true ∨ ∃ c, a = .bool c) : (eqGuard op t x y av bv).run P w = .ok () w := by
  have key : ∀ u, eqGuard op t x y .nilIface u = pure () ∨ u = .nilIface := by
    intro u; cases u <;> first | (exact Or.inr rfl) | (left; cases op <;> rfl)
  have hcs : (isConstX x = true ∨ isConstX y = true) → eqGuard op t x y .nilIface .nilIface = pure () := by
    rintro (h | h)
    · cases x <;> first | (simp [isConstX] at h; done) | (cases op <;> rfl)
    · cases y <;> first | (simp [isConstX] at h; done) | (cases op <;> cases x <;> rfl)
  cases a with
  | nili =>
    simp only [Rep] at ha; subst ha
    rcases key bv with h | h
    · rw [h]; rfl
    · subst h
      rw [hcs (by rcases hn with h | h | ⟨c, h⟩; exact Or.inl h; exact Or.inr h; cases h)]; rfl
  | bool _ => simp only [Rep] at ha; subst ha; rw [eqGuard_at_bool]; rfl
  | nilp => simp only [Rep] at ha; subst ha; rw [eqGuard_at_pointer]; rfl
  | ptr _ _ => simp only [Rep] at ha; obtain ⟨_, _, rfl⟩ := ha; rw [eqGuard_at_pointer]; rfl
  | rp _ => simp only [Rep] at ha; obtain ⟨_, _, rfl, _⟩ := ha; rw [eqGuard_at_pointer]; rfl
  | nilsl => simp only [Rep] at ha; subst ha; rw [eqGuard_at_slice]; rfl
  | sl _ _ _ => simp only [Rep] at ha; obtain ⟨_, _, _, rfl, _⟩ := ha; rw [eqGuard_at_slice]; rfl
  | lst _ _ _ => simp only [Rep] at ha; obtain ⟨⟨_, _, rfl, _⟩, _⟩ := ha; rw [eqGuard_at_slice]; rfl
  | nilm => simp only [Rep] at ha; subst ha; rw [eqGuard_at_map]; rfl
  | map _ => simp only [Rep] at ha; obtain ⟨_, _, rfl⟩ := ha; rw [eqGuard_at_map]; rfl
  | nilf => simp only [Rep] at ha; subst ha; rw [eqGuard_at_nilFunc]; rfl
  | func _ _ _ => simp only [Rep] at ha; obtain ⟨_, _, rfl, _⟩ := ha; rw [eqGuard_at_func]; rfl
  | iface _ _ => simp only [Rep] at ha; obtain ⟨_, rfl, _⟩ := ha; rw [eqGuard_at_iface]; rfl
  | yld _ => simp [evalEq] at h
  | int _ _ => simp [evalEq] at h
  | str _ => simp [evalEq] at h
  | agg _ => simp [evalEq] at h
  | tup _ => simp [evalEq] at h

theorem equalIn_ok {P : Program} {E : Env} {w : World} (D : Nat) {t : TypeId} {d : TypeDesc} (hd : P.underlying t = some d) {a b : PV} {ob : Prop} {r : Bool} (h : evalEq a b = some (ob, r)) (ho : ob) (hk : eqKind d = eqKindP a) {av bv : Value} (ha : Rep E a av) (hb : Rep E b bv) :
    (Op.equalIn (D + 1) t av bv).run P w = .ok r w ∧ otherV av = true := by
  have k1 : ∀ {d}, eqKind d = 1 → d = .bool := by intro d h; cases d <;> simp [eqKind] at h; rfl
  have k2 : ∀ {d}, eqKind d = 2 → ∃ e, d = .pointer e := by intro d h; cases d <;> simp [eqKind] at h; exact ⟨_, rfl⟩
  have k3 : ∀ {d}, eqKind d = 3 → ∃ e, d = .slice e := by intro d h; cases d <;> simp [eqKind] at h; exact ⟨_, rfl⟩
  have k4 : ∀ {d}, eqKind d = 4 → ∃ e f, d = .map e f := by intro d h; cases d <;> simp [eqKind] at h; exact ⟨_, _, rfl⟩
  have k5 : ∀ {d}, eqKind d = 5 → ∃ e f g, d = .func e f g := by intro d h; cases d <;> simp [eqKind] at h; exact ⟨_, _, _, rfl⟩
  have k6 : ∀ {d}, eqKind d = 6 → ∃ e, d = .interface e := by intro d h; cases d <;> simp [eqKind] at h; exact ⟨_, rfl⟩
  unfold evalEq at h
  split at h <;> (first | (cases h; done) | simp only [Option.some.injEq, Prod.mk.injEq] at h) <;> obtain ⟨rfl, rfl⟩ := h <;> simp only [eqKindP] at hk <;> simp only [Rep] at ha hb
  · have := k1 hk; subst this
    subst ha; subst hb
    refine ⟨?_, rfl⟩
    simp only [Op.equalIn, Sem.run_bind, run_underlying hd, Result.andThen_ok, Sem.run_pure]
    rfl
  · obtain ⟨e, rfl⟩ := k2 hk; subst ha; subst hb; exact ⟨by simp [Op.equalIn, run_underlying hd], rfl⟩
  · obtain ⟨e, rfl⟩ := k2 hk; subst ha; obtain ⟨_, _, rfl⟩ := hb; exact ⟨by simp [Op.equalIn, run_underlying hd], rfl⟩
  · obtain ⟨e, rfl⟩ := k2 hk; subst hb; obtain ⟨_, _, rfl⟩ := ha; exact ⟨by simp [Op.equalIn, run_underlying hd], rfl⟩
  · obtain ⟨e, rfl⟩ := k2 hk; subst ha; obtain ⟨_, _, rfl, _⟩ := hb; exact ⟨by simp [Op.equalIn, run_underlying hd], rfl⟩
  · obtain ⟨e, rfl⟩ := k2 hk; subst hb; obtain ⟨_, _, rfl, _⟩ := ha; exact ⟨by simp [Op.equalIn, run_underlying hd], rfl⟩
  · obtain ⟨e, rfl⟩ := k3 hk; subst ha; subst hb; exact ⟨by simp [Op.equalIn, run_underlying hd], rfl⟩
  · obtain ⟨e, rfl⟩ := k3 hk; subst ha; obtain ⟨_, _, _, rfl, _⟩ := hb; exact ⟨by simp [Op.equalIn, run_underlying hd], rfl⟩
  · obtain ⟨e, rfl⟩ := k3 hk; subst hb; obtain ⟨_, _, _, rfl, _⟩ := ha; exact ⟨by simp [Op.equalIn, run_underlying hd], rfl⟩
  · obtain ⟨e, rfl⟩ := k3 hk; subst ha; obtain ⟨⟨_, _, rfl, _, h3, _⟩, _⟩ := hb
    rcases h3 with h3 | ⟨b, o, rfl, _⟩
    · exact absurd h3 ho
    · exact ⟨by simp [Op.equalIn, run_underlying hd], rfl⟩
  · obtain ⟨e, rfl⟩ := k3 hk; subst hb; obtain ⟨⟨_, _, rfl, _, h3, _⟩, _⟩ := ha
    rcases h3 with h3 | ⟨b, o, rfl, _⟩
    · exact absurd h3 ho
    · exact ⟨by simp [Op.equalIn, run_underlying hd], rfl⟩
  · obtain ⟨e, f, rfl⟩ := k4 hk; subst ha; subst hb; exact ⟨by simp [Op.equalIn, run_underlying hd], rfl⟩
  · obtain ⟨e, f, rfl⟩ := k4 hk; subst ha; obtain ⟨_, _, rfl⟩ := hb; exact ⟨by simp [Op.equalIn, run_underlying hd], rfl⟩
  · obtain ⟨e, f, rfl⟩ := k4 hk; subst hb; obtain ⟨_, _, rfl⟩ := ha; exact ⟨by simp [Op.equalIn, run_underlying hd], rfl⟩
  · obtain ⟨e, f, g, rfl⟩ := k5 hk; subst ha; subst hb; exact ⟨by simp [Op.equalIn, run_underlying hd], rfl⟩
  · obtain ⟨e, f, g, rfl⟩ := k5 hk; subst ha; obtain ⟨_, _, rfl, _⟩ := hb; exact ⟨by simp [Op.equalIn, run_underlying hd], rfl⟩
  · obtain ⟨e, f, g, rfl⟩ := k5 hk; subst hb; obtain ⟨_, _, rfl, _⟩ := ha; exact ⟨by simp [Op.equalIn, run_underlying hd], rfl⟩
  · obtain ⟨e, rfl⟩ := k6 hk; subst ha; subst hb; exact ⟨by simp [Op.equalIn, run_underlying hd], rfl⟩
  · obtain ⟨e, rfl⟩ := k6 hk; subst ha; obtain ⟨_, rfl, _⟩ := hb; exact ⟨by simp [Op.equalIn, run_underlying hd], rfl⟩
  · obtain ⟨e, rfl⟩ := k6 hk; subst hb; obtain ⟨_, rfl, _⟩ := ha; exact ⟨by simp [Op.equalIn, run_underlying hd], rfl⟩

/-! ### Memory -/
section
variable {E : Env} {s : Hs} {w : World} (h : SH C E s w.heap)
include h

theorem fz_cell {b o : Nat} {v : Value} (k : E.fz b o = some v) : w.cell? ⟨b, o, none⟩ = some v := by
  obtain ⟨c, e, z, h1, h2⟩ := h.fz b o v k
  rw [cell_of_row w b o _ e z h1]; exact h2

theorem fz_part {b o : Nat} {cs : List PV} (k : RepF E b o cs) (n : Nat) : ∃ xs, RepL E (cs.take n) xs ∧ ∀ j x, xs[j]? = some x → w.cell? ((⟨b, o, none⟩ : Addr).add j) = some x := by
  obtain ⟨xs, h1, h2⟩ := (k.take n).vals
  refine ⟨xs, h1, fun j x hj => ?_⟩
  have hadd : (⟨b, o, none⟩ : Addr).add j = ⟨b, o + j, none⟩ := by unfold Addr.add; split <;> simp_all
  rw [hadd]; exact fz_cell h (h2 j x hj)

theorem obj_cells {id : Nat} {cs : List PV} {e : TypeId} {more : Bool} (hg : s.H id = some (.cells cs e more)) : ∃ b, E.blk id = some b ∧
    (∀ off v, cs[off]? = some v → ∃ x, Rep E v x ∧ w.cell? ⟨b, off, none⟩ = some x) ∧
    (∀ off n, ∃ xs, RepL E ((cs.drop off).take n) xs ∧ ∀ j x, xs[j]? = some x → w.cell? ((⟨b, off, none⟩ : Addr).add j) = some x) := by
  obtain ⟨b, hb, ⟨vs, rest, h1, h2, h3⟩, _⟩ := h.obj hg
  refine ⟨b, hb, ?_, ?_⟩
  · intro off v hv
    obtain ⟨x, hx, hgx⟩ := h1.get hv
    refine ⟨x, hx, ?_⟩
    rw [cell_of_row w b off _ e _ h2]
    have := (List.getElem?_eq_some_iff.1 hgx).1
    simp [List.getElem?_append_left this, hgx]
  · intro off n
    refine ⟨(vs.drop off).take n, (h1.drop off).take n, ?_⟩
    intro j x hj
    have hadd : (⟨b, off, none⟩ : Addr).add j = ⟨b, off + j, none⟩ := by unfold Addr.add; split <;> simp_all
    rw [hadd, cell_of_row w b (off + j) _ e _ h2]
    have hjn : j < n := by
      rcases Nat.lt_or_ge j n with h | h
      · exact h
      · rw [List.getElem?_take, if_neg (by omega)] at hj; cases hj
    rw [List.getElem?_take, if_pos hjn, List.getElem?_drop] at hj
    have := (List.getElem?_eq_some_iff.1 hj).1
    simp [List.getElem?_append_left this, hj]
end

include hC
theorem evalLd_ok {E : Env} {s : Hs} {w : World} (h : SH C E s w.heap) {ty : TypeId} {n : Option Nat} {a v : PV} {ob : Prop} {av : Value} (hs : szT C ty = some n) (hx : evalLd n s.H a = some (ob, v)) (ho : ob) (ha : Rep E a av) :
    ∃ x, (Instr.loadAt ty av).run C.P w = .ok x w ∧ Rep E v x := by
  have key : ∀ b o, (∀ {u}, n = none → u = v → ∃ x, Rep E u x ∧ w.cell? ⟨b, o, none⟩ = some x) → (∀ {m}, n = some m → ∃ l xs, v = .agg l ∧ RepL E l xs ∧ l.length = m ∧ ∀ j x, xs[j]? = some x → w.cell? ((⟨b, o, none⟩ : Addr).add j) = some x) →
      ∃ x, (loadVar ty ⟨b, o, none⟩).run C.P w = .ok x w ∧ Rep E v x := by
    intro b o h1 h2
    unfold szT at hs
    split at hs
    · cases hs
    rename_i i hi
    obtain ⟨hd, hin⟩ := hC.ty ty i hi
    split at hs
    · rename_i hagg
      cases hs
      obtain ⟨l, xs, rfl, hxs, hl, hcell⟩ := h2 rfl
      refine ⟨.agg xs.toArray, ?_, by simp only [Rep]; exact ⟨xs, rfl, hxs⟩⟩
      have hlen : xs.length = i.info.size := by rw [hxs.length, hl]
      simp only [loadVar, Sem.run_bind, run_isAgg' w hd, Result.andThen_ok, hagg, if_true, run_sizeOf' w hin]
      rw [← hlen, run_loadCells_list (P := C.P) w _ xs hcell]
      rfl
    · rename_i hagg
      cases hs
      obtain ⟨x, hx1, hx2⟩ := h1 rfl rfl
      refine ⟨x, ?_, hx1⟩
      simp only [loadVar, Sem.run_bind, run_isAgg' w hd, Result.andThen_ok, hagg]
      simp [hx2]
  have lift : ∀ b o, (∃ x, (loadVar ty ⟨b, o, none⟩).run C.P w = .ok x w ∧ Rep E v x) → ∃ x, (Instr.loadAt ty (.pointer (some ⟨b, o, none⟩))).run C.P w = .ok x w ∧ Rep E v x := by
    rintro b o ⟨x, h1, h2⟩
    exact ⟨x, by simpa [Instr.loadAt, Instr.sureAddr] using h1, h2⟩
  cases a with
  | rp cs =>
    simp only [Rep] at ha
    obtain ⟨b, o, rfl, hf⟩ := ha
    refine lift b o (key b o ?_ ?_)
    · rintro u rfl rfl
      simp only [evalLd] at hx
      split at hx
      · rename_i v0 r
        simp only [Option.some.injEq, Prod.mk.injEq] at hx
        obtain ⟨_, rfl⟩ := hx
        obtain ⟨x, h1, h2⟩ := hf.get (n := 0) rfl
        exact ⟨x, h2, fz_cell h h1⟩
      · cases hx
    · rintro m rfl
      simp only [evalLd, Option.some.injEq, Prod.mk.injEq] at hx
      obtain ⟨rfl, rfl⟩ := hx
      obtain ⟨xs, h1, h2⟩ := fz_part h hf m
      exact ⟨_, xs, rfl, h1, by simp; omega, h2⟩
  | ptr id off =>
    simp only [Rep] at ha
    obtain ⟨b, hb, rfl⟩ := ha
    simp only [evalLd] at hx
    split at hx
    case h_2 => cases hx
    rename_i cs e more hg
    obtain ⟨b', hb', hc1, hc2⟩ := obj_cells h hg
    rw [hb] at hb'; cases hb'
    refine lift b off (key b off ?_ ?_)
    · rintro u rfl rfl
      simp only at hx
      split at hx
      case h_2 => cases hx
      rename_i v0 hv0
      simp only [Option.some.injEq, Prod.mk.injEq] at hx
      obtain ⟨_, rfl⟩ := hx
      exact hc1 off _ hv0
    · rintro m rfl
      simp only [Option.some.injEq, Prod.mk.injEq] at hx
      obtain ⟨rfl, rfl⟩ := hx
      obtain ⟨xs, h1, h2⟩ := hc2 off m
      exact ⟨_, xs, rfl, h1, by simp; omega, h2⟩
  | _ => simp [evalLd] at hx

/-- The place of a field: at so many cells behind, of some. -/
def _root_.Go.Pv.fieldT (C : Cx) (ty : TypeId) (f : Nat) : Option Field := match C.tt ty with
  | none => none
  | some i => match i.desc with
    | .struct fs => fs[f]?
    | _ => none

def _root_.Go.Pv.sizeT (C : Cx) (ty : TypeId) : Option Nat := (C.tt ty).map (·.info.size)

theorem fieldT_ok {ty : TypeId} {f : Nat} {fd : Field} (hf : fieldT C ty f = some fd) : ∃ fs, C.P.underlying ty = some (.struct fs) ∧ fs[f]? = some fd := by
  unfold fieldT at hf
  split at hf
  · cases hf
  rename_i i hi
  split at hf
  case h_2 => cases hf
  rename_i fs he
  obtain ⟨hd, _⟩ := hC.ty ty i hi
  rw [he] at hd
  exact ⟨fs, hd, hf⟩

theorem sizeT_ok {ty : TypeId} {n : Nat} (hf : sizeT C ty = some n) : ∃ i, C.P.info? ty = some i ∧ i.size = n := by
  simp only [sizeT, Option.map_eq_some_iff] at hf
  obtain ⟨i, hi, rfl⟩ := hf
  exact ⟨i.info, (hC.ty _ i hi).2, rfl⟩

theorem evalFa_ok {E : Env} {w : World} {ty : TypeId} {f off n : Nat} {fd : Field} {a v : PV} {ob : Prop} {av : Value} (hf : fieldT C ty f = some fd) (ho : fd.offset = off) (hn : sizeT C fd.type = some n) (hn0 : n ≠ 0) (hx : evalFa off a = some (ob, v)) (ha : Rep E a av) :
    ∃ x, (Instr.fieldAt ty av f).run C.P w = .ok x w ∧ Rep E v x := by
  obtain ⟨fs, hd, hfd⟩ := fieldT_ok hC hf
  obtain ⟨i, hi, hsz⟩ := sizeT_ok hC hn
  have hne : ¬ i.size = 0 := by omega
  have run : ∀ b o, (Instr.fieldAt ty (.pointer (some ⟨b, o, none⟩)) f).run C.P w = .ok (.pointer (some ⟨b, o + off, none⟩)) w := by
    intro b o
    simp only [Instr.fieldAt, Sem.run_bind, run_underlying hd, Result.andThen_ok, hfd, Instr.sureAddr, Sem.run_pure, fieldPlace, run_sizeOf' w hi, hne, if_false, Addr.add_lit, ho]
  cases a with
  | rp cs =>
    simp only [evalFa, Option.some.injEq, Prod.mk.injEq] at hx
    obtain ⟨_, rfl⟩ := hx
    simp only [Rep] at ha
    obtain ⟨b, o, rfl, hr⟩ := ha
    exact ⟨_, run b o, by simp only [Rep]; exact ⟨b, o + off, rfl, hr.drop off⟩⟩
  | ptr id o =>
    simp only [evalFa, Option.some.injEq, Prod.mk.injEq] at hx
    obtain ⟨_, rfl⟩ := hx
    simp only [Rep] at ha
    obtain ⟨b, hb, rfl⟩ := ha
    exact ⟨_, run b o, by simp only [Rep]; exact ⟨b, hb, rfl⟩⟩
  | _ => simp [evalFa] at hx

theorem evalFld_ok {E : Env} {w : World} {ty : TypeId} {f off : Nat} {n : Option Nat} {fd : Field} {a v : PV} {ob : Prop} {av : Value} (hf : fieldT C ty f = some fd) (ho : fd.offset = off) (hn : szT C fd.type = some n) (hx : evalFld off n a = some (ob, v)) (ha : Rep E a av) :
    ∃ x, (Instr.field ty av f).run C.P w = .ok x w ∧ Rep E v x := by
  obtain ⟨fs, hd, hfd⟩ := fieldT_ok hC hf
  cases a with
  | agg cs =>
    have hp : partP n cs off = some v := by
      cases n with
      | none =>
        simp only [evalFld] at hx
        split at hx
        · rename_i u hu
          simp only [Option.some.injEq, Prod.mk.injEq] at hx
          obtain ⟨_, rfl⟩ := hx
          exact hu
        · cases hx
      | some m =>
        simp only [evalFld, Option.some.injEq, Prod.mk.injEq] at hx
        obtain ⟨_, rfl⟩ := hx
        rfl
    simp only [Rep] at ha
    obtain ⟨xs, rfl, hxs⟩ := ha
    obtain ⟨x, h1, h2⟩ := part_ok hC (w := w) hn hp hxs
    refine ⟨x, ?_, h2⟩
    simp only [Instr.field, Sem.run_bind, run_underlying hd, Result.andThen_ok, hfd, asAgg, Sem.run_pure, ho]
    exact h1
  | _ => simp [evalFld] at hx

theorem evalIa_ok {E : Env} {w : World} {ty e : TypeId} {i : TI} {sz : Nat} {arr : Option Nat} {a b v : PV} {ob : Prop} {av bv : Value} (hi : C.tt ty = some i) (he : (arr = none ∧ i.desc = .slice e) ∨ ∃ n, arr = some n ∧ i.desc = .array n e) (hsz : sizeT C e = some sz)
    (hx : evalIa sz arr a b = some (ob, v)) (ho : ob) (ha : Rep E a av) (hb : Rep E b bv) : ∃ x, (Instr.indexAt ty av bv).run C.P w = .ok x w ∧ Rep E v x := by
  obtain ⟨hd, _⟩ := hC.ty ty i hi
  obtain ⟨j, hj, hjs⟩ := sizeT_ok hC hsz
  cases b with
  | int k n =>
    simp only [Rep] at hb
    subst hb
    rcases he with ⟨rfl, he⟩ | ⟨m, rfl, he⟩
    · rw [he] at hd
      cases a with
      | lst sz' es p =>
        simp only [evalIa, Option.some.injEq, Prod.mk.injEq] at hx
        obtain ⟨rfl, rfl⟩ := hx
        obtain ⟨rfl, ho1, ho2⟩ := ho
        simp only [Rep] at ha
        obtain ⟨⟨base, cap, rfl, hcap, h3, _⟩, hev⟩ := ha
        rcases h3 with rfl | ⟨b, o, rfl, hr⟩
        · simp at ho2; omega
        refine ⟨.pointer (some ⟨b, o + n.toNat * sz', none⟩), ?_, ?_⟩
        · simp only [Instr.indexAt, asIntOf, Sem.run_bind, Sem.run_pure, Result.andThen_ok, run_underlying hd, Addr.add_lit]
          simp [ho1, ho2, run_sizeOf' w hj, hjs]
        · simp only [Rep]
          refine ⟨b, _, rfl, RepFs.elem hev hr ?_⟩
          unfold elem
          have hlt : n.toNat < es.length := by omega
          simp [List.getD_eq_getElem?_getD, hlt]
      | sl id off len =>
        simp only [evalIa, Option.some.injEq, Prod.mk.injEq] at hx
        obtain ⟨rfl, rfl⟩ := hx
        obtain ⟨ho1, ho2⟩ := ho
        simp only [Rep] at ha
        obtain ⟨b, cap, hb, rfl, hcap⟩ := ha
        refine ⟨.pointer (some ⟨b, off + n.toNat * sz, none⟩), ?_, by simp only [Rep]; exact ⟨b, hb, rfl⟩⟩
        simp only [Instr.indexAt, asIntOf, Sem.run_bind, Sem.run_pure, Result.andThen_ok, run_underlying hd, Addr.add_lit]
        simp [ho1, ho2, run_sizeOf' w hj, hjs]
      | _ => simp [evalIa] at hx
    · rw [he] at hd
      cases a with
      | rp cs =>
        simp only [evalIa, Option.some.injEq, Prod.mk.injEq] at hx
        obtain ⟨rfl, rfl⟩ := hx
        obtain ⟨ho1, ho2⟩ := ho
        simp only [Rep] at ha
        obtain ⟨b, o, rfl, hr⟩ := ha
        refine ⟨.pointer (some ⟨b, o + n.toNat * sz, none⟩), ?_, by simp only [Rep]; exact ⟨b, _, rfl, hr.drop _⟩⟩
        simp only [Instr.indexAt, asIntOf, Sem.run_bind, Sem.run_pure, Result.andThen_ok, run_underlying hd, Addr.add_lit, Instr.sureAddr]
        simp [ho1, ho2, run_sizeOf' w hj, hjs]
      | ptr id off =>
        simp only [evalIa, Option.some.injEq, Prod.mk.injEq] at hx
        obtain ⟨rfl, rfl⟩ := hx
        obtain ⟨ho1, ho2⟩ := ho
        simp only [Rep] at ha
        obtain ⟨b, hb, rfl⟩ := ha
        refine ⟨.pointer (some ⟨b, off + n.toNat * sz, none⟩), ?_, by simp only [Rep]; exact ⟨b, hb, rfl⟩⟩
        simp only [Instr.indexAt, asIntOf, Sem.run_bind, Sem.run_pure, Result.andThen_ok, run_underlying hd, Addr.add_lit, Instr.sureAddr]
        simp [ho1, ho2, run_sizeOf' w hj, hjs]
      | _ => simp [evalIa] at hx
  | _ => simp [evalIa] at hx

theorem evalIdxs_ok {E : Env} {w : World} {ty : TypeId} {i : TI} {a b v : PV} {ob : Prop} {av bv : Value} (hi : C.tt ty = some i) (he : i.desc = .string)
    (hx : evalIdxs a b = some (ob, v)) (ho : ob) (ha : Rep E a av) (hb : Rep E b bv) : ∃ x, (Instr.index ty av bv).run C.P w = .ok x w ∧ Rep E v x := by
  obtain ⟨hd, _⟩ := hC.ty ty i hi
  rw [he] at hd
  cases b with
  | int k m =>
    simp only [Rep] at hb
    subst hb
    cases a with
    | str s =>
      simp only [evalIdxs, Option.some.injEq, Prod.mk.injEq] at hx
      obtain ⟨rfl, rfl⟩ := hx
      obtain ⟨ho1, ho2⟩ := ho
      simp only [Rep] at ha
      subst ha
      have hlt : m.toNat < s.length := by omega
      have hget : (ByteArray.mk s.toArray)[m.toNat]? = some s[m.toNat] := by
        rw [ByteArray.getElem?_lt' _ _ (by rw [size_mk]; exact hlt)]
        rfl
      refine ⟨.int .u8 (byteAt s m), ?_, by simp [Rep]⟩
      simp only [Instr.index, asIntOf, Sem.run_bind, Sem.run_pure, Result.andThen_ok, run_underlying hd, ho1, if_true]
      simp [hget, byteAt, List.getD_eq_getElem?_getD, hlt]
    | _ => simp [evalIdxs] at hx
  | _ => simp [evalIdxs] at hx

theorem evalIdx_ok {E : Env} {w : World} {ty e : TypeId} {i : TI} {sz len : Nat} {n : Option Nat} {a b v : PV} {ob : Prop} {av bv : Value} (hi : C.tt ty = some i) (he : i.desc = .array len e) (hsz : sizeT C e = some sz) (hn : szT C e = some n)
    (hx : evalIdx sz n len a b = some (ob, v)) (ho : ob) (ha : Rep E a av) (hb : Rep E b bv) : ∃ x, (Instr.index ty av bv).run C.P w = .ok x w ∧ Rep E v x := by
  obtain ⟨hd, _⟩ := hC.ty ty i hi
  obtain ⟨j, hj, hjs⟩ := sizeT_ok hC hsz
  rw [he] at hd
  cases b with
  | int k m =>
    simp only [Rep] at hb
    subst hb
    cases a with
    | agg cs =>
      simp only [Rep] at ha
      obtain ⟨l, rfl, hl⟩ := ha
      have hp : partP n cs (m.toNat * sz) = some v ∧ 0 ≤ m ∧ m < len := by
        cases n with
        | none =>
          simp only [evalIdx] at hx
          split at hx
          · rename_i u hu
            simp only [Option.some.injEq, Prod.mk.injEq] at hx
            obtain ⟨rfl, rfl⟩ := hx
            exact ⟨hu, ho⟩
          · cases hx
        | some q =>
          simp only [evalIdx, Option.some.injEq, Prod.mk.injEq] at hx
          obtain ⟨rfl, rfl⟩ := hx
          exact ⟨rfl, ho⟩
      obtain ⟨hp, h0, h1⟩ := hp
      obtain ⟨x, r1, r2⟩ := part_ok hC (w := w) hn hp hl
      refine ⟨x, ?_, r2⟩
      simp only [Instr.index, asIntOf, Sem.run_bind, Sem.run_pure, Result.andThen_ok, run_underlying hd, h0, h1, and_self, if_true, run_sizeOf' w hj, hjs]
      exact r1
    | _ => simp [evalIdx] at hx
  | _ => simp [evalIdx] at hx

/-! ### Slices of slices -/
omit hC in
theorem bndI_ok {E : Env} {o : Option PV} {b : Option Int} {ov : Option Value} (h : bndI o = some b) (ho : ∀ v, o = some v → ∃ x, ov = some x ∧ Rep E v x) (hn : o = none → ov = none) :
    (b = none ∧ ov = none) ∨ ∃ i k, b = some i ∧ ov = some (.int k i) := by
  cases o with
  | none => simp only [bndI, Option.some.injEq] at h; exact Or.inl ⟨h.symm, hn rfl⟩
  | some v =>
    obtain ⟨x, hx, hd⟩ := ho v rfl
    cases v <;> simp only [bndI] at h <;> (try (cases h; done))
    simp only [Option.some.injEq] at h
    simp only [Rep] at hd
    subst hd; subst h
    exact Or.inr ⟨_, _, rfl, hx⟩

omit hC in
theorem run_boundI {P : Program} {w : World} (k : IntKind) (i : Int) (y : Nat) (code : BoundsCode) (h0 : 0 ≤ i) (h : i ≤ y) : (Instr.sliceBound (.int k i) y code).run P w = .ok i.toNat w := by
  have h1 : (0 : Int) ≤ i ∧ i ≤ (y : Int) := ⟨h0, h⟩
  simp only [Instr.sliceBound, asIntOf, Sem.run_bind, Sem.run_pure, Result.andThen_ok, h1, and_self, if_true]

omit hC in
theorem run_boundsI {P : Program} {w : World} (isS : Bool) (len cap : Nat) (lo hi : Option Int) (lov hiv : Option Value) (hlo : (lo = none ∧ lov = none) ∨ ∃ i k, lo = some i ∧ lov = some (.int k i))
    (hhi : (hi = none ∧ hiv = none) ∨ ∃ i k, hi = some i ∧ hiv = some (.int k i)) (h0 : 0 ≤ lo.getD 0) (h1 : lo.getD 0 ≤ hi.getD len) (h2 : ∀ i, hi = some i → i ≤ cap) :
    (Instr.sliceBounds isS len cap lov hiv none).run P w = .ok ((lo.getD 0).toNat, (hi.getD len).toNat, cap) w := by
  rcases hlo with ⟨rfl, rfl⟩ | ⟨i, k, rfl, rfl⟩ <;> rcases hhi with ⟨rfl, rfl⟩ | ⟨j, k', rfl, rfl⟩
  · simp [Instr.sliceBounds]
  · have := h2 j rfl
    simp only [Option.getD] at h1
    simp only [Instr.sliceBounds, Sem.run_bind, Sem.run_pure, Result.andThen_ok, run_boundI k' j cap _ h1 this, Option.getD]; rfl
  · simp only [Option.getD] at h1 h0
    simp only [Instr.sliceBounds, Sem.run_bind, Sem.run_pure, Result.andThen_ok, run_boundI k i len _ h0 h1, Option.getD]; rfl
  · have := h2 j rfl
    simp only [Option.getD] at h1 h0
    have hij : i ≤ ((j.toNat : Nat) : Int) := by omega
    simp only [Instr.sliceBounds, Sem.run_bind, Sem.run_pure, Result.andThen_ok, run_boundI k' j cap _ (by omega) this, run_boundI k i j.toNat _ h0 hij, Option.getD]

theorem evalSlc_ok {E : Env} {w : World} {ty : TypeId} {i : TI} {sz : Nat} {x v : PV} {lo hi : Option PV} {ob : Prop} {xv : Value} {lov hiv : Option Value} (hi0 : C.tt ty = some i) {e : TypeId} (he : i.desc = .slice e) (hsz : sizeT C e = some sz)
    (hx : evalSlc sz x lo hi = some (ob, v)) (ho : ob) (hxv : Rep E x xv) (hlo : ∀ v, lo = some v → ∃ x, lov = some x ∧ Rep E v x) (hlon : lo = none → lov = none) (hhi : ∀ v, hi = some v → ∃ x, hiv = some x ∧ Rep E v x) (hhin : hi = none → hiv = none) :
    ∃ u, (Instr.sliceAt ty xv lov hiv none).run C.P w = .ok u w ∧ Rep E v u := by
  obtain ⟨hd, _⟩ := hC.ty ty i hi0
  unfold evalSlc at hx
  split at hx
  case h_2 => cases hx
  rename_i _ _ bl bh hbl hbh
  have hL := bndI_ok hbl hlo hlon
  have hH := bndI_ok hbh hhi hhin
  simp only at hx
  split at hx
  all_goals (first | (cases hx; done) | skip)
  all_goals
    rw [he] at hd
    obtain ⟨j, hj, hjs⟩ := sizeT_ok hC hsz
  · simp only [Option.some.injEq, Prod.mk.injEq] at hx
    obtain ⟨rfl, rfl⟩ := hx
    obtain ⟨o1, o2⟩ := ho
    simp only [Rep] at hxv
    subst hxv
    have hb := run_boundsI (P := C.P) (w := w) true 0 0 bl bh lov hiv hL hH (by omega) (by rw [o1]; show (0 : Int) ≤ bh.getD 0; omega) (fun i hi => by rw [hi] at o2; simp at o2; omega)
    refine ⟨.slice none 0 0, ?_, by simp [Rep]⟩
    rw [o1] at hb
    have o2' : bh.getD ((0 : Nat) : Int) = 0 := o2
    rw [o2'] at hb
    simp only [Instr.sliceAt, Sem.run_bind, run_underlying hd, Result.andThen_ok, Instr.slice, hb, run_sizeOf' w hj, Sem.run_pure]
    rfl
  · rename_i sz' es p
    simp only [Option.some.injEq, Prod.mk.injEq] at hx
    obtain ⟨rfl, rfl⟩ := hx
    obtain ⟨rfl, o1, o2, o3⟩ := ho
    simp only [Rep] at hxv
    obtain ⟨⟨base, cap, rfl, hcap, h3, _⟩, hev⟩ := hxv
    have hb := run_boundsI (P := C.P) (w := w) true es.length cap bl bh lov hiv hL hH o1 o2 (fun i hi => by rw [hi] at o3; simp at o3; omega)
    have hlen : ((es.drop (bl.getD 0).toNat).take ((bh.getD es.length).toNat - (bl.getD 0).toNat)).length = (bh.getD es.length).toNat - (bl.getD 0).toNat := by simp; omega
    refine ⟨.slice (if cap = (bl.getD 0).toNat then base else base.map (·.add ((bl.getD 0).toNat * j.size))) ((bh.getD es.length).toNat - (bl.getD 0).toNat) (cap - (bl.getD 0).toNat), ?_, ?_⟩
    · simp only [Instr.sliceAt, Sem.run_bind, run_underlying hd, Result.andThen_ok, Instr.slice, hb, run_sizeOf' w hj, Sem.run_pure]
    · simp only [Rep]
      refine ⟨⟨_, _, by rw [hlen], by rw [hlen]; omega, ?_, fun q hq => by cases hq⟩, fun e he' => hev e (List.mem_of_mem_drop (List.mem_of_mem_take he'))⟩
      rcases Nat.eq_zero_or_pos ((bh.getD es.length).toNat - (bl.getD 0).toNat) with h0 | h0
      · left; exact List.eq_nil_of_length_eq_zero (by rw [hlen]; exact h0)
      · right
        rcases h3 with rfl | ⟨b, o, rfl, hr⟩
        · simp only [List.length_nil] at o3 h0; omega
        · refine ⟨b, o + (bl.getD 0).toNat * sz', ?_, ?_⟩
          · rw [if_neg (by omega), hjs]; simp [Addr.add_lit]
          · exact RepFs.take _ (RepFs.drop _ hev (by omega) hr)
  · rename_i id off len
    simp only [Option.some.injEq, Prod.mk.injEq] at hx
    obtain ⟨rfl, rfl⟩ := hx
    obtain ⟨o1, o2, o3, o4⟩ := ho
    simp only [Rep] at hxv
    obtain ⟨b, cap, hblk, rfl, hcap⟩ := hxv
    have hb := run_boundsI (P := C.P) (w := w) true len cap bl bh lov hiv hL hH o1 o2 (fun i hi => by rw [hi] at o3; simp at o3; omega)
    refine ⟨.slice (if cap = (bl.getD 0).toNat then some ⟨b, off, none⟩ else (some (⟨b, off, none⟩ : Addr)).map (·.add ((bl.getD 0).toNat * j.size))) ((bh.getD len).toNat - (bl.getD 0).toNat) (cap - (bl.getD 0).toNat), ?_, ?_⟩
    · simp only [Instr.sliceAt, Sem.run_bind, run_underlying hd, Result.andThen_ok, Instr.slice, hb, run_sizeOf' w hj, Sem.run_pure]
    · simp only [Rep]
      refine ⟨b, cap - (bl.getD 0).toNat, hblk, ?_, by omega⟩
      congr 1
      split
      · rename_i hc
        have : (bl.getD 0).toNat = 0 := by omega
        rw [this]; simp
      · rw [hjs]; simp [Addr.add_lit]

theorem evalSlcs_ok {E : Env} {w : World} {ty : TypeId} {i : TI} {x v : PV} {lo hi : Option PV} {ob : Prop} {xv : Value} {lov hiv : Option Value} (hi0 : C.tt ty = some i) (he : i.desc = .string)
    (hx : evalSlcs x lo hi = some (ob, v)) (ho : ob) (hxv : Rep E x xv) (hlo : ∀ v, lo = some v → ∃ x, lov = some x ∧ Rep E v x) (hlon : lo = none → lov = none) (hhi : ∀ v, hi = some v → ∃ x, hiv = some x ∧ Rep E v x) (hhin : hi = none → hiv = none) :
    ∃ u, (Instr.sliceAt ty xv lov hiv none).run C.P w = .ok u w ∧ Rep E v u := by
  obtain ⟨hd, _⟩ := hC.ty ty i hi0
  rw [he] at hd
  unfold evalSlcs at hx
  split at hx
  case h_2 => cases hx
  rename_i _ _ bl bh hbl hbh
  have hL := bndI_ok hbl hlo hlon
  have hH := bndI_ok hbh hhi hhin
  simp only at hx
  split at hx
  case h_2 => cases hx
  rename_i s
  simp only [Option.some.injEq, Prod.mk.injEq] at hx
  obtain ⟨rfl, rfl⟩ := hx
  obtain ⟨o1, o2, o3⟩ := ho
  simp only [Rep] at hxv
  subst hxv
  refine ⟨.string ⟨((s.drop (bl.getD 0).toNat).take ((bh.getD s.length).toNat - (bl.getD 0).toNat)).toArray⟩, ?_, by simp [Rep]⟩
  have hb := run_boundsI (P := C.P) (w := w) false s.length s.length bl bh lov hiv hL hH o1 o2 (fun i hi => by rw [hi] at o3; exact o3)
  simp only [Instr.sliceAt, Sem.run_bind, run_underlying hd, Result.andThen_ok, Instr.slice, Option.isSome_none, Bool.false_eq_true, if_false, size_mk, hb, Sem.run_pure, ByteArray.extract_mk]
end
end Go.Pv
