/-
  A run of closed code by the kernel: the whole run; and what it says of a call.
-/
import Derived.Test.YtggonamheakkkaaGreatDoorXt
import Derived.LoopNIn
import Derived.Scope
namespace Go.Xq
open Go.RowKit
set_option linter.unusedVariables false

noncomputable def clrX : List Oper → Tr SV → Option (Tr SV)
  | [], t => some t
  | o :: r, t => match o.dst with
    | none => clrX r t
    | some d => match Tr.upd 24 t d none with
      | none => none
      | some t' => clrX r t'

noncomputable def opsX (C : Cx) (ex : Nat → Code → St → Option (Ex × St)) (sz : Nat) (all : List Oper) : List Oper → St → Option (Ex × St)
  | [], s => some (.normal, s)
  | o :: r, s => match wantedX all s.t o with
    | none => none
    | some false => match putX sz s.t o.dst (.tuple []) with
      | some t' => opsX C ex sz all r ⟨t', s.h, s.n⟩
      | none => none
    | some true => match kindX C o.op with
      | .quiet => match quietX C s.t s.h o.op with
        | none => none
        | some v => match putX sz s.t o.dst v with
          | some t' => opsX C ex sz all r ⟨t', s.h, s.n⟩
          | none => none
      | .alloc => match allocX C s.t s.n o.op with
        | none => none
        | some (v, ao) => match Tr.upd 48 s.h s.n (some ao) with
          | none => none
          | some h' => match putX sz s.t o.dst v with
            | some t' => opsX C ex sz all r ⟨t', h', Nat.succ s.n⟩
            | none => none
      | .write => match writerR C ex s.t s.h s.n o.op with
        | none => none
        | some (true, v, h', n') => some (.panic v, ⟨s.t, h', n'⟩)
        | some (false, v, h', n') => match putX sz s.t o.dst v with
          | some t' => opsX C ex sz all r ⟨t', h', n'⟩
          | none => none

/-- An operation stands behind all of so many. -/
noncomputable def behindX (o : Oper) : Nat → Bool
  | 0 => true
  | k + 1 => match o.after.toList.any (fun e => match bindsX e with | true => Nat.beq e.on k | false => false) with
    | true => behindX o k
    | false => false

theorem behindX_ok {o : Oper} : ∀ {m : Nat}, behindX o m = true → ∀ k, k < m → ∃ e ∈ o.after, bindsX e = true ∧ e.on = k
  | 0, _, k, hk => by omega
  | m + 1, h, k, hk => by
    simp only [behindX] at h
    split at h
    case h_2 => cases h
    rename_i ha
    by_cases e : k = m
    · subst e
      obtain ⟨x, hx, hb⟩ := List.any_eq_true.1 ha
      split at hb
      · rename_i h1; exact ⟨x, by simpa using hx, h1, Nat.eq_of_beq_eq_true hb⟩
      · cases hb
    · exact behindX_ok h k (by omega)

/-- An operation stands behind none that comes later. -/
noncomputable def lowX (m : Nat) : List Edge → Bool
  | [] => true
  | e :: r => match bindsX e with
    | false => lowX m r
    | true => match Nat.blt e.on m with
      | true => lowX m r
      | false => false

theorem lowX_ok {m : Nat} : ∀ {l : List Edge}, lowX m l = true → ∀ e ∈ l, bindsX e = true → e.on < m
  | [], _, e, he, _ => nomatch he
  | x :: r, h, e, he, hb => by
    simp only [lowX] at h
    rcases List.mem_cons.1 he with rfl | he2
    · rw [hb] at h
      simp only at h
      split at h
      · rename_i h1; simpa [Nat.blt_eq] using h1
      · cases h
    · clear he
      split at h
      · exact lowX_ok h e he2 hb
      · split at h
        · exact lowX_ok h e he2 hb
        · cases h

/-- A region whose order is drawn: its operations; so many blocks may be new. -/
noncomputable def regPX (C : Cx) (ex : Nat → Code → St → Option (Ex × St)) (sz m : Nat) (ops : List Oper) (as : Tr Nat) (s : St) : Option (Ex × St) :=
  match clrX ops s.t with
  | none => none
  | some t0 => match passX C ex sz s.n ops as ops 0 t0 [] ⟨s.h, Nat.add s.n m, 0, 0⟩ 0 [] with
    | none => none
    | some (t, rs, p, ph, z) => match chkX C s.n rs p.wm (p :: ph) rs with
      | false => none
      | true => match z with
        | some (v, h', n') => some (.panic v, ⟨t0, h', n'⟩)
        | none => match addA s.n (Nat.sub (Nat.shiftLeft 1 m) 1) p.am rs p.h with
          | none => none
          | some h => some (.normal, ⟨t, h, p.n⟩)

noncomputable def regX (C : Cx) (ex : Nat → Code → St → Option (Ex × St)) (sz : Nat) (ops : List Oper) (s : St) : Option (Ex × St) :=
  match regStat ops with
  | some as => regPX C ex sz ops.length ops as s
  | none => match lastX ops with
    | none => none
    | some (pre, o) => match regStat pre with
      | none => none
      | some as => match (match behindX o pre.length with | true => lowX pre.length o.after.toList | false => false) with
        | false => none
        | true => match regPX C ex sz ops.length pre as s with
          | some (.normal, s') => opsX C ex sz ops [o] s'
          | _ => none

/-- Two orders, and what stands behind. -/
noncomputable def bothX (C : Cx) (ex : Nat → Code → St → Option (Ex × St)) (sz : Nat) (b : Code) (s : St) (all l1 l2 : List Oper) : Option (Ex × St) :=
  match opsX C ex sz all l1 s with
  | some (.normal, s1) => match opsX C ex sz all l2 s with
    | some (.normal, s2) => match ex sz b s1 with
      | none => none
      | some r1 => match ex sz b s2 with
        | none => none
        | some r2 => mergeX s r1 r2
    | _ => none
  | _ => none

noncomputable def stepX (C : Cx) (ex : Nat → Code → St → Option (Ex × St)) (sz : Nat) (c : Code) (s : St) : Option (Ex × St) :=
  match c with
  | .skip => some (.normal, s)
  | .region _ ops draw => match draw with
    | false => opsX C ex sz ops.toList ops.toList s
    | true => regX C ex sz ops.toList s
  | .seq a b => match flipL a with
    | none => (match ex sz a s with
      | none => none
      | some (e, s') => match e with
        | .normal => ex sz b s'
        | e => some (e, s'))
    | some (all, l1, l2) => bothX C ex sz b s all l1 l2
  | .cond x a b => match getX C.g0 s.t x with
    | some (.bool true) => ex sz a s
    | some (.bool false) => ex sz b s
    | _ => none
  | .block id b => match ex sz b s with
    | none => none
    | some (e, s') => match e with
      | .exit i => match Nat.beq i id with
        | true => some (.normal, s')
        | false => some (.exit i, s')
      | e => some (e, s')
  | .loop b => match ex sz b s with
    | none => none
    | some (e, s') => match e with
      | .normal => ex sz (.loop b) s'
      | e => some (e, s')
  | .exit id => some (.exit id, s)
  | .ret => some (.ret, s)
  | .label _ => some (.normal, s)
  | .scope b => ex sz b s
  | .rangeFunc g ps assign body => match getX C.g0 s.t g with
    | some (.func (.func f) fst cap) => match (match C.ft.get f with
        | some fn => match fn.body with
          | some _ => Tr.upd 48 s.h s.n (some (.loop .ready none s.t sz ps.toList assign body))
          | none => none
        | none => none) with
      | none => none
      | some h1 => match callR C ex f (fst ++ .yld s.n :: cap) h1 (Nat.succ s.n) with
        | none => none
        | some (true, v, h2, n2) => some (.panic v, ⟨s.t, h2, n2⟩)
        | some (false, _, h2, n2) => match h2.get s.n with
          | some (.loop st pend _ _ _ _ _) => match Tr.upd 48 h2 s.n none with
            | none => none
            | some h3 => match st with
              | .busy => none
              | _ => match pend with
                | none => some (.normal, ⟨s.t, h3, n2⟩)
                | some j => ex sz j ⟨s.t, h3, n2⟩
          | _ => none
    | _ => none
  | _ => none

noncomputable def codeX (C : Cx) (f : Nat) : Nat → Code → St → Option (Ex × St) :=
  Nat.rec (motive := fun _ => Nat → Code → St → Option (Ex × St)) (fun _ _ _ => none) (fun _ ih => stepX C ih) f

theorem codeX_succ (C : Cx) (f : Nat) : codeX C (f + 1) = stepX C (codeX C f) := rfl

section
variable {P : Program} {C : Cx} (hC : C.Ok P) {ro : Option Nat} {d : List Deferred}

theorem clrX_ok : ∀ {ops : List Oper} {t t' : Tr SV}, clrX ops t = some t' → (∀ u v, t'.get u = some v → t.get u = some v) ∧ ∀ (i : Nat) (o : Oper) (d : Nat), ops[i]? = some o → o.dst = some d → t'.get d = none
  | [], t, t', h => by simp only [clrX, Option.some.injEq] at h; subst h; exact ⟨fun _ _ h => h, fun i o d h => by simp at h⟩
  | o :: r, t, t', h => by
    simp only [clrX] at h
    split at h
    · rename_i hd
      obtain ⟨h1, h2⟩ := clrX_ok h
      refine ⟨h1, fun i o' d hi ho => ?_⟩
      cases i with
      | zero => simp only [List.getElem?_cons_zero, Option.some.injEq] at hi; subst hi; rw [hd] at ho; cases ho
      | succ i => exact h2 i o' d (by simpa using hi) ho
    · rename_i d hd
      split at h
      · cases h
      rename_i t1 hu
      have hg := Tr.get_upd _ _ _ _ _ hu
      obtain ⟨h1, h2⟩ := clrX_ok h
      refine ⟨fun u v hv => ?_, fun i o' d' hi ho => ?_⟩
      · have := h1 u v hv
        rw [hg] at this
        by_cases e : u = d
        · rw [if_pos e] at this; cases this
        · rw [if_neg e] at this; exact this
      · cases i with
        | zero =>
          simp only [List.getElem?_cons_zero, Option.some.injEq] at hi; subst hi
          rw [hd] at ho; cases ho
          cases hx : t'.get d with
          | none => rfl
          | some v => have := h1 d v hx; rw [hg, if_pos rfl] at this; cases this
        | succ i => exact h2 i o' d' (by simpa using hi) ho

theorem val_last {ex : Nat → Code → St → Option (Ex × St)} {sz n0 : Nat} {all : List Oper} {as : Tr Nat} {t0 : Tr SV} {p0 : Ph} : ∀ {L : List Rec} {t : Tr SV} {p : Ph} {ph : List Ph}, Val C ex sz n0 all as t0 p0 L t p ph → [p0] <:+ (p :: ph)
  | [], t, p, ph, ⟨h1, h2, h3⟩ => by rw [h2, h3]; exact List.suffix_refl _
  | x :: L, t, p, ph, ⟨h1, h2, h3, h4, q, qh, h5, h6⟩ => by
    have ih := val_last h5
    unfold KOk at h6
    split at h6
    · obtain ⟨_, _, rfl, rfl⟩ := h6; exact ih
    · obtain ⟨_, _, _, rfl, rfl⟩ := h6; exact ih
    · obtain ⟨_, _, rfl, rfl⟩ := h6; exact ih
    · obtain ⟨_, _, _, _, _, _, rfl⟩ := h6; exact ih.trans (List.suffix_cons _ _)

theorem put_tm {sz : Nat} {E E' : Env} {t t' : Tr SV} {a : Act} {dst : Option Tmp} {v : SV} {x : Value} (h : putX sz t dst v = some t') (hsz : a.tmps.size = sz) (hle : E.le E') (ht : ∀ k v, t.get k = some v → ∃ x, a.tmps[k]? = some x ∧ v.den E = some x) (hv : v.den E' = some x) :
    ∀ k v, t'.get k = some v → ∃ y, (a.put dst x).tmps[k]? = some y ∧ v.den E' = some y := by
  unfold putX at h
  split at h
  · cases h; exact tm_mono hle ht
  · rename_i k
    split at h
    · rename_i hb
      exact tm_put (tm_mono hle ht) h (by rw [hsz]; simpa [Nat.blt_eq] using hb) hv
    · cases h

include hC
theorem opsX_ok {ex : Nat → Code → St → Option (Ex × St)} (hex : ExOk P C ex) {sz : Nat} {ops : Array Oper} : ∀ {l : List Oper} {s : St} {r : Ex × St}, opsX C ex sz ops.toList l s = some r → ∀ {E : Env} {a : Act} {w : World}, SR C d E sz s a w → ∀ {Q : Exit → Act → World → Prop},
    (∀ e a' w', PQ C d E sz s w r e a' w' → Q e a' w') → wpListIn (Fw ro) 0 P ops Q l a w
  | [], s, s', h, E, a, w, sr, Q, hQ => by
    simp only [opsX, Option.some.injEq] at h; subst h
    exact hQ _ _ _ (PQ.mk0 rfl sr (Post.refl sr.sh))
  | o :: r, s, s', h, E, a, w, sr, Q, hQ => by
    have hget : ∀ x v, x ∈ o.op.operands → getX C.g0 s.t x = some v → v.den E = some (a.eval x) := fun x v _ hv => sr.getX hv
    have go : ∀ {s1 : St} {E1 : Env} {a1 : Act} {w1 : World}, opsX C ex sz ops.toList r s1 = some s' → SR C d E1 sz s1 a1 w1 → Post C E s.h s.n w E1 s1.h s1.n w1 → wpListIn (Fw ro) 0 P ops Q r a1 w1 :=
      fun h1 h2 h3 => opsX_ok hex h1 h2 (fun e a' w' hq => hQ e a' w' (PQ.from (ms := []) hq h3 MkOk.nil))
    have srput : ∀ {E1 : Env} {t1 : Tr SV} {h1 : Tr AO} {n1 : Nat} {w1 : World} {v : SV} {x : Value}, putX sz s.t o.dst v = some t1 → v.den E1 = some x → Post C E s.h s.n w E1 h1 n1 w1 → SR C d E1 sz ⟨t1, h1, n1⟩ (a.put o.dst x) w1 :=
      fun k1 k2 k3 => ⟨put_tm k1 sr.sz k3.fr.le sr.tm k2, by rw [put_sz]; exact sr.sz, by rw [put_df]; exact sr.df, k3.sh⟩
    simp only [opsX] at h
    split at h
    · cases h
    · rename_i hw
      split at h
      case h_2 => cases h
      rename_i t1 ht1
      have hwant := wantedX_ok (E := E) hw (fun j want g d v _ _ _ hv => sr.tm d v hv)
      unfold wpListIn
      rw [hwant]
      simp only [Bool.false_eq_true, if_false]
      refine ⟨fun _ _ => trivial, ?_⟩
      exact go h (srput ht1 (x := undef) rfl (Post.refl sr.sh)) (Post.refl sr.sh)
    · rename_i hw
      have hwant := wantedX_ok (E := E) hw (fun j want g d v _ _ _ hv => sr.tm d v hv)
      unfold wpListIn
      rw [hwant]
      simp only [if_true]
      split at h
      · split at h
        · cases h
        rename_i v hq
        split at h
        case h_2 => cases h
        rename_i t1 ht1
        exact quiet_wp hC sr.sh hget hq (fun x hx => go h (srput ht1 hx (Post.refl sr.sh)) (Post.refl sr.sh))
      · split at h
        · cases h
        rename_i v ao hq
        split at h
        · cases h
        rename_i h1 hu
        split at h
        case h_2 => cases h
        rename_i t1 ht1
        refine alloc_wp hC (sr.sh.fresh _ (Nat.le_refl _)) hget hq (fun O y hO => ?_)
        obtain ⟨room, hd, hrel⟩ := hO
        have hp := Post.alloc (O := O) sr.sh hu hrel
        exact go h (srput ht1 hd hp) hp
      · split at h
        · cases h
        · rename_i v h1 n1 hq
          cases h
          refine writerR_ok hC hex sr.sh hget hq (fun e => nomatch e) (fun _ E' x w' hx hp => ?_)
          exact hQ _ _ _ (PQ.mk0 ⟨x, hx, rfl⟩ ⟨tm_mono hp.fr.le sr.tm, sr.sz, sr.df, hp.sh⟩ hp)
        · rename_i v h1 n1 hq
          split at h
          case h_2 => cases h
          rename_i t1 ht1
          exact writerR_ok hC hex sr.sh hget hq (fun _ E' x w' hx hp => go h (srput ht1 hx hp) hp) (fun e => nomatch e)

omit hC in
theorem start_ri {sz : Nat} {E : Env} {a : Act} {w w0 : World} {s : St} {ops : Array Oper} {all : List Oper} {ex : Nat → Code → St → Option (Ex × St)} {t0 t : Tr SV} {as dm : Tr Nat} {L : List Rec} {p : Ph} {ph : List Ph} {M : Nat} (ct : Cert C ex sz ops all s t0 as dm L t p ph M) (sr : SR C d E sz s a w) (h0 : w0.heap = w.heap) (hw : w0 = w) :
    RI C d E sz s w0 ops.size L t (p :: ph) (fun i => (Array.replicate ops.size false).getD i false) E a w := by
  subst hw
  have hD : ∀ i, (Array.replicate ops.size false).getD i false = false := by
    intro i
    simp only [Array.getD_eq_getD_getElem?, Array.getElem?_replicate]
    split <;> rfl
  obtain ⟨hv1, _, _⟩ := val_tmp ct.dis ct.clr ct.val
  refine ⟨?_, sr.sz, sr.df, ?_, ⟨_, [], val_last ct.val, ?_, ?_, Nat.le_refl _, ?_, ?_, s.h.get, sr.sh.hr, fun _ _ h => h, ?_, Fr.refl _ _ _ _, fun _ o h => Or.inl ⟨o, h⟩⟩, ?_, fun _ _ => rfl, sr.sh.glob, sr.sh.kn, sr.sh.low, sr.sh.anc⟩
  · intro u v hu hd
    rcases hv1 u v hu with ⟨r, hr, e1, e2⟩ | ⟨_, e⟩
    · have := hd r hr e1
      simp only [hD] at this
      cases this
    · exact sr.tm u v (ct.clr0 u v e)
  · intro r hr hd
    simp only [hD] at hd
    cases hd
  · intro r hr k hk
    simp only [hD]
    exact ⟨fun h => (nomatch h), fun h => by simp at h⟩
  · intro l hl
    rw [bitX_zero] at hl; cases hl
  · intro i hi _
    cases hg : s.h.get (s.n + i) with
    | none => rfl
    | some o =>
      obtain ⟨q, hq, _⟩ := sr.sh.hr.obj _ _ hg
      rw [sr.sh.fresh _ (by omega)] at hq; cases hq
  · intro id hid
    have hid' : s.n + ops.size ≤ id := hid
    exact sr.sh.fresh id (by omega)
  · intro r hr ao hk hd
    simp only [hD] at hd
    cases hd
  · intro i hi _
    exact sr.sh.fresh _ (by omega)

omit hC in
theorem drew_sr {sz : Nat} {E : Env} {a : Act} {w : World} {s : St} (sr : SR C d E sz s a w) : SR C d E sz s a { w with drawn := w.drawn + 1 } := ⟨sr.tm, sr.sz, sr.df, sr.sh⟩

omit hC in
theorem cert_mk {ex : Nat → Code → St → Option (Ex × St)} {sz : Nat} {ops : Array Oper} {all : List Oper} {s : St} {as dm : Tr Nat} {t0 t : Tr SV} {L : List Rec} {p : Ph} {ph : List Ph} {z : Option (SV × Tr AO × Nat)} (hdm : ∀ k o d, all[k]? = some o → o.dst = some d → dm.get d = some k)
    (hstat : ∀ k o, all[k]? = some o → StatP dm as k o) (hpre : ∀ k, k < all.length → ops[k]? = all[k]?) (hlsz : all.length ≤ ops.size) (ht0 : clrX all s.t = some t0)
    (hpass : passX C ex sz s.n all as all 0 t0 [] ⟨s.h, Nat.add s.n ops.size, 0, 0⟩ 0 [] = some (t, L, p, ph, z)) (hchk : chkX C s.n L p.wm (p :: ph) L = true) :
    Cert C ex sz ops all s t0 as dm L t p ph L.length ∧ (z = none → L.length = all.length) ∧ ∀ v h' n', z = some (v, h', n') → PanOk C ex s.n all as L t p v h' n' := by
  obtain ⟨hc1, hc2⟩ := clrX_ok ht0
  obtain ⟨hval, hlen, hpan⟩ := passX_val (t0 := t0) (p0 := ⟨s.h, Nat.add s.n ops.size, 0, 0⟩) (i := 0) (rs := []) hpass ⟨rfl, rfl, rfl⟩ rfl rfl (fun j => by rw [Nat.zero_add])
  refine ⟨⟨hval, rfl, ?_, hpre, hlsz, hdm, hstat, hc1, hc2, hchk⟩, fun e => by have := hlen e; omega, hpan⟩
  cases hL : L with
  | nil => simp
  | cons r rs =>
    rw [hL] at hval
    obtain ⟨h1, h2, _⟩ := hval
    have := (List.getElem?_eq_some_iff.1 h2).1
    simp only [List.length_cons]; omega

noncomputable def _root_.Go.Xq.freeZ (as : Tr Nat) (all : List Oper) (M : Nat) (z : Option (SV × Tr AO × Nat)) (j : Nat) : Bool := match z with
  | some _ => freeX as all M j
  | none => false

/-- The operations that a region begins with, and what comes of the rest. -/
theorem regPX_ok {ex : Nat → Code → St → Option (Ex × St)} (hex : ExOk P C ex) {sz : Nat} {ops : Array Oper} {all : List Oper} {s : St} {r : Ex × St} {as : Tr Nat} (has : regStat all = some as) (hpre : ∀ k, k < all.length → ops[k]? = all[k]?) (hlsz : all.length ≤ ops.size)
    (hst : ∀ (k : Nat) (o : Oper), ops[k]? = some o → all.length ≤ k → ∀ e ∈ o.after, bindsX e = true → e.on < k)
    (hx : regPX C ex sz ops.size all as s = some r) {E : Env} {a : Act} {w : World} (sr : SR C d E sz s a w) {id : Nat} {Q : Exit → Act → World → Prop}
    (hp : ∀ v, r.1 = .panic v → all = ops.toList)
    (hQ : all.length = ops.size → ∀ e a' w', PQ C d E sz s w r e a' w' → Q e a' w')
    (hM : all.length < ops.size → r.1 = .normal → all.length + 1 = ops.size ∧ ∃ o, ops[all.length]? = some o ∧ behindX o all.length = true ∧ ∀ E' a' w', SR C d E' sz r.2 a' w' → Post C E s.h s.n w E' r.2.h r.2.n w' → wpListIn (Fw ro) 0 P ops Q [o] a' w') :
    (Code.region id ops true).wpIn (Fw ro) 0 P Q a w := by
  simp only [regPX] at hx
  split at hx
  · cases hx
  rename_i t0 ht0
  split at hx
  · cases hx
  rename_i t L p ph z hpass
  split at hx
  · cases hx
  rename_i hchk
  obtain ⟨dm, hdm, hstat⟩ := regStat_ok has
  obtain ⟨ct, hlen, hpan⟩ := cert_mk (ops := ops) hdm hstat hpre hlsz ht0 hpass hchk
  have hsta : ∀ (k : Nat) (o : Oper), ops[k]? = some o → ∀ e ∈ o.after, bindsX e = true → e.on < k := by
    intro k o ho e he hb
    rcases Nat.lt_or_ge k all.length with hk | hk
    · obtain ⟨_, _, _, _, hlt⟩ := (hstat k o (by rw [← hpre k hk]; exact ho)).ex
      exact hlt e (by simpa using he) hb
    · exact hst k o ho hk e he hb
  refine wpIn_region_any hC.mixed ?_
  have hri := start_ri ct (drew_sr sr) rfl rfl
  have hfalse : ∀ j, (Array.replicate ops.size false).getD j false = false := by
    intro i
    simp only [Array.getD_eq_getD_getElem?, Array.getElem?_replicate]
    split <;> rfl
  have hPd : ∀ {E' : Env} {h' : Nat → Option AO} {n' : Nat} {w' : World}, Post C E s.h s.n { w with drawn := w.drawn + 1 } E' h' n' w' → Post C E s.h s.n w E' h' n' w' := fun h => (SH.drew sr.sh).trans h
  have hri' : RI C d E sz s { w with drawn := w.drawn + 1 } ops.size L t (p :: ph) (fun i => lowB L.length i ((Array.replicate ops.size false).getD i false)) E a { w with drawn := w.drawn + 1 } := by
    have : (fun i => lowB L.length i ((Array.replicate ops.size false).getD i false)) = fun i => (Array.replicate ops.size false).getD i false := by
      funext i
      rcases Nat.lt_or_ge i L.length with h | h
      · rw [lowB_lt h]
      · rw [lowB_ge h, hfalse]
    rw [this]
    exact hri
  refine ct.any hC hex (E0 := E) (w0 := { w with drawn := w.drawn + 1 }) ?_ (free := freeZ as all L.length z) (fun j h => ?_) ?_ hsta ops.size (Array.replicate ops.size false) E a _ (by simp) ?_ hri' (fun j _ _ => hfalse j)
  · intro hMe
    have hal : all.length = ops.size := by have := ct.le; omega
    split at hx
    · rename_i v h' n'
      -- a panic: not all are done
      exfalso
      obtain ⟨o, _, _, h1, _⟩ := hpan _ _ _ rfl
      have := (List.getElem?_eq_some_iff.1 h1).1
      omega
    · split at hx
      · cases hx
      rename_i h hfin
      cases hx
      exact ⟨_, h, hfin, fun E' a' w' k1 k2 => hQ hal _ _ _ (PQ.mk0 rfl k1 (hPd k2))⟩
  · cases z with
    | none => exact nomatch h
    | some z => exact h
  · intro D Ls E1 a1 w1 K hi hLs hDL i o hMi hfr ho hed hK
    split at hx
    · rename_i v h' n'
      cases hx
      have hao := hp v rfl
      have hal : all.length = ops.size := by rw [hao]; simp
      exact ct.pan hC hex hao (hpan _ _ _ rfl) (fun E' x a' w' k0 k1 k2 => hQ hal _ _ _ (PQ.mk0 ⟨x, k0, rfl⟩ k1 (hPd k2))) hi hLs hDL hMi hfr ho hed
    · have hLa := hlen rfl
      split at hx
      · cases hx
      rename_i h hfin
      cases hx
      have hlt := (Array.getElem?_eq_some_iff.1 ho).1
      obtain ⟨hsz1, o', ho', hbeh, hgo⟩ := hM (by omega) rfl
      have hi0 : i = all.length := by omega
      subst hi0
      rw [ho] at ho'
      cases ho'
      have hDall : ∀ j, j < all.length → D j = true := by
        intro j hj
        obtain ⟨e, he, hb, rfl⟩ := behindX_ok hbeh j hj
        rw [hDL e.on (by omega)]
        exact hed e he hb
      obtain ⟨g1, g2⟩ := ct.done hfin hi (fun r hr => hDall _ (by have := (val_mem ct.val r hr).1; omega))
      have hwl := hgo E1 a1 w1 g1 (hPd g2)
      have hKn : ∀ a' w', Q .normal a' w' → K a' w' := hK (fun j hj hne => by rw [← hDL j (by omega)]; exact hDall j (by omega))
      unfold wpOpIn
      rw [ho]
      simp only
      unfold wpListIn at hwl
      split
      · rename_i hw
        rw [if_pos hw] at hwl
        exact Oper.wpIn_mono (fun a' w' hq => hKn a' w' hq) hwl
      · rename_i hw
        rw [if_neg hw] at hwl
        exact ⟨hwl.1, hKn _ _ hwl.2⟩
  · exact Nat.le_trans (List.length_filter_le _ _) (by simp)

theorem regX_ok {ex : Nat → Code → St → Option (Ex × St)} (hex : ExOk P C ex) {sz : Nat} {ops : Array Oper} {s : St} {r : Ex × St} (hx : regX C ex sz ops.toList s = some r) {E : Env} {a : Act} {w : World} (sr : SR C d E sz s a w) {id : Nat} {Q : Exit → Act → World → Prop}
    (hQ : ∀ e a' w', PQ C d E sz s w r e a' w' → Q e a' w') : (Code.region id ops true).wpIn (Fw ro) 0 P Q a w := by
  unfold regX at hx
  have hlen : ops.toList.length = ops.size := by simp
  split at hx
  · rename_i as has
    rw [hlen] at hx
    refine regPX_ok hC hex has (fun k _ => by simp) (Nat.le_of_eq hlen) (fun k o ho hk => ?_) hx sr (fun _ _ => rfl) (fun _ => hQ) (fun h => absurd hlen (Nat.ne_of_lt h))
    have := (Array.getElem?_eq_some_iff.1 ho).1
    omega
  · split at hx
    · cases hx
    rename_i pre o hl
    have happ := lastX_ok hl
    have hsz : pre.length + 1 = ops.size := by rw [← hlen, happ]; simp
    have hat : ops[pre.length]? = some o := by
      have : ops.toList[pre.length]? = some o := by rw [happ]; simp
      simpa using this
    split at hx
    · cases hx
    rename_i as has
    split at hx
    · cases hx
    rename_i hboth
    have hb2 : behindX o pre.length = true ∧ lowX pre.length o.after.toList = true := by
      split at hboth
      · rename_i h1; exact ⟨h1, hboth⟩
      · cases hboth
    split at hx
    case h_2 => cases hx
    rename_i s' hpx
    rw [hlen] at hpx
    refine regPX_ok hC hex has (fun k hk => ?_) (by omega) (fun k o' ho hk e he hb => ?_) hpx sr (fun v hv => nomatch hv) (fun h => by omega) (fun _ _ => ⟨hsz, o, hat, hb2.1, fun E' a' w' k1 k2 => ?_⟩)
    · have : ops.toList[k]? = pre[k]? := by rw [happ, List.getElem?_append_left hk]
      simpa using this
    · have hlt := (Array.getElem?_eq_some_iff.1 ho).1
      have hk' : k = pre.length := by omega
      subst hk'
      rw [hat] at ho
      cases ho
      exact lowX_ok hb2.2 e (by simpa using he) hb
    · exact opsX_ok hC hex hx k1 (fun e a'' w'' hq => hQ _ _ _ (PQ.from (ms := []) hq k2 MkOk.nil))

/-- A loop: so many rounds. -/
noncomputable def _root_.Go.Xq.LoopOk (P : Program) (C : Cx) (ex : Nat → Code → St → Option (Ex × St)) : Prop :=
  ∀ sz c s r, ex sz (.loop c) s = some r → ∃ n, ∀ (ro : Option Nat) (d : List Deferred) (E : Env) (a : Act) (w : World) (Q : Exit → Act → World → Prop), RoOk ro E s.h w → SR C d E sz s a w → (∀ e a' w', PQ C d E sz s w r e a' w' → Q e a' w') → Code.roundsIn (Fw ro) 0 P c Q n a w

omit hC in
/-- What stands behind code that ends, whatever else it leaves. -/
theorem _root_.Go.Xq.exThen {C : Cx} {d : List Deferred} {E : Env} {sz : Nat} {s : St} {w : World} {r : Ex × St} (hne : r.1 ≠ .normal) {K : Act → World → Prop} {Q : Exit → Act → World → Prop} {e : Exit} {a' : Act} {w' : World} (h : PQ C d E sz s w r e a' w') (hQ : Q e a' w') : (Exit.then K Q) e a' w' := by
  obtain ⟨E', ms, he, _⟩ := h
  obtain ⟨e1, s1⟩ := r
  cases e1 with
  | normal => exact absurd rfl hne
  | exit id => simp only [Ex.is] at he; subst he; exact hQ
  | ret => simp only [Ex.is] at he; subst he; exact hQ
  | panic v => obtain ⟨x, _, rfl⟩ := he; exact hQ

omit hC in
/-- A scope, jumped from by nobody. -/
theorem wpIn_scope_straight {F : Fence} {n : Nat} {c : Code} {Q : Exit → Act → World → Prop} {a : Act} {w : World} (h : c.wpIn F n P (Exit.noGoto Q) a w) : (Code.scope c).wpIn F n P Q a w := by
  intro b k cs hro hb hr
  have h0 : (lone (b.atR a (.code (.scope c) :: k)) cs w).fenced P F := fenced_calm hb hr rfl
  have s0 : step P (lone (b.atR a (.code (.scope c) :: k)) cs w) = .next (lone (b.atR a (.code c :: .inScope c :: k)) cs w) := rfl
  obtain ⟨e, a₁, w₁, hq, harr⟩ := h b (.inScope c :: k) cs hro hb hr
  cases e with
  | normal => exact ⟨.normal, a₁, w₁, hq, .head h0 s0 (StepsIn.trans harr (.one (fenced_calm hb hr rfl) (show step P (lone (b.atR a₁ (.inScope c :: k)) cs w₁) = .next (lone (b.atR a₁ k) cs w₁) from rfl)))⟩
  | exit id =>
    have hx : exitTo id (.inScope c :: k) = exitTo id k := by simp [exitTo]
    exact ⟨.exit id, a₁, w₁, hq, fun k' hk => .head h0 s0 (harr.1 k' (by rw [hx]; exact hk)), fun hr' hk => let ⟨k₁, h1, h2⟩ := harr.2 hr' (by rw [hx]; exact hk); ⟨k₁, h1, .head h0 s0 h2⟩⟩
  | goto l => exact hq.elim
  | ret => exact ⟨_, a₁, w₁, hq, .of_steps (.one h0 s0) harr⟩
  | panic ch => exact ⟨_, a₁, w₁, hq, .of_steps (.one h0 s0) harr⟩
  | outgrown => exact ⟨_, a₁, w₁, hq, .of_steps (.one h0 s0) harr⟩

omit hC in
theorem run_enterLoop_inner {l : Nat} {r : Loop} {w : World} (h : w.heap[l]? = some (.loop r)) (fn : FuncId) (tmps : Array Value) (ps : Array Tmp) (assign body : Code) :
    (Instr.enterLoop fn tmps ps assign body (some l)).run P w = .ok (w.heap.size, []) (w.alloc (.loop { state := .ready, pending := none, fn, tmps, params := ps, assign, body, defers := r.defers })) := by
  unfold Instr.enterLoop
  simp only [Sem.run_bind, run_getLoop h, run_newObj_alloc, Result.andThen, Sem.run_pure]

/-- The statement 'for .. := range g { .. }': its call, and what stands behind. -/
theorem rangeFunc_ok {ex : Nat → Code → St → Option (Ex × St)} (hex : ExOk P C ex) {sz : Nat} {s : St} {r : Ex × St} {g : Operand} {ps : Array Tmp} {assign body : Code} (hx : stepX C ex sz (.rangeFunc g ps assign body) s = some r) {E : Env} {a : Act} {w : World} (hro : RoOk ro E s.h w) (sr : SR C d E sz s a w) {Q : Exit → Act → World → Prop}
    (hQ : ∀ e a' w', PQ C d E sz s w r e a' w' → Q e a' w') : (Code.rangeFunc g ps assign body).wpIn (Fw ro) 0 P Q a w := by
  simp only [stepX] at hx
  split at hx
  case h_2 => cases hx
  rename_i f fst cap hg
  split at hx
  · cases hx
  rename_i h1 hu1
  split at hu1
  case h_2 => cases hu1
  rename_i fx hft
  split at hu1
  case h_2 => cases hu1
  rename_i cx hcx
  obtain ⟨hfx, hnm⟩ := hC.fn f fx hft
  have hnm : ¬ fx.name = "runtime.NumGoroutine" := by simpa using hnm
  have hgd := sr.getX hg
  obtain ⟨fv, cv, hfv, hcv, hgd⟩ := getFuncD hgd
  refine wpIn_rangeFunc (fun fn _ => ?_)
  -- the record (and its block for deferred calls)
  obtain ⟨l, ms, w1, henter, hlo, hp1, hm1⟩ : ∃ l ms w1, (Instr.enterLoop fn a.tmps ps assign body (Fw ro).round).run P w = .ok (l, ms.map markD) w1 ∧ w.heap.size ≤ l ∧
      Post C E s.h s.n w (E.set s.n (l, 0)) h1 (Nat.succ s.n) w1 ∧ MkOk (E.set s.n (l, 0)) h1 w.heap.size w1 ms := by
    have rel : ∀ (hp : Array Obj) (x ds : Nat), hp[x]? = some (.loop { state := .ready, pending := none, fn, tmps := a.tmps, params := ps, assign, body, defers := ds }) → (∀ i v, s.t.get i = some v → ∃ y, a.tmps[i]? = some y ∧ v.den (E.set s.n (x, 0)) = some y) →
        (AO.loop .ready none s.t sz ps.toList assign body).rel (E.set s.n (x, 0)) (x, 0) hp := fun hp x ds h k => ⟨fn, a.tmps, ds, by simpa using h, sr.sz, k⟩
    have hn : E.blk s.n = none := sr.sh.fresh _ (Nat.le_refl _)
    have tmv : ∀ (x : Nat) i v, s.t.get i = some v → ∃ y, a.tmps[i]? = some y ∧ v.den (E.set s.n (x, 0)) = some y := fun x => tm_mono (Env.set_le hn) sr.tm
    cases ro with
    | none =>
      have hp0 : Post C E s.h s.n w E s.h s.n (w.alloc (.deferred (some []))) := Post.below_in sr.sh (Below.alloc (Below.refl _ _) (Nat.le_refl _) _)
      have hsz : (w.alloc (.deferred (some []))).heap.size = w.heap.size + 1 := World.size_alloc _ _
      have hp2 := Post.alloc (room := 0) (O := .loop { state := .ready, pending := none, fn, tmps := a.tmps, params := ps, assign, body, defers := w.heap.size }) hp0.sh hu1 (by
        exact rel _ _ w.heap.size (World.alloc_heap_new _ _) (tmv _))
      rw [hsz] at hp2
      have hob : (w.alloc (.deferred (some []))).heap[w.heap.size]? = some (.deferred (some [])) := World.alloc_heap_new w _
      have hoff0 : Off E s.h w.heap.size := Off.fresh sr.sh (Nat.le_refl _)
      obtain ⟨o1, o2⟩ := Off.step hp0.sh hp2 (by rw [hsz]; omega) hoff0
      exact ⟨_, [w.heap.size], _, run_enterLoop_outer fn a.tmps ps assign body, Nat.le_succ _, hp0.trans hp2, ⟨by simp, fun r hr => by simp at hr; omega, fun r hr => by simp at hr; subst hr; exact o2.trans hob, fun r hr => by simp at hr; subst hr; exact o1⟩⟩
    | some l0 =>
      obtain ⟨_, r0, hr0⟩ := hro l0 rfl
      have hp2 := Post.alloc (room := 0) (O := .loop { state := .ready, pending := none, fn, tmps := a.tmps, params := ps, assign, body, defers := r0.defers }) sr.sh hu1 (by
        exact rel _ _ r0.defers (World.alloc_heap_new _ _) (tmv _))
      exact ⟨_, [], _, run_enterLoop_inner hr0 fn a.tmps ps assign body, Nat.le_refl _, hp2, MkOk.nil⟩
  have hbl : (E.set s.n (l, 0)).blk s.n = some (l, 0) := Env.set_same _ _ _
  have hle1 := hp1.fr.le
  have hargs : denL (E.set s.n (l, 0)) (fst ++ .yld s.n :: cap) = some (fv ++ .func (.yield l) #[] #[] :: cv) :=
    denL_append (denL_mono hle1 _ _ hfv) (denL_mk (by simp only [SV.den, hbl, Option.map_some]) (denL_mono hle1 _ _ hcv))
  have hres : (resolve a.eval (rangeCall g l) 0).run P w1 = .ok ⟨.fn (.func f) cv.toArray, fv.toArray ++ #[.func (.yield l) #[] #[]]⟩ w1 := by
    simp only [resolve, hgd, Deferred.ofValue, Sem.run_bind, Sem.run_pure, Result.andThen_ok]
    simp [Act.eval]
  have hinv : (invoke (.fn (.func f) cv.toArray) (fv.toArray ++ #[.func (.yield l) #[] #[]])).run P w1 = .ok (.enter f (fv ++ .func (.yield l) #[] #[] :: cv).toArray) w1 := by
    have harr : (fv.toArray ++ #[.func (.yield l) #[] #[]]) ++ cv.toArray = (fv ++ .func (.yield l) #[] #[] :: cv).toArray := by simp
    simp [invoke, callFunc, hfx, hnm, hcx, harr]
  refine ⟨l, ms.map markD, w1, _, w1, f, _, w1, henter, hres, fun _ _ => trivial, hinv, fun h => (by simp [Fw, Fence.wide] at h), callsFw ?_⟩
  split at hx
  · cases hx
  · rename_i v h2 n2 hcall
    cases hx
    refine callR_ok hC hex hcall hp1.sh hargs (fun E2 x w2 hd hp2 => ?_)
    have hp := hp1.trans hp2
    exact hQ _ _ _ ⟨E2, ms, ⟨x, hd, rfl⟩, ⟨tm_mono hp.fr.le sr.tm, sr.sz, by rw [← sr.df], hp.sh⟩, hp, hm1.step hp1.sh hp2⟩
  · rename_i v h2 n2 hcall
    split at hx
    case h_2 => cases hx
    rename_i st pend _ _ _ _ _ hget
    split at hx
    · cases hx
    rename_i h3 hu3
    refine callR_ok hC hex hcall hp1.sh hargs (fun E2 x w2 hd hp2 => ?_)
    have hp := hp1.trans hp2
    have hm2 := hm1.step hp1.sh hp2
    obtain ⟨q, hq, fn', tmps', ds', hobj, _⟩ := hp.sh.obj hget
    rw [hp2.fr.le.blk _ _ hbl] at hq
    cases hq
    have hne : ∀ r : Loop, r.state = st → st ≠ .busy → r.state ≠ .busy := fun r h1 h2 e => h2 (h1 ▸ e)
    have hbusy : st ≠ .busy := by
      intro e
      subst e
      simp at hx
    obtain ⟨o4, hrun⟩ : ∃ o4, (Instr.endLoop l).run P w2 = .ok pend (w2.putObj l o4) := ⟨_, run_endLoop (P := P) hobj hbusy⟩
    have hdr := Post.drop hp.sh hu3
    have hg3 := Tr.get_upd _ _ _ _ _ hu3
    have hoff : Off E2 h3 l := fun id o q hid hq e => by
      rw [hg3] at hid
      by_cases c : id = s.n
      · rw [if_pos c] at hid; cases hid
      · rw [if_neg c] at hid
        exact c (hp.sh.hr.inj id s.n o _ q (l, 0) hid hget hq (hp2.fr.le.blk _ _ hbl) e)
    have hp3 : Post C E s.h s.n w E2 h3 n2 (w2.putObj l o4) := by
      have hpd := hp.trans hdr
      exact Post.shut hpd sr.sh.anc.size hlo hoff rfl rfl rfl World.putObj_size (fun j hj => World.putObj_heap_other hj)
    have hm3 : MkOk E2 h3 w.heap.size (w2.putObj l o4) ms := by
      have hmd := hm2.step hp.sh hdr
      exact ⟨hmd.nd, hmd.lo, fun r hr => by rw [World.putObj_heap_other (fun e => by have := hmd.at_ r hr; rw [e, hobj] at this; cases this)]; exact hmd.at_ r hr, hmd.off⟩
    have hsr3 : SR C (ms.map markD ++ d) E2 sz ⟨s.t, h3, n2⟩ { a with defers := ms.map markD ++ a.defers } (w2.putObj l o4) :=
      ⟨tm_mono hp.fr.le sr.tm, sr.sz, by rw [← sr.df], hp3.sh⟩
    refine ⟨_, _, hrun, ?_⟩
    cases pend with
    | none =>
      have hx' : some (Ex.normal, (⟨s.t, h3, n2⟩ : St)) = some r := by
        cases st with
        | busy => exact absurd rfl hbusy
        | ready => exact hx
        | done => exact hx
        | exhausted => exact hx
      cases hx'
      exact hQ _ _ _ ⟨E2, ms, rfl, hsr3, hp3, hm3⟩
    | some j =>
      have hx' : ex sz j ⟨s.t, h3, n2⟩ = some r := by
        cases st with
        | busy => exact absurd rfl hbusy
        | ready => exact hx
        | done => exact hx
        | exhausted => exact hx
      exact hex _ _ _ _ hx' ro _ E2 _ _ _ (RoOk.step hro sr.sh hp3) hsr3 (fun e a' w' h => hQ e a' w' (h.from hp3 hm3))

theorem step_ok {ex : Nat → Code → St → Option (Ex × St)} (hex : ExOk P C ex) (hlp : LoopOk P C ex) : ExOk P C (stepX C ex) ∧ LoopOk P C (stepX C ex) := by
  have loop : LoopOk P C (stepX C ex) := by
    intro sz c s r hx
    simp only [stepX] at hx
    split at hx
    · cases hx
    rename_i e s1 hr
    split at hx
    · obtain ⟨n, hn⟩ := hlp sz c s1 r hx
      refine ⟨n + 1, fun ro d E a w Q hro sr hQ => ?_⟩
      rw [roundsIn_succ]
      refine hex _ _ _ _ hr ro d E a w _ hro sr ?_
      rintro e' a' w' ⟨E', ms, he, hsr, hp, hm⟩
      simp only [Ex.is] at he
      subst he
      exact hn ro _ E' a' w' Q (hro.step sr.sh hp) hsr (fun e'' a'' w'' h => hQ e'' a'' w'' (h.from hp hm))
    · rename_i hne
      cases hx
      refine ⟨1, fun ro d E a w Q hro sr hQ => ?_⟩
      rw [roundsIn_succ]
      refine hex _ _ _ _ hr ro d E a w _ hro sr ?_
      intro e' a' w' h
      exact exThen (fun h => hne h) h (hQ e' a' w' h)
  refine ⟨?_, loop⟩
  intro sz c s r hx ro d E a w Q hro sr hQ
  have hx0 := hx
  cases c with
  | skip =>
    simp only [stepX] at hx
    cases hx
    exact wpIn_skip (hQ _ _ _ (PQ.mk0 rfl sr (Post.refl sr.sh)))
  | region id ops draw =>
    simp only [stepX] at hx
    split at hx
    · exact wpIn_region_list (opsX_ok hC hex hx sr hQ)
    · exact regX_ok hC hex hx sr hQ
  | seq x y =>
    simp only [stepX] at hx
    split at hx
    case h_2 =>
      rename_i all l1 l2 hfl
      cases x with
      | region id ops draw =>
        cases draw with
        | false => simp [flipL] at hfl
        | true =>
          have hall := flip_all hfl
          subst hall
          unfold bothX at hx
          split at hx
          case h_2 => cases hx
          rename_i s1 ho1
          split at hx
          case h_2 => cases hx
          rename_i s2 ho2
          split at hx
          · cases hx
          rename_i r1 hr1
          split at hx
          · cases hx
          rename_i r2 hr2
          have hPd : ∀ {E' : Env} {h' : Nat → Option AO} {n' : Nat} {w' : World}, Post C E s.h s.n { w with drawn := w.drawn + 1 } E' h' n' w' → Post C E s.h s.n w E' h' n' w' := fun h => (SH.drew sr.sh).trans h
          refine wpIn_seq (flip_ok hC.mixed hfl ?_ ?_).2
          · refine opsX_ok hC hex ho1 (drew_sr sr) (fun e' a' w' hq => ?_)
            obtain ⟨E', ms, he, hsr, hp, hm⟩ := hq
            simp only [Ex.is] at he
            subst he
            exact hex _ _ _ _ hr1 ro _ E' a' w' Q (hro.step sr.sh (hPd hp)) hsr (fun e'' a'' w'' h => hQ e'' a'' w'' ((mergeX_ok hx sr.sh).1 (h.from (hPd hp) hm)))
          · refine opsX_ok hC hex ho2 (drew_sr sr) (fun e' a' w' hq => ?_)
            obtain ⟨E', ms, he, hsr, hp, hm⟩ := hq
            simp only [Ex.is] at he
            subst he
            exact hex _ _ _ _ hr2 ro _ E' a' w' Q (hro.step sr.sh (hPd hp)) hsr (fun e'' a'' w'' h => hQ e'' a'' w'' ((mergeX_ok hx sr.sh).2 (h.from (hPd hp) hm)))
      | _ => simp [flipL] at hfl
    split at hx
    · cases hx
    rename_i e s1 hr
    split at hx
    · refine wpIn_seq (hex _ _ _ _ hr ro d E a w _ hro sr ?_)
      rintro e' a' w' ⟨E', ms, he, hsr, hp, hm⟩
      simp only [Ex.is] at he
      subst he
      exact hex _ _ _ _ hx ro _ E' a' w' Q (hro.step sr.sh hp) hsr (fun e'' a'' w'' h => hQ e'' a'' w'' (h.from hp hm))
    · rename_i hne
      cases hx
      refine wpIn_seq (hex _ _ _ _ hr ro d E a w _ hro sr ?_)
      intro e' a' w' h
      exact exThen (fun h => hne h) h (hQ e' a' w' h)
  | cond x y z =>
    simp only [stepX] at hx
    split at hx
    · rename_i hb
      have hd := sr.getX hb
      simp only [SV.den, Option.some.injEq] at hd
      exact wpIn_cond (t := true) hd.symm (hex _ _ _ _ hx ro d E a w Q hro sr hQ)
    · rename_i hb
      have hd := sr.getX hb
      simp only [SV.den, Option.some.injEq] at hd
      exact wpIn_cond (t := false) hd.symm (hex _ _ _ _ hx ro d E a w Q hro sr hQ)
    · cases hx
  | block id b =>
    simp only [stepX] at hx
    split at hx
    · cases hx
    rename_i e s1 hr
    refine wpIn_block (hex _ _ _ _ hr ro d E a w _ hro sr ?_)
    rintro e' a' w' ⟨E', ms, he, hsr, hp, hm⟩
    split at hx
    · rename_i i
      simp only [Ex.is] at he
      subst he
      simp only [Exit.inBlock]
      split at hx
      · rename_i hb
        cases hx
        rw [if_pos (Nat.eq_of_beq_eq_true hb)]
        exact hQ _ _ _ ⟨E', ms, rfl, hsr, hp, hm⟩
      · rename_i hb
        cases hx
        rw [if_neg (Nat.ne_of_beq_eq_false hb)]
        exact hQ _ _ _ ⟨E', ms, rfl, hsr, hp, hm⟩
    · rename_i hne
      cases hx
      have hq := hQ e' a' w' ⟨E', ms, he, hsr, hp, hm⟩
      cases e with
      | normal => simp only [Ex.is] at he; subst he; exact hq
      | exit id => exact absurd rfl (hne id)
      | ret => simp only [Ex.is] at he; subst he; exact hq
      | panic v => obtain ⟨x, _, rfl⟩ := he; exact hq
  | loop b =>
    obtain ⟨n, hn⟩ := loop sz b s r hx0
    exact wpIn_loop_rounds n (hn ro d E a w Q hro sr hQ)
  | exit id =>
    simp only [stepX] at hx
    cases hx
    exact wpIn_exit (hQ _ _ _ (PQ.mk0 rfl sr (Post.refl sr.sh)))
  | ret =>
    simp only [stepX] at hx
    cases hx
    exact wpIn_ret (hQ _ _ _ (PQ.mk0 rfl sr (Post.refl sr.sh)))
  | label l =>
    simp only [stepX] at hx
    cases hx
    exact wpIn_label (hQ _ _ _ (PQ.mk0 rfl sr (Post.refl sr.sh)))
  | scope b =>
    simp only [stepX] at hx
    refine wpIn_scope_straight (hex _ _ _ _ hx ro d E a w _ hro sr ?_)
    rintro e' a' w' ⟨E', ms, he, hsr, hp, hm⟩
    have hq := hQ e' a' w' ⟨E', ms, he, hsr, hp, hm⟩
    obtain ⟨e, s1⟩ := r
    cases e with
    | normal => simp only [Ex.is] at he; subst he; exact hq
    | exit id => simp only [Ex.is] at he; subst he; exact hq
    | ret => simp only [Ex.is] at he; subst he; exact hq
    | panic v => obtain ⟨x, _, rfl⟩ := he; exact hq
  | rangeFunc g ps assign body => exact rangeFunc_ok hC hex hx hro sr hQ
  | goto l => simp [stepX] at hx
  | refuse y => simp [stepX] at hx

theorem code_ok : ∀ f, ExOk P C (codeX C f) ∧ LoopOk P C (codeX C f)
  | 0 => ⟨(fun sz c s r h => nomatch h), (fun sz c s r h => nomatch h)⟩
  | f + 1 => by
    rw [codeX_succ]
    exact step_ok hC (code_ok f).1 (code_ok f).2

/-- A call that the kernel has run. -/
theorem run_ok (f : Nat) {fn : Nat} {args : List SV} {h h' : Tr AO} {n n' : Nat} {v : SV} (hx : callX C (codeX C f) fn args h n = some (v, h', n')) {E : Env} {w : World} (s : SH C E h n w.heap) {xs : List Value} (ha : denL E args = some xs)
    {R : Ending → World → Prop} (hR : ∀ E' x w', v.den E' = some x → Post C E h n w E' h' n' w' → R (.returned x) w') : Calls P fn xs.toArray w R :=
  callX_ok hC (code_ok hC f).1 hx s ha hR

omit hC in
theorem SH.start (hG : C.G = 0) (hg0 : C.g0 = 0) (hb : C.base = 0) {I : Nat → Int} (hF : FactsOk C.facts I ∧ C.K I fun _ => .nilIface) (hp : Array Obj) : SH C ⟨I, fun _ => none, fun _ => .nilIface⟩ (Tr.nil : Tr AO) 0 hp :=
  ⟨⟨fun id o h => (by rw [Tr.get_nil] at h; cases h), fun i j o o' p q h => (by rw [Tr.get_nil] at h; cases h)⟩, fun _ _ => rfl, fun g hg => (by omega), (by omega), ⟨hF.1, hF.2, (by omega)⟩, ⟨fun k hk => (by omega), fun k hk => (by omega), (by omega)⟩⟩

omit hC in
theorem Post.below {E E' : Env} {h' : Nat → Option AO} {n' : Nat} {w w' : World} (hp : Post C E (Tr.nil : Tr AO) 0 w E' h' n' w') : Below w.heap.size w w' :=
  ⟨hp.fr.os, hp.fr.tape, hp.fr.output, hp.fr.size, fun k hk => hp.fr.same k hk (fun ⟨i, o, p, _, b, _, _⟩ => by rw [Tr.get_nil] at b; cases b)⟩

noncomputable def _root_.Go.Xq.isTrueX (o : Option (SV × Tr AO × Nat)) : Bool := match o with
  | some (v, _, _) => match v with
    | .bool b => b
    | _ => false
  | none => false

/-- A law that the kernel has run, of numbers that may have names. -/
theorem true_ok (hG : C.G = 0) (hg0 : C.g0 = 0) (hb : C.base = 0) (f : Nat) {fn : Nat} {args : List SV} (hx : isTrueX (callX C (codeX C f) fn args .nil 0) = true) {I : Nat → Int} (hF : FactsOk C.facts I ∧ C.K I fun _ => .nilIface) {xs : List Value} (ha : denL ⟨I, fun _ => none, fun _ => .nilIface⟩ args = some xs) (w : World) :
    Calls P fn xs.toArray w fun e w' => e = .returned (.bool true) ∧ Below w.heap.size w w' := by
  unfold isTrueX at hx
  split at hx
  case h_2 => cases hx
  rename_i v h' n' hc
  split at hx
  case h_2 => cases hx
  rename_i b
  subst hx
  refine run_ok hC f hc (SH.start hG hg0 hb hF w.heap) ha (fun E' x w' hv hp => ?_)
  simp only [SV.den, Option.some.injEq] at hv
  subst hv
  exact ⟨rfl, hp.below⟩

/-! ### Parts of a run -/
omit hC in
theorem SH.recx {C0 : Cx} (he : C0.g0 = C.g0 ∧ C0.G = C.G ∧ C0.base = C.base ∧ C0.heap0 = C.heap0) {E : Env} (hkn : FactsOk C0.facts E.ints ∧ C0.K E.ints E.opq) {h : Nat → Option AO} {n : Nat} {hp : Array Obj} (s : SH C E h n hp) : SH C0 E h n hp := by
  obtain ⟨e1, e2, e3, e4⟩ := he
  exact ⟨s.hr, s.fresh, by rw [e1]; exact s.glob, by rw [e2]; exact s.low, ⟨hkn.1, hkn.2, by rw [e1, e2]; exact s.kn.2.2⟩, ⟨by rw [e3, e4]; exact s.anc.same, by rw [e3, e2]; exact s.anc.off, by rw [e3]; exact s.anc.size⟩⟩

omit hC in
theorem Post.recx {C0 : Cx} (he : C0.g0 = C.g0 ∧ C0.G = C.G ∧ C0.base = C.base ∧ C0.heap0 = C.heap0) {E E' : Env} (hkn : FactsOk C0.facts E.ints ∧ C0.K E.ints E.opq) {h h' : Nat → Option AO} {n n' : Nat} {w w' : World} (p : Post C E h n w E' h' n' w') : Post C0 E h n w E' h' n' w' := by
  refine ⟨p.sh.recx he (by rw [p.fr.le.ints, p.fr.le.opq]; exact hkn), ?_, p.mono, p.new, p.old⟩
  obtain ⟨_, e2, _, _⟩ := he
  rw [e2]
  exact p.fr

noncomputable def _root_.Go.Xq.newOk (h : Tr AO) (n : Nat) : List (Nat × AO) → Bool
  | [] => true
  | (k, o) :: r => match h.get k with
    | none => false
    | some o' => match beqAO o' o with
      | true => newOk h n r
      | false => false

noncomputable def _root_.Go.Xq.partIs (p : Part) (r : Option (SV × Tr AO × Nat)) : Bool := match r with
  | none => false
  | some (v, h', n') => match beqSV v p.v with
    | false => false
    | true => match Nat.beq n' p.n' with
      | false => false
      | true => match subH h' p.new with
        | false => false
        | true => match addH p.new .nil with
          | none => false
          | some _ => true

noncomputable def _root_.Go.Xq.partRun (C : Cx) (f : Nat) (p : Part) : Bool := match addH p.old .nil with
  | none => false
  | some hs => partIs p (callX C (codeX C f) p.f p.args hs p.n)

/-- A part that the kernel has run, in another context. -/
theorem part_ok {C' : Cx} (f : Nat) {p : Part} (hrun : partRun C f p = true) (he : C'.g0 = C.g0 ∧ C'.G = C.G ∧ C'.base = C.base ∧ C'.heap0 = C.heap0) (hkn : ∀ I Q, FactsOk C'.facts I → C'.K I Q → FactsOk C.facts I ∧ C.K I Q) : PartOk P C' p := by
  unfold partRun at hrun
  split at hrun
  · cases hrun
  rename_i hs e1
  unfold partIs at hrun
  split at hrun
  · cases hrun
  rename_i v h' n' hx
  split at hrun
  · cases hrun
  rename_i hv
  split at hrun
  · cases hrun
  rename_i hn
  split at hrun
  · cases hrun
  rename_i hnew
  split at hrun
  · cases hrun
  rename_i hs' e2
  have hv' := beqSV_eq _ _ hv
  have hn' := Nat.eq_of_beq_eq_true hn
  subst hv'; subst hn'
  refine ⟨hs, hs', e1, e2, fun E w xs s ha R hR => ?_⟩
  have he' : C.g0 = C'.g0 ∧ C.G = C'.G ∧ C.base = C'.base ∧ C.heap0 = C'.heap0 := ⟨he.1.symm, he.2.1.symm, he.2.2.1.symm, he.2.2.2.symm⟩
  have k := s.kn
  refine run_ok hC f hx (s.recx he' (hkn _ _ k.1 k.2.1)) ha (fun E' x w' hd hp => hR E' x w' hd ?_)
  exact (hp.recx he ⟨k.1, k.2.1⟩).sub (subH_ok hnew e2 (fun id o k => by rw [Tr.get_nil] at k; cases k))

/-! ### The context of a program -/
noncomputable def mkTr {α : Type} : List α → Nat → Tr α → Tr α
  | [], _, t => t
  | a :: r, k, t => match Tr.upd 24 t k (some a) with
    | some t' => mkTr r (Nat.succ k) t'
    | none => t

omit hC in
theorem mkTr_get {α : Type} : ∀ {l : List α} {k : Nat} {t : Tr α} {j : Nat} {a : α}, (mkTr l k t).get j = some a → t.get j = some a ∨ ∃ i, j = k + i ∧ l[i]? = some a
  | [], k, t, j, a, h => Or.inl h
  | x :: r, k, t, j, a, h => by
    simp only [mkTr] at h
    split at h
    · rename_i t1 hu
      rcases mkTr_get h with h | ⟨i, e, h⟩
      · rw [Tr.get_upd _ _ _ _ _ hu] at h
        by_cases e : j = k
        · rw [if_pos e] at h; cases h
          exact Or.inr ⟨0, by omega, rfl⟩
        · rw [if_neg e] at h; exact Or.inl h
      · exact Or.inr ⟨i + 1, by rw [e]; simp only [Nat.succ_eq_add_one]; omega, by simpa using h⟩
    · exact Or.inl h

/-- A type, as it is and as what it is declared. -/
noncomputable def tiOf (types : List TypeInfo) (i : TypeInfo) : Option TI := match i.desc with
  | .named _ u => match types[u]? with
    | some j => some ⟨j.desc, i⟩
    | none => none
  | d => some ⟨d, i⟩

noncomputable def mkTT (types : List TypeInfo) : List TypeInfo → Nat → Tr TI → Tr TI
  | [], _, t => t
  | i :: r, k, t => match tiOf types i with
    | none => mkTT types r (Nat.succ k) t
    | some x => match Tr.upd 24 t k (some x) with
      | some t' => mkTT types r (Nat.succ k) t'
      | none => t

omit hC in
theorem mkTT_get {types : List TypeInfo} : ∀ {l : List TypeInfo} {k : Nat} {t : Tr TI} {j : Nat} {a : TI}, (mkTT types l k t).get j = some a → t.get j = some a ∨ ∃ i x, j = k + i ∧ l[i]? = some x ∧ tiOf types x = some a
  | [], k, t, j, a, h => Or.inl h
  | x :: r, k, t, j, a, h => by
    have tl : ∀ {t' : Tr TI}, (mkTT types r (Nat.succ k) t').get j = some a → t'.get j = some a ∨ ∃ i y, j = k + i ∧ (x :: r)[i]? = some y ∧ tiOf types y = some a := by
      intro t' h
      rcases mkTT_get h with h | ⟨i, y, e, h1, h2⟩
      · exact Or.inl h
      · exact Or.inr ⟨i + 1, y, by rw [e]; simp only [Nat.succ_eq_add_one]; omega, by simpa using h1, h2⟩
    simp only [mkTT] at h
    split at h
    · exact tl h
    · rename_i y hy
      split at h
      · rename_i t1 hu
        rcases tl h with h | h
        · rw [Tr.get_upd _ _ _ _ _ hu] at h
          by_cases e : j = k
          · rw [if_pos e] at h; cases h
            exact Or.inr ⟨0, x, by omega, rfl, hy⟩
          · rw [if_neg e] at h; exact Or.inl h
        · exact Or.inr h
      · exact Or.inl h

noncomputable def mkE : List (Nat × Nat) → Tr Nat
  | [] => .nil
  | (f, k) :: r => match Tr.upd 24 (mkE r) f (some k) with
    | some t => t
    | none => mkE r

omit hC in
theorem mkE_get : ∀ {l : List (Nat × Nat)} {f k : Nat}, (mkE l).get f = some k → (f, k) ∈ l
  | [], f, k, h => by rw [mkE, Tr.get_nil] at h; cases h
  | (g, j) :: r, f, k, h => by
    simp only [mkE] at h
    split at h
    · rename_i t hu
      rw [Tr.get_upd _ _ _ _ _ hu] at h
      by_cases e : f = g
      · rw [if_pos e] at h; cases h; subst e; exact List.mem_cons_self
      · rw [if_neg e] at h; exact List.mem_cons_of_mem _ (mkE_get h)
    · exact List.mem_cons_of_mem _ (mkE_get h)

noncomputable def cxOf (funcs : Array Func) (types : Array TypeInfo) (exts : List (Nat × Nat)) (g0 G : Nat) (facts : List Fact) (hooks : List Hook) (K : (Nat → Int) → Prop) (sok : List Nat := []) (base : Nat := 0) (heap0 : Nat → Option Obj := fun _ => none) (KQ : (Nat → Int) → (Nat → Value) → Prop := fun _ _ => True) (par : List (Nat × Nat × Nat × Nat) := []) (dfs : List Nat := []) (parts : List Part := []) : Cx :=
  { sok, par, dfs, parts, base, heap0, ft := mkTr funcs.toList 0 .nil, tt := mkTT types.toList types.toList 0 .nil, et := mkE exts, g0, G, facts, hooks, K := fun I Q => KQ I Q ∧ K I }

noncomputable def nameOk (l : List Func) : Bool := l.all fun fn => !(fn.name == "runtime.NumGoroutine")

omit hC in
theorem cxOf_ok (hn : nameOk P.funcs.toList = true) (hm : P.follows .mixedOrders = true) {exts : List (Nat × Nat)} {g0 G : Nat} (he : ∀ x ∈ exts, ExtOk P x.1 x.2) {facts : List Fact} {hooks : List Hook} {K : (Nat → Int) → Prop} {KQ : (Nat → Int) → (Nat → Value) → Prop} {base : Nat} {heap0 : Nat → Option Obj}
    (hk : ∀ hk ∈ hooks, ∀ (E : Env) xs, KQ E.ints E.opq ∧ K E.ints → denL E hk.args = some xs → ∃ x, hk.res.den E = some x ∧ ∀ w, base ≤ w.heap.size → (∀ k, k < base → w.heap[k]? = heap0 k) → Calls P hk.f xs.toArray w fun e w' => e = .returned x ∧ Below w.heap.size w w') {sok : List Nat} (hs : (sok.all fun t => !P.stoodInHeld t && !P.eqGuardType P.depth t) = true := by rfl) {dfs : List Nat} {par : List (Nat × Nat × Nat × Nat)} (hpar : ParOk par (fun I Q => KQ I Q ∧ K I) base heap0 := by exact fun _ _ _ _ h => nomatch h) {parts : List Part} (hparts : ∀ p ∈ parts, PartOk P (cxOf P.funcs P.types exts g0 G facts hooks K sok base heap0 KQ par dfs parts) p := by exact fun _ h => nomatch h) : (cxOf P.funcs P.types exts g0 G facts hooks K sok base heap0 KQ par dfs parts).Ok P := by
  refine ⟨fun f fn hf => ?_, fun t i hi => ?_, hm, hpar, fun f k h => he (f, k) (mkE_get h), fun t ht => by simpa using List.all_eq_true.1 hs t (memN_mem ht), hk, hparts⟩
  · rcases mkTr_get hf with h | ⟨i, e, h⟩
    · rw [Tr.get_nil] at h; cases h
    · rw [Nat.zero_add] at e; subst e
      refine ⟨by simpa using h, ?_⟩
      have := List.all_eq_true.1 hn fn (List.mem_of_getElem? h)
      simpa using this
  · rcases mkTT_get hi with h | ⟨j, x, e, h1, h2⟩
    · rw [Tr.get_nil] at h; cases h
    · rw [Nat.zero_add] at e; subst e
      have hx : P.types[t]? = some x := by simpa using h1
      have hlt := (Array.getElem?_eq_some_iff.1 hx).1
      have hin : P.info? t = some x := by
        show (if t < P.types.size then P.types[t]? else _) = _
        rw [if_pos hlt]; exact hx
      unfold tiOf at h2
      split at h2
      · rename_i nm u hd
        split at h2
        case h_2 => cases h2
        rename_i y hy
        cases h2
        have hy' : P.types[u]? = some y := by simpa using hy
        have hlt2 := (Array.getElem?_eq_some_iff.1 hy').1
        have hin2 : P.info? u = some y := by
          show (if u < P.types.size then P.types[u]? else _) = _
          rw [if_pos hlt2]; exact hy'
        refine ⟨?_, hin⟩
        obtain ⟨d, b, c, f, g, k, l, m, n, o⟩ := x
        simp only at hd
        subst hd
        simp only [Program.underlying, hin, hin2, Option.map_some]
      · rename_i hnn
        cases h2
        refine ⟨?_, hin⟩
        obtain ⟨d, b, c, f, g, k, l, m, n, o⟩ := x
        simp only [Program.underlying, hin]
        split
        · rename_i nm u e
          simp only [Option.some.injEq, TypeInfo.mk.injEq] at e
          exact absurd e.1 (hnn _ _)
        · rename_i i' _ e
          cases e; rfl
        · rename_i e; cases e
end
end Go.Xq
