/-
  A run of closed code by the kernel: a region whose order is drawn: in each order the state that the run in the text's order comes to.
-/
import Derived.Test.YtggonamheakkkaaGreatDoorXn
namespace Go.Xq
open Go.RowKit
set_option linter.unusedVariables false

structure Cert (C : Cx) (ex : Nat → Code → St → Option (Ex × St)) (sz : Nat) (ops : Array Oper) (all : List Oper) (s : St) (t0 : Tr SV) (as dm : Tr Nat) (L : List Rec) (t : Tr SV) (p : Ph) (ph : List Ph) (M : Nat) : Prop where
  val : Val C ex sz s.n all as t0 ⟨s.h, s.n + ops.size, 0, 0⟩ L t p ph
  len : L.length = M
  le : M ≤ all.length
  pre : ∀ k, k < all.length → ops[k]? = all[k]?
  lsz : all.length ≤ ops.size
  dmk : ∀ (k : Nat) (o : Oper) (d : Nat), all[k]? = some o → o.dst = some d → dm.get d = some k
  stat : ∀ (k : Nat) (o : Oper), all[k]? = some o → StatP dm as k o
  clr0 : ∀ u v, t0.get u = some v → s.t.get u = some v
  clr : ∀ (i : Nat) (o : Oper) (d : Nat), all[i]? = some o → o.dst = some d → t0.get d = none
  chk : chkX C s.n L p.wm (p :: ph) L = true

/-- The state in the midst of a region: what is done is D. -/
structure RI (C : Cx) (d : List Deferred) (E0 : Env) (sz : Nat) (s : St) (w0 : World) (m : Nat) (L : List Rec) (t : Tr SV) (F : List Ph) (D : Nat → Bool) (E : Env) (a : Act) (w : World) : Prop where
  tm : ∀ u v, t.get u = some v → (∀ r ∈ L, r.o.dst = some u → D r.i = true) → ∃ x, a.tmps[u]? = some x ∧ v.den E = some x
  sz : a.tmps.size = sz
  df : a.defers = d
  cl : ∀ r ∈ L, D r.i = true → ∀ l, bitX r.anc l = true → D l = true
  cur : ∃ q qh, (q :: qh) <:+ F ∧ (∀ r ∈ L, ∀ k, r.k = .write k → (D r.i = true ↔ k < qh.length)) ∧ (∀ l, bitX q.am l = true → D l = true) ∧ s.n + m ≤ q.n ∧ (∀ i, i < m → bitX q.am i = false → q.h.get (s.n + i) = none) ∧
    (∀ id, q.n ≤ id → E.blk id = none) ∧
    ∃ H : Nat → Option AO, HR E H w.heap ∧ (∀ id o, q.h.get id = some o → H id = some o) ∧ (∀ r ∈ L, ∀ ao, r.k = .alloc ao → D r.i = true → bitX q.am r.i = false → H (s.n + r.i) = some ao) ∧ Fr C.G E0 s.h w0 E H w ∧
      (∀ id o, H id = some o → (∃ o0, s.h.get id = some o0) ∨ s.n ≤ id)
  und : ∀ i, i < m → D i = false → E.blk (s.n + i) = none
  old : ∀ id, id < s.n → E.blk id = E0.blk id
  glob : ∀ g, g < C.g0 → ∃ r, E.blk g = some (g, r)
  facts : FactsOk C.facts E.ints ∧ C.K E.ints E.opq ∧ C.g0 ≤ C.G
  low : C.G ≤ s.n ∧ Anc C E0 s.h w0.heap

theorem suffix_eq {α : Type} {a b : List α} {l : List α} (h : a <:+ l) (k : b <:+ l) (e : a.length = b.length) : a = b := by
  obtain ⟨x, rfl⟩ := h
  obtain ⟨y, hy⟩ := k
  have hl : y.length = x.length := by
    have := congrArg List.length hy
    simp only [List.length_append] at this
    omega
  exact (List.append_inj hy hl).2.symm

section
variable {P : Program} {C : Cx} (hC : C.Ok P) {ro : Option Nat} {ex : Nat → Code → St → Option (Ex × St)} (hex : ExOk P C ex) {sz : Nat} {ops : Array Oper} {s : St} {t0 : Tr SV} {as dm : Tr Nat} {L : List Rec} {t : Tr SV} {p : Ph} {ph : List Ph} {M : Nat}
variable {all : List Oper} (ct : Cert C ex sz ops all s t0 as dm L t p ph M) {d : List Deferred} {E0 : Env} {w0 : World}

noncomputable def put1 (D : Nat → Bool) (i : Nat) : Nat → Bool := fun j => if j = i then true else D j

include ct

theorem Cert.recd {i : Nat} {o : Oper} (ho : ops[i]? = some o) (hi : i < M) : ∃ r ∈ L, r.i = i ∧ r.o = o := by
  obtain ⟨r, hr, e⟩ := val_ex ct.val i (by rw [ct.len]; exact hi)
  obtain ⟨_, h2, _⟩ := val_mem ct.val r hr
  rw [e] at h2
  have : all[i]? = some o := by rw [← ct.pre i (Nat.lt_of_lt_of_le hi ct.le)]; exact ho
  rw [this] at h2
  exact ⟨r, hr, e, (Option.some.inj h2).symm⟩

theorem Cert.dis : ∀ (i j : Nat) (o o' : Oper) (d : Nat), all[i]? = some o → all[j]? = some o' → o.dst = some d → o'.dst = some d → i = j := by
  intro i j o o' d hi hj h1 h2
  have a := ct.dmk i o d hi h1
  have b := ct.dmk j o' d hj h2
  rw [a] at b
  exact Option.some.inj b

/-- Of an operation that is ready: all that it stands behind is done. -/
theorem Cert.ready {D : Nat → Bool} {r : Rec} (hr : r ∈ L) (hcl : ∀ r ∈ L, D r.i = true → ∀ l, bitX r.anc l = true → D l = true) (hed : ∀ e ∈ r.o.after, bindsX e = true → D e.on = true) : ∀ l, bitX r.anc l = true → D l = true := by
  intro l hl
  obtain ⟨h1, h2, h3⟩ := val_mem ct.val r hr
  obtain ⟨a, ha, _, hb, _⟩ := (ct.stat r.i r.o h2).ex
  rw [h3] at ha
  cases ha
  obtain ⟨_, e, he, k1, k2⟩ := hb l hl
  have hon := hed e (by simpa using he) k1
  rcases k2 with rfl | ⟨a', g1, g2⟩
  · exact hon
  · obtain ⟨_, _, _, _, hlt⟩ := (ct.stat r.i r.o h2).ex
    have hlt' := hlt e he k1
    obtain ⟨r', hr', e'⟩ := val_ex ct.val e.on (by omega)
    obtain ⟨_, _, h3'⟩ := val_mem ct.val r' hr'
    rw [e'] at h3'
    rw [h3'] at g1
    cases g1
    exact hcl r' hr' (by rw [e']; exact hon) l g2

/-- What an operation that is ready reads is known. -/
theorem Cert.get {D : Nat → Bool} {E : Env} {a : Act} {w : World} {F : List Ph} {m : Nat} (hi : RI C d E0 sz s w0 m L t F D E a w) {r : Rec} (hr : r ∈ L) (hanc : ∀ l, bitX r.anc l = true → D l = true) :
    ∀ x v, x ∈ r.o.op.operands → getX C.g0 r.t x = some v → v.den E = some (a.eval x) := by
  intro x v hx hg
  obtain ⟨h1, h2, h3⟩ := val_mem ct.val r hr
  obtain ⟨an, ha, hl, _, _⟩ := (ct.stat r.i r.o h2).ex
  rw [h3] at ha
  cases ha
  cases x with
  | tmp u =>
    obtain ⟨_, hmono, _⟩ := val_tmp ct.dis ct.clr ct.val
    have hlk : looksL dm r.anc r.o.op.operands.toList = true := by
      unfold looksX at hl
      split at hl
      · cases hl
      · assumption
    obtain ⟨y, hy, hd⟩ := hi.tm u v (hmono r hr u v hg) (fun r' hr' hdst => by
      obtain ⟨_, g2, _⟩ := val_mem ct.val r' hr'
      exact hanc _ (looksL_ok hlk u r'.i (by simpa using hx) (ct.dmk r'.i r'.o u g2 hdst)))
    rw [hd]; simp [Act.eval, hy]
  | const c => exact ofV_den E c v hg
  | func f => simp only [getX, Option.some.injEq] at hg; subst hg; simp [SV.den, denL, Act.eval]
  | global g =>
    simp only [getX] at hg
    cases hb : Nat.blt g C.g0 with
    | false => rw [hb] at hg; simp at hg
    | true =>
      rw [hb] at hg
      simp only [Option.some.injEq] at hg
      subst hg
      obtain ⟨r, hr⟩ := hi.glob g (by simpa [Nat.blt_eq] using hb)
      simp [SV.den, hr, Act.eval]

/-- Whether it is wanted is known. -/
theorem Cert.want {D : Nat → Bool} {E : Env} {a : Act} {w : World} {F : List Ph} {m : Nat} (hi : RI C d E0 sz s w0 m L t F D E a w) {r : Rec} (hr : r ∈ L) (hanc : ∀ l, bitX r.anc l = true → D l = true) {b : Bool}
    (hw : wantedX all r.t r.o = some b) : Region.wanted r.o (yielded ops a.tmps) = b := by
  obtain ⟨h1, h2, h3⟩ := val_mem ct.val r hr
  obtain ⟨an, ha, hl, hbt, _⟩ := (ct.stat r.i r.o h2).ex
  rw [h3] at ha
  cases ha
  have hal : r.i < all.length := by rw [ct.len] at h1; exact Nat.lt_of_lt_of_le h1 ct.le
  have hgl : ∀ j want, r.o.guard = some (j, want) → j < all.length := by
    intro j want hg
    have hjb : bitX r.anc j = true := by
      unfold looksX at hl
      split at hl
      · cases hl
      · rw [hg] at hl; exact hl
    exact Nat.lt_trans (hbt j hjb).1 hal
  have hw : wantedX ops.toList r.t r.o = some b := by
    unfold wantedX at hw ⊢
    split at hw
    · exact hw
    · rename_i j want hg
      have : ops.toList[j]? = all[j]? := by rw [← ct.pre j (hgl j want hg)]; simp
      rw [this]; exact hw
  refine wantedX_ok (E := E) hw ?_
  intro j want g d v hg hj hd hv
  obtain ⟨_, hmono, _⟩ := val_tmp ct.dis ct.clr ct.val
  have hjb : bitX r.anc j = true := by
    unfold looksX at hl
    split at hl
    · cases hl
    · rw [hg] at hl; exact hl
  exact hi.tm d v (hmono r hr d v hv) (fun r' hr' hdst => by
    obtain ⟨_, g2, _⟩ := val_mem ct.val r' hr'
    have : r'.i = j := ct.dis r'.i j r'.o g d g2 (by rw [← ct.pre j (hgl j want hg)]; exact hj) hdst hd
    rw [this]
    exact hanc _ hjb)

/-- Behind an operation: temporaries. -/
theorem Cert.tm {D : Nat → Bool} {E E' : Env} {a : Act} {w : World} {F : List Ph} {m : Nat} (hi : RI C d E0 sz s w0 m L t F D E a w) {r : Rec} (hr : r ∈ L) (hle : E.le E') {x : Value} (hx : r.v.den E' = some x) :
    ∀ u v, t.get u = some v → (∀ r' ∈ L, r'.o.dst = some u → put1 D r.i r'.i = true) → ∃ y, (a.put r.o.dst x).tmps[u]? = some y ∧ v.den E' = some y := by
  intro u v hu hD
  obtain ⟨_, _, hset⟩ := val_tmp ct.dis ct.clr ct.val
  by_cases e : r.o.dst = some u
  · obtain ⟨g1, g2⟩ := hset r hr u e
    rw [g2] at hu
    cases hu
    refine ⟨x, ?_, hx⟩
    rw [e]
    simp [Act.put, hi.sz, g1]
  · obtain ⟨y, hy, hd⟩ := hi.tm u v hu (fun r' hr' hdst => by
      have := hD r' hr' hdst
      unfold put1 at this
      by_cases e' : r'.i = r.i
      · have := val_inj ct.val r' hr' r hr e'
        subst this
        exact absurd hdst e
      · rw [if_neg e'] at this; exact this)
    refine ⟨y, ?_, SV.den_mono hle _ _ hd⟩
    cases hd' : r.o.dst with
    | none => exact hy
    | some d =>
      have : d ≠ u := fun e' => e (by rw [hd', e'])
      simp only [Act.put]
      rw [Array.getElem?_setIfInBounds_ne this]
      exact hy

theorem Cert.cl' {D : Nat → Bool} {r : Rec} (hr : r ∈ L) (hcl : ∀ r ∈ L, D r.i = true → ∀ l, bitX r.anc l = true → D l = true) (hanc : ∀ l, bitX r.anc l = true → D l = true) :
    ∀ r' ∈ L, put1 D r.i r'.i = true → ∀ l, bitX r'.anc l = true → put1 D r.i l = true := by
  intro r' hr' hD l hl
  unfold put1 at hD ⊢
  by_cases e' : r'.i = r.i
  · have := val_inj ct.val r' hr' r hr e'
    subst this
    rw [hanc l hl]; simp
  · rw [if_neg e'] at hD
    rw [hcl r' hr' hD l hl]; simp

omit ct in
theorem put_sz {a : Act} {d : Option Tmp} {x : Value} : (a.put d x).tmps.size = a.tmps.size := by cases d <;> simp [Act.put]
omit ct in
theorem put_df {a : Act} {d : Option Tmp} {x : Value} : (a.put d x).defers = a.defers := by cases d <;> rfl

omit ct in
/-- A part of memory that an operation looks at. -/
theorem RI.part {D : Nat → Bool} {E : Env} {a : Act} {w : World} {F : List Ph} {m : Nat} (hi : RI C d E0 sz s w0 m L t F D E a w) {q : Ph} {H : Nat → Option AO} (hsub : ∀ id o, q.h.get id = some o → H id = some o)
    (hal : ∀ r ∈ L, ∀ ao, r.k = .alloc ao → D r.i = true → bitX q.am r.i = false → H (s.n + r.i) = some ao) {anc : Nat} (hanc : ∀ l, bitX anc l = true → D l = true) {rs : List Rec} (hrs : ∀ x ∈ rs, x ∈ L) {hh : Tr AO}
    (ha : addA s.n anc q.am rs q.h = some hh) : ∀ id o, hh.get id = some o → H id = some o := by
  intro id o hid
  rcases addA_sub ha id o hid with h | ⟨x, hx, ao, k1, k2, k3, rfl, rfl⟩
  · exact hsub id o h
  · exact hal x (hrs x hx) _ k1 (hanc _ k2) k3

/-- An operation that leaves memory as it is (or does nothing). -/
theorem Cert.still {D : Nat → Bool} {E : Env} {a : Act} {w : World} {m : Nat} (hi : RI C d E0 sz s w0 m L t (p :: ph) D E a w) {r : Rec} (hr : r ∈ L) (hanc : ∀ l, bitX r.anc l = true → D l = true) (hnw : ∀ k, r.k ≠ .write k) (hna : ∀ ao, r.k ≠ .alloc ao)
    {x : Value} (hx : r.v.den E = some x) : RI C d E0 sz s w0 m L t (p :: ph) (put1 D r.i) E (a.put r.o.dst x) w := by
  obtain ⟨q, qh, c1, c2, c3, c4, c5, c6, H, c7, c8, c9, c10, c11⟩ := hi.cur
  refine ⟨ct.tm hi hr (Env.le.refl E) hx, by rw [put_sz]; exact hi.sz, by rw [put_df]; exact hi.df, ct.cl' hr hi.cl hanc, ⟨q, qh, c1, ?_, ?_, c4, c5, c6, H, c7, c8, ?_, c10, c11⟩, ?_, hi.old, hi.glob, hi.facts, hi.low⟩
  · intro r' hr' k hk
    rw [← c2 r' hr' k hk]
    unfold put1
    by_cases e : r'.i = r.i
    · have := val_inj ct.val r' hr' r hr e
      subst this
      exact absurd hk (hnw k)
    · rw [if_neg e]
  · intro l hl
    unfold put1
    rw [c3 l hl]; simp
  · intro r' hr' ao hk hD hb
    unfold put1 at hD
    by_cases e : r'.i = r.i
    · have := val_inj ct.val r' hr' r hr e
      subst this
      exact absurd hk (hna ao)
    · rw [if_neg e] at hD
      exact c9 r' hr' ao hk hD hb
  · intro i hi' hD
    unfold put1 at hD
    by_cases e : i = r.i
    · rw [if_pos e] at hD; cases hD
    · rw [if_neg e] at hD; exact hi.und i hi' hD

/-- An operation that makes a block. -/
theorem Cert.made {D : Nat → Bool} {E : Env} {a : Act} {w : World} (hi : RI C d E0 sz s w0 ops.size L t (p :: ph) D E a w) {r : Rec} (hr : r ∈ L) (hanc : ∀ l, bitX r.anc l = true → D l = true) (hnd : D r.i = false) {ao : AO} (hk : r.k = .alloc ao)
    {O : Obj} {y : Value} (hO : AOK E w (s.n + r.i) r.v ao O y) : ∃ E', RI C d E0 sz s w0 ops.size L t (p :: ph) (put1 D r.i) E' (a.put r.o.dst y) (w.alloc O) := by
  obtain ⟨q, qh, c1, c2, c3, c4, c5, c6, H, c7, c8, c9, c10, c11⟩ := hi.cur
  obtain ⟨room, hden, hrel⟩ := hO
  have hlt : r.i < ops.size := by have := (val_mem ct.val r hr).1; rw [ct.len] at this; exact Nat.lt_of_lt_of_le (Nat.lt_of_lt_of_le this ct.le) ct.lsz
  have hn := hi.und r.i hlt hnd
  have hle : E.le (E.set (s.n + r.i) (w.heap.size, room)) := Env.set_le hn
  have hHn : H (s.n + r.i) = none := by
    cases hx : H (s.n + r.i) with
    | none => rfl
    | some o => obtain ⟨p', hp', _⟩ := c7.obj _ _ hx; rw [hn] at hp'; cases hp'
  have hgt : ∀ j, (fun j => if j = s.n + r.i then some ao else H j) j = if j = s.n + r.i then some ao else H j := fun _ => rfl
  have hG := hi.low.1
  have hgn : ∀ g, g < C.g0 → (E.set (s.n + r.i) (w.heap.size, room)).blk g = E.blk g := fun g hg => Env.set_ne _ _ (by have := hi.facts.2.2; omega)
  refine ⟨E.set (s.n + r.i) (w.heap.size, room), ct.tm hi hr hle hden, by rw [put_sz]; exact hi.sz, by rw [put_df]; exact hi.df, ct.cl' hr hi.cl hanc,
    ⟨q, qh, c1, ?_, ?_, c4, c5, ?_, (fun j => if j = s.n + r.i then some ao else H j), HR.alloc c7 hn hgt hrel, ?_, ?_, c10.trans (Fr.alloc hn hgt), ?_⟩, ?_, ?_, ?_, hi.facts, hi.low⟩
  · intro r' hr' k hk'
    rw [← c2 r' hr' k hk']
    unfold put1
    by_cases e : r'.i = r.i
    · have := val_inj ct.val r' hr' r hr e
      subst this
      rw [hk] at hk'; cases hk'
    · rw [if_neg e]
  · intro l hl
    unfold put1
    rw [c3 l hl]; simp
  · intro id hid
    rw [Env.set_ne _ _ (by omega)]
    exact c6 id hid
  · intro id o hid
    have hne : id ≠ s.n + r.i := by
      intro e; subst e
      rw [c8 _ _ hid] at hHn; cases hHn
    show (if id = s.n + r.i then some ao else H id) = some o
    rw [if_neg hne]
    exact c8 id o hid
  · intro r' hr' ao' hk' hD hb
    unfold put1 at hD
    by_cases e : r'.i = r.i
    · have := val_inj ct.val r' hr' r hr e
      subst this
      rw [hk] at hk'; cases hk'
      show (if s.n + r'.i = s.n + r'.i then some ao else H _) = some ao
      rw [if_pos rfl]
    · rw [if_neg e] at hD
      show (if s.n + r'.i = s.n + r.i then some ao else H _) = some ao'
      rw [if_neg (by omega)]
      exact c9 r' hr' ao' hk' hD hb
  · intro id o hid
    by_cases e : id = s.n + r.i
    · exact Or.inr (by omega)
    · have hid' : (if id = s.n + r.i then some ao else H id) = some o := hid
      rw [if_neg e] at hid'
      exact c11 id o hid'
  · intro i hi' hD
    unfold put1 at hD
    by_cases e : i = r.i
    · rw [if_pos e] at hD; cases hD
    · rw [if_neg e] at hD
      rw [Env.set_ne _ _ (by omega)]
      exact hi.und i hi' hD
  · intro id hid
    rw [Env.set_ne _ _ (by omega)]
    exact hi.old id hid
  · intro g hg
    obtain ⟨x, hx⟩ := hi.glob g hg
    exact ⟨x, by rw [hgn g hg]; exact hx⟩

/-- An operation that changes memory. -/
theorem Cert.wrote {D : Nat → Bool} {E : Env} {a : Act} {w : World} (hi : RI C d E0 sz s w0 ops.size L t (p :: ph) D E a w) {r : Rec} (hr : r ∈ L) (hanc : ∀ l, bitX r.anc l = true → D l = true) (hnd : D r.i = false) {k : Nat} (hk : r.k = .write k) :
    ∃ (q : Ph) (hh h' : Tr AO) (n' : Nat), writerR C ex r.t hh q.n r.o.op = some (false, r.v, h', n') ∧ wantedX all r.t r.o = some true ∧ SH C E hh q.n w.heap ∧
      ∀ E' x w', r.v.den E' = some x → Post C E hh q.n w E' h' n' w' → RI C d E0 sz s w0 ops.size L t (p :: ph) (put1 D r.i) E' (a.put r.o.dst x) w' := by
  obtain ⟨q, qh, c1, c2, c3, c4, c5, c6, H, c7, c8, c9, c10, c11⟩ := hi.cur
  obtain ⟨wa, wb, wc⟩ := val_wm rfl ct.val
  obtain ⟨rs, q1, q1h, p1, p1h, hko, hrs, hs1, hs2⟩ := val_k ct.val r hr
  unfold KOk at hko
  rw [hk] at hko
  obtain ⟨hwant, hkl, hland, ⟨hh, hadd, hwr⟩, hwm, ham, hph1⟩ := hko
  subst hkl
  -- the state before is the present one
  have hge : qh.length ≤ q1h.length := by
    have : ¬ (q1h.length < qh.length) := fun hlt => by have := (c2 r hr _ hk).2 hlt; rw [hnd] at this; cases this
    omega
  have hle : q1h.length ≤ qh.length := by
    rcases Nat.lt_or_ge qh.length q1h.length with hlt | hge'
    · exfalso
      have hlen : qh.length < ph.length := by
        have := hs1.length_le
        simp only [List.length_cons] at this
        omega
      obtain ⟨r2, hr2, hk2⟩ := wb qh.length hlen
      have hb : bitX q1.wm r2.i = true := (wa q1 q1h hs1 r2.i).2 ⟨r2, hr2, rfl, _, hk2, hlt⟩
      have hb2 : bitX r.anc r2.i = true := by
        have : bitX (Nat.land q1.wm r.anc) r2.i = true := by rw [hland]; exact hb
        rw [bitX_land, Bool.and_eq_true] at this
        exact this.2
      have := (c2 r2 hr2 _ hk2).1 (hanc _ hb2)
      omega
    · exact hge'
  have heq : q :: qh = q1 :: q1h := suffix_eq c1 hs1 (by simp; omega)
  simp only [List.cons.injEq] at heq
  obtain ⟨rfl, rfl⟩ := heq
  have hpart := RI.part hi c8 c9 hanc hrs hadd
  refine ⟨q, hh, p1.h, p1.n, hwr, hwant, ⟨c7.sub hpart, c6, hi.glob, by have := hi.low.1; omega, hi.facts, (hi.low.2.step c10).sub hpart⟩, ?_⟩
  intro E' x w' hx hpost
  obtain ⟨f1, f2⟩ := frame c7 hpart hpost c6 (by have := hi.low.1; omega)
  have hlt : r.i < ops.size := by have := (val_mem ct.val r hr).1; rw [ct.len] at this; exact Nat.lt_of_lt_of_le (Nat.lt_of_lt_of_le this ct.le) ct.lsz
  have notin : ∀ i, i < ops.size → bitX q.am i = false → bitX r.anc i = false → hh.get (s.n + i) = none := by
    intro i hi1 hi2 hi3
    cases hx : hh.get (s.n + i) with
    | none => rfl
    | some o =>
      rcases addA_sub hadd _ _ hx with h | ⟨y, hy, ao, k1, k2, k3, k4, _⟩
      · rw [c5 i hi1 hi2] at h; cases h
      · have : y.i = i := by omega
        rw [this] at k2
        rw [hi3] at k2; cases k2
  have hmono := hpost.mono
  have ham' : ∀ i, bitX p1.am i = (bitX q.am i || bitX r.anc i) := fun i => by rw [ham, bitX_lor]
  refine ⟨ct.tm hi hr hpost.fr.le hx, by rw [put_sz]; exact hi.sz, by rw [put_df]; exact hi.df, ct.cl' hr hi.cl hanc,
    ⟨p1, p1h, hs2, ?_, ?_, by omega, ?_, fun id hid => hpost.sh.fresh id hid, _, f1, ?_, ?_, c10.trans f2, ?_⟩, ?_, ?_, hpost.sh.glob, hpost.sh.kn, hi.low⟩
  · intro r' hr' k hk'
    rw [hph1]
    unfold put1
    by_cases e : r'.i = r.i
    · have := val_inj ct.val r' hr' r hr e
      subst this
      rw [hk] at hk'; cases hk'
      simp
    · rw [if_neg e]
      rw [c2 r' hr' k hk']
      constructor
      · intro h; simp; omega
      · intro h
        simp only [List.length_cons] at h
        rcases Nat.lt_or_ge k qh.length with h' | h'
        · exact h'
        · exfalso
          have hk2 : k = qh.length := by omega
          subst hk2
          -- two operations with one number: both change memory first behind the same state
          have hb : bitX p1.wm r'.i = true := (wa p1 p1h hs2 r'.i).2 ⟨r', hr', rfl, _, hk', by rw [hph1]; simp⟩
          rw [hwm, bitX_lor, bitX_one, Bool.or_eq_true, decide_eq_true_eq] at hb
          rcases hb with hb | hb
          · obtain ⟨r3, hr3, e3, k3, hk3, hlt3⟩ := (wa q qh hs1 r'.i).1 hb
            have := val_inj ct.val r3 hr3 r' hr' e3
            subst this
            rw [hk'] at hk3; cases hk3; omega
          · exact e hb.symm
  · intro l hl
    unfold put1
    rw [ham', Bool.or_eq_true] at hl
    rcases hl with hl | hl
    · rw [c3 l hl]; simp
    · rw [hanc l hl]; simp
  · intro i hi1 hi2
    rw [ham', Bool.or_eq_false_iff] at hi2
    cases hx : p1.h.get (s.n + i) with
    | none => rfl
    | some o =>
      rcases hpost.new _ _ hx with ⟨o0, h0⟩ | hge'
      · rw [notin i hi1 hi2.1 hi2.2] at h0; cases h0
      · omega
  · intro id o hid
    show (match p1.h.get id with | some o => some o | none => match hh.get id with | some _ => none | none => H id) = some o
    rw [hid]
  · intro r' hr' ao hk' hD hb
    rw [ham', Bool.or_eq_false_iff] at hb
    unfold put1 at hD
    have hi1 : r'.i < ops.size := by have := (val_mem ct.val r' hr').1; rw [ct.len] at this; exact Nat.lt_of_lt_of_le (Nat.lt_of_lt_of_le this ct.le) ct.lsz
    have hne : r'.i ≠ r.i := by
      intro e
      have := val_inj ct.val r' hr' r hr e
      subst this
      rw [hk] at hk'; cases hk'
    rw [if_neg hne] at hD
    have h1 := notin r'.i hi1 hb.1 hb.2
    have h2 : p1.h.get (s.n + r'.i) = none := by
      cases hx : p1.h.get (s.n + r'.i) with
      | none => rfl
      | some o =>
        rcases hpost.new _ _ hx with ⟨o0, h0⟩ | hge'
        · rw [h1] at h0; cases h0
        · omega
    show (match p1.h.get (s.n + r'.i) with | some o => some o | none => match hh.get (s.n + r'.i) with | some _ => none | none => H (s.n + r'.i)) = some ao
    rw [h1, h2]
    exact c9 r' hr' ao hk' hD hb.1
  · intro id o hid
    have hid' : (match p1.h.get id with | some o => some o | none => match hh.get id with | some _ => none | none => H id) = some o := hid
    split at hid'
    · rename_i o' ho'
      rcases hpost.new _ _ ho' with ⟨o0, h0⟩ | hge'
      · exact c11 id o0 (hpart id o0 h0)
      · exact Or.inr (by omega)
    · split at hid'
      · cases hid'
      · exact c11 id o hid'
  · intro i hi1 hD
    unfold put1 at hD
    by_cases e : i = r.i
    · rw [if_pos e] at hD; cases hD
    · rw [if_neg e] at hD
      rw [hpost.old _ (by omega)]
      exact hi.und i hi1 hD
  · intro id hid
    rw [hpost.old _ (by omega)]
    exact hi.old id hid

/-- At the end. -/
theorem Cert.done {h : Tr AO} {full : Nat} (hfin : addA s.n full p.am L p.h = some h) {D : Nat → Bool} {E : Env} {a : Act} {w : World} (hi : RI C d E0 sz s w0 ops.size L t (p :: ph) D E a w) (hall : ∀ r ∈ L, D r.i = true) : SR C d E sz ⟨t, h, p.n⟩ a w ∧ Post C E0 s.h s.n w0 E h p.n w := by
  obtain ⟨q, qh, c1, c2, c3, c4, c5, c6, H, c7, c8, c9, c10, c11⟩ := hi.cur
  obtain ⟨wa, wb, wc⟩ := val_wm rfl ct.val
  have hge : ph.length ≤ qh.length := by
    rcases Nat.lt_or_ge qh.length ph.length with hlt | hge'
    · exfalso
      obtain ⟨r2, hr2, hk2⟩ := wb qh.length hlt
      have := (c2 r2 hr2 _ hk2).1 (hall _ hr2)
      omega
    · exact hge'
  have hle := c1.length_le
  have heq : q :: qh = p :: ph := suffix_eq c1 (List.suffix_refl _) (by simp at hle ⊢; omega)
  simp only [List.cons.injEq] at heq
  obtain ⟨rfl, rfl⟩ := heq
  have hsub : ∀ id o, h.get id = some o → H id = some o := by
    intro id o hid
    rcases addA_sub hfin id o hid with h | ⟨x, hx, ao, k1, k2, k3, rfl, rfl⟩
    · exact c8 id o h
    · exact c9 x hx _ k1 (hall _ hx) k3
  have hsh : SH C E h q.n w.heap := ⟨c7.sub hsub, c6, hi.glob, by have := hi.low.1; omega, hi.facts, (hi.low.2.step c10).sub hsub⟩
  exact ⟨⟨fun u v hu => hi.tm u v hu (fun r hr _ => hall _ hr), hi.sz, hi.df, hsh⟩, hsh, c10.sub hsub, by show s.n ≤ q.n; omega, fun id o hid => c11 id o (hsub id o hid), hi.old⟩

/-- Of any operation that is ready: all that it stands behind is done. -/
theorem Cert.readyI {D : Nat → Bool} {i : Nat} {o : Oper} {anc : Nat} (hle : i ≤ M) (ho : all[i]? = some o) (ha : as.get i = some anc) (hcl : ∀ r ∈ L, D r.i = true → ∀ l, bitX r.anc l = true → D l = true) (hed : ∀ e ∈ o.after, bindsX e = true → D e.on = true) :
    ∀ l, bitX anc l = true → D l = true := by
  intro l hl
  obtain ⟨a, ha', _, hb, hlt⟩ := (ct.stat i o ho).ex
  rw [ha] at ha'
  cases ha'
  obtain ⟨_, e, he, k1, k2⟩ := hb l hl
  have hon := hed e (by simpa using he) k1
  rcases k2 with rfl | ⟨a', g1, g2⟩
  · exact hon
  · have hlt' := hlt e he k1
    obtain ⟨r', hr', e'⟩ := val_ex ct.val e.on (by rw [ct.len]; omega)
    obtain ⟨_, _, h3'⟩ := val_mem ct.val r' hr'
    rw [e'] at h3'
    rw [h3'] at g1
    cases g1
    exact hcl r' hr' (by rw [e']; exact hon) l g2

/-- What is only moved, behind the operation that ends the region by a panic. -/
noncomputable def _root_.Go.Xq.freeX (as : Tr Nat) (all : List Oper) (M j : Nat) : Bool := match Nat.blt M j with
  | false => false
  | true => match all[j]? with
    | none => false
    | some o => match as.get j with
      | none => false
      | some a => match bitX a M with
        | true => false
        | false => isMoveX o

omit ct in
theorem _root_.Go.Xq.freeX_mk {j : Nat} {o : Oper} {a : Nat} (h : M < j) (ho : all[j]? = some o) (ha : as.get j = some a) (hm : isMoveX o = true) (hb : bitX a M = false) : freeX as all M j = true := by
  unfold freeX
  rw [show Nat.blt M j = true by simpa [Nat.blt_eq] using h]
  simp only [ho, ha, hb, hm]

omit ct in
theorem _root_.Go.Xq.freeX_ok {j : Nat} (h : freeX as all M j = true) : M < j ∧ ∃ o, all[j]? = some o ∧ ∃ a, as.get j = some a ∧ isMoveX o = true ∧ bitX a M = false := by
  unfold freeX at h
  split at h
  · cases h
  rename_i hb
  split at h
  · cases h
  rename_i o ho
  split at h
  · cases h
  rename_i a ha
  split at h
  · cases h
  rename_i hc
  exact ⟨by simpa [Nat.blt_eq] using hb, o, ho, a, ha, h, hc⟩

theorem Cert.free {D : Nat → Bool} {E : Env} {a : Act} {w : World} {F : List Ph} {m : Nat} (hi : RI C d E0 sz s w0 m L t F D E a w) {j : Nat} {o : Oper} (ho : all[j]? = some o) (hj : M ≤ j) (x : Value) : RI C d E0 sz s w0 m L t F D E (a.put o.dst x) w := by
  refine ⟨fun u v hu hd => ?_, by rw [put_sz]; exact hi.sz, by rw [put_df]; exact hi.df, hi.cl, hi.cur, hi.und, hi.old, hi.glob, hi.facts, hi.low⟩
  have hne : o.dst ≠ some u := by
    intro e
    obtain ⟨hv1, _, _⟩ := val_tmp ct.dis ct.clr ct.val
    rcases hv1 u v hu with ⟨r, hr, e1, _⟩ | ⟨_, e0⟩
    · obtain ⟨g1, g2, _⟩ := val_mem ct.val r hr
      have := ct.dis r.i j r.o o u g2 ho e1 e
      rw [ct.len] at g1
      omega
    · rw [ct.clr j o u ho e] at e0; cases e0
  obtain ⟨y, hy, hd⟩ := hi.tm u v hu hd
  refine ⟨y, ?_, hd⟩
  cases hdst : o.dst with
  | none => exact hy
  | some k =>
    have hk : k ≠ u := fun e => hne (by rw [hdst, e])
    show (a.tmps.setIfInBounds k x)[u]? = some y
    rw [Array.getElem?_setIfInBounds_ne hk]
    exact hy

include hC hex
/-- The operation that ends the region by a panic: whatever else was done. -/
theorem Cert.pan {v : SV} {h' : Tr AO} {n' : Nat} (hao : all = ops.toList) (hp : PanOk C ex s.n all as L t p v h' n') {Q : Exit → Act → World → Prop}
    (hQ : ∀ E' x a w', v.den E' = some x → SR C d E' sz ⟨t0, h', n'⟩ a w' → Post C E0 s.h s.n w0 E' h' n' w' → Q (.panic (panicOf x)) a w') {D : Nat → Bool} {E : Env} {a : Act} {w : World} {K : Act → World → Prop}
    (hi : RI C d E0 sz s w0 ops.size L t (p :: ph) D E a w) {Ls : Nat → Bool} (hLs : ∀ j, M ≤ j → freeX as all M j = false → Ls j = false) (hDL : ∀ j, j < M → D j = Ls j) {i : Nat} {o : Oper} (hMi : M ≤ i) (hfr : freeX as all M i = false) (ho : ops[i]? = some o) (hed : ∀ e ∈ o.after, bindsX e = true → Ls e.on = true) : wpOpIn (Fw ro) 0 P ops Q i K a w := by
  obtain ⟨o1, anc, hh, p1, p2, p3, p4, p5, p6, p7⟩ := hp
  rw [ct.len] at p1 p2 p7
  have ho' : all[i]? = some o := by rw [hao]; simpa using ho
  by_cases hne : i = M
  case neg =>
    exfalso
    obtain ⟨ai, ha, hb⟩ := p7 i o (by omega) ho'
    have hb : bitX ai M = true := by
      rcases hb with hb | hm
      · exact hb
      · cases hc : bitX ai M with
        | true => rfl
        | false =>
          exfalso
          have : freeX as all M i = true := freeX_mk (by omega) ho' ha hm hc
          rw [this] at hfr; cases hfr
    obtain ⟨a', ha', _, hbits, _⟩ := (ct.stat i o ho').ex
    rw [ha] at ha'
    cases ha'
    obtain ⟨_, e, he, k1, k2⟩ := hbits M hb
    have hon := hed e (by simpa using he) k1
    rcases Nat.lt_or_ge e.on M with hlt | hge
    · rcases k2 with k2 | ⟨a', g1, g2⟩
      · omega
      · obtain ⟨r', hr', e'⟩ := val_ex ct.val e.on (by rw [ct.len]; exact hlt)
        obtain ⟨_, h2', h3'⟩ := val_mem ct.val r' hr'
        obtain ⟨a2, ha2, _, hb2, _⟩ := (ct.stat r'.i r'.o h2').ex
        rw [e'] at ha2
        rw [g1] at ha2
        cases ha2
        have := (hb2 M g2).1
        omega
    · have hf : freeX as all M e.on = false := by
        cases hc : freeX as all M e.on with
        | false => rfl
        | true =>
          exfalso
          obtain ⟨f1, o2, f2, a2, f3, f4, f5⟩ := freeX_ok hc
          rcases k2 with k2 | ⟨a', g1, g2⟩
          · omega
          · rw [f3] at g1; cases g1; rw [g2] at f5; cases f5
      rw [hLs _ hge hf] at hon
      cases hon
  subst hne
  rw [ho'] at p1
  cases p1
  obtain ⟨an, ha, hl, _, hlts⟩ := (ct.stat i o ho').ex
  have hanc := ct.readyI (Nat.le_refl _) ho' p2 hi.cl (fun e he hb => by rw [hDL _ (hlts e (by simpa using he) hb)]; exact hed e he hb)
  rw [p2] at ha
  cases ha
  have hlk : looksL dm anc o.op.operands.toList = true := by
    unfold looksX at hl
    split at hl
    · cases hl
    · assumption
  have hget : ∀ x v, x ∈ o.op.operands → getX C.g0 t x = some v → v.den E = some (a.eval x) := by
    intro x v hx hg
    cases x with
    | tmp u =>
      obtain ⟨y, hy, hd⟩ := hi.tm u v hg (fun r' hr' hdst => by
        obtain ⟨_, g2, _⟩ := val_mem ct.val r' hr'
        exact hanc _ (looksL_ok hlk u r'.i (by simpa using hx) (ct.dmk r'.i r'.o u g2 hdst)))
      rw [hd]; simp [Act.eval, hy]
    | const c => exact ofV_den E c v hg
    | func f => simp only [getX, Option.some.injEq] at hg; subst hg; simp [SV.den, denL, Act.eval]
    | global g =>
      simp only [getX] at hg
      cases hb : Nat.blt g C.g0 with
      | false => rw [hb] at hg; simp at hg
      | true =>
        rw [hb] at hg
        simp only [Option.some.injEq] at hg
        subst hg
        obtain ⟨r, hr⟩ := hi.glob g (by simpa [Nat.blt_eq] using hb)
        simp [SV.den, hr, Act.eval]
  have hwant : Region.wanted o (yielded ops a.tmps) = true := by
    rw [hao] at p3
    refine wantedX_ok (E := E) p3 ?_
    intro j want g dd v hg hj hd hv
    have hjb : bitX anc j = true := by
      unfold looksX at hl
      split at hl
      · cases hl
      · rw [hg] at hl; exact hl
    exact hi.tm dd v hv (fun r' hr' hdst => by
      obtain ⟨_, g2, _⟩ := val_mem ct.val r' hr'
      have : r'.i = j := ct.dis r'.i j r'.o g dd g2 (by rw [hao]; simpa using hj) hdst hd
      rw [this]
      exact hanc _ hjb)
  unfold wpOpIn
  rw [ho]
  simp only
  rw [hwant]
  simp only [if_true]
  obtain ⟨q, qh, c1, c2, c3, c4, c5, c6, H, c7, c8, c9, c10, c11⟩ := hi.cur
  obtain ⟨wa, wb, wc⟩ := val_wm rfl ct.val
  have hge : ph.length ≤ qh.length := by
    rcases Nat.lt_or_ge qh.length ph.length with hlt | hge'
    · exfalso
      obtain ⟨r2, hr2, hk2⟩ := wb qh.length hlt
      have hb : bitX p.wm r2.i = true := (wa p ph (List.suffix_refl _) r2.i).2 ⟨r2, hr2, rfl, _, hk2, hlt⟩
      have hb2 : bitX anc r2.i = true := by
        have : bitX (Nat.land p.wm anc) r2.i = true := by rw [p4]; exact hb
        rw [bitX_land, Bool.and_eq_true] at this
        exact this.2
      have := (c2 r2 hr2 _ hk2).1 (hanc _ hb2)
      omega
    · exact hge'
  have hle := c1.length_le
  have heq : q :: qh = p :: ph := suffix_eq c1 (List.suffix_refl _) (by simp at hle ⊢; omega)
  simp only [List.cons.injEq] at heq
  obtain ⟨rfl, rfl⟩ := heq
  have hpart := RI.part hi c8 c9 hanc (fun x hx => hx) p5
  have hsh : SH C E hh q.n w.heap := ⟨c7.sub hpart, c6, hi.glob, by have := hi.low.1; omega, hi.facts, (hi.low.2.step c10).sub hpart⟩
  refine writerR_ok hC hex hsh hget p6 (fun e => nomatch e) (fun _ E' x w' hx hpost => ?_)
  obtain ⟨f1, f2⟩ := frame c7 hpart hpost c6 (by have := hi.low.1; omega)
  have hmono := hpost.mono
  refine hQ E' x a w' hx ⟨fun u v hu => ?_, hi.sz, hi.df, hpost.sh⟩ ⟨hpost.sh, (c10.trans f2).sub (fun id o hid => ?_), by omega, fun id o hid => ?_, fun id hid => ?_⟩
  · have hno : ∀ r ∈ L, r.o.dst ≠ some u := by
      intro r hr e
      obtain ⟨_, g2, _⟩ := val_mem ct.val r hr
      rw [ct.clr _ _ u g2 e] at hu; cases hu
    obtain ⟨y, hy, hd⟩ := hi.tm u v (val_t0 ct.val u v hu hno) (fun r hr e => absurd e (hno r hr))
    exact ⟨y, hy, SV.den_mono hpost.fr.le _ _ hd⟩
  · show (match h'.get id with | some o => some o | none => match hh.get id with | some _ => none | none => H id) = some o
    rw [hid]
  · rcases hpost.new id o hid with ⟨o0, h0⟩ | hge'
    · exact c11 id o0 (hpart id o0 h0)
    · exact Or.inr (by omega)
  · rw [hpost.old _ (by omega)]
    exact hi.old id hid

/-- What is done of the first so many. -/
noncomputable def _root_.Go.Xq.lowB (M i : Nat) (b : Bool) : Bool := match Nat.blt i M with
  | true => b
  | false => false

omit hC hex ct in
theorem _root_.Go.Xq.lowB_lt {M i : Nat} {b : Bool} (h : i < M) : lowB M i b = b := by unfold lowB; rw [show Nat.blt i M = true by simpa [Nat.blt_eq] using h]
omit hC hex ct in
theorem _root_.Go.Xq.lowB_ge {M i : Nat} {b : Bool} (h : M ≤ i) : lowB M i b = false := by unfold lowB; rw [show Nat.blt i M = false by rw [Bool.eq_false_iff]; intro e; rw [Nat.blt_eq] at e; omega]

theorem Cert.any {Q : Exit → Act → World → Prop} (hQ : M = ops.size → ∃ full h, addA s.n full p.am L p.h = some h ∧ ∀ E a w, SR C d E sz ⟨t, h, p.n⟩ a w → Post C E0 s.h s.n w0 E h p.n w → Q .normal a w)
    {free : Nat → Bool} (hfree : ∀ j, free j = true → freeX as all M j = true) (hoth : ∀ {D Ls : Nat → Bool} {E : Env} {a : Act} {w : World} {K : Act → World → Prop}, RI C d E0 sz s w0 ops.size L t (p :: ph) D E a w → (∀ j, M ≤ j → free j = false → Ls j = false) → (∀ j, j < M → D j = Ls j) → ∀ {i : Nat} {o : Oper}, M ≤ i → free i = false → ops[i]? = some o → (∀ e ∈ o.after, bindsX e = true → Ls e.on = true) → ((∀ j, j < ops.size → j ≠ i → Ls j = true) → ∀ a' w', Q .normal a' w' → K a' w') → wpOpIn (Fw ro) 0 P ops Q i K a w) (hst : ∀ (k : Nat) (o : Oper), ops[k]? = some o → ∀ e ∈ o.after, bindsX e = true → e.on < k) : ∀ (fuel : Nat) (listed : Array Bool) (E : Env) (a : Act) (w : World), listed.size = ops.size →
    ((List.range ops.size).filter fun i => !listed.getD i false).length ≤ fuel → RI C d E0 sz s w0 ops.size L t (p :: ph) (fun i => lowB M i (listed.getD i false)) E a w → (∀ j, M ≤ j → free j = false → listed.getD j false = false) → wpAnyIn (Fw ro) 0 P .any ops Q fuel listed a w := by
  have hready : ∀ (listed : Array Bool) i, listed.size = ops.size → (i ∈ Region.ready .any ops listed ↔ i < ops.size ∧ listed.getD i false = false ∧ ∃ o, ops[i]? = some o ∧ ∀ e ∈ o.after, bindsX e = true → listed.getD e.on false = true) := by
    intro listed i hsz
    simp only [Region.ready, List.mem_filter, List.mem_range, Bool.and_eq_true, Bool.not_eq_true']
    constructor
    · rintro ⟨h1, h2, h3⟩
      have hg : listed.getD i false = false := by
        have : i < listed.size := by omega
        simpa [this] using h2
      refine ⟨h1, hg, ?_⟩
      cases ho : ops[i]? with
      | none => rw [ho] at h3; simp at h3
      | some o =>
        rw [ho] at h3
        simp only [Option.map_some, Option.getD_some, Array.all_eq_true', Bool.or_eq_true, Bool.not_eq_true'] at h3
        refine ⟨o, rfl, fun e he hb => ?_⟩
        rcases h3 e he with h | h
        · rw [bindsX_eq, hb] at h; cases h
        · exact h
    · rintro ⟨h1, h2, o, ho, h3⟩
      refine ⟨h1, ?_, ?_⟩
      · have : i < listed.size := by omega
        simpa [this] using h2
      · rw [ho]
        simp only [Option.map_some, Option.getD_some, Array.all_eq_true', Bool.or_eq_true, Bool.not_eq_true']
        intro e he
        cases hb : bindsX e with
        | false => left; rw [bindsX_eq, hb]
        | true => right; exact h3 e he hb
  have hend : ∀ (listed : Array Bool), listed.size = ops.size → Region.ready .any ops listed = [] → ∀ i, i < ops.size → listed.getD i false = true := by
    intro listed hsz hnil i
    induction i using Nat.strongRecOn with
    | _ i ih =>
      intro hi
      cases hb : listed.getD i false with
      | true => rfl
      | false =>
        exfalso
        have : i ∈ Region.ready .any ops listed := by
          rw [hready listed i hsz]
          refine ⟨hi, hb, ops[i], by simp [hi], fun e he hbe => ?_⟩
          have := hst i ops[i] (by simp [hi]) e (by simpa using he) hbe
          exact ih e.on this (by omega)
        rw [hnil] at this
        cases this
  have hcount : ∀ (listed : Array Bool) i, listed.size = ops.size → i < ops.size → listed.getD i false = false → ∀ fuel, ((List.range ops.size).filter fun i => !listed.getD i false).length ≤ fuel + 1 →
      ((List.range ops.size).filter fun j => !(listed.setIfInBounds i true).getD j false).length ≤ fuel := by
    intro listed i hsz hi hb fuel hle
    have hmem : i ∈ (List.range ops.size).filter fun j => !listed.getD j false := by
      simp only [List.mem_filter, List.mem_range, hi, hb, true_and]; rfl
    have hsub : ((List.range ops.size).filter fun j => !(listed.setIfInBounds i true).getD j false) = ((List.range ops.size).filter fun j => !listed.getD j false).erase i := by
      have hnd : ((List.range ops.size).filter fun j => !listed.getD j false).Nodup := List.Pairwise.filter _ List.nodup_range
      rw [hnd.erase_eq_filter, List.filter_filter]
      apply List.filter_congr
      intro j hj
      have hj' : j < ops.size := by simpa using hj
      by_cases e : j = i
      · subst e
        simp [hsz, hj']
      · have : (listed.setIfInBounds i true).getD j false = listed.getD j false := by
          simp only [Array.getD_eq_getD_getElem?]
          rw [Array.getElem?_setIfInBounds_ne (by omega)]
        rw [this]
        simp [e]
    rw [hsub, List.length_erase_of_mem hmem]
    omega
  have hput : ∀ (listed : Array Bool) i, listed.size = ops.size → i < ops.size → (fun j => (listed.setIfInBounds i true).getD j false) = put1 (fun j => listed.getD j false) i := by
    intro listed i hsz hi
    funext j
    unfold put1
    by_cases e : j = i
    · subst e; simp [hsz, hi]
    · rw [if_neg e]
      simp only [Array.getD_eq_getD_getElem?]
      rw [Array.getElem?_setIfInBounds_ne (by omega)]
  have hfinal : ∀ {listed : Array Bool} {E : Env} {a : Act} {w : World}, RI C d E0 sz s w0 ops.size L t (p :: ph) (fun i => lowB M i (listed.getD i false)) E a w → (∀ j, M ≤ j → free j = false → listed.getD j false = false) → (∀ i, i < ops.size → listed.getD i false = true) → Q .normal a w := by
    intro listed E a w hi hD hall
    by_cases hM : M = ops.size
    · obtain ⟨full, h, hfin, hq⟩ := hQ hM
      obtain ⟨g1, g2⟩ := ct.done hfin hi (fun r hr => by
        have := (val_mem ct.val r hr).1
        rw [ct.len] at this
        rw [lowB_lt this]
        exact hall _ (Nat.lt_of_lt_of_le (Nat.lt_of_lt_of_le this ct.le) ct.lsz))
      exact hq E a w g1 g2
    · have := ct.le
      have := ct.lsz
      have h1 := hall M (by omega)
      have hfM : free M = false := by
        cases hc : free M with
        | false => rfl
        | true => have := (freeX_ok (hfree M hc)).1; omega
      rw [hD M (Nat.le_refl _) hfM] at h1
      cases h1
  intro fuel
  induction fuel with
  | zero =>
    intro listed E a w hsz hle hi hD
    have hall : ∀ i, i < ops.size → listed.getD i false = true := by
      intro i hi'
      cases hb : listed.getD i false with
      | true => rfl
      | false =>
        have hmem : i ∈ (List.range ops.size).filter fun j => !listed.getD j false := by
          simp only [List.mem_filter, List.mem_range, hi', hb, true_and]; rfl
        have := List.length_pos_of_mem hmem
        omega
    refine ⟨?_, hfinal hi hD hall⟩
    cases hr : Region.ready .any ops listed with
    | nil => rfl
    | cons x xs =>
      have : x ∈ Region.ready .any ops listed := by rw [hr]; exact List.mem_cons_self
      rw [hready listed x hsz] at this
      rw [hall x this.1] at this
      cases this.2.1
  | succ fuel ih =>
    intro listed E a w hsz hle hi hD
    refine ⟨fun hnil => ?_, fun i hir => ?_⟩
    · exact hfinal hi hD (hend listed hsz hnil)
    · rw [hready listed i hsz] at hir
      obtain ⟨hlt, hnd, o, ho, hed⟩ := hir
      rcases Nat.lt_or_ge i M with hiM | hiM
      case inr =>
        have hlo : ∀ b : Bool, (fun j => lowB M j ((listed.setIfInBounds i b).getD j false)) = fun j => lowB M j (listed.getD j false) := by
          intro b
          funext j
          rcases Nat.lt_or_ge j M with hj | hj
          · rw [lowB_lt hj, lowB_lt hj]
            simp only [Array.getD_eq_getD_getElem?]
            rw [Array.getElem?_setIfInBounds_ne (by omega)]
          · rw [lowB_ge hj, lowB_ge hj]
        cases hfi : free i with
        | true =>
          obtain ⟨f1, o2, f2, a2, f3, f4, f5⟩ := freeX_ok (hfree i hfi)
          have hlt2 := (List.getElem?_eq_some_iff.1 f2).1
          rw [← ct.pre i hlt2, ho] at f2
          cases f2
          obtain ⟨hg, x, hx⟩ := isMoveX_ok f4
          unfold wpOpIn
          rw [ho]
          simp only
          rw [show Region.wanted o (yielded ops a.tmps) = true by simp [Region.wanted, hg]]
          simp only [if_true]
          refine ⟨fun _ _ => trivial, ?_⟩
          rw [semFw (fun c e => by rw [hx] at e; cases e)]
          have hrun : (execOp a.eval o).run P w = .ok (.value (a.eval x)) w := by
            unfold execOp
            rw [hx]
            rfl
          rw [hrun]
          refine ih (listed.setIfInBounds i true) E _ w (by simpa using hsz) (hcount listed i hsz hlt hnd fuel hle) ?_ (fun j hj hfj => ?_)
          · rw [hlo true]
            exact ct.free hi (by rw [← ct.pre i hlt2]; exact ho) hiM _
          · have := congrFun (hput listed i hsz hlt) j
            rw [this]
            unfold put1
            rw [if_neg (fun e => by rw [e, hfi] at hfj; cases hfj)]
            exact hD j hj hfj
        | false =>
        refine hoth (Ls := fun j => listed.getD j false) hi hD (fun j hj => lowB_lt hj) hiM hfi ho hed (fun hj a' w' hq => ?_)
        have hall : ∀ j, j < ops.size → (listed.setIfInBounds i true).getD j false = true := by
          intro j hj'
          have := congrFun (hput listed i hsz hlt) j
          rw [this]
          unfold put1
          by_cases e : j = i
          · rw [if_pos e]
          · rw [if_neg e]; exact hj j hj' e
        have hnil : Region.ready .any ops (listed.setIfInBounds i true) = [] := by
          cases hr : Region.ready .any ops (listed.setIfInBounds i true) with
          | nil => rfl
          | cons x xs =>
            have hm : x ∈ Region.ready .any ops (listed.setIfInBounds i true) := by rw [hr]; exact List.mem_cons_self
            rw [hready _ x (by simpa using hsz)] at hm
            rw [hall x hm.1] at hm
            cases hm.2.1
        cases fuel with
        | zero => exact ⟨hnil, hq⟩
        | succ fuel => exact ⟨fun _ => hq, fun i hi => by rw [hnil] at hi; cases hi⟩
      obtain ⟨r, hr, e1, e2⟩ := ct.recd ho hiM
      subst e2
      subst e1
      have hedD : ∀ e ∈ r.o.after, bindsX e = true → lowB M e.on (listed.getD e.on false) = true := by
        intro e he hb
        obtain ⟨g1, g2, _⟩ := val_mem ct.val r hr
        obtain ⟨_, _, _, _, hlts⟩ := (ct.stat r.i r.o g2).ex
        rw [ct.len] at g1
        rw [lowB_lt (Nat.lt_trans (hlts e (by simpa using he) hb) g1)]
        exact hed e he hb
      have hanc := ct.ready (D := fun i => lowB M i (listed.getD i false)) hr hi.cl hedD
      have hnd0 := hnd
      have hnd : (fun i => lowB M i (listed.getD i false)) r.i = false := by
        show lowB M r.i _ = false
        rw [lowB_lt hiM]; exact hnd0
      have hsz' : (listed.setIfInBounds r.i true).size = ops.size := by simpa using hsz
      have hcnt := hcount listed r.i hsz hlt hnd0 fuel hle
      have next : ∀ E' a' w', RI C d E0 sz s w0 ops.size L t (p :: ph) (put1 (fun i => lowB M i (listed.getD i false)) r.i) E' a' w' → wpAnyIn (Fw ro) 0 P .any ops Q fuel (listed.setIfInBounds r.i true) a' w' := by
        intro E' a' w' hri
        refine ih _ E' a' w' hsz' hcnt ?_ (fun j hj hfj => ?_)
        · have : (fun i => lowB M i ((listed.setIfInBounds r.i true).getD i false)) = put1 (fun i => lowB M i (listed.getD i false)) r.i := by
            funext j
            have h9 : (listed.setIfInBounds r.i true).getD j false = put1 (fun j => listed.getD j false) r.i j := congrFun (hput listed r.i hsz hlt) j
            rw [h9]
            unfold put1
            by_cases e : j = r.i
            · rw [if_pos e, if_pos e, e, lowB_lt hiM]
            · rw [if_neg e, if_neg e]
          rw [this]
          exact hri
        · have := congrFun (hput listed r.i hsz hlt) j
          rw [this]
          unfold put1
          rw [if_neg (by omega)]
          exact hD j hj hfj
      have hget := ct.get hi hr hanc
      unfold wpOpIn
      rw [ho]
      simp only
      obtain ⟨rs, q1, q1h, p1, p1h, hko, hrs, hs1, hs2⟩ := val_k ct.val r hr
      have hko' := hko
      unfold KOk at hko
      split at hko
      · rename_i hk
        obtain ⟨hw, hv, _, _⟩ := hko
        rw [ct.want hi hr hanc hw]
        simp only [Bool.false_eq_true, if_false]
        refine ⟨fun _ _ => trivial, ?_⟩
        exact next E _ w (ct.still hi hr hanc (fun k => by rw [hk]; exact fun e => nomatch e) (fun k => by rw [hk]; exact fun e => nomatch e) (x := undef) (by rw [hv]; rfl))
      · rename_i k hk
        obtain ⟨hw, hkl, ⟨hh0, hadd0, hq0⟩, _, _⟩ := hko
        rw [ct.want hi hr hanc hw]
        simp only [if_true]
        obtain ⟨q, qh, c1, c2, c3, c4, c5, c6, H, c7, c8, c9, c10, c11⟩ := hi.cur
        obtain ⟨wa, wb, wc⟩ := val_wm rfl ct.val
        obtain ⟨hh, hsub, hq⟩ : ∃ hh : Tr AO, (∀ id o, hh.get id = some o → H id = some o) ∧ quietX C r.t hh r.o.op = some r.v := by
          cases hpu : pureK r.o.op with
          | true => exact ⟨q.h, c8, by rw [pure_quiet q.h hh0 hpu]; exact hq0⟩
          | false =>
            by_cases hlen : qh.length = k
            · have heq : q :: qh = q1 :: q1h := suffix_eq c1 hs1 (by simp; omega)
              simp only [List.cons.injEq] at heq
              obtain ⟨rfl, rfl⟩ := heq
              exact ⟨hh0, RI.part hi c8 c9 hanc hrs hadd0, hq0⟩
            · have hchk := chkX_ok ct.chk r hr k hk hpu
              have ham : bitX q.am r.i = false := by
                cases hb : bitX q.am r.i with
                | false => rfl
                | true => exact nomatch ((c3 r.i hb).symm.trans hnd : true = false)
              have hwm : Nat.land (Nat.land r.anc p.wm) q.wm = Nat.land r.anc p.wm := by
                apply Nat.eq_of_testBit_eq
                intro l
                rw [← bitX_eq, ← bitX_eq, bitX_land]
                cases hb : bitX (Nat.land r.anc p.wm) l with
                | false => rfl
                | true =>
                  rw [bitX_land, Bool.and_eq_true] at hb
                  obtain ⟨r2, hr2, e2, k2, hk2, _⟩ := (wa p ph (List.suffix_refl _) l).1 hb.2
                  have hd2 := hanc l hb.1
                  rw [← e2] at hd2
                  have := (c2 r2 hr2 k2 hk2).1 hd2
                  rw [(wa q qh c1 l).2 ⟨r2, hr2, e2, k2, hk2, this⟩]; rfl
              obtain ⟨hh, hadd, hq⟩ := chkP_ok hchk q qh c1 hlen hwm ham
              exact ⟨hh, RI.part hi c8 c9 hanc (fun x hx => hx) hadd, hq⟩
        have hsh : SH C E hh q.n w.heap := ⟨c7.sub hsub, c6, hi.glob, by have := hi.low.1; omega, hi.facts, (hi.low.2.step c10).sub hsub⟩
        exact quiet_wp hC hsh hget hq (fun x hx => next E _ w (ct.still hi hr hanc (fun k => by rw [hk]; exact fun e => nomatch e) (fun k => by rw [hk]; exact fun e => nomatch e) hx))
      · rename_i ao hk
        obtain ⟨hw, ha, _, _⟩ := hko
        rw [ct.want hi hr hanc hw]
        simp only [if_true]
        refine alloc_wp hC (hi.und r.i hlt hnd) hget ha (fun O y hO => ?_)
        obtain ⟨E', hri⟩ := ct.made hi hr hanc hnd hk hO
        exact next E' _ _ hri
      · rename_i k hk
        obtain ⟨hw, _⟩ := hko
        obtain ⟨q, hh, h', n', hwr, _, hsh, hnext⟩ := ct.wrote hi hr hanc hnd hk
        rw [ct.want hi hr hanc hw]
        simp only [if_true]
        exact writerR_ok hC hex hsh hget hwr (fun _ E' x w' hx hp => next E' _ w' (hnext E' x w' hx hp)) (fun e => nomatch e)
end
end Go.Xq
