/-
  Values of a program as plain data: lists that are appended to; new objects and lists.
-/
import Derived.Test.YteapohlamngkpaaDoorPi
namespace Go.Pv
open Go.RowKit
set_option linter.unusedVariables false

def byteP (b : UInt8) : PV := .int .u8 (b.toNat : Int)

/-- The elements of what is appended. -/
def srcOf (sz : Nat) : PV → Option (Prop × List (List PV))
  | .nilsl => some (True, [])
  | .lst sz' ys _ => some (sz' = sz, ys)
  | .str bs => some (sz = 1, bs.map fun b => [byteP b])
  | _ => none

theorem bytes_rep {E : Env} : ∀ (l : List UInt8), RepL E (l.map fun b => [byteP b]).flatten (l.map fun b => Value.int .u8 b.toNat)
  | [] => RepL.mk0
  | b :: l => by
    simp only [List.map_cons, List.flatten_cons, List.singleton_append]
    exact RepL.mk (by simp [byteP, Rep]) (bytes_rep l)

section
variable {C : Cx}

theorem src_ok {E : Env} {s : Hs} {w : World} (h : SH C E s w.heap) {sz : Nat} {x : PV} {ob : Prop} {ys : List (List PV)} {xv : Value} (hx : srcOf sz x = some (ob, ys)) (ho : ob) (hxv : Rep E x xv) :
    ∃ xs, RepL E ys.flatten xs ∧ xs.length = ys.length * sz ∧ (∀ e ∈ ys, e.length = sz) ∧ (∀ w', (Builtin.lenOf xv).run C.P w' = .ok ys.length w') ∧ ∀ w', w'.heap = w.heap → (Builtin.firstCells sz ys.length xv).run C.P w' = .ok xs.toArray w' := by
  cases x <;> simp only [srcOf] at hx <;> (first | (cases hx; done) | skip) <;> simp only [Option.some.injEq, Prod.mk.injEq] at hx <;> obtain ⟨rfl, rfl⟩ := hx
  · rename_i bs
    subst ho
    simp only [Rep] at hxv
    subst hxv
    refine ⟨_, bytes_rep bs, by simp, by simp, fun w' => by simp [Builtin.lenOf, size_mk], fun w' _ => ?_⟩
    have : (ByteArray.mk bs.toArray).extract 0 (bs.map fun b => [byteP b]).length = ByteArray.mk bs.toArray := by rw [ByteArray.extract_mk]; simp
    simp only [Builtin.firstCells, this, Sem.run_pure]
    congr 1
    simp
  · simp only [Rep] at hxv
    subst hxv
    exact ⟨[], RepL.mk0, by simp, by simp, fun w' => rfl, fun w' _ => rfl⟩
  · rename_i sz' es p
    subst ho
    simp only [Rep] at hxv
    obtain ⟨⟨base, cap, rfl, hcap, h3, _⟩, hev⟩ := hxv
    rcases h3 with rfl | ⟨b, o, rfl, hr⟩
    · refine ⟨[], RepL.mk0, by simp, by simp, fun w' => rfl, fun w' _ => ?_⟩
      cases base with
      | none => rfl
      | some a => exact run_firstCells_some w' sz' 0 a 0 cap [] (by simp) (fun j v hj => by simp at hj)
    · rw [RepFs.flat] at hr
      obtain ⟨xs, h1, h2⟩ := hr.vals
      have hl : xs.length = es.length * sz' := by rw [h1.length]; exact Even.flat hev
      refine ⟨xs, h1, hl, hev, fun w' => rfl, fun w' hw' => ?_⟩
      refine run_firstCells_some w' sz' es.length _ _ _ xs hl (fun j v hj => ?_)
      have hadd : (⟨b, o, none⟩ : Addr).add j = ⟨b, o + j, none⟩ := by unfold Addr.add; split <;> simp_all
      have := fz_cell h (h2 j v hj)
      rw [hadd]
      simpa [World.cell?, hw'] using this

theorem Even.ones {sz : Nat} {es : List (List PV)} (h : ∀ e ∈ es, Ones e) : ∀ v ∈ es.flatten, oneP v = true := by
  intro v hv
  obtain ⟨e, he, hve⟩ := List.mem_flatten.1 hv
  exact (h e he).all v hve

theorem spliceV_get : ∀ (xs m : List Value) (k j : Nat), k + xs.length ≤ m.length → (spliceV m k xs)[j]? = if k ≤ j ∧ j < k + xs.length then xs[j - k]? else m[j]?
  | [], m, k, j, h => by
    simp only [spliceV, List.length_nil, Nat.add_zero]
    rw [if_neg (by omega)]
  | x :: xs, m, k, j, h => by
    simp only [List.length_cons] at h
    rw [spliceV, spliceV_get xs (m.set k x) (k + 1) j (by simp; omega)]
    by_cases h1 : k + 1 ≤ j ∧ j < k + 1 + xs.length
    · rw [if_pos h1, if_pos (by simp; omega), show j - k = (j - (k + 1)) + 1 by omega, List.getElem?_cons_succ]
    · rw [if_neg h1]
      by_cases h2 : j = k
      · subst h2
        rw [if_pos (by simp), List.getElem?_set_self (by omega)]
        simp
      · rw [if_neg (by simp; omega), List.getElem?_set_ne (by omega)]

include C in
/-- What is appended, one behind the other: each cell's value of one cell. -/
theorem append_ok (hC : C.Ok) {nn mm : Nat} {E : Env} {s : Hs} {w : World} (h : SH C E s w.heap) {t u ty e : TypeId} {ti ui ei : TI} {sz bytes q : Nat} {es ys : List (List PV)} {sv xv z : Value} {xs : List Value} (ht : C.tt t = some ti) (hu : C.tt u = some ui) (hte : ti.desc = .slice e) (hni : notInt ui.desc = true) (he : C.tt e = some ei)
    (hsz : ei.info.size = sz) (hsz0 : 0 < sz) (hbytes : ei.info.bytes = bytes) (hz : ei.info.zero = some z) (hzs : z.cells.size = sz)
    (hT : s.T q = some es.length) (hsv : Rep E (.lst sz es (some q)) sv) (hxs : RepL E ys.flatten xs) (hxl : xs.length = ys.length * sz) (hev : ∀ e ∈ ys, e.length = sz) (hones : ∀ x ∈ xs, x.oneCell' = true)
    (hlen : ∀ w', (Builtin.lenOf xv).run C.P w' = .ok ys.length w') (hfc : ∀ w', w'.heap = w.heap → (Builtin.firstCells sz ys.length xv).run C.P w' = .ok xs.toArray w')
    (hb : (es.length + ys.length) * bytes ≤ 140737488355328) (hb2 : es.length + ys.length ≤ 140737488355328) :
    ∃ E' r w', (Builtin.append_ #[t, u] ty #[sv, xv]).run C.P w = .ok r w' ∧ Rep E' (.lst sz (es ++ ys) (some q)) r ∧ Post C nn mm E s w E' ⟨s.H, hset s.T q (some (es.length + ys.length)), s.n, s.m⟩ w' := by
  obtain ⟨htd, _⟩ := hC.ty t ti ht
  obtain ⟨hud, _⟩ := hC.ty u ui hu
  obtain ⟨_, hein⟩ := hC.ty e ei he
  rw [hte] at htd
  have hsv0 := hsv
  simp only [Rep] at hsv
  obtain ⟨⟨base, cap, rfl, hcap, h3, h4⟩, hev0⟩ := hsv
  rcases h4 q rfl with ⟨rfl, rfl⟩ | ⟨b, o, rfl, htip⟩
  · -- no list yet
    have he0 : es = [] := List.eq_nil_of_length_eq_zero (Nat.le_zero.1 hcap)
    subst he0
    have hlate : (∀ i, 0 < i → E.tip q i = none) ∧ q < s.m := by
      rcases h.tott q _ hT with ⟨⟨b, o, cap, sz'⟩, hx⟩ | ⟨_, e2, e3⟩
      · refine ⟨(h.tip hT hx).2, ?_⟩
        rcases Nat.lt_or_ge q s.m with hh | hh
        · exact hh
        · have := h.fresht q ([] : List (List PV)).length hh; rw [hx] at this; cases this
      · exact ⟨fun i _ => e3 i, e2⟩
    simp only [List.length_nil, Nat.zero_add] at hT hb hb2 ⊢
    rcases Nat.eq_zero_or_pos ys.length with h0 | h0
    · have hy : ys = [] := List.eq_nil_of_length_eq_zero h0
      subst hy
      have hx0 : xs = [] := hxs.nil
      subst hx0
      have hrun := run_append_head (P := C.P) (w := w) (ty := ty) (base := none) (len := 0) (cap := 0) (m := 0) (xv := xv) htd hud hni hein (hlen w) (by omega) (new := #[]) (by rw [hsz]; exact hfc w rfl)
      refine ⟨E, .slice none 0 0, w, by rw [hrun]; simp, by simpa using hsv0, ?_⟩
      have : hset s.T q (some ([] : List (List PV)).length) = s.T := by
        funext j; simp only [hset]; split
        · rename_i e; subst e; rw [hT]; rfl
        · rfl
      rw [this]
      exact Post.refl h
    · have hrun := run_append_grow' (P := C.P) (w := w) (ty := ty) (base := none) (len := 0) (cap := 0) (m := ys.length) (xv := xv) (z := z) htd hud hni hein hz (hlen w) (by omega) (old := #[]) (new := xs.toArray) (by rw [hsz]; exact hfc w.drew rfl) (by simp [Builtin.firstCells]) (by rw [hbytes]; simpa using hb) (by simpa using hb2)
      rw [Nat.zero_add] at hrun
      have hge := grownCap_ge w ys.length 0 e
      let f : Nat → Option Value := fun j => xs[j]?
      have hcells : #[] ++ xs.toArray ++ Builtin.zeroCells z.cells (grownCap w ys.length 0 e - ys.length) = (xs ++ (Builtin.zeroCells z.cells (grownCap w ys.length 0 e - ys.length)).toList).toArray := by
        apply Array.ext'; simp
      have hpost : Post C nn mm E s w ((E.setF w.heap.size f).setT q ys.length (w.heap.size, 0, grownCap w ys.length 0 e, sz)) ⟨s.H, hset s.T q (some ys.length), s.n, s.m⟩
          (w.drew.alloc (.cells (#[] ++ xs.toArray ++ Builtin.zeroCells z.cells (grownCap w ys.length 0 e - ys.length)) e)) := by
        refine Post.tipNew h hT hlate.1 hlate.2 h0 (c := #[] ++ xs.toArray ++ Builtin.zeroCells z.cells (grownCap w ys.length 0 e - ys.length)) (e := e) (z := (0, 0)) rfl rfl rfl rfl ?_ ?_ ?_ (Or.inl rfl) hge
        · intro j v hj
          rw [hcells]
          have hj' : xs[j]? = some v := hj
          simp only [List.getElem?_toArray]
          rw [List.getElem?_append_left (List.getElem?_eq_some_iff.1 hj').1]
          exact hj'
        · intro j hj
          show xs[j]? = none
          rw [List.getElem?_eq_none]
          omega
        · rw [hcells]
          simp only [List.size_toArray, List.length_append, Array.length_toList, size_zeroCells, hzs, hxl, ← Nat.add_mul]
          exact Nat.mul_le_mul_right sz (by omega)
      refine ⟨_, .slice (some ⟨w.heap.size, 0, none⟩) ys.length (grownCap w ys.length 0 e), _, hrun, ?_, hpost⟩
      simp only [Rep, List.nil_append]
      refine ⟨⟨_, _, rfl, hge, Or.inr ⟨_, 0, rfl, ?_⟩, fun q' hq' => ?_⟩, hev⟩
      · rw [RepFs.flat]
        refine RepF.of (hxs.mono hpost.le) (fun j x hj => ?_)
        rw [Nat.zero_add]
        show (E.setF w.heap.size f).fz w.heap.size j = some x
        rw [Env.setF_same]; exact hj
      · cases hq'
        exact Or.inr ⟨_, 0, rfl, Env.setT_same _ _ _ _⟩
  obtain ⟨⟨c, ce, cz, k2, k3, k4, k5, k6⟩, k7⟩ := h.tip hT htip
  have hmq : q < s.m := by
    rcases Nat.lt_or_ge q s.m with hh | hh
    · exact hh
    · have := h.fresht q es.length hh; rw [htip] at this; cases this
  have hevs : ∀ x ∈ es ++ ys, x.length = sz := fun x hx => (List.mem_append.1 hx).elim (hev0 x) (hev x)
  have hrs : RepFs E b o es := by
    rcases h3 with rfl | ⟨b1, o1, e1, e2⟩
    · simp [RepFs]
    · cases e1; exact e2
  have hfl := Even.flat hev0
  have hflT : ((es ++ ys).flatten).length = (es.length + ys.length) * sz := by
    have := Even.flat hevs
    rw [this, List.length_append]
  rcases Nat.eq_zero_or_pos ys.length with h0 | h0
  · -- nothing is appended
    have hy : ys = [] := List.eq_nil_of_length_eq_zero h0
    subst hy
    have hx0 : xs = [] := hxs.nil
    subst hx0
    have hrun := run_append_head (P := C.P) (w := w) (ty := ty) (base := some ⟨b, o, none⟩) (len := es.length) (cap := cap) (m := 0) (xv := xv) htd hud hni hein (hlen w) (by omega) (new := #[]) (by rw [hsz]; exact hfc w rfl)
    refine ⟨E, .slice (some ⟨b, o, none⟩) es.length cap, w, ?_, by simpa using hsv0, ?_⟩
    · rw [hrun]; simp [storeCells]
    · have : hset s.T q (some (es.length + ([] : List (List PV)).length)) = s.T := by
        funext j; simp only [hset]; split
        · rename_i e; subst e; rw [hT]; simp
        · rfl
      rw [this]
      exact Post.refl h
  by_cases hin : es.length + ys.length ≤ cap
  · -- where it stands
    have hrun := run_append_head (P := C.P) (w := w) (ty := ty) (base := some ⟨b, o, none⟩) (len := es.length) (cap := cap) (m := ys.length) (xv := xv) htd hud hni hein (hlen w) hin (new := xs.toArray) (by rw [hsz]; exact hfc w rfl)
    have hadd : (⟨b, o, none⟩ : Addr).add (es.length * ei.info.size) = ⟨b, o + es.length * sz, none⟩ := by rw [hsz]; unfold Addr.add; split <;> simp_all
    have hfit : o + es.length * sz + xs.length ≤ c.size := by
      have h1 : (es.length + ys.length) * sz ≤ cap * sz := Nat.mul_le_mul_right sz hin
      rw [Nat.add_mul] at h1
      omega
    have hcl : c = c.toList.toArray := by simp
    rw [hcl] at k2
    have hst := run_storeCells_at (P := C.P) b (o + es.length * sz) ce cz xs 0 c.toList w k2 (by simpa using hfit) (k4.imp id (fun h => by omega)) hones
    rw [Nat.add_zero] at hst
    have hget := spliceV_get xs c.toList (o + es.length * sz)
    let f : Nat → Option Value := fun j => if o + es.length * sz ≤ j ∧ j < o + es.length * sz + xs.length then xs[j - (o + es.length * sz)]? else E.fz b j
    have hf0 : ∀ j x, E.fz b j = some x → f j = some x := by
      intro j x hj
      show (if _ then _ else _) = _
      rw [if_neg]
      · exact hj
      · rintro ⟨h1, _⟩
        rw [k5 j h1] at hj; cases hj
    have hlens : (spliceV c.toList (o + es.length * sz) xs).length = c.size := by rw [spliceV_length]; simp
    have hpost : Post C nn mm E s w ((E.setF b f).setT q (es.length + ys.length) (b, o, cap, sz)) ⟨s.H, hset s.T q (some (es.length + ys.length)), s.n, s.m⟩ (w.setRow b (spliceV c.toList (o + es.length * sz) xs).toArray) := by
      refine Post.tipIn h (c := c.toList.toArray) (c' := (spliceV c.toList (o + es.length * sz) xs).toArray) (e := ce) (z := cz) hT htip (by omega) hin k2 (setRow_heap w b _ _ ce _ k2) (by simp [hlens]) rfl rfl rfl (by simp) (fun k hk => setRow_other' w b k _ hk) hf0 ?_ ?_
      · intro j v hj
        simp only [List.getElem?_toArray]
        rw [hget j (by simpa using hfit)]
        by_cases hc : o + es.length * sz ≤ j ∧ j < o + es.length * sz + xs.length
        · rw [if_pos hc]
          have : f j = xs[j - (o + es.length * sz)]? := if_pos hc
          rw [← this]; exact hj
        · rw [if_neg hc]
          have : f j = E.fz b j := if_neg hc
          rw [this] at hj
          obtain ⟨c1, e1, z1, g1, g2⟩ := h.fz b j v hj
          rw [k2] at g1; cases g1
          simpa using g2
      · intro j hj
        have e1 : (es.length + ys.length) * sz = es.length * sz + xs.length := by rw [hxl, Nat.add_mul]
        show (if _ then _ else _) = _
        rw [if_neg (by omega)]
        exact k5 j (by omega)
    refine ⟨_, .slice (some ⟨b, o, none⟩) (es.length + ys.length) cap, _, ?_, ?_, hpost⟩
    · rw [hrun]
      simp only [hadd, Sem.run_bind, hst, Result.andThen_ok, Sem.run_pure]
    · simp only [Rep]
      refine ⟨⟨_, cap, by rw [List.length_append], by rw [List.length_append]; exact hin, Or.inr ⟨b, o, rfl, ?_⟩, fun q' hq' => ?_⟩, hevs⟩
      · refine RepFs.append (hrs.mono hpost.le) ?_
        rw [hfl, RepFs.flat]
        refine RepF.of (hxs.mono hpost.le) (fun j x hj => ?_)
        show (E.setF b f).fz b (o + es.length * sz + j) = some x
        rw [Env.setF_same]
        have hjl := (List.getElem?_eq_some_iff.1 hj).1
        show (if _ then _ else _) = _
        rw [if_pos (by omega), show o + es.length * sz + j - (o + es.length * sz) = j by omega]
        exact hj
      · cases hq'
        exact Or.inr ⟨b, o, rfl, by rw [List.length_append]; exact Env.setT_same _ _ _ _⟩
  · -- elsewhere
    have hold : ∃ ol, RepL E es.flatten ol ∧ ol.length = es.length * sz ∧ (Builtin.firstCells sz es.length (.slice (some ⟨b, o, none⟩) es.length cap)).run C.P w.drew = .ok ol.toArray w.drew := by
      obtain ⟨ol, g1, g2⟩ := (RepFs.flat.1 hrs).vals
      have hl : ol.length = es.length * sz := by rw [g1.length, hfl]
      refine ⟨ol, g1, hl, run_firstCells_some w.drew sz es.length _ _ _ ol hl (fun j v hj => ?_)⟩
      have hadd : (⟨b, o, none⟩ : Addr).add j = ⟨b, o + j, none⟩ := by unfold Addr.add; split <;> simp_all
      rw [hadd]; exact fz_cell (w := w) h (g2 j v hj)
    obtain ⟨ol, hol, holl, hor⟩ := hold
    have hrun := run_append_grow' (P := C.P) (w := w) (ty := ty) (base := some ⟨b, o, none⟩) (len := es.length) (cap := cap) (m := ys.length) (xv := xv) (z := z) htd hud hni hein hz (hlen w) hin (old := ol.toArray) (new := xs.toArray) (by rw [hsz]; exact hfc w.drew rfl) (by rw [hsz]; exact hor) (by rw [hbytes]; exact hb) hb2
    have hge := grownCap_ge w (es.length + ys.length) cap e
    have hall : RepL E (es ++ ys).flatten (ol ++ xs) := by rw [List.flatten_append]; exact hol.append hxs
    have hal : (ol ++ xs).length = (es.length + ys.length) * sz := by rw [List.length_append, holl, hxl, Nat.add_mul]
    let f : Nat → Option Value := fun j => (ol ++ xs)[j]?
    have hcells : ol.toArray ++ xs.toArray ++ Builtin.zeroCells z.cells (grownCap w (es.length + ys.length) cap e - (es.length + ys.length)) = ((ol ++ xs) ++ (Builtin.zeroCells z.cells (grownCap w (es.length + ys.length) cap e - (es.length + ys.length))).toList).toArray := by
      apply Array.ext'; simp
    have hpost : Post C nn mm E s w ((E.setF w.heap.size f).setT q (es.length + ys.length) (w.heap.size, 0, grownCap w (es.length + ys.length) cap e, sz)) ⟨s.H, hset s.T q (some (es.length + ys.length)), s.n, s.m⟩
        (w.drew.alloc (.cells (ol.toArray ++ xs.toArray ++ Builtin.zeroCells z.cells (grownCap w (es.length + ys.length) cap e - (es.length + ys.length))) e)) := by
      refine Post.tipNew h hT k7 hmq (by omega) (c := ol.toArray ++ xs.toArray ++ Builtin.zeroCells z.cells (grownCap w (es.length + ys.length) cap e - (es.length + ys.length))) (e := e) (z := (0, 0)) rfl rfl rfl rfl ?_ ?_ ?_ (Or.inl rfl) hge
      · intro j v hj
        rw [hcells]
        have hj' : (ol ++ xs)[j]? = some v := hj
        simp only [List.getElem?_toArray]
        rw [List.getElem?_append_left (List.getElem?_eq_some_iff.1 hj').1]
        exact hj'
      · intro j hj
        show (ol ++ xs)[j]? = none
        rw [List.getElem?_eq_none]
        omega
      · rw [hcells]
        simp only [List.size_toArray, List.length_append, Array.length_toList, size_zeroCells, hzs, holl, hxl, ← Nat.add_mul]
        exact Nat.mul_le_mul_right sz (by omega)
    refine ⟨_, .slice (some ⟨w.heap.size, 0, none⟩) (es.length + ys.length) (grownCap w (es.length + ys.length) cap e), _, hrun, ?_, hpost⟩
    simp only [Rep]
    refine ⟨⟨_, _, by rw [List.length_append], by rw [List.length_append]; exact hge, Or.inr ⟨_, 0, rfl, ?_⟩, fun q' hq' => ?_⟩, hevs⟩
    · rw [RepFs.flat]
      refine RepF.of (hall.mono hpost.le) (fun j x hj => ?_)
      rw [Nat.zero_add]
      show (E.setF w.heap.size f).fz w.heap.size j = some x
      rw [Env.setF_same]; exact hj
    · cases hq'
      exact Or.inr ⟨_, 0, rfl, by rw [List.length_append]; exact Env.setT_same _ _ _ _⟩

/-- The first elements of a list that was none. -/
theorem appendNil_ok (hC : C.Ok) {nn mm : Nat} {E : Env} {s : Hs} {w : World} (h : SH C E s w.heap) {t u ty e : TypeId} {ti ui ei : TI} {sz bytes : Nat} {ys : List (List PV)} {xv z : Value} {xs : List Value} (ht : C.tt t = some ti) (hu : C.tt u = some ui) (hte : ti.desc = .slice e) (hni : notInt ui.desc = true) (he : C.tt e = some ei)
    (hsz : ei.info.size = sz) (hsz0 : 0 < sz) (hbytes : ei.info.bytes = bytes) (hz : ei.info.zero = some z) (hzs : z.cells.size = sz) (hmm : mm ≤ s.m)
    (hxs : RepL E ys.flatten xs) (hxl : xs.length = ys.length * sz) (hev : ∀ e ∈ ys, e.length = sz) (hlen : ∀ w', (Builtin.lenOf xv).run C.P w' = .ok ys.length w') (hfc : ∀ w', w'.heap = w.heap → (Builtin.firstCells sz ys.length xv).run C.P w' = .ok xs.toArray w')
    (hb : ys.length * bytes ≤ 140737488355328) (hb2 : ys.length ≤ 140737488355328) :
    (ys = [] → (Builtin.append_ #[t, u] ty #[.slice none 0 0, xv]).run C.P w = .ok (.slice none 0 0) w) ∧
    (ys ≠ [] → ∃ E' r w', (Builtin.append_ #[t, u] ty #[.slice none 0 0, xv]).run C.P w = .ok r w' ∧ Rep E' (.lst sz ys (some s.m)) r ∧ Post C nn mm E s w E' ⟨s.H, hset s.T s.m (some ys.length), s.n, s.m + 1⟩ w') := by
  obtain ⟨htd, _⟩ := hC.ty t ti ht
  obtain ⟨hud, _⟩ := hC.ty u ui hu
  obtain ⟨_, hein⟩ := hC.ty e ei he
  rw [hte] at htd
  constructor
  · rintro rfl
    have hx0 : xs = [] := hxs.nil
    subst hx0
    have hrun := run_append_head (P := C.P) (w := w) (ty := ty) (base := none) (len := 0) (cap := 0) (m := 0) (xv := xv) htd hud hni hein (hlen w) (by omega) (new := #[]) (by rw [hsz]; exact hfc w rfl)
    rw [hrun]; simp
  · intro hne
    have h0 : 0 < ys.length := by
      rcases Nat.eq_zero_or_pos ys.length with h0 | h0
      · exact absurd (List.eq_nil_of_length_eq_zero h0) hne
      · exact h0
    have hrun := run_append_grow' (P := C.P) (w := w) (ty := ty) (base := none) (len := 0) (cap := 0) (m := ys.length) (xv := xv) (z := z) htd hud hni hein hz (hlen w) (by omega) (old := #[]) (new := xs.toArray) (by rw [hsz]; exact hfc w.drew rfl) (by simp [Builtin.firstCells]) (by rw [hbytes]; simpa using hb) (by simpa using hb2)
    rw [Nat.zero_add] at hrun
    have hge := grownCap_ge w ys.length 0 e
    let f : Nat → Option Value := fun j => xs[j]?
    have hcells : #[] ++ xs.toArray ++ Builtin.zeroCells z.cells (grownCap w ys.length 0 e - ys.length) = (xs ++ (Builtin.zeroCells z.cells (grownCap w ys.length 0 e - ys.length)).toList).toArray := by
      apply Array.ext'; simp
    have hpost : Post C nn mm E s w ((E.setF w.heap.size f).setT s.m ys.length (w.heap.size, 0, grownCap w ys.length 0 e, sz)) ⟨s.H, hset s.T s.m (some ys.length), s.n, s.m + 1⟩
        (w.drew.alloc (.cells (#[] ++ xs.toArray ++ Builtin.zeroCells z.cells (grownCap w ys.length 0 e - ys.length)) e)) := by
      refine Post.newtip h (q := s.m) (m' := s.m + 1) (c := #[] ++ xs.toArray ++ Builtin.zeroCells z.cells (grownCap w ys.length 0 e - ys.length)) (e := e) (z := (0, 0)) (fun i => h.fresht s.m i (Nat.le_refl _)) (by omega) (by omega) hmm rfl rfl rfl rfl ?_ ?_ ?_ (Or.inl rfl) hge
      · intro j v hj
        rw [hcells]
        have hj' : xs[j]? = some v := hj
        simp only [List.getElem?_toArray]
        rw [List.getElem?_append_left (List.getElem?_eq_some_iff.1 hj').1]
        exact hj'
      · intro j hj
        show xs[j]? = none
        rw [List.getElem?_eq_none]
        omega
      · rw [hcells]
        simp only [List.size_toArray, List.length_append, Array.length_toList, size_zeroCells, hzs, hxl, ← Nat.add_mul]
        exact Nat.mul_le_mul_right sz (by omega)
    refine ⟨_, .slice (some ⟨w.heap.size, 0, none⟩) ys.length (grownCap w ys.length 0 e), _, hrun, ?_, hpost⟩
    simp only [Rep]
    refine ⟨⟨_, _, rfl, hge, Or.inr ⟨_, 0, rfl, ?_⟩, fun q' hq' => ?_⟩, hev⟩
    · rw [RepFs.flat]
      refine RepF.of (hxs.mono hpost.le) (fun j x hj => ?_)
      rw [Nat.zero_add]
      show (E.setF w.heap.size f).fz w.heap.size j = some x
      rw [Env.setF_same]; exact hj
    · cases hq'
      exact Or.inr ⟨_, 0, rfl, Env.setT_same _ _ _ _⟩
end
end Go.Pv
