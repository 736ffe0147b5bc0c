/-
  A run of closed code by the kernel: append and copy.
-/
import Derived.Test.YtggonamheakkkaaGreatDoorXh
import Derived.Laws.AppendOwn
import Derived.Lib.ConvBytes
import Derived.Lib.UnsafeStr
namespace Go.Xq
open Go.RowKit
set_option linter.unusedVariables false

noncomputable def byteS (b : UInt8) : SV := .int .u8 (.lit (.ofNat b.toNat))

noncomputable def lenS : SV → Option Nat
  | .nilslice => some 0
  | .slice _ _ len _ => some len
  | .str s => some s.length
  | _ => none

/-- The cells of the first m elements. -/
noncomputable def xNews (h : Tr AO) (size m : Nat) : SV → Option (List SV)
  | .nilslice => some []
  | .slice id off _ _ => match rowS h id with
    | some cs => let l := (cs.drop off).take (Nat.mul m size)
      match Nat.beq l.length (Nat.mul m size) with
      | true => some l
      | false => none
    | none => none
  | .str s => some ((s.take m).map byteS)
  | _ => none

theorem bytes_den {E : Env} : ∀ (l : List UInt8), denL E (l.map byteS) = some (l.map fun b => Value.int .u8 b.toNat)
  | [] => rfl
  | b :: l => denL_mk rfl (bytes_den l)

theorem bytes_one : ∀ (l : List UInt8), allOne (l.map byteS) = true
  | [] => rfl
  | b :: l => bytes_one l

section
variable {P : Program} {C : Cx} (hC : C.Ok P)

theorem xNews_ok {E : Env} {h : Tr AO} {n : Nat} {w : World} (s : SH C E h n w.heap) {size m : Nat} {x : SV} {l : List SV} {xv : Value} (hx : xNews h size m x = some l) (hxv : x.den E = some xv) (hm : ∀ s, x = .str s → size = 1) (hm0 : x = .nilslice → m = 0) :
    ∃ xs, denL E l = some xs ∧ (∀ str, x = .str str → m ≤ str.length → l.length = m * size) ∧ (∀ id off k c, x = .slice id off k c → l.length = m * size) ∧ ∀ w', w'.heap = w.heap → (Builtin.firstCells size m xv).run P w' = .ok xs.toArray w' := by
  unfold xNews at hx
  split at hx
  · cases hx; cases hxv
    exact ⟨[], rfl, (fun _ e => nomatch e), (fun _ _ _ _ e => nomatch e), fun w' _ => rfl⟩
  · rename_i id off k c
    split at hx
    case h_2 => cases hx
    rename_i cs hg
    obtain ⟨p, hp, hcl, hpt⟩ := rowS_ok s hg
    simp only at hx
    split at hx
    case h_2 => cases hx
    rename_i hl
    cases hx
    have hl' := Nat.eq_of_beq_eq_true hl
    simp only [SV.den, hp, Option.map_some, Option.some.injEq] at hxv
    subst hxv
    obtain ⟨xs, h1, h2⟩ := hpt off (m * size)
    refine ⟨xs, h1, (fun _ e => nomatch e), fun _ _ _ _ _ => hl', fun w' hw' => ?_⟩
    have hxl : xs.length = m * size := by rw [denL_length h1]; exact hl'
    exact run_firstCells_some w' size m _ _ _ xs hxl (fun j v hj => by
      have := h2 j v hj
      simpa [World.cell?, hw'] using this)
  · rename_i str
    cases hx; cases hxv
    refine ⟨_, bytes_den _, fun s e hms => ?_, (fun _ _ _ _ e => nomatch e), fun w' _ => ?_⟩
    · cases e
      rw [hm _ rfl, List.length_map, List.length_take]; omega
    · have : (ByteArray.mk str.toArray).extract 0 m = ByteArray.mk (str.take m).toArray := by rw [ByteArray.extract_mk]; simp
      simp only [Builtin.firstCells, this, Sem.run_pure]
      congr 1
      simp
  · cases hx

noncomputable def _root_.Go.Xq.notInt : TypeDesc → Bool
  | .int _ => false
  | _ => true

/-- A new row that may go on. -/
noncomputable def _root_.Go.Xq.xGrow (h : Tr AO) (n : Nat) (e : TypeId) (size bytes need : Nat) (cs : List SV) : Option (SV × Tr AO × Nat) :=
  match Nat.ble (Nat.mul need bytes) 140737488355328 with
  | false => none
  | true => match Nat.ble need 140737488355328 with
    | false => none
    | true => match h.upd 48 n (some (.cells cs e (some size) false)) with
      | some h' => some (.slice n 0 need (.less 0), h', Nat.succ n)
      | none => none

noncomputable def _root_.Go.Xq.capFits (size need len : Nat) : Cap → Option Nat → Option Bool
  | .fix c, _ => some (Nat.ble need c)
  | .less _, none => none
  | .less k, some sz => match Nat.beq sz size with
    | false => none
    | true => match Nat.ble (Nat.mul (Nat.add k need) size) len with
      | true => some true
      | false => match Nat.beq k 0 with
        | true => some false
        | false => none

theorem capFits_true {size need len : Nat} {cap : Cap} {sl : Option Nat} (h : capFits size need len cap sl = some true) (hs : 0 < size) {room : Nat} (hr : ∀ sz, sl = some sz → len ≤ room * sz) : need ≤ cap.den room := by
  cases cap with
  | fix c =>
    simp only [capFits, Option.some.injEq] at h
    exact Nat.le_of_ble_eq_true h
  | less k =>
    cases sl with
    | none => simp [capFits] at h
    | some sz =>
      simp only [capFits] at h
      split at h
      · cases h
      rename_i hsz
      have hsz' := Nat.eq_of_beq_eq_true hsz
      subst hsz'
      split at h
      · rename_i hb
        have hb' : (k + need) * sz ≤ len := Nat.le_of_ble_eq_true hb
        have h2 : (k + need) * sz ≤ room * sz := Nat.le_trans hb' (hr sz rfl)
        have := Nat.le_of_mul_le_mul_right h2 hs
        simp only [Cap.den]; omega
      · split at h <;> cases h

theorem capFits_false {size need len : Nat} {cap : Cap} {sl : Option Nat} (h : capFits size need len cap sl = some false) : (∃ c, cap = .fix c ∧ ¬ need ≤ c) ∨ (cap = .less 0 ∧ sl = some size) := by
  cases cap with
  | fix c =>
    simp only [capFits, Option.some.injEq] at h
    exact Or.inl ⟨c, rfl, fun hle => by rw [Nat.ble_eq_true_of_le hle] at h; cases h⟩
  | less k =>
    cases sl with
    | none => simp [capFits] at h
    | some sz =>
      simp only [capFits] at h
      split at h
      · cases h
      rename_i hsz
      have hsz' := Nat.eq_of_beq_eq_true hsz
      split at h
      · cases h
      split at h
      case h_2 => cases h
      rename_i hk
      rw [Nat.eq_of_beq_eq_true hk, hsz']
      exact Or.inr ⟨rfl, rfl⟩

noncomputable def _root_.Go.Xq.xAppend (C : Cx) (h : Tr AO) (n : Nat) (t u : TypeId) (s x : SV) : Option (SV × Tr AO × Nat) :=
  match C.tt.get t, C.tt.get u with
  | some ti, some ui => match notInt ui.desc with
    | false => none
    | true => match ti.desc with
      | .slice e => match C.tt.get e with
        | none => none
        | some ei => match ei.info.zero with
          | none => none
          | some z => match ofV z with
            | none => none
            | some zv => match Nat.beq (cellsS zv).length ei.info.size with
              | false => none
              | true => match Nat.beq ei.info.size 0 with
                | true => none
                | false => match lenS x with
                  | none => none
                  | some m => match (match x with | .str _ => Nat.beq ei.info.size 1 | _ => true) with
                    | false => none
                    | true => match xNews h ei.info.size m x with
                      | none => none
                      | some news => match allOne news with
                        | false => none
                        | true => match s with
                          | .nilslice => match Nat.beq m 0 with
                            | true => some (.nilslice, h, n)
                            | false => xGrow h n e ei.info.size ei.info.bytes m news
                          | .slice id off len cap =>
                            let size := ei.info.size
                            let need := Nat.add len m
                            match h.get id with
                            | some (.cells cs e' sl mk) =>
                              match capFits size need cs.length cap sl with
                              | none => none
                              | some true => match Nat.ble C.G id with
                                | false => none
                                | true => match Nat.ble (Nat.add off (Nat.mul need size)) cs.length with
                                  | false => none
                                  | true => match h.upd 48 id (some (.cells (splice cs (Nat.add off (Nat.mul len size)) news) e' sl mk)) with
                                    | some h' => some (.slice id off need cap, h', n)
                                    | none => none
                              | some false => match cap with
                                | .fix c =>
                                  let olds := (cs.drop off).take (Nat.mul len size)
                                  match Nat.beq olds.length (Nat.mul len size) with
                                  | true => xGrow h n e size ei.info.bytes need (olds ++ news)
                                  | false => none
                                | .less _ => match Nat.ble C.G id with
                                  | false => none
                                  | true => match Nat.beq off 0 with
                                    | false => none
                                    | true => match Nat.beq (Nat.mul len size) cs.length with
                                      | false => none
                                      | true => match Nat.beq e e' with
                                        | false => none
                                        | true => match mk with
                                          | true => none
                                          | false => match h.upd 48 id none with
                                            | none => none
                                            | some h1 => xGrow h1 n e size ei.info.bytes need (cs ++ news)
                            | _ => none
                          | _ => none
      | _ => none
  | _, _ => none

theorem run_append_head {w : World} {t u ty e : TypeId} {ti ui ei : TI} {base : Option Addr} {len cap m : Nat} {xv : Value} (ht : P.underlying t = some (.slice e)) (hu : P.underlying u = some ui.desc) (hn : notInt ui.desc = true) (hei : P.info? e = some ei.info)
    (hl : (Builtin.lenOf xv).run P w = .ok m w) (hin : len + m ≤ cap) {new : Array Value} (hf : (Builtin.firstCells ei.info.size m xv).run P w = .ok new w) :
    (Builtin.append_ #[t, u] ty #[.slice base len cap, xv]).run P w = (do
      if let some a := base then storeCells (a.add (len * ei.info.size)) new.toList
      pure (.slice base (len + m) cap) : Sem Value).run P w := by
  generalize ui.desc = d at hu hn
  simp only [Builtin.append_, List.getElem?_toArray, List.getElem?_cons_zero, List.getElem?_cons_succ, Sem.run_bind, run_underlying ht, run_underlying hu, Result.andThen_ok, run_sizeOf' w hei, Sem.run_pure]
  cases d <;> first
    | (cases hn; done)
    | (simp only [Bool.false_eq_true, if_false, hl, Result.andThen_ok, hin, if_true, Bool.not_false, Sem.run_bind, hf]
       cases base <;> rfl)

theorem run_append_grow' {w : World} {t u ty e : TypeId} {ui ei : TI} {base : Option Addr} {len cap m : Nat} {xv z : Value} (ht : P.underlying t = some (.slice e)) (hu : P.underlying u = some ui.desc) (hn : notInt ui.desc = true) (hei : P.info? e = some ei.info)
    (hz : ei.info.zero = some z) (hl : (Builtin.lenOf xv).run P w = .ok m w) (hin : ¬ (len + m ≤ cap)) {old new : Array Value} (hf : (Builtin.firstCells ei.info.size m xv).run P w.drew = .ok new w.drew)
    (ho : (Builtin.firstCells ei.info.size len (.slice base len cap)).run P w.drew = .ok old w.drew) (hb : (len + m) * ei.info.bytes ≤ 140737488355328) (hb2 : len + m ≤ 140737488355328) :
    (Builtin.append_ #[t, u] ty #[.slice base len cap, xv]).run P w = .ok (.slice (some ⟨w.heap.size, 0, none⟩) (len + m) (grownCap w (len + m) cap e))
      (w.drew.alloc (.cells (old ++ new ++ Builtin.zeroCells z.cells (grownCap w (len + m) cap e - (len + m))) e)) := by
  generalize ui.desc = d at hu hn
  have h48 := growslice_fits (need := len + m) (old := cap) (bytes := ei.info.bytes) (by omega) hb
  have h48' : ¬ (Builtin.nextslicecap (len + m) cap * ei.info.bytes > 2 ^ 48) := by omega
  have h63 : ¬ (((len + m : Nat) : Int) > IntKind.i64.max ∧ (False ∨ ei.info.bytes = 0)) := by rw [IntKind.max_i64]; omega
  simp only [Builtin.append_, List.getElem?_toArray, List.getElem?_cons_zero, List.getElem?_cons_succ, Sem.run_bind, run_underlying ht, run_underlying hu, Result.andThen_ok, run_sizeOf' w hei, Sem.run_pure]
  have hd : ({ w with drawn := w.drawn + 1 } : World) = w.drew := rfl
  cases d <;> first
    | (cases hn; done)
    | (simp only [Bool.false_eq_true, if_false, hl, Result.andThen_ok, hin, Bool.not_false, if_true, Sem.run_bind, run_typeInfo w hei, h63, h48', run_choose, Question.forced, run_askRoom, hd, run_typeInfo w.drew hei, ho, hf,
        run_zeroValue' w.drew hei hz, newRow, run_newObj, Sem.run_pure]
       rfl)

theorem lenS_ok {E : Env} {w : World} {x : SV} {m : Nat} {xv : Value} (h : lenS x = some m) (hx : x.den E = some xv) : (Builtin.lenOf xv).run P w = .ok m w := by
  unfold lenS at h
  split at h
  · cases h; cases hx; rfl
  · cases h
    simp only [SV.den, Option.map_eq_some_iff] at hx
    obtain ⟨p, hp, rfl⟩ := hx
    rfl
  · cases h; cases hx
    simp [Builtin.lenOf, size_mk]
  · cases h

theorem xGrow_ok {E : Env} {h h' : Tr AO} {n n' : Nat} {w : World} (s : SH C E h n w.heap) {e : TypeId} {size bytes need cap : Nat} {cs : List SV} {xs : List Value} {z : Value} {r : SV} (hx : xGrow h n e size bytes need cs = some (r, h', n'))
    (hc : denL E cs = some xs) (hl : xs.length = need * size) (hz : z.cells.size = size) :
    need * bytes ≤ 140737488355328 ∧ need ≤ 140737488355328 ∧
    ∃ E', r.den E' = some (.slice (some ⟨w.heap.size, 0, none⟩) need (grownCap w need cap e)) ∧ Post C E h n w E' h' n' (w.drew.alloc (.cells (xs.toArray ++ Builtin.zeroCells z.cells (grownCap w need cap e - need)) e)) ∧
      E' = E.set n (w.heap.size, grownCap w need cap e) ∧ n' = n + 1 := by
  simp only [xGrow] at hx
  split at hx
  · cases hx
  rename_i h1
  split at hx
  · cases hx
  rename_i h2
  split at hx
  case h_2 => cases hx
  rename_i h3 hu
  simp only [Option.some.injEq, Prod.mk.injEq] at hx
  obtain ⟨rfl, rfl, rfl⟩ := hx
  refine ⟨Nat.le_of_ble_eq_true h1, Nat.le_of_ble_eq_true h2, E.set n (w.heap.size, grownCap w need cap e), by simp [SV.den, Env.set_same, Cap.den], ?_, rfl, rfl⟩
  have hge := grownCap_ge w need cap e
  refine (SH.drew s).trans ?_
  have hpost := Post.alloc (C := C) (f := 48) (w := w.drew) (O := .cells (xs.toArray ++ Builtin.zeroCells z.cells (grownCap w need cap e - need)) e) (room := grownCap w need cap e) s hu
    ⟨xs, (Builtin.zeroCells z.cells (grownCap w need cap e - need)).toList, (0, 0), denL_mono (Env.set_le (s.fresh n (Nat.le_refl _))) _ _ hc, by show (w.heap.push _)[w.heap.size]? = _; rw [Array.getElem?_push_size]; congr 2; apply Array.ext'; simp, (fun h => nomatch h), ?_, fun _ => rfl, Or.inl rfl⟩
  · exact hpost
  · intro sz hsz
    cases hsz
    simp only [Array.length_toList, size_zeroCells, hl, hz, ← Nat.add_mul]
    congr 1
    omega

/-- A block is forgotten. -/
theorem SH.drop {E : Env} {h h1 : Tr AO} {n f : Nat} {w : World} (s : SH C E h n w.heap) {id : Nat} (hu : Tr.upd f h id none = some h1) : Post C E h n w E h1 n w := by
  have hg := Tr.get_upd f h id none h1 hu
  have sub : ∀ i o, h1.get i = some o → h.get i = some o := by
    intro i o hi
    rw [hg] at hi
    by_cases e : i = id
    · rw [if_pos e] at hi; cases hi
    · rw [if_neg e] at hi; exact hi
  exact ⟨⟨⟨fun i o hi => s.hr.obj i o (sub i o hi), fun i j o o' p q hi hj => s.hr.inj i j o o' p q (sub i o hi) (sub j o' hj)⟩, s.fresh, s.glob, s.low, s.kn, s.anc.sub sub⟩,
    ⟨Env.le.refl E, rfl, rfl, rfl, Nat.le_refl _, fun _ _ _ => rfl, fun k hk ⟨i, o, p, a, b, c, d⟩ => ⟨i, o, p, a, sub i o b, c, d⟩⟩, Nat.le_refl _, fun i o k => Or.inl ⟨o, sub i o k⟩, fun _ _ => rfl⟩

include hC
set_option maxHeartbeats 1000000 in
theorem xAppend_ok {E : Env} {h h' : Tr AO} {n n' : Nat} {w : World} (sh : SH C E h n w.heap) {t u ty : TypeId} {s x r : SV} {sv xv : Value} (hx : xAppend C h n t u s x = some (r, h', n')) (hsv : s.den E = some sv) (hxv : x.den E = some xv) :
    ∃ E' y w', (Builtin.append_ #[t, u] ty #[sv, xv]).run P w = .ok y w' ∧ r.den E' = some y ∧ Post C E h n w E' h' n' w' := by
  simp only [xAppend] at hx
  split at hx
  case h_2 => cases hx
  rename_i ti ui hti hui
  obtain ⟨htd, _⟩ := hC.ty t ti hti
  obtain ⟨hud, _⟩ := hC.ty u ui hui
  split at hx
  · cases hx
  rename_i hni
  split at hx
  case h_2 => cases hx
  rename_i e he
  rw [he] at htd
  split at hx
  · cases hx
  rename_i ei hei
  obtain ⟨_, hein⟩ := hC.ty e ei hei
  split at hx
  · cases hx
  rename_i z hz
  split at hx
  · cases hx
  rename_i zv hzv
  split at hx
  · cases hx
  rename_i hzs
  split at hx
  · cases hx
  rename_i hs0
  split at hx
  · cases hx
  rename_i m hm
  split at hx
  · cases hx
  rename_i hstr
  split at hx
  · cases hx
  rename_i news hnews
  split at hx
  · cases hx
  rename_i hone
  have hzd := cellsS_den (ofV_den E z zv hzv)
  have hzl := denL_length hzd
  have hzs' : (cellsS zv).length = ei.info.size := Nat.eq_of_beq_eq_true hzs
  have hzc : z.cells.size = ei.info.size := by rw [← hzs', ← hzl]; simp
  have hsp : 0 < ei.info.size := by have := Nat.ne_of_beq_eq_false hs0; omega
  have hlen := lenS_ok (P := P) (w := w) hm hxv
  obtain ⟨xs, hxs, hls, hlsl, hfirst⟩ := xNews_ok (P := P) sh hnews hxv (fun s e => by subst e; exact Nat.eq_of_beq_eq_true hstr) (fun e => by subst e; simp only [lenS, Option.some.injEq] at hm; exact hm.symm)
  have hnl : news.length = m * ei.info.size := by
    unfold lenS at hm
    split at hm
    · cases hm
      simp only [xNews, Option.some.injEq] at hnews
      subst hnews; simp
    · exact hlsl _ _ _ _ rfl
    · cases hm; exact hls _ rfl (Nat.le_refl _)
    · cases hm
  have hxl : xs.length = m * ei.info.size := by rw [denL_length hxs, hnl]
  split at hx
  · cases hsv
    split at hx
    · rename_i hm0
      have hm0' := Nat.eq_of_beq_eq_true hm0
      cases hx
      refine ⟨E, .slice none 0 0, w, ?_, rfl, Post.refl sh⟩
      rw [run_append_head (ti := ti) (ui := ui) (ei := ei) (m := m) htd hud hni hein hlen (by omega) (hfirst w rfl)]
      rw [hm0']; rfl
    · rename_i hm0
      have hm0' := Nat.ne_of_beq_eq_false hm0
      obtain ⟨b1, b2, E', h1, h2, _, _⟩ := xGrow_ok (w := w) (cap := 0) sh hx hxs hxl hzc
      refine ⟨E', _, _, ?_, h1, h2⟩
      have := run_append_grow' (P := P) (w := w) (ty := ty) (base := none) (len := 0) (cap := 0) (m := m) htd hud hni hein hz hlen (by omega) (hfirst w.drew rfl) (old := #[]) rfl (by simpa using b1) (by simpa using b2)
      rw [this]
      simp
  · rename_i id off len cap
    split at hx
    case h_2 => cases hx
    rename_i cs e' sl mk hg
    obtain ⟨p, hp, hrel⟩ := sh.obj hg
    have hrel' := hrel
    obtain ⟨vs, rest, fz, r1, r2, r3, r4, r5, r6⟩ := hrel'
    have hvl := denL_length r1
    simp only [SV.den, hp, Option.map_some, Option.some.injEq] at hsv
    subst hsv
    split at hx
    · cases hx
    · rename_i hdec
      have hroom : len + m ≤ cap.den p.2 := capFits_true hdec hsp (fun sz h => by have := r4 sz h; omega)
      split at hx
      · cases hx
      rename_i hG
      split at hx
      · cases hx
      rename_i hfit
      split at hx
      case h_2 => cases hx
      rename_i h2 hu
      cases hx
      have hfit' : off + (len + m) * ei.info.size ≤ cs.length := Nat.le_of_ble_eq_true hfit
      rw [Nat.add_mul] at hfit'
      have hrun := run_storeCells_gen (P := P) p.1 (off + len * ei.info.size) e' fz xs 0 (vs ++ rest) w r2 (by simp only [List.length_append]; omega) (r6.imp (fun h => h) (fun h => by omega)) (allOne_den hxs hone)
      rw [Nat.add_zero, spliceV_append _ _ _ _ (by omega)] at hrun
      refine ⟨E, .slice (some ⟨p.1, off, none⟩) (len + m) (cap.den p.2), w.setRow p.1 (spliceV vs (off + len * ei.info.size) xs ++ rest).toArray, ?_, by simp [SV.den, hp],
        Post.change (id := id) (p := p) (f := 48) sh (Nat.le_of_ble_eq_true hG) hg hp hu ?_ rfl rfl rfl (by simp) (fun k hk => setRow_other' w p.1 k _ hk)⟩
      · rw [run_append_head (ti := ti) (ui := ui) (ei := ei) (m := m) htd hud hni hein hlen hroom (hfirst w rfl)]
        simp only [Sem.run_bind, Addr.add_lit, hrun, Result.andThen_ok, Sem.run_pure]
      · refine ⟨spliceV vs (off + len * ei.info.size) xs, rest, fz, splice_den _ r1 hxs, setRow_heap w p.1 _ _ e' _ r2, r3, fun sz hs => ?_, r5, r6.imp (fun h => h) (fun h => by rw [spliceV_length]; exact h)⟩
        rw [spliceV_length]; exact r4 sz hs
    · rename_i hdec
      split at hx
      · rename_i c
        have hno : ¬ (len + m ≤ c) := by
          rcases capFits_false hdec with ⟨c', e1, e2⟩ | ⟨e1, _⟩
          · cases e1; exact e2
          · cases e1
        split at hx
        case h_2 => cases hx
        rename_i hol
        have hol' := Nat.eq_of_beq_eq_true hol
        obtain ⟨olds, ho1, ho2⟩ := part_cells hrel off (len * ei.info.size)
        have hoxl : olds.length = len * ei.info.size := by rw [denL_length ho1]; exact hol'
        obtain ⟨b1, b2, E', h1, h2, _, _⟩ := xGrow_ok (w := w) (cap := c) sh hx (denL_append ho1 hxs) (by rw [List.length_append, hoxl, hxl, ← Nat.add_mul]; rfl) hzc
        refine ⟨E', _, _, ?_, h1, h2⟩
        have hold := run_firstCells_some (P := P) w.drew ei.info.size len ⟨p.1, off, none⟩ len c olds hoxl (fun j v hj => ho2 j v hj)
        have := run_append_grow' (P := P) (w := w) (ty := ty) (base := some ⟨p.1, off, none⟩) (len := len) (cap := c) (m := m) htd hud hni hein hz hlen hno (hfirst w.drew rfl) hold b1 b2
        simp only [Cap.den]
        rw [this]
        simp
      · rename_i k
        obtain ⟨hk0, hsl⟩ : k = 0 ∧ sl = some ei.info.size := by
          rcases capFits_false hdec with ⟨c', e1, e2⟩ | ⟨e1, e2⟩
          · cases e1
          · cases e1; exact ⟨rfl, e2⟩
        subst hk0
        subst hsl
        split at hx
        · cases hx
        rename_i hG
        split at hx
        · cases hx
        rename_i hoff
        have hoff' := Nat.eq_of_beq_eq_true hoff
        subst hoff'
        split at hx
        · cases hx
        rename_i hcl
        have hcl' : len * ei.info.size = cs.length := Nat.eq_of_beq_eq_true hcl
        split at hx
        · cases hx
        rename_i hee
        have hee' := Nat.eq_of_beq_eq_true hee
        subst hee'
        split at hx
        · cases hx
        split at hx
        · cases hx
        rename_i h1 hu1
        have hroom := r4 _ rfl
        simp only [Cap.den, Nat.sub_zero]
        by_cases hfits : len + m ≤ p.2
        · simp only [xGrow] at hx
          split at hx
          · cases hx
          split at hx
          · cases hx
          split at hx
          case h_2 => cases hx
          rename_i h3 hu
          simp only [Option.some.injEq, Prod.mk.injEq] at hx
          obtain ⟨rfl, rfl, rfl⟩ := hx
          have hmul : (len + m) * ei.info.size ≤ p.2 * ei.info.size := Nat.mul_le_mul_right _ hfits
          rw [Nat.add_mul] at hmul
          have hrun := run_storeCells_gen (P := P) p.1 (0 + len * ei.info.size) e fz xs 0 (vs ++ rest) w r2 (by simp only [List.length_append]; omega)
            (by
              rcases r6 with h | h
              · exact Or.inl h
              · exact Or.inr (by omega)) (allOne_den hxs hone)
          have hsplit : ∀ (xs rest vs : List Value), xs.length ≤ rest.length → spliceV (vs ++ rest) vs.length xs = (vs ++ xs) ++ rest.drop xs.length := by
            intro xs
            induction xs with
            | nil => intro rest vs _; simp [spliceV]
            | cons y ys ih =>
              intro rest vs hle
              cases rest with
              | nil => simp at hle
              | cons b bs =>
                simp only [List.length_cons] at hle
                have hset : (vs ++ b :: bs).set vs.length y = (vs ++ [y]) ++ bs := by
                  rw [List.set_append_right _ _ (Nat.le_refl _)]; simp
                rw [spliceV, hset]
                have := ih bs (vs ++ [y]) (by omega)
                rw [List.length_append] at this
                simp only [List.length_cons, List.length_nil, Nat.zero_add] at this
                rw [this]
                simp
          have hvl2 : len * ei.info.size = vs.length := by omega
          rw [Nat.add_zero, Nat.zero_add, hvl2, hsplit xs rest vs (by omega)] at hrun
          refine ⟨E.set n p, .slice (some ⟨p.1, 0, none⟩) (len + m) p.2, w.setRow p.1 ((vs ++ xs) ++ rest.drop xs.length).toArray, ?_, by simp [SV.den, Env.set_same, Cap.den],
            Post.renew (id := id) (p := p) sh (Nat.le_of_ble_eq_true hG) hg hp hu1 hu ?_ rfl rfl rfl (by simp) (fun k hk => setRow_other' w p.1 k _ hk)⟩
          · rw [run_append_head (ti := ti) (ui := ui) (ei := ei) (m := m) htd hud hni hein hlen hfits (hfirst w rfl)]
            simp only [Sem.run_bind, Addr.add_lit, Nat.zero_add, hvl2, hrun, Result.andThen_ok, Sem.run_pure]
          · refine ⟨vs ++ xs, rest.drop xs.length, fz, denL_mono (Env.set_le (sh.fresh n (Nat.le_refl _))) _ _ (denL_append r1 hxs), setRow_heap w p.1 _ _ e _ r2, (fun h => nomatch h), fun sz hs => ?_, (fun _ => r5 rfl), ?_⟩
            · have := r4 sz hs
              simp only [List.length_append, List.length_drop]; omega
            · rcases r6 with h | h
              · exact Or.inl h
              · right; simp only [List.length_append, List.length_drop]; omega
        · have hdrop := SH.drop (w := w) sh hu1
          obtain ⟨b1, b2, E', g1, g2, _, _⟩ := xGrow_ok (w := w) (cap := p.2) hdrop.sh hx (denL_append r1 hxs) (by rw [List.length_append, hxl, hvl, ← hcl', ← Nat.add_mul]; rfl) hzc
          refine ⟨E', _, _, ?_, g1, hdrop.trans g2⟩
          obtain ⟨olds, ho1, ho2⟩ := part_cells hrel 0 (len * ei.info.size)
          have hov : olds = vs := by
            have : (cs.drop 0).take (len * ei.info.size) = cs := by rw [List.drop_zero, hcl', List.take_length]
            rw [this, r1] at ho1
            exact (Option.some.inj ho1).symm
          subst hov
          have hold := run_firstCells_some (P := P) w.drew ei.info.size len ⟨p.1, 0, none⟩ len p.2 olds (by omega) (fun j v hj => ho2 j v hj)
          have := run_append_grow' (P := P) (w := w) (ty := ty) (base := some ⟨p.1, 0, none⟩) (len := len) (cap := p.2) (m := m) htd hud hni hein hz hlen hfits (hfirst w.drew rfl) hold b1 b2
          rw [this]
          simp
  · cases hx

/-! ### unsafe.SliceData, unsafe.String (strings.Builder) -/
noncomputable def _root_.Go.Xq.xSliceData (h : Tr AO) : SV → Option SV
  | .nilslice => some .nilptr
  | .slice id off _ cap => match cap with
    | .fix c => match Nat.beq c 0 with
      | true => none
      | false => match h.get id with
        | some _ => some (.ptr id off)
        | none => none
    | .less k => match Nat.beq k 0 with
      | false => none
      | true => match h.get id with
        | some (.cells cs _ (some _) _) => match Nat.beq cs.length 0 with
          | true => none
          | false => some (.ptr id off)
        | _ => none
  | _ => none

omit hC in
theorem xSliceData_ok {E : Env} {h : Tr AO} {n : Nat} {w : World} (s : SH C E h n w.heap) {ts : Array TypeId} {ty : TypeId} {x r : SV} {xv : Value} (hx : xSliceData h x = some r) (hxv : x.den E = some xv) :
    ∃ y, (Builtin.unsafeSliceData_ ts ty #[xv]).run P w = .ok y w ∧ r.den E = some y := by
  unfold xSliceData at hx
  split at hx
  · cases hx; cases hxv
    exact ⟨_, Lib.run_unsafeSliceData_nil w ts ty _ _, rfl⟩
  · rename_i id off len cap
    split at hx
    · rename_i c
      split at hx
      · cases hx
      rename_i hc
      have hc' : c ≠ 0 := Nat.ne_of_beq_eq_false hc
      split at hx
      case h_2 => cases hx
      rename_i o ho
      cases hx
      obtain ⟨p, hp, _⟩ := s.obj ho
      simp only [SV.den, hp, Option.map_some, Option.some.injEq, Cap.den] at hxv
      subst hxv
      exact ⟨_, Lib.run_unsafeSliceData_row w ts ty _ _ _ hc', by simp [SV.den, hp]⟩
    · rename_i k
      split at hx
      · cases hx
      rename_i hk
      have hk' := Nat.eq_of_beq_eq_true hk
      subst hk'
      split at hx
      case h_2 => cases hx
      rename_i cs e sz mk hg
      split at hx
      · cases hx
      rename_i hn
      have hn' : cs.length ≠ 0 := Nat.ne_of_beq_eq_false hn
      cases hx
      obtain ⟨p, hp, vs, rest, fz, h1, h2, h3, h4, _⟩ := s.obj hg
      have hlen := denL_length h1
      have hr := h4 sz rfl
      have hp0 : p.2 ≠ 0 := by
        intro e0
        rw [e0, Nat.zero_mul] at hr
        omega
      simp only [SV.den, hp, Option.map_some, Option.some.injEq, Cap.den, Nat.sub_zero] at hxv
      subst hxv
      exact ⟨_, Lib.run_unsafeSliceData_row w ts ty _ _ _ hp0, by simp [SV.den, hp]⟩
  · cases hx

/-- Bytes that are known. -/
noncomputable def _root_.Go.Xq.knownB : List SV → Option (List UInt8)
  | [] => some []
  | v :: r => match v with
    | .int .u8 (.lit (.ofNat n)) => match Nat.blt n 256 with
      | true => match knownB r with
        | some l => some (UInt8.ofNat n :: l)
        | none => none
      | false => none
    | _ => none

omit hC in
theorem knownB_ok {E : Env} : ∀ {vs : List SV} {xs : List Value} {l : List UInt8}, knownB vs = some l → denL E vs = some xs → xs = l.map fun b : UInt8 => Value.int IntKind.u8 (b.toNat : Int)
  | [], xs, l, h, hd => by cases h; rw [denL_nil hd]; rfl
  | v :: r, xs, l, h, hd => by
    obtain ⟨x, ys, h1, h2, rfl⟩ := denL_cons hd
    simp only [knownB] at h
    split at h
    case h_2 => cases h
    rename_i m
    split at h
    case h_2 => cases h
    rename_i hm
    split at h
    case h_2 => cases h
    rename_i l' hl
    cases h
    have hm' : m < 256 := by simpa [Nat.blt_eq] using hm
    have ih := knownB_ok hl h2
    rw [ih]
    simp only [SV.den, SI.den, Option.some.injEq] at h1
    subst h1
    have : (UInt8.ofNat m).toNat = m := UInt8.toNat_ofNat_of_lt' hm'
    simp [this]

noncomputable def _root_.Go.Xq.xUStr (C : Cx) (h : Tr AO) (pt : TypeId) : SV → SV → Option (SV × Tr AO)
  | .ptr id off, .int .i64 (.lit (.ofNat m)) => match Nat.beq off 0 with
    | false => none
    | true => match Nat.beq m 0 with
      | true => none
      | false => match Nat.ble m 9223372036854775807 with
        | false => none
        | true => match Nat.ble C.G id with
          | false => none
          | true => match h.get id with
            | some (.cells cs e sl mk) => match C.tt.get pt with
              | some pi => match pi.desc with
                | .pointer e' => match Nat.beq e e' with
                  | false => none
                  | true => match C.tt.get e with
                    | some ei => match ei.desc with
                      | .int .u8 => match knownB (cs.take m) with
                        | none => none
                        | some l => match (match Nat.beq l.length m with | false => false | true => Nat.beq ei.info.size 1) with
                          | false => none
                          | true => match h.upd 48 id (some (.ro cs)) with
                            | some h' => some (.str l, h')
                            | none => none
                      | _ => none
                    | none => none
                | _ => none
              | none => none
            | _ => none
  | .nilptr, .int .i64 (.lit (.ofNat 0)) => some (.str [], h)
  | _, _ => none

omit hC in
theorem heap_freeze (w : World) (b n : Nat) {c : Array Value} {e : TypeId} {fz : Nat × Nat} (h : w.heap[b]? = some (.cells c e fz)) :
    (∃ fz', (w.freeze ⟨b, 0, none⟩ n).heap[b]? = some (.cells c e fz')) ∧ (∀ k, k ≠ b → (w.freeze ⟨b, 0, none⟩ n).heap[k]? = w.heap[k]?) ∧ (w.freeze ⟨b, 0, none⟩ n).heap.size = w.heap.size ∧
      (w.freeze ⟨b, 0, none⟩ n).os = w.os ∧ (w.freeze ⟨b, 0, none⟩ n).tape = w.tape ∧ (w.freeze ⟨b, 0, none⟩ n).output = w.output := by
  unfold World.freeze
  split
  · exact ⟨⟨fz, h⟩, fun _ _ => rfl, rfl, rfl, rfl, rfl⟩
  · refine ⟨?_, fun k hk => ?_, by simp, rfl, rfl, rfl⟩
    · obtain ⟨lo, hi⟩ := fz
      simp only [Array.getElem?_modify, h, Option.map_some]
      exact ⟨_, rfl⟩
    · simp only [Array.getElem?_modify]
      rw [if_neg (fun e => hk e.symm)]

include hC in
theorem xUStr_ok {E : Env} {h h' : Tr AO} {n : Nat} {w : World} (sh : SH C E h n w.heap) {pt it ty : TypeId} {x y r : SV} {xv yv : Value} (hx : xUStr C h pt x y = some (r, h')) (hxv : x.den E = some xv) (hyv : y.den E = some yv) :
    ∃ u w', (Builtin.unsafeString_ #[pt, it] ty #[xv, yv]).run P w = .ok u w' ∧ r.den E = some u ∧ Post C E h n w E h' n w' := by
  unfold xUStr at hx
  split at hx
  · rename_i id off m
    split at hx
    · cases hx
    rename_i hoff
    have hoff' := Nat.eq_of_beq_eq_true hoff
    subst hoff'
    split at hx
    · cases hx
    rename_i hm0
    have hm0' : m ≠ 0 := Nat.ne_of_beq_eq_false hm0
    split at hx
    · cases hx
    rename_i hm63
    split at hx
    · cases hx
    rename_i hG
    split at hx
    case h_2 => cases hx
    rename_i cs e sl mk hg
    split at hx
    case h_2 => cases hx
    rename_i pi hpi
    split at hx
    case h_2 => cases hx
    rename_i e' hpd
    split at hx
    · cases hx
    rename_i hee
    have hee' := Nat.eq_of_beq_eq_true hee
    subst hee'
    split at hx
    case h_2 => cases hx
    rename_i ei hei
    split at hx
    case h_2 => cases hx
    split at hx
    · cases hx
    rename_i l hl
    split at hx
    · cases hx
    rename_i hlm
    split at hx
    case h_2 => cases hx
    rename_i h3 hu
    cases hx
    have hlen : l.length = m ∧ ei.info.size = 1 := by
      split at hlm
      · cases hlm
      · rename_i h1; exact ⟨Nat.eq_of_beq_eq_true h1, Nat.eq_of_beq_eq_true hlm⟩
    obtain ⟨p, hp, vs, rest, fz, h1, h2, h4, h5, h6, h7⟩ := sh.obj hg
    simp only [SV.den, hp, Option.map_some, Option.some.injEq, SI.den] at hxv hyv
    subst hxv; subst hyv
    obtain ⟨d1, _⟩ := hC.ty pt pi hpi
    rw [hpd] at d1
    obtain ⟨_, d2⟩ := hC.ty e ei hei
    have hc1 : P.cellsOf e = 1 := by simp [Program.cellsOf, d2, hlen.2]
    have hvl := denL_take m h1
    have hk := knownB_ok hl hvl
    have hvlen : m ≤ vs.length := by
      have := congrArg List.length hk
      simp only [List.length_take, List.length_map, hlen.1] at this
      omega
    have hrun := Lib.run_unsafeString_row (P := P) w pt it ty e d1 hc1 p.1 (vs ++ rest).toArray.size (shape_of_cells h2) l (by intro e0; rw [e0] at hlen; exact hm0' hlen.1.symm) (by rw [hlen.1]; simp; omega) (by rw [hlen.1]; exact Nat.le_of_ble_eq_true hm63)
      (fun j b hb => by
        have hj : j < m := by have := (List.getElem?_eq_some_iff.1 hb).1; omega
        have hv : vs[j]? = some (Value.int IntKind.u8 (b.toNat : Int)) := by
          have e1 : (vs.take m)[j]? = some (Value.int IntKind.u8 (b.toNat : Int)) := by rw [hk]; simp [hb]
          rwa [List.getElem?_take_of_lt hj] at e1
        have hadd : (⟨p.1, 0, none⟩ : Addr).add j = ⟨p.1, j, none⟩ := by
          unfold Addr.add
          by_cases hj0 : j = 0
          · subst hj0; rfl
          · simp [hj0]
        rw [hadd]
        have hjl : j < vs.length := by omega
        simp [World.cell?, h2, List.getElem?_append_left hjl, hv])
    rw [hlen.1] at hrun
    obtain ⟨⟨fz', f1⟩, f2, f3, f4, f5, f6⟩ := heap_freeze w p.1 m h2
    refine ⟨_, _, hrun, rfl, ?_⟩
    exact Post.change sh (Nat.le_of_ble_eq_true hG) hg hp hu ⟨vs, _, e, fz', h1, f1, fun j x hj => by
      have hjl : j < vs.length := (List.getElem?_eq_some_iff.1 hj).1
      simp [List.getElem?_append_left hjl, hj]⟩ f4 f5 f6 f3 f2
  · cases hx; cases hxv; cases hyv
    exact ⟨_, w, Lib.run_unsafeString_none w pt it ty none, rfl, Post.refl sh⟩
  · cases hx

/-- The bytes of a string: a new row. -/
noncomputable def _root_.Go.Xq.xBytes (C : Cx) (h : Tr AO) (n : Nat) (src dst : TypeId) : SV → Option (SV × Tr AO × Nat)
  | .str l => match C.tt.get src, C.tt.get dst with
    | some si, some di => match di.desc with
      | .slice e => match C.tt.get e with
        | some ei => match ei.desc with
          | .int .u8 => match h.upd 48 n (some (.cells (l.map byteS) e (some 1) true)) with
            | some h' => some (.slice n 0 l.length (.less 0), h', Nat.succ n)
            | none => none
          | _ => none
        | none => none
      | _ => none
    | _, _ => none
  | _ => none

omit hC in
theorem _root_.Go.Xq.bytesWorld_eq (w : World) (e : TypeId) (s : ByteArray) : Lib.bytesWorld w e s = w.drew.alloc (.cells (Lib.bytesCells w e s) e ((Lib.bytesCells w e s).size, (Lib.bytesCells w e s).size + 1)) := by
  have hh : (Lib.bytesWorld w e s).heap = (w.drew.alloc (.cells (Lib.bytesCells w e s) e ((Lib.bytesCells w e s).size, (Lib.bytesCells w e s).size + 1))).heap := by
    apply Array.ext_getElem?
    intro i
    rcases Nat.lt_trichotomy i w.heap.size with h | h | h
    · rw [Lib.bytesWorld_at_old w e s i h]
      exact (Array.getElem?_push_lt h ▸ (Array.getElem?_eq_getElem h))
    · subst h
      rw [Lib.bytesWorld_at_new]
      exact (Array.getElem?_push_size).symm
    · rw [Array.getElem?_eq_none (by rw [Lib.bytesWorld_size]; omega), Array.getElem?_eq_none (by show (Array.push w.heap _).size ≤ i; rw [Array.size_push]; omega)]
  have hb : Lib.bytesWorld w e s = { (w.drew.alloc (.cells (Lib.bytesCells w e s) e ((Lib.bytesCells w e s).size, (Lib.bytesCells w e s).size + 1))) with heap := (Lib.bytesWorld w e s).heap } := rfl
  rw [hb, hh]

theorem xBytes_ok {E : Env} {h h' : Tr AO} {n n' : Nat} {w : World} (sh : SH C E h n w.heap) {src dst : TypeId} {x r : SV} {xv : Value} (hx : xBytes C h n src dst x = some (r, h', n')) (hxv : x.den E = some xv) :
    ∃ E' y w', (convert src dst xv).run P w = .ok y w' ∧ r.den E' = some y ∧ Post C E h n w E' h' n' w' := by
  unfold xBytes at hx
  split at hx
  case h_2 => cases hx
  rename_i l
  split at hx
  case h_2 => cases hx
  rename_i si di hsi hdi
  split at hx
  case h_2 => cases hx
  rename_i e he
  split at hx
  case h_2 => cases hx
  rename_i ei hei
  split at hx
  case h_2 => cases hx
  rename_i hu8
  split at hx
  case h_2 => cases hx
  rename_i h3 hu
  simp only [Option.some.injEq, Prod.mk.injEq] at hx
  obtain ⟨rfl, rfl, rfl⟩ := hx
  simp only [SV.den, Option.some.injEq] at hxv
  subst hxv
  obtain ⟨d1, _⟩ := hC.ty src si hsi
  obtain ⟨d2, _⟩ := hC.ty dst di hdi
  obtain ⟨d3, _⟩ := hC.ty e ei hei
  rw [he] at d2
  rw [hu8] at d3
  have hrun := Lib.run_convert_string_bytes (P := P) w src dst e ⟨l.toArray⟩ d1 d2 d3
  rw [bytesWorld_eq] at hrun
  have hsz : (ByteArray.mk l.toArray).size = l.length := by simp [ByteArray.size]
  rw [hsz] at hrun
  refine ⟨E.set n (w.heap.size, grownCap w l.length 0 e), _, _, hrun, by simp [SV.den, Env.set_same, Cap.den], ?_⟩
  have hge := grownCap_ge w l.length 0 e
  have hcells : Lib.bytesCells w e ⟨l.toArray⟩ = ((l.map fun b : UInt8 => Value.int IntKind.u8 (b.toNat : Int)) ++ List.replicate (grownCap w l.length 0 e - l.length) (Value.int IntKind.u8 0)).toArray := by
    apply Array.ext'
    simp [Lib.bytesCells, hsz]
  rw [hcells]
  refine (SH.drew sh).trans ?_
  refine Post.alloc (C := C) (f := 48) (w := w.drew) (room := grownCap w l.length 0 e) sh hu
    ⟨l.map fun b : UInt8 => Value.int IntKind.u8 (b.toNat : Int), List.replicate (grownCap w l.length 0 e - l.length) (Value.int IntKind.u8 0), _, bytes_den l, by show (w.heap.push _)[w.heap.size]? = _; rw [Array.getElem?_push_size], (fun h => nomatch h), ?_, (fun h => nomatch h), Or.inr ?_⟩
  · intro sz hsz
    cases hsz
    simp only [List.length_map, List.length_replicate]
    omega
  · simp

noncomputable def _root_.Go.Xq.xCopy (C : Cx) (h : Tr AO) (t : TypeId) (d x : SV) : Option (SV × Tr AO) :=
  match C.tt.get t with
  | none => none
  | some ti => match ti.desc with
    | .slice e => match C.tt.get e with
      | none => none
      | some ei => match lenS x with
        | none => none
        | some m => match (match x with | .str _ => Nat.beq ei.info.size 1 | _ => true) with
          | false => none
          | true => match d with
            | .slice id off len _ =>
              let k := match Nat.ble m len with | true => m | false => len
              match xNews h ei.info.size k x with
              | none => none
              | some news => match allOne news with
                | false => none
                | true => match Nat.beq news.length (Nat.mul k ei.info.size) with
                  | false => none
                  | true => match Nat.ble C.G id with
                    | false => none
                    | true => match h.get id with
                      | some (.cells cs e' sl mk) => match Nat.ble (Nat.add off news.length) cs.length with
                        | false => none
                        | true => match h.upd 48 id (some (.cells (splice cs off news) e' sl mk)) with
                          | some h' => some (.int .i64 (.lit (.ofNat k)), h')
                          | none => none
                      | _ => none
            | _ => none
    | _ => none

theorem xCopy_ok {E : Env} {h h' : Tr AO} {n : Nat} {w : World} (sh : SH C E h n w.heap) {t rt : TypeId} {ats : Array TypeId} {d x r : SV} {dv xv : Value} (hx : xCopy C h t d x = some (r, h')) (hdv : d.den E = some dv) (hxv : x.den E = some xv) (hat : ats[0]? = some t) :
    ∃ y w', (Builtin.copy_ ats rt #[dv, xv]).run P w = .ok y w' ∧ r.den E = some y ∧ Post C E h n w E h' n w' := by
  simp only [xCopy] at hx
  split at hx
  · cases hx
  rename_i ti hti
  obtain ⟨htd, _⟩ := hC.ty t ti hti
  split at hx
  case h_2 => cases hx
  rename_i e he
  rw [he] at htd
  split at hx
  · cases hx
  rename_i ei hei
  obtain ⟨_, hein⟩ := hC.ty e ei hei
  split at hx
  · cases hx
  rename_i m hm
  split at hx
  · cases hx
  rename_i hstr
  split at hx
  case h_2 => cases hx
  rename_i id off len cap
  have hk : (match Nat.ble m len with | true => m | false => len) = Nat.min m len := by
    rw [nble]
    by_cases hle : m ≤ len
    · simp only [hle, decide_true]; exact (Nat.min_eq_left hle).symm
    · simp only [hle, decide_false]; exact (Nat.min_eq_right (by omega)).symm
  rw [hk] at hx
  split at hx
  · cases hx
  rename_i news hnews
  split at hx
  · cases hx
  rename_i hone
  split at hx
  · cases hx
  rename_i hnl
  split at hx
  · cases hx
  rename_i hG
  split at hx
  case h_2 => cases hx
  rename_i cs e' sl mk hg
  split at hx
  · cases hx
  rename_i hfit
  split at hx
  case h_2 => cases hx
  rename_i h2 hu
  cases hx
  have hlen := lenS_ok (P := P) (w := w) hm hxv
  obtain ⟨xs, hxs, _, _, hfirst⟩ := xNews_ok (P := P) sh hnews hxv (fun s e => by subst e; exact Nat.eq_of_beq_eq_true hstr) (fun e => by subst e; simp only [lenS, Option.some.injEq] at hm; subst hm; exact Nat.zero_min _)
  obtain ⟨p, hp, hrel⟩ := sh.obj hg
  obtain ⟨vs, rest, fz, r1, r2, r3, r4, r5, r6⟩ := hrel
  have hvl := denL_length r1
  have hxl := denL_length hxs
  simp only [SV.den, hp, Option.map_some, Option.some.injEq] at hdv
  subst hdv
  have hfit' : off + news.length ≤ cs.length := Nat.le_of_ble_eq_true hfit
  have hrun := run_storeCells_gen (P := P) p.1 off e' fz xs 0 (vs ++ rest) w r2 (by simp only [List.length_append]; omega) (r6.imp (fun h => h) (fun h => by omega)) (allOne_den hxs hone)
  rw [Nat.add_zero, spliceV_append _ _ _ _ (by omega)] at hrun
  refine ⟨goInt (Nat.min m len), w.setRow p.1 (spliceV vs off xs ++ rest).toArray, ?_, rfl,
    Post.change (id := id) (p := p) (f := 48) sh (Nat.le_of_ble_eq_true hG) hg hp hu ?_ rfl rfl rfl (by simp) (fun k hk => setRow_other' w p.1 k _ hk)⟩
  · simp only [Builtin.copy_, hat, List.getElem?_toArray, List.getElem?_cons_zero, List.getElem?_cons_succ, Sem.run_bind, run_underlying htd, Result.andThen_ok, hlen, run_sizeOf' w hein, hfirst w rfl, hrun, Sem.run_pure]
  · refine ⟨spliceV vs off xs, rest, fz, splice_den _ r1 hxs, setRow_heap w p.1 _ _ e' _ r2, r3, fun sz hs => ?_, r5, r6.imp (fun h => h) (fun h => by rw [spliceV_length]; exact h)⟩
    rw [spliceV_length]; exact r4 sz hs
end
end Go.Xq
