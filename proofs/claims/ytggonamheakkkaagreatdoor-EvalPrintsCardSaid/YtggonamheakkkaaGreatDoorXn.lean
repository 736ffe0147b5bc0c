/-
  A run of closed code by the kernel: a region whose order is drawn: whatever the order, it comes to the same.
-/
import Derived.Test.YtggonamheakkkaaGreatDoorXm
namespace Go.Xq
open Go.RowKit
set_option linter.unusedVariables false

/-! ### Operations that look at no memory -/
noncomputable def pureK : Op → Bool
  | .move _ => true | .assign _ => true | .pick _ _ _ => true | .build _ _ => true | .nilCheck _ => true | .unOp _ _ _ => true | .makeInterface _ _ => true
  | .makeFunc _ _ _ => true | .fieldAddr _ _ _ => true | .field _ _ _ => true | .indexAddr _ _ _ => true | .index _ _ _ => true | .typeAssert _ _ _ _ => true | .extract _ _ => true
  | _ => false

theorem pure_quiet {C : Cx} {t : Tr SV} {op : Op} (h h' : Tr AO) (hp : pureK op = true) : quietX C t h op = quietX C t h' op := by
  cases op <;> first | rfl | (cases hp)

noncomputable def chkP (C : Cx) (n0 : Nat) (L : List Rec) (W : Nat) (r : Rec) (k : Nat) : List Ph → Bool
  | [] => true
  | p :: ph => match Nat.beq ph.length k with
    | true => chkP C n0 L W r k ph
    | false => match Nat.beq (Nat.land (Nat.land r.anc W) p.wm) (Nat.land r.anc W) with
      | false => chkP C n0 L W r k ph
      | true => match bitX p.am r.i with
        | true => chkP C n0 L W r k ph
        | false => match addA n0 r.anc p.am L p.h with
          | none => false
          | some h => match quietX C r.t h r.o.op with
            | none => false
            | some v => match beqSV v r.v with
              | true => chkP C n0 L W r k ph
              | false => false

noncomputable def chkX (C : Cx) (n0 : Nat) (L : List Rec) (W : Nat) (F : List Ph) : List Rec → Bool
  | [] => true
  | r :: rs => match r.k with
    | .quiet k => match pureK r.o.op with
      | true => chkX C n0 L W F rs
      | false => match chkP C n0 L W r k F with
        | true => chkX C n0 L W F rs
        | false => false
    | _ => chkX C n0 L W F rs

theorem chkP_ok {C : Cx} {n0 : Nat} {L : List Rec} {W : Nat} {r : Rec} {k : Nat} : ∀ {F : List Ph}, chkP C n0 L W r k F = true → ∀ q qh, (q :: qh) <:+ F → qh.length ≠ k → Nat.land (Nat.land r.anc W) q.wm = Nat.land r.anc W → bitX q.am r.i = false →
    ∃ h, addA n0 r.anc q.am L q.h = some h ∧ quietX C r.t h r.o.op = some r.v
  | [], _, q, qh, hs, _, _, _ => by simp at hs
  | p :: ph, h, q, qh, hs, hk, hw, ha => by
    have tl : chkP C n0 L W r k ph = true := by
      simp only [chkP] at h
      split at h
      · exact h
      split at h
      · exact h
      split at h
      · exact h
      split at h
      · cases h
      split at h
      · cases h
      split at h
      · exact h
      · cases h
    rcases List.suffix_cons_iff.1 hs with e | e
    · simp only [List.cons.injEq] at e
      obtain ⟨rfl, rfl⟩ := e
      simp only [chkP] at h
      split at h
      · rename_i hb; exact absurd (Nat.eq_of_beq_eq_true hb) hk
      split at h
      · rename_i hb; exact absurd hw (Nat.ne_of_beq_eq_false hb)
      split at h
      · rename_i hb; rw [ha] at hb; cases hb
      split at h
      · cases h
      rename_i h1 hadd
      split at h
      · cases h
      rename_i v hq
      split at h
      · rename_i hv; exact ⟨h1, hadd, by rw [hq, beqSV_eq _ _ hv]⟩
      · cases h
    · exact chkP_ok tl q qh e hk hw ha

theorem chkX_ok {C : Cx} {n0 : Nat} {L : List Rec} {W : Nat} {F : List Ph} : ∀ {rs : List Rec}, chkX C n0 L W F rs = true → ∀ r ∈ rs, ∀ k, r.k = .quiet k → pureK r.o.op = false → chkP C n0 L W r k F = true
  | [], _, r, hr, _, _, _ => nomatch hr
  | x :: rs, h, r, hr, k, hk, hp => by
    simp only [chkX] at h
    rcases List.mem_cons.1 hr with e | hr2
    · subst e
      rw [hk] at h
      simp only [hp] at h
      split at h
      · assumption
      · cases h
    · refine chkX_ok (rs := rs) ?_ r hr2 k hk hp
      split at h
      · split at h
        · exact h
        split at h
        · exact h
        · cases h
      · exact h
end Go.Xq
