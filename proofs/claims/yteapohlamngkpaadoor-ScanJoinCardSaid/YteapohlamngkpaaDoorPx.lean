/-
  Values of a program as plain data: values of which less is said.
-/
import Derived.Test.YteapohlamngkpaaDoorPw
namespace Go.Pv
open Go.RowKit
set_option linter.unusedVariables false

def VLe (u v : PV) : Prop := ∀ E x, Rep E u x → Rep E v x
def VLes (us vs : List PV) : Prop := ∀ E xs, RepL E us xs → RepL E vs xs
theorem VLe.refl (u : PV) : VLe u u := fun _ _ h => h
theorem VLes.refl (u : List PV) : VLes u u := fun _ _ h => h
theorem VLe.lst (sz : Nat) (es : List (List PV)) (p : Option Nat) : VLe (.lst sz es p) (.lst sz es none) := fun E x h => fgt_le sz es p E x h
theorem VLe.nil (sz : Nat) : VLe .nilsl (.lst sz [] none) := fun E x h => nil_le sz E x h
theorem VLe.trans {u v w : PV} (h : VLe u v) (k : VLe v w) : VLe u w := fun E x r => k E x (h E x r)
theorem VLes.cons {u v : PV} {us vs : List PV} (h : VLe u v) (k : VLes us vs) : VLes (u :: us) (v :: vs) := fun E xs r => by
  obtain ⟨x, r', rfl, h1, h2⟩ := r.cons
  exact RepL.mk (h E x h1) (k E _ h2)
theorem VLe.tup {us vs : List PV} (h : VLes us vs) : VLe (.tup us) (.tup vs) := fun E x r => by
  simp only [Rep] at r ⊢
  obtain ⟨a, h1, h2⟩ := r
  exact ⟨a, h1, h E a h2⟩
theorem VLe.agg {us vs : List PV} (h : VLes us vs) : VLe (.agg us) (.agg vs) := fun E x r => by
  simp only [Rep] at r ⊢
  obtain ⟨a, h1, h2⟩ := r
  exact ⟨a, h1, h E a h2⟩
theorem OutLe.ret {u v : PV} (h : VLe u v) : OutLe (.ret u) (.ret v) := h
theorem OutLe.tup {us vs : List PV} (h : VLes us vs) : OutLe (.ret (.tup us)) (.ret (.tup vs)) := VLe.tup h
theorem OutLe.fst (sz : Nat) (es : List (List PV)) (p : Option Nat) (r : List PV) : OutLe (.ret (.tup (.lst sz es p :: r))) (.ret (.tup (.lst sz es none :: r))) := OutLe.tup (VLes.cons (VLe.lst _ _ _) (VLes.refl _))
theorem OutLe.lst (sz : Nat) (es : List (List PV)) (p : Option Nat) : OutLe (.ret (.lst sz es p)) (.ret (.lst sz es none)) := VLe.lst _ _ _
theorem LoopI.drop {I : List PV → Hs → Prop} {vs : List PV} {s : Hs} (H : Nat → Option AO) (T : Nat → Option Nat) (n m : Nat) (h1 : Hle H s.H) (h2 : Hle T s.T) (h3 : s.n ≤ n) (h4 : s.m ≤ m) (h : I vs ⟨H, T, n, m⟩) : LoopI I vs s :=
  ⟨⟨H, T, n, m⟩, ⟨h1, h2⟩, h3, h4, h⟩

/-- Nothing is there from these numbers on. -/
def Wf2 (H : Nat → Option AO) (T : Nat → Option Nat) (n m : Nat) : Prop := (∀ i, n ≤ i → H i = none) ∧ ∀ p, m ≤ p → T p = none
theorem Wf2.mono {H : Nat → Option AO} {T : Nat → Option Nat} {n m n' m' : Nat} (h : Wf2 H T n m) (hn : n ≤ n') (hm : m ≤ m') : Wf2 H T n' m' := ⟨fun i hi => h.1 i (Nat.le_trans hn hi), fun p hp => h.2 p (Nat.le_trans hm hp)⟩
/-- More is there; what was there is as it was. -/
structure Ext (s s' : Hs) : Prop where
  H : Hle s.H s'.H
  T : Hle s.T s'.T
  n : s.n ≤ s'.n
  m : s.m ≤ s'.m
theorem Ext.refl (s : Hs) : Ext s s := ⟨Hle.refl _, Hle.refl _, Nat.le_refl _, Nat.le_refl _⟩
theorem Ext.trans {a b c : Hs} (h : Ext a b) (k : Ext b c) : Ext a c := ⟨h.H.trans k.H, h.T.trans k.T, Nat.le_trans h.n k.n, Nat.le_trans h.m k.m⟩
theorem Ext.up {H : Nat → Option AO} {T : Nat → Option Nat} {n m n' m' : Nat} {s : Hs} (h : Ext ⟨H, T, n', m'⟩ s) (hn : n ≤ n') (hm : m ≤ m') : Ext ⟨H, T, n, m⟩ s := ⟨h.H, h.T, Nat.le_trans hn h.n, Nat.le_trans hm h.m⟩
theorem ToLe.ext {o o0 : Out} {s s' : Hs} (h : OutLe o o0) (k : Ext s s') : ToLe o0 s s.H s.T o s' := ToLe.mk h k.H k.T k.n k.m
theorem LoopI.ext {I : List PV → Hs → Prop} {vs : List PV} {s s0 : Hs} (h : Ext s0 s) (k : I vs ⟨s0.H, s0.T, s.n, s.m⟩) : LoopI I vs s := LoopI.drop _ _ _ _ h.H h.T (Nat.le_refl _) (Nat.le_refl _) k
theorem Wd.wf {s : Hs} (h : Wd s) : Wf2 s.H s.T s.n s.m := ⟨h.1, h.2⟩
theorem Wf2.ext {H : Nat → Option AO} {T : Nat → Option Nat} {n m : Nat} {s : Hs} (h : Wf2 H T n m) (k : Ext ⟨H, T, n, m⟩ s) : Wf2 H T s.n s.m := h.mono k.n k.m

theorem Wf2.setT {H : Nat → Option AO} {T : Nat → Option Nat} {n m : Nat} (h : Wf2 H T n m) {q : Nat} (hq : q < m) (o : Option Nat) : Wf2 H (hset T q o) n m :=
  ⟨h.1, fun p hp => by simp only [hset]; rw [if_neg (by omega)]; exact h.2 p hp⟩
theorem Wf2.setH {H : Nat → Option AO} {T : Nat → Option Nat} {n m : Nat} (h : Wf2 H T n m) {q : Nat} (hq : q < n) (o : Option AO) : Wf2 (hset H q o) T n m :=
  ⟨fun p hp => by simp only [hset]; rw [if_neg (by omega)]; exact h.1 p hp, h.2⟩

theorem elem_zero (a : List PV) (r : List (List PV)) : elem (a :: r) 0 = a := rfl
theorem elem_one (a b : List PV) (r : List (List PV)) : elem (a :: b :: r) 1 = b := rfl
theorem elem_two (a b c : List PV) (r : List (List PV)) : elem (a :: b :: c :: r) 2 = c := rfl
theorem elem_three (a b c d : List PV) (r : List (List PV)) : elem (a :: b :: c :: d :: r) 3 = d := rfl
attribute [go_sem] elem_zero elem_one elem_two elem_three

theorem elem_strs (l : List (List UInt8)) (i : Nat) (h : i < l.length) : elem (l.map fun s => [PV.str s]) (i : Int) = [.str (l.getD i [])] := by
  rw [elem_nat]
  simp [List.getD, h]
theorem elem_ints (l : List Int) (i : Nat) (h : i < l.length) : elem (l.map fun s => [PV.int .i64 s]) (i : Int) = [.int .i64 (l.getD i 0)] := by
  rw [elem_nat]
  simp [List.getD, h]
end Go.Pv
