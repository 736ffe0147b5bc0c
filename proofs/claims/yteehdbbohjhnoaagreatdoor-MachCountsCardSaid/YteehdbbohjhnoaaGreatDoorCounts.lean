/-
  Layer 09: a loop that counts down tells what it counted: the context, and the loop.
-/
import Derived.Test.YteehdbbohjhnoaaGreatDoorMach
import Derived.Test.YteehdbbohjhnoaaGreatDoorXq
namespace Go.Proofs.YteehdbbohjhnoaaGreatDoor.MachCounts
open Go.Xq Go.RowKit Go.Proofs.YteehdbbohjhnoaaGreatDoor
set_option maxRecDepth 1000000
noncomputable def iP (n : Nat) : SV := .int .i64 (.lit (.ofNat n))
noncomputable def iN (n : Nat) : SV := .int .i64 (.lit (.negSucc n))
noncomputable def tbl : List (Nat × AO) := (vsA 0 fun _ => none).map fun x => (x.1, .ro x.2)
/-- The call of the machine. -/
noncomputable def part : Part := ⟨14, [.agg [.nilslice, .slice 1716 0 18 (.less 0)], .slice 1883 0 1 (.fix 1), iP 2000], 1884,
  tbl ++ [(1716, .cells [.str [], iP 16, iP 17, iP 0, iP 0, iP 2, .str [], .str [], iP 28, iP 0, iP 0, iP 0, iP 0, .str [], .str [], iP 15, iP 5, iP 10, iP 0, iP 0, .str [], .str [], iP 26, iP 0, iP 0, iP 0, iP 0, .str [115, 117, 109], .str [], iP 16, iP 17, iP 0, iP 0, iP 1, .str [], .str [], iP 28, iP 0, iP 0, iP 0, iP 0, .str [], .str [], iP 16, iP 17, iP 0, iP 0, iP 3, .str [], .str [], iP 16, iP 10, iP 0, iP 0, iP 9, .str [], .str [], iP 28, iP 0, iP 0, iP 0, iP 0, .str [], .str [115, 117, 109], iP 0, iP 0, iP 0, iP 0, iP 0, .str [], .str [], iP 16, iP 10, iP 0, iP 0, iP 0, .str [], .str [108, 111, 111, 112], iP 0, iP 0, iP 0, iP 0, iP 0, .str [], .str [], iP 21, iP 0, iP 5, iP 0, iP 0, .str [101, 110, 100], .str [], iP 1, iP 10, iP 10, iP 5, iP 0, .str [], .str [], iP 18, iP 5, iP 5, iP 0, iN 0, .str [], .str [], iP 25, iP 0, iP 0, iP 0, iP 0, .str [108, 111, 111, 112], .str [101, 110, 100], iP 0, iP 0, iP 0, iP 0, iP 0, .str [], .str [], iP 27, iP 0, iP 0, iP 0, iP 0, .str []] 41 (some 7) false),
   (1883, .cells [.int .i64 (.var 1)] 3 none false)],
  .agg [iP 1, iP 9, .slice 2732 0 1 (.less 0), .int .i64 (.bin .add .i64 (.lit (.ofNat 12)) (.bin .mul .i64 (.lit (.ofNat 4)) (.var 1)))],
  [(2732, .cells [.int .i64 (.bin .quo .i64 (.bin .mul .i64 (.var 1) (.bin .add .i64 (.var 1) (.lit (.ofNat 1)))) (.lit (.ofNat 2)))] 3 (some 1) false)],
  2884⟩
noncomputable def pat : Pat := ⟨[(2, iP 2000), (6, .ptr 1885 0), (9, .ptr 2058 0), (10, .int .i64 (.var 7))],
  [   (1885, .cells [iP 0, iP 0, .nilslice, iP 0] 31 none false),
   (2057, .map []),
   (2058, .cells [iP 0, .slice 1883 0 0 (.fix 0), .nilslice, .slice 2278 0 15 (.less 0), .slice 2279 0 15 (.fix 15), iP 0, iP 16, iP 1073741824, iP 0, iP 0, .int .i64 (.var 5), iP 0, iP 0, iP 0, iP 0, .int .i64 (.var 6), iP 0, iP 0, iP 0, iP 0, iP 0, iP 0, iP 2, iP 0, iP 0, iP 0, iP 0, iP 0, iP 0, iP 0, iP 0, iP 0, iP 0, iP 0, iP 0, iP 0, iP 0, .map 2057, iP 10, .bool false, iP 0, iP 0] 71 none false),
   (2278, .cells [iP 16, iP 17, iP 0, iP 0, iP 2, .str [], iP 28, iP 0, iP 0, iP 0, iP 0, .str [], iP 15, iP 5, iP 10, iP 0, iP 0, .str [], iP 26, iP 0, iP 0, iP 0, iP 0, .str [115, 117, 109], iP 16, iP 17, iP 0, iP 0, iP 1, .str [], iP 28, iP 0, iP 0, iP 0, iP 0, .str [], iP 16, iP 17, iP 0, iP 0, iP 3, .str [], iP 16, iP 10, iP 0, iP 0, iP 9, .str [], iP 28, iP 0, iP 0, iP 0, iP 0, .str [], iP 16, iP 10, iP 0, iP 0, iP 0, .str [], iP 21, iP 0, iP 5, iP 0, iP 0, .str [101, 110, 100], iP 1, iP 10, iP 10, iP 5, iP 0, .str [], iP 18, iP 5, iP 5, iP 0, iN 0, .str [], iP 25, iP 0, iP 0, iP 0, iP 0, .str [108, 111, 111, 112], iP 27, iP 0, iP 0, iP 0, iP 0, .str []] 39 (some 6) false),
   (2279, .cells [iN 0, iN 0, iN 0, iP 9, iN 0, iN 0, iN 0, iN 0, iN 0, iN 0, iP 14, iN 0, iN 0, iP 10, iN 0] 3 none false)],
  2555⟩
noncomputable def out : Pat := ⟨[(2, iP 2000), (6, .ptr 1885 0), (9, .ptr 2058 0), (10, .int .i64 (.var 201))],
  [(1885, .cells [iP 0, iP 0, .nilslice, iP 0] 31 none false),
   (2057, .map []),
   (2058, .cells [iP 0, .slice 1883 0 0 (.fix 0), .slice 2732 0 1 (.less 0), .slice 2278 0 15 (.less 0), .slice 2279 0 15 (.fix 15), iP 0, iP 16, iP 1073741824, iP 0, iP 0, iP 0, iP 0, iP 0, iP 0, iP 0, iP 9, iP 0, iP 0, iP 0, iP 0, iP 0, iP 0, iP 3, iP 0, iP 0, iP 0, iP 0, iP 0, iP 0, iP 0, iP 0, iP 0, iP 0, iP 0, iP 0, iP 0, iP 0, .map 2057, iP 9, .bool true, iP 1, iP 9] 71 none false),
   (2732, .cells [.int .i64 (.var 200)] 3 (some 1) false)],
  2868⟩
noncomputable def fin : Pat := ⟨[(2, iP 2000), (6, .ptr 1885 0), (9, .ptr 2058 0), (10, .int .i64 (.bin .add .i64 (.lit 12) (.bin .mul .i64 (.lit 4) (.var 1))))],
  [(1885, .cells [iP 0, iP 0, .nilslice, iP 0] 31 none false),
   (2057, .map []),
   (2058, .cells [iP 0, .slice 1883 0 0 (.fix 0), .slice 2732 0 1 (.less 0), .slice 2278 0 15 (.less 0), .slice 2279 0 15 (.fix 15), iP 0, iP 16, iP 1073741824, iP 0, iP 0, iP 0, iP 0, iP 0, iP 0, iP 0, iP 9, iP 0, iP 0, iP 0, iP 0, iP 0, iP 0, iP 3, iP 0, iP 0, iP 0, iP 0, iP 0, iP 0, iP 0, iP 0, iP 0, iP 0, iP 0, iP 0, iP 0, iP 0, .map 2057, iP 9, .bool true, iP 1, iP 9] 71 none false),
   (2732, .cells [.int .i64 (.bin .quo .i64 (.bin .mul .i64 (.var 1) (.bin .add .i64 (.var 1) (.lit 1))) (.lit 2))] 3 (some 1) false)],
  2868⟩
noncomputable def gfacts : List Fact := [⟨.eql, .var 5, .lit 0, false⟩, ⟨.geq, .var 7, .lit 2000, false⟩, ⟨.geq, .bin .add .i64 (.var 7) (.lit 1), .lit 2000, false⟩, ⟨.geq, .bin .add .i64 (.bin .add .i64 (.var 7) (.lit 1)) (.lit 1), .lit 2000, false⟩, ⟨.geq, .bin .add .i64 (.bin .add .i64 (.bin .add .i64 (.var 7) (.lit 1)) (.lit 1)) (.lit 1), .lit 2000, false⟩]
noncomputable def efacts : List Fact := [⟨.eql, .var 5, .lit 0, true⟩, ⟨.geq, .var 7, .lit 2000, false⟩, ⟨.geq, .bin .add .i64 (.var 7) (.lit 1), .lit 2000, false⟩, ⟨.geq, .bin .add .i64 (.bin .add .i64 (.var 7) (.lit 1)) (.lit 1), .lit 2000, false⟩, ⟨.geq, .bin .add .i64 (.bin .add .i64 (.bin .add .i64 (.var 7) (.lit 1)) (.lit 1)) (.lit 1), .lit 2000, false⟩, ⟨.geq, .bin .add .i64 (.bin .add .i64 (.bin .add .i64 (.bin .add .i64 (.var 7) (.lit 1)) (.lit 1)) (.lit 1)) (.lit 1), .lit 2000, false⟩, ⟨.geq, .bin .add .i64 (.bin .add .i64 (.bin .add .i64 (.bin .add .i64 (.bin .add .i64 (.var 7) (.lit 1)) (.lit 1)) (.lit 1)) (.lit 1)) (.lit 1), .lit 2000, false⟩, ⟨.geq, .bin .add .i64 (.bin .add .i64 (.bin .add .i64 (.bin .add .i64 (.bin .add .i64 (.bin .add .i64 (.var 7) (.lit 1)) (.lit 1)) (.lit 1)) (.lit 1)) (.lit 1)) (.lit 1), .lit 2000, false⟩]
noncomputable def sub (i : Nat) : SI := match Nat.beq i 5 with
  | true => .bin .add .i64 (.var 5) (.lit (.negSucc 0))
  | false => match Nat.beq i 6 with
    | true => .bin .add .i64 (.var 6) (.var 5)
    | false => match Nat.beq i 7 with
      | true => .bin .add .i64 (.bin .add .i64 (.bin .add .i64 (.bin .add .i64 (.var 7) (.lit (.ofNat 1))) (.lit (.ofNat 1))) (.lit (.ofNat 1))) (.lit (.ofNat 1))
      | false => .var i
noncomputable def lp : Lp := ⟨78, pat, out, .exit 0, 4, 3000, sub, [(.var 5, .lit (.ofNat 0)), (.var 6, .var 200), (.bin .add .i64 (.bin .add .i64 (.bin .add .i64 (.bin .add .i64 (.bin .add .i64 (.bin .add .i64 (.bin .add .i64 (.var 7) (.lit (.ofNat 1))) (.lit (.ofNat 1))) (.lit (.ofNat 1))) (.lit (.ofNat 1))) (.lit (.ofNat 1))) (.lit (.ofNat 1))) (.lit (.ofNat 1)), .var 201)]⟩
/-- The numbers that the loop begins with. -/
noncomputable def ini (i : Nat) : SI := match Nat.beq i 5 with
  | true => .var 1
  | false => match Nat.beq i 6 with
    | true => .lit (.ofNat 0)
    | false => match Nat.beq i 7 with
      | true => .lit (.ofNat 5)
      | false => match Nat.beq i 200 with
        | true => .bin .quo .i64 (.bin .mul .i64 (.var 1) (.bin .add .i64 (.var 1) (.lit (.ofNat 1)))) (.lit (.ofNat 2))
        | false => match Nat.beq i 201 with
          | true => .bin .add .i64 (.lit (.ofNat 12)) (.bin .mul .i64 (.lit (.ofNat 4)) (.var 1))
          | false => .var i

/-! ### What is counted -/
noncomputable def tri : Nat → Nat
  | 0 => 0
  | m + 1 => tri m + (m + 1)
theorem tri_eq : ∀ m, 2 * tri m = m * (m + 1)
  | 0 => rfl
  | m + 1 => by
    have := tri_eq m
    simp only [tri]
    have h : (m + 1) * (m + 1 + 1) = m * (m + 1) + 2 * (m + 1) := by
      rw [show m + 1 + 1 = m + 2 from rfl, Nat.mul_add (m + 1) m 2, Nat.mul_comm (m + 1) m, Nat.mul_comm (m + 1) 2]
    omega
theorem tri_le {m : Nat} (h : m ≤ 200) : tri m ≤ 20100 := by
  have h1 := tri_eq m
  have h2 : m * (m + 1) ≤ 200 * 201 := Nat.mul_le_mul h (by omega)
  omega

/-- What is so when the loop has m rounds to go. -/
noncomputable def Inv (I : Nat → Int) (_ : Nat → Value) (m : Nat) : Prop := m ≤ 200 ∧ I 5 = (m : Int) ∧ 0 ≤ I 6 ∧ I 6 + (tri m : Int) = I 200 ∧ I 200 ≤ 20100 ∧ 0 ≤ I 7 ∧ I 7 + 4 * (m : Int) + 7 = I 201 ∧ I 201 ≤ 812

theorem add_i64 {x y : Int} (h0 : -9223372036854775808 ≤ x + y) (h1 : x + y ≤ 9223372036854775807) : iop .add .i64 x y = x + y := wrap_id h0 h1
theorem mul_i64 {x y : Int} (h0 : -9223372036854775808 ≤ x * y) (h1 : x * y ≤ 9223372036854775807) : iop .mul .i64 x y = x * y := wrap_id h0 h1
theorem quo_i64 {x y : Int} (h0 : -9223372036854775808 ≤ x.tdiv y) (h1 : x.tdiv y ≤ 9223372036854775807) : iop .quo .i64 x y = x.tdiv y := wrap_id h0 h1

theorem adds {x : Int} (h0 : 0 ≤ x) (h1 : x ≤ 1000000) :
    iop .add .i64 x 1 = x + 1 ∧ iop .add .i64 (x + 1) 1 = x + 2 ∧ iop .add .i64 (x + 2) 1 = x + 3 ∧ iop .add .i64 (x + 3) 1 = x + 4 ∧ iop .add .i64 (x + 4) 1 = x + 5 ∧ iop .add .i64 (x + 5) 1 = x + 6 ∧ iop .add .i64 (x + 6) 1 = x + 7 :=
  ⟨add_i64 (by omega) (by omega), (add_i64 (by omega) (by omega)).trans (by omega), (add_i64 (by omega) (by omega)).trans (by omega), (add_i64 (by omega) (by omega)).trans (by omega), (add_i64 (by omega) (by omega)).trans (by omega), (add_i64 (by omega) (by omega)).trans (by omega), (add_i64 (by omega) (by omega)).trans (by omega)⟩

theorem go_facts {I : Nat → Int} {O : Nat → Value} {m : Nat} (h : Inv I O (m + 1)) : FactsOk gfacts I := by
  obtain ⟨h1, h2, h3, h4, h5, h6, h7, h8⟩ := h
  obtain ⟨a1, a2, a3, a4, a5, a6, a7⟩ := adds h6 (by omega)
  refine facts_cons ?_ (facts_cons ?_ (facts_cons ?_ (facts_cons ?_ (facts_cons ?_ facts_nil))))
  · simp only [SI.den, icmp, beq_eq_false_iff_ne, ne_eq]
    omega
  · simp only [SI.den, icmp, ge_iff_le, decide_eq_false_iff_not]
    omega
  · simp only [SI.den, icmp, ge_iff_le, decide_eq_false_iff_not, a1]
    omega
  · simp only [SI.den, icmp, ge_iff_le, decide_eq_false_iff_not, a1, a2]
    omega
  · simp only [SI.den, icmp, ge_iff_le, decide_eq_false_iff_not, a1, a2, a3]
    omega

theorem end_facts {I : Nat → Int} {O : Nat → Value} (h : Inv I O 0) : FactsOk efacts I := by
  obtain ⟨h1, h2, h3, h4, h5, h6, h7, h8⟩ := h
  obtain ⟨a1, a2, a3, a4, a5, a6, a7⟩ := adds h6 (by omega)
  refine facts_cons ?_ (facts_cons ?_ (facts_cons ?_ (facts_cons ?_ (facts_cons ?_ (facts_cons ?_ (facts_cons ?_ (facts_cons ?_ facts_nil)))))))
  · simp only [SI.den, icmp, beq_iff_eq]
    omega
  · simp only [SI.den, icmp, ge_iff_le, decide_eq_false_iff_not]
    omega
  · simp only [SI.den, icmp, ge_iff_le, decide_eq_false_iff_not, a1]
    omega
  · simp only [SI.den, icmp, ge_iff_le, decide_eq_false_iff_not, a1, a2]
    omega
  · simp only [SI.den, icmp, ge_iff_le, decide_eq_false_iff_not, a1, a2, a3]
    omega
  · simp only [SI.den, icmp, ge_iff_le, decide_eq_false_iff_not, a1, a2, a3, a4]
    omega
  · simp only [SI.den, icmp, ge_iff_le, decide_eq_false_iff_not, a1, a2, a3, a4, a5]
    omega
  · simp only [SI.den, icmp, ge_iff_le, decide_eq_false_iff_not, a1, a2, a3, a4, a5, a6]
    omega

theorem inv_next {I : Nat → Int} {O : Nat → Value} {m : Nat} (h : Inv I O (m + 1)) : Inv (fun i => (sub i).den I) O m := by
  obtain ⟨h1, h2, h3, h4, h5, h6, h7, h8⟩ := h
  obtain ⟨a1, a2, a3, a4, a5, a6, a7⟩ := adds h6 (by omega)
  have ht : ((tri (m + 1) : Nat) : Int) = tri m + (m + 1) := by simp only [tri]; omega
  rw [ht] at h4
  have e5 : (sub 5).den I = I 5 - 1 := by
    show iop .add .i64 (I 5) (-1) = _
    rw [add_i64 (by omega) (by omega)]; omega
  have e6 : (sub 6).den I = I 6 + I 5 := by
    show iop .add .i64 (I 6) (I 5) = _
    rw [add_i64 (by omega) (by omega)]
  have e7 : (sub 7).den I = I 7 + 4 := by
    show iop .add .i64 (iop .add .i64 (iop .add .i64 (iop .add .i64 (I 7) 1) 1) 1) 1 = _
    rw [a1, a2, a3, a4]
  have e200 : (sub 200).den I = I 200 := rfl
  have e201 : (sub 201).den I = I 201 := rfl
  unfold Inv
  simp only [e5, e6, e7, e200, e201]
  refine ⟨by omega, by omega, by omega, by omega, h5, by omega, by omega, h8⟩

theorem inv_end {I : Nat → Int} {O : Nat → Value} (h : Inv I O 0) : ∀ a b, (a, b) ∈ lp.eqs → a.den I = b.den I := by
  obtain ⟨h1, h2, h3, h4, h5, h6, h7, h8⟩ := h
  obtain ⟨a1, a2, a3, a4, a5, a6, a7⟩ := adds h6 (by omega)
  intro a b hm
  simp only [lp, List.mem_cons, List.not_mem_nil, or_false, Prod.mk.injEq] at hm
  rcases hm with ⟨rfl, rfl⟩ | ⟨rfl, rfl⟩ | ⟨rfl, rfl⟩
  · show I 5 = 0
    omega
  · show I 6 = I 200
    simp only [tri] at h4
    omega
  · show iop .add .i64 (iop .add .i64 (iop .add .i64 (iop .add .i64 (iop .add .i64 (iop .add .i64 (iop .add .i64 (I 7) 1) 1) 1) 1) 1) 1) 1 = I 201
    rw [a1, a2, a3, a4, a5, a6, a7]
    omega

theorem inv_ini {I : Nat → Int} {O : Nat → Value} (h : 0 ≤ I 1 ∧ I 1 < 201) : Inv (fun i => (ini i).den I) O (I 1).toNat := by
  obtain ⟨m, hm⟩ : ∃ m : Nat, I 1 = (m : Int) := ⟨(I 1).toNat, by omega⟩
  have hmle : m ≤ 200 := by omega
  have ht := tri_eq m
  have htl := tri_le hmle
  have e5 : (ini 5).den I = I 1 := rfl
  have e6 : (ini 6).den I = 0 := rfl
  have e7 : (ini 7).den I = 5 := rfl
  have hmul : (m : Int) * ((m : Int) + 1) = 2 * (tri m : Int) := by
    rw [show ((m : Int) + 1) = ((m + 1 : Nat) : Int) by omega, ← Int.natCast_mul, ← ht]; omega
  have e200 : (ini 200).den I = (tri m : Int) := by
    show iop .quo .i64 (iop .mul .i64 (I 1) (iop .add .i64 (I 1) 1)) 2 = _
    rw [hm, add_i64 (by omega) (by omega), mul_i64 (by rw [hmul]; omega) (by rw [hmul]; omega), hmul]
    have hd : (2 * (tri m : Int)).tdiv 2 = tri m := by rw [Int.tdiv_eq_ediv_of_nonneg (by omega)]; omega
    rw [quo_i64 (by rw [hd]; omega) (by rw [hd]; omega), hd]
  have e201 : (ini 201).den I = 12 + 4 * (m : Int) := by
    show iop .add .i64 12 (iop .mul .i64 4 (I 1)) = _
    rw [hm, mul_i64 (by omega) (by omega), add_i64 (by omega) (by omega)]
  have hn : (I 1).toNat = m := by omega
  rw [hn]
  unfold Inv
  simp only [e5, e6, e7, e200, e201, hm]
  refine ⟨hmle, trivial, by omega, by omega, by omega, by omega, by omega, by omega⟩
end Go.Proofs.YteehdbbohjhnoaaGreatDoor.MachCounts
