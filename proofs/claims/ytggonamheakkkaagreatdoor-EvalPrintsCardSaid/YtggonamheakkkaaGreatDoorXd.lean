/-
  A run of closed code by the kernel: operations on numbers, strings, truths; comparisons.
-/
import Derived.Test.YtggonamheakkkaaGreatDoorXc
import Derived.Laws.Strings
import Derived.Laws.Strings2
import Derived.Laws.StructEq
import Derived.Laws.Bits
namespace Go.Xq
open Go.RowKit
set_option linter.unusedVariables false

/-! ### Numbers -/
noncomputable def kN : IntKind → Nat
  | .i8 => 0 | .i16 => 1 | .i32 => 2 | .i64 => 3 | .u8 => 4 | .u16 => 5 | .u32 => 6 | .u64 => 7

theorem kN_inj {a b : IntKind} (h : Nat.beq (kN a) (kN b) = true) : a = b := by
  have := Nat.eq_of_beq_eq_true h
  cases a <;> cases b <;> first | rfl | (simp [kN] at this)

noncomputable def eqI : Int → Int → Bool
  | .ofNat a, .ofNat b => Nat.beq a b
  | .negSucc a, .negSucc b => Nat.beq a b
  | _, _ => false

noncomputable def ltI : Int → Int → Bool
  | .ofNat a, .ofNat b => Nat.blt a b
  | .negSucc _, .ofNat _ => true
  | .ofNat _, .negSucc _ => false
  | .negSucc a, .negSucc b => Nat.blt b a

theorem nbeq (a b : Nat) : Nat.beq a b = decide (a = b) := by
  cases h : Nat.beq a b with
  | true => simp [Nat.eq_of_beq_eq_true h]
  | false => symm; rw [decide_eq_false_iff_not]; exact Nat.ne_of_beq_eq_false h

theorem nblt (a b : Nat) : Nat.blt a b = decide (a < b) := by
  cases h : Nat.blt a b with
  | true => symm; rw [decide_eq_true_eq]; simpa [Nat.blt_eq] using h
  | false => symm; rw [decide_eq_false_iff_not]; intro hlt; rw [← Nat.blt_eq, h] at hlt; cases hlt

theorem nble (a b : Nat) : Nat.ble a b = decide (a ≤ b) := by
  cases h : Nat.ble a b with
  | true => symm; rw [decide_eq_true_eq]; exact Nat.le_of_ble_eq_true h
  | false => symm; rw [decide_eq_false_iff_not]; intro hle; rw [Nat.ble_eq_true_of_le hle] at h; cases h

theorem eqI_eq (x y : Int) : eqI x y = decide (x = y) := by
  cases x <;> cases y <;> simp [eqI, nbeq] <;> omega

theorem ltI_eq (x y : Int) : ltI x y = decide (x < y) := by
  cases x <;> cases y <;> simp [ltI, nblt] <;> omega

noncomputable def icmpF (op : BinOp) (x y : Int) : Bool :=
  match op with
  | .eql => eqI x y
  | .neq => match eqI x y with | true => false | false => true
  | .lss => ltI x y
  | .leq => match ltI y x with | true => false | false => true
  | .gtr => ltI y x
  | .geq => match ltI x y with | true => false | false => true
  | _ => false

theorem icmpF_eq (op : BinOp) (x y : Int) : icmpF op x y = icmp op x y := by
  cases op <;> simp only [icmpF, icmp, eqI_eq, ltI_eq]
  · rw [Bool.eq_iff_iff]; simp
  · by_cases h : x = y <;> simp [h]
  · by_cases h : y < x
    · simp [h]
    · simp [h]; omega
  · by_cases h : x < y
    · simp [h]
    · simp [h]; omega

/-- A number is reckoned out. -/
noncomputable def forceN {α : Type} (n : Nat) (k : Nat → α) : α := match n with
  | 0 => k 0
  | m + 1 => k (Nat.succ m)

theorem forceN_eq {α : Type} (n : Nat) (k : Nat → α) : forceN n k = k n := by cases n <;> rfl

noncomputable def forceI {α : Type} (x : Int) (k : Int → α) : α := match x with
  | .ofNat n => forceN n fun n => k (.ofNat n)
  | .negSucc n => forceN n fun n => k (.negSucc n)

theorem forceI_eq {α : Type} (x : Int) (k : Int → α) : forceI x k = k x := by cases x <;> simp [forceI, forceN_eq]

noncomputable def wrapF (k : IntKind) (n : Int) : Int :=
  match k with
  | .i64 => match n with
    | .ofNat a => match Nat.blt a 9223372036854775808 with
      | true => .ofNat a
      | false => IntKind.i64.wrap n
    | .negSucc a => match Nat.blt a 9223372036854775808 with
      | true => .negSucc a
      | false => IntKind.i64.wrap n
  | k => k.wrap n

theorem wrapF_eq (k : IntKind) (n : Int) : wrapF k n = k.wrap n := by
  cases k with
  | i64 =>
    cases n with
    | ofNat a =>
      simp only [wrapF, nblt]
      by_cases h : a < 9223372036854775808
      · simp only [h, decide_true]
        rw [IntKind.wrap_i64]; simp only [Int.ofNat_eq_natCast]; omega
      · simp [h]
    | negSucc a =>
      simp only [wrapF, nblt]
      by_cases h : a < 9223372036854775808
      · simp only [h, decide_true]
        rw [IntKind.wrap_i64]; omega
      · simp [h]
  | _ => rfl

noncomputable def iopF (op : BinOp) (k : IntKind) (x y : Int) : Int :=
  match op with
  | .add => wrapF k (Int.add x y)
  | .sub => wrapF k (Int.sub x y)
  | .mul => wrapF k (Int.mul x y)
  | op => iop op k x y

theorem iopF_eq (op : BinOp) (k : IntKind) (x y : Int) : iopF op k x y = iop op k x y := by
  cases op <;> simp only [iopF, iop, wrapF_eq] <;> rfl

noncomputable def beqOp (a b : BinOp) : Bool := decide (a = b)

noncomputable def beqSI : SI → SI → Bool
  | .lit x, .lit y => eqI x y
  | .var i, .var j => Nat.beq i j
  | .bin o k a b, .bin o' k' a' b' => match beqOp o o' with
    | true => match Nat.beq (kN k) (kN k') with
      | true => match beqSI a a' with
        | true => beqSI b b'
        | false => false
      | false => false
    | false => false
  | .conv k a, .conv k' a' => match Nat.beq (kN k) (kN k') with
    | true => beqSI a a'
    | false => false
  | _, _ => false

theorem beqSI_eq : ∀ {a b : SI}, beqSI a b = true → a = b
  | .lit x, .lit y, h => by simp only [beqSI, eqI_eq, decide_eq_true_eq] at h; rw [h]
  | .var i, .var j, h => by rw [Nat.eq_of_beq_eq_true h]
  | .bin o k a b, .bin o' k' a' b', h => by
    simp only [beqSI] at h
    split at h
    case h_2 => cases h
    rename_i h1
    split at h
    case h_2 => cases h
    rename_i h2
    split at h
    case h_2 => cases h
    rename_i h3
    simp only [beqOp, decide_eq_true_eq] at h1
    rw [h1, kN_inj h2, beqSI_eq h3, beqSI_eq h]
  | .conv k a, .conv k' a', h => by
    simp only [beqSI] at h
    split at h
    case h_2 => cases h
    rename_i h2
    rw [kN_inj h2, beqSI_eq h]
  | .lit _, .var _, h => by simp [beqSI] at h
  | .lit _, .bin .., h => by simp [beqSI] at h
  | .lit _, .conv .., h => by simp [beqSI] at h
  | .var _, .lit _, h => by simp [beqSI] at h
  | .var _, .bin .., h => by simp [beqSI] at h
  | .var _, .conv .., h => by simp [beqSI] at h
  | .bin .., .lit _, h => by simp [beqSI] at h
  | .bin .., .var _, h => by simp [beqSI] at h
  | .bin .., .conv .., h => by simp [beqSI] at h
  | .conv .., .lit _, h => by simp [beqSI] at h
  | .conv .., .var _, h => by simp [beqSI] at h
  | .conv .., .bin .., h => by simp [beqSI] at h

/-- What is known of two numbers that have names. -/
noncomputable def look (op : BinOp) (a b : SI) : List Fact → Option Bool
  | [] => match beqSI a b with
    | true => match op with
      | .eql => some true
      | .leq => some true
      | .geq => some true
      | .neq => some false
      | .lss => some false
      | .gtr => some false
      | _ => none
    | false => none
  | f :: r => match beqOp f.op op with
    | true => match beqSI f.a a with
      | true => match beqSI f.b b with
        | true => some f.r
        | false => look op a b r
      | false => look op a b r
    | false => look op a b r

theorem look_ok {I : Nat → Int} {op : BinOp} {a b : SI} : ∀ {F : List Fact} {r : Bool}, FactsOk F I → look op a b F = some r → icmp op (a.den I) (b.den I) = r
  | [], r, _, h => by
    simp only [look] at h
    split at h
    case h_2 => cases h
    rename_i h1
    rw [beqSI_eq h1]
    cases op <;> simp at h <;> subst h <;> simp [icmp]
  | f :: F, r, hF, h => by
    have hr : FactsOk F I := fun g hg => hF g (List.mem_cons_of_mem _ hg)
    simp only [look] at h
    split at h
    case h_2 => exact look_ok hr h
    rename_i h1
    split at h
    case h_2 => exact look_ok hr h
    rename_i h2
    split at h
    case h_2 => exact look_ok hr h
    rename_i h3
    simp only [Option.some.injEq] at h
    simp only [beqOp, decide_eq_true_eq] at h1
    have := hF f (List.mem_cons_self)
    rw [h1, beqSI_eq h2, beqSI_eq h3, h] at this
    exact this

/-- A number that is known to be at most so much. -/
noncomputable def bndX (v : Nat) : List Fact → Option Nat
  | [] => none
  | f :: r => match f.op with
    | .leq => match f.a with
      | .var u => match Nat.beq u v with
        | true => match f.b with
          | .lit (.ofNat m) => match f.r with
            | true => some m
            | false => bndX v r
          | _ => bndX v r
        | false => bndX v r
      | _ => bndX v r
    | _ => bndX v r

theorem bndX_ok {I : Nat → Int} {v : Nat} : ∀ {F : List Fact} {m : Nat}, FactsOk F I → bndX v F = some m → I v ≤ (m : Int)
  | [], m, _, h => nomatch h
  | f :: r, m, hF, h => by
    have hr : FactsOk r I := fun g hg => hF g (List.mem_cons_of_mem _ hg)
    have h0 := hF f List.mem_cons_self
    simp only [bndX] at h
    split at h
    case h_2 => exact bndX_ok hr h
    rename_i e1
    split at h
    case h_2 => exact bndX_ok hr h
    rename_i u e2
    split at h
    case h_2 => exact bndX_ok hr h
    rename_i e3
    split at h
    case h_2 => exact bndX_ok hr h
    rename_i k e4
    split at h
    case h_2 => exact bndX_ok hr h
    rename_i e5
    cases h
    rw [e1, e2, e4, e5] at h0
    have e6 := Nat.eq_of_beq_eq_true e3
    subst e6
    exact of_decide_eq_true h0

/-- A comparison by what is known of a number's bounds. -/
noncomputable def rngX (F : List Fact) (op : BinOp) (a b : SI) : Option Bool := match op with
  | .geq => match b with
    | .lit (.ofNat n) => match a with
      | .bin .add k (.var v) (.lit (.ofNat c)) => match Nat.beq (kN k) (kN .i64) with
        | true => match bndX v F with
          | some m => match Nat.blt (Nat.add m c) n with
            | true => match Nat.ble n 1000000000000 with
              | true => match look .geq (.var v) (.lit (.ofNat 0)) F with
                | some true => some false
                | _ => none
              | false => none
            | false => none
          | none => none
        | false => none
      | .var v => match bndX v F with
        | some m => match Nat.blt m n with
          | true => some false
          | false => none
        | none => none
      | _ => none
    | _ => none
  | _ => none

theorem wrap_small {x : Int} (h0 : 0 ≤ x) (h1 : x ≤ 1000000000000) : IntKind.i64.wrap x = x := by
  have : IntKind.i64.wrap x = (if (true && decide (x % (2 ^ 64 : Int) ≥ (2 ^ 63 : Int))) = true then x % (2 ^ 64 : Int) - (2 ^ 64 : Int) else x % (2 ^ 64 : Int)) := rfl
  rw [this]
  simp only [Bool.true_and, decide_eq_true_eq]
  split <;> omega

theorem wrap_add (x c d : Int) : IntKind.i64.wrap (IntKind.i64.wrap (x + c) + d) = IntKind.i64.wrap (x + (c + d)) := by
  have h : ∀ x : Int, IntKind.i64.wrap x = (if (true && decide (x % (2 ^ 64 : Int) ≥ (2 ^ 63 : Int))) = true then x % (2 ^ 64 : Int) - (2 ^ 64 : Int) else x % (2 ^ 64 : Int)) := fun _ => rfl
  rw [h, h (x + (c + d)), h (x + c)]
  simp only [Bool.true_and, decide_eq_true_eq]
  split <;> split <;> split <;> omega

theorem rngX_ok {I : Nat → Int} {F : List Fact} {op : BinOp} {a b : SI} {r : Bool} (hF : FactsOk F I) (h : rngX F op a b = some r) : icmp op (a.den I) (b.den I) = r := by
  unfold rngX at h
  split at h
  case h_2 => cases h
  split at h
  case h_2 => cases h
  rename_i n
  split at h
  · rename_i k v c
    split at h
    case h_2 => cases h
    rename_i hk
    have hk' := kN_inj hk
    subst hk'
    split at h
    case h_2 => cases h
    rename_i m hm
    split at h
    case h_2 => cases h
    rename_i hlt
    split at h
    case h_2 => cases h
    rename_i hle
    split at h
    case h_2 => cases h
    rename_i h0
    cases h
    have b1 := bndX_ok hF hm
    have b2 := look_ok hF h0
    simp only [icmp, SI.den, ge_iff_le, decide_eq_true_eq] at b2
    have b3 : m + c < n := by rw [Nat.blt_eq] at hlt; exact hlt
    have b4 := Nat.le_of_ble_eq_true hle
    have b5 : (0 : Int) ≤ I v := b2
    show decide (IntKind.i64.wrap (I v + Int.ofNat c) ≥ Int.ofNat n) = false
    have e1 : Int.ofNat c = (c : Int) := rfl
    have e2 : Int.ofNat n = (n : Int) := rfl
    rw [e1, e2, wrap_small (by omega) (by omega), decide_eq_false_iff_not]
    omega
  · rename_i v
    split at h
    case h_2 => cases h
    rename_i m hm
    split at h
    case h_2 => cases h
    rename_i hlt
    cases h
    have b1 := bndX_ok hF hm
    have b3 : m < n := by rw [Nat.blt_eq] at hlt; exact hlt
    show decide (I v ≥ Int.ofNat n) = false
    have e2 : Int.ofNat n = (n : Int) := rfl
    rw [e2, decide_eq_false_iff_not]
    omega
  · cases h

noncomputable def cmpSI (F : List Fact) (op : BinOp) : SI → SI → Option Bool
  | .lit x, .lit y => some (icmpF op x y)
  | a, b => match look op a b F with
    | some r => some r
    | none => rngX F op a b

theorem cmpSI_ok {I : Nat → Int} {F : List Fact} {op : BinOp} {a b : SI} {r : Bool} (hF : FactsOk F I) (h : cmpSI F op a b = some r) : icmp op (a.den I) (b.den I) = r := by
  unfold cmpSI at h
  split at h
  · simp only [Option.some.injEq] at h; rw [← h, icmpF_eq]; rfl
  · split at h
    · rename_i hl
      cases h
      exact look_ok hF hl
    · exact rngX_ok hF h

/-- A sum; of a number whose bounds are known, with one number behind it. -/
noncomputable def addN (F : List Fact) (op : BinOp) (k : IntKind) (a b : SI) : SI := match op with
  | .add => match a with
    | .bin .add k' (.var v) (.lit (.ofNat c)) => match b with
      | .lit (.ofNat d) => match Nat.beq (kN k) (kN .i64) with
        | true => match Nat.beq (kN k') (kN .i64) with
          | true => match bndX v F with
            | some _ => forceN (Nat.add c d) fun m => .bin .add .i64 (.var v) (.lit (.ofNat m))
            | none => .bin op k a b
          | false => .bin op k a b
        | false => .bin op k a b
      | _ => .bin op k a b
    | _ => .bin op k a b
  | _ => .bin op k a b

theorem addN_den {I : Nat → Int} {F : List Fact} {op : BinOp} {k : IntKind} {a b : SI} : (addN F op k a b).den I = iop op k (a.den I) (b.den I) := by
  unfold addN
  split
  case h_2 => rfl
  split
  case h_2 => rfl
  rename_i k' v c
  split
  case h_2 => rfl
  rename_i d
  split
  case h_2 => rfl
  rename_i hk
  have hk1 := kN_inj hk
  subst hk1
  split
  case h_2 => rfl
  rename_i hk'
  have hk2 := kN_inj hk'
  subst hk2
  split
  case h_2 => rfl
  rw [forceN_eq]
  show IntKind.i64.wrap (I v + Int.ofNat (c + d)) = IntKind.i64.wrap (IntKind.i64.wrap (I v + Int.ofNat c) + Int.ofNat d)
  rw [wrap_add]
  rfl

noncomputable def isCmp : BinOp → Bool
  | .eql => true | .neq => true | .lss => true | .leq => true | .gtr => true | .geq => true
  | _ => false

/-- Two numbers of kinds k and yk. -/
noncomputable def xInt (F : List Fact) (op : BinOp) (k yk : IntKind) (a b : SI) : Option SV :=
  match op with
  | .shl => match b with
    | .lit (.ofNat n) => match a with
      | .lit x => some (forceI (iop .shl k x (.ofNat n)) fun n => .int k (.lit n))
      | a => some (.int k (.bin .shl k a b))
    | .conv ck _ => match Nat.beq (kN ck) (kN .u64) with
      | true => some (.int k (.bin .shl k a b))
      | false => none
    | _ => none
  | .shr => match b with
    | .lit (.ofNat n) => match a with
      | .lit x => some (forceI (iop .shr k x (.ofNat n)) fun n => .int k (.lit n))
      | a => some (.int k (.bin .shr k a b))
    | .conv ck _ => match Nat.beq (kN ck) (kN .u64) with
      | true => some (.int k (.bin .shr k a b))
      | false => none
    | _ => none
  | op => match Nat.beq (kN k) (kN yk) with
    | false => none
    | true => match isCmp op with
      | true => match cmpSI F op a b with
        | some r => some (.bool r)
        | none => none
      | false =>
        let bad := match op with
          | .quo => cmpSI F .eql b (.lit (.ofNat 0))
          | .rem => cmpSI F .eql b (.lit (.ofNat 0))
          | _ => some false
        match bad with
        | some false => match a with
          | .lit x => match b with
            | .lit y => some (forceI (iopF op k x y) fun n => .int k (.lit n))
            | b => some (.int k (.bin op k a b))
          | a => some (.int k (addN F op k a b))
        | _ => none

theorem run_intOp {P : Program} (w : World) (t : TypeId) (op : BinOp) (k : IntKind) (x y : Int) (h1 : isCmp op = false) (h2 : op ≠ .shl) (h3 : op ≠ .shr) (h4 : (op = .quo ∨ op = .rem) → y ≠ 0) :
    (binOp op t (.int k x) (.int k y)).run P w = .ok (.int k (iop op k x y)) w := by
  cases op <;> simp_all [binOp, isCmp, Op.intArith, Op.intBits, Op.intDiv, iop]

theorem run_intCmp {P : Program} (w : World) (t : TypeId) (op : BinOp) (k : IntKind) (x y : Int) (h1 : isCmp op = true) :
    (binOp op t (.int k x) (.int k y)).run P w = .ok (.bool (icmp op x y)) w := by
  cases op <;> simp_all [binOp, isCmp, Op.intCmp, icmp]

theorem wrap_u64_nonneg (x : Int) : 0 ≤ IntKind.u64.wrap x := by
  show 0 ≤ (if (false && decide (x % (2 ^ 64 : Int) ≥ (2 ^ 63 : Int))) = true then x % (2 ^ 64 : Int) - (2 ^ 64 : Int) else x % (2 ^ 64 : Int))
  rw [Bool.false_and, if_neg (by decide)]
  exact Int.emod_nonneg _ (by decide)

theorem xInt_ok {P : Program} {E : Env} {w : World} {F : List Fact} {op : BinOp} {t : TypeId} {k yk : IntKind} {a b : SI} {v : SV} (hF : FactsOk F E.ints) (h : xInt F op k yk a b = some v) :
    ∃ x, (binOp op t (.int k (a.den E.ints)) (.int yk (b.den E.ints))).run P w = .ok x w ∧ v.den E = some x := by
  unfold xInt at h
  split at h
  · split at h
    · rename_i n
      have hrun : (binOp .shl t (.int k (a.den E.ints)) (.int yk (.ofNat n))).run P w = .ok (.int k (iop .shl k (a.den E.ints) (.ofNat n))) w := by
        have : ¬ (Int.ofNat n < 0) := by simp
        simp only [binOp, Op.shift, this, if_false, iop, Sem.run_pure]
      split at h
      · simp only [Option.some.injEq] at h; subst h
        refine ⟨_, hrun, ?_⟩
        rw [forceI_eq]; rfl
      · simp only [Option.some.injEq] at h; subst h
        exact ⟨_, hrun, rfl⟩
    · rename_i ck e
      split at h
      case h_2 => cases h
      rename_i hck
      have hck' := kN_inj hck
      subst hck'
      have : ¬ ((SI.conv .u64 e).den E.ints < 0) := by
        have h0 := wrap_u64_nonneg (e.den E.ints)
        simp only [SI.den]; omega
      simp only [Option.some.injEq] at h; subst h
      exact ⟨_, by simp only [binOp, Op.shift, this, if_false, Sem.run_pure]; rfl, rfl⟩
    · cases h
  · split at h
    · rename_i n
      have hrun : (binOp .shr t (.int k (a.den E.ints)) (.int yk (.ofNat n))).run P w = .ok (.int k (iop .shr k (a.den E.ints) (.ofNat n))) w := by
        have : ¬ (Int.ofNat n < 0) := by simp
        simp only [binOp, Op.shift, this, if_false, iop, Sem.run_pure]
      split at h
      · simp only [Option.some.injEq] at h; subst h
        refine ⟨_, hrun, ?_⟩
        rw [forceI_eq]; rfl
      · simp only [Option.some.injEq] at h; subst h
        exact ⟨_, hrun, rfl⟩
    · rename_i ck e
      split at h
      case h_2 => cases h
      rename_i hck
      have hck' := kN_inj hck
      subst hck'
      have : ¬ ((SI.conv .u64 e).den E.ints < 0) := by
        have h0 := wrap_u64_nonneg (e.den E.ints)
        simp only [SI.den]; omega
      simp only [Option.some.injEq] at h; subst h
      exact ⟨_, by simp only [binOp, Op.shift, this, if_false, Sem.run_pure]; rfl, rfl⟩
    · cases h
  · rename_i hs1 hs2
    split at h
    · cases h
    rename_i hk
    have hk' := kN_inj hk
    subst hk'
    split at h
    · rename_i hc
      split at h
      case h_2 => cases h
      rename_i r hr
      simp only [Option.some.injEq] at h; subst h
      exact ⟨_, run_intCmp w t op k _ _ hc, by rw [cmpSI_ok hF hr]; rfl⟩
    · rename_i hc
      simp only at h
      split at h
      case h_2 => cases h
      rename_i hbad
      have h4 : (op = .quo ∨ op = .rem) → b.den E.ints ≠ 0 := by
        rintro (rfl | rfl) <;>
        · have := cmpSI_ok hF hbad
          simpa [icmp, SI.den] using this
      have hrun := run_intOp (P := P) w t op k (a.den E.ints) (b.den E.ints) hc hs1 hs2 h4
      split at h
      · split at h
        · simp only [Option.some.injEq] at h; subst h
          refine ⟨_, hrun, ?_⟩
          rw [forceI_eq, iopF_eq]; rfl
        · simp only [Option.some.injEq] at h; subst h
          exact ⟨_, hrun, rfl⟩
      · simp only [Option.some.injEq] at h; subst h
        exact ⟨_, hrun, by simp only [SV.den, addN_den]⟩

/-! ### Strings -/
noncomputable def beqB : List UInt8 → List UInt8 → Bool
  | [], [] => true
  | a :: x, b :: y => match Nat.beq a.toNat b.toNat with
    | true => beqB x y
    | false => false
  | _, _ => false

theorem beqB_eq : ∀ (x y : List UInt8), beqB x y = (x == y)
  | [], [] => rfl
  | [], b :: y => rfl
  | a :: x, [] => rfl
  | a :: x, b :: y => by
    simp only [beqB, nbeq, beqB_eq x y]
    by_cases h : a.toNat = b.toNat
    · have := UInt8.toNat_inj.1 h
      subst this; simp
    · have : ¬ a = b := fun e => h (by rw [e])
      simp [h, this]

noncomputable def ltB : List UInt8 → List UInt8 → Bool
  | _, [] => false
  | [], _ :: _ => true
  | a :: x, b :: y => match Nat.blt a.toNat b.toNat with
    | true => true
    | false => match Nat.beq a.toNat b.toNat with
      | true => ltB x y
      | false => false

theorem ltB_eq : ∀ (x y : List UInt8), ltB x y = Op.bytesLess x y
  | x, [] => by cases x <;> rfl
  | [], b :: y => rfl
  | a :: x, b :: y => by
    simp only [ltB, Op.bytesLess, nblt, nbeq, ltB_eq x y]
    by_cases h : a.toNat < b.toNat
    · have : a < b := UInt8.lt_iff_toNat_lt.2 h
      simp [h, this]
    · have h' : ¬ a < b := fun e => h (UInt8.lt_iff_toNat_lt.1 e)
      by_cases h2 : a.toNat = b.toNat
      · have := UInt8.toNat_inj.1 h2
        subst this; simp
      · have : ¬ a = b := fun e => h2 (by rw [e])
        simp [h, h', h2, this]

noncomputable def notB : Bool → Bool
  | true => false
  | false => true

noncomputable def xStr (op : BinOp) (x y : List UInt8) : Option SV :=
  match op with
  | .add => match Nat.ble (Nat.add x.length y.length) 9223372036854775807 with
    | true => some (.str (x ++ y))
    | false => none
  | .eql => some (.bool (beqB x y))
  | .neq => some (.bool (notB (beqB x y)))
  | .lss => some (.bool (ltB x y))
  | .gtr => match ltB x y with
    | true => some (.bool false)
    | false => some (.bool (notB (beqB x y)))
  | .leq => match ltB x y with
    | true => some (.bool true)
    | false => some (.bool (beqB x y))
  | .geq => some (.bool (notB (ltB x y)))
  | _ => none

theorem size_mk (l : List UInt8) : (ByteArray.mk l.toArray).size = l.length := by simp [ByteArray.size]

theorem append_mk (x y : List UInt8) : (ByteArray.mk x.toArray) ++ (ByteArray.mk y.toArray) = ByteArray.mk (x ++ y).toArray := by
  apply ByteArray.ext
  simp

theorem xStr_ok {P : Program} {E : Env} {w : World} {op : BinOp} {t : TypeId} {x y : List UInt8} {v : SV} (h : xStr op x y = some v) :
    ∃ u, (binOp op t (.string ⟨x.toArray⟩) (.string ⟨y.toArray⟩)).run P w = .ok u w ∧ v.den E = some u := by
  cases op <;> simp only [xStr] at h <;> try (cases h; done)
  · split at h
    case h_2 => cases h
    rename_i hl
    simp only [Option.some.injEq] at h; subst h
    have := Nat.le_of_ble_eq_true hl
    have hl' : x.length + y.length ≤ 9223372036854775807 := this
    refine ⟨.string ⟨(x ++ y).toArray⟩, ?_, rfl⟩
    have hn : ¬ (((x.length + y.length : Nat) : Int) > 9223372036854775807) := by omega
    simp only [binOp, Op.stringOp, size_mk, IntKind.max_i64, hn, if_false, append_mk, Sem.run_pure]
  · cases h; exact ⟨_, by simp only [binOp, Op.stringOp, Sem.run_pure]; rfl, by simp [SV.den, beqB_eq]⟩
  · cases h; refine ⟨_, by simp only [binOp, Op.stringOp, Sem.run_pure]; rfl, ?_⟩; simp only [SV.den, beqB_eq, ByteArray.toList_mk, Option.some.injEq, Value.bool.injEq]; cases (x == y) <;> rfl
  · cases h; exact ⟨_, by simp only [binOp, Op.stringOp, Sem.run_pure]; rfl, by simp [SV.den, ltB_eq]⟩
  · refine ⟨_, by simp only [binOp, Op.stringOp, Sem.run_pure]; rfl, ?_⟩
    simp only [ltB_eq, beqB_eq] at h
    simp only [ByteArray.toList_mk]
    cases hb : Op.bytesLess x y <;> rw [hb] at h <;> simp only [Option.some.injEq] at h <;> subst h <;> simp [SV.den]
  · refine ⟨_, by simp only [binOp, Op.stringOp, Sem.run_pure]; rfl, ?_⟩
    simp only [ltB_eq, beqB_eq] at h
    simp only [ByteArray.toList_mk]
    cases hb : Op.bytesLess x y <;> rw [hb] at h <;> simp only [Option.some.injEq] at h <;> subst h <;> simp [SV.den]
    cases (x == y) <;> rfl
  · cases h; refine ⟨_, by simp only [binOp, Op.stringOp, Sem.run_pure]; rfl, ?_⟩; simp only [SV.den, ltB_eq, ByteArray.toList_mk, Option.some.injEq, Value.bool.injEq]; cases Op.bytesLess x y <;> rfl
end Go.Xq
