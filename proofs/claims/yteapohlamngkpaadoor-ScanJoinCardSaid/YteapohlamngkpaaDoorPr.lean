/-
  Values of a program as plain data: how a plain form is reckoned out; a program as a context.
-/
import Derived.Test.YteapohlamngkpaaDoorPq
import Derived.KernelRfl
namespace Go.Pv
open Go.RowKit
set_option linter.unusedVariables false

/-! ### Reckoning -/
section
variable {C : Cx} {g : Rg} {K : Kt} {st : St}

theorem pw_skip : pw C .skip K st = K .normal st := rfl
theorem pw_reg (rt : Rt) : pw C (.reg rt) K st = regW C rt (K .normal) (panK K) st := rfl
theorem pw_seq (a b : PC) : pw C (.seq a b) K st = pw C a (Kseq (pw C b K) K) st := rfl
def condM (o : Option PV) (y n : St → Prop) (st : St) : Prop := match o with
  | some (.bool c) => gsplit c (cbr y n st)
  | _ => False
theorem condM_bool (c : Bool) (y n : St → Prop) : condM (some (.bool c)) y n st = gsplit c (cbr y n st) := rfl
theorem pw_cond (x : X) (a b : PC) : pw C (.cond x a b) K st = condM (condV st.fr x) (pw C a K) (pw C b K) st := by
  simp only [pw, condM]
  split <;> split <;> simp_all
theorem pw_blk (id : Nat) (b : PC) : pw C (.blk id b) K st = pw C b (Kblk id K) st := rfl
def loopM (o : Option (List PV)) (live : List Nat) (B : Kt → St → Prop) (K : Kt) (s : Hs) : Prop := match o with
  | some vs => LoopV live B K vs s
  | none => False
theorem loopM_some (vs : List PV) (live : List Nat) (B : Kt → St → Prop) (s : Hs) : loopM (some vs) live B K s = LoopV live B K vs s := rfl
theorem pw_loop (live : List Nat) (b : PC) : pw C (.loop live b) K st = loopM (getF st.fr live) live (pw C b) K st.s := by
  simp only [pw, loopM]
  split <;> rename_i h <;> simp only [h]
theorem pw_exit (id : Nat) : pw C (.exit id) K st = K (.exit id) st := rfl
theorem pw_ret : pw C .ret K st = K .ret st := rfl

theorem Kseq_n (n : St → Prop) : Kseq n K .normal st = n st := rfl
theorem Kseq_e (n : St → Prop) (i : Nat) : Kseq n K (.exit i) st = K (.exit i) st := rfl
theorem Kseq_r (n : St → Prop) : Kseq n K .ret st = K .ret st := rfl
theorem Kseq_p (n : St → Prop) (v : PV) : Kseq n K (.pan v) st = K (.pan v) st := rfl
theorem Kblk_n (id : Nat) : Kblk id K .normal st = K .normal st := rfl
theorem Kblk_same (id : Nat) : Kblk id K (.exit id) st = K .normal st := by simp [Kblk]
theorem Kblk_e (id i : Nat) (h : (i = id) = False) : Kblk id K (.exit i) st = K (.exit i) st := by
  simp only [Kblk, h, if_false]
theorem Kblk_r (id : Nat) : Kblk id K .ret st = K .ret st := rfl
theorem Kblk_p (id : Nat) (v : PV) : Kblk id K (.pan v) st = K (.pan v) st := rfl
def loopN (o : Option (List PV)) (I : List PV → Hs → Prop) (s : Hs) : Prop := match o with
  | some vs => LoopI I vs s
  | none => False
theorem loopN_some (vs : List PV) (I : List PV → Hs → Prop) (s : Hs) : loopN (some vs) I s = LoopI I vs s := rfl
theorem Kloop_n (live : List Nat) (I : List PV → Hs → Prop) : Kloop live I K .normal st = loopN (getF st.fr live) I st.s := by
  simp only [Kloop, loopN]
  split <;> rename_i h <;> simp only [h]
theorem Kloop_e (live : List Nat) (I : List PV → Hs → Prop) (i : Nat) : Kloop live I K (.exit i) st = K (.exit i) st := rfl
theorem Kloop_r (live : List Nat) (I : List PV → Hs → Prop) : Kloop live I K .ret st = K .ret st := rfl
theorem Kloop_p (live : List Nat) (I : List PV → Hs → Prop) (v : PV) : Kloop live I K (.pan v) st = K (.pan v) st := rfl
theorem panK_eq (v : PV) (s : Hs) : panK K v s = K (.pan v) ⟨fun _ => none, s⟩ := rfl
theorem cbr_t (y n : St → Prop) : cbr y n st true = y st := rfl
theorem cbr_f (y n : St → Prop) : cbr y n st false = n st := rfl

theorem getF_nil (fr : Nat → Option PV) : getF fr [] = some [] := rfl
def consO (o : Option PV) (l : Option (List PV)) : Option (List PV) := match o with
  | some v => match l with
    | some l => some (v :: l)
    | none => none
  | none => none
theorem consO_some (v : PV) (l : List PV) : consO (some v) (some l) = some (v :: l) := rfl
theorem getF_cons (fr : Nat → Option PV) (s : Nat) (r : List Nat) : getF fr (s :: r) = consO (fr s) (getF fr r) := by
  simp only [getF, consO]
  cases fr s <;> cases getF fr r <;> rfl
theorem mkF_nil (vs : List PV) : mkF [] vs = fun _ => none := rfl
theorem mkF_cons (s : Nat) (r : List Nat) (v : PV) (vs : List PV) : mkF (s :: r) (v :: vs) = hset (mkF r vs) s (some v) := rfl
theorem hset_get {α : Type} (H : Nat → Option α) (i : Nat) (o : Option α) (j : Nat) : hset H i o j = if j = i then o else H j := rfl
theorem tset_get (tm : Nat → Tm) (i : Nat) (t : Tm) (j : Nat) : tset tm i t j = if j = i then t else tm j := rfl

theorem regW_eq (na : Nat) (al : List Nat) (nn : Nat) (pres : List (List Nat)) (ss : List Step) (outs : List (Nat × Nat)) (k : St → Prop) (kp : PV → Hs → Prop) (fr : Nat → Option PV) (H : Nat → Option AO) (T : Nat → Option Nat) (n m : Nat) :
    regW C ⟨na, al, nn, pres, ss, outs⟩ k kp ⟨fr, ⟨H, T, n, m⟩⟩ = rgw C ⟨fr, n, m, m + na⟩ ss (outK ⟨na, al, nn, pres, [], outs⟩ ⟨fr, n, m, m + na⟩ al k) kp ⟨fun _ => .no, fun _ => none, ⟨H, nilT (m + na) nn T, n + na, m + na + nn⟩⟩ := rfl
theorem regW_eq' (na : Nat) (al : List Nat) (nn : Nat) (pres : List (List Nat)) (ss : List Step) (outs : List (Nat × Nat)) (k : St → Prop) (kp : PV → Hs → Prop) (fr : Nat → Option PV) (s : Hs) :
    regW C ⟨na, al, nn, pres, ss, outs⟩ k kp ⟨fr, s⟩ = rgw C ⟨fr, s.n, s.m, s.m + na⟩ ss (outK ⟨na, al, nn, pres, [], outs⟩ ⟨fr, s.n, s.m, s.m + na⟩ al k) kp ⟨fun _ => .no, fun _ => none, ⟨s.H, nilT (s.m + na) nn s.T, s.n + na, s.m + na + nn⟩⟩ := rfl
/-- Where nothing is new. -/
theorem regW_old (pres : List (List Nat)) (ss : List Step) (outs : List (Nat × Nat)) (k : St → Prop) (kp : PV → Hs → Prop) (fr : Nat → Option PV) (s : Hs) :
    regW C ⟨0, [], 0, pres, ss, outs⟩ k kp ⟨fr, s⟩ = rgw C ⟨fr, s.n, s.m, s.m⟩ ss (outK ⟨0, [], 0, pres, [], outs⟩ ⟨fr, s.n, s.m, s.m⟩ [] k) kp ⟨fun _ => .no, fun _ => none, s⟩ := rfl
theorem nilT_0 (m1 : Nat) (T : Nat → Option Nat) : nilT m1 0 T = T := rfl
theorem nilT_1 (m1 r : Nat) (T : Nat → Option Nat) : nilT m1 (r + 1) T = hset (nilT m1 r T) (m1 + r) (some 0) := rfl

def outM (o : Option (Nat → Option PV)) (s : Hs) (k : St → Prop) : Prop := match o with
  | some fr => k ⟨fr, s⟩
  | none => False
theorem outM_some (fr : Nat → Option PV) (s : Hs) (k : St → Prop) : outM (some fr) s k = k ⟨fr, s⟩ := rfl
theorem outK_eq (na : Nat) (al' : List Nat) (nn : Nat) (pres : List (List Nat)) (ss : List Step) (outs : List (Nat × Nat)) (al : List Nat) (k : St → Prop) (tm : Nat → Tm) (pd : Nat → Option Nd) (s : Hs) :
    outK ⟨na, al', nn, pres, ss, outs⟩ g al k ⟨tm, pd, s⟩ = outM (outsP tm outs g.fr) (addL g al pd s) k := by
  simp only [outK, outM]
  split <;> rename_i h <;> simp only [h]
theorem outsP_nil (tm : Nat → Tm) (fr : Nat → Option PV) : outsP tm [] fr = some fr := rfl
def outT (t : Tm) (d : Nat) (tm : Nat → Tm) (r : List (Nat × Nat)) (fr : Nat → Option PV) : Option (Nat → Option PV) := match t with
  | .val v => outsP tm r (hset fr d (some v))
  | _ => none
theorem outT_val (v : PV) (d : Nat) (tm : Nat → Tm) (r : List (Nat × Nat)) (fr : Nat → Option PV) : outT (.val v) d tm r fr = outsP tm r (hset fr d (some v)) := rfl
theorem outsP_cons (tm : Nat → Tm) (d j : Nat) (r : List (Nat × Nat)) (fr : Nat → Option PV) : outsP tm ((d, j) :: r) fr = outT (tm j) d tm r fr := by
  cases h : tm j <;> simp only [outsP, outT, h]

theorem rgw_nil (k : RS → Prop) (kp : PV → Hs → Prop) (rs : RS) : rgw C g [] k kp rs = k rs := rfl
theorem rgw_cons (i : Nat) (gd : Option (Nat × Bool)) (w : What) (L : List Step) (k : RS → Prop) (kp : PV → Hs → Prop) (rs : RS) :
    rgw C g (⟨i, gd, w⟩ :: L) k kp rs = guardP gd (doW C g i w (rgw C g L k kp) kp) (skipK i (rgw C g L k kp)) rs := rfl
theorem guardP_none (y n : RS → Prop) (rs : RS) : guardP none y n rs = y rs := rfl
def gM (t : Tm) (j : Nat) (b : Bool) (y n : RS → Prop) (rs : RS) : Prop := match t with
  | .val (.bool c) => gsplit c (gbr j b y n rs)
  | .skip => n rs
  | _ => False
theorem gM_bool (c : Bool) (j : Nat) (b : Bool) (y n : RS → Prop) (rs : RS) : gM (.val (.bool c)) j b y n rs = gsplit c (gbr j b y n rs) := rfl
theorem gM_skip (j : Nat) (b : Bool) (y n : RS → Prop) (rs : RS) : gM .skip j b y n rs = n rs := rfl
theorem guardP_some (j : Nat) (b : Bool) (y n : RS → Prop) (tm : Nat → Tm) (pd : Nat → Option Nd) (s : Hs) : guardP (some (j, b)) y n ⟨tm, pd, s⟩ = gM (tm j) j b y n ⟨tm, pd, s⟩ := by
  simp only [guardP, gM]
  split <;> split <;> simp_all
theorem gbr_tt (j : Nat) (y n : RS → Prop) (rs : RS) : gbr j true y n rs true = y (rs.put j (.val (.bool true))) := rfl
theorem gbr_ff (j : Nat) (y n : RS → Prop) (rs : RS) : gbr j false y n rs false = y (rs.put j (.val (.bool false))) := rfl
theorem gbr_tf (j : Nat) (y n : RS → Prop) (rs : RS) : gbr j true y n rs false = n (rs.put j (.val (.bool false))) := rfl
theorem gbr_ft (j : Nat) (y n : RS → Prop) (rs : RS) : gbr j false y n rs true = n (rs.put j (.val (.bool true))) := rfl
theorem put_eq (tm : Nat → Tm) (pd : Nat → Option Nd) (s : Hs) (i : Nat) (t : Tm) : RS.put ⟨tm, pd, s⟩ i t = ⟨tset tm i t, pd, s⟩ := rfl
theorem skipK_eq (i : Nat) (k : RS → Prop) (tm : Nat → Tm) (pd : Nat → Option Nd) (s : Hs) : skipK i k ⟨tm, pd, s⟩ = k ⟨tset tm i .skip, pd, s⟩ := rfl

def qM (e : Ev) (i : Nat) (k : RS → Prop) (rs : RS) : Prop := match e with
  | some (ob, v) => ob ∧ k ⟨tset rs.tm i (.val v), rs.pd, rs.s⟩
  | none => False
theorem qM_some (ob : Prop) (v : PV) (i : Nat) (k : RS → Prop) (tm : Nat → Tm) (pd : Nat → Option Nd) (s : Hs) : qM (some (ob, v)) i k ⟨tm, pd, s⟩ = (ob ∧ k ⟨tset tm i (.val v), pd, s⟩) := rfl
theorem doW_q (i : Nat) (see : List Nat) (q : Q) (k : RS → Prop) (kp : PV → Hs → Prop) (tm : Nat → Tm) (pd : Nat → Option Nd) (s : Hs) :
    doW C g i (.q see q) k kp ⟨tm, pd, s⟩ = qM (evalQ (lkR C g tm) (addL g see pd s).H q) i k ⟨tm, pd, s⟩ := by
  simp only [doW, doS, qM]
  split <;> rename_i h <;> simp only [h]
def aM (e : EvA) (i r : Nat) (k : RS → Prop) (rs : RS) : Prop := match e with
  | some (ob, v, nd) => ob ∧ k ⟨tset rs.tm i (.val v), hset rs.pd r (some nd), rs.s⟩
  | none => False
theorem aM_some (ob : Prop) (v : PV) (nd : Nd) (i r : Nat) (k : RS → Prop) (tm : Nat → Tm) (pd : Nat → Option Nd) (s : Hs) : aM (some (ob, v, nd)) i r k ⟨tm, pd, s⟩ = (ob ∧ k ⟨tset tm i (.val v), hset pd r (some nd), s⟩) := rfl
theorem doW_a (i r : Nat) (a : A) (k : RS → Prop) (kp : PV → Hs → Prop) (tm : Nat → Tm) (pd : Nat → Option Nd) (s : Hs) :
    doW C g i (.a r a) k kp ⟨tm, pd, s⟩ = aM (evalA (lkR C g tm) (g.n0 + r) (g.m0 + r) a) i r k ⟨tm, pd, s⟩ := by
  simp only [doW, doS, aM]
  split <;> rename_i h <;> simp only [h]
theorem doW_w (i : Nat) (see : List Nat) (w : W) (re : List (Nat × List Nat × Q)) (k : RS → Prop) (kp : PV → Hs → Prop) (tm : Nat → Tm) (pd : Nat → Option Nd) (s : Hs) :
    doW C g i (.w see w re) k kp ⟨tm, pd, s⟩ = evalW C (lkR C g tm) (addL g see pd s) (afterW C g i see re k kp ⟨tm, pd, s⟩) w := rfl
theorem afterW_ret (i : Nat) (see : List Nat) (re : List (Nat × List Nat × Q)) (k : RS → Prop) (kp : PV → Hs → Prop) (tm : Nat → Tm) (pd : Nat → Option Nd) (s : Hs) (v : PV) (s' : Hs) :
    afterW C g i see re k kp ⟨tm, pd, s⟩ (.ret v) s' = (reP C g tm (clrL see pd) s' re ∧ k ⟨tset tm i (.val v), clrL see pd, s'⟩) := rfl
theorem afterW_pan (i : Nat) (see : List Nat) (re : List (Nat × List Nat × Q)) (k : RS → Prop) (kp : PV → Hs → Prop) (rs : RS) (v : PV) (s' : Hs) :
    afterW C g i see re k kp rs (.pan v) s' = kp v s' := rfl
theorem reP_nil (tm : Nat → Tm) (pd : Nat → Option Nd) (s : Hs) : reP C g tm pd s [] = True := rfl
def reM (t : Tm) (e : Ev) : Prop := match t with
  | .val v0 => match e with
    | some (ob, v) => ob ∧ v = v0
    | none => False
  | _ => True
theorem reM_val (v0 : PV) (ob : Prop) (v : PV) : reM (.val v0) (some (ob, v)) = (ob ∧ v = v0) := rfl
theorem reM_skip (e : Ev) : reM .skip e = True := rfl
theorem reP_cons (tm : Nat → Tm) (pd : Nat → Option Nd) (s : Hs) (j : Nat) (see : List Nat) (q : Q) (r : List (Nat × List Nat × Q)) : reP C g tm pd s ((j, see, q) :: r) = (reM (tm j) (evalQ (lkR C g tm) (addL g see pd s).H q) ∧ reP C g tm pd s r) := by
  cases h : tm j <;> cases h2 : evalQ (lkR C g tm) (addL g see pd s).H q <;> simp only [reP, reM, h, h2]

theorem addL_nil (pd : Nat → Option Nd) (s : Hs) : addL g [] pd s = s := rfl
theorem addL_cons (r : Nat) (l : List Nat) (pd : Nat → Option Nd) (s : Hs) : addL g (r :: l) pd s = addL g l pd (addO g r (pd r) s) := rfl
theorem addO_none (r : Nat) (s : Hs) : addO g r none s = s := rfl
theorem addO_o (r : Nat) (ao : AO) (s : Hs) : addO g r (some (.o ao)) s = ⟨hset s.H (g.n0 + r) (some ao), s.T, s.n, s.m⟩ := rfl
theorem addO_t (r : Nat) (n : Nat) (s : Hs) : addO g r (some (.t n)) s = ⟨s.H, hset s.T (g.m0 + r) (some n), s.n, s.m⟩ := rfl
theorem addO_z (r : Nat) (s : Hs) : addO g r (some .z) s = s := rfl
theorem clrL_nil (pd : Nat → Option Nd) : clrL [] pd = pd := rfl
theorem clrL_cons (r : Nat) (l : List Nat) (pd : Nat → Option Nd) : clrL (r :: l) pd = clrL l (hset pd r none) := rfl

theorem lkR_c (tm : Nat → Tm) (v : PV) : lkR C g tm (.c v) = some v := rfl
theorem lkR_nl (tm : Nat → Tm) (sz r : Nat) : lkR C g tm (.nl sz r) = some (.lst sz [] (some (g.m1 + r))) := rfl
theorem lkR_v (tm : Nat → Tm) (s : Nat) : lkR C g tm (.v s) = g.fr s := rfl
def tmV : Tm → Option PV
  | .val v => some v
  | _ => none
theorem tmV_val (v : PV) : tmV (.val v) = some v := rfl
theorem lkR_t (tm : Nat → Tm) (j : Nat) : lkR C g tm (.t j) = tmV (tm j) := by
  cases h : tm j <;> simp only [lkR, tmV, h]
def fgO : Option PV → Option PV
  | some v => some (fgt v)
  | none => none
theorem fgO_some (v : PV) : fgO (some v) = some (fgt v) := rfl
theorem lkR_vf (tm : Nat → Tm) (s : Nat) : lkR C g tm (.vf s) = fgO (g.fr s) := by
  cases h : g.fr s <;> simp only [lkR, fgO, h]
theorem lkR_tf (tm : Nat → Tm) (j : Nat) : lkR C g tm (.tf j) = fgO (tmV (tm j)) := by
  cases h : tm j <;> simp only [lkR, fgO, tmV, h]
theorem lkR_g (tm : Nat → Tm) (i : Nat) : lkR C g tm (.g i) = (C.glob i).map .rp := by
  simp only [lkR]
  cases C.glob i <;> rfl

theorem onP_s (v : PV) (f : PV → Prop) : onP (some v) f = f v := rfl
theorem onPL_n (f : List PV → Prop) : onPL [] f = f [] := rfl
theorem onPL_c (v : PV) (r : List (Option PV)) (f : List PV → Prop) : onPL (some v :: r) f = onPL r fun l => f (v :: l) := rfl
theorem onL_n (f : List PV → Ev) : onL [] f = f [] := rfl
theorem onL_c (v : PV) (r : List (Option PV)) (f : List PV → Ev) : onL (some v :: r) f = onL r fun l => f (v :: l) := rfl
theorem onAL_n (f : List PV → EvA) : onAL [] f = f [] := rfl
theorem onAL_c (v : PV) (r : List (Option PV)) (f : List PV → EvA) : onAL (some v :: r) f = onAL r fun l => f (v :: l) := rfl
theorem onA_s (v : PV) (f : PV → EvA) : onA (some v) f = f v := rfl
theorem onO_n (f : Option PV → Ev) : onO none f = f none := rfl
theorem onO_s (v : PV) (f : Option PV → Ev) : onO (some (some v)) f = f (some v) := rfl
theorem endM (rs : List RV) (k : Out → Hs → Prop) : finK rs k .ret st = endK rs k st := rfl
theorem endM2 (rs : List RV) (k : Out → Hs → Prop) : finK rs k .normal st = endK rs k st := rfl
theorem endM3 (rs : List RV) (k : Out → Hs → Prop) (v : PV) : finK rs k (.pan v) st = k (.pan v) st.s := rfl
def endV (e : Option (Prop × List PV)) (k : Out → Hs → Prop) (s : Hs) : Prop := match e with
  | some (ob, l) => ob ∧ k (.ret (oneOf l)) s
  | none => False
theorem endV_some (ob : Prop) (l : List PV) (k : Out → Hs → Prop) (s : Hs) : endV (some (ob, l)) k s = (ob ∧ k (.ret (oneOf l)) s) := rfl
theorem endK_eq (rs : List RV) (k : Out → Hs → Prop) : endK rs k st = endV (resL st rs) k st.s := by
  cases h : resL st rs <;> simp only [endK, endV, h]
theorem resL_n : resL st [] = some (True, []) := rfl
def consR (o : Option PV) (e : Option (Prop × List PV)) : Option (Prop × List PV) := match o with
  | some v => match e with
    | some (ob, l) => some (ob, v :: l)
    | none => none
  | none => none
theorem consR_some (v : PV) (ob : Prop) (l : List PV) : consR (some v) (some (ob, l)) = some (ob, v :: l) := rfl
theorem resL_t (k : Nat) (r : List RV) : resL st (.t k :: r) = consR (st.fr k) (resL st r) := by
  cases h : st.fr k <;> cases h2 : resL st r <;> simp only [resL, consR, h, h2]
theorem oneOf_1 (v : PV) : oneOf [v] = v := rfl
theorem oneOf_0 : oneOf [] = .tup [] := rfl
theorem oneOf_2 (u v : PV) (l : List PV) : oneOf (u :: v :: l) = .tup (u :: v :: l) := rfl
end

attribute [go_sem] pw_skip pw_reg pw_seq condM_bool pw_cond pw_blk loopM_some pw_loop pw_exit pw_ret Kseq_n Kseq_e Kseq_r Kseq_p Kblk_n Kblk_same Kblk_e Kblk_r Kblk_p loopN_some Kloop_n Kloop_e Kloop_r Kloop_p panK_eq cbr_t cbr_f
  getF_nil consO_some getF_cons mkF_nil mkF_cons hset_get tset_get nilT_0 nilT_1 outM_some outK_eq outsP_nil outT_val outsP_cons rgw_nil rgw_cons guardP_none gM_bool gM_skip guardP_some gbr_tt gbr_ff gbr_tf gbr_ft put_eq skipK_eq
  qM_some doW_q aM_some doW_a doW_w afterW_ret afterW_pan reP_nil reM_val reM_skip reP_cons addL_nil addL_cons addO_none addO_o addO_t addO_z clrL_nil clrL_cons lkR_c lkR_nl lkR_v tmV_val lkR_t fgO_some lkR_vf lkR_tf
  onP_s onPL_n onPL_c onL_n onL_c onAL_n onAL_c onA_s onO_n onO_s on1_some endM endM2 endM3 endV_some endK_eq resL_n consR_some resL_t oneOf_1 oneOf_0 oneOf_2 condV gsplit_true gsplit_false
  aggEq PlainK KD.ok evalEqa evalQ evalA evalW evalInt evalStr evalBin evalEq evalUn evalLd evalFa evalFld evalIa evalIdxs evalIdx bndI evalSlc evalSlcs evalLen evalTa appP nxtP srcOf eqKindP fgt Shape ShapeL Shapes Ones OnesL cellsP putP fillP fillE true_and and_true List.getElem?_cons_succ List.getElem?_cons_zero List.nil_append List.append_nil List.cons_append List.length_map List.map_cons List.map_nil
  List.length_cons List.length_nil List.zip_cons_cons List.zip_nil_right List.zip_nil_left List.set_cons_zero List.set_cons_succ List.drop_zero List.drop_succ_cons List.take_succ_cons List.take_zero List.drop_nil List.take_nil List.headD_cons List.head?_cons
  Out.ret.injEq PV.bool.injEq PV.int.injEq PV.str.injEq PV.tup.injEq List.cons.injEq Option.getD_some Option.getD_none Nat.zero_add Nat.add_zero Int.toNat_natCast Option.map_some Option.map_none List.replicate_succ List.replicate_zero decide_true decide_false byteP Bool.not_true Bool.not_false

/-! ### A program -/
/-- A type, as it is and as what it is declared. -/
def tiOf (types : List TypeInfo) (i : TypeInfo) : Option TI := match i.desc with
  | .named _ u => match types[u]? with
    | some j => some ⟨j.desc, i⟩
    | none => none
  | d => some ⟨d, i⟩

def cxOf (P : Program) (sok : List Nat) (glob : Nat → Option (List PV)) : Cx :=
  ⟨P, fun f => P.funcs.toList[f]?, fun t => match P.types.toList[t]? with | some i => tiOf P.types.toList i | none => none, glob, sok⟩

def nameOk (l : List Func) : Bool := l.all fun fn => !(fn.name == "runtime.NumGoroutine")

theorem cxOf_ok {P : Program} {sok : List Nat} {glob : Nat → Option (List PV)} (hn : nameOk P.funcs.toList = true) (hm : P.follows .mixedOrders = true) (hs : (sok.all fun t => !P.stoodInHeld t && !P.eqGuardType P.depth t) = true) : (cxOf P sok glob).Ok := by
  refine ⟨fun f fn hf => ?_, fun t i hi => ?_, hm, fun t ht => by have := List.all_eq_true.1 hs t ht; simp only [Bool.and_eq_true, Bool.not_eq_true'] at this; exact this⟩
  · have hf' : P.funcs.toList[f]? = some fn := hf
    refine ⟨(by show P.funcs[f]? = _; simpa using hf'), ?_⟩
    have := List.all_eq_true.1 hn fn (List.mem_of_getElem? hf')
    simpa using this
  · have hi' : (match P.types.toList[t]? with | some i => tiOf P.types.toList i | none => none) = some i := hi
    split at hi'
    case h_2 => cases hi'
    rename_i x hx
    have hx : P.types[t]? = some x := by simpa using hx
    have hlt := (Array.getElem?_eq_some_iff.1 hx).1
    have hin : P.info? t = some x := by
      show (if t < P.types.size then P.types[t]? else _) = _
      rw [if_pos hlt]; exact hx
    unfold tiOf at hi'
    split at hi'
    · rename_i nm u hd
      split at hi'
      case h_2 => cases hi'
      rename_i y hy
      cases hi'
      have hy' : P.types[u]? = some y := by simpa using hy
      have hlt2 := (Array.getElem?_eq_some_iff.1 hy').1
      have hin2 : P.info? u = some y := by
        show (if u < P.types.size then P.types[u]? else _) = _
        rw [if_pos hlt2]; exact hy'
      refine ⟨?_, hin⟩
      obtain ⟨d, b, c, f, g, k, l, m, n, o⟩ := x
      simp only at hd
      subst hd
      show P.underlying t = _
      simp only [Program.underlying, hin, hin2, Option.map_some]
    · rename_i hnn
      cases hi'
      refine ⟨?_, hin⟩
      obtain ⟨d, b, c, f, g, k, l, m, n, o⟩ := x
      show P.underlying t = _
      simp only [Program.underlying, hin]
      split
      · rename_i nm u e
        simp only [Option.some.injEq, TypeInfo.mk.injEq] at e
        exact absurd e.1 (hnn _ _)
      · rename_i i' _ e
        cases e; rfl
      · rename_i e; cases e
end Go.Pv
