import Derived.Test.YtlnpfpaacgojpaaRef
namespace Go.Proofs.Ytlnpfpaacgojpaa
open Go.RowKit
set_option maxRecDepth 100000 in
set_option maxHeartbeats 1600000 in
theorem tells_walk (op a b : Int) (w0 : (Lit.int .i64 op).wf = true) (w1 : (Lit.int .i64 a).wf = true) (w2 : (Lit.int .i64 b).wf = true) (w : World) :
    Calls Try.prog 3 #[.int .i64 op, .int .i64 a, .int .i64 b] w fun e w' => e = .returned (.bool true) ∧ Below w.heap.size w w' := by
  have H1 := Lib.hid (bnd64 w0)
  clear w0 w1 w2
  generalize em : pickN op 21 = m at *
  have EM := Lib.hid em
  clear em
  go_enter Try.func3, Try.ntmps3
  go_wp2_with (first 
    | (go_at_call 13; (with_reducible refine (awake_true _).mono ?_); rintro e w1 ⟨rfl, hb1⟩) 
    | (go_at_call 14; (with_reducible refine (pick_any op 21 H1.out (by decide) _).mono ?_); rintro e w2 ⟨rfl, rfl⟩; rw [EM.out]) 
    )
  have hs1 := hb1.size
  obtain ⟨zs, z0, z1⟩ : ∃ zs : Nat → Int, zs 0 = op ∧ zs 1 = m := ⟨fun j => if j = 0 then op else m, rfl, rfl⟩
  have Z0 := Lib.hid z0
  have Z1 := Lib.hid z1
  clear z0 z1
  go_loopw [30] (fun i wr => ∃ k : Nat, k ≤ 2 ∧ i = .int .i64 k ∧ Below w.heap.size w wr ∧ w1.heap.size < wr.heap.size ∧ ∀ j, j < 2 → wr.cell? ⟨w1.heap.size, j, none⟩ = some (.int .i64 (zs j))) (fun i _ => 2 - (intOf i).toNat)
  case atStart =>
    refine ⟨0, by omega, rfl, hb1.alloc hs1 _, by simp, ?_⟩
    intro j hj
    have : j = 0 ∨ j = 1 := by omega
    rcases this with rfl | rfl
    · rw [Z0.out]; go_simp
    · rw [Z1.out]; go_simp
  case round =>
    obtain ⟨wo, rfl⟩ : ∃ wo : World, wo = wr := ⟨_, rfl⟩
    obtain ⟨k, hk, rfl, hbw, hlt, hcells⟩ := hrel
    by_cases h3 : k < 2
    · have hcell := hcells k h3
      have hd : decide ((k : Int) < 2) = true := by simp; omega
      have HC := Lib.hid hcells
      clear hcells
      go_wp2_with fail
      have hsw := hbw.size
      obtain ⟨ys, y0, y1, y2, y3, y4, y5⟩ : ∃ ys : Nat → Int, ys 0 = b ∧ ys 1 = a ∧ ys 2 = 0 ∧ ys 3 = 1 ∧ ys 4 = -1 ∧ ys 5 = -9223372036854775808 := ⟨fun j => if j = 0 then b else if j = 1 then a else if j = 2 then 0 else if j = 3 then 1 else if j = 4 then -1 else -9223372036854775808, rfl, rfl, rfl, rfl, rfl, rfl⟩
      have Y0 := Lib.hid y0
      have Y1 := Lib.hid y1
      have Y2 := Lib.hid y2
      have Y3 := Lib.hid y3
      have Y4 := Lib.hid y4
      have Y5 := Lib.hid y5
      clear y0 y1 y2 y3 y4 y5
      go_loopw [38] (fun i wi => ∃ n : Nat, n ≤ 6 ∧ i = .int .i64 n ∧ Below wo.heap.size wo wi ∧ wo.heap.size < wi.heap.size ∧ ∀ j, j < 6 → wi.cell? ⟨wo.heap.size, j, none⟩ = some (.int .i64 (ys j))) (fun i _ => 6 - (intOf i).toNat)
      case atStart =>
        refine ⟨0, by omega, rfl, (Below.refl _ _).alloc (Nat.le_refl _) _, by simp, ?_⟩
        intro j hj
        have : j = 0 ∨ j = 1 ∨ j = 2 ∨ j = 3 ∨ j = 4 ∨ j = 5 := by omega
        rcases this with rfl | rfl | rfl | rfl | rfl | rfl
        · rw [Y0.out]; go_simp
        · rw [Y1.out]; go_simp
        · rw [Y2.out]; go_simp
        · rw [Y3.out]; go_simp
        · rw [Y4.out]; go_simp
        · rw [Y5.out]; go_simp
      case round =>
        obtain ⟨n, hn, rfl, hbi, hlti, hcellsi⟩ := hrel
        by_cases h6 : n < 6
        · have hcelli := hcellsi n h6
          have HCI := Lib.hid hcellsi
          clear hcellsi hcell
          go_wp2_with (first
            | (go_at_call 15; (with_reducible refine (two_all _ _ _ _).mono ?_); rintro e w2 ⟨rfl, hb2⟩)
            | (go_at_call 16; (with_reducible refine (rtwo_all _ _ _ _).mono ?_); rintro e w3 ⟨rfl, rfl⟩)
            | (go_at_call 17; (with_reducible refine (div_all _ _ _).mono ?_); rintro e w3 ⟨rfl, rfl⟩)
            | (go_at_call 18; (with_reducible refine (rdiv_all _ _ _).mono ?_); rintro e w3 ⟨rfl, rfl⟩)
            | (go_at_call 19; (with_reducible refine (rem_all _ _ _).mono ?_); rintro e w3 ⟨rfl, rfl⟩)
            | (go_at_call 20; (with_reducible refine (rrem_all _ _ _).mono ?_); rintro e w3 ⟨rfl, rfl⟩)
            | (go_at_call 21; (with_reducible refine (less_any _ _ _).mono ?_); rintro e w3 ⟨rfl, rfl⟩)
            | (go_at_call 22; (with_reducible refine (rless_any _ _ _).mono ?_); rintro e w3 ⟨rfl, rfl⟩)
            )
          have hs6 := hb2.size
          go_roundw
          case rel => exact ⟨n + 1, by omega, by go_num, hbi.trans (hb2.mono hbi.size), by omega, fun j hj => (hb2.cell (p := ⟨wo.heap.size, j, none⟩) hlti).trans (HCI.out j hj)⟩
          case measure => simp [intOf]; omega
        · clear hcellsi hcell
          have hbwi := hbw.trans (hbi.mono hbw.size)
          have hcr : ∀ j, j < 2 → World.cell? _ ⟨w1.heap.size, j, none⟩ = some (.int .i64 (zs j)) := fun j hj => (hbi.cell (p := ⟨w1.heap.size, j, none⟩) hlt).trans (HC.out j hj)
          have HCR := Lib.hid hcr
          clear hcr
          go_wp2_with (first
            | (go_at_call 23; (with_reducible refine (one_all _ _ _).mono ?_); rintro e w3 ⟨rfl, hb3⟩)
            | (go_at_call 24; (with_reducible refine (rone_all _ _ _).mono ?_); rintro e w4 ⟨rfl, rfl⟩)
            | (go_at_call 25; (with_reducible refine (sign_all _ _).mono ?_); rintro e w4 ⟨rfl, hb4⟩)
            | (go_at_call 26; (with_reducible refine (rsign_all _ _).mono ?_); rintro e w5 ⟨rfl, hb5⟩)
            | (go_at_call 27; (with_reducible refine (level_all _ _).mono ?_); rintro e w6 ⟨rfl, hb6⟩)
            | (go_at_call 28; (with_reducible refine (rlevel_all _ _).mono ?_); rintro e w7 ⟨rfl, hb7⟩)
            )
          have hb8 := Below.tr (Below.tr (Below.tr (Below.tr hb3 hb4) hb5) hb6) hb7
          have hs8 := hb8.size
          go_roundw
          case rel => exact ⟨k + 1, by omega, by go_num, hbwi.trans (hb8.mono hbwi.size), by omega, fun j hj => (hb8.cell (p := ⟨w1.heap.size, j, none⟩) (show w1.heap.size < _ by omega)).trans (HCR.out j hj)⟩
          case measure => simp [intOf]; omega
    · go_wp2
      go_ret
      exact ⟨rfl, hbw⟩
end Go.Proofs.Ytlnpfpaacgojpaa
