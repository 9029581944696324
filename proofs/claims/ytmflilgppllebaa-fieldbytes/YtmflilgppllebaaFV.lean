/- alive: the chapter's examples. -/
import Derived.Test.YtmflilgppllebaaFU
import Derived.Test.YtmflilgppllebaaFO
namespace Go.Proofs.Ytmflilgppllebaa
open Go.RowKit
set_option linter.unusedSimpArgs false
set_option linter.unusedVariables false
set_option maxRecDepth 20000

theorem w_small (n : Nat) (h : n < 18446744073709551616) {v : Value} {x : Int} (hv : IsW v x) (hx : x = (n : Int)) : v = W4 (n : Int) 0 0 0 := by
  subst hx; exact hv.uniq (isw_small n h)
theorem sqrt2r : sqrtR 2 = 0 := by
  unfold sqrtR
  rw [rt1_2, rt2_2]
  decide +kernel
theorem s4 (w : World) : Calls Try.prog 18 #[W4 4 0 0 0] w fun e w' => e = .returned (.tuple #[W4 2 0 0 0, .bool true]) ∧ Below w.heap.size w w' := by
  refine (g_sqrt (isw_small 4 (by decide)) w).mono ?_
  rintro e w' ⟨v, rfl, hv, hb⟩
  have e1 : v = W4 2 0 0 0 := w_small 2 (by decide) hv sqrt4.1
  have e2 : sqrtB ((4 : Nat) : Int) = true := sqrt4.2
  rw [e1, e2]
  exact ⟨rfl, hb⟩
theorem s2 (w : World) : Calls Try.prog 18 #[W4 2 0 0 0] w fun e w' => e = .returned (.tuple #[W4 0 0 0 0, .bool false]) ∧ Below w.heap.size w w' := by
  refine (g_sqrt (isw_small 2 (by decide)) w).mono ?_
  rintro e w' ⟨v, rfl, hv, hb⟩
  have e1 : v = W4 0 0 0 0 := w_small 0 (by decide) hv sqrt2r
  have e2 : sqrtB ((2 : Nat) : Int) = false := sqrt2
  rw [e1, e2]
  exact ⟨rfl, hb⟩
abbrev Pw : Value := W4 18446744073709551597 18446744073709551615 18446744073709551615 9223372036854775807
abbrev Lw : Value := W4 6346243789798364141 1503914060200516822 0 1152921504606846976
theorem isP : IsW Pw PP := ⟨_, _, _, _, rfl, p_L4, p_num⟩
theorem isL : IsW Lw LL := ⟨_, _, _, _, rfl, ⟨⟨by decide, by decide⟩, ⟨by decide, by decide⟩, ⟨by decide, by decide⟩, ⟨by decide, by decide⟩⟩, by decide⟩
theorem addP1 (w : World) : Calls Try.prog 9 #[Pw, W4 1 0 0 0] w fun e w' => e = .returned (W4 1 0 0 0) ∧ Below w.heap.size w w' := by
  refine (g_fadd isP (isw_small 1 (by decide)) w).mono ?_
  rintro e w' ⟨v, rfl, hv, hb⟩
  rw [w_small 1 (by decide) hv (by decide +kernel)]
  exact ⟨rfl, hb⟩
theorem inv2w (w : World) : Calls Try.prog 20 #[W4 2 0 0 0] w fun e w' => ∃ v, e = .returned v ∧ IsW v (2 ^ E2 % PP) ∧ Below w.heap.size w w' := g_inv (isw_small 2 (by decide)) w
theorem mul2 {v : Value} (hv : IsW v (2 ^ E2 % PP)) (w : World) : Calls Try.prog 13 #[W4 2 0 0 0, v] w fun e w' => e = .returned (W4 1 0 0 0) ∧ Below w.heap.size w w' := by
  refine (g_fmul (isw_small 2 (by decide)) hv w).mono ?_
  rintro e w' ⟨u, rfl, hu, hb⟩
  have e1 : u = W4 1 0 0 0 := w_small 1 (by decide) hu inv2
  rw [e1]
  exact ⟨rfl, hb⟩
theorem wordP {w : World} {v : Value} (hv : Num w v 32 PP) : Calls Try.prog 51 #[v] w fun e w' => e = .returned Pw ∧ Below w.heap.size w w' := by
  refine (n_word w v 32 PP hv (by decide)).mono ?_
  rintro e w' ⟨u, rfl, hu, hb⟩
  rw [show PP % T256 = PP from by decide +kernel] at hu
  rw [hu.uniq isP]
  exact ⟨rfl, hb⟩
theorem wordL {w : World} {v : Value} (hv : Num w v 33 LL) : Calls Try.prog 51 #[v] w fun e w' => e = .returned Lw ∧ Below w.heap.size w w' := by
  refine (n_word w v 33 LL hv (by decide)).mono ?_
  rintro e w' ⟨u, rfl, hu, hb⟩
  rw [show LL % T256 = LL from by decide +kernel] at hu
  rw [hu.uniq isL]
  exact ⟨rfl, hb⟩
set_option maxHeartbeats 2000000 in
theorem alive_any (w : World) : Calls Try.prog 17 #[] w fun e w' => e = .returned (.bool true) ∧ Below w.heap.size w w' := by
  have q1 := eq24_same 1 0 0 0
  have q2 := eq24_same 2 0 0 0
  have qP := eq24_same 18446744073709551597 18446744073709551615 18446744073709551615 9223372036854775807
  have qL := eq24_same 6346243789798364141 1503914060200516822 0 1152921504606846976
  unfold W4 at q1 q2 qP qL
  go_enter Try.func17, Try.ntmps17
  go_wp2_with fail
  refine Calls.mono (s4 _) ?_
  rintro e w1 ⟨rfl, b1⟩
  have B1 : Hid (Below w.heap.size w (w1.alloc (.cells (C4 2 0 0 0) 24)) ∧ (w1.alloc (.cells (C4 2 0 0 0) 24)).heap[w1.heap.size]? = some (.cells (C4 2 0 0 0) 24 (0, 0))) := ⟨b1.alloc b1.size _, heap_alloc_new _ _⟩
  clear b1
  unfold W4
  go_wp2_with fail
  generalize w1.alloc (.cells (C4 2 0 0 0) 24) = W1 at B1 ⊢
  refine Calls.mono (s2 _) ?_
  rintro e w2 ⟨rfl, b2⟩
  have B2 : Hid (Below w.heap.size w (w2.alloc (.cells (C4 0 0 0 0) 24)) ∧ (w2.alloc (.cells (C4 0 0 0 0) 24)).heap[w1.heap.size]? = some (.cells (C4 2 0 0 0) 24 (0, 0))) :=
    ⟨(B1.out.1.trans (b2.mono B1.out.1.size)).alloc (Nat.le_trans B1.out.1.size b2.size) _, heap_old _ _ _ _ (kept B1.out.2 b2)⟩
  clear b2 B1
  unfold W4
  go_wp2_with fail
  generalize w2.alloc (.cells (C4 0 0 0 0) 24) = W2 at B2 ⊢
  generalize w1.heap.size = z at B2 ⊢
  refine Calls.mono (p_any _) ?_
  rintro e w3 ⟨rfl, b3⟩
  unfold W4
  go_wp2_with fail
  refine Calls.mono (addP1 _) ?_
  rintro e w4 ⟨rfl, b4⟩
  unfold W4
  go_wp2_with fail
  refine Calls.mono (inv2w _) ?_
  rintro e w5 ⟨v5, rfl, h5, b5⟩
  have H5 : Hid _ := h5
  clear h5
  go_wp2_with fail
  refine Calls.mono (mul2 H5.out _) ?_
  rintro e w6 ⟨rfl, b6⟩
  have k3 := b3.trans (b4.mono b3.size)
  have k4 := k3.trans (b5.mono k3.size)
  have k5 := k4.trans (b6.mono k4.size)
  have hz := kept B2.out.2 k5
  have B6 : Hid (Below w.heap.size w w6) := B2.out.1.trans (k5.mono B2.out.1.size)
  have c0 : w6.cell? ⟨z, 0, none⟩ = some (.int .u64 2) := by rw [cell_of_row w6 z 0 _ 24 (0, 0) hz]; rfl
  have c1 : w6.cell? ⟨z, 1, none⟩ = some (.int .u64 0) := by rw [cell_of_row w6 z 1 _ 24 (0, 0) hz]; rfl
  have c2 : w6.cell? ⟨z, 2, none⟩ = some (.int .u64 0) := by rw [cell_of_row w6 z 2 _ 24 (0, 0) hz]; rfl
  have c3 : w6.cell? ⟨z, 3, none⟩ = some (.int .u64 0) := by rw [cell_of_row w6 z 3 _ 24 (0, 0) hz]; rfl
  clear k3 k4 k5 b3 b4 b5 b6 B2 hz
  unfold W4
  go_wp2_with fail
  clear c0 c1 c2 c3 q2
  refine Calls.mono (p_any _) ?_
  rintro e w7 ⟨rfl, b7⟩
  go_wp2_with fail
  refine Calls.mono (n_p _) ?_
  rintro e w8 ⟨v8, rfl, h8, b8⟩
  have H8 : Hid (Num w8 v8 32 PP) := h8
  clear h8
  go_wp2_with fail
  refine Calls.mono (wordP H8.out) ?_
  rintro e w9 ⟨rfl, b9⟩
  unfold W4
  go_wp2_with fail
  clear qP
  refine Calls.mono (l_any _) ?_
  rintro e w10 ⟨rfl, b10⟩
  go_wp2_with fail
  refine Calls.mono (n_l _) ?_
  rintro e w11 ⟨v11, rfl, h11, b11⟩
  have H11 : Hid (Num w11 v11 33 LL) := h11
  clear h11
  go_wp2_with fail
  refine Calls.mono (wordL H11.out) ?_
  rintro e w12 ⟨rfl, b12⟩
  unfold W4
  go_wp2
  go_ret
  have j7 := B6.out.trans (b7.mono B6.out.size)
  have j8 := j7.trans (b8.mono j7.size)
  have j9 := j8.trans (b9.mono j8.size)
  have j10 := j9.trans (b10.mono j9.size)
  have j11 := j10.trans (b11.mono j10.size)
  exact ⟨rfl, j11.trans (b12.mono j11.size)⟩
end Go.Proofs.Ytmflilgppllebaa
