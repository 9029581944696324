/- conclaveref04: Sqrt. -/
import Derived.Test.YtmflilgppllebaaFK
import Derived.Test.YtmflilgppllebaaFT
namespace Go.Proofs.Ytmflilgppllebaa
open Go.RowKit
set_option linter.unusedSimpArgs false
set_option linter.unusedVariables false

theorem step_load_varW {ops : Array Oper} {o : Oper} {a : Act} {w : World} {K : Act → World → Prop} {Q : Exit → Act → World → Prop} {E : Prop} (hw : Region.wanted o (yielded ops a.tmps) = true) (x : Operand) (ho : o.op = .load 24 x)
    (z : Nat) (hx : a.eval x = .pointer (some ⟨z, 0, none⟩)) {v : Value} (hz : VarW w z v) (h : K (a.put o.dst v) w) : if Region.wanted o (yielded ops a.tmps) = true then Oper.wp Try.prog o a w K Q else E := by
  rw [if_pos hw]
  unfold Oper.wp
  rw [run_load_exec 24 x ho _ hx hz.load]
  exact h
theorem q8 : (PP + 3) / 8 % T256 = (E8 : Int) := by decide +kernel
theorem q4 : PP / 4 % T256 = (E4 : Int) := by decide +kernel
theorem rpow_mod (a m : Int) (n : Nat) : (a % m) ^ n % m = a ^ n % m := by
  induction n with
  | zero => rw [Int.pow_zero, Int.pow_zero]
  | succ n ih => rw [Int.pow_succ, Int.pow_succ, Int.mul_emod, ih, Int.emod_emod, ← Int.mul_emod]
theorem rt1_ref (x : Int) : x ^ E8 % PP = rt1 x := (rpow_mod x PP E8).symm
theorem isw2 : IsW (W4 2 0 0 0) 2 := isw_small 2 (by decide)
theorem neg_even {r : Int} (h : 0 ≤ r ∧ r < PP) (ho : r % 2 = 1) : (0 - r) % PP = evenR r := by
  rw [evenR_odd ho, show (0 : Int) - r = (PP - r) + PP * (-1) by omega, Int.add_mul_emod_self_left, Int.emod_eq_of_lt (by omega) (by omega)]
theorem limb_par {r0 r1 r2 r3 x : Int} (hL : L4 r0 r1 r2 r3) (h : num r0 r1 r2 r3 = x) : bits .and .u64 r0 1 = x % 2 := by
  rw [fand_1 r0 hL.1.1 hL.1.2]
  unfold num at h
  omega
theorem cell0 {w : World} {z : Nat} {s0 s1 s2 s3 : Int} (h : VarW w z (W4 s0 s1 s2 s3)) : w.cell? ⟨z, 0, none⟩ = some (.int .u64 s0) := by
  rw [cell_of_row w z 0 _ 24 (0, 0) h.2]; rfl
set_option maxRecDepth 20000 in
set_option maxHeartbeats 4000000 in
/-- conclaveref04.Sqrt -/
theorem n_sqrt {va : Value} {x : Int} (ha : IsW va x) (w : World) : Calls Try.prog 19 #[va] w fun e w' => ∃ v, e = .returned (.tuple #[v, .bool (sqrtB x)]) ∧ IsW v (sqrtR x) ∧ Below w.heap.size w w' := by
  have HA : Hid (IsW va x) := ha
  obtain ⟨a0, a1, a2, a3, rfl, la, na⟩ := ha
  have V0 : Hid (VarW ((w.alloc (.cells (C4 a0 a1 a2 a3) 24)).alloc (.cells (C4 0 0 0 0) 24)) w.heap.size (W4 a0 a1 a2 a3) ∧ VarW ((w.alloc (.cells (C4 a0 a1 a2 a3) 24)).alloc (.cells (C4 0 0 0 0) 24)) (w.heap.size + 1) (W4 0 0 0 0) ∧ Below w.heap.size w ((w.alloc (.cells (C4 a0 a1 a2 a3) 24)).alloc (.cells (C4 0 0 0 0) 24))) :=
    ⟨VarW.mk la (heap_old _ _ _ _ (heap_alloc_new _ _)), ⟨⟨0, isw0⟩, heapAt _ _ _ (by simp)⟩, by go_grown⟩
  clear la na
  go_enter Try.func19, Try.ntmps19
  unfold W4
  go_wp2_with fail
  generalize ((w.alloc (.cells (C4 a0 a1 a2 a3) 24)).alloc (.cells (C4 0 0 0 0) 24)) = W0 at V0 ⊢
  refine Calls.mono (n_p _) ?_
  rintro e p1 ⟨u1, rfl, g1, k1⟩
  have G1 : Hid (Num p1 u1 32 PP) := g1
  clear g1
  go_wp2_with fail
  have kx : Below p1.heap.size p1 (p1.alloc (.cells #[.int .i64 3] 3)) := (Below.refl _ _).alloc (Nat.le_refl _) _
  refine Calls.mono (n_plus _ _ _ 32 1 PP 3 (G1.out.below kx) (num1 3 (by decide) (by decide) p1) (by decide) (by decide)) ?_
  rintro e p2 ⟨u2, rfl, g2, k2⟩
  have G2 : Hid (Num p2 u2 33 (PP + 3)) := g2
  have kA : Below W0.heap.size W0 p2 := (k1.trans (kx.mono k1.size)).trans (k2.mono (Nat.le_trans k1.size kx.size))
  clear g2 G1 kx k1 k2
  go_wp2_with fail
  have ky : Below p2.heap.size p2 (p2.alloc (.cells #[.int .i64 8] 3)) := (Below.refl _ _).alloc (Nat.le_refl _) _
  refine Calls.mono (n_quo _ _ _ 33 1 (PP + 3) 8 (G2.out.below ky) (num1 8 (by decide) (by decide) p2) (by decide) (by decide) (by decide)) ?_
  rintro e wq ⟨vq, ur, rfl, g3, _, k3⟩
  have kwq : Below W0.heap.size W0 wq := (kA.trans (ky.mono kA.size)).trans (k3.mono (Nat.le_trans kA.size ky.size))
  have Gvq : Hid (Num wq vq 33 ((PP + 3) / 8)) := g3
  clear g3 G2 ky k3 kA
  go_wp2_with fail
  have V1 : Hid (VarW wq w.heap.size (W4 a0 a1 a2 a3) ∧ VarW wq (w.heap.size + 1) (W4 0 0 0 0) ∧ Below w.heap.size w wq) := ⟨V0.out.1.kept kwq, V0.out.2.1.kept kwq, V0.out.2.2.trans (kwq.mono V0.out.2.2.size)⟩
  clear V0 kwq
  try simp only [Act.put]
  go_cut [6] (fun s6 wx => ∃ (z : Nat) (v : Value), s6 = .pointer (some ⟨z, 0, none⟩) ∧ IsW v (rt1 x) ∧ VarW wx z v ∧ wq.heap.size ≤ z ∧ Below wq.heap.size wq wx)
  case first =>
    have gq := Gvq.out
    refine wp_region_held_drew (S := fun w' => Below (wq.heap.size) wq w') (by kernel_rfl) (Below.drew (Below.refl _ _)) (fun hHeld => ?_)
    replace gq := gq.below (Below.drew (Below.refl _ _))
    generalize wq.drew = wd at hHeld gq ⊢
    refine wpAnyH_take (i := 0) (v := W4 a0 a1 a2 a3) rfl (by kernel_rfl) (by kernel_rfl) (by kernel_rfl) (fun _ _ _ h => h) (Or.inl ⟨by rfl, fun w9 hSw => ?_⟩) hHeld ?_
    · exact run_load_exec 24 _ rfl _ rfl (V1.out.1.kept hSw).load
    simp only [List.getElem_toArray, List.getElem_cons_succ, List.getElem_cons_zero, Act.put, List.setIfInBounds_toArray, List.set_cons_zero, List.set_cons_succ]
    refine wpAnyH_take (i := 1) (v := vq) rfl (by kernel_rfl) (by kernel_rfl) (by kernel_rfl) (fun _ _ _ h => h) (Or.inl ⟨by rfl, fun w9 hSw => ?_⟩) hHeld ?_
    · go_simp
    simp only [List.getElem_toArray, List.getElem_cons_succ, List.getElem_cons_zero, Act.put, List.setIfInBounds_toArray, List.set_cons_zero, List.set_cons_succ]
    refine wpAnyH_ready (rs := [2, 4]) (by kernel_rfl) (by simp) ?_
    refine AllReadyH.cons rfl (fun K hK => ?_) (AllReadyH.cons rfl (fun K hK => ?_) AllReadyH.nil)
    · go_simp
      refine Calls.mono (n_word _ _ 33 ((PP + 3) / 8) gq (by decide)) ?_
      rintro e w19 ⟨v19, rfl, h19, b19⟩
      replace gq := gq.below b19
      go_wp2_with fail
      refine hK.out _ _ (hHeld.trans (b19.mono (Nat.le_trans (Nat.le_refl _) hHeld.size))) (fun hHeld => ?_)
      clear hK K
      try simp only [List.getElem_toArray, List.getElem_cons_succ, List.getElem_cons_zero, Act.put, List.setIfInBounds_toArray, List.set_cons_zero, List.set_cons_succ]
      refine wpAnyH_ready (rs := [3, 4]) (by kernel_rfl) (by simp) ?_
      refine AllReadyH.cons rfl (fun K hK => ?_) (AllReadyH.cons rfl (fun K hK => ?_) AllReadyH.nil)
      · go_simp
        refine Calls.mono (n_pow E8 HA.out (q8 ▸ h19) _) ?_
        rintro e w20 ⟨v20, rfl, h20, b20⟩
        replace gq := gq.below b20
        go_wp2_with fail
        refine hK.out _ _ (hHeld.trans (b20.mono (Nat.le_trans (Nat.le_refl _) hHeld.size))) (fun hHeld => ?_)
        clear hK K
        try simp only [List.getElem_toArray, List.getElem_cons_succ, List.getElem_cons_zero, Act.put, List.setIfInBounds_toArray, List.set_cons_zero, List.set_cons_succ]
        refine wpAnyH_ready (rs := [4]) (by kernel_rfl) (by simp) ?_
        refine AllReadyH.cons rfl (fun K hK => ?_) AllReadyH.nil
        go_simp
        have hz6 := VarW.new w20
        have hl6 : wq.heap.size ≤ w20.heap.size := Nat.le_trans (Nat.le_refl _) hHeld.size
        have bx : Below w20.heap.size w20 (w20.alloc (.cells (C4 0 0 0 0) 24)) := (Below.refl _ _).alloc (Nat.le_refl _) _
        replace gq := gq.below bx
        refine hK.out _ _ (hHeld.trans (bx.mono hl6)) (fun hHeld => ?_)
        clear hK K bx
        try simp only [List.getElem_toArray, List.getElem_cons_succ, List.getElem_cons_zero, Act.put, List.setIfInBounds_toArray, List.set_cons_zero, List.set_cons_succ]
        generalize w20.heap.size = z6 at hz6 hl6 ⊢
        generalize w20.alloc (.cells (C4 0 0 0 0) 24) = wa6 at hz6 gq hHeld ⊢
        refine wpAnyH_ready (rs := [5]) (by kernel_rfl) (by simp) ?_
        refine AllReadyH.cons rfl (fun K hK => ?_) AllReadyH.nil
        refine step_store_varW (u := v20) (by rfl) _ _ rfl (z6) rfl rfl h20 hz6 ?_
        refine hK.out _ _ (below_setRow hHeld hl6 _) (fun hHeld => ?_)
        clear hK K
        try simp only [List.getElem_toArray, List.getElem_cons_succ, List.getElem_cons_zero, Act.put, List.setIfInBounds_toArray, List.set_cons_zero, List.set_cons_succ]
        replace hz6 := hz6.put h20
        generalize wa6.setRow (z6) (cw v20) = wst at hz6  hHeld ⊢
        refine wpAnyH_done (by kernel_rfl) ?_ _
        go_wp2_with fail
        go_meet
        case rel => exact ⟨_, _, rfl, (by rw [← rt1_ref]; exact h20), hz6, hl6, hHeld⟩
      · go_simp
        have hz6 := VarW.new w19
        have hl6 : wq.heap.size ≤ w19.heap.size := Nat.le_trans (Nat.le_refl _) hHeld.size
        have bx : Below w19.heap.size w19 (w19.alloc (.cells (C4 0 0 0 0) 24)) := (Below.refl _ _).alloc (Nat.le_refl _) _
        replace gq := gq.below bx
        refine hK.out _ _ (hHeld.trans (bx.mono hl6)) (fun hHeld => ?_)
        clear hK K bx
        try simp only [List.getElem_toArray, List.getElem_cons_succ, List.getElem_cons_zero, Act.put, List.setIfInBounds_toArray, List.set_cons_zero, List.set_cons_succ]
        generalize w19.heap.size = z6 at hz6 hl6 ⊢
        generalize w19.alloc (.cells (C4 0 0 0 0) 24) = wa6 at hz6 gq hHeld ⊢
        refine wpAnyH_ready (rs := [3]) (by kernel_rfl) (by simp) ?_
        refine AllReadyH.cons rfl (fun K hK => ?_) AllReadyH.nil
        go_simp
        refine Calls.mono (n_pow E8 HA.out (q8 ▸ h19) _) ?_
        rintro e w20 ⟨v20, rfl, h20, b20⟩
        replace hz6 := hz6.kept b20
        replace gq := gq.below b20
        go_wp2_with fail
        refine hK.out _ _ (hHeld.trans (b20.mono (Nat.le_trans (Nat.le_refl _) hHeld.size))) (fun hHeld => ?_)
        clear hK K
        try simp only [List.getElem_toArray, List.getElem_cons_succ, List.getElem_cons_zero, Act.put, List.setIfInBounds_toArray, List.set_cons_zero, List.set_cons_succ]
        refine wpAnyH_ready (rs := [5]) (by kernel_rfl) (by simp) ?_
        refine AllReadyH.cons rfl (fun K hK => ?_) AllReadyH.nil
        refine step_store_varW (u := v20) (by rfl) _ _ rfl (z6) rfl rfl h20 hz6 ?_
        refine hK.out _ _ (below_setRow hHeld hl6 _) (fun hHeld => ?_)
        clear hK K
        try simp only [List.getElem_toArray, List.getElem_cons_succ, List.getElem_cons_zero, Act.put, List.setIfInBounds_toArray, List.set_cons_zero, List.set_cons_succ]
        replace hz6 := hz6.put h20
        generalize w20.setRow (z6) (cw v20) = wst at hz6  hHeld ⊢
        refine wpAnyH_done (by kernel_rfl) ?_ _
        go_wp2_with fail
        go_meet
        case rel => exact ⟨_, _, rfl, (by rw [← rt1_ref]; exact h20), hz6, hl6, hHeld⟩
    · go_simp
      have hz6 := VarW.new wd
      have hl6 : wq.heap.size ≤ wd.heap.size := Nat.le_trans (Nat.le_refl _) hHeld.size
      have bx : Below wd.heap.size wd (wd.alloc (.cells (C4 0 0 0 0) 24)) := (Below.refl _ _).alloc (Nat.le_refl _) _
      replace gq := gq.below bx
      refine hK.out _ _ (hHeld.trans (bx.mono hl6)) (fun hHeld => ?_)
      clear hK K bx
      try simp only [List.getElem_toArray, List.getElem_cons_succ, List.getElem_cons_zero, Act.put, List.setIfInBounds_toArray, List.set_cons_zero, List.set_cons_succ]
      generalize wd.heap.size = z6 at hz6 hl6 ⊢
      generalize wd.alloc (.cells (C4 0 0 0 0) 24) = wa6 at hz6 gq hHeld ⊢
      refine wpAnyH_ready (rs := [2]) (by kernel_rfl) (by simp) ?_
      refine AllReadyH.cons rfl (fun K hK => ?_) AllReadyH.nil
      go_simp
      refine Calls.mono (n_word _ _ 33 ((PP + 3) / 8) gq (by decide)) ?_
      rintro e w19 ⟨v19, rfl, h19, b19⟩
      replace hz6 := hz6.kept b19
      replace gq := gq.below b19
      go_wp2_with fail
      refine hK.out _ _ (hHeld.trans (b19.mono (Nat.le_trans (Nat.le_refl _) hHeld.size))) (fun hHeld => ?_)
      clear hK K
      try simp only [List.getElem_toArray, List.getElem_cons_succ, List.getElem_cons_zero, Act.put, List.setIfInBounds_toArray, List.set_cons_zero, List.set_cons_succ]
      refine wpAnyH_ready (rs := [3]) (by kernel_rfl) (by simp) ?_
      refine AllReadyH.cons rfl (fun K hK => ?_) AllReadyH.nil
      go_simp
      refine Calls.mono (n_pow E8 HA.out (q8 ▸ h19) _) ?_
      rintro e w20 ⟨v20, rfl, h20, b20⟩
      replace hz6 := hz6.kept b20
      replace gq := gq.below b20
      go_wp2_with fail
      refine hK.out _ _ (hHeld.trans (b20.mono (Nat.le_trans (Nat.le_refl _) hHeld.size))) (fun hHeld => ?_)
      clear hK K
      try simp only [List.getElem_toArray, List.getElem_cons_succ, List.getElem_cons_zero, Act.put, List.setIfInBounds_toArray, List.set_cons_zero, List.set_cons_succ]
      refine wpAnyH_ready (rs := [5]) (by kernel_rfl) (by simp) ?_
      refine AllReadyH.cons rfl (fun K hK => ?_) AllReadyH.nil
      refine step_store_varW (u := v20) (by rfl) _ _ rfl (z6) rfl rfl h20 hz6 ?_
      refine hK.out _ _ (below_setRow hHeld hl6 _) (fun hHeld => ?_)
      clear hK K
      try simp only [List.getElem_toArray, List.getElem_cons_succ, List.getElem_cons_zero, Act.put, List.setIfInBounds_toArray, List.set_cons_zero, List.set_cons_succ]
      replace hz6 := hz6.put h20
      generalize w20.setRow (z6) (cw v20) = wst at hz6  hHeld ⊢
      refine wpAnyH_done (by kernel_rfl) ?_ _
      go_wp2_with fail
      go_meet
      case rel => exact ⟨_, _, rfl, (by rw [← rt1_ref]; exact h20), hz6, hl6, hHeld⟩
  case rest =>
    obtain ⟨z6, v6, rfl, h6, hz6, hl6, k6⟩ := hcut
    have H6 : Hid (IsW v6 (rt1 x)) := h6
    have V2 : Hid (VarW wc w.heap.size (W4 a0 a1 a2 a3) ∧ VarW wc (w.heap.size + 1) (W4 0 0 0 0) ∧ VarW wc z6 v6 ∧ Below w.heap.size w wc ∧ w.heap.size + 1 < z6) := ⟨V1.out.1.kept k6, V1.out.2.1.kept k6, hz6, V1.out.2.2.trans (k6.mono V1.out.2.2.size), by have := V1.out.2.1.lt; omega⟩
    have RB1 : Hid (0 ≤ rt1 x ∧ rt1 x < PP) := mod_PP _
    clear V1 h6 hz6 hl6 k6 Gvq
    by_cases hB : rt1 x * rt1 x % PP = x % PP
    · have HR : Hid (sqrtR x = evenR (rt1 x)) := if_pos hB
      have HB : Hid (sqrtB x = true) := by show _ = _; unfold sqrtB; rw [decide_eq_true hB]; rfl
      go_wp2_with fail
      refine wp_region_held_drew (S := fun w' => Below (wc.heap.size) wc w') (by kernel_rfl) (Below.drew (Below.refl _ _)) (fun hHeld => ?_)
      generalize wc.drew = wd at hHeld  ⊢
      refine wpAnyH_take (i := 0) (v := v6) rfl (by kernel_rfl) (by kernel_rfl) (by kernel_rfl) (fun _ _ _ h => h) (Or.inl ⟨by rfl, fun w9 hSw => ?_⟩) hHeld ?_
      · exact run_load_exec 24 _ rfl _ rfl (V2.out.2.2.1.kept hSw).load
      simp only [List.getElem_toArray, List.getElem_cons_succ, List.getElem_cons_zero, Act.put, List.setIfInBounds_toArray, List.set_cons_zero, List.set_cons_succ]
      refine wpAnyH_take (i := 1) (v := v6) rfl (by kernel_rfl) (by kernel_rfl) (by kernel_rfl) (fun _ _ _ h => h) (Or.inl ⟨by rfl, fun w9 hSw => ?_⟩) hHeld ?_
      · exact run_load_exec 24 _ rfl _ rfl (V2.out.2.2.1.kept hSw).load
      simp only [List.getElem_toArray, List.getElem_cons_succ, List.getElem_cons_zero, Act.put, List.setIfInBounds_toArray, List.set_cons_zero, List.set_cons_succ]
      refine wpAnyH_take (i := 3) (v := W4 a0 a1 a2 a3) rfl (by kernel_rfl) (by kernel_rfl) (by kernel_rfl) (fun _ _ _ h => h) (Or.inl ⟨by rfl, fun w9 hSw => ?_⟩) hHeld ?_
      · exact run_load_exec 24 _ rfl _ rfl (V2.out.1.kept hSw).load
      simp only [List.getElem_toArray, List.getElem_cons_succ, List.getElem_cons_zero, Act.put, List.setIfInBounds_toArray, List.set_cons_zero, List.set_cons_succ]
      refine wpAnyH_take (i := 4) (v := W4 0 0 0 0) rfl (by kernel_rfl) (by kernel_rfl) (by kernel_rfl) (fun _ _ _ h => h) (Or.inl ⟨by rfl, fun w9 hSw => ?_⟩) hHeld ?_
      · go_simp
      simp only [List.getElem_toArray, List.getElem_cons_succ, List.getElem_cons_zero, Act.put, List.setIfInBounds_toArray, List.set_cons_zero, List.set_cons_succ]
      refine wpAnyH_ready (rs := [2]) (by kernel_rfl) (by simp) ?_
      refine AllReadyH.cons rfl (fun K hK => ?_) AllReadyH.nil
      go_simp
      refine Calls.mono (n_mul H6.out H6.out _) ?_
      rintro e w23 ⟨v23, rfl, h23, b23⟩
      go_wp2_with fail
      refine hK.out _ _ (hHeld.trans (b23.mono (Nat.le_trans (Nat.le_refl _) hHeld.size))) (fun hHeld => ?_)
      clear hK K
      try simp only [List.getElem_toArray, List.getElem_cons_succ, List.getElem_cons_zero, Act.put, List.setIfInBounds_toArray, List.set_cons_zero, List.set_cons_succ]
      refine wpAnyH_ready (rs := [5]) (by kernel_rfl) (by simp) ?_
      refine AllReadyH.cons rfl (fun K hK => ?_) AllReadyH.nil
      go_simp
      refine Calls.mono (n_add HA.out isw0 _) ?_
      rintro e w26 ⟨v26, rfl, h26, b26⟩
      go_wp2_with fail
      refine hK.out _ _ (hHeld.trans (b26.mono (Nat.le_trans (Nat.le_refl _) hHeld.size))) (fun hHeld => ?_)
      clear hK K
      try simp only [List.getElem_toArray, List.getElem_cons_succ, List.getElem_cons_zero, Act.put, List.setIfInBounds_toArray, List.set_cons_zero, List.set_cons_succ]
      refine wpAnyH_take (i := 6) (v := .bool false) rfl (by kernel_rfl) (by kernel_rfl) (by kernel_rfl) (fun _ _ _ h => h) (Or.inl ⟨by rfl, fun w9 hSw => ?_⟩) hHeld ?_
      · have q := eqW' (b := true) h23 h26 (beq_iff_eq.2 (by rw [Int.add_zero]; exact hB)) w9
        obtain ⟨p0, p1, p2, p3, rfl, _, _⟩ := h23
        obtain ⟨q0, q1, q2, q3, rfl, _, _⟩ := h26
        unfold W4 at q ⊢
        go_simp
      simp only [List.getElem_toArray, List.getElem_cons_succ, List.getElem_cons_zero, Act.put, List.setIfInBounds_toArray, List.set_cons_zero, List.set_cons_succ]
      refine wpAnyH_done (by kernel_rfl) ?_ _
      have V3 : Hid (VarW w26 w.heap.size (W4 a0 a1 a2 a3) ∧ VarW w26 (w.heap.size + 1) (W4 0 0 0 0) ∧ VarW w26 z6 v6 ∧ Below w.heap.size w w26 ∧ w.heap.size + 1 < z6) := ⟨V2.out.1.kept hHeld, V2.out.2.1.kept hHeld, V2.out.2.2.1.kept hHeld, V2.out.2.2.2.1.trans (hHeld.mono V2.out.2.2.2.1.size), V2.out.2.2.2.2⟩
      clear hHeld V2
      go_wp2_with fail
      refine wp_region_held_drew (S := fun w' => Below (w26.heap.size) w26 w') (by kernel_rfl) (Below.drew (Below.refl _ _)) (fun hHeld => ?_)
      generalize w26.drew = wd at hHeld  ⊢
      refine wpAnyH_take (i := 0) (v := v6) rfl (by kernel_rfl) (by kernel_rfl) (by kernel_rfl) (fun _ _ _ h => h) (Or.inl ⟨by rfl, fun w9 hSw => ?_⟩) hHeld ?_
      · exact run_load_exec 24 _ rfl _ rfl (V3.out.2.2.1.kept hSw).load
      simp only [List.getElem_toArray, List.getElem_cons_succ, List.getElem_cons_zero, Act.put, List.setIfInBounds_toArray, List.set_cons_zero, List.set_cons_succ]
      refine wpAnyH_take (i := 1) (v := v6) rfl (by kernel_rfl) (by kernel_rfl) (by kernel_rfl) (fun _ _ _ h => h) (Or.inl ⟨by rfl, fun w9 hSw => ?_⟩) hHeld ?_
      · exact run_load_exec 24 _ rfl _ rfl (V3.out.2.2.1.kept hSw).load
      simp only [List.getElem_toArray, List.getElem_cons_succ, List.getElem_cons_zero, Act.put, List.setIfInBounds_toArray, List.set_cons_zero, List.set_cons_succ]
      refine wpAnyH_take (i := 3) (v := W4 a0 a1 a2 a3) rfl (by kernel_rfl) (by kernel_rfl) (by kernel_rfl) (fun _ _ _ h => h) (Or.inl ⟨by rfl, fun w9 hSw => ?_⟩) hHeld ?_
      · exact run_load_exec 24 _ rfl _ rfl (V3.out.1.kept hSw).load
      simp only [List.getElem_toArray, List.getElem_cons_succ, List.getElem_cons_zero, Act.put, List.setIfInBounds_toArray, List.set_cons_zero, List.set_cons_succ]
      refine wpAnyH_take (i := 4) (v := W4 0 0 0 0) rfl (by kernel_rfl) (by kernel_rfl) (by kernel_rfl) (fun _ _ _ h => h) (Or.inl ⟨by rfl, fun w9 hSw => ?_⟩) hHeld ?_
      · go_simp
      simp only [List.getElem_toArray, List.getElem_cons_succ, List.getElem_cons_zero, Act.put, List.setIfInBounds_toArray, List.set_cons_zero, List.set_cons_succ]
      refine wpAnyH_ready (rs := [2]) (by kernel_rfl) (by simp) ?_
      refine AllReadyH.cons rfl (fun K hK => ?_) AllReadyH.nil
      go_simp
      refine Calls.mono (n_mul H6.out H6.out _) ?_
      rintro e w42 ⟨v42, rfl, h42, b42⟩
      go_wp2_with fail
      refine hK.out _ _ (hHeld.trans (b42.mono (Nat.le_trans (Nat.le_refl _) hHeld.size))) (fun hHeld => ?_)
      clear hK K
      try simp only [List.getElem_toArray, List.getElem_cons_succ, List.getElem_cons_zero, Act.put, List.setIfInBounds_toArray, List.set_cons_zero, List.set_cons_succ]
      refine wpAnyH_ready (rs := [5]) (by kernel_rfl) (by simp) ?_
      refine AllReadyH.cons rfl (fun K hK => ?_) AllReadyH.nil
      go_simp
      refine Calls.mono (n_add HA.out isw0 _) ?_
      rintro e w45 ⟨v45, rfl, h45, b45⟩
      go_wp2_with fail
      refine hK.out _ _ (hHeld.trans (b45.mono (Nat.le_trans (Nat.le_refl _) hHeld.size))) (fun hHeld => ?_)
      clear hK K
      try simp only [List.getElem_toArray, List.getElem_cons_succ, List.getElem_cons_zero, Act.put, List.setIfInBounds_toArray, List.set_cons_zero, List.set_cons_succ]
      refine wpAnyH_take (i := 6) (v := .bool false) rfl (by kernel_rfl) (by kernel_rfl) (by kernel_rfl) (fun _ _ _ h => h) (Or.inl ⟨by rfl, fun w9 hSw => ?_⟩) hHeld ?_
      · have q := eqW' (b := true) h42 h45 (beq_iff_eq.2 (by rw [Int.add_zero]; exact hB)) w9
        obtain ⟨p0, p1, p2, p3, rfl, _, _⟩ := h42
        obtain ⟨q0, q1, q2, q3, rfl, _, _⟩ := h45
        unfold W4 at q ⊢
        go_simp
      simp only [List.getElem_toArray, List.getElem_cons_succ, List.getElem_cons_zero, Act.put, List.setIfInBounds_toArray, List.set_cons_zero, List.set_cons_succ]
      refine wpAnyH_done (by kernel_rfl) ?_ _
      have V4 : Hid (VarW w45 w.heap.size (W4 a0 a1 a2 a3) ∧ VarW w45 (w.heap.size + 1) (W4 0 0 0 0) ∧ VarW w45 z6 v6 ∧ Below w.heap.size w w45 ∧ w.heap.size + 1 < z6) := ⟨V3.out.1.kept hHeld, V3.out.2.1.kept hHeld, V3.out.2.2.1.kept hHeld, V3.out.2.2.2.1.trans (hHeld.mono V3.out.2.2.2.1.size), V3.out.2.2.2.2⟩
      clear hHeld V3
      clear hB
      have F : Hid (VarW w45 z6 v6 ∧ VarW w45 (w.heap.size + 1) (W4 0 0 0 0) ∧ Below w.heap.size w w45 ∧ w.heap.size + 1 < z6) := ⟨V4.out.2.2.1, V4.out.2.1, V4.out.2.2.2.1, V4.out.2.2.2.2⟩
      have RB : Hid (0 ≤ rt1 x ∧ rt1 x < PP) := RB1
      clear V4 RB1
      obtain ⟨r0, r1, r2, r3, rfl, lr, nr⟩ := H6.out
      have c0 := cell0 F.out.1
      have hpar := limb_par lr nr
      clear lr nr
      by_cases hodd : (rt1 x) % 2 = 1
      · rw [hodd] at hpar
        go_wp2_with (first | (refine wpList_load_varW rfl _ rfl z6 rfl F.out.1 ?_))
        refine Calls.mono (n_sub isw0 H6.out _) ?_
        rintro e q1 ⟨t1, rfl, ht, kq⟩
        rw [neg_even RB.out hodd] at ht
        have Q1 : Hid (VarW q1 z6 (W4 r0 r1 r2 r3) ∧ VarW q1 (w.heap.size + 1) (W4 0 0 0 0) ∧ Below w.heap.size w q1) := ⟨F.out.1.kept kq, F.out.2.1.kept kq, F.out.2.2.1.trans (kq.mono F.out.2.2.1.size)⟩
        have Q2 : Hid (VarW (q1.setRow z6 (cw t1)) z6 t1 ∧ VarW (q1.setRow z6 (cw t1)) (w.heap.size + 1) (W4 0 0 0 0) ∧ Below w.heap.size w (q1.setRow z6 (cw t1))) := ⟨Q1.out.1.put ht, Q1.out.2.1.other (by have := F.out.2.2.2; omega) _, below_setRow Q1.out.2.2 (by have := F.out.2.2.2; omega) _⟩
        have hzz : Hid (w.heap.size + 1 < z6) := F.out.2.2.2
        have HT : Hid (IsW t1 (evenR (rt1 x))) := ht
        clear hpar c0 kq hodd F H6
        go_wp2_with (first | (refine wpList_store_varW (u := t1) rfl _ _ rfl z6 rfl rfl ht Q1.out.1 ?_) | (refine wpList_load_varW rfl _ rfl z6 rfl Q2.out.1 ?_) | (refine wpList_store_varW (u := t1) rfl _ _ rfl (w.heap.size + 1) rfl rfl HT.out Q2.out.2.1 ?_))
        have hl := (Q2.out.2.1.put HT.out).load
        exact bodyPost_ret (v := .tuple #[t1, .bool true]) (by simp [results, Try.results19, asAddr, hl]) rfl ⟨_, by rw [HB.out], by rw [HR.out]; exact HT.out, below_setRow Q2.out.2.2 (by omega) _⟩
      · have hev : (rt1 x) % 2 = 0 := by omega
        rw [hev] at hpar
        go_wp2_with (first | (refine wpList_load_varW rfl _ rfl z6 rfl F.out.1 ?_) | (refine wpList_store_varW (u := W4 r0 r1 r2 r3) rfl _ _ rfl (w.heap.size + 1) rfl rfl H6.out F.out.2.1 ?_))
        have hl := (F.out.2.1.put H6.out).load
        exact bodyPost_ret (v := .tuple #[W4 r0 r1 r2 r3, .bool true]) (by simp [results, Try.results19, asAddr, hl]) rfl ⟨_, by rw [HB.out], by rw [HR.out, evenR_even hodd]; exact H6.out, below_setRow F.out.2.2.1 (by omega) _⟩
    · have HR1 : Hid (sqrtR x = if rt2 x * rt2 x % PP = x % PP then evenR (rt2 x) else 0) := if_neg hB
      have HB1 : Hid (sqrtB x = decide (rt2 x * rt2 x % PP = x % PP)) := by show _ = _; unfold sqrtB; rw [decide_eq_false hB]; rfl
      go_wp2_with fail
      refine wp_region_held_drew (S := fun w' => Below (wc.heap.size) wc w') (by kernel_rfl) (Below.drew (Below.refl _ _)) (fun hHeld => ?_)
      generalize wc.drew = wd at hHeld  ⊢
      refine wpAnyH_take (i := 0) (v := v6) rfl (by kernel_rfl) (by kernel_rfl) (by kernel_rfl) (fun _ _ _ h => h) (Or.inl ⟨by rfl, fun w9 hSw => ?_⟩) hHeld ?_
      · exact run_load_exec 24 _ rfl _ rfl (V2.out.2.2.1.kept hSw).load
      simp only [List.getElem_toArray, List.getElem_cons_succ, List.getElem_cons_zero, Act.put, List.setIfInBounds_toArray, List.set_cons_zero, List.set_cons_succ]
      refine wpAnyH_take (i := 1) (v := v6) rfl (by kernel_rfl) (by kernel_rfl) (by kernel_rfl) (fun _ _ _ h => h) (Or.inl ⟨by rfl, fun w9 hSw => ?_⟩) hHeld ?_
      · exact run_load_exec 24 _ rfl _ rfl (V2.out.2.2.1.kept hSw).load
      simp only [List.getElem_toArray, List.getElem_cons_succ, List.getElem_cons_zero, Act.put, List.setIfInBounds_toArray, List.set_cons_zero, List.set_cons_succ]
      refine wpAnyH_take (i := 3) (v := W4 a0 a1 a2 a3) rfl (by kernel_rfl) (by kernel_rfl) (by kernel_rfl) (fun _ _ _ h => h) (Or.inl ⟨by rfl, fun w9 hSw => ?_⟩) hHeld ?_
      · exact run_load_exec 24 _ rfl _ rfl (V2.out.1.kept hSw).load
      simp only [List.getElem_toArray, List.getElem_cons_succ, List.getElem_cons_zero, Act.put, List.setIfInBounds_toArray, List.set_cons_zero, List.set_cons_succ]
      refine wpAnyH_take (i := 4) (v := W4 0 0 0 0) rfl (by kernel_rfl) (by kernel_rfl) (by kernel_rfl) (fun _ _ _ h => h) (Or.inl ⟨by rfl, fun w9 hSw => ?_⟩) hHeld ?_
      · go_simp
      simp only [List.getElem_toArray, List.getElem_cons_succ, List.getElem_cons_zero, Act.put, List.setIfInBounds_toArray, List.set_cons_zero, List.set_cons_succ]
      refine wpAnyH_ready (rs := [2]) (by kernel_rfl) (by simp) ?_
      refine AllReadyH.cons rfl (fun K hK => ?_) AllReadyH.nil
      go_simp
      refine Calls.mono (n_mul H6.out H6.out _) ?_
      rintro e w23 ⟨v23, rfl, h23, b23⟩
      go_wp2_with fail
      refine hK.out _ _ (hHeld.trans (b23.mono (Nat.le_trans (Nat.le_refl _) hHeld.size))) (fun hHeld => ?_)
      clear hK K
      try simp only [List.getElem_toArray, List.getElem_cons_succ, List.getElem_cons_zero, Act.put, List.setIfInBounds_toArray, List.set_cons_zero, List.set_cons_succ]
      refine wpAnyH_ready (rs := [5]) (by kernel_rfl) (by simp) ?_
      refine AllReadyH.cons rfl (fun K hK => ?_) AllReadyH.nil
      go_simp
      refine Calls.mono (n_add HA.out isw0 _) ?_
      rintro e w26 ⟨v26, rfl, h26, b26⟩
      go_wp2_with fail
      refine hK.out _ _ (hHeld.trans (b26.mono (Nat.le_trans (Nat.le_refl _) hHeld.size))) (fun hHeld => ?_)
      clear hK K
      try simp only [List.getElem_toArray, List.getElem_cons_succ, List.getElem_cons_zero, Act.put, List.setIfInBounds_toArray, List.set_cons_zero, List.set_cons_succ]
      refine wpAnyH_take (i := 6) (v := .bool true) rfl (by kernel_rfl) (by kernel_rfl) (by kernel_rfl) (fun _ _ _ h => h) (Or.inl ⟨by rfl, fun w9 hSw => ?_⟩) hHeld ?_
      · have q := eqW' (b := false) h23 h26 (beq_eq_false_iff_ne.2 (by rw [Int.add_zero]; exact hB)) w9
        obtain ⟨p0, p1, p2, p3, rfl, _, _⟩ := h23
        obtain ⟨q0, q1, q2, q3, rfl, _, _⟩ := h26
        unfold W4 at q ⊢
        go_simp
      simp only [List.getElem_toArray, List.getElem_cons_succ, List.getElem_cons_zero, Act.put, List.setIfInBounds_toArray, List.set_cons_zero, List.set_cons_succ]
      refine wpAnyH_done (by kernel_rfl) ?_ _
      have V3 : Hid (VarW w26 w.heap.size (W4 a0 a1 a2 a3) ∧ VarW w26 (w.heap.size + 1) (W4 0 0 0 0) ∧ VarW w26 z6 v6 ∧ Below w.heap.size w w26 ∧ w.heap.size + 1 < z6) := ⟨V2.out.1.kept hHeld, V2.out.2.1.kept hHeld, V2.out.2.2.1.kept hHeld, V2.out.2.2.2.1.trans (hHeld.mono V2.out.2.2.2.1.size), V2.out.2.2.2.2⟩
      clear hHeld V2
      clear hB
      go_wp2_with fail
      refine Calls.mono (n_p _) ?_
      rintro e p1 ⟨u1, rfl, g1, k1⟩
      have G1 : Hid (Num p1 u1 32 PP) := g1
      clear g1
      go_wp2_with fail
      have kA : Below w26.heap.size w26 p1 := k1
      have G2 : Hid (Num p1 u1 33 PP) := G1.out.le (by decide)
      clear k1 G1
      have ky : Below p1.heap.size p1 (p1.alloc (.cells #[.int .i64 4] 3)) := (Below.refl _ _).alloc (Nat.le_refl _) _
      refine Calls.mono (n_quo _ _ _ 33 1 PP 4 (G2.out.below ky) (num1 4 (by decide) (by decide) p1) (by decide) (by decide) (by decide)) ?_
      rintro e wr4 ⟨v4, ur, rfl, g3, _, k3⟩
      have kwr4 : Below w26.heap.size w26 wr4 := (kA.trans (ky.mono kA.size)).trans (k3.mono (Nat.le_trans kA.size ky.size))
      have Gv4 : Hid (Num wr4 v4 33 (PP / 4)) := g3
      clear g3 G2 ky k3 kA
      go_wp2_with fail
      have V5 : Hid (VarW wr4 w.heap.size (W4 a0 a1 a2 a3) ∧ VarW wr4 (w.heap.size + 1) (W4 0 0 0 0) ∧ VarW wr4 z6 v6 ∧ Below w.heap.size w wr4 ∧ w.heap.size + 1 < z6) := ⟨V3.out.1.kept kwr4, V3.out.2.1.kept kwr4, V3.out.2.2.1.kept kwr4, V3.out.2.2.2.1.trans (kwr4.mono V3.out.2.2.2.1.size), V3.out.2.2.2.2⟩
      clear V3 kwr4
      try simp only [Act.put]
      go_cut [] (fun wx => ∃ (v : Value), IsW v (rt2 x) ∧ VarW wx z6 v ∧ Below z6 wr4 wx)
      case first =>
        have hz6 := V5.out.2.2.1
        have hBW : z6 ≤ wr4.heap.size := Nat.le_of_lt hz6.lt
        have hl6 : z6 ≤ z6 := Nat.le_refl _
        have g4 := Gv4.out
        refine wp_region_held_drew (S := fun w' => Below (z6) wr4 w') (by kernel_rfl) (Below.drew (Below.refl _ _)) (fun hHeld => ?_)
        replace hz6 := hz6.drew
        replace g4 := g4.below (Below.drew (Below.refl _ _))
        generalize wr4.drew = wd at hHeld hz6 g4 ⊢
        refine wpAnyH_take (i := 1) (v := W4 2 0 0 0) rfl (by kernel_rfl) (by kernel_rfl) (by kernel_rfl) (fun _ _ _ h => h) (Or.inl ⟨by rfl, fun w9 hSw => ?_⟩) hHeld ?_
        · go_simp
        simp only [List.getElem_toArray, List.getElem_cons_succ, List.getElem_cons_zero, Act.put, List.setIfInBounds_toArray, List.set_cons_zero, List.set_cons_succ]
        refine wpAnyH_take (i := 2) (v := v4) rfl (by kernel_rfl) (by kernel_rfl) (by kernel_rfl) (fun _ _ _ h => h) (Or.inl ⟨by rfl, fun w9 hSw => ?_⟩) hHeld ?_
        · go_simp
        simp only [List.getElem_toArray, List.getElem_cons_succ, List.getElem_cons_zero, Act.put, List.setIfInBounds_toArray, List.set_cons_zero, List.set_cons_succ]
        refine wpAnyH_ready (rs := [0, 3]) (by kernel_rfl) (by simp) ?_
        refine AllReadyH.cons rfl (fun K hK => ?_) (AllReadyH.cons rfl (fun K hK => ?_) AllReadyH.nil)
        · refine step_load_varW (by rfl) _ rfl (z6) rfl hz6 ?_
          refine hK.out _ _ hHeld (fun hHeld => ?_)
          clear hK K
          try simp only [List.getElem_toArray, List.getElem_cons_succ, List.getElem_cons_zero, Act.put, List.setIfInBounds_toArray, List.set_cons_zero, List.set_cons_succ]
          refine wpAnyH_ready (rs := [3]) (by kernel_rfl) (by simp) ?_
          refine AllReadyH.cons rfl (fun K hK => ?_) AllReadyH.nil
          go_simp
          refine Calls.mono (n_word _ _ 33 (PP / 4) g4 (by decide)) ?_
          rintro e w37 ⟨v37, rfl, h37, b37⟩
          replace hz6 := hz6.kept b37
          replace g4 := g4.below b37
          go_wp2_with fail
          refine hK.out _ _ (hHeld.trans (b37.mono (Nat.le_trans hBW hHeld.size))) (fun hHeld => ?_)
          clear hK K
          try simp only [List.getElem_toArray, List.getElem_cons_succ, List.getElem_cons_zero, Act.put, List.setIfInBounds_toArray, List.set_cons_zero, List.set_cons_succ]
          refine wpAnyH_ready (rs := [4]) (by kernel_rfl) (by simp) ?_
          refine AllReadyH.cons rfl (fun K hK => ?_) AllReadyH.nil
          go_simp
          refine Calls.mono (n_pow E4 isw2 (q4 ▸ h37) _) ?_
          rintro e w38 ⟨v38, rfl, h38, b38⟩
          replace hz6 := hz6.kept b38
          replace g4 := g4.below b38
          go_wp2_with fail
          refine hK.out _ _ (hHeld.trans (b38.mono (Nat.le_trans hBW hHeld.size))) (fun hHeld => ?_)
          clear hK K
          try simp only [List.getElem_toArray, List.getElem_cons_succ, List.getElem_cons_zero, Act.put, List.setIfInBounds_toArray, List.set_cons_zero, List.set_cons_succ]
          refine wpAnyH_ready (rs := [5]) (by kernel_rfl) (by simp) ?_
          refine AllReadyH.cons rfl (fun K hK => ?_) AllReadyH.nil
          go_simp
          refine Calls.mono (n_mul H6.out h38 _) ?_
          rintro e w39 ⟨v39, rfl, h39, b39⟩
          replace hz6 := hz6.kept b39
          replace g4 := g4.below b39
          go_wp2_with fail
          refine hK.out _ _ (hHeld.trans (b39.mono (Nat.le_trans hBW hHeld.size))) (fun hHeld => ?_)
          clear hK K
          try simp only [List.getElem_toArray, List.getElem_cons_succ, List.getElem_cons_zero, Act.put, List.setIfInBounds_toArray, List.set_cons_zero, List.set_cons_succ]
          refine wpAnyH_ready (rs := [6]) (by kernel_rfl) (by simp) ?_
          refine AllReadyH.cons rfl (fun K hK => ?_) AllReadyH.nil
          refine step_store_varW (u := v39) (by rfl) _ _ rfl (z6) rfl rfl h39 hz6 ?_
          refine hK.out _ _ (below_setRow hHeld hl6 _) (fun hHeld => ?_)
          clear hK K
          try simp only [List.getElem_toArray, List.getElem_cons_succ, List.getElem_cons_zero, Act.put, List.setIfInBounds_toArray, List.set_cons_zero, List.set_cons_succ]
          replace hz6 := hz6.put h39
          generalize w39.setRow (z6) (cw v39) = wst at hz6  hHeld ⊢
          refine wpAnyH_done (by kernel_rfl) ?_ _
          go_wp2_with fail
          go_meet
          case rel => exact ⟨_, h39, hz6, hHeld⟩
        · go_simp
          refine Calls.mono (n_word _ _ 33 (PP / 4) g4 (by decide)) ?_
          rintro e w37 ⟨v37, rfl, h37, b37⟩
          replace hz6 := hz6.kept b37
          replace g4 := g4.below b37
          go_wp2_with fail
          refine hK.out _ _ (hHeld.trans (b37.mono (Nat.le_trans hBW hHeld.size))) (fun hHeld => ?_)
          clear hK K
          try simp only [List.getElem_toArray, List.getElem_cons_succ, List.getElem_cons_zero, Act.put, List.setIfInBounds_toArray, List.set_cons_zero, List.set_cons_succ]
          refine wpAnyH_ready (rs := [0, 4]) (by kernel_rfl) (by simp) ?_
          refine AllReadyH.cons rfl (fun K hK => ?_) (AllReadyH.cons rfl (fun K hK => ?_) AllReadyH.nil)
          · refine step_load_varW (by rfl) _ rfl (z6) rfl hz6 ?_
            refine hK.out _ _ hHeld (fun hHeld => ?_)
            clear hK K
            try simp only [List.getElem_toArray, List.getElem_cons_succ, List.getElem_cons_zero, Act.put, List.setIfInBounds_toArray, List.set_cons_zero, List.set_cons_succ]
            refine wpAnyH_ready (rs := [4]) (by kernel_rfl) (by simp) ?_
            refine AllReadyH.cons rfl (fun K hK => ?_) AllReadyH.nil
            go_simp
            refine Calls.mono (n_pow E4 isw2 (q4 ▸ h37) _) ?_
            rintro e w38 ⟨v38, rfl, h38, b38⟩
            replace hz6 := hz6.kept b38
            replace g4 := g4.below b38
            go_wp2_with fail
            refine hK.out _ _ (hHeld.trans (b38.mono (Nat.le_trans hBW hHeld.size))) (fun hHeld => ?_)
            clear hK K
            try simp only [List.getElem_toArray, List.getElem_cons_succ, List.getElem_cons_zero, Act.put, List.setIfInBounds_toArray, List.set_cons_zero, List.set_cons_succ]
            refine wpAnyH_ready (rs := [5]) (by kernel_rfl) (by simp) ?_
            refine AllReadyH.cons rfl (fun K hK => ?_) AllReadyH.nil
            go_simp
            refine Calls.mono (n_mul H6.out h38 _) ?_
            rintro e w39 ⟨v39, rfl, h39, b39⟩
            replace hz6 := hz6.kept b39
            replace g4 := g4.below b39
            go_wp2_with fail
            refine hK.out _ _ (hHeld.trans (b39.mono (Nat.le_trans hBW hHeld.size))) (fun hHeld => ?_)
            clear hK K
            try simp only [List.getElem_toArray, List.getElem_cons_succ, List.getElem_cons_zero, Act.put, List.setIfInBounds_toArray, List.set_cons_zero, List.set_cons_succ]
            refine wpAnyH_ready (rs := [6]) (by kernel_rfl) (by simp) ?_
            refine AllReadyH.cons rfl (fun K hK => ?_) AllReadyH.nil
            refine step_store_varW (u := v39) (by rfl) _ _ rfl (z6) rfl rfl h39 hz6 ?_
            refine hK.out _ _ (below_setRow hHeld hl6 _) (fun hHeld => ?_)
            clear hK K
            try simp only [List.getElem_toArray, List.getElem_cons_succ, List.getElem_cons_zero, Act.put, List.setIfInBounds_toArray, List.set_cons_zero, List.set_cons_succ]
            replace hz6 := hz6.put h39
            generalize w39.setRow (z6) (cw v39) = wst at hz6  hHeld ⊢
            refine wpAnyH_done (by kernel_rfl) ?_ _
            go_wp2_with fail
            go_meet
            case rel => exact ⟨_, h39, hz6, hHeld⟩
          · go_simp
            refine Calls.mono (n_pow E4 isw2 (q4 ▸ h37) _) ?_
            rintro e w38 ⟨v38, rfl, h38, b38⟩
            replace hz6 := hz6.kept b38
            replace g4 := g4.below b38
            go_wp2_with fail
            refine hK.out _ _ (hHeld.trans (b38.mono (Nat.le_trans hBW hHeld.size))) (fun hHeld => ?_)
            clear hK K
            try simp only [List.getElem_toArray, List.getElem_cons_succ, List.getElem_cons_zero, Act.put, List.setIfInBounds_toArray, List.set_cons_zero, List.set_cons_succ]
            refine wpAnyH_ready (rs := [0]) (by kernel_rfl) (by simp) ?_
            refine AllReadyH.cons rfl (fun K hK => ?_) AllReadyH.nil
            refine step_load_varW (by rfl) _ rfl (z6) rfl hz6 ?_
            refine hK.out _ _ hHeld (fun hHeld => ?_)
            clear hK K
            try simp only [List.getElem_toArray, List.getElem_cons_succ, List.getElem_cons_zero, Act.put, List.setIfInBounds_toArray, List.set_cons_zero, List.set_cons_succ]
            refine wpAnyH_ready (rs := [5]) (by kernel_rfl) (by simp) ?_
            refine AllReadyH.cons rfl (fun K hK => ?_) AllReadyH.nil
            go_simp
            refine Calls.mono (n_mul H6.out h38 _) ?_
            rintro e w39 ⟨v39, rfl, h39, b39⟩
            replace hz6 := hz6.kept b39
            replace g4 := g4.below b39
            go_wp2_with fail
            refine hK.out _ _ (hHeld.trans (b39.mono (Nat.le_trans hBW hHeld.size))) (fun hHeld => ?_)
            clear hK K
            try simp only [List.getElem_toArray, List.getElem_cons_succ, List.getElem_cons_zero, Act.put, List.setIfInBounds_toArray, List.set_cons_zero, List.set_cons_succ]
            refine wpAnyH_ready (rs := [6]) (by kernel_rfl) (by simp) ?_
            refine AllReadyH.cons rfl (fun K hK => ?_) AllReadyH.nil
            refine step_store_varW (u := v39) (by rfl) _ _ rfl (z6) rfl rfl h39 hz6 ?_
            refine hK.out _ _ (below_setRow hHeld hl6 _) (fun hHeld => ?_)
            clear hK K
            try simp only [List.getElem_toArray, List.getElem_cons_succ, List.getElem_cons_zero, Act.put, List.setIfInBounds_toArray, List.set_cons_zero, List.set_cons_succ]
            replace hz6 := hz6.put h39
            generalize w39.setRow (z6) (cw v39) = wst at hz6  hHeld ⊢
            refine wpAnyH_done (by kernel_rfl) ?_ _
            go_wp2_with fail
            go_meet
            case rel => exact ⟨_, h39, hz6, hHeld⟩
      case rest =>
        obtain ⟨v7, h7, hz7, k7⟩ := hcut
        have H7 : Hid (IsW v7 (rt2 x)) := h7
        have V6 : Hid (VarW wc w.heap.size (W4 a0 a1 a2 a3) ∧ VarW wc (w.heap.size + 1) (W4 0 0 0 0) ∧ VarW wc z6 v7 ∧ Below w.heap.size w wc ∧ w.heap.size + 1 < z6) := ⟨V5.out.1.keptB k7 (by have := V5.out.2.2.2.2; omega), V5.out.2.1.keptB k7 (by have := V5.out.2.2.2.2; omega), hz7, V5.out.2.2.2.1.trans (k7.mono (by have := V5.out.2.2.2.2; omega)), V5.out.2.2.2.2⟩
        have RB2 : Hid (0 ≤ rt2 x ∧ rt2 x < PP) := mod_PP _
        clear V5 h7 hz7 k7 Gv4 H6 RB1
        by_cases hC : rt2 x * rt2 x % PP = x % PP
        · have HR : Hid (sqrtR x = evenR (rt2 x)) := by show _ = _; rw [HR1.out, if_pos hC]
          have HB : Hid (sqrtB x = true) := by show _ = _; rw [HB1.out, decide_eq_true hC]
          go_wp2_with fail
          refine wp_region_held_drew (S := fun w' => Below (wc.heap.size) wc w') (by kernel_rfl) (Below.drew (Below.refl _ _)) (fun hHeld => ?_)
          generalize wc.drew = wd at hHeld  ⊢
          refine wpAnyH_take (i := 0) (v := v7) rfl (by kernel_rfl) (by kernel_rfl) (by kernel_rfl) (fun _ _ _ h => h) (Or.inl ⟨by rfl, fun w9 hSw => ?_⟩) hHeld ?_
          · exact run_load_exec 24 _ rfl _ rfl (V6.out.2.2.1.kept hSw).load
          simp only [List.getElem_toArray, List.getElem_cons_succ, List.getElem_cons_zero, Act.put, List.setIfInBounds_toArray, List.set_cons_zero, List.set_cons_succ]
          refine wpAnyH_take (i := 1) (v := v7) rfl (by kernel_rfl) (by kernel_rfl) (by kernel_rfl) (fun _ _ _ h => h) (Or.inl ⟨by rfl, fun w9 hSw => ?_⟩) hHeld ?_
          · exact run_load_exec 24 _ rfl _ rfl (V6.out.2.2.1.kept hSw).load
          simp only [List.getElem_toArray, List.getElem_cons_succ, List.getElem_cons_zero, Act.put, List.setIfInBounds_toArray, List.set_cons_zero, List.set_cons_succ]
          refine wpAnyH_take (i := 3) (v := W4 a0 a1 a2 a3) rfl (by kernel_rfl) (by kernel_rfl) (by kernel_rfl) (fun _ _ _ h => h) (Or.inl ⟨by rfl, fun w9 hSw => ?_⟩) hHeld ?_
          · exact run_load_exec 24 _ rfl _ rfl (V6.out.1.kept hSw).load
          simp only [List.getElem_toArray, List.getElem_cons_succ, List.getElem_cons_zero, Act.put, List.setIfInBounds_toArray, List.set_cons_zero, List.set_cons_succ]
          refine wpAnyH_take (i := 4) (v := W4 0 0 0 0) rfl (by kernel_rfl) (by kernel_rfl) (by kernel_rfl) (fun _ _ _ h => h) (Or.inl ⟨by rfl, fun w9 hSw => ?_⟩) hHeld ?_
          · go_simp
          simp only [List.getElem_toArray, List.getElem_cons_succ, List.getElem_cons_zero, Act.put, List.setIfInBounds_toArray, List.set_cons_zero, List.set_cons_succ]
          refine wpAnyH_ready (rs := [2]) (by kernel_rfl) (by simp) ?_
          refine AllReadyH.cons rfl (fun K hK => ?_) AllReadyH.nil
          go_simp
          refine Calls.mono (n_mul H7.out H7.out _) ?_
          rintro e w42 ⟨v42, rfl, h42, b42⟩
          go_wp2_with fail
          refine hK.out _ _ (hHeld.trans (b42.mono (Nat.le_trans (Nat.le_refl _) hHeld.size))) (fun hHeld => ?_)
          clear hK K
          try simp only [List.getElem_toArray, List.getElem_cons_succ, List.getElem_cons_zero, Act.put, List.setIfInBounds_toArray, List.set_cons_zero, List.set_cons_succ]
          refine wpAnyH_ready (rs := [5]) (by kernel_rfl) (by simp) ?_
          refine AllReadyH.cons rfl (fun K hK => ?_) AllReadyH.nil
          go_simp
          refine Calls.mono (n_add HA.out isw0 _) ?_
          rintro e w45 ⟨v45, rfl, h45, b45⟩
          go_wp2_with fail
          refine hK.out _ _ (hHeld.trans (b45.mono (Nat.le_trans (Nat.le_refl _) hHeld.size))) (fun hHeld => ?_)
          clear hK K
          try simp only [List.getElem_toArray, List.getElem_cons_succ, List.getElem_cons_zero, Act.put, List.setIfInBounds_toArray, List.set_cons_zero, List.set_cons_succ]
          refine wpAnyH_take (i := 6) (v := .bool false) rfl (by kernel_rfl) (by kernel_rfl) (by kernel_rfl) (fun _ _ _ h => h) (Or.inl ⟨by rfl, fun w9 hSw => ?_⟩) hHeld ?_
          · have q := eqW' (b := true) h42 h45 (beq_iff_eq.2 (by rw [Int.add_zero]; exact hC)) w9
            obtain ⟨p0, p1, p2, p3, rfl, _, _⟩ := h42
            obtain ⟨q0, q1, q2, q3, rfl, _, _⟩ := h45
            unfold W4 at q ⊢
            go_simp
          simp only [List.getElem_toArray, List.getElem_cons_succ, List.getElem_cons_zero, Act.put, List.setIfInBounds_toArray, List.set_cons_zero, List.set_cons_succ]
          refine wpAnyH_done (by kernel_rfl) ?_ _
          have V7 : Hid (VarW w45 w.heap.size (W4 a0 a1 a2 a3) ∧ VarW w45 (w.heap.size + 1) (W4 0 0 0 0) ∧ VarW w45 z6 v7 ∧ Below w.heap.size w w45 ∧ w.heap.size + 1 < z6) := ⟨V6.out.1.kept hHeld, V6.out.2.1.kept hHeld, V6.out.2.2.1.kept hHeld, V6.out.2.2.2.1.trans (hHeld.mono V6.out.2.2.2.1.size), V6.out.2.2.2.2⟩
          clear hHeld V6
          clear hC
          have F : Hid (VarW w45 z6 v7 ∧ VarW w45 (w.heap.size + 1) (W4 0 0 0 0) ∧ Below w.heap.size w w45 ∧ w.heap.size + 1 < z6) := ⟨V7.out.2.2.1, V7.out.2.1, V7.out.2.2.2.1, V7.out.2.2.2.2⟩
          have RB : Hid (0 ≤ rt2 x ∧ rt2 x < PP) := RB2
          clear V7 RB2
          obtain ⟨r0, r1, r2, r3, rfl, lr, nr⟩ := H7.out
          have c0 := cell0 F.out.1
          have hpar := limb_par lr nr
          clear lr nr
          by_cases hodd : (rt2 x) % 2 = 1
          · rw [hodd] at hpar
            go_wp2_with (first | (refine wpList_load_varW rfl _ rfl z6 rfl F.out.1 ?_))
            refine Calls.mono (n_sub isw0 H7.out _) ?_
            rintro e q1 ⟨t1, rfl, ht, kq⟩
            rw [neg_even RB.out hodd] at ht
            have Q1 : Hid (VarW q1 z6 (W4 r0 r1 r2 r3) ∧ VarW q1 (w.heap.size + 1) (W4 0 0 0 0) ∧ Below w.heap.size w q1) := ⟨F.out.1.kept kq, F.out.2.1.kept kq, F.out.2.2.1.trans (kq.mono F.out.2.2.1.size)⟩
            have Q2 : Hid (VarW (q1.setRow z6 (cw t1)) z6 t1 ∧ VarW (q1.setRow z6 (cw t1)) (w.heap.size + 1) (W4 0 0 0 0) ∧ Below w.heap.size w (q1.setRow z6 (cw t1))) := ⟨Q1.out.1.put ht, Q1.out.2.1.other (by have := F.out.2.2.2; omega) _, below_setRow Q1.out.2.2 (by have := F.out.2.2.2; omega) _⟩
            have hzz : Hid (w.heap.size + 1 < z6) := F.out.2.2.2
            have HT : Hid (IsW t1 (evenR (rt2 x))) := ht
            clear hpar c0 kq hodd F H7
            go_wp2_with (first | (refine wpList_store_varW (u := t1) rfl _ _ rfl z6 rfl rfl ht Q1.out.1 ?_) | (refine wpList_load_varW rfl _ rfl z6 rfl Q2.out.1 ?_) | (refine wpList_store_varW (u := t1) rfl _ _ rfl (w.heap.size + 1) rfl rfl HT.out Q2.out.2.1 ?_))
            have hl := (Q2.out.2.1.put HT.out).load
            exact bodyPost_ret (v := .tuple #[t1, .bool true]) (by simp [results, Try.results19, asAddr, hl]) rfl ⟨_, by rw [HB.out], by rw [HR.out]; exact HT.out, below_setRow Q2.out.2.2 (by omega) _⟩
          · have hev : (rt2 x) % 2 = 0 := by omega
            rw [hev] at hpar
            go_wp2_with (first | (refine wpList_load_varW rfl _ rfl z6 rfl F.out.1 ?_) | (refine wpList_store_varW (u := W4 r0 r1 r2 r3) rfl _ _ rfl (w.heap.size + 1) rfl rfl H7.out F.out.2.1 ?_))
            have hl := (F.out.2.1.put H7.out).load
            exact bodyPost_ret (v := .tuple #[W4 r0 r1 r2 r3, .bool true]) (by simp [results, Try.results19, asAddr, hl]) rfl ⟨_, by rw [HB.out], by rw [HR.out, evenR_even hodd]; exact H7.out, below_setRow F.out.2.2.1 (by omega) _⟩
        · have HR : Hid (sqrtR x = 0) := by show _ = _; rw [HR1.out, if_neg hC]
          have HB : Hid (sqrtB x = false) := by show _ = _; rw [HB1.out, decide_eq_false hC]
          go_wp2_with fail
          refine wp_region_held_drew (S := fun w' => Below (wc.heap.size) wc w') (by kernel_rfl) (Below.drew (Below.refl _ _)) (fun hHeld => ?_)
          generalize wc.drew = wd at hHeld  ⊢
          refine wpAnyH_take (i := 0) (v := v7) rfl (by kernel_rfl) (by kernel_rfl) (by kernel_rfl) (fun _ _ _ h => h) (Or.inl ⟨by rfl, fun w9 hSw => ?_⟩) hHeld ?_
          · exact run_load_exec 24 _ rfl _ rfl (V6.out.2.2.1.kept hSw).load
          simp only [List.getElem_toArray, List.getElem_cons_succ, List.getElem_cons_zero, Act.put, List.setIfInBounds_toArray, List.set_cons_zero, List.set_cons_succ]
          refine wpAnyH_take (i := 1) (v := v7) rfl (by kernel_rfl) (by kernel_rfl) (by kernel_rfl) (fun _ _ _ h => h) (Or.inl ⟨by rfl, fun w9 hSw => ?_⟩) hHeld ?_
          · exact run_load_exec 24 _ rfl _ rfl (V6.out.2.2.1.kept hSw).load
          simp only [List.getElem_toArray, List.getElem_cons_succ, List.getElem_cons_zero, Act.put, List.setIfInBounds_toArray, List.set_cons_zero, List.set_cons_succ]
          refine wpAnyH_take (i := 3) (v := W4 a0 a1 a2 a3) rfl (by kernel_rfl) (by kernel_rfl) (by kernel_rfl) (fun _ _ _ h => h) (Or.inl ⟨by rfl, fun w9 hSw => ?_⟩) hHeld ?_
          · exact run_load_exec 24 _ rfl _ rfl (V6.out.1.kept hSw).load
          simp only [List.getElem_toArray, List.getElem_cons_succ, List.getElem_cons_zero, Act.put, List.setIfInBounds_toArray, List.set_cons_zero, List.set_cons_succ]
          refine wpAnyH_take (i := 4) (v := W4 0 0 0 0) rfl (by kernel_rfl) (by kernel_rfl) (by kernel_rfl) (fun _ _ _ h => h) (Or.inl ⟨by rfl, fun w9 hSw => ?_⟩) hHeld ?_
          · go_simp
          simp only [List.getElem_toArray, List.getElem_cons_succ, List.getElem_cons_zero, Act.put, List.setIfInBounds_toArray, List.set_cons_zero, List.set_cons_succ]
          refine wpAnyH_ready (rs := [2]) (by kernel_rfl) (by simp) ?_
          refine AllReadyH.cons rfl (fun K hK => ?_) AllReadyH.nil
          go_simp
          refine Calls.mono (n_mul H7.out H7.out _) ?_
          rintro e w42 ⟨v42, rfl, h42, b42⟩
          go_wp2_with fail
          refine hK.out _ _ (hHeld.trans (b42.mono (Nat.le_trans (Nat.le_refl _) hHeld.size))) (fun hHeld => ?_)
          clear hK K
          try simp only [List.getElem_toArray, List.getElem_cons_succ, List.getElem_cons_zero, Act.put, List.setIfInBounds_toArray, List.set_cons_zero, List.set_cons_succ]
          refine wpAnyH_ready (rs := [5]) (by kernel_rfl) (by simp) ?_
          refine AllReadyH.cons rfl (fun K hK => ?_) AllReadyH.nil
          go_simp
          refine Calls.mono (n_add HA.out isw0 _) ?_
          rintro e w45 ⟨v45, rfl, h45, b45⟩
          go_wp2_with fail
          refine hK.out _ _ (hHeld.trans (b45.mono (Nat.le_trans (Nat.le_refl _) hHeld.size))) (fun hHeld => ?_)
          clear hK K
          try simp only [List.getElem_toArray, List.getElem_cons_succ, List.getElem_cons_zero, Act.put, List.setIfInBounds_toArray, List.set_cons_zero, List.set_cons_succ]
          refine wpAnyH_take (i := 6) (v := .bool true) rfl (by kernel_rfl) (by kernel_rfl) (by kernel_rfl) (fun _ _ _ h => h) (Or.inl ⟨by rfl, fun w9 hSw => ?_⟩) hHeld ?_
          · have q := eqW' (b := false) h42 h45 (beq_eq_false_iff_ne.2 (by rw [Int.add_zero]; exact hC)) w9
            obtain ⟨p0, p1, p2, p3, rfl, _, _⟩ := h42
            obtain ⟨q0, q1, q2, q3, rfl, _, _⟩ := h45
            unfold W4 at q ⊢
            go_simp
          simp only [List.getElem_toArray, List.getElem_cons_succ, List.getElem_cons_zero, Act.put, List.setIfInBounds_toArray, List.set_cons_zero, List.set_cons_succ]
          refine wpAnyH_done (by kernel_rfl) ?_ _
          have V7 : Hid (VarW w45 w.heap.size (W4 a0 a1 a2 a3) ∧ VarW w45 (w.heap.size + 1) (W4 0 0 0 0) ∧ VarW w45 z6 v7 ∧ Below w.heap.size w w45 ∧ w.heap.size + 1 < z6) := ⟨V6.out.1.kept hHeld, V6.out.2.1.kept hHeld, V6.out.2.2.1.kept hHeld, V6.out.2.2.2.1.trans (hHeld.mono V6.out.2.2.2.1.size), V6.out.2.2.2.2⟩
          clear hHeld V6
          clear hC
          go_wp2_with (first | (refine wpList_build rfl 24 _ rfl (by kernel_rfl) ?_; generalize hG : (Program.built _ _ _).getD #[] = G; obtain rfl : G = C4 0 0 0 0 := by rw [← hG]; kernel_rfl) | (refine wpList_store_varW (u := W4 0 0 0 0) rfl _ _ rfl (w.heap.size + 1) rfl rfl isw0 V7.out.2.1 ?_))
          have hl := (V7.out.2.1.put isw0).load
          exact bodyPost_ret (v := .tuple #[W4 0 0 0 0, .bool false]) (by simp [results, Try.results19, asAddr, hl]) rfl ⟨_, by rw [HB.out], by rw [HR.out]; exact isw0, below_setRow V7.out.2.2.2.1 (by omega) _⟩
end Go.Proofs.Ytmflilgppllebaa
