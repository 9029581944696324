/- conclaveref04: Inv. -/
import Derived.Test.YtmflilgppllebaaGQ
namespace Go.Proofs.Ytmflilgppllebaa
open Go.RowKit
set_option linter.unusedSimpArgs false
set_option linter.unusedVariables false

theorem num1 (c : Int) (h0 : 0 ≤ c) (h1 : c < 256) (w : World) : Num (w.alloc (.cells #[.int .i64 c] 3)) (.slice (some ⟨w.heap.size, 0, none⟩) 1 1) 1 c := by
  have h := num_lit w [c] (fun k => by
    cases k with
    | zero => exact ⟨h0, h1⟩
    | succ k => simp)
  rw [show valB [c] = c by simp [valB]] at h
  exact h
set_option maxRecDepth 20000 in
set_option maxHeartbeats 2000000 in
/-- conclaveref04.Inv -/
theorem n_inv {va : Value} {a : Int} (ha : IsW va a) : GivesW 21 #[va] (a ^ E2 % PP) := fun w => by
  have HA : Hid (IsW va a) := ha
  obtain ⟨a0, a1, a2, a3, rfl, la, na⟩ := ha
  have V0 : Hid (VarW ((w.alloc (.cells (C4 a0 a1 a2 a3) 24)).alloc (.cells (C4 0 0 0 0) 24)) w.heap.size (W4 a0 a1 a2 a3) ∧ VarW ((w.alloc (.cells (C4 a0 a1 a2 a3) 24)).alloc (.cells (C4 0 0 0 0) 24)) (w.heap.size + 1) (W4 0 0 0 0) ∧ Below w.heap.size w ((w.alloc (.cells (C4 a0 a1 a2 a3) 24)).alloc (.cells (C4 0 0 0 0) 24))) :=
    ⟨VarW.mk la (heap_old _ _ _ _ (heap_alloc_new _ _)), ⟨⟨0, isw0⟩, heapAt _ _ _ (by simp)⟩, by go_grown⟩
  clear la na
  go_enter Try.func21, Try.ntmps21
  unfold W4
  go_wp2
  generalize ((w.alloc (.cells (C4 a0 a1 a2 a3) 24)).alloc (.cells (C4 0 0 0 0) 24)) = W0 at V0 ⊢
  have hzr : VarW W0 (w.heap.size + 1) (W4 0 0 0 0) := V0.out.2.1
  have hlr : w.heap.size + 1 ≤ w.heap.size + 1 := Nat.le_refl _
  have hBW : w.heap.size + 1 ≤ W0.heap.size := Nat.le_of_lt hzr.lt
  refine wp_region_held_drew (S := fun w' => Below (w.heap.size + 1) W0 w') (by kernel_rfl) (Below.drew (Below.refl _ _)) (fun hHeld => ?_)
  replace hzr := hzr.drew
  generalize W0.drew = wd at hHeld hzr ⊢
  refine wpAnyH_take (i := 0) (v := W4 a0 a1 a2 a3) rfl (by kernel_rfl) (by kernel_rfl) (by kernel_rfl) (fun _ _ _ h => h) (Or.inl ⟨by rfl, fun w9 hSw => ?_⟩) hHeld ?_
  · exact run_load_exec 24 _ rfl _ rfl (V0.out.1.keptB hSw (by omega)).load
  simp only [List.getElem_toArray, List.getElem_cons_succ, List.getElem_cons_zero, Act.put, List.setIfInBounds_toArray, List.set_cons_zero, List.set_cons_succ]
  refine wpAnyH_ready (rs := [1, 2]) (by kernel_rfl) (by simp) ?_
  refine AllReadyH.cons rfl (fun K hK => ?_) (AllReadyH.cons rfl (fun K hK => ?_) AllReadyH.nil)
  · go_simp
    refine Calls.mono (n_p _) ?_
    rintro e w4 ⟨v4, rfl, h4, b4⟩
    replace hzr := hzr.kept b4
    go_wp2_with fail
    refine hK.out _ _ (hHeld.trans (b4.mono (Nat.le_trans hBW hHeld.size))) (fun hHeld => ?_)
    clear hK K
    try simp only [List.getElem_toArray, List.getElem_cons_succ, List.getElem_cons_zero, Act.put, List.setIfInBounds_toArray, List.set_cons_zero, List.set_cons_succ]
    refine wpAnyH_ready (rs := [2]) (by kernel_rfl) (by simp) ?_
    refine AllReadyH.cons rfl (fun K hK => ?_) AllReadyH.nil
    go_simp
    have h5 := num1 2 (by decide) (by decide) w4
    have bx : Below w4.heap.size w4 (w4.alloc (.cells #[.int .i64 2] 3)) := (Below.refl _ _).alloc (Nat.le_refl _) _
    replace hzr := hzr.kept bx
    replace h4 := h4.below bx
    refine hK.out _ _ (hHeld.trans (bx.mono (Nat.le_trans hBW hHeld.size))) (fun hHeld => ?_)
    clear hK K bx
    try simp only [List.getElem_toArray, List.getElem_cons_succ, List.getElem_cons_zero, Act.put, List.setIfInBounds_toArray, List.set_cons_zero, List.set_cons_succ]
    generalize w4.heap.size = z5 at h5 ⊢
    generalize w4.alloc (.cells #[.int .i64 2] 3) = wa5 at h5 hzr h4 hHeld ⊢
    refine wpAnyH_ready (rs := [3]) (by kernel_rfl) (by simp) ?_
    refine AllReadyH.cons rfl (fun K hK => ?_) AllReadyH.nil
    go_simp
    refine Calls.mono (n_less _ _ _ 32 1 PP 2 h4 h5 (by decide) (by decide) (by decide) (by decide)) ?_
    rintro e w6 ⟨v6, rfl, h6, b6⟩
    replace hzr := hzr.kept b6
    replace h4 := h4.below b6
    replace h5 := h5.below b6
    go_wp2_with fail
    refine hK.out _ _ (hHeld.trans (b6.mono (Nat.le_trans hBW hHeld.size))) (fun hHeld => ?_)
    clear hK K
    try simp only [List.getElem_toArray, List.getElem_cons_succ, List.getElem_cons_zero, Act.put, List.setIfInBounds_toArray, List.set_cons_zero, List.set_cons_succ]
    refine wpAnyH_ready (rs := [4]) (by kernel_rfl) (by simp) ?_
    refine AllReadyH.cons rfl (fun K hK => ?_) AllReadyH.nil
    go_simp
    refine Calls.mono (n_word _ _ 32 (PP - 2) h6 (by decide)) ?_
    rintro e w7 ⟨v7, rfl, h7, b7⟩
    replace hzr := hzr.kept b7
    replace h4 := h4.below b7
    replace h5 := h5.below b7
    replace h6 := h6.below b7
    go_wp2_with fail
    refine hK.out _ _ (hHeld.trans (b7.mono (Nat.le_trans hBW hHeld.size))) (fun hHeld => ?_)
    clear hK K
    try simp only [List.getElem_toArray, List.getElem_cons_succ, List.getElem_cons_zero, Act.put, List.setIfInBounds_toArray, List.set_cons_zero, List.set_cons_succ]
    refine wpAnyH_ready (rs := [5]) (by kernel_rfl) (by simp) ?_
    refine AllReadyH.cons rfl (fun K hK => ?_) AllReadyH.nil
    go_simp
    refine Calls.mono (n_pow E2 HA.out (e2_val ▸ h7) _) ?_
    rintro e w8 ⟨v8, rfl, h8, b8⟩
    replace hzr := hzr.kept b8
    replace h4 := h4.below b8
    replace h5 := h5.below b8
    replace h6 := h6.below b8
    go_wp2_with fail
    refine hK.out _ _ (hHeld.trans (b8.mono (Nat.le_trans hBW hHeld.size))) (fun hHeld => ?_)
    clear hK K
    try simp only [List.getElem_toArray, List.getElem_cons_succ, List.getElem_cons_zero, Act.put, List.setIfInBounds_toArray, List.set_cons_zero, List.set_cons_succ]
    refine wpAnyH_ready (rs := [6]) (by kernel_rfl) (by simp) ?_
    refine AllReadyH.cons rfl (fun K hK => ?_) AllReadyH.nil
    refine step_store_varW (u := v8) (by rfl) _ _ rfl (w.heap.size + 1) rfl rfl h8 hzr ?_
    refine hK.out _ _ (below_setRow hHeld hlr _) (fun hHeld => ?_)
    clear hK K
    try simp only [List.getElem_toArray, List.getElem_cons_succ, List.getElem_cons_zero, Act.put, List.setIfInBounds_toArray, List.set_cons_zero, List.set_cons_succ]
    replace hzr := hzr.put h8
    generalize w8.setRow (w.heap.size + 1) (cw v8) = wst at hzr  hHeld ⊢
    refine wpAnyH_done (by kernel_rfl) ?_ _
    have hl := hzr.load
    have hB : Below w.heap.size w wst := V0.out.2.2.trans (hHeld.mono (by omega))
    go_wp2
    exact bodyPost_ret (v := v8) (by simp [results, Try.results21, asAddr, hl]) rfl ⟨_, rfl, h8, hB⟩
  · go_simp
    have h5 := num1 2 (by decide) (by decide) wd
    have bx : Below wd.heap.size wd (wd.alloc (.cells #[.int .i64 2] 3)) := (Below.refl _ _).alloc (Nat.le_refl _) _
    replace hzr := hzr.kept bx
    refine hK.out _ _ (hHeld.trans (bx.mono (Nat.le_trans hBW hHeld.size))) (fun hHeld => ?_)
    clear hK K bx
    try simp only [List.getElem_toArray, List.getElem_cons_succ, List.getElem_cons_zero, Act.put, List.setIfInBounds_toArray, List.set_cons_zero, List.set_cons_succ]
    generalize wd.heap.size = z5 at h5 ⊢
    generalize wd.alloc (.cells #[.int .i64 2] 3) = wa5 at h5 hzr hHeld ⊢
    refine wpAnyH_ready (rs := [1]) (by kernel_rfl) (by simp) ?_
    refine AllReadyH.cons rfl (fun K hK => ?_) AllReadyH.nil
    go_simp
    refine Calls.mono (n_p _) ?_
    rintro e w4 ⟨v4, rfl, h4, b4⟩
    replace hzr := hzr.kept b4
    replace h5 := h5.below b4
    go_wp2_with fail
    refine hK.out _ _ (hHeld.trans (b4.mono (Nat.le_trans hBW hHeld.size))) (fun hHeld => ?_)
    clear hK K
    try simp only [List.getElem_toArray, List.getElem_cons_succ, List.getElem_cons_zero, Act.put, List.setIfInBounds_toArray, List.set_cons_zero, List.set_cons_succ]
    refine wpAnyH_ready (rs := [3]) (by kernel_rfl) (by simp) ?_
    refine AllReadyH.cons rfl (fun K hK => ?_) AllReadyH.nil
    go_simp
    refine Calls.mono (n_less _ _ _ 32 1 PP 2 h4 h5 (by decide) (by decide) (by decide) (by decide)) ?_
    rintro e w6 ⟨v6, rfl, h6, b6⟩
    replace hzr := hzr.kept b6
    replace h5 := h5.below b6
    replace h4 := h4.below b6
    go_wp2_with fail
    refine hK.out _ _ (hHeld.trans (b6.mono (Nat.le_trans hBW hHeld.size))) (fun hHeld => ?_)
    clear hK K
    try simp only [List.getElem_toArray, List.getElem_cons_succ, List.getElem_cons_zero, Act.put, List.setIfInBounds_toArray, List.set_cons_zero, List.set_cons_succ]
    refine wpAnyH_ready (rs := [4]) (by kernel_rfl) (by simp) ?_
    refine AllReadyH.cons rfl (fun K hK => ?_) AllReadyH.nil
    go_simp
    refine Calls.mono (n_word _ _ 32 (PP - 2) h6 (by decide)) ?_
    rintro e w7 ⟨v7, rfl, h7, b7⟩
    replace hzr := hzr.kept b7
    replace h5 := h5.below b7
    replace h4 := h4.below b7
    replace h6 := h6.below b7
    go_wp2_with fail
    refine hK.out _ _ (hHeld.trans (b7.mono (Nat.le_trans hBW hHeld.size))) (fun hHeld => ?_)
    clear hK K
    try simp only [List.getElem_toArray, List.getElem_cons_succ, List.getElem_cons_zero, Act.put, List.setIfInBounds_toArray, List.set_cons_zero, List.set_cons_succ]
    refine wpAnyH_ready (rs := [5]) (by kernel_rfl) (by simp) ?_
    refine AllReadyH.cons rfl (fun K hK => ?_) AllReadyH.nil
    go_simp
    refine Calls.mono (n_pow E2 HA.out (e2_val ▸ h7) _) ?_
    rintro e w8 ⟨v8, rfl, h8, b8⟩
    replace hzr := hzr.kept b8
    replace h5 := h5.below b8
    replace h4 := h4.below b8
    replace h6 := h6.below b8
    go_wp2_with fail
    refine hK.out _ _ (hHeld.trans (b8.mono (Nat.le_trans hBW hHeld.size))) (fun hHeld => ?_)
    clear hK K
    try simp only [List.getElem_toArray, List.getElem_cons_succ, List.getElem_cons_zero, Act.put, List.setIfInBounds_toArray, List.set_cons_zero, List.set_cons_succ]
    refine wpAnyH_ready (rs := [6]) (by kernel_rfl) (by simp) ?_
    refine AllReadyH.cons rfl (fun K hK => ?_) AllReadyH.nil
    refine step_store_varW (u := v8) (by rfl) _ _ rfl (w.heap.size + 1) rfl rfl h8 hzr ?_
    refine hK.out _ _ (below_setRow hHeld hlr _) (fun hHeld => ?_)
    clear hK K
    try simp only [List.getElem_toArray, List.getElem_cons_succ, List.getElem_cons_zero, Act.put, List.setIfInBounds_toArray, List.set_cons_zero, List.set_cons_succ]
    replace hzr := hzr.put h8
    generalize w8.setRow (w.heap.size + 1) (cw v8) = wst at hzr  hHeld ⊢
    refine wpAnyH_done (by kernel_rfl) ?_ _
    have hl := hzr.load
    have hB : Below w.heap.size w wst := V0.out.2.2.trans (hHeld.mono (by omega))
    go_wp2
    exact bodyPost_ret (v := v8) (by simp [results, Try.results21, asAddr, hl]) rfl ⟨_, rfl, h8, hB⟩
end Go.Proofs.Ytmflilgppllebaa
