/- conclaveref04: Add, Sub, Mul. -/
import Derived.Test.YtmflilgppllebaaFO
namespace Go.Proofs.Ytmflilgppllebaa
open Go.RowKit
set_option linter.unusedSimpArgs false
set_option linter.unusedVariables false
set_option maxRecDepth 20000

set_option maxHeartbeats 1000000 in
/-- conclaveref04.Add -/
theorem n_add {va : Value} {a : Int} {vb : Value} {b : Int} (ha : IsW va a) (hb : IsW vb b) : GivesW 10 #[va, vb] ((a + b) % PP) := fun w => by
  have Ha : Hid _ := ha
  obtain ⟨a0, a1, a2, a3, rfl, la, na⟩ := ha
  clear la na
  have Hb : Hid _ := hb
  obtain ⟨b0, b1, b2, b3, rfl, lb, nb⟩ := hb
  clear lb nb
  have HA : Hid ((((w.alloc (.cells (C4 a0 a1 a2 a3) 24)).alloc (.cells (C4 b0 b1 b2 b3) 24)).alloc (.cells (C4 0 0 0 0) 24)).heap[w.heap.size]? = some (.cells (C4 a0 a1 a2 a3) 24 (0, 0)) ∧ (((w.alloc (.cells (C4 a0 a1 a2 a3) 24)).alloc (.cells (C4 b0 b1 b2 b3) 24)).alloc (.cells (C4 0 0 0 0) 24)).heap[w.heap.size + 1]? = some (.cells (C4 b0 b1 b2 b3) 24 (0, 0)) ∧ (((w.alloc (.cells (C4 a0 a1 a2 a3) 24)).alloc (.cells (C4 b0 b1 b2 b3) 24)).alloc (.cells (C4 0 0 0 0) 24)).heap[w.heap.size + 2]? = some (.cells (C4 0 0 0 0) 24 (0, 0)) ∧ Below w.heap.size w (((w.alloc (.cells (C4 a0 a1 a2 a3) 24)).alloc (.cells (C4 b0 b1 b2 b3) 24)).alloc (.cells (C4 0 0 0 0) 24))) := ⟨heap_old _ _ _ _ (heap_old _ _ _ _ (heap_alloc_new _ _)), heap_old _ _ _ _ (heapAt _ _ _ (by simp)), heapAt _ _ _ (by simp), by go_grown⟩
  go_enter Try.func10, Try.ntmps10
  unfold W4
  go_wp2
  generalize (((w.alloc (.cells (C4 a0 a1 a2 a3) 24)).alloc (.cells (C4 b0 b1 b2 b3) 24)).alloc (.cells (C4 0 0 0 0) 24)) = W at HA ⊢
  refine wp_region_held_drew (S := fun w' => w'.heap[w.heap.size]? = some (.cells (C4 a0 a1 a2 a3) 24 (0, 0)) ∧ w'.heap[w.heap.size + 1]? = some (.cells (C4 b0 b1 b2 b3) 24 (0, 0)) ∧ True) (by kernel_rfl) (⟨HA.out.1, HA.out.2.1, trivial⟩) (fun hHeld => ?_)
  refine wpAnyH_take (i := 0) (v := W4 a0 a1 a2 a3) rfl (by kernel_rfl) (by kernel_rfl) (by kernel_rfl) (fun _ _ _ h => h) (Or.inl ⟨by rfl, fun w9 hSw => ?_⟩) hHeld ?_
  · exact run_load_exec 24 _ rfl _ rfl (run_loadVar_row w9 _ 24 24 _ (0, 0) _ hSw.1 Try.underlying24 rfl (info24c _ _ _ _))
  simp only [List.getElem_toArray, List.getElem_cons_succ, List.getElem_cons_zero, Act.put, List.setIfInBounds_toArray, List.set_cons_zero, List.set_cons_succ]
  refine wpAnyH_take (i := 2) (v := W4 b0 b1 b2 b3) rfl (by kernel_rfl) (by kernel_rfl) (by kernel_rfl) (fun _ _ _ h => h) (Or.inl ⟨by rfl, fun w9 hSw => ?_⟩) hHeld ?_
  · exact run_load_exec 24 _ rfl _ rfl (run_loadVar_row w9 _ 24 24 _ (0, 0) _ hSw.2.1 Try.underlying24 rfl (info24c _ _ _ _))
  simp only [List.getElem_toArray, List.getElem_cons_succ, List.getElem_cons_zero, Act.put, List.setIfInBounds_toArray, List.set_cons_zero, List.set_cons_succ]
  refine wpAnyH_ready (rs := [1]) (by kernel_rfl) (by simp) ?_
  refine AllReadyH.cons rfl (fun K hK => ?_) AllReadyH.nil
  go_simp
  refine Calls.mono (n_of Ha.out _) ?_
  rintro e w0 ⟨u1, rfl, h1, b0⟩
  go_wp2_with fail
  refine hK.out _ _ ?_ (fun hHeld => ?_)
  · exact ⟨kept hHeld.1 b0, kept hHeld.2.1 b0, trivial⟩
  clear hK K
  try simp only [List.getElem_toArray, List.getElem_cons_succ, List.getElem_cons_zero, Act.put, List.setIfInBounds_toArray, List.set_cons_zero, List.set_cons_succ]
  refine wpAnyH_ready (rs := [3]) (by kernel_rfl) (by simp) ?_
  refine AllReadyH.cons rfl (fun K hK => ?_) AllReadyH.nil
  go_simp
  refine Calls.mono (n_of Hb.out _) ?_
  rintro e w1 ⟨u2, rfl, h2, b1⟩
  replace h1 := h1.below b1
  go_wp2_with fail
  refine hK.out _ _ ?_ (fun hHeld => ?_)
  · exact ⟨kept hHeld.1 b1, kept hHeld.2.1 b1, trivial⟩
  clear hK K
  try simp only [List.getElem_toArray, List.getElem_cons_succ, List.getElem_cons_zero, Act.put, List.setIfInBounds_toArray, List.set_cons_zero, List.set_cons_succ]
  refine wpAnyH_ready (rs := [4]) (by kernel_rfl) (by simp) ?_
  refine AllReadyH.cons rfl (fun K hK => ?_) AllReadyH.nil
  go_simp
  refine Calls.mono (n_plus _ _ _ 32 32 a b h1 h2 (by decide) (by decide)) ?_
  rintro e w2 ⟨u3, rfl, h3, b2⟩
  replace h1 := h1.below b2
  replace h2 := h2.below b2
  go_wp2_with fail
  refine hK.out _ _ ?_ (fun hHeld => ?_)
  · exact ⟨kept hHeld.1 b2, kept hHeld.2.1 b2, trivial⟩
  clear hK K
  try simp only [List.getElem_toArray, List.getElem_cons_succ, List.getElem_cons_zero, Act.put, List.setIfInBounds_toArray, List.set_cons_zero, List.set_cons_succ]
  refine wpAnyH_ready (rs := [5]) (by kernel_rfl) (by simp) ?_
  refine AllReadyH.cons rfl (fun K hK => ?_) AllReadyH.nil
  go_simp
  refine Calls.mono (n_p _) ?_
  rintro e w3 ⟨u4, rfl, h4, b3⟩
  replace h1 := h1.below b3
  replace h2 := h2.below b3
  replace h3 := h3.below b3
  go_wp2_with fail
  refine hK.out _ _ ?_ (fun hHeld => ?_)
  · exact ⟨kept hHeld.1 b3, kept hHeld.2.1 b3, trivial⟩
  clear hK K
  try simp only [List.getElem_toArray, List.getElem_cons_succ, List.getElem_cons_zero, Act.put, List.setIfInBounds_toArray, List.set_cons_zero, List.set_cons_succ]
  refine wpAnyH_ready (rs := [6]) (by kernel_rfl) (by simp) ?_
  refine AllReadyH.cons rfl (fun K hK => ?_) AllReadyH.nil
  go_simp
  refine Calls.mono (n_mod _ _ _ 33 32 (a + b) PP h3 h4 (by decide) (by decide) (by decide) (by decide)) ?_
  rintro e w4 ⟨u5, rfl, h5, b4⟩
  replace h1 := h1.below b4
  replace h2 := h2.below b4
  replace h3 := h3.below b4
  replace h4 := h4.below b4
  go_wp2_with fail
  refine hK.out _ _ ?_ (fun hHeld => ?_)
  · exact ⟨kept hHeld.1 b4, kept hHeld.2.1 b4, trivial⟩
  clear hK K
  try simp only [List.getElem_toArray, List.getElem_cons_succ, List.getElem_cons_zero, Act.put, List.setIfInBounds_toArray, List.set_cons_zero, List.set_cons_succ]
  have k0 : Below W.heap.size W w0 := (Below.drew (Below.refl _ W)).trans b0
  have k1 := k0.trans (b1.mono k0.size)
  have k2 := k1.trans (b2.mono k1.size)
  have k3 := k2.trans (b3.mono k2.size)
  have k4 := k3.trans (b4.mono k3.size)
  have hh := kept HA.out.2.2.1 k4
  have hB : Below w.heap.size w w4 := HA.out.2.2.2.trans (k4.mono HA.out.2.2.2.size)
  obtain ⟨s0, s1, s2, s3, rfl, hL, hN⟩ := h5
  refine wpAnyH_ready (rs := [7]) (by kernel_rfl) (by simp) ?_
  refine AllReadyH.cons rfl (fun K hK => ?_) AllReadyH.nil
  refine step_store_row (by rfl) 24 _ _ rfl (w.heap.size + 2) (C4 s0 s1 s2 s3) rfl rfl (run_storeVar_row _ _ 24 24 _ _ hh (info24c _ _ _ _) rfl (fone4 _ _ _ _)) ?_
  refine hK.out _ _ ?_ (fun hHeld => ?_)
  · exact ⟨(setRow_other _ _ _ _ (by omega)).trans hHeld.1, (setRow_other _ _ _ _ (by omega)).trans hHeld.2.1, trivial⟩
  clear hK K
  try simp only [List.getElem_toArray, List.getElem_cons_succ, List.getElem_cons_zero, Act.put, List.setIfInBounds_toArray, List.set_cons_zero, List.set_cons_succ]
  refine wpAnyH_done (by kernel_rfl) ?_ _
  clear hHeld
  go_wp2
  exact bodyPost_ret (results_cell_row rfl _ _ _ _ _ _ _ rfl (setRow_heap _ _ _ _ _ _ hh) Try.underlying24 rfl (info24c _ _ _ _)) rfl ⟨_, rfl, ⟨s0, s1, s2, s3, rfl, hL, hN⟩, below_setRow hB (by omega) _⟩
set_option maxHeartbeats 1000000 in
/-- conclaveref04.Mul -/
theorem n_mul {va : Value} {a : Int} {vb : Value} {b : Int} (ha : IsW va a) (hb : IsW vb b) : GivesW 14 #[va, vb] ((a * b) % PP) := fun w => by
  have Ha : Hid _ := ha
  obtain ⟨a0, a1, a2, a3, rfl, la, na⟩ := ha
  clear la na
  have Hb : Hid _ := hb
  obtain ⟨b0, b1, b2, b3, rfl, lb, nb⟩ := hb
  clear lb nb
  have HA : Hid ((((w.alloc (.cells (C4 a0 a1 a2 a3) 24)).alloc (.cells (C4 b0 b1 b2 b3) 24)).alloc (.cells (C4 0 0 0 0) 24)).heap[w.heap.size]? = some (.cells (C4 a0 a1 a2 a3) 24 (0, 0)) ∧ (((w.alloc (.cells (C4 a0 a1 a2 a3) 24)).alloc (.cells (C4 b0 b1 b2 b3) 24)).alloc (.cells (C4 0 0 0 0) 24)).heap[w.heap.size + 1]? = some (.cells (C4 b0 b1 b2 b3) 24 (0, 0)) ∧ (((w.alloc (.cells (C4 a0 a1 a2 a3) 24)).alloc (.cells (C4 b0 b1 b2 b3) 24)).alloc (.cells (C4 0 0 0 0) 24)).heap[w.heap.size + 2]? = some (.cells (C4 0 0 0 0) 24 (0, 0)) ∧ Below w.heap.size w (((w.alloc (.cells (C4 a0 a1 a2 a3) 24)).alloc (.cells (C4 b0 b1 b2 b3) 24)).alloc (.cells (C4 0 0 0 0) 24))) := ⟨heap_old _ _ _ _ (heap_old _ _ _ _ (heap_alloc_new _ _)), heap_old _ _ _ _ (heapAt _ _ _ (by simp)), heapAt _ _ _ (by simp), by go_grown⟩
  go_enter Try.func14, Try.ntmps14
  unfold W4
  go_wp2
  generalize (((w.alloc (.cells (C4 a0 a1 a2 a3) 24)).alloc (.cells (C4 b0 b1 b2 b3) 24)).alloc (.cells (C4 0 0 0 0) 24)) = W at HA ⊢
  refine wp_region_held_drew (S := fun w' => w'.heap[w.heap.size]? = some (.cells (C4 a0 a1 a2 a3) 24 (0, 0)) ∧ w'.heap[w.heap.size + 1]? = some (.cells (C4 b0 b1 b2 b3) 24 (0, 0)) ∧ True) (by kernel_rfl) (⟨HA.out.1, HA.out.2.1, trivial⟩) (fun hHeld => ?_)
  refine wpAnyH_take (i := 0) (v := W4 a0 a1 a2 a3) rfl (by kernel_rfl) (by kernel_rfl) (by kernel_rfl) (fun _ _ _ h => h) (Or.inl ⟨by rfl, fun w9 hSw => ?_⟩) hHeld ?_
  · exact run_load_exec 24 _ rfl _ rfl (run_loadVar_row w9 _ 24 24 _ (0, 0) _ hSw.1 Try.underlying24 rfl (info24c _ _ _ _))
  simp only [List.getElem_toArray, List.getElem_cons_succ, List.getElem_cons_zero, Act.put, List.setIfInBounds_toArray, List.set_cons_zero, List.set_cons_succ]
  refine wpAnyH_take (i := 2) (v := W4 b0 b1 b2 b3) rfl (by kernel_rfl) (by kernel_rfl) (by kernel_rfl) (fun _ _ _ h => h) (Or.inl ⟨by rfl, fun w9 hSw => ?_⟩) hHeld ?_
  · exact run_load_exec 24 _ rfl _ rfl (run_loadVar_row w9 _ 24 24 _ (0, 0) _ hSw.2.1 Try.underlying24 rfl (info24c _ _ _ _))
  simp only [List.getElem_toArray, List.getElem_cons_succ, List.getElem_cons_zero, Act.put, List.setIfInBounds_toArray, List.set_cons_zero, List.set_cons_succ]
  refine wpAnyH_ready (rs := [1]) (by kernel_rfl) (by simp) ?_
  refine AllReadyH.cons rfl (fun K hK => ?_) AllReadyH.nil
  go_simp
  refine Calls.mono (n_of Ha.out _) ?_
  rintro e w0 ⟨u1, rfl, h1, b0⟩
  go_wp2_with fail
  refine hK.out _ _ ?_ (fun hHeld => ?_)
  · exact ⟨kept hHeld.1 b0, kept hHeld.2.1 b0, trivial⟩
  clear hK K
  try simp only [List.getElem_toArray, List.getElem_cons_succ, List.getElem_cons_zero, Act.put, List.setIfInBounds_toArray, List.set_cons_zero, List.set_cons_succ]
  refine wpAnyH_ready (rs := [3]) (by kernel_rfl) (by simp) ?_
  refine AllReadyH.cons rfl (fun K hK => ?_) AllReadyH.nil
  go_simp
  refine Calls.mono (n_of Hb.out _) ?_
  rintro e w1 ⟨u2, rfl, h2, b1⟩
  replace h1 := h1.below b1
  go_wp2_with fail
  refine hK.out _ _ ?_ (fun hHeld => ?_)
  · exact ⟨kept hHeld.1 b1, kept hHeld.2.1 b1, trivial⟩
  clear hK K
  try simp only [List.getElem_toArray, List.getElem_cons_succ, List.getElem_cons_zero, Act.put, List.setIfInBounds_toArray, List.set_cons_zero, List.set_cons_succ]
  refine wpAnyH_ready (rs := [4]) (by kernel_rfl) (by simp) ?_
  refine AllReadyH.cons rfl (fun K hK => ?_) AllReadyH.nil
  go_simp
  refine Calls.mono (n_times _ _ _ 32 32 a b h1 h2 (by decide) (by decide)) ?_
  rintro e w2 ⟨u3, rfl, h3, b2⟩
  replace h1 := h1.below b2
  replace h2 := h2.below b2
  go_wp2_with fail
  refine hK.out _ _ ?_ (fun hHeld => ?_)
  · exact ⟨kept hHeld.1 b2, kept hHeld.2.1 b2, trivial⟩
  clear hK K
  try simp only [List.getElem_toArray, List.getElem_cons_succ, List.getElem_cons_zero, Act.put, List.setIfInBounds_toArray, List.set_cons_zero, List.set_cons_succ]
  refine wpAnyH_ready (rs := [5]) (by kernel_rfl) (by simp) ?_
  refine AllReadyH.cons rfl (fun K hK => ?_) AllReadyH.nil
  go_simp
  refine Calls.mono (n_p _) ?_
  rintro e w3 ⟨u4, rfl, h4, b3⟩
  replace h1 := h1.below b3
  replace h2 := h2.below b3
  replace h3 := h3.below b3
  go_wp2_with fail
  refine hK.out _ _ ?_ (fun hHeld => ?_)
  · exact ⟨kept hHeld.1 b3, kept hHeld.2.1 b3, trivial⟩
  clear hK K
  try simp only [List.getElem_toArray, List.getElem_cons_succ, List.getElem_cons_zero, Act.put, List.setIfInBounds_toArray, List.set_cons_zero, List.set_cons_succ]
  refine wpAnyH_ready (rs := [6]) (by kernel_rfl) (by simp) ?_
  refine AllReadyH.cons rfl (fun K hK => ?_) AllReadyH.nil
  go_simp
  refine Calls.mono (n_mod _ _ _ 65 32 (a * b) PP h3 h4 (by decide) (by decide) (by decide) (by decide)) ?_
  rintro e w4 ⟨u5, rfl, h5, b4⟩
  replace h1 := h1.below b4
  replace h2 := h2.below b4
  replace h3 := h3.below b4
  replace h4 := h4.below b4
  go_wp2_with fail
  refine hK.out _ _ ?_ (fun hHeld => ?_)
  · exact ⟨kept hHeld.1 b4, kept hHeld.2.1 b4, trivial⟩
  clear hK K
  try simp only [List.getElem_toArray, List.getElem_cons_succ, List.getElem_cons_zero, Act.put, List.setIfInBounds_toArray, List.set_cons_zero, List.set_cons_succ]
  have k0 : Below W.heap.size W w0 := (Below.drew (Below.refl _ W)).trans b0
  have k1 := k0.trans (b1.mono k0.size)
  have k2 := k1.trans (b2.mono k1.size)
  have k3 := k2.trans (b3.mono k2.size)
  have k4 := k3.trans (b4.mono k3.size)
  have hh := kept HA.out.2.2.1 k4
  have hB : Below w.heap.size w w4 := HA.out.2.2.2.trans (k4.mono HA.out.2.2.2.size)
  obtain ⟨s0, s1, s2, s3, rfl, hL, hN⟩ := h5
  refine wpAnyH_ready (rs := [7]) (by kernel_rfl) (by simp) ?_
  refine AllReadyH.cons rfl (fun K hK => ?_) AllReadyH.nil
  refine step_store_row (by rfl) 24 _ _ rfl (w.heap.size + 2) (C4 s0 s1 s2 s3) rfl rfl (run_storeVar_row _ _ 24 24 _ _ hh (info24c _ _ _ _) rfl (fone4 _ _ _ _)) ?_
  refine hK.out _ _ ?_ (fun hHeld => ?_)
  · exact ⟨(setRow_other _ _ _ _ (by omega)).trans hHeld.1, (setRow_other _ _ _ _ (by omega)).trans hHeld.2.1, trivial⟩
  clear hK K
  try simp only [List.getElem_toArray, List.getElem_cons_succ, List.getElem_cons_zero, Act.put, List.setIfInBounds_toArray, List.set_cons_zero, List.set_cons_succ]
  refine wpAnyH_done (by kernel_rfl) ?_ _
  clear hHeld
  go_wp2
  exact bodyPost_ret (results_cell_row rfl _ _ _ _ _ _ _ rfl (setRow_heap _ _ _ _ _ _ hh) Try.underlying24 rfl (info24c _ _ _ _)) rfl ⟨_, rfl, ⟨s0, s1, s2, s3, rfl, hL, hN⟩, below_setRow hB (by omega) _⟩
theorem num4 (w : World) : Num (w.alloc (.cells #[.int .i64 4] 3)) (.slice (some ⟨w.heap.size, 0, none⟩) 1 1) 1 4 := num_lit w [4] (byt_of _ (by decide))
set_option maxHeartbeats 1000000 in
/-- conclaveref04.Sub -/
theorem n_sub {va : Value} {a : Int} {vb : Value} {b : Int} (ha : IsW va a) (hb : IsW vb b) : GivesW 12 #[va, vb] ((a - b) % PP) := fun w => by
  have Ha : Hid (IsW va a) := ha
  have Hb : Hid (IsW vb b) := hb
  have hba := ha.bd
  have hbb := hb.bd
  obtain ⟨a0, a1, a2, a3, rfl, la, na⟩ := ha
  obtain ⟨b0, b1, b2, b3, rfl, lb, nb⟩ := hb
  clear la lb na nb
  have HA : Hid ((((w.alloc (.cells (C4 a0 a1 a2 a3) 24)).alloc (.cells (C4 b0 b1 b2 b3) 24)).alloc (.cells (C4 0 0 0 0) 24)).heap[w.heap.size + 1]? = some (.cells (C4 b0 b1 b2 b3) 24 (0, 0)) ∧ (((w.alloc (.cells (C4 a0 a1 a2 a3) 24)).alloc (.cells (C4 b0 b1 b2 b3) 24)).alloc (.cells (C4 0 0 0 0) 24)).heap[w.heap.size + 2]? = some (.cells (C4 0 0 0 0) 24 (0, 0)) ∧ Below w.heap.size w (((w.alloc (.cells (C4 a0 a1 a2 a3) 24)).alloc (.cells (C4 b0 b1 b2 b3) 24)).alloc (.cells (C4 0 0 0 0) 24))) := ⟨heap_old _ _ _ _ (heapAt _ _ _ (by simp)), heapAt _ _ _ (by simp), by go_grown⟩
  go_enter Try.func12, Try.ntmps12
  unfold W4
  go_wp2_with fail
  generalize ((w.alloc (.cells (C4 a0 a1 a2 a3) 24)).alloc (.cells (C4 b0 b1 b2 b3) 24)).alloc (.cells (C4 0 0 0 0) 24) = W at HA ⊢
  refine Calls.mono (n_of Ha.out _) ?_
  rintro e w1 ⟨v1, rfl, h1, k1⟩
  have H1 : Hid (Num w1 v1 32 a) := h1
  clear h1
  go_wp2_with fail
  refine Calls.mono (n_p _) ?_
  rintro e w2 ⟨v2, rfl, h2, k2⟩
  have H2 : Hid (Num w2 v2 32 PP) := h2
  clear h2
  go_wp2_with fail
  have kx : Below w2.heap.size w2 (w2.alloc (.cells #[.int .i64 4] 3)) := by go_grown
  refine Calls.mono (n_times _ _ _ 32 1 PP 4 (H2.out.below kx) (num4 w2) (by decide) (by decide)) ?_
  rintro e w3 ⟨v3, rfl, h3, k3⟩
  have kA : Below w1.heap.size w1 w3 := (k2.trans (kx.mono k2.size)).trans (k3.mono (Nat.le_trans k2.size kx.size))
  have H3 : Hid (Num w3 v3 34 (PP * 4)) := h3
  clear h3 k2 kx k3 H2
  go_wp2_with fail
  refine Calls.mono (n_plus _ _ _ 32 34 a (PP * 4) (H1.out.below kA) H3.out (by decide) (by decide)) ?_
  rintro e w4 ⟨v4, rfl, h4, k4⟩
  have H4 : Hid (Num w4 v4 35 (a + PP * 4)) := h4.le (by decide)
  have kB : Below W.heap.size W w4 := (k1.trans (kA.mono k1.size)).trans (k4.mono (Nat.le_trans k1.size kA.size))
  have HB : Hid (w4.heap[w.heap.size + 1]? = some (.cells (C4 b0 b1 b2 b3) 24 (0, 0)) ∧ w4.heap[w.heap.size + 2]? = some (.cells (C4 0 0 0 0) 24 (0, 0)) ∧ Below w.heap.size w w4) := ⟨kept HA.out.1 kB, kept HA.out.2.1 kB, HA.out.2.2.trans (kB.mono HA.out.2.2.size)⟩
  clear h4 k1 kA k4 kB HA H1 H3
  go_wp2_with (first | (refine wpList_load_row rfl 24 _ rfl (w.heap.size + 1) rfl 24 _ (0, 0) _ HB.out.1 Try.underlying24 rfl (info24c _ _ _ _) ?_))
  refine Calls.mono (n_of Hb.out _) ?_
  rintro e w5 ⟨v5, rfl, h5, k5⟩
  have H5 : Hid (Num w5 v5 32 b) := h5
  have H45 : Hid (Num w5 v4 35 (a + PP * 4)) := H4.out.below k5
  clear h5 H4
  go_wp2_with fail
  have hbig : T256 < PP * 4 := by unfold T256 PP; decide
  have hle : b ≤ a + PP * 4 := by omega
  have hpos : 0 < a + PP * 4 := by omega
  refine Calls.mono (n_less _ _ _ 35 32 (a + PP * 4) b H45.out H5.out (by decide) (by decide) hpos hle) ?_
  rintro e w6 ⟨v6, rfl, h6, k6⟩
  have H6 : Hid (Num w6 v6 35 (a + PP * 4 - b)) := h6
  clear h6 H45 H5
  go_wp2_with fail
  refine Calls.mono (n_p _) ?_
  rintro e w7 ⟨v7, rfl, h7, k7⟩
  have H7 : Hid (Num w7 v7 32 PP) := h7
  clear h7
  go_wp2_with fail
  refine Calls.mono (n_mod _ _ _ 35 32 (a + PP * 4 - b) PP (H6.out.below k7) H7.out (by decide) (by decide) (by decide) (by decide)) ?_
  rintro e w8 ⟨v8, rfl, h8, k8⟩
  have kC : Below w4.heap.size w4 w8 := ((k5.trans (k6.mono k5.size)).trans (k7.mono (Nat.le_trans k5.size k6.size))).trans (k8.mono (Nat.le_trans (Nat.le_trans k5.size k6.size) k7.size))
  have hz := kept HB.out.2.1 kC
  have hB : Below w.heap.size w w8 := HB.out.2.2.trans (kC.mono HB.out.2.2.size)
  obtain ⟨s0, s1, s2, s3, rfl, hL, hN⟩ := h8
  have HN : Hid (num s0 s1 s2 s3 = (a - b) % PP) := by
    show _ = _
    rw [hN, show a + PP * 4 - b = (a - b) + PP * 4 by omega, Int.add_mul_emod_self_left]
  clear hN k5 k6 k7 k8 kC HB H6 H7
  go_wp2_with (first | (refine wpList_store_row rfl 24 _ _ rfl (w.heap.size + 2) (C4 s0 s1 s2 s3) rfl rfl 24 _ hz (info24c _ _ _ _) rfl (fone4 _ _ _ _) ?_))
  exact bodyPost_ret (results_cell_row rfl _ _ _ _ _ _ _ rfl (setRow_heap _ _ _ _ _ _ hz) Try.underlying24 rfl (info24c _ _ _ _)) rfl ⟨_, rfl, ⟨s0, s1, s2, s3, rfl, hL, HN.out⟩, below_setRow hB (by omega) _⟩
end Go.Proofs.Ytmflilgppllebaa
