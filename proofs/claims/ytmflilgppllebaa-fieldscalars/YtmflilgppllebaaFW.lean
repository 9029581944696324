/- FieldScalars: the walk. -/
import Derived.Test.YtmflilgppllebaaFV
namespace Go.Proofs.Ytmflilgppllebaa
open Go.RowKit
set_option linter.unusedSimpArgs false
set_option linter.unusedVariables false

set_option maxRecDepth 20000 in
set_option maxHeartbeats 2000000 in
theorem scalars_any (a0 a1 a2 a3 b0 b1 b2 b3 : Int) (la : L4 a0 a1 a2 a3) (lb : L4 b0 b1 b2 b3) (w : World) :
    Calls Try.prog 6 #[W4 a0 a1 a2 a3, W4 b0 b1 b2 b3] w fun e w' => e = .returned (.bool true) ∧ Below w.heap.size w w' := by
  have Ha : Hid (IsW (W4 a0 a1 a2 a3) (num a0 a1 a2 a3)) := IsW.mk la
  have Hb : Hid (IsW (W4 b0 b1 b2 b3) (num b0 b1 b2 b3)) := IsW.mk lb
  clear la lb
  generalize num a0 a1 a2 a3 = a at Ha
  generalize num b0 b1 b2 b3 = b at Hb
  have HA : Hid (((w.alloc (.cells (C4 a0 a1 a2 a3) 24)).alloc (.cells (C4 b0 b1 b2 b3) 24)).heap[w.heap.size]? = some (.cells (C4 a0 a1 a2 a3) 24 (0, 0)) ∧ ((w.alloc (.cells (C4 a0 a1 a2 a3) 24)).alloc (.cells (C4 b0 b1 b2 b3) 24)).heap[w.heap.size + 1]? = some (.cells (C4 b0 b1 b2 b3) 24 (0, 0)) ∧ Below w.heap.size w ((w.alloc (.cells (C4 a0 a1 a2 a3) 24)).alloc (.cells (C4 b0 b1 b2 b3) 24))) := ⟨heap_old _ _ _ _ (heap_alloc_new _ _), heapAt _ _ _ (by simp), by go_grown⟩
  go_enter Try.func6, Try.ntmps6
  unfold W4
  go_wp2
  generalize (w.alloc (.cells (C4 a0 a1 a2 a3) 24)).alloc (.cells (C4 b0 b1 b2 b3) 24) = W at HA ⊢
  refine wp_region_held_drew (S := fun w' => w'.heap[w.heap.size]? = some (.cells (C4 a0 a1 a2 a3) 24 (0, 0)) ∧ w'.heap[w.heap.size + 1]? = some (.cells (C4 b0 b1 b2 b3) 24 (0, 0))) (by kernel_rfl) (⟨HA.out.1, HA.out.2.1⟩) (fun hHeld => ?_)
  refine wpAnyH_take (i := 0) (v := W4 a0 a1 a2 a3) rfl (by kernel_rfl) (by kernel_rfl) (by kernel_rfl) (fun _ _ _ h => h) (Or.inl ⟨by rfl, fun w9 hSw => ?_⟩) hHeld ?_
  · exact run_load_exec 24 _ rfl _ rfl (run_loadVar_row w9 _ 24 24 _ (0, 0) _ hSw.1 Try.underlying24 rfl (info24c _ _ _ _))
  simp only [List.getElem_toArray, List.getElem_cons_succ, List.getElem_cons_zero, Act.put, List.setIfInBounds_toArray, List.set_cons_zero, List.set_cons_succ]
  refine wpAnyH_take (i := 1) (v := W4 b0 b1 b2 b3) rfl (by kernel_rfl) (by kernel_rfl) (by kernel_rfl) (fun _ _ _ h => h) (Or.inl ⟨by rfl, fun w9 hSw => ?_⟩) hHeld ?_
  · exact run_load_exec 24 _ rfl _ rfl (run_loadVar_row w9 _ 24 24 _ (0, 0) _ hSw.2 Try.underlying24 rfl (info24c _ _ _ _))
  simp only [List.getElem_toArray, List.getElem_cons_succ, List.getElem_cons_zero, Act.put, List.setIfInBounds_toArray, List.set_cons_zero, List.set_cons_succ]
  refine wpAnyH_take (i := 3) (v := W4 a0 a1 a2 a3) rfl (by kernel_rfl) (by kernel_rfl) (by kernel_rfl) (fun _ _ _ h => h) (Or.inl ⟨by rfl, fun w9 hSw => ?_⟩) hHeld ?_
  · exact run_load_exec 24 _ rfl _ rfl (run_loadVar_row w9 _ 24 24 _ (0, 0) _ hSw.1 Try.underlying24 rfl (info24c _ _ _ _))
  simp only [List.getElem_toArray, List.getElem_cons_succ, List.getElem_cons_zero, Act.put, List.setIfInBounds_toArray, List.set_cons_zero, List.set_cons_succ]
  refine wpAnyH_take (i := 4) (v := W4 b0 b1 b2 b3) rfl (by kernel_rfl) (by kernel_rfl) (by kernel_rfl) (fun _ _ _ h => h) (Or.inl ⟨by rfl, fun w9 hSw => ?_⟩) hHeld ?_
  · exact run_load_exec 24 _ rfl _ rfl (run_loadVar_row w9 _ 24 24 _ (0, 0) _ hSw.2 Try.underlying24 rfl (info24c _ _ _ _))
  simp only [List.getElem_toArray, List.getElem_cons_succ, List.getElem_cons_zero, Act.put, List.setIfInBounds_toArray, List.set_cons_zero, List.set_cons_succ]
  refine wpAnyH_ready (rs := [2]) (by kernel_rfl) (by simp) ?_
  refine AllReadyH.cons rfl (fun K hK => ?_) AllReadyH.nil
  go_simp
  refine Calls.mono (g_ladd Ha.out Hb.out _) ?_
  rintro e w0 ⟨v1, rfl, h1, k0'⟩
  go_wp2_with fail
  refine hK.out _ _ ?_ (fun hHeld => ?_)
  · exact ⟨kept hHeld.1 k0', kept hHeld.2 k0'⟩
  clear hK K
  try simp only [List.getElem_toArray, List.getElem_cons_succ, List.getElem_cons_zero, Act.put, List.setIfInBounds_toArray, List.set_cons_zero, List.set_cons_succ]
  refine wpAnyH_ready (rs := [5]) (by kernel_rfl) (by simp) ?_
  refine AllReadyH.cons rfl (fun K hK => ?_) AllReadyH.nil
  go_simp
  refine Calls.mono (n_ladd Ha.out Hb.out _) ?_
  rintro e w1 ⟨v2, rfl, h2, k1'⟩
  go_wp2_with fail
  refine hK.out _ _ ?_ (fun hHeld => ?_)
  · exact ⟨kept hHeld.1 k1', kept hHeld.2 k1'⟩
  clear hK K
  try simp only [List.getElem_toArray, List.getElem_cons_succ, List.getElem_cons_zero, Act.put, List.setIfInBounds_toArray, List.set_cons_zero, List.set_cons_succ]
  refine wpAnyH_take (i := 6) (v := .bool true) rfl (by kernel_rfl) (by kernel_rfl) (by kernel_rfl) (fun _ _ _ h => h) (Or.inl ⟨by rfl, fun w9 hSw => ?_⟩) hHeld ?_
  · obtain rfl := h1.uniq h2
    obtain ⟨s0, s1, s2, s3, rfl, _, _⟩ := h1
    have q := eq24_same s0 s1 s2 s3 w9
    unfold W4 at q ⊢
    go_simp
  simp only [List.getElem_toArray, List.getElem_cons_succ, List.getElem_cons_zero, Act.put, List.setIfInBounds_toArray, List.set_cons_zero, List.set_cons_succ]
  refine wpAnyH_take (i := 7) (v := .bool true) rfl (by kernel_rfl) (by kernel_rfl) (by kernel_rfl) (fun _ _ _ h => h) (Or.inl ⟨by rfl, fun w9 hSw => ?_⟩) hHeld ?_
  · go_simp
  simp only [List.getElem_toArray, List.getElem_cons_succ, List.getElem_cons_zero, Act.put, List.setIfInBounds_toArray, List.set_cons_zero, List.set_cons_succ]
  refine wpAnyH_take (i := 8) (v := W4 a0 a1 a2 a3) rfl (by kernel_rfl) (by kernel_rfl) (by kernel_rfl) (fun _ _ _ h => h) (Or.inl ⟨by rfl, fun w9 hSw => ?_⟩) hHeld ?_
  · exact run_load_exec 24 _ rfl _ rfl (run_loadVar_row w9 _ 24 24 _ (0, 0) _ hSw.1 Try.underlying24 rfl (info24c _ _ _ _))
  simp only [List.getElem_toArray, List.getElem_cons_succ, List.getElem_cons_zero, Act.put, List.setIfInBounds_toArray, List.set_cons_zero, List.set_cons_succ]
  refine wpAnyH_take (i := 9) (v := W4 b0 b1 b2 b3) rfl (by kernel_rfl) (by kernel_rfl) (by kernel_rfl) (fun _ _ _ h => h) (Or.inl ⟨by rfl, fun w9 hSw => ?_⟩) hHeld ?_
  · exact run_load_exec 24 _ rfl _ rfl (run_loadVar_row w9 _ 24 24 _ (0, 0) _ hSw.2 Try.underlying24 rfl (info24c _ _ _ _))
  simp only [List.getElem_toArray, List.getElem_cons_succ, List.getElem_cons_zero, Act.put, List.setIfInBounds_toArray, List.set_cons_zero, List.set_cons_succ]
  refine wpAnyH_take (i := 11) (v := W4 a0 a1 a2 a3) rfl (by kernel_rfl) (by kernel_rfl) (by kernel_rfl) (fun _ _ _ h => h) (Or.inl ⟨by rfl, fun w9 hSw => ?_⟩) hHeld ?_
  · exact run_load_exec 24 _ rfl _ rfl (run_loadVar_row w9 _ 24 24 _ (0, 0) _ hSw.1 Try.underlying24 rfl (info24c _ _ _ _))
  simp only [List.getElem_toArray, List.getElem_cons_succ, List.getElem_cons_zero, Act.put, List.setIfInBounds_toArray, List.set_cons_zero, List.set_cons_succ]
  refine wpAnyH_take (i := 12) (v := W4 b0 b1 b2 b3) rfl (by kernel_rfl) (by kernel_rfl) (by kernel_rfl) (fun _ _ _ h => h) (Or.inl ⟨by rfl, fun w9 hSw => ?_⟩) hHeld ?_
  · exact run_load_exec 24 _ rfl _ rfl (run_loadVar_row w9 _ 24 24 _ (0, 0) _ hSw.2 Try.underlying24 rfl (info24c _ _ _ _))
  simp only [List.getElem_toArray, List.getElem_cons_succ, List.getElem_cons_zero, Act.put, List.setIfInBounds_toArray, List.set_cons_zero, List.set_cons_succ]
  refine wpAnyH_ready (rs := [10]) (by kernel_rfl) (by simp) ?_
  refine AllReadyH.cons rfl (fun K hK => ?_) AllReadyH.nil
  go_simp
  refine Calls.mono (g_lmul Ha.out Hb.out _) ?_
  rintro e w2 ⟨v3, rfl, h3, k2'⟩
  go_wp2_with fail
  refine hK.out _ _ ?_ (fun hHeld => ?_)
  · exact ⟨kept hHeld.1 k2', kept hHeld.2 k2'⟩
  clear hK K
  try simp only [List.getElem_toArray, List.getElem_cons_succ, List.getElem_cons_zero, Act.put, List.setIfInBounds_toArray, List.set_cons_zero, List.set_cons_succ]
  refine wpAnyH_ready (rs := [13]) (by kernel_rfl) (by simp) ?_
  refine AllReadyH.cons rfl (fun K hK => ?_) AllReadyH.nil
  go_simp
  refine Calls.mono (n_lmul Ha.out Hb.out _) ?_
  rintro e w3 ⟨v4, rfl, h4, k3'⟩
  go_wp2_with fail
  refine hK.out _ _ ?_ (fun hHeld => ?_)
  · exact ⟨kept hHeld.1 k3', kept hHeld.2 k3'⟩
  clear hK K
  try simp only [List.getElem_toArray, List.getElem_cons_succ, List.getElem_cons_zero, Act.put, List.setIfInBounds_toArray, List.set_cons_zero, List.set_cons_succ]
  refine wpAnyH_take (i := 14) (v := .bool true) rfl (by kernel_rfl) (by kernel_rfl) (by kernel_rfl) (fun _ _ _ h => h) (Or.inl ⟨by rfl, fun w9 hSw => ?_⟩) hHeld ?_
  · obtain rfl := h3.uniq h4
    obtain ⟨s0, s1, s2, s3, rfl, _, _⟩ := h3
    have q := eq24_same s0 s1 s2 s3 w9
    unfold W4 at q ⊢
    go_simp
  simp only [List.getElem_toArray, List.getElem_cons_succ, List.getElem_cons_zero, Act.put, List.setIfInBounds_toArray, List.set_cons_zero, List.set_cons_succ]
  refine wpAnyH_take (i := 15) (v := .bool true) rfl (by kernel_rfl) (by kernel_rfl) (by kernel_rfl) (fun _ _ _ h => h) (Or.inl ⟨by rfl, fun w9 hSw => ?_⟩) hHeld ?_
  · go_simp
  simp only [List.getElem_toArray, List.getElem_cons_succ, List.getElem_cons_zero, Act.put, List.setIfInBounds_toArray, List.set_cons_zero, List.set_cons_succ]
  refine wpAnyH_take (i := 16) (v := .bool true) rfl (by kernel_rfl) (by kernel_rfl) (by kernel_rfl) (fun _ _ _ h => h) (Or.inl ⟨by rfl, fun w9 hSw => ?_⟩) hHeld ?_
  · go_simp
  simp only [List.getElem_toArray, List.getElem_cons_succ, List.getElem_cons_zero, Act.put, List.setIfInBounds_toArray, List.set_cons_zero, List.set_cons_succ]
  refine wpAnyH_ready (rs := [17]) (by kernel_rfl) (by simp) ?_
  refine AllReadyH.cons rfl (fun K hK => ?_) AllReadyH.nil
  go_simp
  refine Calls.mono (alive_any _) ?_
  rintro e w4 ⟨rfl, b4⟩
  go_wp2_with fail
  refine hK.out _ _ ?_ (fun hHeld => ?_)
  · exact ⟨kept hHeld.1 b4, kept hHeld.2 b4⟩
  clear hK K
  try simp only [List.getElem_toArray, List.getElem_cons_succ, List.getElem_cons_zero, Act.put, List.setIfInBounds_toArray, List.set_cons_zero, List.set_cons_succ]
  refine wpAnyH_take (i := 18) (v := .bool true) rfl (by kernel_rfl) (by kernel_rfl) (by kernel_rfl) (fun _ _ _ h => h) (Or.inl ⟨by rfl, fun w9 hSw => ?_⟩) hHeld ?_
  · go_simp
  simp only [List.getElem_toArray, List.getElem_cons_succ, List.getElem_cons_zero, Act.put, List.setIfInBounds_toArray, List.set_cons_zero, List.set_cons_succ]
  refine wpAnyH_take (i := 19) (v := .bool true) rfl (by kernel_rfl) (by kernel_rfl) (by kernel_rfl) (fun _ _ _ h => h) (Or.inl ⟨by rfl, fun w9 hSw => ?_⟩) hHeld ?_
  · go_simp
  simp only [List.getElem_toArray, List.getElem_cons_succ, List.getElem_cons_zero, Act.put, List.setIfInBounds_toArray, List.set_cons_zero, List.set_cons_succ]
  refine wpAnyH_done (by kernel_rfl) ?_ _
  have k0 : Below W.heap.size W w0 := (Below.drew (Below.refl _ W)).trans k0'
  have k1 := k0.trans (k1'.mono k0.size)
  have k2 := k1.trans (k2'.mono k1.size)
  have k3 := k2.trans (k3'.mono k2.size)
  have k4 := k3.trans (b4.mono k3.size)
  have hB : Below w.heap.size w w4 := HA.out.2.2.trans (k4.mono HA.out.2.2.size)
  clear hHeld k0 k1 k2 k3 k4
  go_wp2
  go_ret
  exact ⟨rfl, hB⟩
end Go.Proofs.Ytmflilgppllebaa
