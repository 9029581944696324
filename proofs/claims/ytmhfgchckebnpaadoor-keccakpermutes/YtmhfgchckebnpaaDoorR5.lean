/- KeccakPermutes: the walk. -/
import Derived.Test.YtmhfgchckebnpaaDoorKO
import Derived.Test.YtmhfgchckebnpaaDoorR4
namespace Go.Proofs.YtmhfgchckebnpaaDoor
open Go.RowKit Go.Shelf
set_option linter.unusedSimpArgs false
set_option linter.unusedVariables false

set_option maxRecDepth 100000 in
set_option maxHeartbeats 2000000 in
theorem permutes_any (S : Nat → BitVec 64) (W0 : World) (hp : PathIn W0) : Calls Tryd.prog 3 #[.agg (vec 25 (lan S))] W0 fun e w' => e = .returned (.bool true) ∧ Below W0.heap.size W0 w' := by
  have H0 : Hid (PathIn W0 ∧ 0 < W0.heap.size) := ⟨hp, pathIn_pos hp⟩
  have HC : Hid ((∀ w, PathIn w → Calls Tryd.prog 7 #[.agg (vec 25 (lan S))] w fun e w' => e = .returned (.agg (vec 25 (lan (permute RCs S)))) ∧ Below w.heap.size w w') ∧ (∀ w, Calls Tryd.prog 8 #[.agg (vec 25 (lan S))] w fun e w' => e = .returned (.agg (vec 25 (lan (permute RCs S)))) ∧ Below w.heap.size w w')) :=
    ⟨permute_any S, rpermute_any S⟩
  clear hp
  generalize permute RCs S = pS at HC
  go_enter Tryd.func3, Tryd.ntmps3
  go_wp2
  have hr0 : (W0.alloc (.cells (vec 25 (lan S)) 23)).rowIs W0.heap.size 23 25 (lan S) := heap_row (heap_alloc_new _ _)
  have hb0 : Below W0.heap.size W0 (W0.alloc (.cells (vec 25 (lan S)) 23)) := (Below.refl _ _).alloc (Nat.le_refl _) _
  generalize W0.alloc (.cells (vec 25 (lan S)) 23) = W at hr0 hb0 ⊢
  refine wp_region_held_drew (S := fun w' => w'.rowIs W0.heap.size 23 25 (lan S) ∧ Below W0.heap.size W0 w') (by kernel_rfl) ⟨hr0.drew, hb0.drew⟩ (fun hHeld => ?_)
  clear hr0 hb0
  refine wpAnyH_take (i := 0) (v := .agg (vec 25 (lan S))) rfl (by kernel_rfl) (by kernel_rfl) (by kernel_rfl) (fun _ _ _ h => h) (Or.inl ⟨by rfl, fun w hSw => ?_⟩) hHeld ?_
  · exact run_load_exec 23 _ rfl _ rfl (run_loadVar_row w _ 23 23 _ (0, 0) _ (row_heap hSw.1) Tryd.underlying23 rfl (info23v _))
  simp only [List.getElem_toArray, List.getElem_cons_succ, List.getElem_cons_zero, Act.put, List.setIfInBounds_toArray, List.set_cons_zero, List.set_cons_succ]
  refine wpAnyH_take (i := 2) (v := .agg (vec 25 (lan S))) rfl (by kernel_rfl) (by kernel_rfl) (by kernel_rfl) (fun _ _ _ h => h) (Or.inl ⟨by rfl, fun w hSw => ?_⟩) hHeld ?_
  · exact run_load_exec 23 _ rfl _ rfl (run_loadVar_row w _ 23 23 _ (0, 0) _ (row_heap hSw.1) Tryd.underlying23 rfl (info23v _))
  simp only [List.getElem_toArray, List.getElem_cons_succ, List.getElem_cons_zero, Act.put, List.setIfInBounds_toArray, List.set_cons_zero, List.set_cons_succ]
  refine wpAnyH_ready (rs := [1]) (by kernel_rfl) (by simp) ?_
  refine AllReadyH.cons rfl (fun K hK => ?_) AllReadyH.nil
  go_simp
  refine (HC.out.1 _ (H0.out.1.below hHeld.2 H0.out.2)).mono ?_
  rintro e V2 ⟨rfl, hb2⟩
  have hS2 : V2.rowIs W0.heap.size 23 25 (lan S) ∧ Below W0.heap.size W0 V2 := ⟨hHeld.1.of_block (hb2.block _ hHeld.1.lt), hHeld.2.trans (hb2.mono hHeld.2.size)⟩
  go_wp2_with fail
  refine hK.out _ _ ?_ (fun hHeld => ?_)
  · exact hS2
  clear hK K
  try simp only [List.getElem_toArray, List.getElem_cons_succ, List.getElem_cons_zero, Act.put, List.setIfInBounds_toArray, List.set_cons_zero, List.set_cons_succ]
  refine wpAnyH_ready (rs := [3]) (by kernel_rfl) (by simp) ?_
  refine AllReadyH.cons rfl (fun K hK => ?_) AllReadyH.nil
  go_simp
  refine (HC.out.2 _).mono ?_
  rintro e V2 ⟨rfl, hb2⟩
  have hS2 : V2.rowIs W0.heap.size 23 25 (lan S) ∧ Below W0.heap.size W0 V2 := ⟨hHeld.1.of_block (hb2.block _ hHeld.1.lt), hHeld.2.trans (hb2.mono hHeld.2.size)⟩
  go_wp2_with fail
  refine hK.out _ _ ?_ (fun hHeld => ?_)
  · exact hS2
  clear hK K
  try simp only [List.getElem_toArray, List.getElem_cons_succ, List.getElem_cons_zero, Act.put, List.setIfInBounds_toArray, List.set_cons_zero, List.set_cons_succ]
  refine wpAnyH_take (i := 4) (v := .bool true) rfl (by kernel_rfl) (by kernel_rfl) (by kernel_rfl) (fun _ _ _ h => h) (Or.inl ⟨by rfl, fun w hSw => ?_⟩) hHeld ?_
  · have q := eq23 pS w; go_simp
  simp only [List.getElem_toArray, List.getElem_cons_succ, List.getElem_cons_zero, Act.put, List.setIfInBounds_toArray, List.set_cons_zero, List.set_cons_succ]
  refine wpAnyH_take (i := 5) (v := .bool true) rfl (by kernel_rfl) (by kernel_rfl) (by kernel_rfl) (fun _ _ _ h => h) (Or.inl ⟨by rfl, fun w hSw => ?_⟩) hHeld ?_
  · go_simp
  simp only [List.getElem_toArray, List.getElem_cons_succ, List.getElem_cons_zero, Act.put, List.setIfInBounds_toArray, List.set_cons_zero, List.set_cons_succ]
  refine wpAnyH_ready (rs := [6]) (by kernel_rfl) (by simp) ?_
  refine AllReadyH.cons rfl (fun K hK => ?_) AllReadyH.nil
  go_simp
  refine (alive_any _ (H0.out.1.below hHeld.2 H0.out.2)).mono ?_
  rintro e V2 ⟨rfl, hb2⟩
  have hS2 : V2.rowIs W0.heap.size 23 25 (lan S) ∧ Below W0.heap.size W0 V2 := ⟨hHeld.1.of_block (hb2.block _ hHeld.1.lt), hHeld.2.trans (hb2.mono hHeld.2.size)⟩
  go_wp2_with fail
  refine hK.out _ _ ?_ (fun hHeld => ?_)
  · exact hS2
  clear hK K
  try simp only [List.getElem_toArray, List.getElem_cons_succ, List.getElem_cons_zero, Act.put, List.setIfInBounds_toArray, List.set_cons_zero, List.set_cons_succ]
  refine wpAnyH_take (i := 7) (v := .bool true) rfl (by kernel_rfl) (by kernel_rfl) (by kernel_rfl) (fun _ _ _ h => h) (Or.inl ⟨by rfl, fun w hSw => ?_⟩) hHeld ?_
  · go_simp
  simp only [List.getElem_toArray, List.getElem_cons_succ, List.getElem_cons_zero, Act.put, List.setIfInBounds_toArray, List.set_cons_zero, List.set_cons_succ]
  refine wpAnyH_take (i := 8) (v := .bool true) rfl (by kernel_rfl) (by kernel_rfl) (by kernel_rfl) (fun _ _ _ h => h) (Or.inl ⟨by rfl, fun w hSw => ?_⟩) hHeld ?_
  · go_simp
  simp only [List.getElem_toArray, List.getElem_cons_succ, List.getElem_cons_zero, Act.put, List.setIfInBounds_toArray, List.set_cons_zero, List.set_cons_succ]
  refine wpAnyH_done (by kernel_rfl) ?_ _
  go_wp2
  go_ret
  exact ⟨rfl, hHeld.2⟩
end Go.Proofs.YtmhfgchckebnpaaDoor
