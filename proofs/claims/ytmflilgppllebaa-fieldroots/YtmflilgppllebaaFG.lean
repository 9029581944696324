/- FieldRoots: the walk. -/
import Derived.Test.YtmflilgppllebaaFJ
import Derived.Test.YtmflilgppllebaaFV
namespace Go.Proofs.Ytmflilgppllebaa
open Go.RowKit
set_option linter.unusedSimpArgs false
set_option linter.unusedVariables false

set_option maxRecDepth 20000 in
set_option maxHeartbeats 4000000 in
theorem roots_any (a0 a1 a2 a3 : Int) (la : L4 a0 a1 a2 a3) (w : World) :
    Calls Try.prog 4 #[W4 a0 a1 a2 a3] w fun e w' => e = .returned (.bool true) ∧ Below w.heap.size w w' := by
  have HA : Hid (IsW (W4 a0 a1 a2 a3) (num a0 a1 a2 a3)) := IsW.mk la
  have V0 : Hid (VarW (w.alloc (.cells (C4 a0 a1 a2 a3) 24)) w.heap.size (W4 a0 a1 a2 a3) ∧ Below w.heap.size w (w.alloc (.cells (C4 a0 a1 a2 a3) 24))) := ⟨VarW.new1 la w, by go_grown⟩
  clear la
  generalize num a0 a1 a2 a3 = a at HA
  have HG : Hid (∀ w, Calls Try.prog 18 #[W4 a0 a1 a2 a3] w fun e w' => ∃ v, e = .returned (.tuple #[v, .bool (sqrtB a)]) ∧ IsW v (sqrtR a) ∧ Below w.heap.size w w') := fun w => g_sqrt HA.out w
  have HN : Hid (∀ w, Calls Try.prog 19 #[W4 a0 a1 a2 a3] w fun e w' => ∃ v, e = .returned (.tuple #[v, .bool (sqrtB a)]) ∧ IsW v (sqrtR a) ∧ Below w.heap.size w w') := fun w => n_sqrt HA.out w
  generalize sqrtB a = sb at HG HN
  generalize sqrtR a = sr at HG HN
  go_enter Try.func4, Try.ntmps4
  unfold W4
  go_wp2_with fail
  generalize (w.alloc (.cells (C4 a0 a1 a2 a3) 24)) = W0 at V0 ⊢
  refine Calls.mono (HG.out _) ?_
  rintro e w9 ⟨v9, rfl, h9, b9⟩
  have H9 : Hid (IsW v9 sr) := h9
  have hn := VarW.new w9
  have hs : Hid (w.heap.size < w9.heap.size) := (V0.out.1.kept b9).lt
  have V1 : Hid (VarW ((w9.alloc (.cells (C4 0 0 0 0) 24)).setRow w9.heap.size (cw v9)) w.heap.size (W4 a0 a1 a2 a3) ∧ VarW ((w9.alloc (.cells (C4 0 0 0 0) 24)).setRow w9.heap.size (cw v9)) w9.heap.size v9 ∧ Below w.heap.size w ((w9.alloc (.cells (C4 0 0 0 0) 24)).setRow w9.heap.size (cw v9))) :=
    ⟨((V0.out.1.kept b9).old _).other (by have := hs.out; omega) _, hn.put h9, below_setRow ((V0.out.2.trans (b9.mono V0.out.2.size)).alloc (Nat.le_of_lt hs.out) _) (Nat.le_of_lt hs.out) _⟩
  clear V0 b9
  go_wp2_with (first | (refine wpList_store_varW (u := v9) rfl _ _ rfl w9.heap.size rfl rfl h9 hn ?_) | (refine wpList_load_varW rfl _ rfl w.heap.size rfl V1.out.1 ?_))
  clear hn h9 hs
  generalize (w9.alloc (.cells (C4 0 0 0 0) 24)).setRow w9.heap.size (cw v9) = W1 at V1 ⊢
  generalize w9.heap.size = z3 at V1 ⊢
  refine Calls.mono (HN.out _) ?_
  rintro e w14 ⟨v14, rfl, h14, b14⟩
  have H14 : Hid (IsW v14 sr) := h14
  have hn := VarW.new w14
  have hs : Hid (w.heap.size < w14.heap.size ∧ z3 < w14.heap.size) := ⟨(V1.out.1.kept b14).lt, (V1.out.2.1.kept b14).lt⟩
  have V2 : Hid (VarW ((w14.alloc (.cells (C4 0 0 0 0) 24)).setRow w14.heap.size (cw v14)) w.heap.size (W4 a0 a1 a2 a3) ∧ VarW ((w14.alloc (.cells (C4 0 0 0 0) 24)).setRow w14.heap.size (cw v14)) z3 v9 ∧ VarW ((w14.alloc (.cells (C4 0 0 0 0) 24)).setRow w14.heap.size (cw v14)) w14.heap.size v14 ∧ Below w.heap.size w ((w14.alloc (.cells (C4 0 0 0 0) 24)).setRow w14.heap.size (cw v14))) :=
    ⟨((V1.out.1.kept b14).old _).other (by have := hs.out; omega) _, ((V1.out.2.1.kept b14).old _).other (by have := hs.out; omega) _, hn.put h14, below_setRow ((V1.out.2.2.trans (b14.mono V1.out.2.2.size)).alloc (Nat.le_of_lt hs.out.1) _) (Nat.le_of_lt hs.out.1) _⟩
  clear V1 b14
  go_wp2_with (first | (refine wpList_store_varW (u := v14) rfl _ _ rfl w14.heap.size rfl rfl h14 hn ?_))
  clear hn h14 hs
  generalize (w14.alloc (.cells (C4 0 0 0 0) 24)).setRow w14.heap.size (cw v14) = W2 at V2 ⊢
  generalize w14.heap.size = z5 at V2 ⊢
  refine wp_region_held_drew (S := fun w' => Below (W2.heap.size) W2 w') (by kernel_rfl) (Below.drew (Below.refl _ _)) (fun hHeld => ?_)
  generalize W2.drew = wd at hHeld  ⊢
  refine wpAnyH_take (i := 0) (v := W4 a0 a1 a2 a3) rfl (by kernel_rfl) (by kernel_rfl) (by kernel_rfl) (fun _ _ _ h => h) (Or.inl ⟨by rfl, fun w9 hSw => ?_⟩) hHeld ?_
  · exact run_load_exec 24 _ rfl _ rfl (V2.out.1.kept hSw).load
  simp only [List.getElem_toArray, List.getElem_cons_succ, List.getElem_cons_zero, Act.put, List.setIfInBounds_toArray, List.set_cons_zero, List.set_cons_succ]
  refine wpAnyH_take (i := 2) (v := W4 a0 a1 a2 a3) rfl (by kernel_rfl) (by kernel_rfl) (by kernel_rfl) (fun _ _ _ h => h) (Or.inl ⟨by rfl, fun w9 hSw => ?_⟩) hHeld ?_
  · exact run_load_exec 24 _ rfl _ rfl (V2.out.1.kept hSw).load
  simp only [List.getElem_toArray, List.getElem_cons_succ, List.getElem_cons_zero, Act.put, List.setIfInBounds_toArray, List.set_cons_zero, List.set_cons_succ]
  refine wpAnyH_ready (rs := [1]) (by kernel_rfl) (by simp) ?_
  refine AllReadyH.cons rfl (fun K hK => ?_) AllReadyH.nil
  go_simp
  refine Calls.mono (g_inv HA.out _) ?_
  rintro e w18 ⟨v18, rfl, h18, b18⟩
  go_wp2_with fail
  refine hK.out _ _ (hHeld.trans (b18.mono (Nat.le_trans (Nat.le_refl _) hHeld.size))) (fun hHeld => ?_)
  clear hK K
  try simp only [List.getElem_toArray, List.getElem_cons_succ, List.getElem_cons_zero, Act.put, List.setIfInBounds_toArray, List.set_cons_zero, List.set_cons_succ]
  refine wpAnyH_ready (rs := [3]) (by kernel_rfl) (by simp) ?_
  refine AllReadyH.cons rfl (fun K hK => ?_) AllReadyH.nil
  go_simp
  refine Calls.mono (n_inv HA.out _) ?_
  rintro e w20 ⟨v20, rfl, h20, b20⟩
  go_wp2_with fail
  refine hK.out _ _ (hHeld.trans (b20.mono (Nat.le_trans (Nat.le_refl _) hHeld.size))) (fun hHeld => ?_)
  clear hK K
  try simp only [List.getElem_toArray, List.getElem_cons_succ, List.getElem_cons_zero, Act.put, List.setIfInBounds_toArray, List.set_cons_zero, List.set_cons_succ]
  refine wpAnyH_take (i := 4) (v := .bool true) rfl (by kernel_rfl) (by kernel_rfl) (by kernel_rfl) (fun _ _ _ h => h) (Or.inl ⟨by rfl, fun w9 hSw => ?_⟩) hHeld ?_
  · have q := eqW' (b := true) h18 h20 (beq_self_eq_true _) w9
    obtain ⟨p0, p1, p2, p3, rfl, _, _⟩ := h18
    obtain ⟨q0, q1, q2, q3, rfl, _, _⟩ := h20
    unfold W4 at q ⊢
    go_simp
  simp only [List.getElem_toArray, List.getElem_cons_succ, List.getElem_cons_zero, Act.put, List.setIfInBounds_toArray, List.set_cons_zero, List.set_cons_succ]
  refine wpAnyH_take (i := 5) (v := .bool true) rfl (by kernel_rfl) (by kernel_rfl) (by kernel_rfl) (fun _ _ _ h => h) (Or.inl ⟨by rfl, fun w9 hSw => ?_⟩) hHeld ?_
  · go_simp
  simp only [List.getElem_toArray, List.getElem_cons_succ, List.getElem_cons_zero, Act.put, List.setIfInBounds_toArray, List.set_cons_zero, List.set_cons_succ]
  refine wpAnyH_take (i := 6) (v := v9) rfl (by kernel_rfl) (by kernel_rfl) (by kernel_rfl) (fun _ _ _ h => h) (Or.inl ⟨by rfl, fun w9 hSw => ?_⟩) hHeld ?_
  · exact run_load_exec 24 _ rfl _ rfl (V2.out.2.1.kept hSw).load
  simp only [List.getElem_toArray, List.getElem_cons_succ, List.getElem_cons_zero, Act.put, List.setIfInBounds_toArray, List.set_cons_zero, List.set_cons_succ]
  refine wpAnyH_take (i := 7) (v := v14) rfl (by kernel_rfl) (by kernel_rfl) (by kernel_rfl) (fun _ _ _ h => h) (Or.inl ⟨by rfl, fun w9 hSw => ?_⟩) hHeld ?_
  · exact run_load_exec 24 _ rfl _ rfl (V2.out.2.2.1.kept hSw).load
  simp only [List.getElem_toArray, List.getElem_cons_succ, List.getElem_cons_zero, Act.put, List.setIfInBounds_toArray, List.set_cons_zero, List.set_cons_succ]
  refine wpAnyH_take (i := 8) (v := .bool true) rfl (by kernel_rfl) (by kernel_rfl) (by kernel_rfl) (fun _ _ _ h => h) (Or.inl ⟨by rfl, fun w9 hSw => ?_⟩) hHeld ?_
  · have q := eqW' (b := true) H9.out H14.out (beq_self_eq_true _) w9
    obtain ⟨p0, p1, p2, p3, rfl, _, _⟩ := H9.out
    obtain ⟨q0, q1, q2, q3, rfl, _, _⟩ := H14.out
    unfold W4 at q ⊢
    go_simp
  simp only [List.getElem_toArray, List.getElem_cons_succ, List.getElem_cons_zero, Act.put, List.setIfInBounds_toArray, List.set_cons_zero, List.set_cons_succ]
  refine wpAnyH_take (i := 9) (v := .bool true) rfl (by kernel_rfl) (by kernel_rfl) (by kernel_rfl) (fun _ _ _ h => h) (Or.inl ⟨by rfl, fun w9 hSw => ?_⟩) hHeld ?_
  · go_simp
  simp only [List.getElem_toArray, List.getElem_cons_succ, List.getElem_cons_zero, Act.put, List.setIfInBounds_toArray, List.set_cons_zero, List.set_cons_succ]
  refine wpAnyH_take (i := 10) (v := .bool true) rfl (by kernel_rfl) (by kernel_rfl) (by kernel_rfl) (fun _ _ _ h => h) (Or.inl ⟨by rfl, fun w9 hSw => ?_⟩) hHeld ?_
  · go_simp
  simp only [List.getElem_toArray, List.getElem_cons_succ, List.getElem_cons_zero, Act.put, List.setIfInBounds_toArray, List.set_cons_zero, List.set_cons_succ]
  refine wpAnyH_take (i := 11) (v := .bool sb) rfl (by kernel_rfl) (by kernel_rfl) (by kernel_rfl) (fun _ _ _ h => h) (Or.inl ⟨by rfl, fun w9 hSw => ?_⟩) hHeld ?_
  · go_simp
  simp only [List.getElem_toArray, List.getElem_cons_succ, List.getElem_cons_zero, Act.put, List.setIfInBounds_toArray, List.set_cons_zero, List.set_cons_succ]
  refine wpAnyH_take (i := 12) (v := .bool sb) rfl (by kernel_rfl) (by kernel_rfl) (by kernel_rfl) (fun _ _ _ h => h) (Or.inl ⟨by rfl, fun w9 hSw => ?_⟩) hHeld ?_
  · go_simp
  simp only [List.getElem_toArray, List.getElem_cons_succ, List.getElem_cons_zero, Act.put, List.setIfInBounds_toArray, List.set_cons_zero, List.set_cons_succ]
  refine wpAnyH_take (i := 13) (v := .bool true) rfl (by kernel_rfl) (by kernel_rfl) (by kernel_rfl) (fun _ _ _ h => h) (Or.inl ⟨by rfl, fun w9 hSw => ?_⟩) hHeld ?_
  · cases sb <;> go_simp
  simp only [List.getElem_toArray, List.getElem_cons_succ, List.getElem_cons_zero, Act.put, List.setIfInBounds_toArray, List.set_cons_zero, List.set_cons_succ]
  refine wpAnyH_take (i := 14) (v := .bool true) rfl (by kernel_rfl) (by kernel_rfl) (by kernel_rfl) (fun _ _ _ h => h) (Or.inl ⟨by rfl, fun w9 hSw => ?_⟩) hHeld ?_
  · go_simp
  simp only [List.getElem_toArray, List.getElem_cons_succ, List.getElem_cons_zero, Act.put, List.setIfInBounds_toArray, List.set_cons_zero, List.set_cons_succ]
  refine wpAnyH_take (i := 15) (v := .bool true) rfl (by kernel_rfl) (by kernel_rfl) (by kernel_rfl) (fun _ _ _ h => h) (Or.inl ⟨by rfl, fun w9 hSw => ?_⟩) hHeld ?_
  · go_simp
  simp only [List.getElem_toArray, List.getElem_cons_succ, List.getElem_cons_zero, Act.put, List.setIfInBounds_toArray, List.set_cons_zero, List.set_cons_succ]
  refine wpAnyH_ready (rs := [16]) (by kernel_rfl) (by simp) ?_
  refine AllReadyH.cons rfl (fun K hK => ?_) AllReadyH.nil
  go_simp
  refine Calls.mono (alive_any _) ?_
  rintro e w33 ⟨rfl, b33⟩
  go_wp2_with fail
  refine hK.out _ _ (hHeld.trans (b33.mono (Nat.le_trans (Nat.le_refl _) hHeld.size))) (fun hHeld => ?_)
  clear hK K
  try simp only [List.getElem_toArray, List.getElem_cons_succ, List.getElem_cons_zero, Act.put, List.setIfInBounds_toArray, List.set_cons_zero, List.set_cons_succ]
  refine wpAnyH_take (i := 17) (v := .bool true) rfl (by kernel_rfl) (by kernel_rfl) (by kernel_rfl) (fun _ _ _ h => h) (Or.inl ⟨by rfl, fun w9 hSw => ?_⟩) hHeld ?_
  · go_simp
  simp only [List.getElem_toArray, List.getElem_cons_succ, List.getElem_cons_zero, Act.put, List.setIfInBounds_toArray, List.set_cons_zero, List.set_cons_succ]
  refine wpAnyH_take (i := 18) (v := .bool true) rfl (by kernel_rfl) (by kernel_rfl) (by kernel_rfl) (fun _ _ _ h => h) (Or.inl ⟨by rfl, fun w9 hSw => ?_⟩) hHeld ?_
  · go_simp
  simp only [List.getElem_toArray, List.getElem_cons_succ, List.getElem_cons_zero, Act.put, List.setIfInBounds_toArray, List.set_cons_zero, List.set_cons_succ]
  refine wpAnyH_done (by kernel_rfl) ?_ _
  have hB := V2.out.2.2.2.trans (hHeld.mono V2.out.2.2.2.size)
  clear hHeld V2
  go_wp2
  go_ret
  exact ⟨rfl, hB⟩
end Go.Proofs.Ytmflilgppllebaa
