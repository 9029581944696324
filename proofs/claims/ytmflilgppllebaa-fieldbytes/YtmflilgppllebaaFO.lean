/- conclaveref04: P, L, Ladd, Lmul. -/
import Derived.Test.YtmflilgppllebaaFN
import Derived.Test.YtmflilgppllebaaFI
namespace Go.Proofs.Ytmflilgppllebaa
open Go.RowKit
set_option linter.unusedSimpArgs false
set_option linter.unusedVariables false
set_option maxRecDepth 20000

theorem num_lit (w : World) (d : List Int) (hB : Byt d) : Num (w.alloc (.cells (d.map (Value.int .i64)).toArray 3)) (.slice (some ⟨w.heap.size, 0, none⟩) d.length d.length) d.length (valB d) := by
  refine ⟨d, ⟨_, d.length, rfl, Nat.le_refl _, fun _ => ⟨w.heap.size, 0, rfl, by simp, fun k hk => ?_⟩⟩, hB, Nat.le_refl _, rfl⟩
  rw [Nat.zero_add, cell_of_row _ w.heap.size k _ 3 (0, 0) (heap_alloc_new _ _), List.getElem?_toArray, List.getElem?_map, List.getElem?_eq_getElem hk]
  simp [List.getD, List.getElem?_eq_getElem hk]
theorem byt_of (d : List Int) (h : d.all (fun x => decide (0 ≤ x) && decide (x < 256)) = true) : Byt d := fun k => by
  rcases Nat.lt_or_ge k d.length with g | g
  · have e : d.getD k 0 = d[k] := by simp [List.getD, List.getElem?_eq_getElem g]
    have := List.all_eq_true.1 h d[k] (List.getElem_mem g)
    simp at this
    rw [e]; exact this
  · have e : d.getD k 0 = 0 := by simp [List.getD, List.getElem?_eq_none g]
    rw [e]; exact ⟨by decide, by decide⟩
theorem num19 (w : World) : Num (w.alloc (.cells #[.int .i64 19] 3)) (.slice (some ⟨w.heap.size, 0, none⟩) 1 1) 1 19 := num_lit w [19] (byt_of _ (by decide))
def Ld : List Int := [237, 211, 245, 92, 26, 99, 18, 88, 214, 156, 247, 162, 222, 249, 222, 20]
theorem numLd (w : World) : Num (w.alloc (.cells #[.int .i64 237, .int .i64 211, .int .i64 245, .int .i64 92, .int .i64 26, .int .i64 99, .int .i64 18, .int .i64 88, .int .i64 214, .int .i64 156, .int .i64 247, .int .i64 162, .int .i64 222, .int .i64 249, .int .i64 222, .int .i64 20] 3)) (.slice (some ⟨w.heap.size, 0, none⟩) 16 16) 16 27742317777372353535851937790883648493 := num_lit w Ld (byt_of _ (by decide))
set_option maxHeartbeats 1000000 in
/-- conclaveref04.P -/
theorem n_p (w : World) : Calls Try.prog 40 #[] w fun e w' => ∃ v, e = .returned v ∧ Num w' v 32 PP ∧ Below w.heap.size w w' := by
  go_enter Try.func40, Try.ntmps40
  go_wp2_with fail
  refine Calls.mono (n_power 255 (by decide) _) ?_
  rintro e w1 ⟨v1, rfl, h1, b1⟩
  have H1 : Hid (Num w1 v1 32 (2 ^ 255)) := h1
  clear h1
  go_wp2_with fail
  have bx : Below w1.heap.size w1 (w1.alloc (.cells #[.int .i64 19] 3)) := by go_grown
  refine Calls.mono (n_less _ _ _ 32 1 (2 ^ 255) 19 (H1.out.below bx) (num19 w1) (by decide) (by decide) (by decide +kernel) (by decide +kernel)) ?_
  rintro e w2 ⟨v2, rfl, h2, b2⟩
  have hB : Below w.heap.size w w2 := (b1.trans (bx.mono b1.size)).trans (b2.mono (Nat.le_trans b1.size bx.size))
  have H2 : Hid (Num w2 v2 32 PP) := by
    have e : (2 : Int) ^ 255 - 19 = PP := by decide +kernel
    rw [← e]; exact h2
  clear h2 b1 b2 bx H1
  go_wp2
  go_ret
  exact ⟨_, rfl, H2.out, hB⟩
set_option maxHeartbeats 1000000 in
/-- conclaveref04.L -/
theorem n_l (w : World) : Calls Try.prog 53 #[] w fun e w' => ∃ v, e = .returned v ∧ Num w' v 33 LL ∧ Below w.heap.size w w' := by
  have hbs : ∀ w, (Instr.buildSlice 46 16 #[(0, .int .i64 237), (1, .int .i64 211), (2, .int .i64 245), (3, .int .i64 92), (4, .int .i64 26), (5, .int .i64 99), (6, .int .i64 18), (7, .int .i64 88), (8, .int .i64 214), (9, .int .i64 156), (10, .int .i64 247), (11, .int .i64 162), (12, .int .i64 222), (13, .int .i64 249), (14, .int .i64 222), (15, .int .i64 20)]).run Try.prog w = .ok (.slice (some ⟨w.heap.size, 0, none⟩) 16 16) (w.alloc (.cells #[.int .i64 237, .int .i64 211, .int .i64 245, .int .i64 92, .int .i64 26, .int .i64 99, .int .i64 18, .int .i64 88, .int .i64 214, .int .i64 156, .int .i64 247, .int .i64 162, .int .i64 222, .int .i64 249, .int .i64 222, .int .i64 20] 3)) := fun _ => by kernel_rfl
  have hN := numLd w
  have bA : Below w.heap.size w (w.alloc (.cells #[.int .i64 237, .int .i64 211, .int .i64 245, .int .i64 92, .int .i64 26, .int .i64 99, .int .i64 18, .int .i64 88, .int .i64 214, .int .i64 156, .int .i64 247, .int .i64 162, .int .i64 222, .int .i64 249, .int .i64 222, .int .i64 20] 3)) := by go_grown
  go_enter Try.func53, Try.ntmps53
  go_wp2_with fail
  generalize w.alloc (.cells #[.int .i64 237, .int .i64 211, .int .i64 245, .int .i64 92, .int .i64 26, .int .i64 99, .int .i64 18, .int .i64 88, .int .i64 214, .int .i64 156, .int .i64 247, .int .i64 162, .int .i64 222, .int .i64 249, .int .i64 222, .int .i64 20] 3) = W at hN bA ⊢
  have HN : Hid (Num W (.slice (some ⟨w.heap.size, 0, none⟩) 16 16) 16 27742317777372353535851937790883648493) := hN
  clear hN hbs
  refine Calls.mono (n_power 252 (by decide) _) ?_
  rintro e w1 ⟨v1, rfl, h1, b1⟩
  have H1 : Hid (Num w1 v1 32 (2 ^ 252)) := h1
  have HB : Hid _ := b1
  clear h1
  go_wp2_with fail
  refine Calls.mono (n_plus _ _ _ 32 16 (2 ^ 252) 27742317777372353535851937790883648493 H1.out (HN.out.below b1) (by decide) (by decide)) ?_
  rintro e w2 ⟨v2, rfl, h2, b2⟩
  have hB : Below w.heap.size w w2 := (bA.trans (b1.mono bA.size)).trans (b2.mono (Nat.le_trans bA.size b1.size))
  have H2 : Hid (Num w2 v2 33 LL) := by
    have e : (2 : Int) ^ 252 + 27742317777372353535851937790883648493 = LL := by decide +kernel
    rw [← e]; exact h2.le (by decide)
  clear h2 b1 b2 bA H1 HN HB
  go_wp2
  go_ret
  exact ⟨_, rfl, H2.out, hB⟩
set_option maxHeartbeats 1000000 in
/-- conclaveref04.Ladd -/
theorem n_ladd {va : Value} {a : Int} {vb : Value} {b : Int} (ha : IsW va a) (hb : IsW vb b) : GivesW 32 #[va, vb] ((a + b) % LL) := fun w => by
  have Ha : Hid _ := ha
  obtain ⟨a0, a1, a2, a3, rfl, la, na⟩ := ha
  clear la na
  have Hb : Hid _ := hb
  obtain ⟨b0, b1, b2, b3, rfl, lb, nb⟩ := hb
  clear lb nb
  have HA : Hid ((((w.alloc (.cells (C4 a0 a1 a2 a3) 24)).alloc (.cells (C4 b0 b1 b2 b3) 24)).alloc (.cells (C4 0 0 0 0) 24)).heap[w.heap.size]? = some (.cells (C4 a0 a1 a2 a3) 24 (0, 0)) ∧ (((w.alloc (.cells (C4 a0 a1 a2 a3) 24)).alloc (.cells (C4 b0 b1 b2 b3) 24)).alloc (.cells (C4 0 0 0 0) 24)).heap[w.heap.size + 1]? = some (.cells (C4 b0 b1 b2 b3) 24 (0, 0)) ∧ (((w.alloc (.cells (C4 a0 a1 a2 a3) 24)).alloc (.cells (C4 b0 b1 b2 b3) 24)).alloc (.cells (C4 0 0 0 0) 24)).heap[w.heap.size + 2]? = some (.cells (C4 0 0 0 0) 24 (0, 0)) ∧ Below w.heap.size w (((w.alloc (.cells (C4 a0 a1 a2 a3) 24)).alloc (.cells (C4 b0 b1 b2 b3) 24)).alloc (.cells (C4 0 0 0 0) 24))) := ⟨heap_old _ _ _ _ (heap_old _ _ _ _ (heap_alloc_new _ _)), heap_old _ _ _ _ (heapAt _ _ _ (by simp)), heapAt _ _ _ (by simp), by go_grown⟩
  go_enter Try.func32, Try.ntmps32
  unfold W4
  go_wp2
  generalize (((w.alloc (.cells (C4 a0 a1 a2 a3) 24)).alloc (.cells (C4 b0 b1 b2 b3) 24)).alloc (.cells (C4 0 0 0 0) 24)) = W at HA ⊢
  refine wp_region_held_drew (S := fun w' => w'.heap[w.heap.size]? = some (.cells (C4 a0 a1 a2 a3) 24 (0, 0)) ∧ w'.heap[w.heap.size + 1]? = some (.cells (C4 b0 b1 b2 b3) 24 (0, 0)) ∧ True) (by kernel_rfl) (⟨HA.out.1, HA.out.2.1, trivial⟩) (fun hHeld => ?_)
  refine wpAnyH_take (i := 0) (v := W4 a0 a1 a2 a3) rfl (by kernel_rfl) (by kernel_rfl) (by kernel_rfl) (fun _ _ _ h => h) (Or.inl ⟨by rfl, fun w9 hSw => ?_⟩) hHeld ?_
  · exact run_load_exec 24 _ rfl _ rfl (run_loadVar_row w9 _ 24 24 _ (0, 0) _ hSw.1 Try.underlying24 rfl (info24c _ _ _ _))
  simp only [List.getElem_toArray, List.getElem_cons_succ, List.getElem_cons_zero, Act.put, List.setIfInBounds_toArray, List.set_cons_zero, List.set_cons_succ]
  refine wpAnyH_take (i := 2) (v := W4 b0 b1 b2 b3) rfl (by kernel_rfl) (by kernel_rfl) (by kernel_rfl) (fun _ _ _ h => h) (Or.inl ⟨by rfl, fun w9 hSw => ?_⟩) hHeld ?_
  · exact run_load_exec 24 _ rfl _ rfl (run_loadVar_row w9 _ 24 24 _ (0, 0) _ hSw.2.1 Try.underlying24 rfl (info24c _ _ _ _))
  simp only [List.getElem_toArray, List.getElem_cons_succ, List.getElem_cons_zero, Act.put, List.setIfInBounds_toArray, List.set_cons_zero, List.set_cons_succ]
  refine wpAnyH_ready (rs := [1]) (by kernel_rfl) (by simp) ?_
  refine AllReadyH.cons rfl (fun K hK => ?_) AllReadyH.nil
  go_simp
  refine Calls.mono (n_of Ha.out _) ?_
  rintro e w0 ⟨u1, rfl, h1, b0⟩
  go_wp2_with fail
  refine hK.out _ _ ?_ (fun hHeld => ?_)
  · exact ⟨kept hHeld.1 b0, kept hHeld.2.1 b0, trivial⟩
  clear hK K
  try simp only [List.getElem_toArray, List.getElem_cons_succ, List.getElem_cons_zero, Act.put, List.setIfInBounds_toArray, List.set_cons_zero, List.set_cons_succ]
  refine wpAnyH_ready (rs := [3]) (by kernel_rfl) (by simp) ?_
  refine AllReadyH.cons rfl (fun K hK => ?_) AllReadyH.nil
  go_simp
  refine Calls.mono (n_of Hb.out _) ?_
  rintro e w1 ⟨u2, rfl, h2, b1⟩
  replace h1 := h1.below b1
  go_wp2_with fail
  refine hK.out _ _ ?_ (fun hHeld => ?_)
  · exact ⟨kept hHeld.1 b1, kept hHeld.2.1 b1, trivial⟩
  clear hK K
  try simp only [List.getElem_toArray, List.getElem_cons_succ, List.getElem_cons_zero, Act.put, List.setIfInBounds_toArray, List.set_cons_zero, List.set_cons_succ]
  refine wpAnyH_ready (rs := [4]) (by kernel_rfl) (by simp) ?_
  refine AllReadyH.cons rfl (fun K hK => ?_) AllReadyH.nil
  go_simp
  refine Calls.mono (n_plus _ _ _ 32 32 a b h1 h2 (by decide) (by decide)) ?_
  rintro e w2 ⟨u3, rfl, h3, b2⟩
  replace h1 := h1.below b2
  replace h2 := h2.below b2
  go_wp2_with fail
  refine hK.out _ _ ?_ (fun hHeld => ?_)
  · exact ⟨kept hHeld.1 b2, kept hHeld.2.1 b2, trivial⟩
  clear hK K
  try simp only [List.getElem_toArray, List.getElem_cons_succ, List.getElem_cons_zero, Act.put, List.setIfInBounds_toArray, List.set_cons_zero, List.set_cons_succ]
  refine wpAnyH_ready (rs := [5]) (by kernel_rfl) (by simp) ?_
  refine AllReadyH.cons rfl (fun K hK => ?_) AllReadyH.nil
  go_simp
  refine Calls.mono (n_l _) ?_
  rintro e w3 ⟨u4, rfl, h4, b3⟩
  replace h1 := h1.below b3
  replace h2 := h2.below b3
  replace h3 := h3.below b3
  go_wp2_with fail
  refine hK.out _ _ ?_ (fun hHeld => ?_)
  · exact ⟨kept hHeld.1 b3, kept hHeld.2.1 b3, trivial⟩
  clear hK K
  try simp only [List.getElem_toArray, List.getElem_cons_succ, List.getElem_cons_zero, Act.put, List.setIfInBounds_toArray, List.set_cons_zero, List.set_cons_succ]
  refine wpAnyH_ready (rs := [6]) (by kernel_rfl) (by simp) ?_
  refine AllReadyH.cons rfl (fun K hK => ?_) AllReadyH.nil
  go_simp
  refine Calls.mono (n_mod _ _ _ 33 33 (a + b) LL h3 h4 (by decide) (by decide) (by decide) (by decide)) ?_
  rintro e w4 ⟨u5, rfl, h5, b4⟩
  replace h1 := h1.below b4
  replace h2 := h2.below b4
  replace h3 := h3.below b4
  replace h4 := h4.below b4
  go_wp2_with fail
  refine hK.out _ _ ?_ (fun hHeld => ?_)
  · exact ⟨kept hHeld.1 b4, kept hHeld.2.1 b4, trivial⟩
  clear hK K
  try simp only [List.getElem_toArray, List.getElem_cons_succ, List.getElem_cons_zero, Act.put, List.setIfInBounds_toArray, List.set_cons_zero, List.set_cons_succ]
  have k0 : Below W.heap.size W w0 := (Below.drew (Below.refl _ W)).trans b0
  have k1 := k0.trans (b1.mono k0.size)
  have k2 := k1.trans (b2.mono k1.size)
  have k3 := k2.trans (b3.mono k2.size)
  have k4 := k3.trans (b4.mono k3.size)
  have hh := kept HA.out.2.2.1 k4
  have hB : Below w.heap.size w w4 := HA.out.2.2.2.trans (k4.mono HA.out.2.2.2.size)
  obtain ⟨s0, s1, s2, s3, rfl, hL, hN⟩ := h5
  refine wpAnyH_ready (rs := [7]) (by kernel_rfl) (by simp) ?_
  refine AllReadyH.cons rfl (fun K hK => ?_) AllReadyH.nil
  refine step_store_row (by rfl) 24 _ _ rfl (w.heap.size + 2) (C4 s0 s1 s2 s3) rfl rfl (run_storeVar_row _ _ 24 24 _ _ hh (info24c _ _ _ _) rfl (fone4 _ _ _ _)) ?_
  refine hK.out _ _ ?_ (fun hHeld => ?_)
  · exact ⟨(setRow_other _ _ _ _ (by omega)).trans hHeld.1, (setRow_other _ _ _ _ (by omega)).trans hHeld.2.1, trivial⟩
  clear hK K
  try simp only [List.getElem_toArray, List.getElem_cons_succ, List.getElem_cons_zero, Act.put, List.setIfInBounds_toArray, List.set_cons_zero, List.set_cons_succ]
  refine wpAnyH_done (by kernel_rfl) ?_ _
  clear hHeld
  go_wp2
  exact bodyPost_ret (results_cell_row rfl _ _ _ _ _ _ _ rfl (setRow_heap _ _ _ _ _ _ hh) Try.underlying24 rfl (info24c _ _ _ _)) rfl ⟨_, rfl, ⟨s0, s1, s2, s3, rfl, hL, hN⟩, below_setRow hB (by omega) _⟩
set_option maxHeartbeats 1000000 in
/-- conclaveref04.Lmul -/
theorem n_lmul {va : Value} {a : Int} {vb : Value} {b : Int} (ha : IsW va a) (hb : IsW vb b) : GivesW 34 #[va, vb] ((a * b) % LL) := fun w => by
  have Ha : Hid _ := ha
  obtain ⟨a0, a1, a2, a3, rfl, la, na⟩ := ha
  clear la na
  have Hb : Hid _ := hb
  obtain ⟨b0, b1, b2, b3, rfl, lb, nb⟩ := hb
  clear lb nb
  have HA : Hid ((((w.alloc (.cells (C4 a0 a1 a2 a3) 24)).alloc (.cells (C4 b0 b1 b2 b3) 24)).alloc (.cells (C4 0 0 0 0) 24)).heap[w.heap.size]? = some (.cells (C4 a0 a1 a2 a3) 24 (0, 0)) ∧ (((w.alloc (.cells (C4 a0 a1 a2 a3) 24)).alloc (.cells (C4 b0 b1 b2 b3) 24)).alloc (.cells (C4 0 0 0 0) 24)).heap[w.heap.size + 1]? = some (.cells (C4 b0 b1 b2 b3) 24 (0, 0)) ∧ (((w.alloc (.cells (C4 a0 a1 a2 a3) 24)).alloc (.cells (C4 b0 b1 b2 b3) 24)).alloc (.cells (C4 0 0 0 0) 24)).heap[w.heap.size + 2]? = some (.cells (C4 0 0 0 0) 24 (0, 0)) ∧ Below w.heap.size w (((w.alloc (.cells (C4 a0 a1 a2 a3) 24)).alloc (.cells (C4 b0 b1 b2 b3) 24)).alloc (.cells (C4 0 0 0 0) 24))) := ⟨heap_old _ _ _ _ (heap_old _ _ _ _ (heap_alloc_new _ _)), heap_old _ _ _ _ (heapAt _ _ _ (by simp)), heapAt _ _ _ (by simp), by go_grown⟩
  go_enter Try.func34, Try.ntmps34
  unfold W4
  go_wp2
  generalize (((w.alloc (.cells (C4 a0 a1 a2 a3) 24)).alloc (.cells (C4 b0 b1 b2 b3) 24)).alloc (.cells (C4 0 0 0 0) 24)) = W at HA ⊢
  refine wp_region_held_drew (S := fun w' => w'.heap[w.heap.size]? = some (.cells (C4 a0 a1 a2 a3) 24 (0, 0)) ∧ w'.heap[w.heap.size + 1]? = some (.cells (C4 b0 b1 b2 b3) 24 (0, 0)) ∧ True) (by kernel_rfl) (⟨HA.out.1, HA.out.2.1, trivial⟩) (fun hHeld => ?_)
  refine wpAnyH_take (i := 0) (v := W4 a0 a1 a2 a3) rfl (by kernel_rfl) (by kernel_rfl) (by kernel_rfl) (fun _ _ _ h => h) (Or.inl ⟨by rfl, fun w9 hSw => ?_⟩) hHeld ?_
  · exact run_load_exec 24 _ rfl _ rfl (run_loadVar_row w9 _ 24 24 _ (0, 0) _ hSw.1 Try.underlying24 rfl (info24c _ _ _ _))
  simp only [List.getElem_toArray, List.getElem_cons_succ, List.getElem_cons_zero, Act.put, List.setIfInBounds_toArray, List.set_cons_zero, List.set_cons_succ]
  refine wpAnyH_take (i := 2) (v := W4 b0 b1 b2 b3) rfl (by kernel_rfl) (by kernel_rfl) (by kernel_rfl) (fun _ _ _ h => h) (Or.inl ⟨by rfl, fun w9 hSw => ?_⟩) hHeld ?_
  · exact run_load_exec 24 _ rfl _ rfl (run_loadVar_row w9 _ 24 24 _ (0, 0) _ hSw.2.1 Try.underlying24 rfl (info24c _ _ _ _))
  simp only [List.getElem_toArray, List.getElem_cons_succ, List.getElem_cons_zero, Act.put, List.setIfInBounds_toArray, List.set_cons_zero, List.set_cons_succ]
  refine wpAnyH_ready (rs := [1]) (by kernel_rfl) (by simp) ?_
  refine AllReadyH.cons rfl (fun K hK => ?_) AllReadyH.nil
  go_simp
  refine Calls.mono (n_of Ha.out _) ?_
  rintro e w0 ⟨u1, rfl, h1, b0⟩
  go_wp2_with fail
  refine hK.out _ _ ?_ (fun hHeld => ?_)
  · exact ⟨kept hHeld.1 b0, kept hHeld.2.1 b0, trivial⟩
  clear hK K
  try simp only [List.getElem_toArray, List.getElem_cons_succ, List.getElem_cons_zero, Act.put, List.setIfInBounds_toArray, List.set_cons_zero, List.set_cons_succ]
  refine wpAnyH_ready (rs := [3]) (by kernel_rfl) (by simp) ?_
  refine AllReadyH.cons rfl (fun K hK => ?_) AllReadyH.nil
  go_simp
  refine Calls.mono (n_of Hb.out _) ?_
  rintro e w1 ⟨u2, rfl, h2, b1⟩
  replace h1 := h1.below b1
  go_wp2_with fail
  refine hK.out _ _ ?_ (fun hHeld => ?_)
  · exact ⟨kept hHeld.1 b1, kept hHeld.2.1 b1, trivial⟩
  clear hK K
  try simp only [List.getElem_toArray, List.getElem_cons_succ, List.getElem_cons_zero, Act.put, List.setIfInBounds_toArray, List.set_cons_zero, List.set_cons_succ]
  refine wpAnyH_ready (rs := [4]) (by kernel_rfl) (by simp) ?_
  refine AllReadyH.cons rfl (fun K hK => ?_) AllReadyH.nil
  go_simp
  refine Calls.mono (n_times _ _ _ 32 32 a b h1 h2 (by decide) (by decide)) ?_
  rintro e w2 ⟨u3, rfl, h3, b2⟩
  replace h1 := h1.below b2
  replace h2 := h2.below b2
  go_wp2_with fail
  refine hK.out _ _ ?_ (fun hHeld => ?_)
  · exact ⟨kept hHeld.1 b2, kept hHeld.2.1 b2, trivial⟩
  clear hK K
  try simp only [List.getElem_toArray, List.getElem_cons_succ, List.getElem_cons_zero, Act.put, List.setIfInBounds_toArray, List.set_cons_zero, List.set_cons_succ]
  refine wpAnyH_ready (rs := [5]) (by kernel_rfl) (by simp) ?_
  refine AllReadyH.cons rfl (fun K hK => ?_) AllReadyH.nil
  go_simp
  refine Calls.mono (n_l _) ?_
  rintro e w3 ⟨u4, rfl, h4, b3⟩
  replace h1 := h1.below b3
  replace h2 := h2.below b3
  replace h3 := h3.below b3
  go_wp2_with fail
  refine hK.out _ _ ?_ (fun hHeld => ?_)
  · exact ⟨kept hHeld.1 b3, kept hHeld.2.1 b3, trivial⟩
  clear hK K
  try simp only [List.getElem_toArray, List.getElem_cons_succ, List.getElem_cons_zero, Act.put, List.setIfInBounds_toArray, List.set_cons_zero, List.set_cons_succ]
  refine wpAnyH_ready (rs := [6]) (by kernel_rfl) (by simp) ?_
  refine AllReadyH.cons rfl (fun K hK => ?_) AllReadyH.nil
  go_simp
  refine Calls.mono (n_mod _ _ _ 65 33 (a * b) LL h3 h4 (by decide) (by decide) (by decide) (by decide)) ?_
  rintro e w4 ⟨u5, rfl, h5, b4⟩
  replace h1 := h1.below b4
  replace h2 := h2.below b4
  replace h3 := h3.below b4
  replace h4 := h4.below b4
  go_wp2_with fail
  refine hK.out _ _ ?_ (fun hHeld => ?_)
  · exact ⟨kept hHeld.1 b4, kept hHeld.2.1 b4, trivial⟩
  clear hK K
  try simp only [List.getElem_toArray, List.getElem_cons_succ, List.getElem_cons_zero, Act.put, List.setIfInBounds_toArray, List.set_cons_zero, List.set_cons_succ]
  have k0 : Below W.heap.size W w0 := (Below.drew (Below.refl _ W)).trans b0
  have k1 := k0.trans (b1.mono k0.size)
  have k2 := k1.trans (b2.mono k1.size)
  have k3 := k2.trans (b3.mono k2.size)
  have k4 := k3.trans (b4.mono k3.size)
  have hh := kept HA.out.2.2.1 k4
  have hB : Below w.heap.size w w4 := HA.out.2.2.2.trans (k4.mono HA.out.2.2.2.size)
  obtain ⟨s0, s1, s2, s3, rfl, hL, hN⟩ := h5
  refine wpAnyH_ready (rs := [7]) (by kernel_rfl) (by simp) ?_
  refine AllReadyH.cons rfl (fun K hK => ?_) AllReadyH.nil
  refine step_store_row (by rfl) 24 _ _ rfl (w.heap.size + 2) (C4 s0 s1 s2 s3) rfl rfl (run_storeVar_row _ _ 24 24 _ _ hh (info24c _ _ _ _) rfl (fone4 _ _ _ _)) ?_
  refine hK.out _ _ ?_ (fun hHeld => ?_)
  · exact ⟨(setRow_other _ _ _ _ (by omega)).trans hHeld.1, (setRow_other _ _ _ _ (by omega)).trans hHeld.2.1, trivial⟩
  clear hK K
  try simp only [List.getElem_toArray, List.getElem_cons_succ, List.getElem_cons_zero, Act.put, List.setIfInBounds_toArray, List.set_cons_zero, List.set_cons_succ]
  refine wpAnyH_done (by kernel_rfl) ?_ _
  clear hHeld
  go_wp2
  exact bodyPost_ret (results_cell_row rfl _ _ _ _ _ _ _ rfl (setRow_heap _ _ _ _ _ _ hh) Try.underlying24 rfl (info24c _ _ _ _)) rfl ⟨_, rfl, ⟨s0, s1, s2, s3, rfl, hL, hN⟩, below_setRow hB (by omega) _⟩
end Go.Proofs.Ytmflilgppllebaa
