/- field.Inv, field.Ladd, field.Lmul. -/
import Derived.Test.YtmflilgppllebaaFR
import Derived.Test.YtmflilgppllebaaX3
namespace Go.Proofs.Ytmflilgppllebaa
open Go.RowKit
set_option linter.unusedSimpArgs false
set_option linter.unusedVariables false

theorem heap_old (u : World) (o : Obj) (n : Nat) (x : Obj) (h : u.heap[n]? = some x) : (u.alloc o).heap[n]? = some x := (heap_alloc_old u o (flt_of_some h)).trans h
/-- 2^252 and 27742317777372353535851937790883648493. -/
def LL : Int := 7237005577332262213973186563042994240857116359379907606001950938285454250989
theorem l_any (w : World) : Calls Try.prog 52 #[] w fun e w' => e = .returned (W4 6346243789798364141 1503914060200516822 0 1152921504606846976) ∧ Below w.heap.size w w' := by
  go_enter Try.func52, Try.ntmps52
  go_wp2
  go_returns
  exact ⟨rfl, by go_grown⟩
theorem g_l : GivesW 52 #[] LL := fun w => (l_any w).mono (by rintro e w' ⟨rfl, hb⟩; exact ⟨_, rfl, ⟨_, _, _, _, rfl, ⟨⟨by decide, by decide⟩, ⟨by decide, by decide⟩, ⟨by decide, by decide⟩, ⟨by decide, by decide⟩⟩, by decide⟩, hb⟩)
theorem g_addmod {va vb vc : Value} {x y z : Int} (ha : IsW va x) (hb : IsW vb y) (hc : IsW vc z) (h0 : 0 < z) : GivesW 66 #[va, vb, vc] ((x + y) % z) := fun w => by
  obtain ⟨a0, a1, a2, a3, rfl, la, rfl⟩ := ha
  obtain ⟨b0, b1, b2, b3, rfl, lb, rfl⟩ := hb
  obtain ⟨c0, c1, c2, c3, rfl, lc, rfl⟩ := hc
  refine (addmod_any a0 a1 a2 a3 b0 b1 b2 b3 c0 c1 c2 c3 la lb lc w).mono ?_
  rintro e w' ⟨s0, s1, s2, s3, rfl, hL, hN, hw⟩
  exact ⟨_, rfl, ⟨s0, s1, s2, s3, rfl, hL, by rw [hN.out]; unfold remN; rw [if_neg (by omega)]⟩, hw⟩
theorem g_mulmod {va vb vc : Value} {x y z : Int} (ha : IsW va x) (hb : IsW vb y) (hc : IsW vc z) (h0 : 0 < z) : GivesW 67 #[va, vb, vc] ((x * y) % z) := fun w => by
  obtain ⟨a0, a1, a2, a3, rfl, la, rfl⟩ := ha
  obtain ⟨b0, b1, b2, b3, rfl, lb, rfl⟩ := hb
  obtain ⟨c0, c1, c2, c3, rfl, lc, rfl⟩ := hc
  refine (mulmod_any a0 a1 a2 a3 b0 b1 b2 b3 c0 c1 c2 c3 la lb lc w).mono ?_
  rintro e w' ⟨s0, s1, s2, s3, rfl, hL, hN, hw⟩
  exact ⟨_, rfl, ⟨s0, s1, s2, s3, rfl, hL, by rw [hN.out]; unfold remN; rw [if_neg (by omega)]⟩, hw⟩
set_option maxRecDepth 20000 in
set_option maxHeartbeats 1000000 in
/-- field.Ladd -/
theorem g_ladd {va : Value} {a : Int} {vb : Value} {b : Int} (ha : IsW va a) (hb : IsW vb b) : GivesW 31 #[va, vb] ((a + b) % LL) := fun w => by
  have Ha : Hid _ := ha
  obtain ⟨a0, a1, a2, a3, rfl, la, na⟩ := ha
  clear la na
  have Hb : Hid _ := hb
  obtain ⟨b0, b1, b2, b3, rfl, lb, nb⟩ := hb
  clear lb nb
  have HA : Hid ((((w.alloc (.cells (C4 a0 a1 a2 a3) 24)).alloc (.cells (C4 b0 b1 b2 b3) 24)).alloc (.cells (C4 0 0 0 0) 24)).heap[w.heap.size]? = some (.cells (C4 a0 a1 a2 a3) 24 (0, 0)) ∧ (((w.alloc (.cells (C4 a0 a1 a2 a3) 24)).alloc (.cells (C4 b0 b1 b2 b3) 24)).alloc (.cells (C4 0 0 0 0) 24)).heap[w.heap.size + 1]? = some (.cells (C4 b0 b1 b2 b3) 24 (0, 0)) ∧ (((w.alloc (.cells (C4 a0 a1 a2 a3) 24)).alloc (.cells (C4 b0 b1 b2 b3) 24)).alloc (.cells (C4 0 0 0 0) 24)).heap[w.heap.size + 2]? = some (.cells (C4 0 0 0 0) 24 (0, 0)) ∧ Below w.heap.size w (((w.alloc (.cells (C4 a0 a1 a2 a3) 24)).alloc (.cells (C4 b0 b1 b2 b3) 24)).alloc (.cells (C4 0 0 0 0) 24))) := ⟨heap_old _ _ _ _ (heap_old _ _ _ _ (heap_alloc_new _ _)), heap_old _ _ _ _ (heapAt _ _ _ (by simp)), heapAt _ _ _ (by simp), by go_grown⟩
  go_enter Try.func31, Try.ntmps31
  unfold W4
  go_wp2
  generalize (((w.alloc (.cells (C4 a0 a1 a2 a3) 24)).alloc (.cells (C4 b0 b1 b2 b3) 24)).alloc (.cells (C4 0 0 0 0) 24)) = W at HA ⊢
  refine wp_region_held_drew (S := fun w' => w'.heap[w.heap.size]? = some (.cells (C4 a0 a1 a2 a3) 24 (0, 0)) ∧ w'.heap[w.heap.size + 1]? = some (.cells (C4 b0 b1 b2 b3) 24 (0, 0)) ∧ True) (by kernel_rfl) (⟨HA.out.1, HA.out.2.1, trivial⟩) (fun hHeld => ?_)
  refine wpAnyH_take (i := 0) (v := W4 a0 a1 a2 a3) rfl (by kernel_rfl) (by kernel_rfl) (by kernel_rfl) (fun _ _ _ h => h) (Or.inl ⟨by rfl, fun w9 hSw => ?_⟩) hHeld ?_
  · exact run_load_exec 24 _ rfl _ rfl (run_loadVar_row w9 _ 24 24 _ (0, 0) _ hSw.1 Try.underlying24 rfl (info24c _ _ _ _))
  simp only [List.getElem_toArray, List.getElem_cons_succ, List.getElem_cons_zero, Act.put, List.setIfInBounds_toArray, List.set_cons_zero, List.set_cons_succ]
  refine wpAnyH_take (i := 1) (v := W4 b0 b1 b2 b3) rfl (by kernel_rfl) (by kernel_rfl) (by kernel_rfl) (fun _ _ _ h => h) (Or.inl ⟨by rfl, fun w9 hSw => ?_⟩) hHeld ?_
  · exact run_load_exec 24 _ rfl _ rfl (run_loadVar_row w9 _ 24 24 _ (0, 0) _ hSw.2.1 Try.underlying24 rfl (info24c _ _ _ _))
  simp only [List.getElem_toArray, List.getElem_cons_succ, List.getElem_cons_zero, Act.put, List.setIfInBounds_toArray, List.set_cons_zero, List.set_cons_succ]
  refine wpAnyH_ready (rs := [2]) (by kernel_rfl) (by simp) ?_
  refine AllReadyH.cons rfl (fun K hK => ?_) AllReadyH.nil
  go_simp
  refine Calls.mono (g_l _) ?_
  rintro e w0 ⟨v7, rfl, h7, b0⟩
  go_wp2_with fail
  refine hK.out _ _ ?_ (fun hHeld => ?_)
  · exact ⟨kept hHeld.1 b0, kept hHeld.2.1 b0, trivial⟩
  clear hK K
  try simp only [List.getElem_toArray, List.getElem_cons_succ, List.getElem_cons_zero, Act.put, List.setIfInBounds_toArray, List.set_cons_zero, List.set_cons_succ]
  refine wpAnyH_ready (rs := [3]) (by kernel_rfl) (by simp) ?_
  refine AllReadyH.cons rfl (fun K hK => ?_) AllReadyH.nil
  go_simp
  refine Calls.mono (g_addmod Ha.out Hb.out h7 (by decide) _) ?_
  rintro e w1 ⟨v8, rfl, h8, b1⟩
  go_wp2_with fail
  refine hK.out _ _ ?_ (fun hHeld => ?_)
  · exact ⟨kept hHeld.1 b1, kept hHeld.2.1 b1, trivial⟩
  clear hK K
  try simp only [List.getElem_toArray, List.getElem_cons_succ, List.getElem_cons_zero, Act.put, List.setIfInBounds_toArray, List.set_cons_zero, List.set_cons_succ]
  have k0 : Below W.heap.size W w0 := (Below.drew (Below.refl _ W)).trans b0
  have k1 := k0.trans (b1.mono k0.size)
  have hh := kept HA.out.2.2.1 k1
  have hB : Below w.heap.size w w1 := HA.out.2.2.2.trans (k1.mono HA.out.2.2.2.size)
  obtain ⟨s0, s1, s2, s3, rfl, hL, hN⟩ := h8
  refine wpAnyH_ready (rs := [4]) (by kernel_rfl) (by simp) ?_
  refine AllReadyH.cons rfl (fun K hK => ?_) AllReadyH.nil
  refine step_store_row (by rfl) 24 _ _ rfl (w.heap.size + 2) (C4 s0 s1 s2 s3) rfl rfl (run_storeVar_row _ _ 24 24 _ _ hh (info24c _ _ _ _) rfl (fone4 _ _ _ _)) ?_
  refine hK.out _ _ ?_ (fun hHeld => ?_)
  · exact ⟨(setRow_other _ _ _ _ (by omega)).trans hHeld.1, (setRow_other _ _ _ _ (by omega)).trans hHeld.2.1, trivial⟩
  clear hK K
  try simp only [List.getElem_toArray, List.getElem_cons_succ, List.getElem_cons_zero, Act.put, List.setIfInBounds_toArray, List.set_cons_zero, List.set_cons_succ]
  refine wpAnyH_done (by kernel_rfl) ?_ _
  clear hHeld
  go_wp2
  exact bodyPost_ret (results_cell_row rfl _ _ _ _ _ _ _ rfl (setRow_heap _ _ _ _ _ _ hh) Try.underlying24 rfl (info24c _ _ _ _)) rfl ⟨_, rfl, ⟨s0, s1, s2, s3, rfl, hL, hN⟩, below_setRow hB (by omega) _⟩
set_option maxRecDepth 20000 in
set_option maxHeartbeats 1000000 in
/-- field.Lmul -/
theorem g_lmul {va : Value} {a : Int} {vb : Value} {b : Int} (ha : IsW va a) (hb : IsW vb b) : GivesW 33 #[va, vb] ((a * b) % LL) := fun w => by
  have Ha : Hid _ := ha
  obtain ⟨a0, a1, a2, a3, rfl, la, na⟩ := ha
  clear la na
  have Hb : Hid _ := hb
  obtain ⟨b0, b1, b2, b3, rfl, lb, nb⟩ := hb
  clear lb nb
  have HA : Hid ((((w.alloc (.cells (C4 a0 a1 a2 a3) 24)).alloc (.cells (C4 b0 b1 b2 b3) 24)).alloc (.cells (C4 0 0 0 0) 24)).heap[w.heap.size]? = some (.cells (C4 a0 a1 a2 a3) 24 (0, 0)) ∧ (((w.alloc (.cells (C4 a0 a1 a2 a3) 24)).alloc (.cells (C4 b0 b1 b2 b3) 24)).alloc (.cells (C4 0 0 0 0) 24)).heap[w.heap.size + 1]? = some (.cells (C4 b0 b1 b2 b3) 24 (0, 0)) ∧ (((w.alloc (.cells (C4 a0 a1 a2 a3) 24)).alloc (.cells (C4 b0 b1 b2 b3) 24)).alloc (.cells (C4 0 0 0 0) 24)).heap[w.heap.size + 2]? = some (.cells (C4 0 0 0 0) 24 (0, 0)) ∧ Below w.heap.size w (((w.alloc (.cells (C4 a0 a1 a2 a3) 24)).alloc (.cells (C4 b0 b1 b2 b3) 24)).alloc (.cells (C4 0 0 0 0) 24))) := ⟨heap_old _ _ _ _ (heap_old _ _ _ _ (heap_alloc_new _ _)), heap_old _ _ _ _ (heapAt _ _ _ (by simp)), heapAt _ _ _ (by simp), by go_grown⟩
  go_enter Try.func33, Try.ntmps33
  unfold W4
  go_wp2
  generalize (((w.alloc (.cells (C4 a0 a1 a2 a3) 24)).alloc (.cells (C4 b0 b1 b2 b3) 24)).alloc (.cells (C4 0 0 0 0) 24)) = W at HA ⊢
  refine wp_region_held_drew (S := fun w' => w'.heap[w.heap.size]? = some (.cells (C4 a0 a1 a2 a3) 24 (0, 0)) ∧ w'.heap[w.heap.size + 1]? = some (.cells (C4 b0 b1 b2 b3) 24 (0, 0)) ∧ True) (by kernel_rfl) (⟨HA.out.1, HA.out.2.1, trivial⟩) (fun hHeld => ?_)
  refine wpAnyH_take (i := 0) (v := W4 a0 a1 a2 a3) rfl (by kernel_rfl) (by kernel_rfl) (by kernel_rfl) (fun _ _ _ h => h) (Or.inl ⟨by rfl, fun w9 hSw => ?_⟩) hHeld ?_
  · exact run_load_exec 24 _ rfl _ rfl (run_loadVar_row w9 _ 24 24 _ (0, 0) _ hSw.1 Try.underlying24 rfl (info24c _ _ _ _))
  simp only [List.getElem_toArray, List.getElem_cons_succ, List.getElem_cons_zero, Act.put, List.setIfInBounds_toArray, List.set_cons_zero, List.set_cons_succ]
  refine wpAnyH_take (i := 1) (v := W4 b0 b1 b2 b3) rfl (by kernel_rfl) (by kernel_rfl) (by kernel_rfl) (fun _ _ _ h => h) (Or.inl ⟨by rfl, fun w9 hSw => ?_⟩) hHeld ?_
  · exact run_load_exec 24 _ rfl _ rfl (run_loadVar_row w9 _ 24 24 _ (0, 0) _ hSw.2.1 Try.underlying24 rfl (info24c _ _ _ _))
  simp only [List.getElem_toArray, List.getElem_cons_succ, List.getElem_cons_zero, Act.put, List.setIfInBounds_toArray, List.set_cons_zero, List.set_cons_succ]
  refine wpAnyH_ready (rs := [2]) (by kernel_rfl) (by simp) ?_
  refine AllReadyH.cons rfl (fun K hK => ?_) AllReadyH.nil
  go_simp
  refine Calls.mono (g_l _) ?_
  rintro e w0 ⟨v7, rfl, h7, b0⟩
  go_wp2_with fail
  refine hK.out _ _ ?_ (fun hHeld => ?_)
  · exact ⟨kept hHeld.1 b0, kept hHeld.2.1 b0, trivial⟩
  clear hK K
  try simp only [List.getElem_toArray, List.getElem_cons_succ, List.getElem_cons_zero, Act.put, List.setIfInBounds_toArray, List.set_cons_zero, List.set_cons_succ]
  refine wpAnyH_ready (rs := [3]) (by kernel_rfl) (by simp) ?_
  refine AllReadyH.cons rfl (fun K hK => ?_) AllReadyH.nil
  go_simp
  refine Calls.mono (g_mulmod Ha.out Hb.out h7 (by decide) _) ?_
  rintro e w1 ⟨v8, rfl, h8, b1⟩
  go_wp2_with fail
  refine hK.out _ _ ?_ (fun hHeld => ?_)
  · exact ⟨kept hHeld.1 b1, kept hHeld.2.1 b1, trivial⟩
  clear hK K
  try simp only [List.getElem_toArray, List.getElem_cons_succ, List.getElem_cons_zero, Act.put, List.setIfInBounds_toArray, List.set_cons_zero, List.set_cons_succ]
  have k0 : Below W.heap.size W w0 := (Below.drew (Below.refl _ W)).trans b0
  have k1 := k0.trans (b1.mono k0.size)
  have hh := kept HA.out.2.2.1 k1
  have hB : Below w.heap.size w w1 := HA.out.2.2.2.trans (k1.mono HA.out.2.2.2.size)
  obtain ⟨s0, s1, s2, s3, rfl, hL, hN⟩ := h8
  refine wpAnyH_ready (rs := [4]) (by kernel_rfl) (by simp) ?_
  refine AllReadyH.cons rfl (fun K hK => ?_) AllReadyH.nil
  refine step_store_row (by rfl) 24 _ _ rfl (w.heap.size + 2) (C4 s0 s1 s2 s3) rfl rfl (run_storeVar_row _ _ 24 24 _ _ hh (info24c _ _ _ _) rfl (fone4 _ _ _ _)) ?_
  refine hK.out _ _ ?_ (fun hHeld => ?_)
  · exact ⟨(setRow_other _ _ _ _ (by omega)).trans hHeld.1, (setRow_other _ _ _ _ (by omega)).trans hHeld.2.1, trivial⟩
  clear hK K
  try simp only [List.getElem_toArray, List.getElem_cons_succ, List.getElem_cons_zero, Act.put, List.setIfInBounds_toArray, List.set_cons_zero, List.set_cons_succ]
  refine wpAnyH_done (by kernel_rfl) ?_ _
  clear hHeld
  go_wp2
  exact bodyPost_ret (results_cell_row rfl _ _ _ _ _ _ _ rfl (setRow_heap _ _ _ _ _ _ hh) Try.underlying24 rfl (info24c _ _ _ _)) rfl ⟨_, rfl, ⟨s0, s1, s2, s3, rfl, hL, hN⟩, below_setRow hB (by omega) _⟩
set_option maxRecDepth 20000 in
set_option maxHeartbeats 1000000 in
/-- field.Inv -/
theorem g_inv {va : Value} {a : Int} (ha : IsW va a) : GivesW 20 #[va] (a ^ E2 % PP) := fun w => by
  have Ha : Hid _ := ha
  obtain ⟨a0, a1, a2, a3, rfl, la, na⟩ := ha
  clear la na
  have HA : Hid (((w.alloc (.cells (C4 a0 a1 a2 a3) 24)).alloc (.cells (C4 0 0 0 0) 24)).heap[w.heap.size]? = some (.cells (C4 a0 a1 a2 a3) 24 (0, 0)) ∧ ((w.alloc (.cells (C4 a0 a1 a2 a3) 24)).alloc (.cells (C4 0 0 0 0) 24)).heap[w.heap.size + 1]? = some (.cells (C4 0 0 0 0) 24 (0, 0)) ∧ Below w.heap.size w ((w.alloc (.cells (C4 a0 a1 a2 a3) 24)).alloc (.cells (C4 0 0 0 0) 24))) := ⟨heap_old _ _ _ _ (heap_alloc_new _ _), heapAt _ _ _ (by simp), by go_grown⟩
  go_enter Try.func20, Try.ntmps20
  unfold W4
  go_wp2
  generalize ((w.alloc (.cells (C4 a0 a1 a2 a3) 24)).alloc (.cells (C4 0 0 0 0) 24)) = W at HA ⊢
  refine wp_region_held_drew (S := fun w' => w'.heap[w.heap.size]? = some (.cells (C4 a0 a1 a2 a3) 24 (0, 0)) ∧ True) (by kernel_rfl) (⟨HA.out.1, trivial⟩) (fun hHeld => ?_)
  refine wpAnyH_take (i := 0) (v := W4 a0 a1 a2 a3) rfl (by kernel_rfl) (by kernel_rfl) (by kernel_rfl) (fun _ _ _ h => h) (Or.inl ⟨by rfl, fun w9 hSw => ?_⟩) hHeld ?_
  · exact run_load_exec 24 _ rfl _ rfl (run_loadVar_row w9 _ 24 24 _ (0, 0) _ hSw.1 Try.underlying24 rfl (info24c _ _ _ _))
  simp only [List.getElem_toArray, List.getElem_cons_succ, List.getElem_cons_zero, Act.put, List.setIfInBounds_toArray, List.set_cons_zero, List.set_cons_succ]
  refine wpAnyH_ready (rs := [1]) (by kernel_rfl) (by simp) ?_
  refine AllReadyH.cons rfl (fun K hK => ?_) AllReadyH.nil
  go_simp
  refine Calls.mono (g_p _) ?_
  rintro e w0 ⟨v4, rfl, h4, b0⟩
  go_wp2_with fail
  refine hK.out _ _ ?_ (fun hHeld => ?_)
  · exact ⟨kept hHeld.1 b0, trivial⟩
  clear hK K
  try simp only [List.getElem_toArray, List.getElem_cons_succ, List.getElem_cons_zero, Act.put, List.setIfInBounds_toArray, List.set_cons_zero, List.set_cons_succ]
  refine wpAnyH_ready (rs := [2]) (by kernel_rfl) (by simp) ?_
  refine AllReadyH.cons rfl (fun K hK => ?_) AllReadyH.nil
  go_simp
  refine Calls.mono (g_of2 _) ?_
  rintro e w1 ⟨v5, rfl, h5, b1⟩
  go_wp2_with fail
  refine hK.out _ _ ?_ (fun hHeld => ?_)
  · exact ⟨kept hHeld.1 b1, trivial⟩
  clear hK K
  try simp only [List.getElem_toArray, List.getElem_cons_succ, List.getElem_cons_zero, Act.put, List.setIfInBounds_toArray, List.set_cons_zero, List.set_cons_succ]
  refine wpAnyH_ready (rs := [3]) (by kernel_rfl) (by simp) ?_
  refine AllReadyH.cons rfl (fun K hK => ?_) AllReadyH.nil
  go_simp
  refine Calls.mono (g_sub h4 h5 _) ?_
  rintro e w2 ⟨v6, rfl, h6, b2⟩
  go_wp2_with fail
  refine hK.out _ _ ?_ (fun hHeld => ?_)
  · exact ⟨kept hHeld.1 b2, trivial⟩
  clear hK K
  try simp only [List.getElem_toArray, List.getElem_cons_succ, List.getElem_cons_zero, Act.put, List.setIfInBounds_toArray, List.set_cons_zero, List.set_cons_succ]
  refine wpAnyH_ready (rs := [4]) (by kernel_rfl) (by simp) ?_
  refine AllReadyH.cons rfl (fun K hK => ?_) AllReadyH.nil
  go_simp
  refine Calls.mono (g_fpow E2 Ha.out (e2_val ▸ h6) _) ?_
  rintro e w3 ⟨v7, rfl, h7, b3⟩
  go_wp2_with fail
  refine hK.out _ _ ?_ (fun hHeld => ?_)
  · exact ⟨kept hHeld.1 b3, trivial⟩
  clear hK K
  try simp only [List.getElem_toArray, List.getElem_cons_succ, List.getElem_cons_zero, Act.put, List.setIfInBounds_toArray, List.set_cons_zero, List.set_cons_succ]
  have k0 : Below W.heap.size W w0 := (Below.drew (Below.refl _ W)).trans b0
  have k1 := k0.trans (b1.mono k0.size)
  have k2 := k1.trans (b2.mono k1.size)
  have k3 := k2.trans (b3.mono k2.size)
  have hh := kept HA.out.2.1 k3
  have hB : Below w.heap.size w w3 := HA.out.2.2.trans (k3.mono HA.out.2.2.size)
  obtain ⟨s0, s1, s2, s3, rfl, hL, hN⟩ := h7
  refine wpAnyH_ready (rs := [5]) (by kernel_rfl) (by simp) ?_
  refine AllReadyH.cons rfl (fun K hK => ?_) AllReadyH.nil
  refine step_store_row (by rfl) 24 _ _ rfl (w.heap.size + 1) (C4 s0 s1 s2 s3) rfl rfl (run_storeVar_row _ _ 24 24 _ _ hh (info24c _ _ _ _) rfl (fone4 _ _ _ _)) ?_
  refine hK.out _ _ ?_ (fun hHeld => ?_)
  · exact ⟨(setRow_other _ _ _ _ (by omega)).trans hHeld.1, trivial⟩
  clear hK K
  try simp only [List.getElem_toArray, List.getElem_cons_succ, List.getElem_cons_zero, Act.put, List.setIfInBounds_toArray, List.set_cons_zero, List.set_cons_succ]
  refine wpAnyH_done (by kernel_rfl) ?_ _
  clear hHeld
  go_wp2
  exact bodyPost_ret (results_cell_row rfl _ _ _ _ _ _ _ rfl (setRow_heap _ _ _ _ _ _ hh) Try.underlying24 rfl (info24c _ _ _ _)) rfl ⟨_, rfl, ⟨s0, s1, s2, s3, rfl, hL, hN⟩, below_setRow hB (by omega) _⟩
end Go.Proofs.Ytmflilgppllebaa
