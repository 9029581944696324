/- state: tell of one node. -/
import Derived.Test.YtboeokmaepchgaaGreatDoorM38
namespace Go.Proofs.YtboeokmaepchgaaGreatDoor
open Go.RowKit Go.Maps Go.Joins Go.Shelf
set_option linter.unusedSimpArgs false
set_option linter.unusedVariables false
theorem run_loadVar_midS {P : Program} (w : World) (g off N : Nat) (ty : TypeId) (f : Nat → Value) (hc : ∀ j, j < N → w.cell? ⟨g, off + j, none⟩ = some (f j)) (hagg : ∀ w, (isAgg ty).run P w = .ok true w) (hi : (P.info? ty).map (·.size) = some N) :
    (loadVar ty ⟨g, off, none⟩).run P w = .ok (.agg (Kc.vec N f)) w := by
  have hl : (loadCells ⟨g, off, none⟩ (Kc.vec N f).toList.length).run P w = .ok (Kc.vec N f).toList.toArray w :=
    run_loadCells_list (P := P) w ⟨g, off, none⟩ (Kc.vec N f).toList (fun j v hv => by
      have hadd : (⟨g, off, none⟩ : Addr).add j = ⟨g, off + j, none⟩ := by unfold Addr.add; split <;> simp_all
      rw [hadd]
      have hv' : (Kc.vec N f)[j]? = some v := by simpa using hv
      by_cases hj : j < N
      · rw [Kc.get_vec N f j hj] at hv'; cases hv'; exact hc j hj
      · rw [Array.getElem?_eq_none (by simp; omega)] at hv'; cases hv')
  cases hq : P.info? ty with
  | none => simp [hq] at hi
  | some i =>
    have hs : i.size = N := by simpa [hq] using hi
    simp only [Array.length_toList, Array.toArray_toList, Kc.size_vec] at hl
    simp [loadVar, Sem.run_bind, hagg, sizeOf, typeInfo, hq, hs, hl]
theorem agg195 (w : World) : (isAgg 195).run Tryz.prog w = .ok true w := by kernel_rfl
theorem load195 {w : World} {B : Nat} {f : Nat → Value} (h : ∀ j, j < 33 → w.cell? ⟨B, j, none⟩ = some (f j)) : (loadVar 195 ⟨B, 0, none⟩).run Tryz.prog w = .ok (.agg (Kc.vec 33 f)) w :=
  run_loadVar_midS w B 0 33 195 f (fun j hj => by rw [Nat.zero_add]; exact h j hj) agg195 (by kernel_rfl)
theorem nd_cells {w : World} {q : Nat} {Y : Nat → BitVec 8} {e : Value} (h : w.heap[q]? = some (.cells (ndC Y e) 195)) (j : Nat) (hj : j < 33) : w.cell? ⟨q, j, none⟩ = some (ndF Y e j) := by rw [cell_of_block h]; exact Kc.get_vec 33 _ j hj
theorem load_hash {w : World} {q : Nat} {Y : Nat → BitVec 8} {e : Value} (h : w.heap[q]? = some (.cells (ndC Y e) 195)) : (loadVar 33 ⟨q, 0, none⟩).run Tryz.prog w = .ok (.agg (Kc.vec 32 (Kc.byt Y))) w :=
  Kc.run_loadVar_mid w q 0 32 33 5 (Kc.byt Y) (fun j hj => by rw [Nat.zero_add, nd_cells h j (by omega)]; unfold ndF; rw [if_pos hj]) Tryz.underlying33 (by kernel_rfl)
theorem info195v (f : Nat → Value) : (Tryz.prog.info? 195).map (·.size) = some (Kc.vec 33 f).size := by rw [Kc.size_vec]; kernel_rfl
theorem nd_all {Y : Nat → BitVec 8} {ea : Option Addr} {en ec : Nat} : (ndC Y (.slice ea en ec)).all (·.oneCell') = true := by
  rw [Array.all_eq_true_iff_forall_mem]
  intro u hu
  exact nd_one u (by simpa using hu)
set_option maxRecDepth 100000 in
set_option maxHeartbeats 16000000 in
theorem tell_one {w : World} {t b k B0 cap0 en ec : Nat} {ea : Option Addr} (Y : Nat → BitVec 8) (ht : w.heap[t]? = some (TeC b (.slice none 0 0) k)) (hk : w.heap[k]? = some (.map #[] 0)) (hcap0 : 1 ≤ cap0) (hcs0 : ∀ j, j < 33 → w.cell? ⟨B0, j, none⟩ = some (ndF Y (.slice ea en ec) j)) :
    Calls Tryz.prog 104 #[.pointer (some ⟨t, 0, none⟩), .slice (some ⟨B0, 0, none⟩) 1 cap0] w fun e w' => e = .returned (.tuple #[]) ∧ GrowT t k w w' ∧ ∃ p cap, w'.heap[t]? = some (TeC b (.slice p 1 cap) k) := by
  have htk : t ≠ k := fun he => by rw [he, hk] at ht; cases ht
  have HP : Hid (w.heap[t]? = some (TeC b (.slice none 0 0) k) ∧ w.heap[k]? = some (.map #[] 0) ∧ t ≠ k ∧ t < w.heap.size ∧ k < w.heap.size ∧ (∀ j, j < 33 → w.cell? ⟨B0, j, none⟩ = some (ndF Y (.slice ea en ec) j))) := ⟨ht, hk, htk, heap_lt ht, heap_lt hk, hcs0⟩
  clear ht hk hcs0 htk
  go_enter Tryz.func104, Tryz.ntmps104
  go_wp2_with fail
  refine wp_loop_rounds 2 ?_
  rw [rounds_succ]
  go_wp2_with (first | (refine wpList_load_r (o := { dst := some 13, op := Op.load 195 (Operand.tmp 12), type := 195, pos := "root.go:87", after := _, guard := none }) rfl 195 _ rfl ⟨B0, 0, none⟩ rfl (.agg (ndC Y (.slice ea en ec))) (by exact load195 HP.out.2.2.2.2.2) ?_) | (refine wpList_store_row rfl 195 _ _ rfl w.heap.size (ndC Y (.slice ea en ec)) rfl rfl 195 _ (heap_alloc_new _ _) (info195v _) (by simp) nd_all ?_; rw [World.setRow_alloc_new]))
  have H2 : Hid (Below w.heap.size w (w.alloc (.cells (ndC Y (.slice ea en ec)) 195)) ∧ (w.alloc (.cells (ndC Y (.slice ea en ec)) 195)).heap[w.heap.size]? = some (.cells (ndC Y (.slice ea en ec)) 195)) := ⟨by go_grown, heap_alloc_new _ _⟩
  obtain ⟨q, hq⟩ : ∃ q, q = w.heap.size := ⟨_, rfl⟩
  rw [← hq] at H2 ⊢
  have HQ : Hid (q = w.heap.size) := hq
  clear hq
  generalize w.alloc (.cells (ndC Y (.slice ea en ec)) 195) = W2 at H2 ⊢
  refine wp_noP ?_
  refine wp_region_held_drew (S := (fun w' : World => w'.heap[t]? = some (TeC b (.slice none 0 0) k) ∧ w'.heap[q]? = some (.cells (ndC Y (.slice ea en ec)) 195) ∧ w'.heap[k]? = some (.map #[] 0))) (by kernel_rfl) ⟨(H2.out.1.block _ (by rw [HQ.out]; exact HP.out.2.2.2.1)).trans HP.out.1, H2.out.2, (H2.out.1.block _ (by rw [HQ.out]; exact HP.out.2.2.2.2.1)).trans HP.out.2.1⟩ (fun hHeld => ?_)
  have G0 : Hid (Below q w W2.drew) := ⟨H2.out.1.os, H2.out.1.tape, H2.out.1.output, H2.out.1.size, H2.out.1.block⟩
  clear H2
  generalize W2.drew = U0 at G0 hHeld ⊢
  refine wpAnyH_take (i := 0) (v := .pointer (some ⟨t, 0, none⟩)) rfl (by kernel_rfl) (by kernel_rfl) (by kernel_rfl) (fun _ _ _ h => h) (Or.inl ⟨by rfl, fun w9 hSw => ?_⟩) hHeld ?_
  · go_simp
  simp only [List.getElem_toArray, List.getElem_cons_succ, List.getElem_cons_zero, Act.put, List.setIfInBounds_toArray, List.set_cons_zero, List.set_cons_succ]
  refine wpAnyH_take (i := 1) (v := .pointer (some ⟨t, 0, none⟩)) rfl (by kernel_rfl) (by kernel_rfl) (by kernel_rfl) (fun _ _ _ h => h) (Or.inl ⟨by rfl, fun w9 hSw => ?_⟩) hHeld ?_
  · go_simp
  simp only [List.getElem_toArray, List.getElem_cons_succ, List.getElem_cons_zero, Act.put, List.setIfInBounds_toArray, List.set_cons_zero, List.set_cons_succ]
  refine wpAnyH_take (i := 2) (v := .pointer (some ⟨t, 2, none⟩)) rfl (by kernel_rfl) (by kernel_rfl) (by kernel_rfl) (fun _ _ _ h => h) (Or.inl ⟨by rfl, fun w9 hSw => ?_⟩) hHeld ?_
  · go_simp
  simp only [List.getElem_toArray, List.getElem_cons_succ, List.getElem_cons_zero, Act.put, List.setIfInBounds_toArray, List.set_cons_zero, List.set_cons_succ]
  refine wpAnyH_take (i := 3) (v := .map (some k)) rfl (by kernel_rfl) (by kernel_rfl) (by kernel_rfl) (fun _ _ _ h => h) (Or.inl ⟨by rfl, fun w9 hSw => ?_⟩) hHeld ?_
  · have k0 : w9.cell? ⟨t, 2, none⟩ = some (.map (some k)) := by rw [cell_of_block hSw.1]; rfl
    go_simp
  simp only [List.getElem_toArray, List.getElem_cons_succ, List.getElem_cons_zero, Act.put, List.setIfInBounds_toArray, List.set_cons_zero, List.set_cons_succ]
  refine wpAnyH_take (i := 4) (v := .pointer (some ⟨q, 0, none⟩)) rfl (by kernel_rfl) (by kernel_rfl) (by kernel_rfl) (fun _ _ _ h => h) (Or.inl ⟨by rfl, fun w9 hSw => ?_⟩) hHeld ?_
  · go_simp
  simp only [List.getElem_toArray, List.getElem_cons_succ, List.getElem_cons_zero, Act.put, List.setIfInBounds_toArray, List.set_cons_zero, List.set_cons_succ]
  refine wpAnyH_take (i := 5) (v := .agg (Kc.vec 32 (Kc.byt Y))) rfl (by kernel_rfl) (by kernel_rfl) (by kernel_rfl) (fun _ _ _ h => h) (Or.inl ⟨by rfl, fun w9 hSw => ?_⟩) hHeld ?_
  · exact Kc.run_load_exec 33 _ rfl _ rfl (load_hash hSw.2.1)
  simp only [List.getElem_toArray, List.getElem_cons_succ, List.getElem_cons_zero, Act.put, List.setIfInBounds_toArray, List.set_cons_zero, List.set_cons_succ]
  refine wpAnyH_take (i := 6) (v := .tuple #[.agg #[], .bool false]) rfl (by kernel_rfl) (by kernel_rfl) (by kernel_rfl) (fun _ _ _ h => h) (Or.inl ⟨by rfl, fun w9 hSw => ?_⟩) hHeld ?_
  · have hk := look110 hSw.2.2 Y
    go_simp
  simp only [List.getElem_toArray, List.getElem_cons_succ, List.getElem_cons_zero, Act.put, List.setIfInBounds_toArray, List.set_cons_zero, List.set_cons_succ]
  refine wpAnyH_take (i := 7) (v := .tuple #[.agg #[], .bool false]) rfl (by kernel_rfl) (by kernel_rfl) (by kernel_rfl) (fun _ _ _ h => h) (Or.inl ⟨by rfl, fun w9 hSw => ?_⟩) hHeld ?_
  · go_simp
  simp only [List.getElem_toArray, List.getElem_cons_succ, List.getElem_cons_zero, Act.put, List.setIfInBounds_toArray, List.set_cons_zero, List.set_cons_succ]
  refine wpAnyH_take (i := 8) (v := .agg #[]) rfl (by kernel_rfl) (by kernel_rfl) (by kernel_rfl) (fun _ _ _ h => h) (Or.inl ⟨by rfl, fun w9 hSw => ?_⟩) hHeld ?_
  · go_simp
  simp only [List.getElem_toArray, List.getElem_cons_succ, List.getElem_cons_zero, Act.put, List.setIfInBounds_toArray, List.set_cons_zero, List.set_cons_succ]
  refine wpAnyH_take (i := 9) (v := .bool false) rfl (by kernel_rfl) (by kernel_rfl) (by kernel_rfl) (fun _ _ _ h => h) (Or.inl ⟨by rfl, fun w9 hSw => ?_⟩) hHeld ?_
  · go_simp
  simp only [List.getElem_toArray, List.getElem_cons_succ, List.getElem_cons_zero, Act.put, List.setIfInBounds_toArray, List.set_cons_zero, List.set_cons_succ]
  refine wpAnyH_ready (rs := [10]) (by kernel_rfl) (by simp) ?_
  refine AllReadyH.cons rfl (fun K hK => ?_) AllReadyH.nil
  go_simp
  have hb : Below U0.heap.size U0 (U0.alloc (.cells #[] 186)) := by go_grown
  have hx : (fun w' : World => w'.heap[t]? = some (TeC b (.slice none 0 0) k) ∧ w'.heap[q]? = some (.cells (ndC Y (.slice ea en ec)) 195) ∧ w'.heap[k]? = some (.map #[] 0)) (U0.alloc (.cells #[] 186)) := ⟨(hb.block _ (heap_lt hHeld.1)).trans hHeld.1, (hb.block _ (heap_lt hHeld.2.1)).trans hHeld.2.1, (hb.block _ (heap_lt hHeld.2.2)).trans hHeld.2.2⟩
  have G1 : Hid (Below q w (U0.alloc (.cells #[] 186)) ∧ (U0.alloc (.cells #[] 186)).heap[U0.heap.size]? = some (.cells #[] 186) ∧ U0.heap.size ≠ t ∧ U0.heap.size ≠ q ∧ U0.heap.size ≠ k ∧ q < U0.heap.size) := ⟨G0.out.trans (hb.mono (by have := heap_lt hHeld.2.1; omega)), heap_alloc_new _ _, by have := heap_lt hHeld.1; omega, by have := heap_lt hHeld.2.1; omega, by have := heap_lt hHeld.2.2; omega, heap_lt hHeld.2.1⟩
  clear hb G0
  obtain ⟨z, hz⟩ : ∃ z, z = U0.heap.size := ⟨_, rfl⟩
  rw [← hz] at G1 ⊢
  clear hz
  generalize U0.alloc (.cells #[] 186) = U1 at G1 hx ⊢
  refine hK.out _ _ hx (fun hHeld => ?_)
  clear hK K
  try simp only [List.getElem_toArray, List.getElem_cons_succ, List.getElem_cons_zero, Act.put, List.setIfInBounds_toArray, List.set_cons_zero, List.set_cons_succ]
  refine wpAnyH_ready (rs := [11]) (by kernel_rfl) (by simp) ?_
  refine AllReadyH.cons rfl (fun K hK => ?_) AllReadyH.nil
  refine step_store_r (by rfl) 186 _ _ (by rfl) z #[] (by rfl) (by rfl) 186 _ G1.out.2.1 (by kernel_rfl) (by simp) (by simp) ?_
  have hx : (fun w' : World => w'.heap[t]? = some (TeC b (.slice none 0 0) k) ∧ w'.heap[q]? = some (.cells (ndC Y (.slice ea en ec)) 195) ∧ w'.heap[k]? = some (.map #[] 0)) (U1.setRow z #[]) := ⟨(setRow_other _ _ _ _ (by have := G1.out; omega)).trans hHeld.1, (setRow_other _ _ _ _ (by have := G1.out; omega)).trans hHeld.2.1, (setRow_other _ _ _ _ (by have := G1.out; omega)).trans hHeld.2.2⟩
  have G2 : Hid (Below q w (U1.setRow z #[]) ∧ (fun w' : World => w'.heap[t]? = some (TeC b (.slice none 0 0) k) ∧ w'.heap[q]? = some (.cells (ndC Y (.slice ea en ec)) 195) ∧ w'.heap[k]? = some (.map #[] 0)) (U1.setRow z #[])) := ⟨((Kc.Only.refl _ _).setRow _).below G1.out.1 (by have := G1.out; omega), hx⟩
  clear G1
  generalize U1.setRow z #[] = U2 at G2 hx ⊢
  refine hK.out _ _ hx (fun hHeld => ?_)
  clear hK K
  try simp only [List.getElem_toArray, List.getElem_cons_succ, List.getElem_cons_zero, Act.put, List.setIfInBounds_toArray, List.set_cons_zero, List.set_cons_succ]
  refine wpAnyH_take (i := 12) (v := .bool false) rfl (by kernel_rfl) (by kernel_rfl) (by kernel_rfl) (fun _ _ _ h => h) (Or.inl ⟨by rfl, fun w9 hSw => ?_⟩) hHeld ?_
  · go_simp
  simp only [List.getElem_toArray, List.getElem_cons_succ, List.getElem_cons_zero, Act.put, List.setIfInBounds_toArray, List.set_cons_zero, List.set_cons_succ]
  refine wpAnyH_done (by kernel_rfl) ?_ _
  simp only [noP]
  clear hHeld hx
  go_wp2_with fail
  refine wp_noP ?_
  refine wp_region_held_drew (S := (fun w' : World => w'.heap[t]? = some (TeC b (.slice none 0 0) k) ∧ w'.heap[q]? = some (.cells (ndC Y (.slice ea en ec)) 195))) (by kernel_rfl) ⟨G2.out.2.1, G2.out.2.2.1⟩ (fun hHeld => ?_)
  have G3 : Hid (Below q w U2.drew ∧ U2.drew.heap[k]? = some (.map #[] 0)) := ⟨⟨G2.out.1.os, G2.out.1.tape, G2.out.1.output, G2.out.1.size, G2.out.1.block⟩, G2.out.2.2.2⟩
  clear G2
  generalize U2.drew = U3 at G3 hHeld ⊢
  refine wpAnyH_take (i := 0) (v := .pointer (some ⟨t, 0, none⟩)) rfl (by kernel_rfl) (by kernel_rfl) (by kernel_rfl) (fun _ _ _ h => h) (Or.inl ⟨by rfl, fun w9 hSw => ?_⟩) hHeld ?_
  · go_simp
  simp only [List.getElem_toArray, List.getElem_cons_succ, List.getElem_cons_zero, Act.put, List.setIfInBounds_toArray, List.set_cons_zero, List.set_cons_succ]
  refine wpAnyH_take (i := 1) (v := .pointer (some ⟨t, 0, none⟩)) rfl (by kernel_rfl) (by kernel_rfl) (by kernel_rfl) (fun _ _ _ h => h) (Or.inl ⟨by rfl, fun w9 hSw => ?_⟩) hHeld ?_
  · go_simp
  simp only [List.getElem_toArray, List.getElem_cons_succ, List.getElem_cons_zero, Act.put, List.setIfInBounds_toArray, List.set_cons_zero, List.set_cons_succ]
  refine wpAnyH_take (i := 2) (v := .pointer (some ⟨t, 2, none⟩)) rfl (by kernel_rfl) (by kernel_rfl) (by kernel_rfl) (fun _ _ _ h => h) (Or.inl ⟨by rfl, fun w9 hSw => ?_⟩) hHeld ?_
  · go_simp
  simp only [List.getElem_toArray, List.getElem_cons_succ, List.getElem_cons_zero, Act.put, List.setIfInBounds_toArray, List.set_cons_zero, List.set_cons_succ]
  refine wpAnyH_take (i := 3) (v := .map (some k)) rfl (by kernel_rfl) (by kernel_rfl) (by kernel_rfl) (fun _ _ _ h => h) (Or.inl ⟨by rfl, fun w9 hSw => ?_⟩) hHeld ?_
  · have k0 : w9.cell? ⟨t, 2, none⟩ = some (.map (some k)) := by rw [cell_of_block hSw.1]; rfl
    go_simp
  simp only [List.getElem_toArray, List.getElem_cons_succ, List.getElem_cons_zero, Act.put, List.setIfInBounds_toArray, List.set_cons_zero, List.set_cons_succ]
  refine wpAnyH_take (i := 4) (v := .pointer (some ⟨q, 0, none⟩)) rfl (by kernel_rfl) (by kernel_rfl) (by kernel_rfl) (fun _ _ _ h => h) (Or.inl ⟨by rfl, fun w9 hSw => ?_⟩) hHeld ?_
  · go_simp
  simp only [List.getElem_toArray, List.getElem_cons_succ, List.getElem_cons_zero, Act.put, List.setIfInBounds_toArray, List.set_cons_zero, List.set_cons_succ]
  refine wpAnyH_take (i := 5) (v := .agg (Kc.vec 32 (Kc.byt Y))) rfl (by kernel_rfl) (by kernel_rfl) (by kernel_rfl) (fun _ _ _ h => h) (Or.inl ⟨by rfl, fun w9 hSw => ?_⟩) hHeld ?_
  · exact Kc.run_load_exec 33 _ rfl _ rfl (load_hash hSw.2)
  simp only [List.getElem_toArray, List.getElem_cons_succ, List.getElem_cons_zero, Act.put, List.setIfInBounds_toArray, List.set_cons_zero, List.set_cons_succ]
  refine wpAnyH_take (i := 6) (v := .agg #[]) rfl (by kernel_rfl) (by kernel_rfl) (by kernel_rfl) (fun _ _ _ h => h) (Or.inl ⟨by rfl, fun w9 hSw => ?_⟩) hHeld ?_
  · have hk := build186 w9
    go_simp
  simp only [List.getElem_toArray, List.getElem_cons_succ, List.getElem_cons_zero, Act.put, List.setIfInBounds_toArray, List.set_cons_zero, List.set_cons_succ]
  refine wpAnyH_ready (rs := [7]) (by kernel_rfl) (by simp) ?_
  refine AllReadyH.cons rfl (fun K hK => ?_) AllReadyH.nil
  refine step_update (by rfl) 110 _ _ _ (by rfl) (.map (some k)) (.agg (Kc.vec 32 (Kc.byt Y))) (.agg #[]) (by rfl) (by rfl) (by rfl) (upd110 G3.out.2 Y) ?_
  have hqk : q ≠ k := by have := HP.out.2.2.2.2.1; have := HQ.out; omega
  have hx : (fun w' : World => w'.heap[t]? = some (TeC b (.slice none 0 0) k) ∧ w'.heap[q]? = some (.cells (ndC Y (.slice ea en ec)) 195)) (U3.putObj k (.map #[⟨.agg (Kc.vec 32 (Kc.byt Y)), .agg #[], 0⟩] (0 + 1))) := ⟨(World.putObj_heap_other HP.out.2.2.1).trans hHeld.1, (World.putObj_heap_other hqk).trans hHeld.2⟩
  have hg3 : GrowT t k w U3 := ⟨G3.out.1.os, G3.out.1.tape, G3.out.1.output, G3.out.1.size, fun i hi _ _ => G3.out.1.block i (by rw [HQ.out]; exact hi)⟩
  have G4 : Hid (GrowT t k w (U3.putObj k (.map #[⟨.agg (Kc.vec 32 (Kc.byt Y)), .agg #[], 0⟩] (0 + 1))) ∧ (fun w' : World => w'.heap[t]? = some (TeC b (.slice none 0 0) k) ∧ w'.heap[q]? = some (.cells (ndC Y (.slice ea en ec)) 195)) (U3.putObj k (.map #[⟨.agg (Kc.vec 32 (Kc.byt Y)), .agg #[], 0⟩] (0 + 1)))) := ⟨hg3.trans (GrowT.put _ _), hx⟩
  clear G3 hqk hg3
  generalize U3.putObj k (.map #[⟨.agg (Kc.vec 32 (Kc.byt Y)), .agg #[], 0⟩] (0 + 1)) = U4 at G4 hx ⊢
  refine hK.out _ _ hx (fun hHeld => ?_)
  clear hK K
  try simp only [List.getElem_toArray, List.getElem_cons_succ, List.getElem_cons_zero, Act.put, List.setIfInBounds_toArray, List.set_cons_zero, List.set_cons_succ]
  refine wpAnyH_done (by kernel_rfl) ?_ _
  simp only [noP]
  clear hHeld hx
  go_wp2_with fail
  refine wp_noP ?_
  refine wp_region_held_drew (S := (fun w' : World => w'.heap[q]? = some (.cells (ndC Y (.slice ea en ec)) 195))) (by kernel_rfl) G4.out.2.2 (fun hHeld => ?_)
  have G5 : Hid (GrowT t k w U4.drew ∧ U4.drew.heap[t]? = some (TeC b (.slice none 0 0) k)) := ⟨⟨G4.out.1.os, G4.out.1.tape, G4.out.1.output, G4.out.1.size, G4.out.1.block⟩, G4.out.2.1⟩
  clear G4
  generalize U4.drew = U5 at G5 hHeld ⊢
  refine wpAnyH_take (i := 0) (v := .pointer (some ⟨t, 0, none⟩)) rfl (by kernel_rfl) (by kernel_rfl) (by kernel_rfl) (fun _ _ _ h => h) (Or.inl ⟨by rfl, fun w9 hSw => ?_⟩) hHeld ?_
  · go_simp
  simp only [List.getElem_toArray, List.getElem_cons_succ, List.getElem_cons_zero, Act.put, List.setIfInBounds_toArray, List.set_cons_zero, List.set_cons_succ]
  refine wpAnyH_take (i := 1) (v := .pointer (some ⟨t, 0, none⟩)) rfl (by kernel_rfl) (by kernel_rfl) (by kernel_rfl) (fun _ _ _ h => h) (Or.inl ⟨by rfl, fun w9 hSw => ?_⟩) hHeld ?_
  · go_simp
  simp only [List.getElem_toArray, List.getElem_cons_succ, List.getElem_cons_zero, Act.put, List.setIfInBounds_toArray, List.set_cons_zero, List.set_cons_succ]
  refine wpAnyH_take (i := 2) (v := .pointer (some ⟨t, 0, none⟩)) rfl (by kernel_rfl) (by kernel_rfl) (by kernel_rfl) (fun _ _ _ h => h) (Or.inl ⟨by rfl, fun w9 hSw => ?_⟩) hHeld ?_
  · go_simp
  simp only [List.getElem_toArray, List.getElem_cons_succ, List.getElem_cons_zero, Act.put, List.setIfInBounds_toArray, List.set_cons_zero, List.set_cons_succ]
  refine wpAnyH_take (i := 3) (v := .pointer (some ⟨t, 1, none⟩)) rfl (by kernel_rfl) (by kernel_rfl) (by kernel_rfl) (fun _ _ _ h => h) (Or.inl ⟨by rfl, fun w9 hSw => ?_⟩) hHeld ?_
  · go_simp
  simp only [List.getElem_toArray, List.getElem_cons_succ, List.getElem_cons_zero, Act.put, List.setIfInBounds_toArray, List.set_cons_zero, List.set_cons_succ]
  refine wpAnyH_take (i := 5) (v := .agg (ndC Y (.slice ea en ec))) rfl (by kernel_rfl) (by kernel_rfl) (by kernel_rfl) (fun _ _ _ h => h) (Or.inl ⟨by rfl, fun w9 hSw => ?_⟩) hHeld ?_
  · exact Kc.run_load_exec 195 _ rfl _ rfl (load195 (nd_cells hSw))
  simp only [List.getElem_toArray, List.getElem_cons_succ, List.getElem_cons_zero, Act.put, List.setIfInBounds_toArray, List.set_cons_zero, List.set_cons_succ]
  refine wpAnyH_ready (rs := [4, 6]) (by kernel_rfl) (by simp) ?_
  refine AllReadyH.cons rfl (fun K hK => ?_) (AllReadyH.cons rfl (fun K hK => ?_) AllReadyH.nil)
  · have G5b : Hid (GrowT t k w U5 ∧ U5.heap[t]? = some (TeC b (.slice none 0 0) k) ∧ True) := ⟨G5.out.1, G5.out.2, trivial⟩
    have k0 : U5.cell? ⟨t, 1, none⟩ = some (.slice none 0 0) := by rw [cell_of_block G5b.out.2.1]; rfl
    go_simp
    clear k0
    refine hK.out _ _ hHeld (fun hHeld => ?_)
    clear hK K
    try simp only [List.getElem_toArray, List.getElem_cons_succ, List.getElem_cons_zero, Act.put, List.setIfInBounds_toArray, List.set_cons_zero, List.set_cons_succ]
    clear G5b
    refine wpAnyH_ready (rs := [6]) (by kernel_rfl) (by simp) ?_
    refine AllReadyH.cons rfl (fun K hK => ?_) AllReadyH.nil
    obtain ⟨i0, hi0, hz0, hz1, hz2⟩ := info195c
    have hbs := build_one (P := Tryz.prog) U5 34 195 33 (ndC Y (.slice ea en ec)) i0 _ Tryz.underlying34 hi0 hz0 hz1 (by simp) (by decide) (by decide)
    have HI : Hid (Tryz.prog.info? 195 = some i0 ∧ i0.zero = some (.agg (ndC (fun _ => 0) (.slice none 0 0))) ∧ i0.size = 33 ∧ i0.bytes = 56) := ⟨hi0, hz0, hz1, hz2⟩
    clear hi0 hz0 hz1 hz2
    refine step_build_one (by rfl) 34 _ (by rfl) 195 (ndC Y (.slice ea en ec)) (by rfl) hbs ?_
    have hb : Below U5.heap.size U5 (U5.alloc (.cells (ndC Y (.slice ea en ec)) 195)) := by go_grown
    have hx : (fun w' : World => w'.heap[q]? = some (.cells (ndC Y (.slice ea en ec)) 195)) (U5.alloc (.cells (ndC Y (.slice ea en ec)) 195)) := (hb.block _ (heap_lt hHeld)).trans hHeld
    have G6 : Hid (GrowT t k w (U5.alloc (.cells (ndC Y (.slice ea en ec)) 195)) ∧ (U5.alloc (.cells (ndC Y (.slice ea en ec)) 195)).heap[t]? = some (TeC b (.slice none 0 0) k) ∧ (U5.alloc (.cells (ndC Y (.slice ea en ec)) 195)).heap[U5.heap.size]? = some (.cells (ndC Y (.slice ea en ec)) 195)) := ⟨G5.out.1.trans (GrowT.of_below hb), (hb.block _ (heap_lt G5.out.2)).trans G5.out.2, heap_alloc_new _ _⟩
    clear hb hbs
    obtain ⟨z, hz⟩ : ∃ z, z = U5.heap.size := ⟨_, rfl⟩
    rw [← hz] at G6 ⊢
    clear hz
    generalize U5.alloc (.cells (ndC Y (.slice ea en ec)) 195) = U6 at G6 hx ⊢
    refine hK.out _ _ hx (fun hHeld => ?_)
    clear hK K
    try simp only [List.getElem_toArray, List.getElem_cons_succ, List.getElem_cons_zero, Act.put, List.setIfInBounds_toArray, List.set_cons_zero, List.set_cons_succ]
    refine wpAnyH_ready (rs := [7]) (by kernel_rfl) (by simp) ?_
    refine AllReadyH.cons rfl (fun K hK => ?_) AllReadyH.nil
    refine step_app_one rfl (.tmp 37) (.tmp 39) 34 rfl 195 i0 _ 33 56 Tryz.underlying34 HI.out.1 HI.out.2.1 HI.out.2.2.1 HI.out.2.2.2 (by simp [Value.cells]) (by decide) (by decide) rfl z 1 rfl (ndC Y (.slice ea en ec)).toList (by simp) (fun j u hu => by obtain ⟨hj, rfl⟩ := nd_at hu; rw [cell_of_block G6.out.2.2]; exact Kc.get_vec 33 _ j hj) nd_one (fun B cap U7 hb hB hcap hcs => ?_)
    have hx : (fun w' : World => w'.heap[q]? = some (.cells (ndC Y (.slice ea en ec)) 195)) U7 := (hb.block _ (heap_lt hHeld)).trans hHeld
    have G7 : Hid (GrowT t k w U7 ∧ U7.heap[t]? = some (TeC b (.slice none 0 0) k)) := ⟨G6.out.1.trans (GrowT.of_below hb), (hb.block _ (heap_lt G6.out.2.1)).trans G6.out.2.1⟩
    clear hb hB hcap hcs G6 HI
    refine hK.out _ _ hx (fun hHeld => ?_)
    clear hK K
    try simp only [List.getElem_toArray, List.getElem_cons_succ, List.getElem_cons_zero, Act.put, List.setIfInBounds_toArray, List.set_cons_zero, List.set_cons_succ]
    refine wpAnyH_take (i := 8) (v := .pointer (some ⟨t, 0, none⟩)) rfl (by kernel_rfl) (by kernel_rfl) (by kernel_rfl) (fun _ _ _ h => h) (Or.inl ⟨by rfl, fun w9 hSw => ?_⟩) hHeld ?_
    · go_simp
    simp only [List.getElem_toArray, List.getElem_cons_succ, List.getElem_cons_zero, Act.put, List.setIfInBounds_toArray, List.set_cons_zero, List.set_cons_succ]
    refine wpAnyH_take (i := 9) (v := .pointer (some ⟨t, 1, none⟩)) rfl (by kernel_rfl) (by kernel_rfl) (by kernel_rfl) (fun _ _ _ h => h) (Or.inl ⟨by rfl, fun w9 hSw => ?_⟩) hHeld ?_
    · go_simp
    simp only [List.getElem_toArray, List.getElem_cons_succ, List.getElem_cons_zero, Act.put, List.setIfInBounds_toArray, List.set_cons_zero, List.set_cons_succ]
    refine wpAnyH_ready (rs := [10]) (by kernel_rfl) (by simp) ?_
    refine AllReadyH.cons rfl (fun K hK => ?_) AllReadyH.nil
    have f0 : U7.frozen? ⟨t, 1, none⟩ = false := unfrozen_of_block G7.out.2 1
    have c0 : U7.cell? ⟨t, 1, none⟩ = some (.slice none 0 0) := by rw [cell_of_block G7.out.2]; rfl
    go_simp
    have hqt : q ≠ t := by have := HP.out.2.2.2.1; have := HQ.out; omega
    have hx : (fun w' : World => w'.heap[q]? = some (.cells (ndC Y (.slice ea en ec)) 195)) (U7.setCell ⟨t, 1, none⟩ (.slice (some ⟨B, 0, none⟩) 1 cap)) := (Below.heap_setCell _ _ _ _ hqt).trans hHeld
    have ht2 : (U7.setCell ⟨t, 1, none⟩ (.slice (some ⟨B, 0, none⟩) 1 cap)).heap[t]? = some (TeC b (.slice (some ⟨B, 0, none⟩) 1 cap) k) := heap_setCell_same _ _ 1 _ 112 _ G7.out.2
    have G8 : Hid (GrowT t k w (U7.setCell ⟨t, 1, none⟩ (.slice (some ⟨B, 0, none⟩) 1 cap)) ∧ (U7.setCell ⟨t, 1, none⟩ (.slice (some ⟨B, 0, none⟩) 1 cap)).heap[t]? = some (TeC b (.slice (some ⟨B, 0, none⟩) 1 cap) k)) := ⟨G7.out.1.trans (GrowT.cell _ _ _), ht2⟩
    clear G7 ht2 hqt f0 c0
    generalize U7.setCell ⟨t, 1, none⟩ (.slice (some ⟨B, 0, none⟩) 1 cap) = U8 at G8 hx ⊢
    refine hK.out _ _ hx (fun hHeld => ?_)
    clear hK K
    try simp only [List.getElem_toArray, List.getElem_cons_succ, List.getElem_cons_zero, Act.put, List.setIfInBounds_toArray, List.set_cons_zero, List.set_cons_succ]
    refine wpAnyH_done (by kernel_rfl) ?_ _
    simp only [noP]
    clear hHeld hx
    go_wp2_with fail
    rw [rounds_succ]
    go_wp2_with fail
    go_end0
    exact ⟨rfl, G8.out.1, _, _, G8.out.2⟩
  · obtain ⟨i0, hi0, hz0, hz1, hz2⟩ := info195c
    have hbs := build_one (P := Tryz.prog) U5 34 195 33 (ndC Y (.slice ea en ec)) i0 _ Tryz.underlying34 hi0 hz0 hz1 (by simp) (by decide) (by decide)
    have HI : Hid (Tryz.prog.info? 195 = some i0 ∧ i0.zero = some (.agg (ndC (fun _ => 0) (.slice none 0 0))) ∧ i0.size = 33 ∧ i0.bytes = 56) := ⟨hi0, hz0, hz1, hz2⟩
    clear hi0 hz0 hz1 hz2
    refine step_build_one (by rfl) 34 _ (by rfl) 195 (ndC Y (.slice ea en ec)) (by rfl) hbs ?_
    have hb : Below U5.heap.size U5 (U5.alloc (.cells (ndC Y (.slice ea en ec)) 195)) := by go_grown
    have hx : (fun w' : World => w'.heap[q]? = some (.cells (ndC Y (.slice ea en ec)) 195)) (U5.alloc (.cells (ndC Y (.slice ea en ec)) 195)) := (hb.block _ (heap_lt hHeld)).trans hHeld
    have G6 : Hid (GrowT t k w (U5.alloc (.cells (ndC Y (.slice ea en ec)) 195)) ∧ (U5.alloc (.cells (ndC Y (.slice ea en ec)) 195)).heap[t]? = some (TeC b (.slice none 0 0) k) ∧ (U5.alloc (.cells (ndC Y (.slice ea en ec)) 195)).heap[U5.heap.size]? = some (.cells (ndC Y (.slice ea en ec)) 195)) := ⟨G5.out.1.trans (GrowT.of_below hb), (hb.block _ (heap_lt G5.out.2)).trans G5.out.2, heap_alloc_new _ _⟩
    clear hb hbs
    obtain ⟨z, hz⟩ : ∃ z, z = U5.heap.size := ⟨_, rfl⟩
    rw [← hz] at G6 ⊢
    clear hz
    generalize U5.alloc (.cells (ndC Y (.slice ea en ec)) 195) = U6 at G6 hx ⊢
    refine hK.out _ _ hx (fun hHeld => ?_)
    clear hK K
    try simp only [List.getElem_toArray, List.getElem_cons_succ, List.getElem_cons_zero, Act.put, List.setIfInBounds_toArray, List.set_cons_zero, List.set_cons_succ]
    refine wpAnyH_ready (rs := [4]) (by kernel_rfl) (by simp) ?_
    refine AllReadyH.cons rfl (fun K hK => ?_) AllReadyH.nil
    have k0 : U6.cell? ⟨t, 1, none⟩ = some (.slice none 0 0) := by rw [cell_of_block G6.out.2.1]; rfl
    go_simp
    clear k0
    refine hK.out _ _ hHeld (fun hHeld => ?_)
    clear hK K
    try simp only [List.getElem_toArray, List.getElem_cons_succ, List.getElem_cons_zero, Act.put, List.setIfInBounds_toArray, List.set_cons_zero, List.set_cons_succ]
    refine wpAnyH_ready (rs := [7]) (by kernel_rfl) (by simp) ?_
    refine AllReadyH.cons rfl (fun K hK => ?_) AllReadyH.nil
    refine step_app_one rfl (.tmp 37) (.tmp 39) 34 rfl 195 i0 _ 33 56 Tryz.underlying34 HI.out.1 HI.out.2.1 HI.out.2.2.1 HI.out.2.2.2 (by simp [Value.cells]) (by decide) (by decide) rfl z 1 rfl (ndC Y (.slice ea en ec)).toList (by simp) (fun j u hu => by obtain ⟨hj, rfl⟩ := nd_at hu; rw [cell_of_block G6.out.2.2]; exact Kc.get_vec 33 _ j hj) nd_one (fun B cap U7 hb hB hcap hcs => ?_)
    have hx : (fun w' : World => w'.heap[q]? = some (.cells (ndC Y (.slice ea en ec)) 195)) U7 := (hb.block _ (heap_lt hHeld)).trans hHeld
    have G7 : Hid (GrowT t k w U7 ∧ U7.heap[t]? = some (TeC b (.slice none 0 0) k)) := ⟨G6.out.1.trans (GrowT.of_below hb), (hb.block _ (heap_lt G6.out.2.1)).trans G6.out.2.1⟩
    clear hb hB hcap hcs G6 HI
    refine hK.out _ _ hx (fun hHeld => ?_)
    clear hK K
    try simp only [List.getElem_toArray, List.getElem_cons_succ, List.getElem_cons_zero, Act.put, List.setIfInBounds_toArray, List.set_cons_zero, List.set_cons_succ]
    refine wpAnyH_take (i := 8) (v := .pointer (some ⟨t, 0, none⟩)) rfl (by kernel_rfl) (by kernel_rfl) (by kernel_rfl) (fun _ _ _ h => h) (Or.inl ⟨by rfl, fun w9 hSw => ?_⟩) hHeld ?_
    · go_simp
    simp only [List.getElem_toArray, List.getElem_cons_succ, List.getElem_cons_zero, Act.put, List.setIfInBounds_toArray, List.set_cons_zero, List.set_cons_succ]
    refine wpAnyH_take (i := 9) (v := .pointer (some ⟨t, 1, none⟩)) rfl (by kernel_rfl) (by kernel_rfl) (by kernel_rfl) (fun _ _ _ h => h) (Or.inl ⟨by rfl, fun w9 hSw => ?_⟩) hHeld ?_
    · go_simp
    simp only [List.getElem_toArray, List.getElem_cons_succ, List.getElem_cons_zero, Act.put, List.setIfInBounds_toArray, List.set_cons_zero, List.set_cons_succ]
    refine wpAnyH_ready (rs := [10]) (by kernel_rfl) (by simp) ?_
    refine AllReadyH.cons rfl (fun K hK => ?_) AllReadyH.nil
    have f0 : U7.frozen? ⟨t, 1, none⟩ = false := unfrozen_of_block G7.out.2 1
    have c0 : U7.cell? ⟨t, 1, none⟩ = some (.slice none 0 0) := by rw [cell_of_block G7.out.2]; rfl
    go_simp
    have hqt : q ≠ t := by have := HP.out.2.2.2.1; have := HQ.out; omega
    have hx : (fun w' : World => w'.heap[q]? = some (.cells (ndC Y (.slice ea en ec)) 195)) (U7.setCell ⟨t, 1, none⟩ (.slice (some ⟨B, 0, none⟩) 1 cap)) := (Below.heap_setCell _ _ _ _ hqt).trans hHeld
    have ht2 : (U7.setCell ⟨t, 1, none⟩ (.slice (some ⟨B, 0, none⟩) 1 cap)).heap[t]? = some (TeC b (.slice (some ⟨B, 0, none⟩) 1 cap) k) := heap_setCell_same _ _ 1 _ 112 _ G7.out.2
    have G8 : Hid (GrowT t k w (U7.setCell ⟨t, 1, none⟩ (.slice (some ⟨B, 0, none⟩) 1 cap)) ∧ (U7.setCell ⟨t, 1, none⟩ (.slice (some ⟨B, 0, none⟩) 1 cap)).heap[t]? = some (TeC b (.slice (some ⟨B, 0, none⟩) 1 cap) k)) := ⟨G7.out.1.trans (GrowT.cell _ _ _), ht2⟩
    clear G7 ht2 hqt f0 c0
    generalize U7.setCell ⟨t, 1, none⟩ (.slice (some ⟨B, 0, none⟩) 1 cap) = U8 at G8 hx ⊢
    refine hK.out _ _ hx (fun hHeld => ?_)
    clear hK K
    try simp only [List.getElem_toArray, List.getElem_cons_succ, List.getElem_cons_zero, Act.put, List.setIfInBounds_toArray, List.set_cons_zero, List.set_cons_succ]
    refine wpAnyH_done (by kernel_rfl) ?_ _
    simp only [noP]
    clear hHeld hx
    go_wp2_with fail
    rw [rounds_succ]
    go_wp2_with fail
    go_end0
    exact ⟨rfl, G8.out.1, _, _, G8.out.2⟩
end Go.Proofs.YtboeokmaepchgaaGreatDoor
