/- state: Log, CodeHash, Code of a nil state. -/
import Derived.Test.YtboeokmaepchgaaGreatDoorM30
namespace Go.Proofs.YtboeokmaepchgaaGreatDoor
open Go.RowKit Go.Maps Go.Joins Go.Shelf
set_option linter.unusedSimpArgs false
set_option linter.unusedVariables false
theorem z33l : (#[.int .u8 0, .int .u8 0, .int .u8 0, .int .u8 0, .int .u8 0, .int .u8 0, .int .u8 0, .int .u8 0, .int .u8 0, .int .u8 0, .int .u8 0, .int .u8 0, .int .u8 0, .int .u8 0, .int .u8 0, .int .u8 0, .int .u8 0, .int .u8 0, .int .u8 0, .int .u8 0, .int .u8 0, .int .u8 0, .int .u8 0, .int .u8 0, .int .u8 0, .int .u8 0, .int .u8 0, .int .u8 0, .int .u8 0, .int .u8 0, .int .u8 0, .int .u8 0] : Array Value) = z32 := by kernel_rfl
set_option maxRecDepth 100000 in
set_option maxHeartbeats 8000000 in
theorem log_nil {w : World} (c : Array Value) : Calls Tryz.prog 22 #[.pointer none, .agg c] w fun e w' => e = .returned (.tuple #[]) ∧ Below w.heap.size w w' := by
  have hB0 : Below w.heap.size w (w.alloc (.cells c 56)) := by go_grown
  go_enter Tryz.func22, Tryz.ntmps22
  go_wp2_with (first | (go_at_call 57; refine Calls.mono broken_nil ?_; rintro e w8 ⟨rfl, h⟩; obtain rfl := h.symm; clear h))
  refine bodyPost_ret (results_none rfl _ _ _) rfl ⟨rfl, ?_⟩
  exact hB0
set_option maxRecDepth 100000 in
set_option maxHeartbeats 8000000 in
theorem codeHash_nil {w : World} (A D E : Nat → BitVec 8) (h : Two D E) (hp : Kc.PathIn w) : Calls Tryz.prog 29 #[.pointer none, .agg (adV A)] w fun e w' => e = .returned (.agg z32) ∧ Below w.heap.size w w' := by
  have HP : Hid (Kc.PathIn w ∧ 1 < w.heap.size ∧ Two D E) := ⟨hp, Kc.pathIn_pos hp, h⟩
  have B0 : ([Obj.cells (adV A) 43, .cells z32 33].foldl World.alloc w) = (w.alloc (.cells (adV A) 43)).alloc (.cells z32 33) := rfl
  have hB0 := allocs_below [Obj.cells (adV A) 43, .cells z32 33] w
  have r0 := allocs_heap [Obj.cells (adV A) 43, .cells z32 33] w 0 _ rfl
  have r1 := allocs_heap [Obj.cells (adV A) 43, .cells z32 33] w 1 _ rfl
  rw [B0] at hB0 r0 r1
  have HB : Hid _ := And.intro hB0 (And.intro r0 r1)
  have HC : Hid _ := account_nil (w := (w.alloc (.cells (adV A) 43)).alloc (.cells z32 33)) A D E h (hp.below hB0 (Kc.pathIn_pos hp))
  clear hp h B0 hB0 r0 r1
  go_enter Tryz.func29, Tryz.ntmps29
  go_wp2_with (first | (refine wpList_load_row rfl 43 _ rfl w.heap.size rfl 43 _ (0, 0) _ HB.out.2.1 Tryz.underlying43 rfl (info43v _) ?_))
  rw [z33l]
  generalize (w.alloc (.cells (adV A) 43)).alloc (.cells z32 33) = W0 at HB HC ⊢
  refine Calls.mono HC.out ?_
  rintro e W1 ⟨rfl, hb1⟩
  have hb01 : Below w.heap.size w W1 := HB.out.1.trans (hb1.mono HB.out.1.size)
  have hA : Below W1.heap.size W1 (W1.alloc (.cells (newAc D E) 86)) := by go_grown
  have hb02 := hb01.trans (hA.mono hb01.size)
  have H1 : Hid (Below w.heap.size w (W1.alloc (.cells (newAc D E) 86)) ∧ (W1.alloc (.cells (newAc D E) 86)).heap[w.heap.size + 1]? = some (.cells z32 33) ∧ (W1.alloc (.cells (newAc D E) 86)).heap[W1.heap.size]? = some (.cells (newAc D E) 86)) := ⟨hb02, (hA.block _ (Nat.lt_of_lt_of_le (heap_lt HB.out.2.2) hb1.size)).trans ((hb1.block _ (heap_lt HB.out.2.2)).trans HB.out.2.2), heap_alloc_new _ _⟩
  clear hb1 hb01 hA hb02 HB HC
  go_wp2_with (first | (refine wpList_store_row rfl 86 _ _ rfl W1.heap.size (newAc D E) rfl rfl 86 _ (heap_alloc_new _ _) (info86v _) (by rw [z86]; simp) (one_ac _ _ _ _ _ _ _ _ _ _) ?_; rw [World.setRow_alloc_new]; generalize W1.alloc (.cells (newAc D E) 86) = W2 at H1 ⊢) | (refine wpList_load_row rfl 86 _ rfl W1.heap.size rfl 86 _ (0, 0) _ H1.out.2.2 Tryz.underlying86 rfl (info86v _) ?_))
  refine Calls.mono (empty_new D E HP.out.2.2 (HP.out.1.below H1.out.1 HP.out.2.1)) ?_
  rintro e W3 ⟨rfl, hb3⟩
  have H3 : Hid (Below w.heap.size w W3 ∧ W3.heap[w.heap.size + 1]? = some (.cells z32 33)) := ⟨H1.out.1.trans (hb3.mono H1.out.1.size), (hb3.block _ (heap_lt H1.out.2.1)).trans H1.out.2.1⟩
  clear hb3 H1
  go_wp2_with (first | (refine wpList_store_row rfl 33 _ _ rfl (w.heap.size + 1) z32 rfl rfl 33 _ H3.out.2 (Kc.info29v _) rfl (Kc.one_byt _ _) ?_) | (refine wpList_build rfl 33 _ rfl (by kernel_rfl) ?_; generalize hG : (Program.built _ _ _).getD #[] = G; obtain rfl : G = z32 := by rw [← hG]; kernel_rfl))
  refine bodyPost_ret (results_cell_row rfl _ _ _ _ _ _ _ rfl (setRow_heap _ _ _ _ _ _ H3.out.2) Tryz.underlying33 rfl (Kc.info29v _)) rfl ⟨rfl, ?_⟩
  exact ((Kc.Only.refl _ _).setRow _).below H3.out.1 (by omega)
set_option maxRecDepth 100000 in
set_option maxHeartbeats 8000000 in
theorem code_nil {w : World} (A D E : Nat → BitVec 8) (h : Two D E) (hp : Kc.PathIn w) : Calls Tryz.prog 28 #[.pointer none, .agg (adV A)] w fun e w' => e = .returned (.slice none 0 0) ∧ Below w.heap.size w w' := by
  have HP : Hid (Kc.PathIn w ∧ 1 < w.heap.size ∧ Two D E) := ⟨hp, Kc.pathIn_pos hp, h⟩
  have hB0 : Below w.heap.size w (w.alloc (.cells (adV A) 43)) := by go_grown
  have HC : Hid _ := account_nil (w := w.alloc (.cells (adV A) 43)) A D E h (hp.below hB0 (Kc.pathIn_pos hp))
  have HB : Hid (Below w.heap.size w (w.alloc (.cells (adV A) 43)) ∧ (w.alloc (.cells (adV A) 43)).heap[w.heap.size]? = some (.cells (adV A) 43)) := ⟨hB0, heap_alloc_new _ _⟩
  clear hp h hB0
  go_enter Tryz.func28, Tryz.ntmps28
  go_wp2_with (first | (refine wpList_load_row rfl 43 _ rfl w.heap.size rfl 43 _ (0, 0) _ HB.out.2 Tryz.underlying43 rfl (info43v _) ?_))
  generalize w.alloc (.cells (adV A) 43) = W0 at HB HC ⊢
  refine Calls.mono HC.out ?_
  rintro e W1 ⟨rfl, hb1⟩
  have hb01 : Below w.heap.size w W1 := HB.out.1.trans (hb1.mono HB.out.1.size)
  have hA : Below W1.heap.size W1 (W1.alloc (.cells (newAc D E) 86)) := by go_grown
  have H1 : Hid (Below w.heap.size w (W1.alloc (.cells (newAc D E) 86)) ∧ (W1.alloc (.cells (newAc D E) 86)).heap[W1.heap.size]? = some (.cells (newAc D E) 86)) := ⟨hb01.trans (hA.mono hb01.size), heap_alloc_new _ _⟩
  clear hb1 hb01 hA HB HC
  go_wp2_with (first | (refine wpList_store_row rfl 86 _ _ rfl W1.heap.size (newAc D E) rfl rfl 86 _ (heap_alloc_new _ _) (info86v _) (by rw [z86]; simp) (one_ac _ _ _ _ _ _ _ _ _ _) ?_; rw [World.setRow_alloc_new]))
  obtain ⟨g, hg⟩ : ∃ g, g = W1.heap.size := ⟨_, rfl⟩
  rw [← hg] at H1 ⊢
  generalize W1.alloc (.cells (newAc D E) 86) = W2 at H1 ⊢
  clear hg
  refine wp_noP ?_
  refine wp_region_held_drew (S := (fun w' : World => w'.heap[g]? = some (.cells (newAc D E) 86))) (by kernel_rfl) H1.out.2 (fun hHeld => ?_)
  have G0 : Hid (Below w.heap.size w W2.drew) := ⟨H1.out.1.os, H1.out.1.tape, H1.out.1.output, H1.out.1.size, H1.out.1.block⟩
  clear H1
  generalize W2.drew = U0 at G0 hHeld ⊢
  refine wpAnyH_take (i := 0) (v := .pointer (some ⟨g, 37, none⟩)) rfl (by kernel_rfl) (by kernel_rfl) (by kernel_rfl) (fun _ _ _ h => h) (Or.inl ⟨by rfl, fun w9 hSw => ?_⟩) hHeld ?_
  · go_simp
  simp only [List.getElem_toArray, List.getElem_cons_succ, List.getElem_cons_zero, Act.put, List.setIfInBounds_toArray, List.set_cons_zero, List.set_cons_succ]
  refine wpAnyH_take (i := 1) (v := .agg (Kc.vec 32 (Kc.byt E))) rfl (by kernel_rfl) (by kernel_rfl) (by kernel_rfl) (fun _ _ _ h => h) (Or.inl ⟨by rfl, fun w9 hSw => ?_⟩) hHeld ?_
  · exact Kc.run_load_exec 33 _ rfl _ rfl (ac_code hSw)
  simp only [List.getElem_toArray, List.getElem_cons_succ, List.getElem_cons_zero, Act.put, List.setIfInBounds_toArray, List.set_cons_zero, List.set_cons_succ]
  refine wpAnyH_ready (rs := [2]) (by kernel_rfl) (by simp) ?_
  refine AllReadyH.cons rfl (fun K hK => ?_) AllReadyH.nil
  have hC := noCode_any (w := U0) E HP.out.2.2.e (HP.out.1.below G0.out HP.out.2.1)
  go_simp
  refine Calls.mono hC ?_
  clear hC
  rintro e U2 ⟨rfl, hb2⟩
  have G2 : Hid (Below w.heap.size w U2 ∧ U2.heap[g]? = some (.cells (newAc D E) 86)) := ⟨G0.out.trans (hb2.mono G0.out.size), (hb2.block _ (heap_lt hHeld)).trans hHeld⟩
  have hx2 : (fun w' : World => w'.heap[g]? = some (.cells (newAc D E) 86)) U2 := G2.out.2
  clear hb2 G0
  refine hK.out _ _ hx2 (fun hHeld => ?_)
  clear hK K
  try simp only [List.getElem_toArray, List.getElem_cons_succ, List.getElem_cons_zero, Act.put, List.setIfInBounds_toArray, List.set_cons_zero, List.set_cons_succ]
  refine wpAnyH_take (i := 3) (v := .bool true) rfl (by kernel_rfl) (by kernel_rfl) (by kernel_rfl) (fun _ _ _ h => h) (Or.inl ⟨by rfl, fun w9 hSw => ?_⟩) hHeld ?_
  · have he := eq33 E w9
    go_simp
  simp only [List.getElem_toArray, List.getElem_cons_succ, List.getElem_cons_zero, Act.put, List.setIfInBounds_toArray, List.set_cons_zero, List.set_cons_succ]
  refine wpAnyH_take (i := 4) (v := .bool true) rfl (by kernel_rfl) (by kernel_rfl) (by kernel_rfl) (fun _ _ _ h => h) (Or.inl ⟨by rfl, fun w9 hSw => ?_⟩) hHeld ?_
  · go_simp
  simp only [List.getElem_toArray, List.getElem_cons_succ, List.getElem_cons_zero, Act.put, List.setIfInBounds_toArray, List.set_cons_zero, List.set_cons_succ]
  refine wpAnyH_take (i := 5) (v := undef) rfl (by kernel_rfl) (by kernel_rfl) (by kernel_rfl) (fun _ _ _ h => h) (Or.inr ⟨by rfl, rfl⟩) hHeld ?_
  simp only [List.getElem_toArray, List.getElem_cons_succ, List.getElem_cons_zero, Act.put, List.setIfInBounds_toArray, List.set_cons_zero, List.set_cons_succ]
  refine wpAnyH_take (i := 6) (v := undef) rfl (by kernel_rfl) (by kernel_rfl) (by kernel_rfl) (fun _ _ _ h => h) (Or.inr ⟨by rfl, rfl⟩) hHeld ?_
  simp only [List.getElem_toArray, List.getElem_cons_succ, List.getElem_cons_zero, Act.put, List.setIfInBounds_toArray, List.set_cons_zero, List.set_cons_succ]
  refine wpAnyH_take (i := 7) (v := undef) rfl (by kernel_rfl) (by kernel_rfl) (by kernel_rfl) (fun _ _ _ h => h) (Or.inr ⟨by rfl, rfl⟩) hHeld ?_
  simp only [List.getElem_toArray, List.getElem_cons_succ, List.getElem_cons_zero, Act.put, List.setIfInBounds_toArray, List.set_cons_zero, List.set_cons_succ]
  refine wpAnyH_take (i := 8) (v := undef) rfl (by kernel_rfl) (by kernel_rfl) (by kernel_rfl) (fun _ _ _ h => h) (Or.inr ⟨by rfl, rfl⟩) hHeld ?_
  simp only [List.getElem_toArray, List.getElem_cons_succ, List.getElem_cons_zero, Act.put, List.setIfInBounds_toArray, List.set_cons_zero, List.set_cons_succ]
  refine wpAnyH_take (i := 9) (v := .bool true) rfl (by kernel_rfl) (by kernel_rfl) (by kernel_rfl) (fun _ _ _ h => h) (Or.inl ⟨by rfl, fun w9 hSw => ?_⟩) hHeld ?_
  · go_simp
  simp only [List.getElem_toArray, List.getElem_cons_succ, List.getElem_cons_zero, Act.put, List.setIfInBounds_toArray, List.set_cons_zero, List.set_cons_succ]
  refine wpAnyH_done (by kernel_rfl) ?_ _
  simp only [noP]
  clear hHeld hx2
  have k9 : U2.cell? ⟨g, 69, none⟩ = some (.slice none 0 0) := ac_cell G2.out.2 69 (by decide)
  go_wp2_with (first | (go_at_call 43; refine Calls.mono bclone_nil ?_; rintro e U3 ⟨rfl, hb3⟩))
  go_ret
  exact ⟨rfl, hb3 ▸ G2.out.1⟩
end Go.Proofs.YtboeokmaepchgaaGreatDoor
