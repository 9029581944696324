/- VF, VG, VH, laid into one text. -/
import Derived.Test.YtboeokmaepchgaaGreatDoorM31
/- The root of an empty tree; nothing to be told. -/
namespace Go.Proofs.YtboeokmaepchgaaGreatDoor
open Go.RowKit Go.Maps Go.Joins Go.Shelf
set_option linter.unusedSimpArgs false
set_option linter.unusedVariables false
set_option maxRecDepth 100000 in
set_option maxHeartbeats 4000000 in
theorem summed_nil {w : World} (D : Nat → BitVec 8) (hD : D = Kc.digest (Kc.mB Kc.eM) 1) (hp : Kc.PathIn w) : Calls Tryz.prog 47 #[.nilIface] w fun e w' => e = .returned (.tuple #[.agg (Kc.vec 32 (Kc.byt D)), .slice none 0 0]) ∧ Below w.heap.size w w' := by
  have HP : Hid (Kc.PathIn w ∧ 1 < w.heap.size ∧ D = Kc.digest (Kc.mB Kc.eM) 1) := ⟨hp, Kc.pathIn_pos hp, hD⟩
  clear hp hD
  go_enter Tryz.func47, Tryz.ntmps47
  go_wp2_with fail
  refine Calls.mono (empty_d D HP.out.2.2 (HP.out.1.below (by go_grown) HP.out.2.1)) ?_
  rintro e W1 ⟨rfl, hb1⟩
  have hr := (hb1.block w.heap.size (by simp)).trans (heap_alloc_new _ _)
  have hb : Below w.heap.size w W1 := (by go_grown : Below w.heap.size w _).trans (hb1.mono (by simp))
  clear hb1
  go_wp2_with (first | (refine wpList_store_row rfl 33 _ _ rfl w.heap.size (Kc.vec 32 (Kc.byt D)) rfl rfl 33 _ hr (Kc.info29v _) (by simp) (Kc.one_byt _ _) ?_))
  refine bodyPost_ret (results_cell_row2 rfl _ _ _ _ _ rfl rfl (load33 (setRow_heap _ _ _ _ _ _ hr))) rfl ⟨rfl, ?_⟩
  exact ((Kc.Only.refl _ _).setRow _).below hb (by omega)
set_option maxRecDepth 100000 in
set_option maxHeartbeats 4000000 in
/-- The root of a tree without pairs -/
theorem troot_none {w : World} {b : Nat} (D : Nat → BitVec 8) (hD : D = Kc.digest (Kc.mB Kc.eM) 1) (hp : Kc.PathIn w) (hb : w.heap[b]? = some (.cells #[.nilIface, .nilFunc] 78)) : Calls Tryz.prog 11 #[.pointer (some ⟨b, 0, none⟩)] w fun e w' => e = .returned (.tuple #[.agg (Kc.vec 32 (Kc.byt D)), .slice none 0 0]) ∧ Below w.heap.size w w' := by
  have HP : Hid (Kc.PathIn w ∧ 1 < w.heap.size ∧ D = Kc.digest (Kc.mB Kc.eM) 1 ∧ b < w.heap.size) := ⟨hp, Kc.pathIn_pos hp, hD, heap_lt hb⟩
  have k1 : ∀ o, (w.alloc o).cell? ⟨b, 0, none⟩ = some .nilIface := fun o => ((by go_grown : Below w.heap.size w (w.alloc o)).cell (p := ⟨b, 0, none⟩) (heap_lt hb)).trans (by rw [cell_of_block hb]; rfl)
  clear hp hD hb
  go_enter Tryz.func11, Tryz.ntmps11
  go_wp2_with fail
  refine Calls.mono (summed_nil D HP.out.2.2.1 (HP.out.1.below (by go_grown) HP.out.2.1)) ?_
  rintro e W1 ⟨rfl, hb1⟩
  have hr := (hb1.block w.heap.size (by simp)).trans (heap_alloc_new _ _)
  have hb : Below w.heap.size w W1 := (by go_grown : Below w.heap.size w _).trans (hb1.mono (by simp))
  clear hb1 k1
  go_wp2_with (first | (refine wpList_store_row rfl 33 _ _ rfl w.heap.size (Kc.vec 32 (Kc.byt D)) rfl rfl 33 _ hr (Kc.info29v _) (by simp) (Kc.one_byt _ _) ?_))
  refine bodyPost_ret (results_cell_row2 rfl _ _ _ _ _ rfl rfl (load33 (setRow_heap _ _ _ _ _ _ hr))) rfl ⟨rfl, ?_⟩
  exact ((Kc.Only.refl _ _).setRow _).below hb (by omega)
set_option maxRecDepth 100000 in
set_option maxHeartbeats 4000000 in
/-- tell of nothing -/
theorem tell_none {w : World} (t : Value) : Calls Tryz.prog 104 #[t, .slice none 0 0] w fun e w' => e = .returned (.tuple #[]) ∧ w' = w := by
  go_enter Tryz.func104, Tryz.ntmps104
  go_wp2
  refine wp_loop_rounds 1 ?_
  rw [rounds_succ]
  go_wp2
  go_end0
  exact ⟨rfl, rfl⟩
end Go.Proofs.YtboeokmaepchgaaGreatDoor
/- state: changed of a tree without pairs, by nothing. -/
namespace Go.Proofs.YtboeokmaepchgaaGreatDoor
open Go.RowKit Go.Maps Go.Joins Go.Shelf
set_option linter.unusedSimpArgs false
set_option linter.unusedVariables false
theorem lit32 : (#[.int .u8 0, .int .u8 0, .int .u8 0, .int .u8 0, .int .u8 0, .int .u8 0, .int .u8 0, .int .u8 0, .int .u8 0, .int .u8 0, .int .u8 0, .int .u8 0, .int .u8 0, .int .u8 0, .int .u8 0, .int .u8 0, .int .u8 0, .int .u8 0, .int .u8 0, .int .u8 0, .int .u8 0, .int .u8 0, .int .u8 0, .int .u8 0, .int .u8 0, .int .u8 0, .int .u8 0, .int .u8 0, .int .u8 0, .int .u8 0, .int .u8 0, .int .u8 0] : Array Value) = z32 := by kernel_rfl
/-- A teller in memory. -/
abbrev TeC (b : Nat) (nd : Value) (k : Nat) : Obj := .cells #[.pointer (some ⟨b, 0, none⟩), nd, .map (some k)] 112
set_option maxRecDepth 100000 in
set_option maxHeartbeats 16000000 in
theorem changed_none {w : World} {t b k m1 m2 tr : Nat} {nd lg jr sn : Value} {rf : Int} (D : Nat → BitVec 8) (hD : D = Kc.digest (Kc.mB Kc.eM) 1) (hp : Kc.PathIn w) (ht : w.heap[t]? = some (TeC b nd k)) (hs : w.heap[b]? = some (.cells (Kc.vec 43 (stF D 0 m1 m2 tr rf lg jr sn)) 101)) :
    Calls Tryz.prog 65 #[.pointer (some ⟨t, 0, none⟩), .agg (Kc.vec 32 (Kc.byt D)), .slice none 0 0] w fun e w' => e = .returned (.agg (Kc.vec 32 (Kc.byt D))) ∧ Below w.heap.size w w' := by
  have HP : Hid (Kc.PathIn w ∧ 1 < w.heap.size ∧ D = Kc.digest (Kc.mB Kc.eM) 1 ∧ w.heap[t]? = some (TeC b nd k) ∧ w.heap[b]? = some (.cells (Kc.vec 43 (stF D 0 m1 m2 tr rf lg jr sn)) 101)) := ⟨hp, Kc.pathIn_pos hp, hD, ht, hs⟩
  have HS : Hid (∀ w, _) := fun w => sortP_small (w := w) 0 (Or.inl rfl) none 0 (.func (.func 103) #[] #[])
  clear hp hD ht hs
  go_enter Tryz.func65, Tryz.ntmps65
  go_wp2_with (first | (go_at_call 102; refine Calls.mono (HS.out _) ?_; rintro e w2 ⟨rfl, h⟩; obtain rfl := h.symm; clear h))
  rw [lit32]
  have hB0 : Below w.heap.size w ((w.alloc (.cells (Kc.vec 32 (Kc.byt D)) 33)).alloc (.cells z32 33)) := by go_grown
  have H0 : Hid (Below w.heap.size w ((w.alloc (.cells (Kc.vec 32 (Kc.byt D)) 33)).alloc (.cells z32 33)) ∧ ((w.alloc (.cells (Kc.vec 32 (Kc.byt D)) 33)).alloc (.cells z32 33)).heap[w.heap.size]? = some (.cells (Kc.vec 32 (Kc.byt D)) 33) ∧ ((w.alloc (.cells (Kc.vec 32 (Kc.byt D)) 33)).alloc (.cells z32 33)).heap[w.heap.size + 1]? = some (.cells z32 33)) := ⟨hB0, allocs_heap [.cells (Kc.vec 32 (Kc.byt D)) 33, .cells z32 33] w 0 _ rfl, allocs_heap [.cells (Kc.vec 32 (Kc.byt D)) 33, .cells z32 33] w 1 _ rfl⟩
  clear hB0
  generalize (w.alloc (.cells (Kc.vec 32 (Kc.byt D)) 33)).alloc (.cells z32 33) = W0 at H0 ⊢
  have hsz : w.heap.size + 1 < W0.heap.size := heap_lt H0.out.2.2
  refine wp_noP ?_
  refine wp_region_held_drew (S := (fun w' : World => w'.heap[t]? = some (TeC b nd k) ∧ w'.heap[b]? = some (.cells (Kc.vec 43 (stF D 0 m1 m2 tr rf lg jr sn)) 101) ∧ w'.heap[w.heap.size]? = some (.cells (Kc.vec 32 (Kc.byt D)) 33) ∧ Kc.PathIn w' ∧ 1 < w'.heap.size)) (by kernel_rfl) ⟨(H0.out.1.block _ (heap_lt HP.out.2.2.2.1)).trans HP.out.2.2.2.1, (H0.out.1.block _ (heap_lt HP.out.2.2.2.2)).trans HP.out.2.2.2.2, H0.out.2.1, (show Kc.PathIn W0 from HP.out.1.below H0.out.1 HP.out.2.1), by have := HP.out.2.1; have := H0.out.1.size; show 1 < W0.heap.size; omega⟩ (fun hHeld => ?_)
  have G0 : Hid (Below w.heap.size w W0.drew ∧ W0.drew.heap[w.heap.size + 1]? = some (.cells z32 33)) := ⟨⟨H0.out.1.os, H0.out.1.tape, H0.out.1.output, H0.out.1.size, H0.out.1.block⟩, H0.out.2.2⟩
  clear H0 hsz
  generalize W0.drew = U0 at G0 hHeld ⊢
  refine wpAnyH_take (i := 0) (v := .agg (Kc.vec 32 (Kc.byt D))) rfl (by kernel_rfl) (by kernel_rfl) (by kernel_rfl) (fun _ _ _ h => h) (Or.inl ⟨by rfl, fun w9 hSw => ?_⟩) hHeld ?_
  · exact Kc.run_load_exec 33 _ rfl _ rfl (load33 hSw.2.2.1)
  simp only [List.getElem_toArray, List.getElem_cons_succ, List.getElem_cons_zero, Act.put, List.setIfInBounds_toArray, List.set_cons_zero, List.set_cons_succ]
  refine wpAnyH_take (i := 1) (v := .pointer (some ⟨t, 0, none⟩)) rfl (by kernel_rfl) (by kernel_rfl) (by kernel_rfl) (fun _ _ _ h => h) (Or.inl ⟨by rfl, fun w9 hSw => ?_⟩) hHeld ?_
  · go_simp
  simp only [List.getElem_toArray, List.getElem_cons_succ, List.getElem_cons_zero, Act.put, List.setIfInBounds_toArray, List.set_cons_zero, List.set_cons_succ]
  refine wpAnyH_take (i := 2) (v := .pointer (some ⟨t, 0, none⟩)) rfl (by kernel_rfl) (by kernel_rfl) (by kernel_rfl) (fun _ _ _ h => h) (Or.inl ⟨by rfl, fun w9 hSw => ?_⟩) hHeld ?_
  · go_simp
  simp only [List.getElem_toArray, List.getElem_cons_succ, List.getElem_cons_zero, Act.put, List.setIfInBounds_toArray, List.set_cons_zero, List.set_cons_succ]
  refine wpAnyH_take (i := 3) (v := .pointer (some ⟨t, 0, none⟩)) rfl (by kernel_rfl) (by kernel_rfl) (by kernel_rfl) (fun _ _ _ h => h) (Or.inl ⟨by rfl, fun w9 hSw => ?_⟩) hHeld ?_
  · go_simp
  simp only [List.getElem_toArray, List.getElem_cons_succ, List.getElem_cons_zero, Act.put, List.setIfInBounds_toArray, List.set_cons_zero, List.set_cons_succ]
  refine wpAnyH_take (i := 4) (v := .pointer (some ⟨b, 0, none⟩)) rfl (by kernel_rfl) (by kernel_rfl) (by kernel_rfl) (fun _ _ _ h => h) (Or.inl ⟨by rfl, fun w9 hSw => ?_⟩) hHeld ?_
  · have k0 : w9.cell? ⟨t, 0, none⟩ = some (.pointer (some ⟨b, 0, none⟩)) := by rw [cell_of_block hSw.1]; rfl
    go_simp
  simp only [List.getElem_toArray, List.getElem_cons_succ, List.getElem_cons_zero, Act.put, List.setIfInBounds_toArray, List.set_cons_zero, List.set_cons_succ]
  refine wpAnyH_take (i := 5) (v := .pointer (some ⟨b, 0, none⟩)) rfl (by kernel_rfl) (by kernel_rfl) (by kernel_rfl) (fun _ _ _ h => h) (Or.inl ⟨by rfl, fun w9 hSw => ?_⟩) hHeld ?_
  · go_simp
  simp only [List.getElem_toArray, List.getElem_cons_succ, List.getElem_cons_zero, Act.put, List.setIfInBounds_toArray, List.set_cons_zero, List.set_cons_succ]
  refine wpAnyH_take (i := 6) (v := .pointer (some ⟨b, 32, none⟩)) rfl (by kernel_rfl) (by kernel_rfl) (by kernel_rfl) (fun _ _ _ h => h) (Or.inl ⟨by rfl, fun w9 hSw => ?_⟩) hHeld ?_
  · go_simp
  simp only [List.getElem_toArray, List.getElem_cons_succ, List.getElem_cons_zero, Act.put, List.setIfInBounds_toArray, List.set_cons_zero, List.set_cons_succ]
  refine wpAnyH_take (i := 7) (v := .nilFunc) rfl (by kernel_rfl) (by kernel_rfl) (by kernel_rfl) (fun _ _ _ h => h) (Or.inl ⟨by rfl, fun w9 hSw => ?_⟩) hHeld ?_
  · have k0 : w9.cell? ⟨b, 32, none⟩ = some .nilFunc := st_cell hSw.2.1 32 (by decide)
    go_simp
  simp only [List.getElem_toArray, List.getElem_cons_succ, List.getElem_cons_zero, Act.put, List.setIfInBounds_toArray, List.set_cons_zero, List.set_cons_succ]
  refine wpAnyH_ready (rs := [8]) (by kernel_rfl) (by simp) ?_
  refine AllReadyH.cons rfl (fun K hK => ?_) AllReadyH.nil
  have hC := open_any (w := U0) D HP.out.2.2.1 hHeld.2.2.2.1
  go_simp
  refine Calls.mono hC ?_
  clear hC
  rintro e U1 ⟨g, rfl, hg, hg1, hb1⟩
  have hx1 : (fun w' : World => w'.heap[t]? = some (TeC b nd k) ∧ w'.heap[b]? = some (.cells (Kc.vec 43 (stF D 0 m1 m2 tr rf lg jr sn)) 101) ∧ w'.heap[w.heap.size]? = some (.cells (Kc.vec 32 (Kc.byt D)) 33) ∧ Kc.PathIn w' ∧ 1 < w'.heap.size) U1 := ⟨(hb1.block _ (heap_lt hHeld.1)).trans hHeld.1, (hb1.block _ (heap_lt hHeld.2.1)).trans hHeld.2.1, (hb1.block _ (heap_lt hHeld.2.2.1)).trans hHeld.2.2.1, hHeld.2.2.2.1.below hb1 hHeld.2.2.2.2, Nat.lt_of_lt_of_le hHeld.2.2.2.2 hb1.size⟩
  have H1 : Hid (Below w.heap.size w U1 ∧ U1.heap[w.heap.size + 1]? = some (.cells z32 33) ∧ U1.heap[g]? = some (.cells #[.nilIface, .nilFunc] 78) ∧ (fun w' : World => w'.heap[t]? = some (TeC b nd k) ∧ w'.heap[b]? = some (.cells (Kc.vec 43 (stF D 0 m1 m2 tr rf lg jr sn)) 101) ∧ w'.heap[w.heap.size]? = some (.cells (Kc.vec 32 (Kc.byt D)) 33) ∧ Kc.PathIn w' ∧ 1 < w'.heap.size) U1) := ⟨G0.out.1.trans (hb1.mono G0.out.1.size), (hb1.block _ (heap_lt G0.out.2)).trans G0.out.2, hg1, hx1⟩
  clear hb1 G0 hg hg1
  refine hK.out _ _ hx1 (fun hHeld => ?_)
  clear hK K
  try simp only [List.getElem_toArray, List.getElem_cons_succ, List.getElem_cons_zero, Act.put, List.setIfInBounds_toArray, List.set_cons_zero, List.set_cons_succ]
  refine wpAnyH_take (i := 9) (v := .pointer (some ⟨g, 0, none⟩)) rfl (by kernel_rfl) (by kernel_rfl) (by kernel_rfl) (fun _ _ _ h => h) (Or.inl ⟨by rfl, fun w9 hSw => ?_⟩) hHeld ?_
  · go_simp
  simp only [List.getElem_toArray, List.getElem_cons_succ, List.getElem_cons_zero, Act.put, List.setIfInBounds_toArray, List.set_cons_zero, List.set_cons_succ]
  refine wpAnyH_done (by kernel_rfl) ?_ _
  simp only [noP]
  clear hHeld hx1
  go_wp2_with fail
  refine wp_loop_rounds 1 ?_
  rw [rounds_succ]
  go_wp2_with fail
  refine Calls.mono (troot_none D HP.out.2.2.1 H1.out.2.2.2.2.2.2.1 H1.out.2.2.1) ?_
  rintro e U2 ⟨rfl, hb2⟩
  have H2 : Hid (Below w.heap.size w U2 ∧ U2.heap[w.heap.size + 1]? = some (.cells z32 33)) := ⟨H1.out.1.trans (hb2.mono H1.out.1.size), (hb2.block _ (heap_lt H1.out.2.1)).trans H1.out.2.1⟩
  clear hb2 H1
  have hh : (U2.alloc (.cells (Kc.vec 32 (Kc.byt D)) 33)).heap[w.heap.size + 1]? = some (.cells z32 33) := (heap_alloc_old _ _ (heap_lt H2.out.2)).trans H2.out.2
  go_wp2_with (first | (refine wpList_store_row (o := { dst := none, op := Op.store 33 (Operand.tmp 10) (Operand.tmp 47), type := 0, pos := "root.go:81", after := _, guard := none }) rfl 33 _ _ rfl U2.heap.size (Kc.vec 32 (Kc.byt D)) rfl rfl 33 _ (heap_alloc_new _ _) (Kc.info29v _) (by simp) (Kc.one_byt _ _) ?_; rw [World.setRow_alloc_new]) | (go_at_call 104; refine Calls.mono (tell_none _) ?_; rintro e w3 ⟨rfl, h⟩; obtain rfl := h.symm; clear h) | (refine wpList_load_row rfl 33 _ rfl U2.heap.size rfl 33 _ (0, 0) _ (heap_alloc_new _ _) Tryz.underlying33 rfl (Kc.info29v _) ?_) | (refine wpList_store_row rfl 33 _ _ rfl (w.heap.size + 1) (Kc.vec 32 (Kc.byt D)) rfl rfl 33 _ hh (Kc.info29v _) (by simp) (Kc.one_byt _ _) ?_))
  refine bodyPost_ret (results_cell_row rfl _ _ _ _ _ _ _ rfl (setRow_heap _ _ _ _ _ _ hh) Tryz.underlying33 rfl (Kc.info29v _)) rfl ⟨rfl, ?_⟩
  exact ((Kc.Only.refl _ _).setRow _).below (H2.out.1.trans ((by go_grown : Below U2.heap.size U2 (U2.alloc (.cells (Kc.vec 32 (Kc.byt D)) 33))).mono H2.out.1.size)) (by omega)
end Go.Proofs.YtboeokmaepchgaaGreatDoor
/- state: accounts of a state without any. -/
namespace Go.Proofs.YtboeokmaepchgaaGreatDoor
open Go.RowKit Go.Maps Go.Joins Go.Shelf
set_option linter.unusedSimpArgs false
set_option linter.unusedVariables false
/-- A state without slots, and its teller, in memory. -/
structure StT (w : World) (t b k m1 m2 tr : Nat) (nd lg jr sn : Value) (rf : Int) (D : Nat → BitVec 8) (es : Array MapEntry) (c : Nat) : Prop where
  te : w.heap[t]? = some (TeC b nd k)
  st : w.heap[b]? = some (.cells (Kc.vec 43 (stF D 0 m1 m2 tr rf lg jr sn)) 101)
  m1 : w.heap[m1]? = some (.map es c)
  m2 : w.heap[m2]? = some (.map #[] 0)
theorem StT.below {w w' : World} {t b k m1 m2 tr : Nat} {nd lg jr sn : Value} {rf : Int} {D : Nat → BitVec 8} {es : Array MapEntry} {c : Nat} (h : StT w t b k m1 m2 tr nd lg jr sn rf D es c) (hb : Below w.heap.size w w') : StT w' t b k m1 m2 tr nd lg jr sn rf D es c :=
  ⟨(hb.block _ (heap_lt h.te)).trans h.te, (hb.block _ (heap_lt h.st)).trans h.st, (hb.block _ (heap_lt h.m1)).trans h.m1, (hb.block _ (heap_lt h.m2)).trans h.m2⟩
theorem StT.cells {w : World} {t b k m1 m2 tr : Nat} {nd lg jr sn : Value} {rf : Int} {D : Nat → BitVec 8} {es : Array MapEntry} {c : Nat} (h : StT w t b k m1 m2 tr nd lg jr sn rf D es c) :
    w.cell? ⟨t, 0, none⟩ = some (.pointer (some ⟨b, 0, none⟩)) ∧ w.cell? ⟨b, 34, none⟩ = some (.map (some m1)) := ⟨by rw [cell_of_block h.te]; rfl, st_cell h.st 34 (by decide)⟩
set_option maxRecDepth 100000 in
set_option maxHeartbeats 16000000 in
theorem accounts_none {w : World} {t b k m1 m2 tr : Nat} {nd lg jr sn : Value} {rf : Int} {D : Nat → BitVec 8} {c : Nat} (h : StT w t b k m1 m2 tr nd lg jr sn rf D #[] c) :
    Calls Tryz.prog 66 #[.pointer (some ⟨t, 0, none⟩)] w fun e w' => e = .returned (.slice none 0 0) ∧ Below w.heap.size w w' := by
  have H0 : Hid (StT w t b k m1 m2 tr nd lg jr sn rf D #[] c) := h
  obtain ⟨k0, k1⟩ := h.cells
  clear h
  go_enter Tryz.func66, Tryz.ntmps66
  go_wp2_with fail
  refine Calls.mono (slotCh_none H0.out.st H0.out.m2) ?_
  rintro e W1 ⟨hb1, g, rfl, hg, _⟩
  have H1 : Hid (StT W1 t b k m1 m2 tr nd lg jr sn rf D #[] c ∧ Below w.heap.size w W1) := ⟨H0.out.below hb1, hb1⟩
  obtain ⟨k2, k3⟩ := H1.out.1.cells
  clear hb1 hg k0 k1
  go_wp2_with fail
  refine Calls.mono (keys_any m1) ?_
  rintro e W2 ⟨rfl, rfl⟩
  have hb2 : Below W1.heap.size W1 (W1.alloc (.cells #[.map (some m1)] 92)) := by go_grown
  have HC : Hid _ := sorted_none (w := W1.alloc (.cells #[.map (some m1)] 92)) (X := W1.heap.size) (m1 := m1) (c := c) (.func (.func 108) #[] #[]) (by rw [cell_of_block (heap_alloc_new _ _)]; rfl) (H1.out.1.below hb2).m1
  have H2 : Hid (Below w.heap.size w (W1.alloc (.cells #[.map (some m1)] 92))) := H1.out.2.trans (hb2.mono H1.out.2.size)
  clear k2 k3 hb2
  generalize W1.alloc (.cells #[.map (some m1)] 92) = W2 at HC H2 ⊢
  go_wp2_with fail
  refine Calls.mono HC.out ?_
  rintro e W3 ⟨rfl, hb3⟩
  have H3 : Hid (Below w.heap.size w W3) := H2.out.trans (hb3.mono H2.out.size)
  clear hb3
  go_wp2_with fail
  refine wp_loop_rounds 1 ?_
  rw [rounds_succ]
  go_wp2_with fail
  go_ret
  exact ⟨rfl, H3.out⟩
end Go.Proofs.YtboeokmaepchgaaGreatDoor
