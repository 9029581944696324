/- state: Root, out of what accounts and changed do. -/
import Derived.Test.YtboeokmaepchgaaGreatDoorM32
namespace Go.Proofs.YtboeokmaepchgaaGreatDoor
open Go.RowKit Go.Maps Go.Joins Go.Shelf
set_option linter.unusedSimpArgs false
set_option linter.unusedVariables false
/-- What changed may touch: its teller and the map of what is known. -/
structure GrowT (t k : Nat) (w w' : World) : Prop where
  os : w'.os = w.os
  tape : w'.tape = w.tape
  output : w'.output = w.output
  size : w.heap.size ≤ w'.heap.size
  block : ∀ i, i < w.heap.size → i ≠ t → i ≠ k → w'.heap[i]? = w.heap[i]?
theorem GrowT.of_below {t k : Nat} {w w' : World} (h : Below w.heap.size w w') : GrowT t k w w' := ⟨h.os, h.tape, h.output, h.size, fun i hi _ _ => h.block i hi⟩
theorem GrowT.below {t k B : Nat} {u w w' : World} (h : GrowT t k w w') (hu : Below B u w) (hB : B ≤ w.heap.size) (ht : B ≤ t) (hk : B ≤ k) : Below B u w' :=
  ⟨h.os.trans hu.os, h.tape.trans hu.tape, h.output.trans hu.output, Nat.le_trans hu.size h.size, fun i hi => (h.block i (by omega) (by omega) (by omega)).trans (hu.block i hi)⟩
theorem info112 : (Tryz.prog.info? 112).map (·.size) = some 3 := by kernel_rfl
set_option maxRecDepth 100000 in
set_option maxHeartbeats 16000000 in
theorem sroot_gen {w : World} {b m1 m2 tr N : Nat} {lg jr sn : Value} {rf : Int} {D Q : Nat → BitVec 8} {es : Array MapEntry} {c : Nat} (V : World → Value → Prop) (hV : ∀ U U' v, V U v → Below U.heap.size U U' → V U' v)
    (hs : w.heap[b]? = some (.cells (Kc.vec 43 (stF D 0 m1 m2 tr rf lg jr sn)) 101)) (hm1 : w.heap[m1]? = some (.map es c)) (hm2 : w.heap[m2]? = some (.map #[] 0)) (hp : Kc.PathIn w)
    (h66 : ∀ t k U, w.heap.size ≤ t → w.heap.size ≤ k → t ≠ k → StT U t b k m1 m2 tr (.slice none 0 0) lg jr sn rf D es c → Kc.PathIn U → Calls Tryz.prog 66 #[.pointer (some ⟨t, 0, none⟩)] U fun e U' => ∃ v, e = .returned v ∧ V U' v ∧ Below U.heap.size U U')
    (h65 : ∀ t k U v, w.heap.size ≤ t → w.heap.size ≤ k → t ≠ k → StT U t b k m1 m2 tr (.slice none 0 0) lg jr sn rf D es c → U.heap[k]? = some (.map #[] 0) → Kc.PathIn U → V U v → Calls Tryz.prog 65 #[.pointer (some ⟨t, 0, none⟩), .agg (Kc.vec 32 (Kc.byt D)), v] U fun e U' => e = .returned (.agg (Kc.vec 32 (Kc.byt Q))) ∧ GrowT t k U U' ∧ ∃ p cap, U'.heap[t]? = some (TeC b (.slice p N cap) k)) :
    Calls Tryz.prog 23 #[.pointer (some ⟨b, 0, none⟩)] w fun e w' => Below w.heap.size w w' ∧ ∃ p cap, e = .returned (.tuple #[.agg (Kc.vec 32 (Kc.byt Q)), .slice p N cap]) := by
  have h110 : ∀ w : World, (Instr.makeMap 110 none).run Tryz.prog w = .ok (.map (some w.heap.size)) (w.alloc (.map #[] 0)) := fun w => run_makeMap (P := Tryz.prog) 110 w
  have HP : Hid (w.heap[b]? = some (.cells (Kc.vec 43 (stF D 0 m1 m2 tr rf lg jr sn)) 101) ∧ w.heap[m1]? = some (.map es c) ∧ w.heap[m2]? = some (.map #[] 0) ∧ Kc.PathIn w ∧ 1 < w.heap.size) := ⟨hs, hm1, hm2, hp, Kc.pathIn_pos hp⟩
  have H66 : Hid _ := h66
  have H65 : Hid _ := h65
  have HV : Hid _ := hV
  clear hs hm1 hm2 hp h66 h65 hV
  go_enter Tryz.func23, Tryz.ntmps23
  go_wp2_with (first | (go_at_call 57; refine Calls.mono (broken_ok ((heap_alloc_old _ _ (heap_lt HP.out.1)).trans HP.out.1)) ?_; rintro e w2 ⟨rfl, h⟩; obtain rfl := h.symm; clear h))
  rw [lit32]
  have hB0 : Below w.heap.size w (((w.alloc (.cells z32 33)).alloc (.map #[] 0)).alloc (TeC b (.slice none 0 0) (w.heap.size + 1))) := by go_grown
  have H0 : Hid (Below w.heap.size w (((w.alloc (.cells z32 33)).alloc (.map #[] 0)).alloc (TeC b (.slice none 0 0) (w.heap.size + 1))) ∧ (((w.alloc (.cells z32 33)).alloc (.map #[] 0)).alloc (TeC b (.slice none 0 0) (w.heap.size + 1))).heap[w.heap.size]? = some (.cells z32 33) ∧ (((w.alloc (.cells z32 33)).alloc (.map #[] 0)).alloc (TeC b (.slice none 0 0) (w.heap.size + 1))).heap[w.heap.size + 1]? = some (.map #[] 0) ∧ (((w.alloc (.cells z32 33)).alloc (.map #[] 0)).alloc (TeC b (.slice none 0 0) (w.heap.size + 1))).heap[w.heap.size + 1 + 1]? = some (TeC b (.slice none 0 0) (w.heap.size + 1))) := ⟨hB0, allocs_heap [.cells z32 33, .map #[] 0, TeC b (.slice none 0 0) (w.heap.size + 1)] w 0 _ rfl, allocs_heap [.cells z32 33, .map #[] 0, TeC b (.slice none 0 0) (w.heap.size + 1)] w 1 _ rfl, allocs_heap [.cells z32 33, .map #[] 0, TeC b (.slice none 0 0) (w.heap.size + 1)] w 2 _ rfl⟩
  clear hB0
  generalize ((w.alloc (.cells z32 33)).alloc (.map #[] 0)).alloc (TeC b (.slice none 0 0) (w.heap.size + 1)) = W0 at H0 ⊢
  obtain ⟨t, ht⟩ : ∃ t, t = w.heap.size + 1 + 1 := ⟨_, rfl⟩
  obtain ⟨k, hk⟩ : ∃ k, k = w.heap.size + 1 := ⟨_, rfl⟩
  rw [← ht, ← hk] at H0 ⊢
  have HT : Hid (w.heap.size < t ∧ w.heap.size < k ∧ t ≠ k) := ⟨by omega, by omega, by omega⟩
  have HKs : Hid (k < t) := by show k < t; omega
  clear ht hk
  refine wp_noP ?_
  refine wp_region_held_drew (S := (fun w' : World => w'.heap[b]? = some (.cells (Kc.vec 43 (stF D 0 m1 m2 tr rf lg jr sn)) 101))) (by kernel_rfl) ((H0.out.1.block _ (heap_lt HP.out.1)).trans HP.out.1) (fun hHeld => ?_)
  have G0 : Hid (Below w.heap.size w W0.drew ∧ W0.drew.heap[w.heap.size]? = some (.cells z32 33) ∧ W0.drew.heap[k]? = some (.map #[] 0) ∧ W0.drew.heap[t]? = some (TeC b (.slice none 0 0) k)) := ⟨⟨H0.out.1.os, H0.out.1.tape, H0.out.1.output, H0.out.1.size, H0.out.1.block⟩, H0.out.2⟩
  clear H0
  generalize W0.drew = U0 at G0 hHeld ⊢
  refine wpAnyH_take (i := 0) (v := .pointer (some ⟨t, 0, none⟩)) rfl (by kernel_rfl) (by kernel_rfl) (by kernel_rfl) (fun _ _ _ h => h) (Or.inl ⟨by rfl, fun w9 hSw => ?_⟩) hHeld ?_
  · go_simp
  simp only [List.getElem_toArray, List.getElem_cons_succ, List.getElem_cons_zero, Act.put, List.setIfInBounds_toArray, List.set_cons_zero, List.set_cons_succ]
  refine wpAnyH_take (i := 1) (v := .pointer (some ⟨b, 0, none⟩)) rfl (by kernel_rfl) (by kernel_rfl) (by kernel_rfl) (fun _ _ _ h => h) (Or.inl ⟨by rfl, fun w9 hSw => ?_⟩) hHeld ?_
  · go_simp
  simp only [List.getElem_toArray, List.getElem_cons_succ, List.getElem_cons_zero, Act.put, List.setIfInBounds_toArray, List.set_cons_zero, List.set_cons_succ]
  refine wpAnyH_take (i := 2) (v := .pointer (some ⟨b, 0, none⟩)) rfl (by kernel_rfl) (by kernel_rfl) (by kernel_rfl) (fun _ _ _ h => h) (Or.inl ⟨by rfl, fun w9 hSw => ?_⟩) hHeld ?_
  · go_simp
  simp only [List.getElem_toArray, List.getElem_cons_succ, List.getElem_cons_zero, Act.put, List.setIfInBounds_toArray, List.set_cons_zero, List.set_cons_succ]
  refine wpAnyH_take (i := 3) (v := .pointer (some ⟨b, 0, none⟩)) rfl (by kernel_rfl) (by kernel_rfl) (by kernel_rfl) (fun _ _ _ h => h) (Or.inl ⟨by rfl, fun w9 hSw => ?_⟩) hHeld ?_
  · go_simp
  simp only [List.getElem_toArray, List.getElem_cons_succ, List.getElem_cons_zero, Act.put, List.setIfInBounds_toArray, List.set_cons_zero, List.set_cons_succ]
  refine wpAnyH_take (i := 4) (v := .agg (Kc.vec 32 (Kc.byt D))) rfl (by kernel_rfl) (by kernel_rfl) (by kernel_rfl) (fun _ _ _ h => h) (Or.inl ⟨by rfl, fun w9 hSw => ?_⟩) hHeld ?_
  · exact Kc.run_load_exec 33 _ rfl _ rfl (load_root hSw)
  simp only [List.getElem_toArray, List.getElem_cons_succ, List.getElem_cons_zero, Act.put, List.setIfInBounds_toArray, List.set_cons_zero, List.set_cons_succ]
  refine wpAnyH_take (i := 5) (v := .pointer (some ⟨t, 0, none⟩)) rfl (by kernel_rfl) (by kernel_rfl) (by kernel_rfl) (fun _ _ _ h => h) (Or.inl ⟨by rfl, fun w9 hSw => ?_⟩) hHeld ?_
  · go_simp
  simp only [List.getElem_toArray, List.getElem_cons_succ, List.getElem_cons_zero, Act.put, List.setIfInBounds_toArray, List.set_cons_zero, List.set_cons_succ]
  refine wpAnyH_ready (rs := [6, 8]) (by kernel_rfl) (by simp) ?_
  refine AllReadyH.cons rfl (fun K hK => ?_) (AllReadyH.cons rfl (fun K hK => ?_) AllReadyH.nil)
  · have hC := H66.out t k U0 (Nat.le_of_lt HT.out.1) (Nat.le_of_lt HT.out.2.1) HT.out.2.2 ⟨G0.out.2.2.2, (G0.out.1.block _ (heap_lt HP.out.1)).trans HP.out.1, (G0.out.1.block _ (heap_lt HP.out.2.1)).trans HP.out.2.1, (G0.out.1.block _ (heap_lt HP.out.2.2.1)).trans HP.out.2.2.1⟩ (HP.out.2.2.2.1.below G0.out.1 HP.out.2.2.2.2)
    go_simp
    refine Calls.mono hC ?_
    clear hC
    rintro e U1 ⟨v, rfl, hv, hb⟩
    have G1 : Hid (Below w.heap.size w U1 ∧ U1.heap[w.heap.size]? = some (.cells z32 33) ∧ U1.heap[k]? = some (.map #[] 0) ∧ U1.heap[t]? = some (TeC b (.slice none 0 0) k)) := ⟨G0.out.1.trans (hb.mono G0.out.1.size), (hb.block _ (heap_lt G0.out.2.1)).trans G0.out.2.1, (hb.block _ (heap_lt G0.out.2.2.1)).trans G0.out.2.2.1, (hb.block _ (heap_lt G0.out.2.2.2)).trans G0.out.2.2.2⟩
    have HVv : Hid (V U1 v) := hv
    have hx : (fun w' : World => w'.heap[b]? = some (.cells (Kc.vec 43 (stF D 0 m1 m2 tr rf lg jr sn)) 101)) U1 := (hb.block _ (heap_lt hHeld)).trans hHeld
    clear hv hb
    refine hK.out _ _ hx (fun hHeld => ?_)
    clear hK K
    try simp only [List.getElem_toArray, List.getElem_cons_succ, List.getElem_cons_zero, Act.put, List.setIfInBounds_toArray, List.set_cons_zero, List.set_cons_succ]
    refine wpAnyH_ready (rs := [7, 8]) (by kernel_rfl) (by simp) ?_
    refine AllReadyH.cons rfl (fun K hK => ?_) (AllReadyH.cons rfl (fun K hK => ?_) AllReadyH.nil)
    · have hC := H65.out t k U1 v (Nat.le_of_lt HT.out.1) (Nat.le_of_lt HT.out.2.1) HT.out.2.2 ⟨G1.out.2.2.2, (G1.out.1.block _ (heap_lt HP.out.1)).trans HP.out.1, (G1.out.1.block _ (heap_lt HP.out.2.1)).trans HP.out.2.1, (G1.out.1.block _ (heap_lt HP.out.2.2.1)).trans HP.out.2.2.1⟩ G1.out.2.2.1 (HP.out.2.2.2.1.below G1.out.1 HP.out.2.2.2.2) HVv.out
      go_simp
      refine Calls.mono hC ?_
      clear hC
      rintro e U2 ⟨rfl, hgt, p, cap, htt⟩
      have hbt : b ≠ t ∧ b ≠ k := by have := heap_lt HP.out.1; have := HT.out; omega
      have hx : (fun w' : World => w'.heap[b]? = some (.cells (Kc.vec 43 (stF D 0 m1 m2 tr rf lg jr sn)) 101)) U2 := (hgt.block _ (heap_lt hHeld) hbt.1 hbt.2).trans hHeld
      have HX : Hid (Below w.heap.size w U2 ∧ U2.heap[w.heap.size]? = some (.cells z32 33) ∧ U2.heap[t]? = some (TeC b (.slice p N cap) k) ∧ U2.heap[b]? = some (.cells (Kc.vec 43 (stF D 0 m1 m2 tr rf lg jr sn)) 101)) := ⟨hgt.below G1.out.1 G1.out.1.size (Nat.le_of_lt HT.out.1) (Nat.le_of_lt HT.out.2.1), (hgt.block _ (heap_lt G1.out.2.1) (by have := HT.out; omega) (by have := HT.out; omega)).trans G1.out.2.1, htt, hx⟩
      clear hgt htt hbt
      refine hK.out _ _ hx (fun hHeld => ?_)
      clear hK K
      try simp only [List.getElem_toArray, List.getElem_cons_succ, List.getElem_cons_zero, Act.put, List.setIfInBounds_toArray, List.set_cons_zero, List.set_cons_succ]
      refine wpAnyH_ready (rs := [8]) (by kernel_rfl) (by simp) ?_
      refine AllReadyH.cons rfl (fun K hK => ?_) AllReadyH.nil
      go_simp
      rw [lit32]
      have hb : Below U2.heap.size U2 (U2.alloc (.cells z32 33)) := by go_grown
      have hx : (fun w' : World => w'.heap[b]? = some (.cells (Kc.vec 43 (stF D 0 m1 m2 tr rf lg jr sn)) 101)) (U2.alloc (.cells z32 33)) := (hb.block _ (heap_lt hHeld)).trans hHeld
      have HQ3 : Hid ((U2.alloc (.cells z32 33)).heap[U2.heap.size]? = some (.cells z32 33) ∧ w.heap.size < U2.heap.size ∧ U2.heap.size ≠ t ∧ U2.heap.size ≠ k) := ⟨heap_alloc_new _ _, by have := heap_lt HX.out.2.1; omega, by have := heap_lt HX.out.2.2.1; omega, by have := heap_lt HX.out.2.2.1; have := HKs.out; omega⟩
      have HX2 : Hid (Below w.heap.size w (U2.alloc (.cells z32 33)) ∧ (U2.alloc (.cells z32 33)).heap[w.heap.size]? = some (.cells z32 33) ∧ (U2.alloc (.cells z32 33)).heap[t]? = some (TeC b (.slice p N cap) k) ∧ (U2.alloc (.cells z32 33)).heap[b]? = some (.cells (Kc.vec 43 (stF D 0 m1 m2 tr rf lg jr sn)) 101)) := ⟨HX.out.1.trans (hb.mono HX.out.1.size), (hb.block _ (heap_lt HX.out.2.1)).trans HX.out.2.1, (hb.block _ (heap_lt HX.out.2.2.1)).trans HX.out.2.2.1, hx⟩
      obtain ⟨q, hq⟩ : ∃ q, q = U2.heap.size := ⟨_, rfl⟩
      rw [← hq] at HQ3 ⊢
      clear hb hq HX
      have HX := HX2
      clear HX2
      generalize U2.alloc (.cells z32 33) = U3 at HX HQ3 hx ⊢
      refine hK.out _ _ hx (fun hHeld => ?_)
      clear hK K
      try simp only [List.getElem_toArray, List.getElem_cons_succ, List.getElem_cons_zero, Act.put, List.setIfInBounds_toArray, List.set_cons_zero, List.set_cons_succ]
      refine wpAnyH_ready (rs := [9]) (by kernel_rfl) (by simp) ?_
      refine AllReadyH.cons rfl (fun K hK => ?_) AllReadyH.nil
      refine step_store_r (by rfl) 33 _ _ (by rfl) q (Kc.vec 32 (Kc.byt Q)) (by rfl) (by rfl) 33 _ HQ3.out.1 (Kc.info29v _) (by simp) (Kc.one_byt _ _) ?_
      have hqb : b ≠ q := by have := heap_lt HP.out.1; have := HQ3.out.2.1; omega
      have hx2 : (fun w' : World => w'.heap[b]? = some (.cells (Kc.vec 43 (stF D 0 m1 m2 tr rf lg jr sn)) 101)) (U3.setRow q (Kc.vec 32 (Kc.byt Q))) := (setRow_other _ _ _ _ hqb).trans hHeld
      have HY : Hid (Below w.heap.size w (U3.setRow q (Kc.vec 32 (Kc.byt Q))) ∧ (U3.setRow q (Kc.vec 32 (Kc.byt Q))).heap[w.heap.size]? = some (.cells z32 33) ∧ (U3.setRow q (Kc.vec 32 (Kc.byt Q))).heap[t]? = some (TeC b (.slice p N cap) k) ∧ (U3.setRow q (Kc.vec 32 (Kc.byt Q))).heap[b]? = some (.cells (Kc.vec 43 (stF D 0 m1 m2 tr rf lg jr sn)) 101) ∧ (U3.setRow q (Kc.vec 32 (Kc.byt Q))).heap[q]? = some (.cells (Kc.vec 32 (Kc.byt Q)) 33) ∧ q ≠ w.heap.size ∧ t ≠ w.heap.size) := ⟨((Kc.Only.refl _ _).setRow _).below HX.out.1 (by have := HQ3.out; omega), (setRow_other _ _ _ _ (by have := HQ3.out; omega)).trans HX.out.2.1, (setRow_other _ _ _ _ (by have := HQ3.out; omega)).trans HX.out.2.2.1, hx2, setRow_heap _ _ _ _ _ _ HQ3.out.1, by have := HQ3.out; omega, by have := HT.out; omega⟩
      clear HX hqb
      generalize U3.setRow q (Kc.vec 32 (Kc.byt Q)) = X at HY hx2 ⊢
      refine hK.out _ _ hx2 (fun hHeld => ?_)
      clear hK K
      try simp only [List.getElem_toArray, List.getElem_cons_succ, List.getElem_cons_zero, Act.put, List.setIfInBounds_toArray, List.set_cons_zero, List.set_cons_succ]
      refine wpAnyH_done (by kernel_rfl) ?_ _
      simp only [noP]
      clear hHeld hx2
      go_wp2_with (first | (go_at_call 57; refine Calls.mono (broken_ok HY.out.2.2.2.1) ?_; rintro e w2 ⟨rfl, h⟩; obtain rfl := h.symm; clear h))
      refine wp_noP ?_
      refine wp_region_held_drew (S := (fun w' : World => w'.heap[q]? = some (.cells (Kc.vec 32 (Kc.byt Q)) 33) ∧ w'.heap[t]? = some (TeC b (.slice p N cap) k))) (by kernel_rfl) ⟨HY.out.2.2.2.2.1, HY.out.2.2.1⟩ (fun hHeld => ?_)
      have GY : Hid (Below w.heap.size w X.drew ∧ X.drew.heap[w.heap.size]? = some (.cells z32 33) ∧ q ≠ w.heap.size ∧ t ≠ w.heap.size) := ⟨⟨HY.out.1.os, HY.out.1.tape, HY.out.1.output, HY.out.1.size, HY.out.1.block⟩, HY.out.2.1, HY.out.2.2.2.2.2⟩
      clear HY
      generalize X.drew = Y at GY hHeld ⊢
      refine wpAnyH_take (i := 0) (v := .agg (Kc.vec 32 (Kc.byt Q))) rfl (by kernel_rfl) (by kernel_rfl) (by kernel_rfl) (fun _ _ _ h => h) (Or.inl ⟨by rfl, fun w9 hSw => ?_⟩) hHeld ?_
      · exact Kc.run_load_exec 33 _ rfl _ rfl (load33 hSw.1)
      simp only [List.getElem_toArray, List.getElem_cons_succ, List.getElem_cons_zero, Act.put, List.setIfInBounds_toArray, List.set_cons_zero, List.set_cons_succ]
      refine wpAnyH_take (i := 1) (v := .pointer (some ⟨t, 0, none⟩)) rfl (by kernel_rfl) (by kernel_rfl) (by kernel_rfl) (fun _ _ _ h => h) (Or.inl ⟨by rfl, fun w9 hSw => ?_⟩) hHeld ?_
      · go_simp
      simp only [List.getElem_toArray, List.getElem_cons_succ, List.getElem_cons_zero, Act.put, List.setIfInBounds_toArray, List.set_cons_zero, List.set_cons_succ]
      refine wpAnyH_take (i := 2) (v := .pointer (some ⟨t, 0, none⟩)) rfl (by kernel_rfl) (by kernel_rfl) (by kernel_rfl) (fun _ _ _ h => h) (Or.inl ⟨by rfl, fun w9 hSw => ?_⟩) hHeld ?_
      · go_simp
      simp only [List.getElem_toArray, List.getElem_cons_succ, List.getElem_cons_zero, Act.put, List.setIfInBounds_toArray, List.set_cons_zero, List.set_cons_succ]
      refine wpAnyH_take (i := 3) (v := .pointer (some ⟨t, 1, none⟩)) rfl (by kernel_rfl) (by kernel_rfl) (by kernel_rfl) (fun _ _ _ h => h) (Or.inl ⟨by rfl, fun w9 hSw => ?_⟩) hHeld ?_
      · go_simp
      simp only [List.getElem_toArray, List.getElem_cons_succ, List.getElem_cons_zero, Act.put, List.setIfInBounds_toArray, List.set_cons_zero, List.set_cons_succ]
      refine wpAnyH_take (i := 4) (v := .slice p N cap) rfl (by kernel_rfl) (by kernel_rfl) (by kernel_rfl) (fun _ _ _ h => h) (Or.inl ⟨by rfl, fun w9 hSw => ?_⟩) hHeld ?_
      · have k0 : w9.cell? ⟨t, 1, none⟩ = some (.slice p N cap) := by rw [cell_of_block hSw.2]; rfl
        go_simp
      simp only [List.getElem_toArray, List.getElem_cons_succ, List.getElem_cons_zero, Act.put, List.setIfInBounds_toArray, List.set_cons_zero, List.set_cons_succ]
      refine wpAnyH_ready (rs := [5]) (by kernel_rfl) (by simp) ?_
      refine AllReadyH.cons rfl (fun K hK => ?_) AllReadyH.nil
      refine step_store_r (by rfl) 33 _ _ (by rfl) w.heap.size (Kc.vec 32 (Kc.byt Q)) (by rfl) (by rfl) 33 _ GY.out.2.1 (Kc.info29v _) (by simp) (Kc.one_byt _ _) ?_
      have hx3 : (fun w' : World => w'.heap[q]? = some (.cells (Kc.vec 32 (Kc.byt Q)) 33) ∧ w'.heap[t]? = some (TeC b (.slice p N cap) k)) (Y.setRow w.heap.size (Kc.vec 32 (Kc.byt Q))) := ⟨(setRow_other _ _ _ _ GY.out.2.2.1).trans hHeld.1, (setRow_other _ _ _ _ GY.out.2.2.2).trans hHeld.2⟩
      refine hK.out _ _ hx3 (fun hHeld => ?_)
      clear hK K
      try simp only [List.getElem_toArray, List.getElem_cons_succ, List.getElem_cons_zero, Act.put, List.setIfInBounds_toArray, List.set_cons_zero, List.set_cons_succ]
      refine wpAnyH_take (i := 6) (v := .slice p N cap) rfl (by kernel_rfl) (by kernel_rfl) (by kernel_rfl) (fun _ _ _ h => h) (Or.inl ⟨by rfl, fun w9 hSw => ?_⟩) hHeld ?_
      · go_simp
      simp only [List.getElem_toArray, List.getElem_cons_succ, List.getElem_cons_zero, Act.put, List.setIfInBounds_toArray, List.set_cons_zero, List.set_cons_succ]
      refine wpAnyH_done (by kernel_rfl) ?_ _
      simp only [noP]
      go_wp2_with fail
      refine bodyPost_ret (results_cell_row2 rfl _ _ _ _ _ rfl rfl (load33 (setRow_heap _ _ _ _ _ _ GY.out.2.1))) rfl ⟨?_, p, cap, rfl⟩
      exact ((Kc.Only.refl _ _).setRow _).below GY.out.1 (by omega)
    · go_simp
      rw [lit32]
      have hb : Below U1.heap.size U1 (U1.alloc (.cells z32 33)) := by go_grown
      have G1b : Hid (Below w.heap.size w (U1.alloc (.cells z32 33)) ∧ (U1.alloc (.cells z32 33)).heap[w.heap.size]? = some (.cells z32 33) ∧ (U1.alloc (.cells z32 33)).heap[k]? = some (.map #[] 0) ∧ (U1.alloc (.cells z32 33)).heap[t]? = some (TeC b (.slice none 0 0) k)) := ⟨G1.out.1.trans (hb.mono G1.out.1.size), (hb.block _ (heap_lt G1.out.2.1)).trans G1.out.2.1, (hb.block _ (heap_lt G1.out.2.2.1)).trans G1.out.2.2.1, (hb.block _ (heap_lt G1.out.2.2.2)).trans G1.out.2.2.2⟩
      have hx : (fun w' : World => w'.heap[b]? = some (.cells (Kc.vec 43 (stF D 0 m1 m2 tr rf lg jr sn)) 101)) (U1.alloc (.cells z32 33)) := (hb.block _ (heap_lt hHeld)).trans hHeld
      have HQ : Hid ((U1.alloc (.cells z32 33)).heap[U1.heap.size]? = some (.cells z32 33) ∧ w.heap.size < U1.heap.size ∧ U1.heap.size ≠ t ∧ U1.heap.size ≠ k) := ⟨heap_alloc_new _ _, by have := heap_lt G1.out.2.1; omega, by have := heap_lt G1.out.2.2.2; omega, by have := heap_lt G1.out.2.2.1; omega⟩
      have HVv2 : Hid (V (U1.alloc (.cells z32 33)) v) := HV.out _ _ _ HVv.out hb
      clear HVv
      obtain ⟨q, hq⟩ : ∃ q, q = U1.heap.size := ⟨_, rfl⟩
      rw [← hq] at HQ ⊢
      clear hb hq
      generalize U1.alloc (.cells z32 33) = U1b at G1b HQ hx HVv2 ⊢
      refine hK.out _ _ hx (fun hHeld => ?_)
      clear hK K
      try simp only [List.getElem_toArray, List.getElem_cons_succ, List.getElem_cons_zero, Act.put, List.setIfInBounds_toArray, List.set_cons_zero, List.set_cons_succ]
      refine wpAnyH_ready (rs := [7]) (by kernel_rfl) (by simp) ?_
      refine AllReadyH.cons rfl (fun K hK => ?_) AllReadyH.nil
      have hC := H65.out t k U1b v (Nat.le_of_lt HT.out.1) (Nat.le_of_lt HT.out.2.1) HT.out.2.2 ⟨G1b.out.2.2.2, (G1b.out.1.block _ (heap_lt HP.out.1)).trans HP.out.1, (G1b.out.1.block _ (heap_lt HP.out.2.1)).trans HP.out.2.1, (G1b.out.1.block _ (heap_lt HP.out.2.2.1)).trans HP.out.2.2.1⟩ G1b.out.2.2.1 (HP.out.2.2.2.1.below G1b.out.1 HP.out.2.2.2.2) HVv2.out
      go_simp
      refine Calls.mono hC ?_
      clear hC
      rintro e U2 ⟨rfl, hgt, p, cap, htt⟩
      have hbt : b ≠ t ∧ b ≠ k := by have := heap_lt HP.out.1; have := HT.out; omega
      have hx : (fun w' : World => w'.heap[b]? = some (.cells (Kc.vec 43 (stF D 0 m1 m2 tr rf lg jr sn)) 101)) U2 := (hgt.block _ (heap_lt hHeld) hbt.1 hbt.2).trans hHeld
      have HX : Hid (Below w.heap.size w U2 ∧ U2.heap[w.heap.size]? = some (.cells z32 33) ∧ U2.heap[t]? = some (TeC b (.slice p N cap) k) ∧ U2.heap[b]? = some (.cells (Kc.vec 43 (stF D 0 m1 m2 tr rf lg jr sn)) 101)) := ⟨hgt.below G1b.out.1 G1b.out.1.size (Nat.le_of_lt HT.out.1) (Nat.le_of_lt HT.out.2.1), (hgt.block _ (heap_lt G1b.out.2.1) (by have := HT.out; omega) (by have := HT.out; omega)).trans G1b.out.2.1, htt, hx⟩
      have HQ3 : Hid (U2.heap[q]? = some (.cells z32 33) ∧ w.heap.size < q ∧ q ≠ t ∧ q ≠ k) := ⟨(hgt.block _ (heap_lt HQ.out.1) HQ.out.2.2.1 HQ.out.2.2.2).trans HQ.out.1, HQ.out.2⟩
      clear hgt htt hbt
      refine hK.out _ _ hx (fun hHeld => ?_)
      clear hK K
      try simp only [List.getElem_toArray, List.getElem_cons_succ, List.getElem_cons_zero, Act.put, List.setIfInBounds_toArray, List.set_cons_zero, List.set_cons_succ]
      refine wpAnyH_ready (rs := [9]) (by kernel_rfl) (by simp) ?_
      refine AllReadyH.cons rfl (fun K hK => ?_) AllReadyH.nil
      refine step_store_r (by rfl) 33 _ _ (by rfl) q (Kc.vec 32 (Kc.byt Q)) (by rfl) (by rfl) 33 _ HQ3.out.1 (Kc.info29v _) (by simp) (Kc.one_byt _ _) ?_
      have hqb : b ≠ q := by have := heap_lt HP.out.1; have := HQ3.out.2.1; omega
      have hx2 : (fun w' : World => w'.heap[b]? = some (.cells (Kc.vec 43 (stF D 0 m1 m2 tr rf lg jr sn)) 101)) (U2.setRow q (Kc.vec 32 (Kc.byt Q))) := (setRow_other _ _ _ _ hqb).trans hHeld
      have HY : Hid (Below w.heap.size w (U2.setRow q (Kc.vec 32 (Kc.byt Q))) ∧ (U2.setRow q (Kc.vec 32 (Kc.byt Q))).heap[w.heap.size]? = some (.cells z32 33) ∧ (U2.setRow q (Kc.vec 32 (Kc.byt Q))).heap[t]? = some (TeC b (.slice p N cap) k) ∧ (U2.setRow q (Kc.vec 32 (Kc.byt Q))).heap[b]? = some (.cells (Kc.vec 43 (stF D 0 m1 m2 tr rf lg jr sn)) 101) ∧ (U2.setRow q (Kc.vec 32 (Kc.byt Q))).heap[q]? = some (.cells (Kc.vec 32 (Kc.byt Q)) 33) ∧ q ≠ w.heap.size ∧ t ≠ w.heap.size) := ⟨((Kc.Only.refl _ _).setRow _).below HX.out.1 (by have := HQ3.out; omega), (setRow_other _ _ _ _ (by have := HQ3.out; omega)).trans HX.out.2.1, (setRow_other _ _ _ _ (by have := HQ3.out; omega)).trans HX.out.2.2.1, hx2, setRow_heap _ _ _ _ _ _ HQ3.out.1, by have := HQ3.out; omega, by have := HT.out; omega⟩
      clear HX hqb
      generalize U2.setRow q (Kc.vec 32 (Kc.byt Q)) = X at HY hx2 ⊢
      refine hK.out _ _ hx2 (fun hHeld => ?_)
      clear hK K
      try simp only [List.getElem_toArray, List.getElem_cons_succ, List.getElem_cons_zero, Act.put, List.setIfInBounds_toArray, List.set_cons_zero, List.set_cons_succ]
      refine wpAnyH_done (by kernel_rfl) ?_ _
      simp only [noP]
      clear hHeld hx2
      go_wp2_with (first | (go_at_call 57; refine Calls.mono (broken_ok HY.out.2.2.2.1) ?_; rintro e w2 ⟨rfl, h⟩; obtain rfl := h.symm; clear h))
      refine wp_noP ?_
      refine wp_region_held_drew (S := (fun w' : World => w'.heap[q]? = some (.cells (Kc.vec 32 (Kc.byt Q)) 33) ∧ w'.heap[t]? = some (TeC b (.slice p N cap) k))) (by kernel_rfl) ⟨HY.out.2.2.2.2.1, HY.out.2.2.1⟩ (fun hHeld => ?_)
      have GY : Hid (Below w.heap.size w X.drew ∧ X.drew.heap[w.heap.size]? = some (.cells z32 33) ∧ q ≠ w.heap.size ∧ t ≠ w.heap.size) := ⟨⟨HY.out.1.os, HY.out.1.tape, HY.out.1.output, HY.out.1.size, HY.out.1.block⟩, HY.out.2.1, HY.out.2.2.2.2.2⟩
      clear HY
      generalize X.drew = Y at GY hHeld ⊢
      refine wpAnyH_take (i := 0) (v := .agg (Kc.vec 32 (Kc.byt Q))) rfl (by kernel_rfl) (by kernel_rfl) (by kernel_rfl) (fun _ _ _ h => h) (Or.inl ⟨by rfl, fun w9 hSw => ?_⟩) hHeld ?_
      · exact Kc.run_load_exec 33 _ rfl _ rfl (load33 hSw.1)
      simp only [List.getElem_toArray, List.getElem_cons_succ, List.getElem_cons_zero, Act.put, List.setIfInBounds_toArray, List.set_cons_zero, List.set_cons_succ]
      refine wpAnyH_take (i := 1) (v := .pointer (some ⟨t, 0, none⟩)) rfl (by kernel_rfl) (by kernel_rfl) (by kernel_rfl) (fun _ _ _ h => h) (Or.inl ⟨by rfl, fun w9 hSw => ?_⟩) hHeld ?_
      · go_simp
      simp only [List.getElem_toArray, List.getElem_cons_succ, List.getElem_cons_zero, Act.put, List.setIfInBounds_toArray, List.set_cons_zero, List.set_cons_succ]
      refine wpAnyH_take (i := 2) (v := .pointer (some ⟨t, 0, none⟩)) rfl (by kernel_rfl) (by kernel_rfl) (by kernel_rfl) (fun _ _ _ h => h) (Or.inl ⟨by rfl, fun w9 hSw => ?_⟩) hHeld ?_
      · go_simp
      simp only [List.getElem_toArray, List.getElem_cons_succ, List.getElem_cons_zero, Act.put, List.setIfInBounds_toArray, List.set_cons_zero, List.set_cons_succ]
      refine wpAnyH_take (i := 3) (v := .pointer (some ⟨t, 1, none⟩)) rfl (by kernel_rfl) (by kernel_rfl) (by kernel_rfl) (fun _ _ _ h => h) (Or.inl ⟨by rfl, fun w9 hSw => ?_⟩) hHeld ?_
      · go_simp
      simp only [List.getElem_toArray, List.getElem_cons_succ, List.getElem_cons_zero, Act.put, List.setIfInBounds_toArray, List.set_cons_zero, List.set_cons_succ]
      refine wpAnyH_take (i := 4) (v := .slice p N cap) rfl (by kernel_rfl) (by kernel_rfl) (by kernel_rfl) (fun _ _ _ h => h) (Or.inl ⟨by rfl, fun w9 hSw => ?_⟩) hHeld ?_
      · have k0 : w9.cell? ⟨t, 1, none⟩ = some (.slice p N cap) := by rw [cell_of_block hSw.2]; rfl
        go_simp
      simp only [List.getElem_toArray, List.getElem_cons_succ, List.getElem_cons_zero, Act.put, List.setIfInBounds_toArray, List.set_cons_zero, List.set_cons_succ]
      refine wpAnyH_ready (rs := [5]) (by kernel_rfl) (by simp) ?_
      refine AllReadyH.cons rfl (fun K hK => ?_) AllReadyH.nil
      refine step_store_r (by rfl) 33 _ _ (by rfl) w.heap.size (Kc.vec 32 (Kc.byt Q)) (by rfl) (by rfl) 33 _ GY.out.2.1 (Kc.info29v _) (by simp) (Kc.one_byt _ _) ?_
      have hx3 : (fun w' : World => w'.heap[q]? = some (.cells (Kc.vec 32 (Kc.byt Q)) 33) ∧ w'.heap[t]? = some (TeC b (.slice p N cap) k)) (Y.setRow w.heap.size (Kc.vec 32 (Kc.byt Q))) := ⟨(setRow_other _ _ _ _ GY.out.2.2.1).trans hHeld.1, (setRow_other _ _ _ _ GY.out.2.2.2).trans hHeld.2⟩
      refine hK.out _ _ hx3 (fun hHeld => ?_)
      clear hK K
      try simp only [List.getElem_toArray, List.getElem_cons_succ, List.getElem_cons_zero, Act.put, List.setIfInBounds_toArray, List.set_cons_zero, List.set_cons_succ]
      refine wpAnyH_take (i := 6) (v := .slice p N cap) rfl (by kernel_rfl) (by kernel_rfl) (by kernel_rfl) (fun _ _ _ h => h) (Or.inl ⟨by rfl, fun w9 hSw => ?_⟩) hHeld ?_
      · go_simp
      simp only [List.getElem_toArray, List.getElem_cons_succ, List.getElem_cons_zero, Act.put, List.setIfInBounds_toArray, List.set_cons_zero, List.set_cons_succ]
      refine wpAnyH_done (by kernel_rfl) ?_ _
      simp only [noP]
      go_wp2_with fail
      refine bodyPost_ret (results_cell_row2 rfl _ _ _ _ _ rfl rfl (load33 (setRow_heap _ _ _ _ _ _ GY.out.2.1))) rfl ⟨?_, p, cap, rfl⟩
      exact ((Kc.Only.refl _ _).setRow _).below GY.out.1 (by omega)
  · go_simp
    rw [lit32]
    have hb : Below U0.heap.size U0 (U0.alloc (.cells z32 33)) := by go_grown
    have G0b : Hid (Below w.heap.size w (U0.alloc (.cells z32 33)) ∧ (U0.alloc (.cells z32 33)).heap[w.heap.size]? = some (.cells z32 33) ∧ (U0.alloc (.cells z32 33)).heap[k]? = some (.map #[] 0) ∧ (U0.alloc (.cells z32 33)).heap[t]? = some (TeC b (.slice none 0 0) k)) := ⟨G0.out.1.trans (hb.mono G0.out.1.size), (hb.block _ (heap_lt G0.out.2.1)).trans G0.out.2.1, (hb.block _ (heap_lt G0.out.2.2.1)).trans G0.out.2.2.1, (hb.block _ (heap_lt G0.out.2.2.2)).trans G0.out.2.2.2⟩
    have hx : (fun w' : World => w'.heap[b]? = some (.cells (Kc.vec 43 (stF D 0 m1 m2 tr rf lg jr sn)) 101)) (U0.alloc (.cells z32 33)) := (hb.block _ (heap_lt hHeld)).trans hHeld
    have HQ : Hid ((U0.alloc (.cells z32 33)).heap[U0.heap.size]? = some (.cells z32 33) ∧ w.heap.size < U0.heap.size ∧ U0.heap.size ≠ t ∧ U0.heap.size ≠ k) := ⟨heap_alloc_new _ _, by have := heap_lt G0.out.2.1; omega, by have := heap_lt G0.out.2.2.2; omega, by have := heap_lt G0.out.2.2.1; omega⟩
    obtain ⟨q, hq⟩ : ∃ q, q = U0.heap.size := ⟨_, rfl⟩
    rw [← hq] at HQ ⊢
    clear hb hq
    generalize U0.alloc (.cells z32 33) = U0b at G0b HQ hx ⊢
    refine hK.out _ _ hx (fun hHeld => ?_)
    clear hK K
    try simp only [List.getElem_toArray, List.getElem_cons_succ, List.getElem_cons_zero, Act.put, List.setIfInBounds_toArray, List.set_cons_zero, List.set_cons_succ]
    refine wpAnyH_ready (rs := [6]) (by kernel_rfl) (by simp) ?_
    refine AllReadyH.cons rfl (fun K hK => ?_) AllReadyH.nil
    have hC := H66.out t k U0b (Nat.le_of_lt HT.out.1) (Nat.le_of_lt HT.out.2.1) HT.out.2.2 ⟨G0b.out.2.2.2, (G0b.out.1.block _ (heap_lt HP.out.1)).trans HP.out.1, (G0b.out.1.block _ (heap_lt HP.out.2.1)).trans HP.out.2.1, (G0b.out.1.block _ (heap_lt HP.out.2.2.1)).trans HP.out.2.2.1⟩ (HP.out.2.2.2.1.below G0b.out.1 HP.out.2.2.2.2)
    go_simp
    refine Calls.mono hC ?_
    clear hC
    rintro e U1 ⟨v, rfl, hv, hb⟩
    have G1 : Hid (Below w.heap.size w U1 ∧ U1.heap[w.heap.size]? = some (.cells z32 33) ∧ U1.heap[k]? = some (.map #[] 0) ∧ U1.heap[t]? = some (TeC b (.slice none 0 0) k)) := ⟨G0b.out.1.trans (hb.mono G0b.out.1.size), (hb.block _ (heap_lt G0b.out.2.1)).trans G0b.out.2.1, (hb.block _ (heap_lt G0b.out.2.2.1)).trans G0b.out.2.2.1, (hb.block _ (heap_lt G0b.out.2.2.2)).trans G0b.out.2.2.2⟩
    have HVv : Hid (V U1 v) := hv
    have hx : (fun w' : World => w'.heap[b]? = some (.cells (Kc.vec 43 (stF D 0 m1 m2 tr rf lg jr sn)) 101)) U1 := (hb.block _ (heap_lt hHeld)).trans hHeld
    have HQ2 : Hid (U1.heap[q]? = some (.cells z32 33) ∧ w.heap.size < q ∧ q ≠ t ∧ q ≠ k) := ⟨(hb.block _ (heap_lt HQ.out.1)).trans HQ.out.1, HQ.out.2⟩
    clear HQ
    clear hv hb
    refine hK.out _ _ hx (fun hHeld => ?_)
    clear hK K
    try simp only [List.getElem_toArray, List.getElem_cons_succ, List.getElem_cons_zero, Act.put, List.setIfInBounds_toArray, List.set_cons_zero, List.set_cons_succ]
    refine wpAnyH_ready (rs := [7]) (by kernel_rfl) (by simp) ?_
    refine AllReadyH.cons rfl (fun K hK => ?_) AllReadyH.nil
    have hC := H65.out t k U1 v (Nat.le_of_lt HT.out.1) (Nat.le_of_lt HT.out.2.1) HT.out.2.2 ⟨G1.out.2.2.2, (G1.out.1.block _ (heap_lt HP.out.1)).trans HP.out.1, (G1.out.1.block _ (heap_lt HP.out.2.1)).trans HP.out.2.1, (G1.out.1.block _ (heap_lt HP.out.2.2.1)).trans HP.out.2.2.1⟩ G1.out.2.2.1 (HP.out.2.2.2.1.below G1.out.1 HP.out.2.2.2.2) HVv.out
    go_simp
    refine Calls.mono hC ?_
    clear hC
    rintro e U2 ⟨rfl, hgt, p, cap, htt⟩
    have hbt : b ≠ t ∧ b ≠ k := by have := heap_lt HP.out.1; have := HT.out; omega
    have hx : (fun w' : World => w'.heap[b]? = some (.cells (Kc.vec 43 (stF D 0 m1 m2 tr rf lg jr sn)) 101)) U2 := (hgt.block _ (heap_lt hHeld) hbt.1 hbt.2).trans hHeld
    have HX : Hid (Below w.heap.size w U2 ∧ U2.heap[w.heap.size]? = some (.cells z32 33) ∧ U2.heap[t]? = some (TeC b (.slice p N cap) k) ∧ U2.heap[b]? = some (.cells (Kc.vec 43 (stF D 0 m1 m2 tr rf lg jr sn)) 101)) := ⟨hgt.below G1.out.1 G1.out.1.size (Nat.le_of_lt HT.out.1) (Nat.le_of_lt HT.out.2.1), (hgt.block _ (heap_lt G1.out.2.1) (by have := HT.out; omega) (by have := HT.out; omega)).trans G1.out.2.1, htt, hx⟩
    have HQ3 : Hid (U2.heap[q]? = some (.cells z32 33) ∧ w.heap.size < q ∧ q ≠ t ∧ q ≠ k) := ⟨(hgt.block _ (heap_lt HQ2.out.1) HQ2.out.2.2.1 HQ2.out.2.2.2).trans HQ2.out.1, HQ2.out.2⟩
    clear hgt htt hbt
    refine hK.out _ _ hx (fun hHeld => ?_)
    clear hK K
    try simp only [List.getElem_toArray, List.getElem_cons_succ, List.getElem_cons_zero, Act.put, List.setIfInBounds_toArray, List.set_cons_zero, List.set_cons_succ]
    refine wpAnyH_ready (rs := [9]) (by kernel_rfl) (by simp) ?_
    refine AllReadyH.cons rfl (fun K hK => ?_) AllReadyH.nil
    refine step_store_r (by rfl) 33 _ _ (by rfl) q (Kc.vec 32 (Kc.byt Q)) (by rfl) (by rfl) 33 _ HQ3.out.1 (Kc.info29v _) (by simp) (Kc.one_byt _ _) ?_
    have hqb : b ≠ q := by have := heap_lt HP.out.1; have := HQ3.out.2.1; omega
    have hx2 : (fun w' : World => w'.heap[b]? = some (.cells (Kc.vec 43 (stF D 0 m1 m2 tr rf lg jr sn)) 101)) (U2.setRow q (Kc.vec 32 (Kc.byt Q))) := (setRow_other _ _ _ _ hqb).trans hHeld
    have HY : Hid (Below w.heap.size w (U2.setRow q (Kc.vec 32 (Kc.byt Q))) ∧ (U2.setRow q (Kc.vec 32 (Kc.byt Q))).heap[w.heap.size]? = some (.cells z32 33) ∧ (U2.setRow q (Kc.vec 32 (Kc.byt Q))).heap[t]? = some (TeC b (.slice p N cap) k) ∧ (U2.setRow q (Kc.vec 32 (Kc.byt Q))).heap[b]? = some (.cells (Kc.vec 43 (stF D 0 m1 m2 tr rf lg jr sn)) 101) ∧ (U2.setRow q (Kc.vec 32 (Kc.byt Q))).heap[q]? = some (.cells (Kc.vec 32 (Kc.byt Q)) 33) ∧ q ≠ w.heap.size ∧ t ≠ w.heap.size) := ⟨((Kc.Only.refl _ _).setRow _).below HX.out.1 (by have := HQ3.out; omega), (setRow_other _ _ _ _ (by have := HQ3.out; omega)).trans HX.out.2.1, (setRow_other _ _ _ _ (by have := HQ3.out; omega)).trans HX.out.2.2.1, hx2, setRow_heap _ _ _ _ _ _ HQ3.out.1, by have := HQ3.out; omega, by have := HT.out; omega⟩
    clear HX hqb
    generalize U2.setRow q (Kc.vec 32 (Kc.byt Q)) = X at HY hx2 ⊢
    refine hK.out _ _ hx2 (fun hHeld => ?_)
    clear hK K
    try simp only [List.getElem_toArray, List.getElem_cons_succ, List.getElem_cons_zero, Act.put, List.setIfInBounds_toArray, List.set_cons_zero, List.set_cons_succ]
    refine wpAnyH_done (by kernel_rfl) ?_ _
    simp only [noP]
    clear hHeld hx2
    go_wp2_with (first | (go_at_call 57; refine Calls.mono (broken_ok HY.out.2.2.2.1) ?_; rintro e w2 ⟨rfl, h⟩; obtain rfl := h.symm; clear h))
    refine wp_noP ?_
    refine wp_region_held_drew (S := (fun w' : World => w'.heap[q]? = some (.cells (Kc.vec 32 (Kc.byt Q)) 33) ∧ w'.heap[t]? = some (TeC b (.slice p N cap) k))) (by kernel_rfl) ⟨HY.out.2.2.2.2.1, HY.out.2.2.1⟩ (fun hHeld => ?_)
    have GY : Hid (Below w.heap.size w X.drew ∧ X.drew.heap[w.heap.size]? = some (.cells z32 33) ∧ q ≠ w.heap.size ∧ t ≠ w.heap.size) := ⟨⟨HY.out.1.os, HY.out.1.tape, HY.out.1.output, HY.out.1.size, HY.out.1.block⟩, HY.out.2.1, HY.out.2.2.2.2.2⟩
    clear HY
    generalize X.drew = Y at GY hHeld ⊢
    refine wpAnyH_take (i := 0) (v := .agg (Kc.vec 32 (Kc.byt Q))) rfl (by kernel_rfl) (by kernel_rfl) (by kernel_rfl) (fun _ _ _ h => h) (Or.inl ⟨by rfl, fun w9 hSw => ?_⟩) hHeld ?_
    · exact Kc.run_load_exec 33 _ rfl _ rfl (load33 hSw.1)
    simp only [List.getElem_toArray, List.getElem_cons_succ, List.getElem_cons_zero, Act.put, List.setIfInBounds_toArray, List.set_cons_zero, List.set_cons_succ]
    refine wpAnyH_take (i := 1) (v := .pointer (some ⟨t, 0, none⟩)) rfl (by kernel_rfl) (by kernel_rfl) (by kernel_rfl) (fun _ _ _ h => h) (Or.inl ⟨by rfl, fun w9 hSw => ?_⟩) hHeld ?_
    · go_simp
    simp only [List.getElem_toArray, List.getElem_cons_succ, List.getElem_cons_zero, Act.put, List.setIfInBounds_toArray, List.set_cons_zero, List.set_cons_succ]
    refine wpAnyH_take (i := 2) (v := .pointer (some ⟨t, 0, none⟩)) rfl (by kernel_rfl) (by kernel_rfl) (by kernel_rfl) (fun _ _ _ h => h) (Or.inl ⟨by rfl, fun w9 hSw => ?_⟩) hHeld ?_
    · go_simp
    simp only [List.getElem_toArray, List.getElem_cons_succ, List.getElem_cons_zero, Act.put, List.setIfInBounds_toArray, List.set_cons_zero, List.set_cons_succ]
    refine wpAnyH_take (i := 3) (v := .pointer (some ⟨t, 1, none⟩)) rfl (by kernel_rfl) (by kernel_rfl) (by kernel_rfl) (fun _ _ _ h => h) (Or.inl ⟨by rfl, fun w9 hSw => ?_⟩) hHeld ?_
    · go_simp
    simp only [List.getElem_toArray, List.getElem_cons_succ, List.getElem_cons_zero, Act.put, List.setIfInBounds_toArray, List.set_cons_zero, List.set_cons_succ]
    refine wpAnyH_take (i := 4) (v := .slice p N cap) rfl (by kernel_rfl) (by kernel_rfl) (by kernel_rfl) (fun _ _ _ h => h) (Or.inl ⟨by rfl, fun w9 hSw => ?_⟩) hHeld ?_
    · have k0 : w9.cell? ⟨t, 1, none⟩ = some (.slice p N cap) := by rw [cell_of_block hSw.2]; rfl
      go_simp
    simp only [List.getElem_toArray, List.getElem_cons_succ, List.getElem_cons_zero, Act.put, List.setIfInBounds_toArray, List.set_cons_zero, List.set_cons_succ]
    refine wpAnyH_ready (rs := [5]) (by kernel_rfl) (by simp) ?_
    refine AllReadyH.cons rfl (fun K hK => ?_) AllReadyH.nil
    refine step_store_r (by rfl) 33 _ _ (by rfl) w.heap.size (Kc.vec 32 (Kc.byt Q)) (by rfl) (by rfl) 33 _ GY.out.2.1 (Kc.info29v _) (by simp) (Kc.one_byt _ _) ?_
    have hx3 : (fun w' : World => w'.heap[q]? = some (.cells (Kc.vec 32 (Kc.byt Q)) 33) ∧ w'.heap[t]? = some (TeC b (.slice p N cap) k)) (Y.setRow w.heap.size (Kc.vec 32 (Kc.byt Q))) := ⟨(setRow_other _ _ _ _ GY.out.2.2.1).trans hHeld.1, (setRow_other _ _ _ _ GY.out.2.2.2).trans hHeld.2⟩
    refine hK.out _ _ hx3 (fun hHeld => ?_)
    clear hK K
    try simp only [List.getElem_toArray, List.getElem_cons_succ, List.getElem_cons_zero, Act.put, List.setIfInBounds_toArray, List.set_cons_zero, List.set_cons_succ]
    refine wpAnyH_take (i := 6) (v := .slice p N cap) rfl (by kernel_rfl) (by kernel_rfl) (by kernel_rfl) (fun _ _ _ h => h) (Or.inl ⟨by rfl, fun w9 hSw => ?_⟩) hHeld ?_
    · go_simp
    simp only [List.getElem_toArray, List.getElem_cons_succ, List.getElem_cons_zero, Act.put, List.setIfInBounds_toArray, List.set_cons_zero, List.set_cons_succ]
    refine wpAnyH_done (by kernel_rfl) ?_ _
    simp only [noP]
    go_wp2_with fail
    refine bodyPost_ret (results_cell_row2 rfl _ _ _ _ _ rfl rfl (load33 (setRow_heap _ _ _ _ _ _ GY.out.2.1))) rfl ⟨?_, p, cap, rfl⟩
    exact ((Kc.Only.refl _ _).setRow _).below GY.out.1 (by omega)
end Go.Proofs.YtboeokmaepchgaaGreatDoor
