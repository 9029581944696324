/- trie: tell of the first node. -/
import Derived.Test.YtboeokmaepchgaaGreatDoorM37
namespace Go.Proofs.YtboeokmaepchgaaGreatDoor
open Go.RowKit Go.Maps Go.Joins Go.Shelf
set_option linter.unusedSimpArgs false
set_option linter.unusedVariables false
theorem exec_build {P : Program} {a : Act} {o : Oper} {w : World} {v : Value} (t : TypeId) (parts : Array (Nat × Operand)) (ho : o.op = .build t parts) (ps : Array (Nat × Value)) (hps : (parts.map fun (i, x) => (i, a.eval x)) = ps) (h : (Instr.build t ps).run P w = .ok v w) : (execOp a.eval o).run P w = .ok (.value v) w := by
  unfold execOp
  simp only [ho, hps, Sem.run_bind, Sem.run_pure, h, Result.andThen_ok]
theorem step_build_one {P : Program} {ops : Array Oper} {o : Oper} {a : Act} {w : World} {K : Act → World → Prop} {Q : Exit → Act → World → Prop} {E : Prop} (hw : Region.wanted o (yielded ops a.tmps) = true) (t : TypeId) (x : Operand) (ho : o.op = .buildSlice t 1 #[(0, x)])
    (e : TypeId) (cells : Array Value) (hx : a.eval x = .agg cells) (hrun : (Instr.buildSlice t 1 #[(0, .agg cells)]).run P w = .ok (.slice (some ⟨w.heap.size, 0, none⟩) 1 1) (w.alloc (.cells cells e)))
    (h : K (a.put o.dst (.slice (some ⟨w.heap.size, 0, none⟩) 1 1)) (w.alloc (.cells cells e))) :
    if Region.wanted o (yielded ops a.tmps) = true then Oper.wp P o a w K Q else E := by
  rw [if_pos hw]
  unfold Oper.wp execOp
  simp only [ho, List.map_toArray, List.map_cons, List.map_nil, hx, Sem.run_bind, Sem.run_pure, hrun, Result.andThen_ok]
  exact h
theorem GrowT.trans {t k : Nat} {u v w : World} (h : GrowT t k u v) (g : GrowT t k v w) : GrowT t k u w :=
  ⟨g.os.trans h.os, g.tape.trans h.tape, g.output.trans h.output, Nat.le_trans h.size g.size, fun i hi h1 h2 => (g.block i (Nat.lt_of_lt_of_le hi h.size) h1 h2).trans (h.block i hi h1 h2)⟩
theorem GrowT.put {t k : Nat} (w : World) (o : Obj) : GrowT t k w (w.putObj k o) := ⟨rfl, rfl, rfl, by simp [World.putObj], fun i _ _ h => World.putObj_heap_other h⟩
theorem GrowT.row {t k : Nat} (w : World) (i0 : Nat) (c : Array Value) (h : i0 = t) : GrowT t k w (w.setRow i0 c) := ⟨rfl, rfl, rfl, by simp [World.setRow], fun i _ h1 _ => setRow_other _ _ _ _ (by omega)⟩
theorem GrowT.cell {t k : Nat} (w : World) (o : Nat) (v : Value) : GrowT t k w (w.setCell ⟨t, o, none⟩ v) := ⟨rfl, rfl, rfl, by simp [World.setCell], fun i _ h1 _ => Below.heap_setCell _ _ _ _ h1⟩
set_option maxRecDepth 100000 in
set_option maxHeartbeats 16000000 in
theorem tell_first {w : World} {t k en ec : Nat} {ea : Option Addr} {bs : List Int} (Y : Nat → BitVec 8) (hY : Y = Kc.digest (Kc.mB bs) bs.length) (hp : Kc.PathIn w) (ht : w.heap[t]? = some (.cells #[.slice none 0 0, .map (some k)] 150)) (hk : w.heap[k]? = some (.map #[] 0)) (hen : en = bs.length) (h : BytesV w (.slice ea en ec) bs) (hb : Byt bs) (hc : bs.length ≤ ec) (hm : ec ≤ 9223372036854775807) (hl : bs.length ≤ 140737488351232) :
    Calls Tryz.prog 86 #[.pointer (some ⟨t, 0, none⟩), .slice ea en ec] w fun e w' => e = .returned (.agg (Kc.vec 32 (Kc.byt Y))) ∧ GrowT t k w w' ∧ ∃ B cap, 1 ≤ cap ∧ w'.heap[t]? = some (.cells #[.slice (some ⟨B, 0, none⟩) 1 cap, .map (some k)] 150) ∧ (∀ j, j < 33 → w'.cell? ⟨B, j, none⟩ = some (ndF Y (.slice ea en ec) j)) := by
  have htk : t ≠ k := fun he => by rw [he, hk] at ht; cases ht
  have HP : Hid (w.heap[t]? = some (.cells #[.slice none 0 0, .map (some k)] 150) ∧ w.heap[k]? = some (.map #[] 0) ∧ t ≠ k ∧ t < w.heap.size ∧ k < w.heap.size) := ⟨ht, hk, htk, heap_lt ht, heap_lt hk⟩
  have HS : Hid (∀ W, Below w.heap.size w W → Calls Tryz.prog 55 #[.slice ea en ec] W fun e w' => e = .returned (.agg (Kc.vec 32 (Kc.byt Y))) ∧ Below W.heap.size W w') := fun W hW => by
    have := sum_b (w := W) (a := ea) (cap := ec) (bs := bs) (hp.below hW (Kc.pathIn_pos hp)) (by rw [← hen]; exact h.below hW) hb hc hm hl
    rw [← hY, ← hen] at this
    exact this
  clear hY hp ht hk hen h hb hc hm hl htk
  go_enter Tryz.func86, Tryz.ntmps86
  go_wp2_with fail
  rw [lit32]
  have H0 : Hid (Below w.heap.size w (w.alloc (.cells z32 33)) ∧ (w.alloc (.cells z32 33)).heap[w.heap.size]? = some (.cells z32 33)) := ⟨by go_grown, heap_alloc_new _ _⟩
  generalize w.alloc (.cells z32 33) = W0 at H0 ⊢
  refine Calls.mono (HS.out W0 H0.out.1) ?_
  rintro e W1 ⟨rfl, hb1⟩
  have H1 : Hid (Below w.heap.size w W1 ∧ W1.heap[w.heap.size]? = some (.cells z32 33)) := ⟨H0.out.1.trans (hb1.mono H0.out.1.size), (hb1.block _ (heap_lt H0.out.2)).trans H0.out.2⟩
  clear hb1 H0 HS
  go_wp2_with (first | (refine wpList_store_row rfl 33 _ _ rfl W1.heap.size (Kc.vec 32 (Kc.byt Y)) rfl rfl 33 _ (heap_alloc_new _ _) (Kc.info29v _) (by simp) (Kc.one_byt _ _) ?_; rw [World.setRow_alloc_new]))
  have hb2 : Below W1.heap.size W1 (W1.alloc (.cells (Kc.vec 32 (Kc.byt Y)) 33)) := by go_grown
  have H2 : Hid (Below w.heap.size w (W1.alloc (.cells (Kc.vec 32 (Kc.byt Y)) 33)) ∧ (W1.alloc (.cells (Kc.vec 32 (Kc.byt Y)) 33)).heap[w.heap.size]? = some (.cells z32 33) ∧ (W1.alloc (.cells (Kc.vec 32 (Kc.byt Y)) 33)).heap[W1.heap.size]? = some (.cells (Kc.vec 32 (Kc.byt Y)) 33) ∧ w.heap.size < W1.heap.size) := ⟨H1.out.1.trans (hb2.mono H1.out.1.size), (hb2.block _ (heap_lt H1.out.2)).trans H1.out.2, heap_alloc_new _ _, heap_lt H1.out.2⟩
  clear hb2 H1
  obtain ⟨q, hq⟩ : ∃ q, q = W1.heap.size := ⟨_, rfl⟩
  rw [← hq] at H2 ⊢
  clear hq
  generalize W1.alloc (.cells (Kc.vec 32 (Kc.byt Y)) 33) = W2 at H2 ⊢
  refine wp_noP ?_
  refine wp_region_held_drew (S := (fun w' : World => w'.heap[t]? = some (.cells #[.slice none 0 0, .map (some k)] 150) ∧ w'.heap[q]? = some (.cells (Kc.vec 32 (Kc.byt Y)) 33) ∧ w'.heap[k]? = some (.map #[] 0))) (by kernel_rfl) ⟨(H2.out.1.block _ HP.out.2.2.2.1).trans HP.out.1, H2.out.2.2.1, (H2.out.1.block _ HP.out.2.2.2.2).trans HP.out.2.1⟩ (fun hHeld => ?_)
  have G0 : Hid (Below w.heap.size w W2.drew ∧ W2.drew.heap[w.heap.size]? = some (.cells z32 33) ∧ w.heap.size < q) := ⟨⟨H2.out.1.os, H2.out.1.tape, H2.out.1.output, H2.out.1.size, H2.out.1.block⟩, H2.out.2.1, H2.out.2.2.2⟩
  clear H2
  generalize W2.drew = U0 at G0 hHeld ⊢
  refine wpAnyH_take (i := 0) (v := .pointer (some ⟨t, 0, none⟩)) rfl (by kernel_rfl) (by kernel_rfl) (by kernel_rfl) (fun _ _ _ h => h) (Or.inl ⟨by rfl, fun w9 hSw => ?_⟩) hHeld ?_
  · go_simp
  simp only [List.getElem_toArray, List.getElem_cons_succ, List.getElem_cons_zero, Act.put, List.setIfInBounds_toArray, List.set_cons_zero, List.set_cons_succ]
  refine wpAnyH_take (i := 1) (v := .pointer (some ⟨t, 0, none⟩)) rfl (by kernel_rfl) (by kernel_rfl) (by kernel_rfl) (fun _ _ _ h => h) (Or.inl ⟨by rfl, fun w9 hSw => ?_⟩) hHeld ?_
  · go_simp
  simp only [List.getElem_toArray, List.getElem_cons_succ, List.getElem_cons_zero, Act.put, List.setIfInBounds_toArray, List.set_cons_zero, List.set_cons_succ]
  refine wpAnyH_take (i := 2) (v := .pointer (some ⟨t, 1, none⟩)) rfl (by kernel_rfl) (by kernel_rfl) (by kernel_rfl) (fun _ _ _ h => h) (Or.inl ⟨by rfl, fun w9 hSw => ?_⟩) hHeld ?_
  · go_simp
  simp only [List.getElem_toArray, List.getElem_cons_succ, List.getElem_cons_zero, Act.put, List.setIfInBounds_toArray, List.set_cons_zero, List.set_cons_succ]
  refine wpAnyH_take (i := 3) (v := .map (some k)) rfl (by kernel_rfl) (by kernel_rfl) (by kernel_rfl) (fun _ _ _ h => h) (Or.inl ⟨by rfl, fun w9 hSw => ?_⟩) hHeld ?_
  · have k0 : w9.cell? ⟨t, 1, none⟩ = some (.map (some k)) := by rw [cell_of_block hSw.1]; rfl
    go_simp
  simp only [List.getElem_toArray, List.getElem_cons_succ, List.getElem_cons_zero, Act.put, List.setIfInBounds_toArray, List.set_cons_zero, List.set_cons_succ]
  refine wpAnyH_take (i := 4) (v := .agg (Kc.vec 32 (Kc.byt Y))) rfl (by kernel_rfl) (by kernel_rfl) (by kernel_rfl) (fun _ _ _ h => h) (Or.inl ⟨by rfl, fun w9 hSw => ?_⟩) hHeld ?_
  · exact Kc.run_load_exec 33 _ rfl _ rfl (load33 hSw.2.1)
  simp only [List.getElem_toArray, List.getElem_cons_succ, List.getElem_cons_zero, Act.put, List.setIfInBounds_toArray, List.set_cons_zero, List.set_cons_succ]
  refine wpAnyH_take (i := 5) (v := .tuple #[.agg #[], .bool false]) rfl (by kernel_rfl) (by kernel_rfl) (by kernel_rfl) (fun _ _ _ h => h) (Or.inl ⟨by rfl, fun w9 hSw => ?_⟩) hHeld ?_
  · have hk := look110 hSw.2.2 Y
    go_simp
  simp only [List.getElem_toArray, List.getElem_cons_succ, List.getElem_cons_zero, Act.put, List.setIfInBounds_toArray, List.set_cons_zero, List.set_cons_succ]
  refine wpAnyH_take (i := 6) (v := .tuple #[.agg #[], .bool false]) rfl (by kernel_rfl) (by kernel_rfl) (by kernel_rfl) (fun _ _ _ h => h) (Or.inl ⟨by rfl, fun w9 hSw => ?_⟩) hHeld ?_
  · go_simp
  simp only [List.getElem_toArray, List.getElem_cons_succ, List.getElem_cons_zero, Act.put, List.setIfInBounds_toArray, List.set_cons_zero, List.set_cons_succ]
  refine wpAnyH_take (i := 7) (v := .agg #[]) rfl (by kernel_rfl) (by kernel_rfl) (by kernel_rfl) (fun _ _ _ h => h) (Or.inl ⟨by rfl, fun w9 hSw => ?_⟩) hHeld ?_
  · go_simp
  simp only [List.getElem_toArray, List.getElem_cons_succ, List.getElem_cons_zero, Act.put, List.setIfInBounds_toArray, List.set_cons_zero, List.set_cons_succ]
  refine wpAnyH_take (i := 8) (v := .bool false) rfl (by kernel_rfl) (by kernel_rfl) (by kernel_rfl) (fun _ _ _ h => h) (Or.inl ⟨by rfl, fun w9 hSw => ?_⟩) hHeld ?_
  · go_simp
  simp only [List.getElem_toArray, List.getElem_cons_succ, List.getElem_cons_zero, Act.put, List.setIfInBounds_toArray, List.set_cons_zero, List.set_cons_succ]
  refine wpAnyH_ready (rs := [9]) (by kernel_rfl) (by simp) ?_
  refine AllReadyH.cons rfl (fun K hK => ?_) AllReadyH.nil
  go_simp
  have hb : Below U0.heap.size U0 (U0.alloc (.cells #[] 186)) := by go_grown
  have hx : (fun w' : World => w'.heap[t]? = some (.cells #[.slice none 0 0, .map (some k)] 150) ∧ w'.heap[q]? = some (.cells (Kc.vec 32 (Kc.byt Y)) 33) ∧ w'.heap[k]? = some (.map #[] 0)) (U0.alloc (.cells #[] 186)) := ⟨(hb.block _ (heap_lt hHeld.1)).trans hHeld.1, (hb.block _ (heap_lt hHeld.2.1)).trans hHeld.2.1, (hb.block _ (heap_lt hHeld.2.2)).trans hHeld.2.2⟩
  have G1 : Hid (Below w.heap.size w (U0.alloc (.cells #[] 186)) ∧ (U0.alloc (.cells #[] 186)).heap[w.heap.size]? = some (.cells z32 33) ∧ w.heap.size < q ∧ (U0.alloc (.cells #[] 186)).heap[U0.heap.size]? = some (.cells #[] 186) ∧ U0.heap.size ≠ t ∧ U0.heap.size ≠ q ∧ U0.heap.size ≠ k ∧ w.heap.size < U0.heap.size) := ⟨G0.out.1.trans (hb.mono G0.out.1.size), (hb.block _ (heap_lt G0.out.2.1)).trans G0.out.2.1, G0.out.2.2, heap_alloc_new _ _, by have := heap_lt hHeld.1; omega, by have := heap_lt hHeld.2.1; omega, by have := heap_lt hHeld.2.2; omega, heap_lt G0.out.2.1⟩
  clear hb G0
  obtain ⟨z, hz⟩ : ∃ z, z = U0.heap.size := ⟨_, rfl⟩
  rw [← hz] at G1 ⊢
  clear hz
  generalize U0.alloc (.cells #[] 186) = U1 at G1 hx ⊢
  refine hK.out _ _ hx (fun hHeld => ?_)
  clear hK K
  try simp only [List.getElem_toArray, List.getElem_cons_succ, List.getElem_cons_zero, Act.put, List.setIfInBounds_toArray, List.set_cons_zero, List.set_cons_succ]
  refine wpAnyH_ready (rs := [10]) (by kernel_rfl) (by simp) ?_
  refine AllReadyH.cons rfl (fun K hK => ?_) AllReadyH.nil
  refine step_store_r (by rfl) 186 _ _ (by rfl) z #[] (by rfl) (by rfl) 186 _ G1.out.2.2.2.1 (by kernel_rfl) (by simp) (by simp) ?_
  have hx : (fun w' : World => w'.heap[t]? = some (.cells #[.slice none 0 0, .map (some k)] 150) ∧ w'.heap[q]? = some (.cells (Kc.vec 32 (Kc.byt Y)) 33) ∧ w'.heap[k]? = some (.map #[] 0)) (U1.setRow z #[]) := ⟨(setRow_other _ _ _ _ (by have := G1.out; omega)).trans hHeld.1, (setRow_other _ _ _ _ (by have := G1.out; omega)).trans hHeld.2.1, (setRow_other _ _ _ _ (by have := G1.out; omega)).trans hHeld.2.2⟩
  have G2 : Hid (Below w.heap.size w (U1.setRow z #[]) ∧ (U1.setRow z #[]).heap[w.heap.size]? = some (.cells z32 33) ∧ w.heap.size < q ∧ (fun w' : World => w'.heap[t]? = some (.cells #[.slice none 0 0, .map (some k)] 150) ∧ w'.heap[q]? = some (.cells (Kc.vec 32 (Kc.byt Y)) 33) ∧ w'.heap[k]? = some (.map #[] 0)) (U1.setRow z #[])) := ⟨((Kc.Only.refl _ _).setRow _).below G1.out.1 (by have := G1.out; omega), (setRow_other _ _ _ _ (by have := G1.out; omega)).trans G1.out.2.1, G1.out.2.2.1, hx⟩
  clear G1
  generalize U1.setRow z #[] = U2 at G2 hx ⊢
  refine hK.out _ _ hx (fun hHeld => ?_)
  clear hK K
  try simp only [List.getElem_toArray, List.getElem_cons_succ, List.getElem_cons_zero, Act.put, List.setIfInBounds_toArray, List.set_cons_zero, List.set_cons_succ]
  refine wpAnyH_take (i := 11) (v := .bool false) rfl (by kernel_rfl) (by kernel_rfl) (by kernel_rfl) (fun _ _ _ h => h) (Or.inl ⟨by rfl, fun w9 hSw => ?_⟩) hHeld ?_
  · go_simp
  simp only [List.getElem_toArray, List.getElem_cons_succ, List.getElem_cons_zero, Act.put, List.setIfInBounds_toArray, List.set_cons_zero, List.set_cons_succ]
  refine wpAnyH_done (by kernel_rfl) ?_ _
  simp only [noP]
  clear hHeld hx
  go_wp2_with fail
  refine wp_noP ?_
  refine wp_region_held_drew (S := (fun w' : World => w'.heap[t]? = some (.cells #[.slice none 0 0, .map (some k)] 150) ∧ w'.heap[q]? = some (.cells (Kc.vec 32 (Kc.byt Y)) 33))) (by kernel_rfl) ⟨G2.out.2.2.2.1, G2.out.2.2.2.2.1⟩ (fun hHeld => ?_)
  have G3 : Hid (Below w.heap.size w U2.drew ∧ U2.drew.heap[w.heap.size]? = some (.cells z32 33) ∧ w.heap.size < q ∧ U2.drew.heap[k]? = some (.map #[] 0)) := ⟨⟨G2.out.1.os, G2.out.1.tape, G2.out.1.output, G2.out.1.size, G2.out.1.block⟩, G2.out.2.1, G2.out.2.2.1, G2.out.2.2.2.2.2⟩
  clear G2
  generalize U2.drew = U3 at G3 hHeld ⊢
  refine wpAnyH_take (i := 0) (v := .pointer (some ⟨t, 0, none⟩)) rfl (by kernel_rfl) (by kernel_rfl) (by kernel_rfl) (fun _ _ _ h => h) (Or.inl ⟨by rfl, fun w9 hSw => ?_⟩) hHeld ?_
  · go_simp
  simp only [List.getElem_toArray, List.getElem_cons_succ, List.getElem_cons_zero, Act.put, List.setIfInBounds_toArray, List.set_cons_zero, List.set_cons_succ]
  refine wpAnyH_take (i := 1) (v := .pointer (some ⟨t, 0, none⟩)) rfl (by kernel_rfl) (by kernel_rfl) (by kernel_rfl) (fun _ _ _ h => h) (Or.inl ⟨by rfl, fun w9 hSw => ?_⟩) hHeld ?_
  · go_simp
  simp only [List.getElem_toArray, List.getElem_cons_succ, List.getElem_cons_zero, Act.put, List.setIfInBounds_toArray, List.set_cons_zero, List.set_cons_succ]
  refine wpAnyH_take (i := 2) (v := .pointer (some ⟨t, 1, none⟩)) rfl (by kernel_rfl) (by kernel_rfl) (by kernel_rfl) (fun _ _ _ h => h) (Or.inl ⟨by rfl, fun w9 hSw => ?_⟩) hHeld ?_
  · go_simp
  simp only [List.getElem_toArray, List.getElem_cons_succ, List.getElem_cons_zero, Act.put, List.setIfInBounds_toArray, List.set_cons_zero, List.set_cons_succ]
  refine wpAnyH_take (i := 3) (v := .map (some k)) rfl (by kernel_rfl) (by kernel_rfl) (by kernel_rfl) (fun _ _ _ h => h) (Or.inl ⟨by rfl, fun w9 hSw => ?_⟩) hHeld ?_
  · have k0 : w9.cell? ⟨t, 1, none⟩ = some (.map (some k)) := by rw [cell_of_block hSw.1]; rfl
    go_simp
  simp only [List.getElem_toArray, List.getElem_cons_succ, List.getElem_cons_zero, Act.put, List.setIfInBounds_toArray, List.set_cons_zero, List.set_cons_succ]
  refine wpAnyH_take (i := 4) (v := .agg (Kc.vec 32 (Kc.byt Y))) rfl (by kernel_rfl) (by kernel_rfl) (by kernel_rfl) (fun _ _ _ h => h) (Or.inl ⟨by rfl, fun w9 hSw => ?_⟩) hHeld ?_
  · exact Kc.run_load_exec 33 _ rfl _ rfl (load33 hSw.2)
  simp only [List.getElem_toArray, List.getElem_cons_succ, List.getElem_cons_zero, Act.put, List.setIfInBounds_toArray, List.set_cons_zero, List.set_cons_succ]
  refine wpAnyH_take (i := 5) (v := .agg #[]) rfl (by kernel_rfl) (by kernel_rfl) (by kernel_rfl) (fun _ _ _ h => h) (Or.inl ⟨by rfl, fun w9 hSw => ?_⟩) hHeld ?_
  · have hk := build186 w9
    go_simp
  simp only [List.getElem_toArray, List.getElem_cons_succ, List.getElem_cons_zero, Act.put, List.setIfInBounds_toArray, List.set_cons_zero, List.set_cons_succ]
  refine wpAnyH_ready (rs := [6]) (by kernel_rfl) (by simp) ?_
  refine AllReadyH.cons rfl (fun K hK => ?_) AllReadyH.nil
  refine step_update (by rfl) 110 _ _ _ (by rfl) (.map (some k)) (.agg (Kc.vec 32 (Kc.byt Y))) (.agg #[]) (by rfl) (by rfl) (by rfl) (upd110 G3.out.2.2.2 Y) ?_
  have hqk : q ≠ k := by have := HP.out.2.2.2.2; have := G3.out.2.2.1; omega
  have hwk : w.heap.size ≠ k := by have := HP.out.2.2.2.2; omega
  have hx : (fun w' : World => w'.heap[t]? = some (.cells #[.slice none 0 0, .map (some k)] 150) ∧ w'.heap[q]? = some (.cells (Kc.vec 32 (Kc.byt Y)) 33)) (U3.putObj k (.map #[⟨.agg (Kc.vec 32 (Kc.byt Y)), .agg #[], 0⟩] (0 + 1))) := ⟨(World.putObj_heap_other HP.out.2.2.1).trans hHeld.1, (World.putObj_heap_other hqk).trans hHeld.2⟩
  have G4 : Hid (GrowT t k w (U3.putObj k (.map #[⟨.agg (Kc.vec 32 (Kc.byt Y)), .agg #[], 0⟩] (0 + 1))) ∧ (U3.putObj k (.map #[⟨.agg (Kc.vec 32 (Kc.byt Y)), .agg #[], 0⟩] (0 + 1))).heap[w.heap.size]? = some (.cells z32 33) ∧ w.heap.size < q ∧ (fun w' : World => w'.heap[t]? = some (.cells #[.slice none 0 0, .map (some k)] 150) ∧ w'.heap[q]? = some (.cells (Kc.vec 32 (Kc.byt Y)) 33)) (U3.putObj k (.map #[⟨.agg (Kc.vec 32 (Kc.byt Y)), .agg #[], 0⟩] (0 + 1)))) := ⟨(GrowT.of_below G3.out.1).trans (GrowT.put _ _), (World.putObj_heap_other hwk).trans G3.out.2.1, G3.out.2.2.1, hx⟩
  clear G3 hqk hwk
  generalize U3.putObj k (.map #[⟨.agg (Kc.vec 32 (Kc.byt Y)), .agg #[], 0⟩] (0 + 1)) = U4 at G4 hx ⊢
  refine hK.out _ _ hx (fun hHeld => ?_)
  clear hK K
  try simp only [List.getElem_toArray, List.getElem_cons_succ, List.getElem_cons_zero, Act.put, List.setIfInBounds_toArray, List.set_cons_zero, List.set_cons_succ]
  refine wpAnyH_done (by kernel_rfl) ?_ _
  simp only [noP]
  clear hHeld hx
  go_wp2_with fail
  refine wp_noP ?_
  refine wp_region_held_drew (S := (fun w' : World => w'.heap[q]? = some (.cells (Kc.vec 32 (Kc.byt Y)) 33))) (by kernel_rfl) G4.out.2.2.2.2 (fun hHeld => ?_)
  have G5 : Hid (GrowT t k w U4.drew ∧ U4.drew.heap[w.heap.size]? = some (.cells z32 33) ∧ w.heap.size < q ∧ U4.drew.heap[t]? = some (.cells #[.slice none 0 0, .map (some k)] 150)) := ⟨⟨G4.out.1.os, G4.out.1.tape, G4.out.1.output, G4.out.1.size, G4.out.1.block⟩, G4.out.2.1, G4.out.2.2.1, G4.out.2.2.2.1⟩
  clear G4
  generalize U4.drew = U5 at G5 hHeld ⊢
  refine wpAnyH_take (i := 0) (v := .pointer (some ⟨t, 0, none⟩)) rfl (by kernel_rfl) (by kernel_rfl) (by kernel_rfl) (fun _ _ _ h => h) (Or.inl ⟨by rfl, fun w9 hSw => ?_⟩) hHeld ?_
  · go_simp
  simp only [List.getElem_toArray, List.getElem_cons_succ, List.getElem_cons_zero, Act.put, List.setIfInBounds_toArray, List.set_cons_zero, List.set_cons_succ]
  refine wpAnyH_take (i := 1) (v := .pointer (some ⟨t, 0, none⟩)) rfl (by kernel_rfl) (by kernel_rfl) (by kernel_rfl) (fun _ _ _ h => h) (Or.inl ⟨by rfl, fun w9 hSw => ?_⟩) hHeld ?_
  · go_simp
  simp only [List.getElem_toArray, List.getElem_cons_succ, List.getElem_cons_zero, Act.put, List.setIfInBounds_toArray, List.set_cons_zero, List.set_cons_succ]
  refine wpAnyH_take (i := 2) (v := .pointer (some ⟨t, 0, none⟩)) rfl (by kernel_rfl) (by kernel_rfl) (by kernel_rfl) (fun _ _ _ h => h) (Or.inl ⟨by rfl, fun w9 hSw => ?_⟩) hHeld ?_
  · go_simp
  simp only [List.getElem_toArray, List.getElem_cons_succ, List.getElem_cons_zero, Act.put, List.setIfInBounds_toArray, List.set_cons_zero, List.set_cons_succ]
  refine wpAnyH_take (i := 3) (v := .pointer (some ⟨t, 0, none⟩)) rfl (by kernel_rfl) (by kernel_rfl) (by kernel_rfl) (fun _ _ _ h => h) (Or.inl ⟨by rfl, fun w9 hSw => ?_⟩) hHeld ?_
  · go_simp
  simp only [List.getElem_toArray, List.getElem_cons_succ, List.getElem_cons_zero, Act.put, List.setIfInBounds_toArray, List.set_cons_zero, List.set_cons_succ]
  refine wpAnyH_take (i := 5) (v := .agg (Kc.vec 32 (Kc.byt Y))) rfl (by kernel_rfl) (by kernel_rfl) (by kernel_rfl) (fun _ _ _ h => h) (Or.inl ⟨by rfl, fun w9 hSw => ?_⟩) hHeld ?_
  · exact Kc.run_load_exec 33 _ rfl _ rfl (load33 hSw)
  simp only [List.getElem_toArray, List.getElem_cons_succ, List.getElem_cons_zero, Act.put, List.setIfInBounds_toArray, List.set_cons_zero, List.set_cons_succ]
  refine wpAnyH_take (i := 6) (v := .slice ea en ec) rfl (by kernel_rfl) (by kernel_rfl) (by kernel_rfl) (fun _ _ _ h => h) (Or.inl ⟨by rfl, fun w9 hSw => ?_⟩) hHeld ?_
  · go_simp
  simp only [List.getElem_toArray, List.getElem_cons_succ, List.getElem_cons_zero, Act.put, List.setIfInBounds_toArray, List.set_cons_zero, List.set_cons_succ]
  refine wpAnyH_take (i := 7) (v := .agg (ndC Y (.slice ea en ec))) rfl (by kernel_rfl) (by kernel_rfl) (by kernel_rfl) (fun _ _ _ h => h) (Or.inl ⟨by rfl, fun w9 hSw => ?_⟩) hHeld ?_
  · exact exec_build 195 _ rfl #[(0, .agg (Kc.vec 32 (Kc.byt Y))), (1, .slice ea en ec)] (by kernel_rfl) (build195 w9 Y ea en ec)
  simp only [List.getElem_toArray, List.getElem_cons_succ, List.getElem_cons_zero, Act.put, List.setIfInBounds_toArray, List.set_cons_zero, List.set_cons_succ]
  refine wpAnyH_ready (rs := [4, 8]) (by kernel_rfl) (by simp) ?_
  refine AllReadyH.cons rfl (fun K hK => ?_) (AllReadyH.cons rfl (fun K hK => ?_) AllReadyH.nil)
  · have G5b : Hid (GrowT t k w U5 ∧ U5.heap[w.heap.size]? = some (.cells z32 33) ∧ w.heap.size < q ∧ U5.heap[t]? = some (.cells #[.slice none 0 0, .map (some k)] 150) ∧ True) := ⟨G5.out.1, G5.out.2.1, G5.out.2.2.1, G5.out.2.2.2, trivial⟩
    have k0 : U5.cell? ⟨t, 0, none⟩ = some (.slice none 0 0) := by rw [cell_of_block G5b.out.2.2.2.1]; rfl
    go_simp
    clear k0
    refine hK.out _ _ hHeld (fun hHeld => ?_)
    clear hK K
    try simp only [List.getElem_toArray, List.getElem_cons_succ, List.getElem_cons_zero, Act.put, List.setIfInBounds_toArray, List.set_cons_zero, List.set_cons_succ]
    clear G5b
    refine wpAnyH_ready (rs := [8]) (by kernel_rfl) (by simp) ?_
    refine AllReadyH.cons rfl (fun K hK => ?_) AllReadyH.nil
    obtain ⟨i0, hi0, hz0, hz1, hz2⟩ := info195c
    have hbs := build_one (P := Tryz.prog) U5 34 195 33 (ndC Y (.slice ea en ec)) i0 _ Tryz.underlying34 hi0 hz0 hz1 (by simp) (by decide) (by decide)
    have HI : Hid (Tryz.prog.info? 195 = some i0 ∧ i0.zero = some (.agg (ndC (fun _ => 0) (.slice none 0 0))) ∧ i0.size = 33 ∧ i0.bytes = 56) := ⟨hi0, hz0, hz1, hz2⟩
    clear hi0 hz0 hz1 hz2
    refine step_build_one (by rfl) 34 _ (by rfl) 195 (ndC Y (.slice ea en ec)) (by rfl) hbs ?_
    have hb : Below U5.heap.size U5 (U5.alloc (.cells (ndC Y (.slice ea en ec)) 195)) := by go_grown
    have hx : (fun w' : World => w'.heap[q]? = some (.cells (Kc.vec 32 (Kc.byt Y)) 33)) (U5.alloc (.cells (ndC Y (.slice ea en ec)) 195)) := (hb.block _ (heap_lt hHeld)).trans hHeld
    have G6 : Hid (GrowT t k w (U5.alloc (.cells (ndC Y (.slice ea en ec)) 195)) ∧ (U5.alloc (.cells (ndC Y (.slice ea en ec)) 195)).heap[w.heap.size]? = some (.cells z32 33) ∧ w.heap.size < q ∧ (U5.alloc (.cells (ndC Y (.slice ea en ec)) 195)).heap[t]? = some (.cells #[.slice none 0 0, .map (some k)] 150) ∧ (U5.alloc (.cells (ndC Y (.slice ea en ec)) 195)).heap[U5.heap.size]? = some (.cells (ndC Y (.slice ea en ec)) 195)) := ⟨G5.out.1.trans (GrowT.of_below hb), (hb.block _ (heap_lt G5.out.2.1)).trans G5.out.2.1, G5.out.2.2.1, (hb.block _ (heap_lt G5.out.2.2.2)).trans G5.out.2.2.2, heap_alloc_new _ _⟩
    clear hb hbs
    obtain ⟨z, hz⟩ : ∃ z, z = U5.heap.size := ⟨_, rfl⟩
    rw [← hz] at G6 ⊢
    clear hz
    generalize U5.alloc (.cells (ndC Y (.slice ea en ec)) 195) = U6 at G6 hx ⊢
    refine hK.out _ _ hx (fun hHeld => ?_)
    clear hK K
    try simp only [List.getElem_toArray, List.getElem_cons_succ, List.getElem_cons_zero, Act.put, List.setIfInBounds_toArray, List.set_cons_zero, List.set_cons_succ]
    refine wpAnyH_ready (rs := [9]) (by kernel_rfl) (by simp) ?_
    refine AllReadyH.cons rfl (fun K hK => ?_) AllReadyH.nil
    refine step_app_one rfl (.tmp 31) (.tmp 35) 34 rfl 195 i0 _ 33 56 Tryz.underlying34 HI.out.1 HI.out.2.1 HI.out.2.2.1 HI.out.2.2.2 (by simp [Value.cells]) (by decide) (by decide) rfl z 1 rfl (ndC Y (.slice ea en ec)).toList (by simp) (fun j u hu => by obtain ⟨hj, rfl⟩ := nd_at hu; rw [cell_of_block G6.out.2.2.2.2]; exact Kc.get_vec 33 _ j hj) nd_one (fun B cap U7 hb hB hcap hcs => ?_)
    have hx : (fun w' : World => w'.heap[q]? = some (.cells (Kc.vec 32 (Kc.byt Y)) 33)) U7 := (hb.block _ (heap_lt hHeld)).trans hHeld
    have G7 : Hid (GrowT t k w U7 ∧ U7.heap[w.heap.size]? = some (.cells z32 33) ∧ w.heap.size < q ∧ U7.heap[t]? = some (.cells #[.slice none 0 0, .map (some k)] 150) ∧ (∀ j, j < 33 → U7.cell? ⟨B, j, none⟩ = some (ndF Y (.slice ea en ec) j)) ∧ 1 ≤ cap ∧ B ≠ t ∧ w.heap.size < B ∧ t ≠ q) := ⟨G6.out.1.trans (GrowT.of_below hb), (hb.block _ (heap_lt G6.out.2.1)).trans G6.out.2.1, G6.out.2.2.1, (hb.block _ (heap_lt G6.out.2.2.2.1)).trans G6.out.2.2.2.1, fun j hj => hcs j _ (by rw [Array.getElem?_toList]; exact Kc.get_vec 33 _ j hj), hcap, by have := heap_lt G6.out.2.2.2.1; omega, by have := heap_lt G6.out.2.1; omega, by have := HP.out.2.2.2.1; have := G6.out.2.2.1; omega⟩
    clear hb hB hcap hcs G6 HI
    refine hK.out _ _ hx (fun hHeld => ?_)
    clear hK K
    try simp only [List.getElem_toArray, List.getElem_cons_succ, List.getElem_cons_zero, Act.put, List.setIfInBounds_toArray, List.set_cons_zero, List.set_cons_succ]
    refine wpAnyH_take (i := 10) (v := .pointer (some ⟨t, 0, none⟩)) rfl (by kernel_rfl) (by kernel_rfl) (by kernel_rfl) (fun _ _ _ h => h) (Or.inl ⟨by rfl, fun w9 hSw => ?_⟩) hHeld ?_
    · go_simp
    simp only [List.getElem_toArray, List.getElem_cons_succ, List.getElem_cons_zero, Act.put, List.setIfInBounds_toArray, List.set_cons_zero, List.set_cons_succ]
    refine wpAnyH_take (i := 11) (v := .pointer (some ⟨t, 0, none⟩)) rfl (by kernel_rfl) (by kernel_rfl) (by kernel_rfl) (fun _ _ _ h => h) (Or.inl ⟨by rfl, fun w9 hSw => ?_⟩) hHeld ?_
    · go_simp
    simp only [List.getElem_toArray, List.getElem_cons_succ, List.getElem_cons_zero, Act.put, List.setIfInBounds_toArray, List.set_cons_zero, List.set_cons_succ]
    refine wpAnyH_ready (rs := [12]) (by kernel_rfl) (by simp) ?_
    refine AllReadyH.cons rfl (fun K hK => ?_) AllReadyH.nil
    have f0 : U7.frozen? ⟨t, 0, none⟩ = false := unfrozen_of_block G7.out.2.2.2.1 0
    have c0 : U7.cell? ⟨t, 0, none⟩ = some (.slice none 0 0) := by rw [cell_of_block G7.out.2.2.2.1]; rfl
    go_simp
    have hqt : q ≠ t := fun h => G7.out.2.2.2.2.2.2.2.2 h.symm
    have hx : (fun w' : World => w'.heap[q]? = some (.cells (Kc.vec 32 (Kc.byt Y)) 33)) (U7.setCell ⟨t, 0, none⟩ (.slice (some ⟨B, 0, none⟩) 1 cap)) := (Below.heap_setCell _ _ _ _ hqt).trans hHeld
    have ht2 : (U7.setCell ⟨t, 0, none⟩ (.slice (some ⟨B, 0, none⟩) 1 cap)).heap[t]? = some (.cells #[.slice (some ⟨B, 0, none⟩) 1 cap, .map (some k)] 150) := heap_setCell_same _ _ 0 _ 150 _ G7.out.2.2.2.1
    have G8 : Hid (GrowT t k w (U7.setCell ⟨t, 0, none⟩ (.slice (some ⟨B, 0, none⟩) 1 cap)) ∧ (U7.setCell ⟨t, 0, none⟩ (.slice (some ⟨B, 0, none⟩) 1 cap)).heap[w.heap.size]? = some (.cells z32 33) ∧ (U7.setCell ⟨t, 0, none⟩ (.slice (some ⟨B, 0, none⟩) 1 cap)).heap[t]? = some (.cells #[.slice (some ⟨B, 0, none⟩) 1 cap, .map (some k)] 150) ∧ (∀ j, j < 33 → (U7.setCell ⟨t, 0, none⟩ (.slice (some ⟨B, 0, none⟩) 1 cap)).cell? ⟨B, j, none⟩ = some (ndF Y (.slice ea en ec) j)) ∧ 1 ≤ cap ∧ w.heap.size < B ∧ (fun w' : World => w'.heap[q]? = some (.cells (Kc.vec 32 (Kc.byt Y)) 33)) (U7.setCell ⟨t, 0, none⟩ (.slice (some ⟨B, 0, none⟩) 1 cap))) := ⟨G7.out.1.trans (GrowT.cell _ _ _), (Below.heap_setCell _ _ _ _ (by have := HP.out.2.2.2.1; show w.heap.size ≠ t; omega)).trans G7.out.2.1, ht2, fun j hj => (World.cell?_of_block (w := U7) (Below.heap_setCell _ _ _ _ (show B ≠ t from G7.out.2.2.2.2.2.2.1))).trans (G7.out.2.2.2.2.1 j hj), G7.out.2.2.2.2.2.1, G7.out.2.2.2.2.2.2.2.1, hx⟩
    clear G7 ht2 hqt f0 c0
    generalize U7.setCell ⟨t, 0, none⟩ (.slice (some ⟨B, 0, none⟩) 1 cap) = U8 at G8 hx ⊢
    refine hK.out _ _ hx (fun hHeld => ?_)
    clear hK K
    try simp only [List.getElem_toArray, List.getElem_cons_succ, List.getElem_cons_zero, Act.put, List.setIfInBounds_toArray, List.set_cons_zero, List.set_cons_succ]
    refine wpAnyH_done (by kernel_rfl) ?_ _
    simp only [noP]
    clear hHeld hx
    go_wp2_with (first | (refine wpList_load_r (o := { dst := some 39, op := Op.load 33 (Operand.tmp 5), type := 33, pos := "tell.go:51", after := _, guard := none }) rfl 33 _ rfl ⟨q, 0, none⟩ rfl (.agg (Kc.vec 32 (Kc.byt Y))) (by exact load33 G8.out.2.2.2.2.2.2) ?_) | (refine wpList_store_row rfl 33 _ _ rfl w.heap.size (Kc.vec 32 (Kc.byt Y)) rfl rfl 33 _ G8.out.2.1 (Kc.info29v _) (by simp) (Kc.one_byt _ _) ?_))
    refine bodyPost_ret (results_cell_row rfl _ _ _ _ _ _ _ rfl (setRow_heap _ _ _ _ _ _ G8.out.2.1) Tryz.underlying33 rfl (Kc.info29v _)) rfl ⟨rfl, ?_, B, cap, G8.out.2.2.2.2.1, (setRow_other _ _ _ _ (by have := HP.out.2.2.2.1; omega)).trans G8.out.2.2.1, fun j hj => (World.cell?_of_block (w := U8) (setRow_other _ _ _ _ (by show B ≠ _; have := G8.out.2.2.2.2.2.1; omega))).trans (G8.out.2.2.2.1 j hj)⟩
    exact ⟨G8.out.1.os, G8.out.1.tape, G8.out.1.output, by have := G8.out.1.size; simpa [World.setRow] using this, fun i hi h1 h2 => (setRow_other _ _ _ _ (by omega)).trans (G8.out.1.block i hi h1 h2)⟩
  · obtain ⟨i0, hi0, hz0, hz1, hz2⟩ := info195c
    have hbs := build_one (P := Tryz.prog) U5 34 195 33 (ndC Y (.slice ea en ec)) i0 _ Tryz.underlying34 hi0 hz0 hz1 (by simp) (by decide) (by decide)
    have HI : Hid (Tryz.prog.info? 195 = some i0 ∧ i0.zero = some (.agg (ndC (fun _ => 0) (.slice none 0 0))) ∧ i0.size = 33 ∧ i0.bytes = 56) := ⟨hi0, hz0, hz1, hz2⟩
    clear hi0 hz0 hz1 hz2
    refine step_build_one (by rfl) 34 _ (by rfl) 195 (ndC Y (.slice ea en ec)) (by rfl) hbs ?_
    have hb : Below U5.heap.size U5 (U5.alloc (.cells (ndC Y (.slice ea en ec)) 195)) := by go_grown
    have hx : (fun w' : World => w'.heap[q]? = some (.cells (Kc.vec 32 (Kc.byt Y)) 33)) (U5.alloc (.cells (ndC Y (.slice ea en ec)) 195)) := (hb.block _ (heap_lt hHeld)).trans hHeld
    have G6 : Hid (GrowT t k w (U5.alloc (.cells (ndC Y (.slice ea en ec)) 195)) ∧ (U5.alloc (.cells (ndC Y (.slice ea en ec)) 195)).heap[w.heap.size]? = some (.cells z32 33) ∧ w.heap.size < q ∧ (U5.alloc (.cells (ndC Y (.slice ea en ec)) 195)).heap[t]? = some (.cells #[.slice none 0 0, .map (some k)] 150) ∧ (U5.alloc (.cells (ndC Y (.slice ea en ec)) 195)).heap[U5.heap.size]? = some (.cells (ndC Y (.slice ea en ec)) 195)) := ⟨G5.out.1.trans (GrowT.of_below hb), (hb.block _ (heap_lt G5.out.2.1)).trans G5.out.2.1, G5.out.2.2.1, (hb.block _ (heap_lt G5.out.2.2.2)).trans G5.out.2.2.2, heap_alloc_new _ _⟩
    clear hb hbs
    obtain ⟨z, hz⟩ : ∃ z, z = U5.heap.size := ⟨_, rfl⟩
    rw [← hz] at G6 ⊢
    clear hz
    generalize U5.alloc (.cells (ndC Y (.slice ea en ec)) 195) = U6 at G6 hx ⊢
    refine hK.out _ _ hx (fun hHeld => ?_)
    clear hK K
    try simp only [List.getElem_toArray, List.getElem_cons_succ, List.getElem_cons_zero, Act.put, List.setIfInBounds_toArray, List.set_cons_zero, List.set_cons_succ]
    refine wpAnyH_ready (rs := [4]) (by kernel_rfl) (by simp) ?_
    refine AllReadyH.cons rfl (fun K hK => ?_) AllReadyH.nil
    have k0 : U6.cell? ⟨t, 0, none⟩ = some (.slice none 0 0) := by rw [cell_of_block G6.out.2.2.2.1]; rfl
    go_simp
    clear k0
    refine hK.out _ _ hHeld (fun hHeld => ?_)
    clear hK K
    try simp only [List.getElem_toArray, List.getElem_cons_succ, List.getElem_cons_zero, Act.put, List.setIfInBounds_toArray, List.set_cons_zero, List.set_cons_succ]
    refine wpAnyH_ready (rs := [9]) (by kernel_rfl) (by simp) ?_
    refine AllReadyH.cons rfl (fun K hK => ?_) AllReadyH.nil
    refine step_app_one rfl (.tmp 31) (.tmp 35) 34 rfl 195 i0 _ 33 56 Tryz.underlying34 HI.out.1 HI.out.2.1 HI.out.2.2.1 HI.out.2.2.2 (by simp [Value.cells]) (by decide) (by decide) rfl z 1 rfl (ndC Y (.slice ea en ec)).toList (by simp) (fun j u hu => by obtain ⟨hj, rfl⟩ := nd_at hu; rw [cell_of_block G6.out.2.2.2.2]; exact Kc.get_vec 33 _ j hj) nd_one (fun B cap U7 hb hB hcap hcs => ?_)
    have hx : (fun w' : World => w'.heap[q]? = some (.cells (Kc.vec 32 (Kc.byt Y)) 33)) U7 := (hb.block _ (heap_lt hHeld)).trans hHeld
    have G7 : Hid (GrowT t k w U7 ∧ U7.heap[w.heap.size]? = some (.cells z32 33) ∧ w.heap.size < q ∧ U7.heap[t]? = some (.cells #[.slice none 0 0, .map (some k)] 150) ∧ (∀ j, j < 33 → U7.cell? ⟨B, j, none⟩ = some (ndF Y (.slice ea en ec) j)) ∧ 1 ≤ cap ∧ B ≠ t ∧ w.heap.size < B ∧ t ≠ q) := ⟨G6.out.1.trans (GrowT.of_below hb), (hb.block _ (heap_lt G6.out.2.1)).trans G6.out.2.1, G6.out.2.2.1, (hb.block _ (heap_lt G6.out.2.2.2.1)).trans G6.out.2.2.2.1, fun j hj => hcs j _ (by rw [Array.getElem?_toList]; exact Kc.get_vec 33 _ j hj), hcap, by have := heap_lt G6.out.2.2.2.1; omega, by have := heap_lt G6.out.2.1; omega, by have := HP.out.2.2.2.1; have := G6.out.2.2.1; omega⟩
    clear hb hB hcap hcs G6 HI
    refine hK.out _ _ hx (fun hHeld => ?_)
    clear hK K
    try simp only [List.getElem_toArray, List.getElem_cons_succ, List.getElem_cons_zero, Act.put, List.setIfInBounds_toArray, List.set_cons_zero, List.set_cons_succ]
    refine wpAnyH_take (i := 10) (v := .pointer (some ⟨t, 0, none⟩)) rfl (by kernel_rfl) (by kernel_rfl) (by kernel_rfl) (fun _ _ _ h => h) (Or.inl ⟨by rfl, fun w9 hSw => ?_⟩) hHeld ?_
    · go_simp
    simp only [List.getElem_toArray, List.getElem_cons_succ, List.getElem_cons_zero, Act.put, List.setIfInBounds_toArray, List.set_cons_zero, List.set_cons_succ]
    refine wpAnyH_take (i := 11) (v := .pointer (some ⟨t, 0, none⟩)) rfl (by kernel_rfl) (by kernel_rfl) (by kernel_rfl) (fun _ _ _ h => h) (Or.inl ⟨by rfl, fun w9 hSw => ?_⟩) hHeld ?_
    · go_simp
    simp only [List.getElem_toArray, List.getElem_cons_succ, List.getElem_cons_zero, Act.put, List.setIfInBounds_toArray, List.set_cons_zero, List.set_cons_succ]
    refine wpAnyH_ready (rs := [12]) (by kernel_rfl) (by simp) ?_
    refine AllReadyH.cons rfl (fun K hK => ?_) AllReadyH.nil
    have f0 : U7.frozen? ⟨t, 0, none⟩ = false := unfrozen_of_block G7.out.2.2.2.1 0
    have c0 : U7.cell? ⟨t, 0, none⟩ = some (.slice none 0 0) := by rw [cell_of_block G7.out.2.2.2.1]; rfl
    go_simp
    have hqt : q ≠ t := fun h => G7.out.2.2.2.2.2.2.2.2 h.symm
    have hx : (fun w' : World => w'.heap[q]? = some (.cells (Kc.vec 32 (Kc.byt Y)) 33)) (U7.setCell ⟨t, 0, none⟩ (.slice (some ⟨B, 0, none⟩) 1 cap)) := (Below.heap_setCell _ _ _ _ hqt).trans hHeld
    have ht2 : (U7.setCell ⟨t, 0, none⟩ (.slice (some ⟨B, 0, none⟩) 1 cap)).heap[t]? = some (.cells #[.slice (some ⟨B, 0, none⟩) 1 cap, .map (some k)] 150) := heap_setCell_same _ _ 0 _ 150 _ G7.out.2.2.2.1
    have G8 : Hid (GrowT t k w (U7.setCell ⟨t, 0, none⟩ (.slice (some ⟨B, 0, none⟩) 1 cap)) ∧ (U7.setCell ⟨t, 0, none⟩ (.slice (some ⟨B, 0, none⟩) 1 cap)).heap[w.heap.size]? = some (.cells z32 33) ∧ (U7.setCell ⟨t, 0, none⟩ (.slice (some ⟨B, 0, none⟩) 1 cap)).heap[t]? = some (.cells #[.slice (some ⟨B, 0, none⟩) 1 cap, .map (some k)] 150) ∧ (∀ j, j < 33 → (U7.setCell ⟨t, 0, none⟩ (.slice (some ⟨B, 0, none⟩) 1 cap)).cell? ⟨B, j, none⟩ = some (ndF Y (.slice ea en ec) j)) ∧ 1 ≤ cap ∧ w.heap.size < B ∧ (fun w' : World => w'.heap[q]? = some (.cells (Kc.vec 32 (Kc.byt Y)) 33)) (U7.setCell ⟨t, 0, none⟩ (.slice (some ⟨B, 0, none⟩) 1 cap))) := ⟨G7.out.1.trans (GrowT.cell _ _ _), (Below.heap_setCell _ _ _ _ (by have := HP.out.2.2.2.1; show w.heap.size ≠ t; omega)).trans G7.out.2.1, ht2, fun j hj => (World.cell?_of_block (w := U7) (Below.heap_setCell _ _ _ _ (show B ≠ t from G7.out.2.2.2.2.2.2.1))).trans (G7.out.2.2.2.2.1 j hj), G7.out.2.2.2.2.2.1, G7.out.2.2.2.2.2.2.2.1, hx⟩
    clear G7 ht2 hqt f0 c0
    generalize U7.setCell ⟨t, 0, none⟩ (.slice (some ⟨B, 0, none⟩) 1 cap) = U8 at G8 hx ⊢
    refine hK.out _ _ hx (fun hHeld => ?_)
    clear hK K
    try simp only [List.getElem_toArray, List.getElem_cons_succ, List.getElem_cons_zero, Act.put, List.setIfInBounds_toArray, List.set_cons_zero, List.set_cons_succ]
    refine wpAnyH_done (by kernel_rfl) ?_ _
    simp only [noP]
    clear hHeld hx
    go_wp2_with (first | (refine wpList_load_r (o := { dst := some 39, op := Op.load 33 (Operand.tmp 5), type := 33, pos := "tell.go:51", after := _, guard := none }) rfl 33 _ rfl ⟨q, 0, none⟩ rfl (.agg (Kc.vec 32 (Kc.byt Y))) (by exact load33 G8.out.2.2.2.2.2.2) ?_) | (refine wpList_store_row rfl 33 _ _ rfl w.heap.size (Kc.vec 32 (Kc.byt Y)) rfl rfl 33 _ G8.out.2.1 (Kc.info29v _) (by simp) (Kc.one_byt _ _) ?_))
    refine bodyPost_ret (results_cell_row rfl _ _ _ _ _ _ _ rfl (setRow_heap _ _ _ _ _ _ G8.out.2.1) Tryz.underlying33 rfl (Kc.info29v _)) rfl ⟨rfl, ?_, B, cap, G8.out.2.2.2.2.1, (setRow_other _ _ _ _ (by have := HP.out.2.2.2.1; omega)).trans G8.out.2.2.1, fun j hj => (World.cell?_of_block (w := U8) (setRow_other _ _ _ _ (by show B ≠ _; have := G8.out.2.2.2.2.2.1; omega))).trans (G8.out.2.2.2.1 j hj)⟩
    exact ⟨G8.out.1.os, G8.out.1.tape, G8.out.1.output, by have := G8.out.1.size; simpa [World.setRow] using this, fun i hi h1 h2 => (setRow_other _ _ _ _ (by omega)).trans (G8.out.1.block i hi h1 h2)⟩
end Go.Proofs.YtboeokmaepchgaaGreatDoor
