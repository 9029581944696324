/- VP, VQ, VR, laid into one text. -/
import Derived.Test.YtboeokmaepchgaaGreatDoorM36
/- state: accounts of a state that has one, with five. -/
namespace Go.Proofs.YtboeokmaepchgaaGreatDoor
open Go.RowKit Go.Maps Go.Joins Go.Shelf
set_option linter.unusedSimpArgs false
set_option linter.unusedVariables false
theorem wpList_load_r {P : Program} {ops : Array Oper} {rest : List Oper} {o : Oper} {a : Act} {w : World} {Q : Exit → Act → World → Prop} (hgd : o.guard = none) (ty : TypeId) (x : Operand) (ho : o.op = .load ty x)
    (g : Addr) (hx : a.eval x = .pointer (some g)) (v : Value) (hl : (loadVar ty g).run P w = .ok v w) (h : wpList P ops Q rest (a.put o.dst v) w) : wpList P ops Q (o :: rest) a w := by
  refine wpList_plain hgd fun K hK' => ?_
  unfold Oper.wp
  rw [Kc.run_load_exec ty x ho g hx hl]
  exact hK' _ _ h
/-- A slice of one pair: a key that is a hash, and its value. -/
structure OneP (w : World) (v : Value) (K : Nat → BitVec 8) (vs : List Int) : Prop where
  ex : ∃ B cap g va vc, v = .slice (some ⟨B, 0, none⟩) 1 cap ∧ 1 ≤ cap ∧ w.cell? ⟨B, 0, none⟩ = some (.slice (some ⟨g, 0, none⟩) 32 32) ∧ w.cell? ⟨B, 1, none⟩ = some (.slice va vs.length vc) ∧ w.heap[g]? = some (.cells (Kc.vec 32 (Kc.byt K)) 33) ∧ BytesV w (.slice va vs.length vc) vs
theorem OneP.below {w w' : World} {v : Value} {K : Nat → BitVec 8} {vs : List Int} (h : OneP w v K vs) (hb : Below w.heap.size w w') : OneP w' v K vs := by
  obtain ⟨B, cap, g, va, vc, h1, h2, h3, h4, h5, h6⟩ := h.ex
  exact ⟨B, cap, g, va, vc, h1, h2, (hb.cell (p := ⟨B, 0, none⟩) (by have := block_lt_of_cell h3; simpa using this)).trans h3, (hb.cell (p := ⟨B, 1, none⟩) (by have := block_lt_of_cell h4; simpa using this)).trans h4, (hb.block _ (heap_lt h5)).trans h5, h6.below hb⟩
theorem load_one {w w' : World} {A : Nat → BitVec 8} {B cap : Nat} (h : OneA w w' A B cap) : (loadVar 43 ⟨B, 0, none⟩).run Tryz.prog w' = .ok (.agg (adV A)) w' :=
  Kc.run_loadVar_mid w' B 0 20 43 5 (Kc.byt A) (fun j hj => by rw [Nat.zero_add]; exact h.cs j hj) Tryz.underlying43 (by kernel_rfl)
theorem look_one (A D E : Nat → BitVec 8) : lookB 20 (fun j => Kc.I8 (A j)) [(fun j => Kc.I8 (A j), .agg (fvA D E), 0)] (.agg zAc) = .agg (fvA D E) := by
  unfold lookB findA
  rw [if_pos (fun _ _ => rfl)]
set_option maxRecDepth 100000 in
set_option maxHeartbeats 16000000 in
theorem accounts_one {w : World} {t b k m1 m2 tr : Nat} {nd lg jr sn : Value} {rf : Int} (A D E Y : Nat → BitVec 8) (hD : D = Kc.digest (Kc.mB Kc.eM) 1) (hY : Y = Kc.digest (Kc.mB (rwB 20 A)) 20) (hp : Kc.PathIn w) (h : StT w t b k m1 m2 tr nd lg jr sn rf D #[⟨.agg (adV A), .agg (fvA D E), 0⟩] 1) :
    Calls Tryz.prog 66 #[.pointer (some ⟨t, 0, none⟩)] w fun e w' => ∃ v, e = .returned v ∧ OneP w' v Y (encR (ndT D E)) ∧ Below w.heap.size w w' := by
  have H0 : Hid (StT w t b k m1 m2 tr nd lg jr sn rf D #[⟨.agg (adV A), .agg (fvA D E), 0⟩] 1 ∧ Kc.PathIn w ∧ 1 < w.heap.size ∧ D = Kc.digest (Kc.mB Kc.eM) 1 ∧ Y = Kc.digest (Kc.mB (rwB 20 A)) 20) := ⟨h, hp, Kc.pathIn_pos hp, hD, hY⟩
  obtain ⟨k0, k1⟩ := h.cells
  clear h hp hD hY
  go_enter Tryz.func66, Tryz.ntmps66
  go_wp2_with fail
  refine Calls.mono (slotCh_none H0.out.1.st H0.out.1.m2) ?_
  rintro e W1 ⟨hb1, g, rfl, hg, _⟩
  have H1 : Hid (StT W1 t b k m1 m2 tr nd lg jr sn rf D #[⟨.agg (adV A), .agg (fvA D E), 0⟩] 1 ∧ Below w.heap.size w W1 ∧ W1.heap[g]? = some (.map #[] 0)) := ⟨H0.out.1.below hb1, hb1, hg⟩
  obtain ⟨k2, k3⟩ := H1.out.1.cells
  clear hb1 hg k0 k1
  go_wp2_with fail
  refine Calls.mono (keys_any m1) ?_
  rintro e W2 ⟨rfl, rfl⟩
  have hb2 : Below W1.heap.size W1 (W1.alloc (.cells #[.map (some m1)] 92)) := by go_grown
  have HC : Hid _ := sorted_one (w := W1.alloc (.cells #[.map (some m1)] 92)) (X := W1.heap.size) (m1 := m1) (c := 1) A (.func (.func 108) #[] #[]) (by rw [cell_of_block (heap_alloc_new _ _)]; rfl) (H1.out.1.below hb2).m1 (by decide)
  have H2 : Hid (StT (W1.alloc (.cells #[.map (some m1)] 92)) t b k m1 m2 tr nd lg jr sn rf D #[⟨.agg (adV A), .agg (fvA D E), 0⟩] 1 ∧ Below w.heap.size w (W1.alloc (.cells #[.map (some m1)] 92)) ∧ (W1.alloc (.cells #[.map (some m1)] 92)).heap[g]? = some (.map #[] 0)) := ⟨H1.out.1.below hb2, H1.out.2.1.trans (hb2.mono H1.out.2.1.size), (hb2.block _ (heap_lt H1.out.2.2)).trans H1.out.2.2⟩
  clear k2 k3 hb2 H1
  generalize W1.alloc (.cells #[.map (some m1)] 92) = W2 at HC H2 ⊢
  go_wp2_with fail
  refine Calls.mono HC.out ?_
  rintro e W3 ⟨hb3, B, cap, rfl, ho⟩
  have H3 : Hid (StT W3 t b k m1 m2 tr nd lg jr sn rf D #[⟨.agg (adV A), .agg (fvA D E), 0⟩] 1 ∧ Below w.heap.size w W3 ∧ W3.heap[g]? = some (.map #[] 0) ∧ OneA W2 W3 A B cap) := ⟨H2.out.1.below hb3, H2.out.2.1.trans (hb3.mono H2.out.2.1.size), (hb3.block _ (heap_lt H2.out.2.2)).trans H2.out.2.2, ho⟩
  clear hb3 ho HC
  go_wp2_with fail
  refine wp_loop_rounds 2 ?_
  rw [rounds_succ]
  go_wp2_with (first | (refine wpList_load_r (o := { dst := some 25, op := Op.load 43 (Operand.tmp 24), type := 43, pos := "root.go:39", after := _, guard := none }) rfl 43 _ rfl ⟨B, 0, none⟩ rfl (.agg (adV A)) (by exact load_one H3.out.2.2.2) ?_) | (refine wpList_store_row rfl 43 _ _ rfl W3.heap.size (adV A) rfl rfl 43 _ (heap_alloc_new _ _) (info43v _) (by simp) (Kc.one_byt _ _) ?_; rw [World.setRow_alloc_new]))
  have hb4 : Below W3.heap.size W3 (W3.alloc (.cells (adV A) 43)) := by go_grown
  have H4 : Hid (StT (W3.alloc (.cells (adV A) 43)) t b k m1 m2 tr nd lg jr sn rf D #[⟨.agg (adV A), .agg (fvA D E), 0⟩] 1 ∧ Below w.heap.size w (W3.alloc (.cells (adV A) 43)) ∧ (W3.alloc (.cells (adV A) 43)).heap[g]? = some (.map #[] 0) ∧ (W3.alloc (.cells (adV A) 43)).heap[W3.heap.size]? = some (.cells (adV A) 43)) := ⟨H3.out.1.below hb4, H3.out.2.1.trans (hb4.mono H3.out.2.1.size), (hb4.block _ (heap_lt H3.out.2.2.1)).trans H3.out.2.2.1, heap_alloc_new _ _⟩
  clear hb4 H3 H2
  obtain ⟨p, hp⟩ : ∃ p, p = W3.heap.size := ⟨_, rfl⟩
  rw [← hp] at H4 ⊢
  clear hp
  generalize W3.alloc (.cells (adV A) 43) = W4 at H4 ⊢
  refine wp_noP ?_
  refine wp_region_held_drew (S := (fun w' : World => StT w' t b k m1 m2 tr nd lg jr sn rf D #[⟨.agg (adV A), .agg (fvA D E), 0⟩] 1 ∧ w'.heap[p]? = some (.cells (adV A) 43) ∧ w'.heap[g]? = some (.map #[] 0) ∧ Kc.PathIn w' ∧ 1 < w'.heap.size)) (by kernel_rfl) ⟨⟨H4.out.1.te, H4.out.1.st, H4.out.1.m1, H4.out.1.m2⟩, H4.out.2.2.2, H4.out.2.2.1, (show Kc.PathIn W4 from H0.out.2.1.below H4.out.2.1 H0.out.2.2.1), (show 1 < W4.heap.size from Nat.lt_of_lt_of_le H0.out.2.2.1 H4.out.2.1.size)⟩ (fun hHeld => ?_)
  have G0 : Hid (Below w.heap.size w W4.drew) := ⟨H4.out.2.1.os, H4.out.2.1.tape, H4.out.2.1.output, H4.out.2.1.size, H4.out.2.1.block⟩
  clear H4
  generalize W4.drew = U0 at G0 hHeld ⊢
  refine wpAnyH_take (i := 0) (v := .slice none 0 0) rfl (by kernel_rfl) (by kernel_rfl) (by kernel_rfl) (fun _ _ _ h => h) (Or.inl ⟨by rfl, fun w9 hSw => ?_⟩) hHeld ?_
  · go_simp
  simp only [List.getElem_toArray, List.getElem_cons_succ, List.getElem_cons_zero, Act.put, List.setIfInBounds_toArray, List.set_cons_zero, List.set_cons_succ]
  refine wpAnyH_take (i := 1) (v := .slice (some ⟨p, 0, none⟩) 20 20) rfl (by kernel_rfl) (by kernel_rfl) (by kernel_rfl) (fun _ _ _ h => h) (Or.inl ⟨by rfl, fun w9 hSw => ?_⟩) hHeld ?_
  · go_simp
  simp only [List.getElem_toArray, List.getElem_cons_succ, List.getElem_cons_zero, Act.put, List.setIfInBounds_toArray, List.set_cons_zero, List.set_cons_succ]
  refine wpAnyH_take (i := 2) (v := .pointer (some ⟨t, 0, none⟩)) rfl (by kernel_rfl) (by kernel_rfl) (by kernel_rfl) (fun _ _ _ h => h) (Or.inl ⟨by rfl, fun w9 hSw => ?_⟩) hHeld ?_
  · go_simp
  simp only [List.getElem_toArray, List.getElem_cons_succ, List.getElem_cons_zero, Act.put, List.setIfInBounds_toArray, List.set_cons_zero, List.set_cons_succ]
  refine wpAnyH_take (i := 3) (v := .pointer (some ⟨t, 0, none⟩)) rfl (by kernel_rfl) (by kernel_rfl) (by kernel_rfl) (fun _ _ _ h => h) (Or.inl ⟨by rfl, fun w9 hSw => ?_⟩) hHeld ?_
  · go_simp
  simp only [List.getElem_toArray, List.getElem_cons_succ, List.getElem_cons_zero, Act.put, List.setIfInBounds_toArray, List.set_cons_zero, List.set_cons_succ]
  refine wpAnyH_take (i := 4) (v := .pointer (some ⟨t, 0, none⟩)) rfl (by kernel_rfl) (by kernel_rfl) (by kernel_rfl) (fun _ _ _ h => h) (Or.inl ⟨by rfl, fun w9 hSw => ?_⟩) hHeld ?_
  · go_simp
  simp only [List.getElem_toArray, List.getElem_cons_succ, List.getElem_cons_zero, Act.put, List.setIfInBounds_toArray, List.set_cons_zero, List.set_cons_succ]
  refine wpAnyH_take (i := 5) (v := .pointer (some ⟨t, 0, none⟩)) rfl (by kernel_rfl) (by kernel_rfl) (by kernel_rfl) (fun _ _ _ h => h) (Or.inl ⟨by rfl, fun w9 hSw => ?_⟩) hHeld ?_
  · go_simp
  simp only [List.getElem_toArray, List.getElem_cons_succ, List.getElem_cons_zero, Act.put, List.setIfInBounds_toArray, List.set_cons_zero, List.set_cons_succ]
  refine wpAnyH_take (i := 6) (v := .pointer (some ⟨b, 0, none⟩)) rfl (by kernel_rfl) (by kernel_rfl) (by kernel_rfl) (fun _ _ _ h => h) (Or.inl ⟨by rfl, fun w9 hSw => ?_⟩) hHeld ?_
  · have k0 := hSw.1.cells.1
    go_simp
  simp only [List.getElem_toArray, List.getElem_cons_succ, List.getElem_cons_zero, Act.put, List.setIfInBounds_toArray, List.set_cons_zero, List.set_cons_succ]
  refine wpAnyH_take (i := 7) (v := .pointer (some ⟨b, 0, none⟩)) rfl (by kernel_rfl) (by kernel_rfl) (by kernel_rfl) (fun _ _ _ h => h) (Or.inl ⟨by rfl, fun w9 hSw => ?_⟩) hHeld ?_
  · go_simp
  simp only [List.getElem_toArray, List.getElem_cons_succ, List.getElem_cons_zero, Act.put, List.setIfInBounds_toArray, List.set_cons_zero, List.set_cons_succ]
  refine wpAnyH_take (i := 8) (v := .pointer (some ⟨b, 34, none⟩)) rfl (by kernel_rfl) (by kernel_rfl) (by kernel_rfl) (fun _ _ _ h => h) (Or.inl ⟨by rfl, fun w9 hSw => ?_⟩) hHeld ?_
  · go_simp
  simp only [List.getElem_toArray, List.getElem_cons_succ, List.getElem_cons_zero, Act.put, List.setIfInBounds_toArray, List.set_cons_zero, List.set_cons_succ]
  refine wpAnyH_take (i := 9) (v := .map (some m1)) rfl (by kernel_rfl) (by kernel_rfl) (by kernel_rfl) (fun _ _ _ h => h) (Or.inl ⟨by rfl, fun w9 hSw => ?_⟩) hHeld ?_
  · have k0 := hSw.1.cells.2
    go_simp
  simp only [List.getElem_toArray, List.getElem_cons_succ, List.getElem_cons_zero, Act.put, List.setIfInBounds_toArray, List.set_cons_zero, List.set_cons_succ]
  refine wpAnyH_take (i := 10) (v := .agg (adV A)) rfl (by kernel_rfl) (by kernel_rfl) (by kernel_rfl) (fun _ _ _ h => h) (Or.inl ⟨by rfl, fun w9 hSw => ?_⟩) hHeld ?_
  · exact Kc.run_load_exec 43 _ rfl _ rfl (load43 hSw.2.1)
  simp only [List.getElem_toArray, List.getElem_cons_succ, List.getElem_cons_zero, Act.put, List.setIfInBounds_toArray, List.set_cons_zero, List.set_cons_succ]
  refine wpAnyH_take (i := 11) (v := .agg (fvA D E)) rfl (by kernel_rfl) (by kernel_rfl) (by kernel_rfl) (fun _ _ _ h => h) (Or.inl ⟨by rfl, fun w9 hSw => ?_⟩) hHeld ?_
  · have hk := look92b (l := [(fun j => Kc.I8 (A j), .agg (fvA D E), 0)]) hSw.1.m1 A
    rw [look_one] at hk
    go_simp
  simp only [List.getElem_toArray, List.getElem_cons_succ, List.getElem_cons_zero, Act.put, List.setIfInBounds_toArray, List.set_cons_zero, List.set_cons_succ]
  refine wpAnyH_take (i := 12) (v := .map (some g)) rfl (by kernel_rfl) (by kernel_rfl) (by kernel_rfl) (fun _ _ _ h => h) (Or.inl ⟨by rfl, fun w9 hSw => ?_⟩) hHeld ?_
  · go_simp
  simp only [List.getElem_toArray, List.getElem_cons_succ, List.getElem_cons_zero, Act.put, List.setIfInBounds_toArray, List.set_cons_zero, List.set_cons_succ]
  refine wpAnyH_take (i := 13) (v := .agg (adV A)) rfl (by kernel_rfl) (by kernel_rfl) (by kernel_rfl) (fun _ _ _ h => h) (Or.inl ⟨by rfl, fun w9 hSw => ?_⟩) hHeld ?_
  · exact Kc.run_load_exec 43 _ rfl _ rfl (load43 hSw.2.1)
  simp only [List.getElem_toArray, List.getElem_cons_succ, List.getElem_cons_zero, Act.put, List.setIfInBounds_toArray, List.set_cons_zero, List.set_cons_succ]
  refine wpAnyH_take (i := 14) (v := .slice none 0 0) rfl (by kernel_rfl) (by kernel_rfl) (by kernel_rfl) (fun _ _ _ h => h) (Or.inl ⟨by rfl, fun w9 hSw => ?_⟩) hHeld ?_
  · have hk := look169 hSw.2.2.1 A
    go_simp
  simp only [List.getElem_toArray, List.getElem_cons_succ, List.getElem_cons_zero, Act.put, List.setIfInBounds_toArray, List.set_cons_zero, List.set_cons_succ]
  refine wpAnyH_ready (rs := [15]) (by kernel_rfl) (by simp) ?_
  refine AllReadyH.cons rfl (fun K hK => ?_) AllReadyH.nil
  have hC := acct_five (w := U0) D E H0.out.2.2.2.1 hHeld.2.2.2.1 hHeld.1.te hHeld.1.st
  go_simp
  refine Calls.mono hC ?_
  clear hC
  rintro e U1 ⟨hb, v, rfl, ho⟩
  have hx : (fun w' : World => StT w' t b k m1 m2 tr nd lg jr sn rf D #[⟨.agg (adV A), .agg (fvA D E), 0⟩] 1 ∧ w'.heap[p]? = some (.cells (adV A) 43) ∧ w'.heap[g]? = some (.map #[] 0) ∧ Kc.PathIn w' ∧ 1 < w'.heap.size) U1 := ⟨hHeld.1.below hb, (hb.block _ (heap_lt hHeld.2.1)).trans hHeld.2.1, (hb.block _ (heap_lt hHeld.2.2.1)).trans hHeld.2.2.1, hHeld.2.2.2.1.below hb hHeld.2.2.2.2, Nat.lt_of_lt_of_le hHeld.2.2.2.2 hb.size⟩
  obtain ⟨vl, hvl⟩ : ∃ n, n = (encR (ndT D E)).length := ⟨_, rfl⟩
  rw [← hvl] at ho
  obtain ⟨va, vc, rfl⟩ := row_form ho
  have G1 : Hid (Below w.heap.size w U1 ∧ BytesV U1 (.slice va vl vc) (encR (ndT D E)) ∧ vl = (encR (ndT D E)).length) := ⟨G0.out.trans (hb.mono G0.out.size), BytesV.of_own (by rw [← hvl]; exact ho), hvl⟩
  clear hb ho G0 hvl
  refine hK.out _ _ hx (fun hHeld => ?_)
  clear hK K
  try simp only [List.getElem_toArray, List.getElem_cons_succ, List.getElem_cons_zero, Act.put, List.setIfInBounds_toArray, List.set_cons_zero, List.set_cons_succ]
  refine wpAnyH_ready (rs := [16]) (by kernel_rfl) (by simp) ?_
  refine AllReadyH.cons rfl (fun K hK => ?_) AllReadyH.nil
  have hC := change_any (w := U1) (a := some ⟨p, 0, none⟩) (c := 20) (va := va) (vl := vl) (vc := vc) (bs := rwB 20 A) Y (by rw [rwB_length]; exact H0.out.2.2.2.2) hHeld.2.2.2.1 (by rw [rwB_length]; exact rwB_v hHeld.2.1) (rwB_byt 20 A) (by rw [rwB_length]; decide) (by decide) (by rw [rwB_length]; decide)
  rw [rwB_length] at hC
  go_simp
  refine Calls.mono hC ?_
  clear hC
  rintro e U2 ⟨hb, gk, rfl, _, hgk⟩
  have hx : (fun w' : World => StT w' t b k m1 m2 tr nd lg jr sn rf D #[⟨.agg (adV A), .agg (fvA D E), 0⟩] 1 ∧ w'.heap[p]? = some (.cells (adV A) 43) ∧ w'.heap[g]? = some (.map #[] 0) ∧ Kc.PathIn w' ∧ 1 < w'.heap.size) U2 := ⟨hHeld.1.below hb, (hb.block _ (heap_lt hHeld.2.1)).trans hHeld.2.1, (hb.block _ (heap_lt hHeld.2.2.1)).trans hHeld.2.2.1, hHeld.2.2.2.1.below hb hHeld.2.2.2.2, Nat.lt_of_lt_of_le hHeld.2.2.2.2 hb.size⟩
  have G2 : Hid (Below w.heap.size w U2 ∧ BytesV U2 (.slice va vl vc) (encR (ndT D E)) ∧ vl = (encR (ndT D E)).length ∧ U2.heap[gk]? = some (.cells (Kc.vec 32 (Kc.byt Y)) 33)) := ⟨G1.out.1.trans (hb.mono G1.out.1.size), G1.out.2.1.below hb, G1.out.2.2, hgk⟩
  clear hb hgk G1
  refine hK.out _ _ hx (fun hHeld => ?_)
  clear hK K
  try simp only [List.getElem_toArray, List.getElem_cons_succ, List.getElem_cons_zero, Act.put, List.setIfInBounds_toArray, List.set_cons_zero, List.set_cons_succ]
  refine wpAnyH_ready (rs := [17]) (by kernel_rfl) (by simp) ?_
  refine AllReadyH.cons rfl (fun K hK => ?_) AllReadyH.nil
  obtain ⟨i0, hi0, hz0, hz1, hz2⟩ := info142c
  have hbs := build_one (P := Tryz.prog) U2 29 142 2 #[.slice (some ⟨gk, 0, none⟩) 32 32, .slice va vl vc] i0 _ Tryz.underlying29 hi0 hz0 hz1 rfl (by decide) (by decide)
  have HI : Hid (Tryz.prog.info? 142 = some i0 ∧ i0.zero = some (.agg #[.slice none 0 0, .slice none 0 0]) ∧ i0.size = 2 ∧ i0.bytes = 48) := ⟨hi0, hz0, hz1, hz2⟩
  clear hi0 hz0 hz1 hz2
  go_simp
  have hb : Below U2.heap.size U2 (U2.alloc (.cells #[.slice (some ⟨gk, 0, none⟩) 32 32, .slice va vl vc] 142)) := by go_grown
  have hx : (fun w' : World => StT w' t b k m1 m2 tr nd lg jr sn rf D #[⟨.agg (adV A), .agg (fvA D E), 0⟩] 1 ∧ w'.heap[p]? = some (.cells (adV A) 43) ∧ w'.heap[g]? = some (.map #[] 0) ∧ Kc.PathIn w' ∧ 1 < w'.heap.size) (U2.alloc (.cells #[.slice (some ⟨gk, 0, none⟩) 32 32, .slice va vl vc] 142)) := ⟨hHeld.1.below hb, (hb.block _ (heap_lt hHeld.2.1)).trans hHeld.2.1, (hb.block _ (heap_lt hHeld.2.2.1)).trans hHeld.2.2.1, hHeld.2.2.2.1.below hb hHeld.2.2.2.2, Nat.lt_of_lt_of_le hHeld.2.2.2.2 hb.size⟩
  have G3 : Hid (Below w.heap.size w (U2.alloc (.cells #[.slice (some ⟨gk, 0, none⟩) 32 32, .slice va vl vc] 142)) ∧ BytesV (U2.alloc (.cells #[.slice (some ⟨gk, 0, none⟩) 32 32, .slice va vl vc] 142)) (.slice va vl vc) (encR (ndT D E)) ∧ vl = (encR (ndT D E)).length ∧ (U2.alloc (.cells #[.slice (some ⟨gk, 0, none⟩) 32 32, .slice va vl vc] 142)).heap[gk]? = some (.cells (Kc.vec 32 (Kc.byt Y)) 33) ∧ (U2.alloc (.cells #[.slice (some ⟨gk, 0, none⟩) 32 32, .slice va vl vc] 142)).heap[U2.heap.size]? = some (.cells #[.slice (some ⟨gk, 0, none⟩) 32 32, .slice va vl vc] 142)) := ⟨G2.out.1.trans (hb.mono G2.out.1.size), G2.out.2.1.below hb, G2.out.2.2.1, (hb.block _ (heap_lt G2.out.2.2.2)).trans G2.out.2.2.2, heap_alloc_new _ _⟩
  clear hb hbs G2
  obtain ⟨q, hq⟩ : ∃ q, q = U2.heap.size := ⟨_, rfl⟩
  rw [← hq] at G3 ⊢
  clear hq
  generalize U2.alloc (.cells #[.slice (some ⟨gk, 0, none⟩) 32 32, .slice va vl vc] 142) = U3 at G3 hx ⊢
  refine hK.out _ _ hx (fun hHeld => ?_)
  clear hK K
  try simp only [List.getElem_toArray, List.getElem_cons_succ, List.getElem_cons_zero, Act.put, List.setIfInBounds_toArray, List.set_cons_zero, List.set_cons_succ]
  refine wpAnyH_ready (rs := [18]) (by kernel_rfl) (by simp) ?_
  refine AllReadyH.cons rfl (fun K hK => ?_) AllReadyH.nil
  refine step_app_one rfl (.tmp 26) (.tmp 43) 29 rfl 142 i0 _ 2 48 Tryz.underlying29 HI.out.1 HI.out.2.1 HI.out.2.2.1 HI.out.2.2.2 rfl (by decide) (by decide) rfl q 1 rfl #[.slice (some ⟨gk, 0, none⟩) 32 32, .slice va vl vc].toList rfl (fun j u hu => by rw [cell_of_block G3.out.2.2.2.2]; simpa using hu) (fun u hu => by simp at hu; rcases hu with rfl | rfl <;> rfl) (fun B2 cap2 U4 hb hB hcap hcs => ?_)
  have hx : (fun w' : World => StT w' t b k m1 m2 tr nd lg jr sn rf D #[⟨.agg (adV A), .agg (fvA D E), 0⟩] 1 ∧ w'.heap[p]? = some (.cells (adV A) 43) ∧ w'.heap[g]? = some (.map #[] 0) ∧ Kc.PathIn w' ∧ 1 < w'.heap.size) U4 := ⟨hHeld.1.below hb, (hb.block _ (heap_lt hHeld.2.1)).trans hHeld.2.1, (hb.block _ (heap_lt hHeld.2.2.1)).trans hHeld.2.2.1, hHeld.2.2.2.1.below hb hHeld.2.2.2.2, Nat.lt_of_lt_of_le hHeld.2.2.2.2 hb.size⟩
  have G4 : Hid (Below w.heap.size w U4 ∧ OneP U4 (.slice (some ⟨B2, 0, none⟩) 1 cap2) Y (encR (ndT D E))) := ⟨G3.out.1.trans (hb.mono G3.out.1.size), ⟨B2, cap2, gk, va, vc, rfl, hcap, hcs 0 _ rfl, by rw [← G3.out.2.2.1]; exact hcs 1 _ rfl, (hb.block _ (heap_lt G3.out.2.2.2.1)).trans G3.out.2.2.2.1, by rw [← G3.out.2.2.1]; exact G3.out.2.1.below hb⟩⟩
  clear hb hB hcap hcs G3 HI
  refine hK.out _ _ hx (fun hHeld => ?_)
  clear hK K
  try simp only [List.getElem_toArray, List.getElem_cons_succ, List.getElem_cons_zero, Act.put, List.setIfInBounds_toArray, List.set_cons_zero, List.set_cons_succ]
  refine wpAnyH_take (i := 19) (v := .slice (some ⟨B2, 0, none⟩) 1 cap2) rfl (by kernel_rfl) (by kernel_rfl) (by kernel_rfl) (fun _ _ _ h => h) (Or.inl ⟨by rfl, fun w9 hSw => ?_⟩) hHeld ?_
  · go_simp
  simp only [List.getElem_toArray, List.getElem_cons_succ, List.getElem_cons_zero, Act.put, List.setIfInBounds_toArray, List.set_cons_zero, List.set_cons_succ]
  refine wpAnyH_done (by kernel_rfl) ?_ _
  simp only [noP]
  clear hHeld hx
  go_wp2_with fail
  rw [rounds_succ]
  go_wp2_with fail
  go_ret
  exact ⟨_, rfl, G4.out.2, G4.out.1⟩
end Go.Proofs.YtboeokmaepchgaaGreatDoor
/- trie: the item of a leaf. -/
namespace Go.Proofs.YtboeokmaepchgaaGreatDoor
open Go.RowKit Go.Maps Go.Joins Go.Shelf
set_option linter.unusedSimpArgs false
set_option linter.unusedVariables false
/-- A leaf as an item. -/
abbrev lfT (ns vs : List Int) : Tr := .mk true [] [.mk false (cpB ns true) [], .mk false vs []]
set_option maxRecDepth 100000 in
set_option maxHeartbeats 16000000 in
theorem leaf_item {w : World} {l pn pc vn vc : Nat} {pa va : Option Addr} {ns vs : List Int} (f : Value) (hl : w.heap[l]? = some (.cells #[.slice pa pn pc, .slice va vn vc] 132)) (hpn : pn = ns.length) (hvn : vn = vs.length) (hp : BytesV w (.slice pa pn pc) ns) (hv : BytesV w (.slice va vn vc) vs) (hn : Nib ns) (hn1 : ns.length ≤ 16000000) (hv1 : vs.length ≤ 140737488355328) (hcl : (cpB ns true).length ≤ 140737488355328) :
    Calls Tryz.prog 245 #[.pointer (some ⟨l, 0, none⟩), f] w fun e w' => Below w.heap.size w w' ∧ ∃ si, e = .returned (.agg #[.bool true, .slice none 0 0, si]) ∧ ItH w' (.slice none 0 0) si (lfT ns vs) := by
  have HP : Hid (w.heap[l]? = some (.cells #[.slice pa pn pc, .slice va vn vc] 132) ∧ pn = ns.length ∧ vn = vs.length ∧ BytesV w (.slice pa pn pc) ns ∧ BytesV w (.slice va vn vc) vs ∧ Nib ns ∧ ns.length ≤ 16000000 ∧ vs.length ≤ 140737488355328 ∧ (cpB ns true).length ≤ 140737488355328) := ⟨hl, hpn, hvn, hp, hv, hn, hn1, hv1, hcl⟩
  have H0 : Hid (Below w.heap.size w (w.alloc (.cells #[.bool false, .slice none 0 0, .slice none 0 0] 154)) ∧ (w.alloc (.cells #[.bool false, .slice none 0 0, .slice none 0 0] 154)).heap[w.heap.size]? = some (.cells #[.bool false, .slice none 0 0, .slice none 0 0] 154)) := ⟨by go_grown, heap_alloc_new _ _⟩
  clear hl hpn hvn hp hv hn hn1 hv1 hcl
  go_enter Tryz.func245, Tryz.ntmps245
  go_wp2_with fail
  generalize w.alloc (.cells #[.bool false, .slice none 0 0, .slice none 0 0] 154) = W0 at H0 ⊢
  refine wp_noP ?_
  refine wp_region_held_drew (S := (fun w' : World => w'.heap[l]? = some (.cells #[.slice pa pn pc, .slice va vn vc] 132))) (by kernel_rfl) ((H0.out.1.block _ (heap_lt HP.out.1)).trans HP.out.1) (fun hHeld => ?_)
  have G0 : Hid (Below w.heap.size w W0.drew ∧ W0.drew.heap[w.heap.size]? = some (.cells #[.bool false, .slice none 0 0, .slice none 0 0] 154)) := ⟨⟨H0.out.1.os, H0.out.1.tape, H0.out.1.output, H0.out.1.size, H0.out.1.block⟩, H0.out.2⟩
  clear H0
  generalize W0.drew = U0 at G0 hHeld ⊢
  refine wpAnyH_take (i := 0) (v := .pointer (some ⟨l, 0, none⟩)) rfl (by kernel_rfl) (by kernel_rfl) (by kernel_rfl) (fun _ _ _ h => h) (Or.inl ⟨by rfl, fun w9 hSw => ?_⟩) hHeld ?_
  · go_simp
  simp only [List.getElem_toArray, List.getElem_cons_succ, List.getElem_cons_zero, Act.put, List.setIfInBounds_toArray, List.set_cons_zero, List.set_cons_succ]
  refine wpAnyH_take (i := 1) (v := .pointer (some ⟨l, 0, none⟩)) rfl (by kernel_rfl) (by kernel_rfl) (by kernel_rfl) (fun _ _ _ h => h) (Or.inl ⟨by rfl, fun w9 hSw => ?_⟩) hHeld ?_
  · go_simp
  simp only [List.getElem_toArray, List.getElem_cons_succ, List.getElem_cons_zero, Act.put, List.setIfInBounds_toArray, List.set_cons_zero, List.set_cons_succ]
  refine wpAnyH_take (i := 2) (v := .pointer (some ⟨l, 0, none⟩)) rfl (by kernel_rfl) (by kernel_rfl) (by kernel_rfl) (fun _ _ _ h => h) (Or.inl ⟨by rfl, fun w9 hSw => ?_⟩) hHeld ?_
  · go_simp
  simp only [List.getElem_toArray, List.getElem_cons_succ, List.getElem_cons_zero, Act.put, List.setIfInBounds_toArray, List.set_cons_zero, List.set_cons_succ]
  refine wpAnyH_take (i := 3) (v := .slice pa pn pc) rfl (by kernel_rfl) (by kernel_rfl) (by kernel_rfl) (fun _ _ _ h => h) (Or.inl ⟨by rfl, fun w9 hSw => ?_⟩) hHeld ?_
  · have k0 : w9.cell? ⟨l, 0, none⟩ = some (.slice pa pn pc) := by rw [cell_of_block hSw]; rfl
    go_simp
  simp only [List.getElem_toArray, List.getElem_cons_succ, List.getElem_cons_zero, Act.put, List.setIfInBounds_toArray, List.set_cons_zero, List.set_cons_succ]
  refine wpAnyH_take (i := 6) (v := .pointer (some ⟨l, 0, none⟩)) rfl (by kernel_rfl) (by kernel_rfl) (by kernel_rfl) (fun _ _ _ h => h) (Or.inl ⟨by rfl, fun w9 hSw => ?_⟩) hHeld ?_
  · go_simp
  simp only [List.getElem_toArray, List.getElem_cons_succ, List.getElem_cons_zero, Act.put, List.setIfInBounds_toArray, List.set_cons_zero, List.set_cons_succ]
  refine wpAnyH_take (i := 7) (v := .pointer (some ⟨l, 0, none⟩)) rfl (by kernel_rfl) (by kernel_rfl) (by kernel_rfl) (fun _ _ _ h => h) (Or.inl ⟨by rfl, fun w9 hSw => ?_⟩) hHeld ?_
  · go_simp
  simp only [List.getElem_toArray, List.getElem_cons_succ, List.getElem_cons_zero, Act.put, List.setIfInBounds_toArray, List.set_cons_zero, List.set_cons_succ]
  refine wpAnyH_take (i := 8) (v := .pointer (some ⟨l, 1, none⟩)) rfl (by kernel_rfl) (by kernel_rfl) (by kernel_rfl) (fun _ _ _ h => h) (Or.inl ⟨by rfl, fun w9 hSw => ?_⟩) hHeld ?_
  · go_simp
  simp only [List.getElem_toArray, List.getElem_cons_succ, List.getElem_cons_zero, Act.put, List.setIfInBounds_toArray, List.set_cons_zero, List.set_cons_succ]
  refine wpAnyH_take (i := 9) (v := .slice va vn vc) rfl (by kernel_rfl) (by kernel_rfl) (by kernel_rfl) (fun _ _ _ h => h) (Or.inl ⟨by rfl, fun w9 hSw => ?_⟩) hHeld ?_
  · have k0 : w9.cell? ⟨l, 1, none⟩ = some (.slice va vn vc) := by rw [cell_of_block hSw]; rfl
    go_simp
  simp only [List.getElem_toArray, List.getElem_cons_succ, List.getElem_cons_zero, Act.put, List.setIfInBounds_toArray, List.set_cons_zero, List.set_cons_succ]
  refine wpAnyH_ready (rs := [4]) (by kernel_rfl) (by simp) ?_
  refine AllReadyH.cons rfl (fun K hK => ?_) AllReadyH.nil
  have hC := compact_any (w := U0) (a := pa) (cap := pc) (ns := ns) true (by rw [← HP.out.2.1]; exact HP.out.2.2.2.1.below G0.out.1) HP.out.2.2.2.2.2.1 HP.out.2.2.2.2.2.2.1
  rw [← HP.out.2.1] at hC
  go_simp
  refine Calls.mono hC ?_
  clear hC
  rintro e U1 ⟨cv, rfl, ho, hb⟩
  have hx : (fun w' : World => w'.heap[l]? = some (.cells #[.slice pa pn pc, .slice va vn vc] 132)) U1 := (hb.block _ (heap_lt hHeld)).trans hHeld
  obtain ⟨cl, hcl⟩ : ∃ n, n = (cpB ns true).length := ⟨_, rfl⟩
  have hcb : BytesV U1 cv (cpB ns true) := BytesV.of_own ho
  rw [← hcl] at ho
  obtain ⟨ca, cc, rfl⟩ := row_form ho
  have G1 : Hid (Below w.heap.size w U1 ∧ U1.heap[w.heap.size]? = some (.cells #[.bool false, .slice none 0 0, .slice none 0 0] 154) ∧ BytesV U1 (.slice ca cl cc) (cpB ns true)) := ⟨G0.out.1.trans (hb.mono G0.out.1.size), (hb.block _ (heap_lt G0.out.2)).trans G0.out.2, hcb⟩
  clear hb ho G0 hcl hcb
  refine hK.out _ _ hx (fun hHeld => ?_)
  clear hK K
  try simp only [List.getElem_toArray, List.getElem_cons_succ, List.getElem_cons_zero, Act.put, List.setIfInBounds_toArray, List.set_cons_zero, List.set_cons_succ]
  refine wpAnyH_ready (rs := [5]) (by kernel_rfl) (by simp) ?_
  refine AllReadyH.cons rfl (fun K hK => ?_) AllReadyH.nil
  have hC := str_any (w := U1) G1.out.2.2 HP.out.2.2.2.2.2.2.2.2
  go_simp
  refine Calls.mono hC ?_
  clear hC
  rintro e U2 ⟨hb, s0, rfl, hi⟩
  have hx : (fun w' : World => w'.heap[l]? = some (.cells #[.slice pa pn pc, .slice va vn vc] 132)) U2 := (hb.block _ (heap_lt hHeld)).trans hHeld
  have G2 : Hid (Below w.heap.size w U2 ∧ U2.heap[w.heap.size]? = some (.cells #[.bool false, .slice none 0 0, .slice none 0 0] 154) ∧ ItH U2 s0 (.slice none 0 0) (.mk false (cpB ns true) [])) := ⟨G1.out.1.trans (hb.mono G1.out.1.size), (hb.block _ (heap_lt G1.out.2.1)).trans G1.out.2.1, hi.here⟩
  clear hb hi G1
  refine hK.out _ _ hx (fun hHeld => ?_)
  clear hK K
  try simp only [List.getElem_toArray, List.getElem_cons_succ, List.getElem_cons_zero, Act.put, List.setIfInBounds_toArray, List.set_cons_zero, List.set_cons_succ]
  refine wpAnyH_ready (rs := [10]) (by kernel_rfl) (by simp) ?_
  refine AllReadyH.cons rfl (fun K hK => ?_) AllReadyH.nil
  have hC := str_any (w := U2) (HP.out.2.2.2.2.1.below G2.out.1) HP.out.2.2.2.2.2.2.2.1
  go_simp
  refine Calls.mono hC ?_
  clear hC
  rintro e U3 ⟨hb, s1, rfl, hi⟩
  have hx : (fun w' : World => w'.heap[l]? = some (.cells #[.slice pa pn pc, .slice va vn vc] 132)) U3 := (hb.block _ (heap_lt hHeld)).trans hHeld
  have G3 : Hid (Below w.heap.size w U3 ∧ U3.heap[w.heap.size]? = some (.cells #[.bool false, .slice none 0 0, .slice none 0 0] 154) ∧ ItH U3 s0 (.slice none 0 0) (.mk false (cpB ns true) []) ∧ ItH U3 s1 (.slice none 0 0) (.mk false vs [])) := ⟨G2.out.1.trans (hb.mono G2.out.1.size), (hb.block _ (heap_lt G2.out.2.1)).trans G2.out.2.1, G2.out.2.2.below hb, hi.here⟩
  clear hb hi G2
  refine hK.out _ _ hx (fun hHeld => ?_)
  clear hK K
  try simp only [List.getElem_toArray, List.getElem_cons_succ, List.getElem_cons_zero, Act.put, List.setIfInBounds_toArray, List.set_cons_zero, List.set_cons_succ]
  refine wpAnyH_ready (rs := [11]) (by kernel_rfl) (by simp) ?_
  refine AllReadyH.cons rfl (fun K hK => ?_) AllReadyH.nil
  have hbs := build2 U3 ⟨.mk false (cpB ns true) [], s0, .slice none 0 0⟩ ⟨.mk false vs [], s1, .slice none 0 0⟩
  go_simp
  have hb : Below U3.heap.size U3 (U3.alloc (.cells #[.bool false, s0, .slice none 0 0, .bool false, s1, .slice none 0 0] 154)) := by go_grown
  have hx : (fun w' : World => w'.heap[l]? = some (.cells #[.slice pa pn pc, .slice va vn vc] 132)) (U3.alloc (.cells #[.bool false, s0, .slice none 0 0, .bool false, s1, .slice none 0 0] 154)) := (hb.block _ (heap_lt hHeld)).trans hHeld
  have hits := its_laid (w := U3.alloc (.cells #[.bool false, s0, .slice none 0 0, .bool false, s1, .slice none 0 0] 154)) (g := U3.heap.size) (A := [⟨.mk false (cpB ns true) [], s0, .slice none 0 0⟩, ⟨.mk false vs [], s1, .slice none 0 0⟩]) (heap_alloc_new _ _) (by
    intro f hf
    simp only [List.mem_cons, List.not_mem_nil, or_false] at hf
    rcases hf with rfl | rfl
    · exact G3.out.2.2.1.below hb
    · exact G3.out.2.2.2.below hb) (by simp)
  have G5 : Hid (Below w.heap.size w (U3.alloc (.cells #[.bool false, s0, .slice none 0 0, .bool false, s1, .slice none 0 0] 154)) ∧ (U3.alloc (.cells #[.bool false, s0, .slice none 0 0, .bool false, s1, .slice none 0 0] 154)).heap[w.heap.size]? = some (.cells #[.bool false, .slice none 0 0, .slice none 0 0] 154) ∧ ItsV (U3.alloc (.cells #[.bool false, s0, .slice none 0 0, .bool false, s1, .slice none 0 0] 154)) (fun b => b < (U3.alloc (.cells #[.bool false, s0, .slice none 0 0, .bool false, s1, .slice none 0 0] 154)).heap.size) (.slice (some ⟨U3.heap.size, 0, none⟩) 2 2) [.mk false (cpB ns true) [], .mk false vs []]) := ⟨G3.out.1.trans (hb.mono G3.out.1.size), (hb.block _ (heap_lt G3.out.2.1)).trans G3.out.2.1, hits⟩
  clear hb hits G3 hbs
  generalize U3.alloc (.cells #[.bool false, s0, .slice none 0 0, .bool false, s1, .slice none 0 0] 154) = U5 at G5 hx ⊢
  refine hK.out _ _ hx (fun hHeld => ?_)
  clear hK K
  try simp only [List.getElem_toArray, List.getElem_cons_succ, List.getElem_cons_zero, Act.put, List.setIfInBounds_toArray, List.set_cons_zero, List.set_cons_succ]
  refine wpAnyH_ready (rs := [12]) (by kernel_rfl) (by simp) ?_
  refine AllReadyH.cons rfl (fun K hK => ?_) AllReadyH.nil
  have hC := list_any (w := U5) G5.out.2.2 (fun _ h => h)
  go_simp
  refine Calls.mono hC ?_
  clear hC
  rintro e U6 ⟨hb, si, rfl, hi⟩
  obtain ⟨sa, sc, hsi, -⟩ := hi.xs.form
  subst hsi
  have hx : (fun w' : World => w'.heap[l]? = some (.cells #[.slice pa pn pc, .slice va vn vc] 132)) U6 := (hb.block _ (heap_lt hHeld)).trans hHeld
  have G6 : Hid (Below w.heap.size w U6 ∧ U6.heap[w.heap.size]? = some (.cells #[.bool false, .slice none 0 0, .slice none 0 0] 154) ∧ ItV U6 (fun b => w.heap.size < b ∧ b < U6.heap.size) (.slice none 0 0) (.slice sa 2 sc) (lfT ns vs)) := ⟨G5.out.1.trans (hb.mono G5.out.1.size), (hb.block _ (heap_lt G5.out.2.1)).trans G5.out.2.1, hi.mono (fun _ _ => rfl) (fun b hb' => ⟨by have := heap_lt G5.out.2.1; omega, hb'.2⟩)⟩
  clear hb hi G5
  refine hK.out _ _ hx (fun hHeld => ?_)
  clear hK K
  try simp only [List.getElem_toArray, List.getElem_cons_succ, List.getElem_cons_zero, Act.put, List.setIfInBounds_toArray, List.set_cons_zero, List.set_cons_succ]
  refine wpAnyH_ready (rs := [13]) (by kernel_rfl) (by simp) ?_
  refine AllReadyH.cons rfl (fun K hK => ?_) AllReadyH.nil
  refine step_store_r (by rfl) 154 _ _ (by rfl) w.heap.size #[.bool true, .slice none 0 0, .slice sa 2 sc] (by rfl) (by rfl) 154 _ G6.out.2.1 (by kernel_rfl) (by simp) (by simp [Value.oneCell']) ?_
  have hlw : l ≠ w.heap.size := by have := heap_lt HP.out.1; omega
  have hx : (fun w' : World => w'.heap[l]? = some (.cells #[.slice pa pn pc, .slice va vn vc] 132)) (U6.setRow w.heap.size #[.bool true, .slice none 0 0, .slice sa 2 sc]) := (setRow_other _ _ _ _ hlw).trans hHeld
  have hr : (U6.setRow w.heap.size #[.bool true, .slice none 0 0, .slice sa 2 sc]).heap[w.heap.size]? = some (.cells #[.bool true, .slice none 0 0, .slice sa 2 sc] 154) := setRow_heap _ _ _ _ _ _ G6.out.2.1
  have G7 : Hid (Below w.heap.size w (U6.setRow w.heap.size #[.bool true, .slice none 0 0, .slice sa 2 sc]) ∧ (U6.setRow w.heap.size #[.bool true, .slice none 0 0, .slice sa 2 sc]).heap[w.heap.size]? = some (.cells #[.bool true, .slice none 0 0, .slice sa 2 sc] 154) ∧ ItH (U6.setRow w.heap.size #[.bool true, .slice none 0 0, .slice sa 2 sc]) (.slice none 0 0) (.slice sa 2 sc) (lfT ns vs)) := ⟨((Kc.Only.refl _ _).setRow _).below G6.out.1 (by omega), hr, G6.out.2.2.mono (fun b hb' => setRow_other _ _ _ _ (by omega)) (fun b hb' => by simpa [World.setRow] using hb'.2)⟩
  clear hr hlw
  refine hK.out _ _ hx (fun hHeld => ?_)
  clear hK K
  try simp only [List.getElem_toArray, List.getElem_cons_succ, List.getElem_cons_zero, Act.put, List.setIfInBounds_toArray, List.set_cons_zero, List.set_cons_succ]
  refine wpAnyH_done (by kernel_rfl) ?_ _
  simp only [noP]
  clear hHeld hx
  go_wp2_with fail
  refine bodyPost_ret (results_cell_row rfl _ _ _ _ _ _ _ rfl G7.out.2.1 Tryz.underlying154 rfl (by kernel_rfl)) rfl ⟨G7.out.1, _, rfl, G7.out.2.2⟩
end Go.Proofs.YtboeokmaepchgaaGreatDoor
/- Told nodes: cells, the map of what is known. -/
namespace Go.Proofs.YtboeokmaepchgaaGreatDoor
open Go.RowKit Go.Maps Go.Joins Go.Shelf
set_option linter.unusedSimpArgs false
set_option linter.unusedVariables false
/-- A node that is told: its hash, its encoding. -/
def ndF (Q : Nat → BitVec 8) (e : Value) (j : Nat) : Value := if j < 32 then .int .u8 (Kc.I8 (Q j)) else e
abbrev ndC (Q : Nat → BitVec 8) (e : Value) : Array Value := Kc.vec 33 (ndF Q e)
theorem build195 (w : World) (Q : Nat → BitVec 8) (ea : Option Addr) (en ec : Nat) : (Instr.build 195 #[(0, .agg (Kc.vec 32 (Kc.byt Q))), (1, .slice ea en ec)]).run Tryz.prog w = .ok (.agg (ndC Q (.slice ea en ec))) w := by kernel_rfl
theorem build186 (w : World) : (Instr.build 186 #[]).run Tryz.prog w = .ok (.agg #[]) w := by kernel_rfl
theorem zero186 (w : World) : (zeroValue 186).run Tryz.prog w = .ok (.agg #[]) w := by kernel_rfl
theorem look110 {w : World} {m ck : Nat} (h : w.heap[m]? = some (.map #[] ck)) (Q : Nat → BitVec 8) : (Instr.lookup 110 (.map (some m)) (.agg (Kc.vec 32 (Kc.byt Q))) true).run Tryz.prog w = .ok (.tuple #[.agg #[], .bool false]) w :=
  run_lookup_arr 110 33 186 5 32 .u8 Tryz.underlying110 Tryz.underlying33 Tryz.sizeOf5 Tryz.isAgg5 Tryz.underlying5 (.agg #[]) zero186 [] h (fun j => Kc.I8 (Q j))
theorem upd110 {w : World} {m ck : Nat} (h : w.heap[m]? = some (.map #[] ck)) (Q : Nat → BitVec 8) : (Instr.mapUpdate 110 (.map (some m)) (.agg (Kc.vec 32 (Kc.byt Q))) (.agg #[])).run Tryz.prog w = .ok () (w.putObj m (.map #[⟨.agg (Kc.vec 32 (Kc.byt Q)), .agg #[], ck⟩] (ck + 1))) :=
  run_update_new 110 33 186 5 32 .u8 Tryz.underlying110 Tryz.underlying33 Tryz.sizeOf5 Tryz.isAgg5 Tryz.underlying5 [] h (fun j => Kc.I8 (Q j)) (.agg #[]) rfl
theorem step_update {P : Program} {ops : Array Oper} {o : Oper} {a : Act} {w w' : World} {K : Act → World → Prop} {Q : Exit → Act → World → Prop} {E : Prop} (hw : Region.wanted o (yielded ops a.tmps) = true) (ty : TypeId) (m x y : Operand) (ho : o.op = .mapUpdate ty m x y)
    (mv kv vv : Value) (hm : a.eval m = mv) (hx : a.eval x = kv) (hy : a.eval y = vv) (hrun : (Instr.mapUpdate ty mv kv vv).run P w = .ok () w') (h : K (a.put o.dst undef) w') :
    if Region.wanted o (yielded ops a.tmps) = true then Oper.wp P o a w K Q else E := by
  rw [if_pos hw]
  unfold Oper.wp execOp
  simp only [ho, hm, hx, hy, Sem.run_bind, Sem.run_pure, hrun, Result.andThen_ok]
  exact h
theorem info195c : ∃ i, Tryz.prog.info? 195 = some i ∧ i.zero = some (.agg (ndC (fun _ => 0) (.slice none 0 0))) ∧ i.size = 33 ∧ i.bytes = 56 := by
  have : (Tryz.prog.info? 195).map (fun i => (i.zero, i.size, i.bytes)) = some (some (.agg (ndC (fun _ => 0) (.slice none 0 0))), 33, 56) := by kernel_rfl
  cases h : Tryz.prog.info? 195 with
  | none => rw [h] at this; cases this
  | some i =>
    rw [h] at this
    simp only [Option.map_some, Option.some.injEq, Prod.mk.injEq] at this
    exact ⟨i, rfl, this.1, this.2.1, this.2.2⟩
theorem nd_at {Q : Nat → BitVec 8} {ea : Option Addr} {en ec : Nat} {j : Nat} {u : Value} (hu : (ndC Q (.slice ea en ec)).toList[j]? = some u) : j < 33 ∧ u = ndF Q (.slice ea en ec) j := by
  have hj : j < 33 := by
    rcases Nat.lt_or_ge j 33 with h | h
    · exact h
    · rw [List.getElem?_eq_none (by simpa using h)] at hu; cases hu
  rw [Array.getElem?_toList, Kc.get_vec 33 (ndF Q (.slice ea en ec)) j hj] at hu
  exact ⟨hj, (Option.some.inj hu).symm⟩
theorem nd_one {Q : Nat → BitVec 8} {ea : Option Addr} {en ec : Nat} : ∀ u ∈ (ndC Q (.slice ea en ec)).toList, u.oneCell' = true := by
  intro u hu
  obtain ⟨j, hj⟩ := List.mem_iff_getElem?.1 hu
  obtain ⟨_, rfl⟩ := nd_at hj
  unfold ndF
  split <;> rfl
end Go.Proofs.YtboeokmaepchgaaGreatDoor
