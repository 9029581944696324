/- trie: Get of a tree of one leaf. -/
import Derived.Test.YtboeokmaepchgaaGreatDoorTL
namespace Go.Proofs.YtboeokmaepchgaaGreatDoor
open Go.RowKit Go.Maps Go.Joins Go.Shelf
set_option linter.unusedSimpArgs false
set_option linter.unusedVariables false
theorem LeafT.below {w w' : World} {b : Nat} {ks vs : List Int} (h : LeafT w b ks vs) (hb : Below w.heap.size w w') : LeafT w' b ks vs := by
  obtain ⟨l, pv, vv, h1, h2, h3, h4, h5⟩ := h
  exact ⟨l, pv, vv, h1, (hb.block b (heap_lt h2)).trans h2, (hb.block l (heap_lt h3)).trans h3, h4.below hb, h5.below hb⟩
/-- What Get leaves. -/
structure GetT (w V : World) (a2 : Option Addr) (m c2 : Nat) (vs : List Int) : Prop where
  bl : Below w.heap.size w V
  r0 : V.heap[w.heap.size]? = some (.cells #[.slice a2 m c2] 22)
  r1 : V.heap[w.heap.size + 1]? = some (.cells #[.bool true] 4)
  r2 : V.heap[w.heap.size + 2]? = some (.cells #[.int .i64 0] 23)
  va : BytesV V (.slice a2 m c2) vs
theorem GetT.of {w U : World} {a2 : Option Addr} {m c2 : Nat} {vs : List Int} {x y z : Value} (hb : Below w.heap.size w U) (h0 : U.heap[w.heap.size]? = some (.cells #[x] 22)) (h1 : U.heap[w.heap.size + 1]? = some (.cells #[y] 4)) (h2 : U.heap[w.heap.size + 2]? = some (.cells #[z] 23)) (hv : BytesV U (.slice a2 m c2) vs) (hn : ∀ k, (Value.slice a2 m c2).ownBlock = some k → w.heap.size + 3 ≤ k) :
    GetT w (((U.setCell ⟨w.heap.size, 0, none⟩ (.slice a2 m c2)).setCell ⟨w.heap.size + 1, 0, none⟩ (.bool true)).setCell ⟨w.heap.size + 1 + 1, 0, none⟩ (.int .i64 0)) a2 m c2 vs := by
  have e1 : ∀ k, k ≠ w.heap.size → (U.setCell ⟨w.heap.size, 0, none⟩ (.slice a2 m c2)).heap[k]? = U.heap[k]? := fun k hk => Below.heap_setCell _ _ _ _ hk
  have g0 : (U.setCell ⟨w.heap.size, 0, none⟩ (.slice a2 m c2)).heap[w.heap.size]? = some (.cells #[.slice a2 m c2] 22) := heap_setCell_same U w.heap.size 0 #[x] 22 _ h0
  have b0 := hb.setCell (p := ⟨w.heap.size, 0, none⟩) (Nat.le_refl _) (.slice a2 m c2)
  have g1' := (e1 (w.heap.size + 1) (by omega)).trans h1
  have g2' := (e1 (w.heap.size + 2) (by omega)).trans h2
  have v0 : BytesV (U.setCell ⟨w.heap.size, 0, none⟩ (.slice a2 m c2)) (.slice a2 m c2) vs := hv.kept (fun k hk => e1 k (by have := hn k (dBlock_own hk); omega))
  generalize U.setCell ⟨w.heap.size, 0, none⟩ (.slice a2 m c2) = U1 at *
  have e2 : ∀ k, k ≠ w.heap.size + 1 → (U1.setCell ⟨w.heap.size + 1, 0, none⟩ (.bool true)).heap[k]? = U1.heap[k]? := fun k hk => Below.heap_setCell _ _ _ _ hk
  have g1 : (U1.setCell ⟨w.heap.size + 1, 0, none⟩ (.bool true)).heap[w.heap.size + 1]? = some (.cells #[.bool true] 4) := heap_setCell_same U1 (w.heap.size + 1) 0 #[y] 4 _ g1'
  have b1 := b0.setCell (p := ⟨w.heap.size + 1, 0, none⟩) (by show w.heap.size ≤ w.heap.size + 1; omega) (.bool true)
  have g0 := (e2 w.heap.size (by omega)).trans g0
  have g2' := (e2 (w.heap.size + 2) (by omega)).trans g2'
  have v0 : BytesV (U1.setCell ⟨w.heap.size + 1, 0, none⟩ (.bool true)) (.slice a2 m c2) vs := v0.kept (fun k hk => e2 k (by have := hn k (dBlock_own hk); omega))
  generalize U1.setCell ⟨w.heap.size + 1, 0, none⟩ (.bool true) = U2 at *
  have e3 : ∀ k, k ≠ w.heap.size + 2 → (U2.setCell ⟨w.heap.size + 1 + 1, 0, none⟩ (.int .i64 0)).heap[k]? = U2.heap[k]? := fun k hk => Below.heap_setCell _ _ _ _ hk
  have g2 : (U2.setCell ⟨w.heap.size + 1 + 1, 0, none⟩ (.int .i64 0)).heap[w.heap.size + 1 + 1]? = some (.cells #[.int .i64 0] 23) := heap_setCell_same U2 (w.heap.size + 1 + 1) 0 #[z] 23 _ g2'
  have b2 := b1.setCell (p := ⟨w.heap.size + 1 + 1, 0, none⟩) (by show w.heap.size ≤ w.heap.size + 1 + 1; omega) (.int .i64 0)
  exact ⟨b2, (e3 w.heap.size (by omega)).trans g0, (e3 (w.heap.size + 1) (by omega)).trans g1, g2, v0.kept (fun k hk => e3 k (by have := hn k (dBlock_own hk); omega))⟩
set_option maxRecDepth 100000 in
set_option maxHeartbeats 16000000 in
/-- Get of the leaf's key -/
theorem get_any {w : World} {b : Nat} {ak : Option Addr} {ck : Nat} {ks vs : List Int} (ht : LeafT w b ks vs) (hk : BytesV w (.slice ak ks.length ck) ks) (hkb : Byt ks) (hkl : ks.length ≤ 64) (hv0 : 0 < vs.length) (hvl : vs.length ≤ 8192) :
    Calls Tryz.prog 9 #[.pointer (some ⟨b, 0, none⟩), .slice ak ks.length ck] w fun e w' => Below w.heap.size w w' ∧ ∃ v, e = .returned (.tuple #[v, .bool true, .int .i64 0]) ∧ BytesV w' v vs := by
  have hmf : ∀ (fn : Fn) (first cap : Array Value) (w : World), (Instr.makeFunc fn first cap).run Tryz.prog w = .ok (.func fn first cap) w := fun _ _ _ _ => rfl
  have B0 : ([Obj.cells #[.slice none 0 0] 22, .cells #[.bool false] 4, .cells #[.int .i64 0] 23].foldl World.alloc w) = ((w.alloc (.cells #[.slice none 0 0] 22)).alloc (.cells #[.bool false] 4)).alloc (.cells #[.int .i64 0] 23) := rfl
  have hB0 := allocs_below [Obj.cells #[.slice none 0 0] 22, .cells #[.bool false] 4, .cells #[.int .i64 0] 23] w
  have r0 := allocs_heap [Obj.cells #[.slice none 0 0] 22, .cells #[.bool false] 4, .cells #[.int .i64 0] 23] w 0 _ rfl
  have r1 := allocs_heap [Obj.cells #[.slice none 0 0] 22, .cells #[.bool false] 4, .cells #[.int .i64 0] 23] w 1 _ rfl
  have r2 := allocs_heap [Obj.cells #[.slice none 0 0] 22, .cells #[.bool false] 4, .cells #[.int .i64 0] 23] w 2 _ rfl
  rw [B0] at hB0 r0 r1 r2
  have H0 : Hid _ := And.intro (ht.below hB0) (And.intro (hk.below hB0) (And.intro hB0 (And.intro r0 (And.intro r1 r2))))
  obtain ⟨nk, hnk⟩ : ∃ nk, nk = ks.length := ⟨_, rfl⟩
  rw [← hnk] at H0 ⊢
  rw [← hnk] at hkl
  have HN : Hid (nk = ks.length ∧ Byt ks ∧ 0 < vs.length ∧ vs.length ≤ 8192) := ⟨hnk, hkb, hv0, hvl⟩
  have hkl' : ¬ (64 : Int) < nk := by omega
  clear ht hk hkb hB0 r0 r1 r2 B0 hnk hv0 hvl
  go_enter_defers Tryz.func9, Tryz.ntmps9
  go_wp2_with fail
  generalize ((w.alloc (.cells #[.slice none 0 0] 22)).alloc (.cells #[.bool false] 4)).alloc (.cells #[.int .i64 0] 23) = W0 at H0 ⊢
  refine wp_noP ?_
  have G0 : Hid (LeafT W0.drew b ks vs ∧ BytesV W0.drew (.slice ak nk ck) ks ∧ Below w.heap.size w W0.drew ∧ W0.drew.heap[w.heap.size]? = some (.cells #[.slice none 0 0] 22) ∧ W0.drew.heap[w.heap.size + 1]? = some (.cells #[.bool false] 4) ∧ W0.drew.heap[w.heap.size + 2]? = some (.cells #[.int .i64 0] 23)) := ⟨H0.out.1, H0.out.2.1, ⟨H0.out.2.2.1.os, H0.out.2.2.1.tape, H0.out.2.2.1.output, H0.out.2.2.1.size, H0.out.2.2.1.block⟩, H0.out.2.2.2⟩
  clear H0
  obtain ⟨l, pv, vv, hl1, hl2, hl3, hl4, hl5⟩ := G0.out.1
  obtain ⟨va, vc, rfl⟩ := hl5.form
  have HL : Hid (W0.drew.heap[b]? = some (.cells #[.iface 130 (.pointer (some ⟨l, 0, none⟩)), .nilFunc] 78) ∧ W0.drew.heap[l]? = some (.cells #[pv, .slice va vs.length vc] 132) ∧ BytesV W0.drew pv (hvB ks) ∧ BytesV W0.drew (.slice va vs.length vc) vs) := ⟨hl2, hl3, hl4, hl5⟩
  obtain ⟨m, hm⟩ : ∃ m, m = vs.length := ⟨_, rfl⟩
  rw [← hm] at HL
  have HM : Hid (m = vs.length) := hm
  clear hl1 hl2 hl3 hl4 hl5 hm
  refine wp_region_held_drew (S := (fun w' : World => w'.heap[b]? = some (.cells #[.iface 130 (.pointer (some ⟨l, 0, none⟩)), .nilFunc] 78))) (by kernel_rfl) HL.out.1 (fun hHeld => ?_)
  generalize W0.drew = U0 at G0 HL hHeld ⊢
  refine wpAnyH_take (i := 0) (v := .pointer (some ⟨b, 0, none⟩)) rfl (by kernel_rfl) (by kernel_rfl) (by kernel_rfl) (fun _ _ _ h => h) (Or.inl ⟨by rfl, fun w9 hSw => ?_⟩) hHeld ?_
  · go_simp
  simp only [List.getElem_toArray, List.getElem_cons_succ, List.getElem_cons_zero, Act.put, List.setIfInBounds_toArray, List.set_cons_zero, List.set_cons_succ]
  refine wpAnyH_take (i := 1) (v := .pointer (some ⟨b, 0, none⟩)) rfl (by kernel_rfl) (by kernel_rfl) (by kernel_rfl) (fun _ _ _ h => h) (Or.inl ⟨by rfl, fun w9 hSw => ?_⟩) hHeld ?_
  · go_simp
  simp only [List.getElem_toArray, List.getElem_cons_succ, List.getElem_cons_zero, Act.put, List.setIfInBounds_toArray, List.set_cons_zero, List.set_cons_succ]
  refine wpAnyH_take (i := 2) (v := .pointer (some ⟨b, 0, none⟩)) rfl (by kernel_rfl) (by kernel_rfl) (by kernel_rfl) (fun _ _ _ h => h) (Or.inl ⟨by rfl, fun w9 hSw => ?_⟩) hHeld ?_
  · go_simp
  simp only [List.getElem_toArray, List.getElem_cons_succ, List.getElem_cons_zero, Act.put, List.setIfInBounds_toArray, List.set_cons_zero, List.set_cons_succ]
  refine wpAnyH_take (i := 3) (v := .pointer (some ⟨b, 0, none⟩)) rfl (by kernel_rfl) (by kernel_rfl) (by kernel_rfl) (fun _ _ _ h => h) (Or.inl ⟨by rfl, fun w9 hSw => ?_⟩) hHeld ?_
  · go_simp
  simp only [List.getElem_toArray, List.getElem_cons_succ, List.getElem_cons_zero, Act.put, List.setIfInBounds_toArray, List.set_cons_zero, List.set_cons_succ]
  refine wpAnyH_take (i := 4) (v := .iface 130 (.pointer (some ⟨l, 0, none⟩))) rfl (by kernel_rfl) (by kernel_rfl) (by kernel_rfl) (fun _ _ _ h => h) (Or.inl ⟨by rfl, fun w9 hSw => ?_⟩) hHeld ?_
  · have k0 : w9.cell? ⟨b, 0, none⟩ = some (.iface 130 (.pointer (some ⟨l, 0, none⟩))) := (cell_of_block hSw 0).trans rfl
    go_simp
  simp only [List.getElem_toArray, List.getElem_cons_succ, List.getElem_cons_zero, Act.put, List.setIfInBounds_toArray, List.set_cons_zero, List.set_cons_succ]
  refine wpAnyH_take (i := 5) (v := .slice ak nk ck) rfl (by kernel_rfl) (by kernel_rfl) (by kernel_rfl) (fun _ _ _ h => h) (Or.inl ⟨by rfl, fun w9 hSw => ?_⟩) hHeld ?_
  · go_simp
  simp only [List.getElem_toArray, List.getElem_cons_succ, List.getElem_cons_zero, Act.put, List.setIfInBounds_toArray, List.set_cons_zero, List.set_cons_succ]
  refine wpAnyH_ready (rs := [6]) (by kernel_rfl) (by simp) ?_
  refine AllReadyH.cons rfl (fun K hK => ?_) AllReadyH.nil
  have hC := halves_any (w := U0) (a := ak) (cap := ck) (bs := ks) (by rw [← HN.out.1]; exact G0.out.2.1) HN.out.2.1 (by have := HN.out.1; omega)
  rw [← HN.out.1] at hC
  go_simp
  refine Calls.mono hC ?_
  clear hC
  rintro e U1 ⟨v1, rfl, ho1, hb1⟩
  obtain ⟨a1, c1, rfl⟩ := row_form ho1
  have G1 : Hid (BytesV U1 (.slice a1 (hvB ks).length c1) (hvB ks) ∧ U1.heap[l]? = some (.cells #[pv, .slice va m vc] 132) ∧ BytesV U1 pv (hvB ks) ∧ BytesV U1 (.slice va m vc) vs ∧ Below w.heap.size w U1 ∧ U1.heap[w.heap.size]? = some (.cells #[.slice none 0 0] 22) ∧ U1.heap[w.heap.size + 1]? = some (.cells #[.bool false] 4) ∧ U1.heap[w.heap.size + 2]? = some (.cells #[.int .i64 0] 23)) := ⟨BytesV.of_own ho1, (hb1.block l (heap_lt HL.out.2.1)).trans HL.out.2.1, HL.out.2.2.1.below hb1, HL.out.2.2.2.below hb1, G0.out.2.2.1.trans (hb1.mono G0.out.2.2.1.size), (hb1.block _ (heap_lt G0.out.2.2.2.1)).trans G0.out.2.2.2.1, (hb1.block _ (heap_lt G0.out.2.2.2.2.1)).trans G0.out.2.2.2.2.1, (hb1.block _ (heap_lt G0.out.2.2.2.2.2)).trans G0.out.2.2.2.2.2⟩
  have hx1 : (fun w' : World => w'.heap[b]? = some (.cells #[.iface 130 (.pointer (some ⟨l, 0, none⟩)), .nilFunc] 78)) U1 := (hb1.block b (heap_lt hHeld)).trans hHeld
  clear ho1 hb1 G0 HL
  refine hK.out _ _ hx1 (fun hHeld => ?_)
  clear hK K
  try simp only [List.getElem_toArray, List.getElem_cons_succ, List.getElem_cons_zero, Act.put, List.setIfInBounds_toArray, List.set_cons_zero, List.set_cons_succ]
  refine wpAnyH_ready (rs := [7]) (by kernel_rfl) (by simp) ?_
  refine AllReadyH.cons rfl (fun K hK => ?_) AllReadyH.nil
  have hC := find_leaf (p := .pointer (some ⟨b, 0, none⟩)) G1.out.2.1 G1.out.2.2.1 G1.out.2.2.2.1 G1.out.1
  obtain ⟨n1, hn1⟩ : ∃ n1, n1 = (hvB ks).length := ⟨_, rfl⟩
  rw [← hn1] at hC ⊢
  clear hn1
  go_simp
  refine Calls.mono hC ?_
  clear hC
  rintro e U2 ⟨rfl, hU2⟩
  obtain rfl := hU2.symm
  clear hU2
  refine hK.out _ _ hHeld (fun hHeld => ?_)
  clear hK K
  try simp only [List.getElem_toArray, List.getElem_cons_succ, List.getElem_cons_zero, Act.put, List.setIfInBounds_toArray, List.set_cons_zero, List.set_cons_succ]
  refine wpAnyH_ready (rs := [8]) (by kernel_rfl) (by simp) ?_
  refine AllReadyH.cons rfl (fun K hK => ?_) AllReadyH.nil
  have hC := bclone_any (w := U1) (.slice va m vc) vs G1.out.2.2.2.1 (by have := HN.out.2.2.2; omega)
  go_simp
  refine Calls.mono hC ?_
  clear hC
  rintro e U3 ⟨v3, rfl, ho3, hb3⟩
  obtain ⟨a3, c3, rfl⟩ := row_form ho3
  have G3 : Hid (BytesV U3 (.slice a3 vs.length c3) vs ∧ Below w.heap.size w U3 ∧ U3.heap[w.heap.size]? = some (.cells #[.slice none 0 0] 22) ∧ U3.heap[w.heap.size + 1]? = some (.cells #[.bool false] 4) ∧ U3.heap[w.heap.size + 2]? = some (.cells #[.int .i64 0] 23) ∧ ∀ k, (Value.slice a3 vs.length c3).ownBlock = some k → w.heap.size + 3 ≤ k) := ⟨BytesV.of_own ho3, G1.out.2.2.2.2.1.trans (hb3.mono G1.out.2.2.2.2.1.size), (hb3.block _ (heap_lt G1.out.2.2.2.2.2.1)).trans G1.out.2.2.2.2.2.1, (hb3.block _ (heap_lt G1.out.2.2.2.2.2.2.1)).trans G1.out.2.2.2.2.2.2.1, (hb3.block _ (heap_lt G1.out.2.2.2.2.2.2.2)).trans G1.out.2.2.2.2.2.2.2, fun k hk => by have := (ho3.lt k hk).1; have := heap_lt G1.out.2.2.2.2.2.2.2; omega⟩
  have hx3 : (fun w' : World => w'.heap[b]? = some (.cells #[.iface 130 (.pointer (some ⟨l, 0, none⟩)), .nilFunc] 78)) U3 := (hb3.block b (heap_lt hHeld)).trans hHeld
  rw [← HM.out] at G3 ⊢
  clear ho3 hb3 G1 hHeld hx1
  refine hK.out _ _ hx3 (fun hHeld => ?_)
  clear hK K
  try simp only [List.getElem_toArray, List.getElem_cons_succ, List.getElem_cons_zero, Act.put, List.setIfInBounds_toArray, List.set_cons_zero, List.set_cons_succ]
  refine wpAnyH_ready (rs := [9]) (by kernel_rfl) (by simp) ?_
  refine AllReadyH.cons rfl (fun K hK => ?_) AllReadyH.nil
  have k0 : U3.cell? ⟨w.heap.size, 0, none⟩ = some (.slice none 0 0) := (cell_of_block G3.out.2.2.1 0).trans rfl
  have kz := unfrozen_of_block G3.out.2.2.1 0
  go_simp
  have hbne : b ≠ w.heap.size := fun e => by have h1 := hHeld; rw [e, G3.out.2.2.1] at h1; cases h1
  have hx4 : (fun w' : World => w'.heap[b]? = some (.cells #[.iface 130 (.pointer (some ⟨l, 0, none⟩)), .nilFunc] 78)) (U3.setCell ⟨w.heap.size, 0, none⟩ (.slice a3 m c3)) := (Below.heap_setCell _ _ _ _ hbne).trans hHeld
  clear k0 kz hx3
  refine hK.out _ _ hx4 (fun hHeld => ?_)
  clear hK K
  try simp only [List.getElem_toArray, List.getElem_cons_succ, List.getElem_cons_zero, Act.put, List.setIfInBounds_toArray, List.set_cons_zero, List.set_cons_succ]
  refine wpAnyH_done (by kernel_rfl) ?_ _
  simp only [noP]
  clear hHeld hx4 hbne
  have hmp : 0 < m := by have := HM.out; have := HN.out.2.2.1; omega
  have hmi : (0 : Int) < m := by omega
  have f := GetT.of G3.out.2.1 G3.out.2.2.1 G3.out.2.2.2.1 G3.out.2.2.2.2.1 G3.out.1 G3.out.2.2.2.2.2
  have q0 : (U3.setCell ⟨w.heap.size, 0, none⟩ (.slice a3 m c3)).heap[w.heap.size]? = some (.cells #[.slice a3 m c3] 22) := heap_setCell_same U3 w.heap.size 0 #[.slice none 0 0] 22 _ G3.out.2.2.1
  have q1 : (U3.setCell ⟨w.heap.size, 0, none⟩ (.slice a3 m c3)).heap[w.heap.size + 1]? = some (.cells #[.bool false] 4) := (Below.heap_setCell _ _ _ _ (by show w.heap.size + 1 ≠ w.heap.size; omega)).trans G3.out.2.2.2.1
  have q2 : (U3.setCell ⟨w.heap.size, 0, none⟩ (.slice a3 m c3)).heap[w.heap.size + 2]? = some (.cells #[.int .i64 0] 23) := (Below.heap_setCell _ _ _ _ (by show w.heap.size + 2 ≠ w.heap.size; omega)).trans G3.out.2.2.2.2.1
  have hq : Hid (GetT w _ a3 m c3 vs) := f
  clear f
  have v0 := G3.out.1
  have G4 : Hid (Below w.heap.size w (U3.setCell ⟨w.heap.size, 0, none⟩ (.slice a3 m c3)) ∧ BytesV (U3.setCell ⟨w.heap.size, 0, none⟩ (.slice a3 m c3)) (.slice a3 m c3) vs ∧ ∀ k, (Value.slice a3 m c3).ownBlock = some k → w.heap.size + 3 ≤ k) := ⟨G3.out.2.1.setCell (p := ⟨w.heap.size, 0, none⟩) (Nat.le_refl _) _, v0.kept (fun k hk => Below.heap_setCell _ _ _ _ (by have := G3.out.2.2.2.2.2 k (dBlock_own hk); show k ≠ w.heap.size; omega)), G3.out.2.2.2.2.2⟩
  clear hq v0 G3
  generalize U3.setCell ⟨w.heap.size, 0, none⟩ (.slice a3 m c3) = U4 at *
  have H4 : Hid (GetT w (((U4.setCell ⟨w.heap.size, 0, none⟩ (.slice a3 m c3)).setCell ⟨w.heap.size + 1, 0, none⟩ (.bool true)).setCell ⟨w.heap.size + 1 + 1, 0, none⟩ (.int .i64 0)) a3 m c3 vs) := GetT.of G4.out.1 q0 q1 q2 G4.out.2.1 G4.out.2.2
  have k0 : U4.cell? ⟨w.heap.size, 0, none⟩ = some (.slice a3 m c3) := (cell_of_block q0 0).trans rfl
  have k1 : U4.cell? ⟨w.heap.size + 1, 0, none⟩ = some (.bool false) := (cell_of_block q1 0).trans rfl
  have k2 : U4.cell? ⟨w.heap.size + 1 + 1, 0, none⟩ = some (.int .i64 0) := (cell_of_block q2 0).trans rfl
  have z0 := unfrozen_of_block q0 0
  have z1 := unfrozen_of_block q1 0
  have z2 : U4.frozen? ⟨w.heap.size + 1 + 1, 0, none⟩ = false := unfrozen_of_block q2 0
  clear q0 q1 q2 G4
  go_wp2
  generalize ((U4.setCell ⟨w.heap.size, 0, none⟩ (.slice a3 m c3)).setCell ⟨w.heap.size + 1, 0, none⟩ (.bool true)).setCell ⟨w.heap.size + 1 + 1, 0, none⟩ (.int .i64 0) = U5 at H4 ⊢
  refine leaves_cons (f := 42) (args := #[.pointer (some ⟨w.heap.size, 0, none⟩), .pointer (some ⟨w.heap.size + 1, 0, none⟩), .pointer (some ⟨w.heap.size + 1 + 1, 0, none⟩)]) (by simp) (by simp [go_sem]) ?_
  refine (idle42 _ _ _ _).mono ?_
  rintro e u' w5 ⟨rfl, rfl, rfl⟩
  have m0 : w5.cell? ⟨w.heap.size, 0, none⟩ = some (.slice a3 m c3) := (cell_of_block H4.out.r0 0).trans rfl
  have m1 : w5.cell? ⟨w.heap.size + 1, 0, none⟩ = some (.bool true) := (cell_of_block H4.out.r1 0).trans rfl
  have m2 : w5.cell? ⟨w.heap.size + 1 + 1, 0, none⟩ = some (.int .i64 0) := (cell_of_block H4.out.r2 0).trans rfl
  simp [Leaves, settle, results, Tryz.results9, go_sem, m0, m1, m2]
  exact ⟨H4.out.bl, H4.out.va⟩
end Go.Proofs.YtboeokmaepchgaaGreatDoor
