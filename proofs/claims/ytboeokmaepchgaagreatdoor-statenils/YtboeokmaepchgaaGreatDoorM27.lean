/- UH, UI, laid into one text. -/
import Derived.Test.YtboeokmaepchgaaGreatDoorM25
import Derived.Test.YtboeokmaepchgaaGreatDoorTM
import Derived.Carry
/- trie: Get of an empty tree; state: newTransaction. -/
namespace Go.Proofs.YtboeokmaepchgaaGreatDoor
open Go.RowKit Go.Maps Go.Joins Go.Shelf
set_option linter.unusedSimpArgs false
set_option linter.unusedVariables false
set_option maxRecDepth 100000 in
/-- bytes.Clone of nil -/
theorem bclone_nil {w : World} : Calls Tryz.prog 43 #[.slice none 0 0] w fun e w' => e = .returned (.slice none 0 0) ∧ w' = w := by
  have he : ∀ w : World, (binOp .eql 22 (.slice none 0 0) (.slice none 0 0) : Sem Value).run Tryz.prog w = .ok (.bool true) w := fun w => by kernel_rfl
  go_enter Tryz.func43, Tryz.ntmps43
  go_wp2
  go_ret
  exact ⟨rfl, rfl⟩
set_option maxRecDepth 100000 in
set_option maxHeartbeats 4000000 in
/-- find of no node -/
theorem find_nil {w : World} {p : Value} {a : Option Addr} {n c : Nat} :
    Calls Tryz.prog 44 #[p, .nilIface, .slice a n c] w fun e w' => e = .returned (.slice none 0 0) ∧ w' = w := by
  have h1 : ∃ z, ∀ w : World, (Instr.typeAssert .nilIface 75 128 true).run Tryz.prog w = .ok (.tuple #[z, .bool false]) w := ⟨.agg z32, fun w => by kernel_rfl⟩
  obtain ⟨z, h1⟩ := h1
  have h2 : ∀ w : World, (Instr.typeAssert .nilIface 75 130 true).run Tryz.prog w = .ok (.tuple #[.pointer none, .bool false]) w := fun w => by kernel_rfl
  have h3 : ∀ w : World, (Instr.typeAssert .nilIface 75 133 true).run Tryz.prog w = .ok (.tuple #[.pointer none, .bool false]) w := fun w => by kernel_rfl
  have h4 : ∀ w : World, (Instr.typeAssert .nilIface 75 137 true).run Tryz.prog w = .ok (.tuple #[.pointer none, .bool false]) w := fun w => by kernel_rfl
  go_enter Tryz.func44, Tryz.ntmps44
  go_wp2
  go_ret
  exact ⟨rfl, rfl⟩
set_option maxRecDepth 100000 in
set_option maxHeartbeats 16000000 in
/-- Get of an empty tree -/
theorem get_empty {w : World} {b : Nat} {ak : Option Addr} {ck : Nat} {ks : List Int} (ht : w.heap[b]? = some (.cells #[.nilIface, .nilFunc] 78)) (hk : BytesV w (.slice ak ks.length ck) ks) (hkb : Byt ks) (hkl : ks.length ≤ 64) :
    Calls Tryz.prog 9 #[.pointer (some ⟨b, 0, none⟩), .slice ak ks.length ck] w fun e w' => e = .returned (.tuple #[.slice none 0 0, .bool false, .int .i64 0]) ∧ Below w.heap.size w w' := by
  have hmf : ∀ (fn : Fn) (first cap : Array Value) (w : World), (Instr.makeFunc fn first cap).run Tryz.prog w = .ok (.func fn first cap) w := fun _ _ _ _ => rfl
  have B0 : ([Obj.cells #[.slice none 0 0] 22, .cells #[.bool false] 4, .cells #[.int .i64 0] 23].foldl World.alloc w) = ((w.alloc (.cells #[.slice none 0 0] 22)).alloc (.cells #[.bool false] 4)).alloc (.cells #[.int .i64 0] 23) := rfl
  have hB0 := allocs_below [Obj.cells #[.slice none 0 0] 22, .cells #[.bool false] 4, .cells #[.int .i64 0] 23] w
  have r0 := allocs_heap [Obj.cells #[.slice none 0 0] 22, .cells #[.bool false] 4, .cells #[.int .i64 0] 23] w 0 _ rfl
  have r1 := allocs_heap [Obj.cells #[.slice none 0 0] 22, .cells #[.bool false] 4, .cells #[.int .i64 0] 23] w 1 _ rfl
  have r2 := allocs_heap [Obj.cells #[.slice none 0 0] 22, .cells #[.bool false] 4, .cells #[.int .i64 0] 23] w 2 _ rfl
  rw [B0] at hB0 r0 r1 r2
  have H0 : Hid _ := And.intro ((hB0.block b (heap_lt ht)).trans ht) (And.intro (hk.below hB0) (And.intro hB0 (And.intro r0 (And.intro r1 r2))))
  have hbl := heap_lt ht
  obtain ⟨nk, hnk⟩ : ∃ nk, nk = ks.length := ⟨_, rfl⟩
  rw [← hnk] at H0 ⊢
  rw [← hnk] at hkl
  have HN : Hid (nk = ks.length ∧ Byt ks ∧ b < w.heap.size) := ⟨hnk, hkb, hbl⟩
  have hkl' : ¬ (64 : Int) < nk := by omega
  clear ht hk hkb hB0 r0 r1 r2 B0 hnk hbl
  go_enter_defers Tryz.func9, Tryz.ntmps9
  go_wp2_with fail
  generalize ((w.alloc (.cells #[.slice none 0 0] 22)).alloc (.cells #[.bool false] 4)).alloc (.cells #[.int .i64 0] 23) = W0 at H0 ⊢
  refine wp_noP ?_
  have G0 : Hid (W0.drew.heap[b]? = some (.cells #[.nilIface, .nilFunc] 78) ∧ BytesV W0.drew (.slice ak nk ck) ks ∧ Below w.heap.size w W0.drew ∧ W0.drew.heap[w.heap.size]? = some (.cells #[.slice none 0 0] 22) ∧ W0.drew.heap[w.heap.size + 1]? = some (.cells #[.bool false] 4) ∧ W0.drew.heap[w.heap.size + 2]? = some (.cells #[.int .i64 0] 23)) := ⟨H0.out.1, H0.out.2.1, ⟨H0.out.2.2.1.os, H0.out.2.2.1.tape, H0.out.2.2.1.output, H0.out.2.2.1.size, H0.out.2.2.1.block⟩, H0.out.2.2.2⟩
  clear H0
  refine wp_region_held_drew (S := (fun w' : World => w'.heap[b]? = some (.cells #[.nilIface, .nilFunc] 78))) (by kernel_rfl) G0.out.1 (fun hHeld => ?_)
  generalize W0.drew = U0 at G0 hHeld ⊢
  refine wpAnyH_take (i := 0) (v := .pointer (some ⟨b, 0, none⟩)) rfl (by kernel_rfl) (by kernel_rfl) (by kernel_rfl) (fun _ _ _ h => h) (Or.inl ⟨by rfl, fun w9 hSw => ?_⟩) hHeld ?_
  · go_simp
  simp only [List.getElem_toArray, List.getElem_cons_succ, List.getElem_cons_zero, Act.put, List.setIfInBounds_toArray, List.set_cons_zero, List.set_cons_succ]
  refine wpAnyH_take (i := 1) (v := .pointer (some ⟨b, 0, none⟩)) rfl (by kernel_rfl) (by kernel_rfl) (by kernel_rfl) (fun _ _ _ h => h) (Or.inl ⟨by rfl, fun w9 hSw => ?_⟩) hHeld ?_
  · go_simp
  simp only [List.getElem_toArray, List.getElem_cons_succ, List.getElem_cons_zero, Act.put, List.setIfInBounds_toArray, List.set_cons_zero, List.set_cons_succ]
  refine wpAnyH_take (i := 2) (v := .pointer (some ⟨b, 0, none⟩)) rfl (by kernel_rfl) (by kernel_rfl) (by kernel_rfl) (fun _ _ _ h => h) (Or.inl ⟨by rfl, fun w9 hSw => ?_⟩) hHeld ?_
  · go_simp
  simp only [List.getElem_toArray, List.getElem_cons_succ, List.getElem_cons_zero, Act.put, List.setIfInBounds_toArray, List.set_cons_zero, List.set_cons_succ]
  refine wpAnyH_take (i := 3) (v := .pointer (some ⟨b, 0, none⟩)) rfl (by kernel_rfl) (by kernel_rfl) (by kernel_rfl) (fun _ _ _ h => h) (Or.inl ⟨by rfl, fun w9 hSw => ?_⟩) hHeld ?_
  · go_simp
  simp only [List.getElem_toArray, List.getElem_cons_succ, List.getElem_cons_zero, Act.put, List.setIfInBounds_toArray, List.set_cons_zero, List.set_cons_succ]
  refine wpAnyH_take (i := 4) (v := .nilIface) rfl (by kernel_rfl) (by kernel_rfl) (by kernel_rfl) (fun _ _ _ h => h) (Or.inl ⟨by rfl, fun w9 hSw => ?_⟩) hHeld ?_
  · have k0 : w9.cell? ⟨b, 0, none⟩ = some .nilIface := (cell_of_block hSw 0).trans rfl
    go_simp
  simp only [List.getElem_toArray, List.getElem_cons_succ, List.getElem_cons_zero, Act.put, List.setIfInBounds_toArray, List.set_cons_zero, List.set_cons_succ]
  refine wpAnyH_take (i := 5) (v := .slice ak nk ck) rfl (by kernel_rfl) (by kernel_rfl) (by kernel_rfl) (fun _ _ _ h => h) (Or.inl ⟨by rfl, fun w9 hSw => ?_⟩) hHeld ?_
  · go_simp
  simp only [List.getElem_toArray, List.getElem_cons_succ, List.getElem_cons_zero, Act.put, List.setIfInBounds_toArray, List.set_cons_zero, List.set_cons_succ]
  refine wpAnyH_ready (rs := [6]) (by kernel_rfl) (by simp) ?_
  refine AllReadyH.cons rfl (fun K hK => ?_) AllReadyH.nil
  have hC := halves_any (w := U0) (a := ak) (cap := ck) (bs := ks) (by rw [← HN.out.1]; exact G0.out.2.1) HN.out.2.1 (by have := HN.out.1; omega)
  rw [← HN.out.1] at hC
  go_simp
  refine Calls.mono hC ?_
  clear hC
  rintro e U1 ⟨v1, rfl, ho1, hb1⟩
  obtain ⟨a1, c1, rfl⟩ := row_form ho1
  have G1 : Hid (Below w.heap.size w U1 ∧ U1.heap[w.heap.size]? = some (.cells #[.slice none 0 0] 22) ∧ U1.heap[w.heap.size + 1]? = some (.cells #[.bool false] 4) ∧ U1.heap[w.heap.size + 2]? = some (.cells #[.int .i64 0] 23)) := ⟨G0.out.2.2.1.trans (hb1.mono G0.out.2.2.1.size), (hb1.block _ (heap_lt G0.out.2.2.2.1)).trans G0.out.2.2.2.1, (hb1.block _ (heap_lt G0.out.2.2.2.2.1)).trans G0.out.2.2.2.2.1, (hb1.block _ (heap_lt G0.out.2.2.2.2.2)).trans G0.out.2.2.2.2.2⟩
  have hx1 : (fun w' : World => w'.heap[b]? = some (.cells #[.nilIface, .nilFunc] 78)) U1 := (hb1.block b (heap_lt hHeld)).trans hHeld
  obtain ⟨n1, hn1⟩ : ∃ n1, n1 = (hvB ks).length := ⟨_, rfl⟩
  rw [← hn1]
  clear ho1 hb1 G0 hn1
  refine hK.out _ _ hx1 (fun hHeld => ?_)
  clear hK K
  try simp only [List.getElem_toArray, List.getElem_cons_succ, List.getElem_cons_zero, Act.put, List.setIfInBounds_toArray, List.set_cons_zero, List.set_cons_succ]
  refine wpAnyH_ready (rs := [7]) (by kernel_rfl) (by simp) ?_
  refine AllReadyH.cons rfl (fun K hK => ?_) AllReadyH.nil
  have hC := find_nil (w := U1) (p := .pointer (some ⟨b, 0, none⟩)) (a := a1) (n := n1) (c := c1)
  go_simp
  refine Calls.mono hC ?_
  clear hC
  rintro e U2 ⟨rfl, hU2⟩
  obtain rfl := hU2.symm
  clear hU2
  refine hK.out _ _ hHeld (fun hHeld => ?_)
  clear hK K
  try simp only [List.getElem_toArray, List.getElem_cons_succ, List.getElem_cons_zero, Act.put, List.setIfInBounds_toArray, List.set_cons_zero, List.set_cons_succ]
  refine wpAnyH_ready (rs := [8]) (by kernel_rfl) (by simp) ?_
  refine AllReadyH.cons rfl (fun K hK => ?_) AllReadyH.nil
  have hC := bclone_nil (w := U1)
  go_simp
  refine Calls.mono hC ?_
  clear hC
  rintro e U3 ⟨rfl, hU3⟩
  obtain rfl := hU3.symm
  clear hU3
  refine hK.out _ _ hHeld (fun hHeld => ?_)
  clear hK K
  try simp only [List.getElem_toArray, List.getElem_cons_succ, List.getElem_cons_zero, Act.put, List.setIfInBounds_toArray, List.set_cons_zero, List.set_cons_succ]
  refine wpAnyH_ready (rs := [9]) (by kernel_rfl) (by simp) ?_
  refine AllReadyH.cons rfl (fun K hK => ?_) AllReadyH.nil
  have k0 : U1.cell? ⟨w.heap.size, 0, none⟩ = some (.slice none 0 0) := (cell_of_block G1.out.2.1 0).trans rfl
  have kz := unfrozen_of_block G1.out.2.1 0
  go_simp
  have hbne : b ≠ w.heap.size := by have := HN.out.2.2; omega
  have hx4 : (fun w' : World => w'.heap[b]? = some (.cells #[.nilIface, .nilFunc] 78)) (U1.setCell ⟨w.heap.size, 0, none⟩ (.slice none 0 0)) := (Below.heap_setCell _ _ _ _ hbne).trans hHeld
  clear k0 kz hx1
  refine hK.out _ _ hx4 (fun hHeld => ?_)
  clear hK K
  try simp only [List.getElem_toArray, List.getElem_cons_succ, List.getElem_cons_zero, Act.put, List.setIfInBounds_toArray, List.set_cons_zero, List.set_cons_succ]
  refine wpAnyH_done (by kernel_rfl) ?_ _
  simp only [noP]
  clear hHeld hx4 hbne
  have q0 : (U1.setCell ⟨w.heap.size, 0, none⟩ (.slice none 0 0)).heap[w.heap.size]? = some (.cells #[.slice none 0 0] 22) := heap_setCell_same U1 w.heap.size 0 #[.slice none 0 0] 22 _ G1.out.2.1
  have q1 : (U1.setCell ⟨w.heap.size, 0, none⟩ (.slice none 0 0)).heap[w.heap.size + 1]? = some (.cells #[.bool false] 4) := (Below.heap_setCell _ _ _ _ (by show w.heap.size + 1 ≠ w.heap.size; omega)).trans G1.out.2.2.1
  have q2 : (U1.setCell ⟨w.heap.size, 0, none⟩ (.slice none 0 0)).heap[w.heap.size + 2]? = some (.cells #[.int .i64 0] 23) := (Below.heap_setCell _ _ _ _ (by show w.heap.size + 2 ≠ w.heap.size; omega)).trans G1.out.2.2.2
  have G4 : Hid (Below w.heap.size w (U1.setCell ⟨w.heap.size, 0, none⟩ (.slice none 0 0))) := G1.out.1.setCell (p := ⟨w.heap.size, 0, none⟩) (Nat.le_refl _) _
  clear G1
  generalize U1.setCell ⟨w.heap.size, 0, none⟩ (.slice none 0 0) = U4 at *
  have H4 : Hid (Below w.heap.size w (((U4.setCell ⟨w.heap.size, 0, none⟩ (.slice none 0 0)).setCell ⟨w.heap.size + 1, 0, none⟩ (.bool false)).setCell ⟨w.heap.size + 1 + 1, 0, none⟩ (.int .i64 0)) ∧ (((U4.setCell ⟨w.heap.size, 0, none⟩ (.slice none 0 0)).setCell ⟨w.heap.size + 1, 0, none⟩ (.bool false)).setCell ⟨w.heap.size + 1 + 1, 0, none⟩ (.int .i64 0)).heap[w.heap.size]? = some (.cells #[.slice none 0 0] 22) ∧ (((U4.setCell ⟨w.heap.size, 0, none⟩ (.slice none 0 0)).setCell ⟨w.heap.size + 1, 0, none⟩ (.bool false)).setCell ⟨w.heap.size + 1 + 1, 0, none⟩ (.int .i64 0)).heap[w.heap.size + 1]? = some (.cells #[.bool false] 4) ∧ (((U4.setCell ⟨w.heap.size, 0, none⟩ (.slice none 0 0)).setCell ⟨w.heap.size + 1, 0, none⟩ (.bool false)).setCell ⟨w.heap.size + 1 + 1, 0, none⟩ (.int .i64 0)).heap[w.heap.size + 1 + 1]? = some (.cells #[.int .i64 0] 23)) := by
    refine ⟨((G4.out.setCell (p := ⟨w.heap.size, 0, none⟩) (Nat.le_refl _) _).setCell (p := ⟨w.heap.size + 1, 0, none⟩) (by show w.heap.size ≤ w.heap.size + 1; omega) _).setCell (p := ⟨w.heap.size + 1 + 1, 0, none⟩) (by show w.heap.size ≤ w.heap.size + 1 + 1; omega) _, ?_, ?_, ?_⟩
    · rw [Below.heap_setCell _ _ _ _ (by show w.heap.size ≠ w.heap.size + 1 + 1; omega), Below.heap_setCell _ _ _ _ (by show w.heap.size ≠ w.heap.size + 1; omega)]
      exact heap_setCell_same U4 w.heap.size 0 #[.slice none 0 0] 22 _ q0
    · rw [Below.heap_setCell _ _ _ _ (by show w.heap.size + 1 ≠ w.heap.size + 1 + 1; omega)]
      exact heap_setCell_same _ (w.heap.size + 1) 0 #[.bool false] 4 _ ((Below.heap_setCell _ _ _ _ (by show w.heap.size + 1 ≠ w.heap.size; omega)).trans q1)
    · exact heap_setCell_same _ (w.heap.size + 1 + 1) 0 #[.int .i64 0] 23 _ ((Below.heap_setCell _ _ _ _ (by show w.heap.size + 1 + 1 ≠ w.heap.size + 1; omega)).trans ((Below.heap_setCell _ _ _ _ (by show w.heap.size + 1 + 1 ≠ w.heap.size; omega)).trans q2))
  have k0 : U4.cell? ⟨w.heap.size, 0, none⟩ = some (.slice none 0 0) := (cell_of_block q0 0).trans rfl
  have k1 : U4.cell? ⟨w.heap.size + 1, 0, none⟩ = some (.bool false) := (cell_of_block q1 0).trans rfl
  have k2 : U4.cell? ⟨w.heap.size + 1 + 1, 0, none⟩ = some (.int .i64 0) := (cell_of_block q2 0).trans rfl
  have z0 := unfrozen_of_block q0 0
  have z1 := unfrozen_of_block q1 0
  have z2 : U4.frozen? ⟨w.heap.size + 1 + 1, 0, none⟩ = false := unfrozen_of_block q2 0
  clear q0 q1 q2 G4
  go_wp2
  generalize ((U4.setCell ⟨w.heap.size, 0, none⟩ (.slice none 0 0)).setCell ⟨w.heap.size + 1, 0, none⟩ (.bool false)).setCell ⟨w.heap.size + 1 + 1, 0, none⟩ (.int .i64 0) = U5 at H4 ⊢
  refine leaves_cons (f := 42) (args := #[.pointer (some ⟨w.heap.size, 0, none⟩), .pointer (some ⟨w.heap.size + 1, 0, none⟩), .pointer (some ⟨w.heap.size + 1 + 1, 0, none⟩)]) (by simp) (by simp [go_sem]) ?_
  refine (idle42 _ _ _ _).mono ?_
  rintro e u' w5 ⟨rfl, rfl, rfl⟩
  have m0 : w5.cell? ⟨w.heap.size, 0, none⟩ = some (.slice none 0 0) := (cell_of_block H4.out.2.1 0).trans rfl
  have m1 : w5.cell? ⟨w.heap.size + 1, 0, none⟩ = some (.bool false) := (cell_of_block H4.out.2.2.1 0).trans rfl
  have m2 : w5.cell? ⟨w.heap.size + 1 + 1, 0, none⟩ = some (.int .i64 0) := (cell_of_block H4.out.2.2.2 0).trans rfl
  simp [Leaves, settle, results, Tryz.results9, go_sem, m0, m1, m2]
  exact H4.out.1
end Go.Proofs.YtboeokmaepchgaaGreatDoor
/- trie: Get of an empty tree; state: newTransaction. -/
namespace Go.Proofs.YtboeokmaepchgaaGreatDoor
open Go.RowKit Go.Maps Go.Joins Go.Shelf
set_option linter.unusedSimpArgs false
set_option linter.unusedVariables false
abbrev tr0 : Array Value := #[.map none, .map none, .map none, .int .i64 0, .slice none 0 0, .slice none 0 0, .slice none 0 0]
set_option maxRecDepth 100000 in
set_option maxHeartbeats 4000000 in
/-- state.newTransaction -/
theorem newTrans_any {w : World} : Calls Tryz.prog 61 #[] w fun e w' => Below w.heap.size w w' ∧ ∃ b, w.heap.size ≤ b ∧ e = .returned (.agg #[.map (some b), .map (some (b + 1)), .map (some (b + 2)), .int .i64 0, .slice none 0 0, .slice none 0 0, .slice none 0 0]) ∧ w'.heap[b]? = some (.map #[] 0) ∧ w'.heap[b + 1]? = some (.map #[] 0) ∧ w'.heap[b + 2]? = some (.map #[] 0) := by
  have h93 : ∀ w : World, (Instr.makeMap 93 none).run Tryz.prog w = .ok (.map (some w.heap.size)) (w.alloc (.map #[] 0)) := fun w => run_makeMap (P := Tryz.prog) 93 w
  have h94 : ∀ w : World, (Instr.makeMap 94 none).run Tryz.prog w = .ok (.map (some w.heap.size)) (w.alloc (.map #[] 0)) := fun w => run_makeMap (P := Tryz.prog) 94 w
  have h95 : ∀ w : World, (Instr.makeMap 95 none).run Tryz.prog w = .ok (.map (some w.heap.size)) (w.alloc (.map #[] 0)) := fun w => run_makeMap (P := Tryz.prog) 95 w
  have hB := allocs_below [Obj.cells #[.map (some (w.heap.size + 1)), .map (some (w.heap.size + 1 + 1)), .map (some (w.heap.size + 1 + 1 + 1)), .int .i64 0, .slice none 0 0, .slice none 0 0, .slice none 0 0] 99, .map #[] 0, .map #[] 0, .map #[] 0] w
  have r0 := allocs_heap [Obj.cells #[.map (some (w.heap.size + 1)), .map (some (w.heap.size + 1 + 1)), .map (some (w.heap.size + 1 + 1 + 1)), .int .i64 0, .slice none 0 0, .slice none 0 0, .slice none 0 0] 99, .map #[] 0, .map #[] 0, .map #[] 0] w 0 _ rfl
  have r1 := allocs_heap [Obj.cells #[.map (some (w.heap.size + 1)), .map (some (w.heap.size + 1 + 1)), .map (some (w.heap.size + 1 + 1 + 1)), .int .i64 0, .slice none 0 0, .slice none 0 0, .slice none 0 0] 99, .map #[] 0, .map #[] 0, .map #[] 0] w 1 _ rfl
  have r2 := allocs_heap [Obj.cells #[.map (some (w.heap.size + 1)), .map (some (w.heap.size + 1 + 1)), .map (some (w.heap.size + 1 + 1 + 1)), .int .i64 0, .slice none 0 0, .slice none 0 0, .slice none 0 0] 99, .map #[] 0, .map #[] 0, .map #[] 0] w 2 _ rfl
  have r3 := allocs_heap [Obj.cells #[.map (some (w.heap.size + 1)), .map (some (w.heap.size + 1 + 1)), .map (some (w.heap.size + 1 + 1 + 1)), .int .i64 0, .slice none 0 0, .slice none 0 0, .slice none 0 0] 99, .map #[] 0, .map #[] 0, .map #[] 0] w 3 _ rfl
  go_enter Tryz.func61, Tryz.ntmps61
  go_wp2
  refine bodyPost_ret (results_cell_row rfl _ _ _ _ _ _ _ rfl r0 Tryz.underlying99 rfl (by kernel_rfl)) rfl ⟨hB, w.heap.size + 1, by omega, rfl, r1, r2, r3⟩
end Go.Proofs.YtboeokmaepchgaaGreatDoor
