/- VK, VL, VM, VN, VO, laid into one text. -/
import Derived.Test.YtboeokmaepchgaaGreatDoorVI
import Derived.Test.YtboeokmaepchgaaGreatDoorM34
/- rlp: lists of items that are laid out by hand. -/
namespace Go.Proofs.YtboeokmaepchgaaGreatDoor
open Go.RowKit Go.Maps Go.Joins Go.Shelf
set_option linter.unusedSimpArgs false
set_option linter.unusedVariables false
abbrev icV (f : IC) : Value := .agg #[.bool f.x.l, f.sb, f.si]
theorem info154c : ∃ i z, Tryz.prog.info? 154 = some i ∧ i.zero = some z ∧ i.size = 3 := by
  have : (Tryz.prog.info? 154).map (fun i => (i.zero, i.size)) = some (some (.agg #[.bool false, .slice none 0 0, .slice none 0 0]), 3) := by kernel_rfl
  cases h : Tryz.prog.info? 154 with
  | none => rw [h] at this; cases this
  | some i =>
    rw [h] at this
    simp only [Option.map_some, Option.some.injEq, Prod.mk.injEq] at this
    exact ⟨i, _, rfl, this.1, this.2⟩
theorem fill_its (A : List IC) (n : Nat) (hn : n = A.length) (z : Array Value) : Instr.fill (fun i => some (i * 3, 3)) ((Array.range (n * 3)).map (z[· % z.size]!)) (((A.map icV).zipIdx 0).map fun x => (x.2, x.1)) = some (icL A).toArray := by
  have := Great.fill_whole (s := 3) (by decide) (A.map icV) ((Array.range (n * 3)).map (z[· % z.size]!)) (by intro v hv; obtain ⟨f, _, rfl⟩ := List.mem_map.1 hv; rfl) (by simp [hn])
  rw [this]
  congr 2
  rw [List.flatMap_map]
  rfl
theorem build4 (w : World) (f0 f1 f2 f3 : IC) : (Instr.buildSlice 152 4 #[(0, icV f0), (1, icV f1), (2, icV f2), (3, icV f3)]).run Tryz.prog w = .ok (.slice (some ⟨w.heap.size, 0, none⟩) 4 4) (w.alloc (.cells (icL [f0, f1, f2, f3]).toArray 154)) := by
  obtain ⟨i, z, hi, hz, hs⟩ := info154c
  refine run_buildSlice w 152 154 4 _ _ i z Tryz.underlying152 hi hz (by rw [hs]; omega) (by rw [hs]; omega) ?_
  rw [hs]
  exact fill_its [f0, f1, f2, f3] 4 rfl z.cells
theorem build2 (w : World) (f0 f1 : IC) : (Instr.buildSlice 152 2 #[(0, icV f0), (1, icV f1)]).run Tryz.prog w = .ok (.slice (some ⟨w.heap.size, 0, none⟩) 2 2) (w.alloc (.cells (icL [f0, f1]).toArray 154)) := by
  obtain ⟨i, z, hi, hz, hs⟩ := info154c
  refine run_buildSlice w 152 154 2 _ _ i z Tryz.underlying152 hi hz (by rw [hs]; omega) (by rw [hs]; omega) ?_
  rw [hs]
  exact fill_its [f0, f1] 2 rfl z.cells
/-- An item that lies somewhere in memory. -/
abbrev ItH (w : World) (sb si : Value) (x : Tr) : Prop := ItV w (fun b => b < w.heap.size) sb si x
theorem ItV.below {w w' : World} {sb si : Value} {x : Tr} (h : ItH w sb si x) (hb : Below w.heap.size w w') : ItH w' sb si x := h.mono (fun b hb' => hb.block b hb') (fun b hb' => Nat.lt_of_lt_of_le hb' hb.size)
theorem ItV.here {w w' : World} {sb si : Value} {x : Tr} (h : ItV w' (fun b => w.heap.size ≤ b ∧ b < w'.heap.size) sb si x) : ItH w' sb si x := h.mono (fun _ _ => rfl) (fun b hb => hb.2)
theorem its_laid {w : World} {g : Nat} {A : List IC} (h : w.heap[g]? = some (.cells (icL A).toArray 154)) (hit : ∀ f ∈ A, ItH w f.sb f.si f.x) (hn : A.length ≤ 1000) : ItsV w (fun b => b < w.heap.size) (.slice (some ⟨g, 0, none⟩) A.length A.length) (A.map IC.x) := by
  refine row_its (base := 0) ⟨icL_length A, Or.inr ⟨g, A.length, (icL A).toArray, rfl, Nat.zero_le _, h, Nat.le_refl _, by unfold maxLen; omega, by simp [icL_length], by simp [← icL_length]⟩⟩ hit (fun b hb => ?_) (by omega)
  simp only [Value.ownBlock, Option.some.injEq] at hb
  subst hb
  exact heap_lt h
end Go.Proofs.YtboeokmaepchgaaGreatDoor
/- state: the node of an account that has five. -/
namespace Go.Proofs.YtboeokmaepchgaaGreatDoor
open Go.RowKit Go.Maps Go.Joins Go.Shelf
set_option linter.unusedSimpArgs false
set_option linter.unusedVariables false
/-- The account as an item. -/
abbrev ndT (D E : Nat → BitVec 8) : Tr := .mk true [] [.mk false (shortB 0) [], .mk false (shortB 5) [], .mk false (rwB 32 D) [], .mk false (rwB 32 E) []]
theorem L4_5 : Wd.L4 5 0 0 0 := by unfold Wd.L4 Wd.Limb; omega
theorem own_lower {w : World} {base B : Nat} {e : TypeId} {size n : Nat} {v : Value} {xs : List Value} (h : w.ownsRow base e size v n xs) (hB : B ≤ base) : w.ownsRow B e size v n xs := by
  obtain ⟨h1, h2 | ⟨g, cap, cur, h3, h4, h5⟩⟩ := h
  · exact ⟨h1, Or.inl h2⟩
  · exact ⟨h1, Or.inr ⟨g, cap, cur, h3, Nat.le_trans hB h4, h5⟩⟩
theorem fv_code {w : World} {p : Nat} {D E : Nat → BitVec 8} (h : w.heap[p]? = some (.cells (fvA D E) 86)) : BytesV w (.slice (some ⟨p, 37, none⟩) 32 32) (rwB 32 E) := by
  refine Or.inr ⟨⟨p, 37, none⟩, 32, by rw [rwB_length], fun j u hu => ?_⟩
  have hj : j < 32 := by
    rcases Nat.lt_or_ge j 32 with h1 | h1
    · exact h1
    · rw [List.getElem?_eq_none (by simp [vB, rwB_length]; omega)] at hu; cases hu
  have e1 : u = .int .u8 (Kc.I8 (E j)) := by
    simp [vB, rwB, hj] at hu
    exact hu.symm
  rw [Addr.add_lit, cell_of_block h, Kc.get_vec 70 (fvF D E) (37 + j) (by omega), e1]
  simp only [fvF, acF]
  rw [if_neg (by omega), if_neg (by omega), if_neg (by omega), if_neg (by omega), if_neg (by omega), if_neg (by omega), if_pos (by omega), Nat.add_sub_cancel_left]
set_option maxRecDepth 100000 in
set_option maxHeartbeats 16000000 in
theorem node_five {w : World} (D E : Nat → BitVec 8) : Calls Tryz.prog 140 #[.agg (fvA D E), .agg (Kc.vec 32 (Kc.byt D))] w fun e w' => Below w.heap.size w w' ∧ ∃ v, e = .returned v ∧ w'.ownsRow w.heap.size 5 1 v (encR (ndT D E)).length (vB (encR (ndT D E))) := by
  have hB0 : Below w.heap.size w ((w.alloc (.cells (fvA D E) 86)).alloc (.cells (Kc.vec 32 (Kc.byt D)) 33)) := by go_grown
  have H0 : Hid (Below w.heap.size w ((w.alloc (.cells (fvA D E) 86)).alloc (.cells (Kc.vec 32 (Kc.byt D)) 33)) ∧ ((w.alloc (.cells (fvA D E) 86)).alloc (.cells (Kc.vec 32 (Kc.byt D)) 33)).heap[w.heap.size]? = some (.cells (fvA D E) 86) ∧ ((w.alloc (.cells (fvA D E) 86)).alloc (.cells (Kc.vec 32 (Kc.byt D)) 33)).heap[w.heap.size + 1]? = some (.cells (Kc.vec 32 (Kc.byt D)) 33)) := ⟨hB0, allocs_heap [.cells (fvA D E) 86, .cells (Kc.vec 32 (Kc.byt D)) 33] w 0 _ rfl, allocs_heap [.cells (fvA D E) 86, .cells (Kc.vec 32 (Kc.byt D)) 33] w 1 _ rfl⟩
  clear hB0
  go_enter Tryz.func140, Tryz.ntmps140
  go_wp2_with fail
  generalize (w.alloc (.cells (fvA D E) 86)).alloc (.cells (Kc.vec 32 (Kc.byt D)) 33) = W0 at H0 ⊢
  refine wp_noP ?_
  refine wp_region_held_drew (S := (fun w' : World => w'.heap[w.heap.size]? = some (.cells (fvA D E) 86) ∧ w'.heap[w.heap.size + 1]? = some (.cells (Kc.vec 32 (Kc.byt D)) 33))) (by kernel_rfl) H0.out.2 (fun hHeld => ?_)
  have G0 : Hid (Below w.heap.size w W0.drew) := ⟨H0.out.1.os, H0.out.1.tape, H0.out.1.output, H0.out.1.size, H0.out.1.block⟩
  clear H0
  generalize W0.drew = U0 at G0 hHeld ⊢
  refine wpAnyH_take (i := 0) (v := .pointer (some ⟨w.heap.size, 0, none⟩)) rfl (by kernel_rfl) (by kernel_rfl) (by kernel_rfl) (fun _ _ _ h => h) (Or.inl ⟨by rfl, fun w9 hSw => ?_⟩) hHeld ?_
  · go_simp
  simp only [List.getElem_toArray, List.getElem_cons_succ, List.getElem_cons_zero, Act.put, List.setIfInBounds_toArray, List.set_cons_zero, List.set_cons_succ]
  refine wpAnyH_take (i := 1) (v := .int .u64 0) rfl (by kernel_rfl) (by kernel_rfl) (by kernel_rfl) (fun _ _ _ h => h) (Or.inl ⟨by rfl, fun w9 hSw => ?_⟩) hHeld ?_
  · have k0 : w9.cell? ⟨w.heap.size, 0, none⟩ = some (.int .u64 0) := by rw [cell_of_block hSw.1, Kc.get_vec 70 (fvF D E) 0 (by decide)]; rfl
    go_simp
  simp only [List.getElem_toArray, List.getElem_cons_succ, List.getElem_cons_zero, Act.put, List.setIfInBounds_toArray, List.set_cons_zero, List.set_cons_succ]
  refine wpAnyH_take (i := 3) (v := .pointer (some ⟨w.heap.size, 1, none⟩)) rfl (by kernel_rfl) (by kernel_rfl) (by kernel_rfl) (fun _ _ _ h => h) (Or.inl ⟨by rfl, fun w9 hSw => ?_⟩) hHeld ?_
  · go_simp
  simp only [List.getElem_toArray, List.getElem_cons_succ, List.getElem_cons_zero, Act.put, List.setIfInBounds_toArray, List.set_cons_zero, List.set_cons_succ]
  refine wpAnyH_take (i := 4) (v := w5V) rfl (by kernel_rfl) (by kernel_rfl) (by kernel_rfl) (fun _ _ _ h => h) (Or.inl ⟨by rfl, fun w9 hSw => ?_⟩) hHeld ?_
  · have k1 : w9.cell? ⟨w.heap.size, 1, none⟩ = some (.int .u64 5) := by rw [cell_of_block hSw.1, Kc.get_vec 70 (fvF D E) 1 (by decide)]; rfl
    have k2 : w9.cell? ⟨w.heap.size, 2, none⟩ = some (.int .u64 0) := by rw [cell_of_block hSw.1, Kc.get_vec 70 (fvF D E) 2 (by decide)]; rfl
    have k3 : w9.cell? ⟨w.heap.size, 3, none⟩ = some (.int .u64 0) := by rw [cell_of_block hSw.1, Kc.get_vec 70 (fvF D E) 3 (by decide)]; rfl
    have k4 : w9.cell? ⟨w.heap.size, 4, none⟩ = some (.int .u64 0) := by rw [cell_of_block hSw.1, Kc.get_vec 70 (fvF D E) 4 (by decide)]; rfl
    go_simp
  simp only [List.getElem_toArray, List.getElem_cons_succ, List.getElem_cons_zero, Act.put, List.setIfInBounds_toArray, List.set_cons_zero, List.set_cons_succ]
  refine wpAnyH_take (i := 6) (v := .slice (some ⟨w.heap.size + 1, 0, none⟩) 32 32) rfl (by kernel_rfl) (by kernel_rfl) (by kernel_rfl) (fun _ _ _ h => h) (Or.inl ⟨by rfl, fun w9 hSw => ?_⟩) hHeld ?_
  · go_simp
  simp only [List.getElem_toArray, List.getElem_cons_succ, List.getElem_cons_zero, Act.put, List.setIfInBounds_toArray, List.set_cons_zero, List.set_cons_succ]
  refine wpAnyH_take (i := 8) (v := .pointer (some ⟨w.heap.size, 37, none⟩)) rfl (by kernel_rfl) (by kernel_rfl) (by kernel_rfl) (fun _ _ _ h => h) (Or.inl ⟨by rfl, fun w9 hSw => ?_⟩) hHeld ?_
  · go_simp
  simp only [List.getElem_toArray, List.getElem_cons_succ, List.getElem_cons_zero, Act.put, List.setIfInBounds_toArray, List.set_cons_zero, List.set_cons_succ]
  refine wpAnyH_take (i := 9) (v := .slice (some ⟨w.heap.size, 37, none⟩) 32 32) rfl (by kernel_rfl) (by kernel_rfl) (by kernel_rfl) (fun _ _ _ h => h) (Or.inl ⟨by rfl, fun w9 hSw => ?_⟩) hHeld ?_
  · go_simp
  simp only [List.getElem_toArray, List.getElem_cons_succ, List.getElem_cons_zero, Act.put, List.setIfInBounds_toArray, List.set_cons_zero, List.set_cons_succ]
  refine wpAnyH_ready (rs := [2]) (by kernel_rfl) (by simp) ?_
  refine AllReadyH.cons rfl (fun K hK => ?_) AllReadyH.nil
  have hC := num_any (w := U0) 0 (by decide)
  go_simp
  refine Calls.mono hC ?_
  clear hC
  rintro e U1 ⟨hb, s0, rfl, hi⟩
  have hx : (fun w' : World => w'.heap[w.heap.size]? = some (.cells (fvA D E) 86) ∧ w'.heap[w.heap.size + 1]? = some (.cells (Kc.vec 32 (Kc.byt D)) 33)) U1 := ⟨(hb.block _ (heap_lt hHeld.1)).trans hHeld.1, (hb.block _ (heap_lt hHeld.2)).trans hHeld.2⟩
  have G1 : Hid (Below w.heap.size w U1 ∧ ItH U1 s0 (.slice none 0 0) (.mk false (shortB 0) [])) := ⟨G0.out.trans (hb.mono G0.out.size), hi.here⟩
  clear hb hi G0
  refine hK.out _ _ hx (fun hHeld => ?_)
  clear hK K
  try simp only [List.getElem_toArray, List.getElem_cons_succ, List.getElem_cons_zero, Act.put, List.setIfInBounds_toArray, List.set_cons_zero, List.set_cons_succ]
  refine wpAnyH_ready (rs := [5]) (by kernel_rfl) (by simp) ?_
  refine AllReadyH.cons rfl (fun K hK => ?_) AllReadyH.nil
  have hC := big_any (w := U1) 5 0 0 0 L4_5 5 (by decide)
  go_simp
  refine Calls.mono hC ?_
  clear hC
  rintro e U2 ⟨hb, s1, rfl, hi⟩
  have hx : (fun w' : World => w'.heap[w.heap.size]? = some (.cells (fvA D E) 86) ∧ w'.heap[w.heap.size + 1]? = some (.cells (Kc.vec 32 (Kc.byt D)) 33)) U2 := ⟨(hb.block _ (heap_lt hHeld.1)).trans hHeld.1, (hb.block _ (heap_lt hHeld.2)).trans hHeld.2⟩
  have G2 : Hid (Below w.heap.size w U2 ∧ ItH U2 s0 (.slice none 0 0) (.mk false (shortB 0) []) ∧ ItH U2 s1 (.slice none 0 0) (.mk false (shortB 5) [])) := ⟨G1.out.1.trans (hb.mono G1.out.1.size), G1.out.2.below hb, hi.here⟩
  clear hb hi G1
  refine hK.out _ _ hx (fun hHeld => ?_)
  clear hK K
  try simp only [List.getElem_toArray, List.getElem_cons_succ, List.getElem_cons_zero, Act.put, List.setIfInBounds_toArray, List.set_cons_zero, List.set_cons_succ]
  refine wpAnyH_ready (rs := [7]) (by kernel_rfl) (by simp) ?_
  refine AllReadyH.cons rfl (fun K hK => ?_) AllReadyH.nil
  have hC := str_any (w := U2) (rwB_v hHeld.2) (by rw [rwB_length]; decide)
  go_simp
  refine Calls.mono hC ?_
  clear hC
  rintro e U3 ⟨hb, s2, rfl, hi⟩
  have hx : (fun w' : World => w'.heap[w.heap.size]? = some (.cells (fvA D E) 86) ∧ w'.heap[w.heap.size + 1]? = some (.cells (Kc.vec 32 (Kc.byt D)) 33)) U3 := ⟨(hb.block _ (heap_lt hHeld.1)).trans hHeld.1, (hb.block _ (heap_lt hHeld.2)).trans hHeld.2⟩
  have G3 : Hid (Below w.heap.size w U3 ∧ ItH U3 s0 (.slice none 0 0) (.mk false (shortB 0) []) ∧ ItH U3 s1 (.slice none 0 0) (.mk false (shortB 5) []) ∧ ItH U3 s2 (.slice none 0 0) (.mk false (rwB 32 D) [])) := ⟨G2.out.1.trans (hb.mono G2.out.1.size), G2.out.2.1.below hb, G2.out.2.2.below hb, hi.here⟩
  clear hb hi G2
  refine hK.out _ _ hx (fun hHeld => ?_)
  clear hK K
  try simp only [List.getElem_toArray, List.getElem_cons_succ, List.getElem_cons_zero, Act.put, List.setIfInBounds_toArray, List.set_cons_zero, List.set_cons_succ]
  refine wpAnyH_ready (rs := [10]) (by kernel_rfl) (by simp) ?_
  refine AllReadyH.cons rfl (fun K hK => ?_) AllReadyH.nil
  have hC := str_any (w := U3) (fv_code hHeld.1) (by rw [rwB_length]; decide)
  go_simp
  refine Calls.mono hC ?_
  clear hC
  rintro e U4 ⟨hb, s3, rfl, hi⟩
  have hx : (fun w' : World => w'.heap[w.heap.size]? = some (.cells (fvA D E) 86) ∧ w'.heap[w.heap.size + 1]? = some (.cells (Kc.vec 32 (Kc.byt D)) 33)) U4 := ⟨(hb.block _ (heap_lt hHeld.1)).trans hHeld.1, (hb.block _ (heap_lt hHeld.2)).trans hHeld.2⟩
  have G4 : Hid (Below w.heap.size w U4 ∧ ItH U4 s0 (.slice none 0 0) (.mk false (shortB 0) []) ∧ ItH U4 s1 (.slice none 0 0) (.mk false (shortB 5) []) ∧ ItH U4 s2 (.slice none 0 0) (.mk false (rwB 32 D) []) ∧ ItH U4 s3 (.slice none 0 0) (.mk false (rwB 32 E) [])) := ⟨G3.out.1.trans (hb.mono G3.out.1.size), G3.out.2.1.below hb, G3.out.2.2.1.below hb, G3.out.2.2.2.below hb, hi.here⟩
  clear hb hi G3
  refine hK.out _ _ hx (fun hHeld => ?_)
  clear hK K
  try simp only [List.getElem_toArray, List.getElem_cons_succ, List.getElem_cons_zero, Act.put, List.setIfInBounds_toArray, List.set_cons_zero, List.set_cons_succ]
  refine wpAnyH_ready (rs := [11]) (by kernel_rfl) (by simp) ?_
  refine AllReadyH.cons rfl (fun K hK => ?_) AllReadyH.nil
  have hbs := build4 U4 ⟨.mk false (shortB 0) [], s0, .slice none 0 0⟩ ⟨.mk false (shortB 5) [], s1, .slice none 0 0⟩ ⟨.mk false (rwB 32 D) [], s2, .slice none 0 0⟩ ⟨.mk false (rwB 32 E) [], s3, .slice none 0 0⟩
  go_simp
  have hb : Below U4.heap.size U4 (U4.alloc (.cells #[.bool false, s0, .slice none 0 0, .bool false, s1, .slice none 0 0, .bool false, s2, .slice none 0 0, .bool false, s3, .slice none 0 0] 154)) := by go_grown
  have hx : (fun w' : World => w'.heap[w.heap.size]? = some (.cells (fvA D E) 86) ∧ w'.heap[w.heap.size + 1]? = some (.cells (Kc.vec 32 (Kc.byt D)) 33)) (U4.alloc (.cells #[.bool false, s0, .slice none 0 0, .bool false, s1, .slice none 0 0, .bool false, s2, .slice none 0 0, .bool false, s3, .slice none 0 0] 154)) := ⟨(hb.block _ (heap_lt hHeld.1)).trans hHeld.1, (hb.block _ (heap_lt hHeld.2)).trans hHeld.2⟩
  have hits := its_laid (w := U4.alloc (.cells #[.bool false, s0, .slice none 0 0, .bool false, s1, .slice none 0 0, .bool false, s2, .slice none 0 0, .bool false, s3, .slice none 0 0] 154)) (g := U4.heap.size) (A := [⟨.mk false (shortB 0) [], s0, .slice none 0 0⟩, ⟨.mk false (shortB 5) [], s1, .slice none 0 0⟩, ⟨.mk false (rwB 32 D) [], s2, .slice none 0 0⟩, ⟨.mk false (rwB 32 E) [], s3, .slice none 0 0⟩]) (heap_alloc_new _ _) (by
    intro f hf
    simp only [List.mem_cons, List.not_mem_nil, or_false] at hf
    rcases hf with rfl | rfl | rfl | rfl
    · exact G4.out.2.1.below hb
    · exact G4.out.2.2.1.below hb
    · exact G4.out.2.2.2.1.below hb
    · exact G4.out.2.2.2.2.below hb) (by simp)
  have G5 : Hid (Below w.heap.size w (U4.alloc (.cells #[.bool false, s0, .slice none 0 0, .bool false, s1, .slice none 0 0, .bool false, s2, .slice none 0 0, .bool false, s3, .slice none 0 0] 154)) ∧ ItsV (U4.alloc (.cells #[.bool false, s0, .slice none 0 0, .bool false, s1, .slice none 0 0, .bool false, s2, .slice none 0 0, .bool false, s3, .slice none 0 0] 154)) (fun b => b < (U4.alloc (.cells #[.bool false, s0, .slice none 0 0, .bool false, s1, .slice none 0 0, .bool false, s2, .slice none 0 0, .bool false, s3, .slice none 0 0] 154)).heap.size) (.slice (some ⟨U4.heap.size, 0, none⟩) 4 4) [.mk false (shortB 0) [], .mk false (shortB 5) [], .mk false (rwB 32 D) [], .mk false (rwB 32 E) []]) := ⟨G4.out.1.trans (hb.mono G4.out.1.size), hits⟩
  clear hb hits G4 hbs
  generalize U4.alloc (.cells #[.bool false, s0, .slice none 0 0, .bool false, s1, .slice none 0 0, .bool false, s2, .slice none 0 0, .bool false, s3, .slice none 0 0] 154) = U5 at G5 hx ⊢
  refine hK.out _ _ hx (fun hHeld => ?_)
  clear hK K
  try simp only [List.getElem_toArray, List.getElem_cons_succ, List.getElem_cons_zero, Act.put, List.setIfInBounds_toArray, List.set_cons_zero, List.set_cons_succ]
  refine wpAnyH_ready (rs := [12]) (by kernel_rfl) (by simp) ?_
  refine AllReadyH.cons rfl (fun K hK => ?_) AllReadyH.nil
  have hC := list_any (w := U5) G5.out.2 (fun _ h => h)
  go_simp
  refine Calls.mono hC ?_
  clear hC
  rintro e U6 ⟨hb, si, rfl, hi⟩
  have hx : (fun w' : World => w'.heap[w.heap.size]? = some (.cells (fvA D E) 86) ∧ w'.heap[w.heap.size + 1]? = some (.cells (Kc.vec 32 (Kc.byt D)) 33)) U6 := ⟨(hb.block _ (heap_lt hHeld.1)).trans hHeld.1, (hb.block _ (heap_lt hHeld.2)).trans hHeld.2⟩
  have G6 : Hid (Below w.heap.size w U6 ∧ ItH U6 (.slice none 0 0) si (ndT D E)) := ⟨G5.out.1.trans (hb.mono G5.out.1.size), hi.here⟩
  clear hb hi G5
  refine hK.out _ _ hx (fun hHeld => ?_)
  clear hK K
  try simp only [List.getElem_toArray, List.getElem_cons_succ, List.getElem_cons_zero, Act.put, List.setIfInBounds_toArray, List.set_cons_zero, List.set_cons_succ]
  refine wpAnyH_ready (rs := [13]) (by kernel_rfl) (by simp) ?_
  refine AllReadyH.cons rfl (fun K hK => ?_) AllReadyH.nil
  have hC := encode_any (ndT D E) U6 (.slice none 0 0) si _ G6.out.2 (fun _ h => h)
  go_simp
  refine Calls.mono hC ?_
  clear hC
  rintro e U7 ⟨hb, v, rfl, ho⟩
  have hx : (fun w' : World => w'.heap[w.heap.size]? = some (.cells (fvA D E) 86) ∧ w'.heap[w.heap.size + 1]? = some (.cells (Kc.vec 32 (Kc.byt D)) 33)) U7 := ⟨(hb.block _ (heap_lt hHeld.1)).trans hHeld.1, (hb.block _ (heap_lt hHeld.2)).trans hHeld.2⟩
  obtain ⟨vl, hvl⟩ : ∃ n, n = (encR (ndT D E)).length := ⟨_, rfl⟩
  rw [← hvl] at ho
  obtain ⟨va, vc, rfl⟩ := row_form ho
  have G7 : Hid (Below w.heap.size w U7 ∧ U7.ownsRow w.heap.size 5 1 (.slice va vl vc) (encR (ndT D E)).length (vB (encR (ndT D E)))) := ⟨G6.out.1.trans (hb.mono G6.out.1.size), own_lower (by rw [← hvl]; exact ho) G6.out.1.size⟩
  clear hb ho G6 hvl
  obtain ⟨eE, heE⟩ : ∃ eE, eE = encE (ndT D E) := ⟨_, rfl⟩
  rw [← heE]
  clear heE
  refine hK.out _ _ hx (fun hHeld => ?_)
  clear hK K
  try simp only [List.getElem_toArray, List.getElem_cons_succ, List.getElem_cons_zero, Act.put, List.setIfInBounds_toArray, List.set_cons_zero, List.set_cons_succ]
  refine wpAnyH_take (i := 14) (v := .tuple #[.slice va vl vc, .int .i64 eE]) rfl (by kernel_rfl) (by kernel_rfl) (by kernel_rfl) (fun _ _ _ h => h) (Or.inl ⟨by rfl, fun w9 hSw => ?_⟩) hHeld ?_
  · go_simp
  simp only [List.getElem_toArray, List.getElem_cons_succ, List.getElem_cons_zero, Act.put, List.setIfInBounds_toArray, List.set_cons_zero, List.set_cons_succ]
  refine wpAnyH_take (i := 15) (v := .slice va vl vc) rfl (by kernel_rfl) (by kernel_rfl) (by kernel_rfl) (fun _ _ _ h => h) (Or.inl ⟨by rfl, fun w9 hSw => ?_⟩) hHeld ?_
  · go_simp
  simp only [List.getElem_toArray, List.getElem_cons_succ, List.getElem_cons_zero, Act.put, List.setIfInBounds_toArray, List.set_cons_zero, List.set_cons_succ]
  refine wpAnyH_take (i := 16) (v := .int .i64 eE) rfl (by kernel_rfl) (by kernel_rfl) (by kernel_rfl) (fun _ _ _ h => h) (Or.inl ⟨by rfl, fun w9 hSw => ?_⟩) hHeld ?_
  · go_simp
  simp only [List.getElem_toArray, List.getElem_cons_succ, List.getElem_cons_zero, Act.put, List.setIfInBounds_toArray, List.set_cons_zero, List.set_cons_succ]
  refine wpAnyH_take (i := 17) (v := .slice va vl vc) rfl (by kernel_rfl) (by kernel_rfl) (by kernel_rfl) (fun _ _ _ h => h) (Or.inl ⟨by rfl, fun w9 hSw => ?_⟩) hHeld ?_
  · go_simp
  simp only [List.getElem_toArray, List.getElem_cons_succ, List.getElem_cons_zero, Act.put, List.setIfInBounds_toArray, List.set_cons_zero, List.set_cons_succ]
  refine wpAnyH_take (i := 18) (v := .int .i64 eE) rfl (by kernel_rfl) (by kernel_rfl) (by kernel_rfl) (fun _ _ _ h => h) (Or.inl ⟨by rfl, fun w9 hSw => ?_⟩) hHeld ?_
  · go_simp
  simp only [List.getElem_toArray, List.getElem_cons_succ, List.getElem_cons_zero, Act.put, List.setIfInBounds_toArray, List.set_cons_zero, List.set_cons_succ]
  refine wpAnyH_done (by kernel_rfl) ?_ _
  simp only [noP]
  clear hHeld hx
  go_wp2
  go_ret
  exact ⟨G7.out.1, _, rfl, G7.out.2⟩
end Go.Proofs.YtboeokmaepchgaaGreatDoor
/- state: what an account that has five is in the tree. -/
namespace Go.Proofs.YtboeokmaepchgaaGreatDoor
open Go.RowKit Go.Maps Go.Joins Go.Shelf
set_option linter.unusedSimpArgs false
set_option linter.unusedVariables false
theorem load_storage {w : World} {p : Nat} {D E : Nat → BitVec 8} (h : w.heap[p]? = some (.cells (fvA D E) 86)) : (loadVar 33 ⟨p, 5, none⟩).run Tryz.prog w = .ok (.agg (Kc.vec 32 (Kc.byt D))) w :=
  Kc.run_loadVar_mid w p 5 32 33 5 (Kc.byt D) (fun j hj => by
    rw [cell_of_block h, Kc.get_vec 70 (fvF D E) (5 + j) (by omega)]
    simp only [fvF, acF]
    rw [if_neg (by omega), if_neg (by omega), if_neg (by omega), if_neg (by omega), if_neg (by omega), if_pos (by omega), Nat.add_sub_cancel_left]) Tryz.underlying33 (by kernel_rfl)
set_option maxRecDepth 100000 in
set_option maxHeartbeats 16000000 in
theorem acct_five {w : World} {t b k m1 m2 tr : Nat} {nd lg jr sn : Value} {rf : Int} (D E : Nat → BitVec 8) (hD : D = Kc.digest (Kc.mB Kc.eM) 1) (hp : Kc.PathIn w) (ht : w.heap[t]? = some (TeC b nd k)) (hs : w.heap[b]? = some (.cells (Kc.vec 43 (stF D 0 m1 m2 tr rf lg jr sn)) 101)) :
    Calls Tryz.prog 110 #[.pointer (some ⟨t, 0, none⟩), .agg (fvA D E), .slice none 0 0] w fun e w' => Below w.heap.size w w' ∧ ∃ v, e = .returned v ∧ w'.ownsRow w.heap.size 5 1 v (encR (ndT D E)).length (vB (encR (ndT D E))) := by
  have HP : Hid (Kc.PathIn w ∧ 1 < w.heap.size ∧ D = Kc.digest (Kc.mB Kc.eM) 1 ∧ w.heap[t]? = some (TeC b nd k) ∧ w.heap[b]? = some (.cells (Kc.vec 43 (stF D 0 m1 m2 tr rf lg jr sn)) 101)) := ⟨hp, Kc.pathIn_pos hp, hD, ht, hs⟩
  have hB0 : Below w.heap.size w (w.alloc (.cells (fvA D E) 86)) := by go_grown
  have H0 : Hid (Below w.heap.size w (w.alloc (.cells (fvA D E) 86)) ∧ (w.alloc (.cells (fvA D E) 86)).heap[w.heap.size]? = some (.cells (fvA D E) 86)) := ⟨hB0, heap_alloc_new _ _⟩
  clear hB0 hp hD ht hs
  go_enter Tryz.func110, Tryz.ntmps110
  go_wp2_with (first | (refine wpList_load_row rfl 86 _ rfl w.heap.size rfl 86 _ (0, 0) _ H0.out.2 Tryz.underlying86 rfl (info86v _) ?_))
  generalize w.alloc (.cells (fvA D E) 86) = W0 at H0 ⊢
  refine Calls.mono (empty_five D E) ?_
  rintro e W1 ⟨rfl, hb1⟩
  have H1 : Hid (Below w.heap.size w W1 ∧ W1.heap[w.heap.size]? = some (.cells (fvA D E) 86)) := ⟨H0.out.1.trans (hb1.mono H0.out.1.size), (hb1.block _ (heap_lt H0.out.2)).trans H0.out.2⟩
  clear hb1 H0
  have k0 : W1.cell? ⟨w.heap.size, 69, none⟩ = some (.slice none 0 0) := by rw [cell_of_block H1.out.2, Kc.get_vec 70 (fvF D E) 69 (by decide)]; rfl
  go_wp2_with fail
  refine wp_noP ?_
  refine wp_region_held_drew (S := (fun w' : World => w'.heap[w.heap.size]? = some (.cells (fvA D E) 86) ∧ w'.heap[t]? = some (TeC b nd k) ∧ w'.heap[b]? = some (.cells (Kc.vec 43 (stF D 0 m1 m2 tr rf lg jr sn)) 101) ∧ Kc.PathIn w' ∧ 1 < w'.heap.size)) (by kernel_rfl) ⟨H1.out.2, (H1.out.1.block _ (heap_lt HP.out.2.2.2.1)).trans HP.out.2.2.2.1, (H1.out.1.block _ (heap_lt HP.out.2.2.2.2)).trans HP.out.2.2.2.2, (show Kc.PathIn W1 from HP.out.1.below H1.out.1 HP.out.2.1), (show 1 < W1.heap.size from Nat.lt_of_lt_of_le HP.out.2.1 H1.out.1.size)⟩ (fun hHeld => ?_)
  have G0 : Hid (Below w.heap.size w W1.drew) := ⟨H1.out.1.os, H1.out.1.tape, H1.out.1.output, H1.out.1.size, H1.out.1.block⟩
  clear H1 k0
  generalize W1.drew = U0 at G0 hHeld ⊢
  refine wpAnyH_take (i := 0) (v := .agg (fvA D E)) rfl (by kernel_rfl) (by kernel_rfl) (by kernel_rfl) (fun _ _ _ h => h) (Or.inl ⟨by rfl, fun w9 hSw => ?_⟩) hHeld ?_
  · exact Kc.run_load_exec 86 _ rfl _ rfl (load86 hSw.1)
  simp only [List.getElem_toArray, List.getElem_cons_succ, List.getElem_cons_zero, Act.put, List.setIfInBounds_toArray, List.set_cons_zero, List.set_cons_succ]
  refine wpAnyH_take (i := 1) (v := .pointer (some ⟨t, 0, none⟩)) rfl (by kernel_rfl) (by kernel_rfl) (by kernel_rfl) (fun _ _ _ h => h) (Or.inl ⟨by rfl, fun w9 hSw => ?_⟩) hHeld ?_
  · go_simp
  simp only [List.getElem_toArray, List.getElem_cons_succ, List.getElem_cons_zero, Act.put, List.setIfInBounds_toArray, List.set_cons_zero, List.set_cons_succ]
  refine wpAnyH_take (i := 2) (v := .pointer (some ⟨w.heap.size, 5, none⟩)) rfl (by kernel_rfl) (by kernel_rfl) (by kernel_rfl) (fun _ _ _ h => h) (Or.inl ⟨by rfl, fun w9 hSw => ?_⟩) hHeld ?_
  · go_simp
  simp only [List.getElem_toArray, List.getElem_cons_succ, List.getElem_cons_zero, Act.put, List.setIfInBounds_toArray, List.set_cons_zero, List.set_cons_succ]
  refine wpAnyH_take (i := 3) (v := .agg (Kc.vec 32 (Kc.byt D))) rfl (by kernel_rfl) (by kernel_rfl) (by kernel_rfl) (fun _ _ _ h => h) (Or.inl ⟨by rfl, fun w9 hSw => ?_⟩) hHeld ?_
  · exact Kc.run_load_exec 33 _ rfl _ rfl (load_storage hSw.1)
  simp only [List.getElem_toArray, List.getElem_cons_succ, List.getElem_cons_zero, Act.put, List.setIfInBounds_toArray, List.set_cons_zero, List.set_cons_succ]
  refine wpAnyH_take (i := 4) (v := .slice none 0 0) rfl (by kernel_rfl) (by kernel_rfl) (by kernel_rfl) (fun _ _ _ h => h) (Or.inl ⟨by rfl, fun w9 hSw => ?_⟩) hHeld ?_
  · go_simp
  simp only [List.getElem_toArray, List.getElem_cons_succ, List.getElem_cons_zero, Act.put, List.setIfInBounds_toArray, List.set_cons_zero, List.set_cons_succ]
  refine wpAnyH_ready (rs := [5]) (by kernel_rfl) (by simp) ?_
  refine AllReadyH.cons rfl (fun K hK => ?_) AllReadyH.nil
  have hC := changed_none (w := U0) D HP.out.2.2.1 hHeld.2.2.2.1 hHeld.2.1 hHeld.2.2.1
  go_simp
  refine Calls.mono hC ?_
  clear hC
  rintro e U1 ⟨rfl, hb⟩
  have hx : (fun w' : World => w'.heap[w.heap.size]? = some (.cells (fvA D E) 86) ∧ w'.heap[t]? = some (TeC b nd k) ∧ w'.heap[b]? = some (.cells (Kc.vec 43 (stF D 0 m1 m2 tr rf lg jr sn)) 101) ∧ Kc.PathIn w' ∧ 1 < w'.heap.size) U1 := ⟨(hb.block _ (heap_lt hHeld.1)).trans hHeld.1, (hb.block _ (heap_lt hHeld.2.1)).trans hHeld.2.1, (hb.block _ (heap_lt hHeld.2.2.1)).trans hHeld.2.2.1, hHeld.2.2.2.1.below hb hHeld.2.2.2.2, Nat.lt_of_lt_of_le hHeld.2.2.2.2 hb.size⟩
  have G1 : Hid (Below w.heap.size w U1) := G0.out.trans (hb.mono G0.out.size)
  clear hb G0
  refine hK.out _ _ hx (fun hHeld => ?_)
  clear hK K
  try simp only [List.getElem_toArray, List.getElem_cons_succ, List.getElem_cons_zero, Act.put, List.setIfInBounds_toArray, List.set_cons_zero, List.set_cons_succ]
  refine wpAnyH_ready (rs := [6]) (by kernel_rfl) (by simp) ?_
  refine AllReadyH.cons rfl (fun K hK => ?_) AllReadyH.nil
  have hC := node_five (w := U1) D E
  go_simp
  refine Calls.mono hC ?_
  clear hC
  rintro e U2 ⟨hb, v, rfl, ho⟩
  have hx : (fun w' : World => w'.heap[w.heap.size]? = some (.cells (fvA D E) 86) ∧ w'.heap[t]? = some (TeC b nd k) ∧ w'.heap[b]? = some (.cells (Kc.vec 43 (stF D 0 m1 m2 tr rf lg jr sn)) 101) ∧ Kc.PathIn w' ∧ 1 < w'.heap.size) U2 := ⟨(hb.block _ (heap_lt hHeld.1)).trans hHeld.1, (hb.block _ (heap_lt hHeld.2.1)).trans hHeld.2.1, (hb.block _ (heap_lt hHeld.2.2.1)).trans hHeld.2.2.1, hHeld.2.2.2.1.below hb hHeld.2.2.2.2, Nat.lt_of_lt_of_le hHeld.2.2.2.2 hb.size⟩
  obtain ⟨vl, hvl⟩ : ∃ n, n = (encR (ndT D E)).length := ⟨_, rfl⟩
  rw [← hvl] at ho
  obtain ⟨va, vc, rfl⟩ := row_form ho
  have G7 : Hid (Below w.heap.size w U2 ∧ U2.ownsRow w.heap.size 5 1 (.slice va vl vc) (encR (ndT D E)).length (vB (encR (ndT D E)))) := ⟨G1.out.trans (hb.mono G1.out.size), own_lower (by rw [← hvl]; exact ho) G1.out.size⟩
  clear hb ho G1 hvl
  refine hK.out _ _ hx (fun hHeld => ?_)
  clear hK K
  try simp only [List.getElem_toArray, List.getElem_cons_succ, List.getElem_cons_zero, Act.put, List.setIfInBounds_toArray, List.set_cons_zero, List.set_cons_succ]
  refine wpAnyH_take (i := 7) (v := .slice va vl vc) rfl (by kernel_rfl) (by kernel_rfl) (by kernel_rfl) (fun _ _ _ h => h) (Or.inl ⟨by rfl, fun w9 hSw => ?_⟩) hHeld ?_
  · go_simp
  simp only [List.getElem_toArray, List.getElem_cons_succ, List.getElem_cons_zero, Act.put, List.setIfInBounds_toArray, List.set_cons_zero, List.set_cons_succ]
  refine wpAnyH_done (by kernel_rfl) ?_ _
  simp only [noP]
  clear hHeld hx
  go_wp2_with fail
  go_ret
  exact ⟨G7.out.1, _, rfl, G7.out.2⟩
end Go.Proofs.YtboeokmaepchgaaGreatDoor
/- state: change. -/
namespace Go.Proofs.YtboeokmaepchgaaGreatDoor
open Go.RowKit Go.Maps Go.Joins Go.Shelf
set_option linter.unusedSimpArgs false
set_option linter.unusedVariables false
set_option maxRecDepth 100000 in
set_option maxHeartbeats 16000000 in
theorem change_any {w : World} {a va : Option Addr} {c vl vc : Nat} {bs : List Int} (K : Nat → BitVec 8) (hK : K = Kc.digest (Kc.mB bs) bs.length) (hp : Kc.PathIn w) (h : BytesV w (.slice a bs.length c) bs) (hb : Byt bs) (hc : bs.length ≤ c) (hm : c ≤ 9223372036854775807) (hl : bs.length ≤ 140737488351232) :
    Calls Tryz.prog 109 #[.slice a bs.length c, .slice va vl vc] w fun e w' => Below w.heap.size w w' ∧ ∃ g, e = .returned (.agg #[.slice (some ⟨g, 0, none⟩) 32 32, .slice va vl vc]) ∧ w.heap.size ≤ g ∧ w'.heap[g]? = some (.cells (Kc.vec 32 (Kc.byt K)) 33) := by
  have hB0 : Below w.heap.size w (w.alloc (.cells #[.slice none 0 0, .slice none 0 0] 142)) := by go_grown
  have HC : Hid _ := sum_b (w := w.alloc (.cells #[.slice none 0 0, .slice none 0 0] 142)) (hp.below hB0 (Kc.pathIn_pos hp)) (h.below hB0) hb hc hm hl
  rw [← hK] at HC
  have H0 : Hid (Below w.heap.size w (w.alloc (.cells #[.slice none 0 0, .slice none 0 0] 142)) ∧ (w.alloc (.cells #[.slice none 0 0, .slice none 0 0] 142)).heap[w.heap.size]? = some (.cells #[.slice none 0 0, .slice none 0 0] 142)) := ⟨hB0, heap_alloc_new _ _⟩
  obtain ⟨n, hn⟩ : ∃ n, n = bs.length := ⟨_, rfl⟩
  rw [← hn] at HC ⊢
  clear hp h hb hc hm hl hK hn hB0
  go_enter Tryz.func109, Tryz.ntmps109
  go_wp2_with fail
  generalize w.alloc (.cells #[.slice none 0 0, .slice none 0 0] 142) = W0 at HC H0 ⊢
  refine Calls.mono HC.out ?_
  rintro e W1 ⟨rfl, hb1⟩
  have H1 : Hid (Below w.heap.size w W1 ∧ W1.heap[w.heap.size]? = some (.cells #[.slice none 0 0, .slice none 0 0] 142)) := ⟨H0.out.1.trans (hb1.mono H0.out.1.size), (hb1.block _ (heap_lt H0.out.2)).trans H0.out.2⟩
  clear hb1 H0 HC
  have hh : (W1.alloc (.cells (Kc.vec 32 (Kc.byt K)) 33)).heap[w.heap.size]? = some (.cells #[.slice none 0 0, .slice none 0 0] 142) := (heap_alloc_old _ _ (heap_lt H1.out.2)).trans H1.out.2
  go_wp2_with (first | (refine wpList_store_row (o := { dst := none, op := Op.store 33 (Operand.tmp 5) (Operand.tmp 7), type := 0, pos := "root.go:67", after := _, guard := none }) rfl 33 _ _ rfl W1.heap.size (Kc.vec 32 (Kc.byt K)) rfl rfl 33 _ (heap_alloc_new _ _) (Kc.info29v _) (by simp) (Kc.one_byt _ _) ?_; rw [World.setRow_alloc_new]) | (refine wpList_store_row rfl 142 _ _ rfl w.heap.size #[.slice (some ⟨W1.heap.size, 0, none⟩) 32 32, .slice va vl vc] rfl rfl 142 _ hh (by kernel_rfl) (by simp) (by simp [Value.oneCell']) ?_))
  have hr : ((W1.alloc (.cells (Kc.vec 32 (Kc.byt K)) 33)).setRow w.heap.size #[.slice (some ⟨W1.heap.size, 0, none⟩) 32 32, .slice va vl vc]).heap[w.heap.size]? = some (.cells #[.slice (some ⟨W1.heap.size, 0, none⟩) 32 32, .slice va vl vc] 142) := setRow_heap _ _ _ _ _ _ hh
  refine bodyPost_ret (results_cell_row rfl _ _ _ _ _ _ _ rfl hr Tryz.underlying142 rfl (by kernel_rfl)) rfl ⟨?_, W1.heap.size, rfl, H1.out.1.size, ?_⟩
  · exact ((Kc.Only.refl _ _).setRow _).below (H1.out.1.trans ((by go_grown : Below W1.heap.size W1 (W1.alloc (.cells (Kc.vec 32 (Kc.byt K)) 33))).mono H1.out.1.size)) (by omega)
  · exact (setRow_other _ _ _ _ (by have := heap_lt H1.out.2; omega)).trans (heap_alloc_new _ _)
end Go.Proofs.YtboeokmaepchgaaGreatDoor
/- Maps whose keys are arrays, looked into without a second answer; append of one as a step. -/
namespace Go.Proofs.YtboeokmaepchgaaGreatDoor
open Go.RowKit Go.Maps Go.Joins Go.Shelf
set_option linter.unusedSimpArgs false
set_option linter.unusedVariables false
def lookB (n : Nat) (x : Nat → Int) (l : List ((Nat → Int) × Value × Nat)) (z : Value) : Value :=
  match findA n x l 0 with
  | some (_, v) => v
  | none => z
theorem run_lookup_arrB {P : Program} {w : World} (T K V e n : Nat) (k : IntKind) (hT : P.underlying T = some (.map K V)) (ht : P.underlying K = some (.array n e)) (hs : ∀ w, (sizeOf e).run P w = .ok 1 w) (ha : ∀ w, (isAgg e).run P w = .ok false w) (he : P.underlying e = some (.int k)) (z : Value) (hz : ∀ w, (zeroValue V).run P w = .ok z w)
    {m clock : Nat} (l : List ((Nat → Int) × Value × Nat)) (hm : w.heap[m]? = some (.map (entA n k l).toArray clock)) (x : Nat → Int) :
    (Instr.lookup T (.map (some m)) (arV n k x) false).run P w = .ok (lookB n x l z) w := by
  have hf := find_arr K e n k ht hs ha he x l w
  have hgo : (getObj m).run P w = .ok (.map (entA n k l).toArray clock) w := by simp [getObj, Sem.run, hm]
  unfold Instr.lookup
  simp only [Sem.run_bind, run_underlying hT, Result.andThen_ok, hgo, Sem.run_pure, check_arr _ K e n k ht hs ha he x w, hf, List.toList_toArray]
  unfold lookB
  cases findA n x l 0 with
  | none => simp [hz]
  | some p => simp
theorem step_app_one {P : Program} {w : World} {ops : Array Oper} {o : Oper} {a : Act} {K : Act → World → Prop} {Q : Exit → Act → World → Prop} {E : Prop} (hgd : o.guard = none) (s x : Operand) (t : TypeId) (ho : o.op = .call { callee := .builtin .append, args := #[s, x], argTypes := #[t, t] })
    (e : TypeId) (i : TypeInfo) (z : Value) (size bytes : Nat) (ht : P.underlying t = some (.slice e)) (hi : P.info? e = some i) (hz : i.zero = some z) (hsize : i.size = size) (hby : i.bytes = bytes) (hzs : z.cells.size = size) (hsz : 0 < size) (hbb : bytes ≤ 140737488355328)
    (hs : a.eval s = .slice none 0 0) (g c : Nat) (hx : a.eval x = .slice (some ⟨g, 0, none⟩) 1 c) (news : List Value) (hl : news.length = size) (hnews : ∀ j u, news[j]? = some u → w.cell? ⟨g, j, none⟩ = some u) (h1 : ∀ u ∈ news, u.oneCell' = true)
    (h : ∀ B cap w', Below w.heap.size w w' → w.heap.size ≤ B → 1 ≤ cap → (∀ j u, news[j]? = some u → w'.cell? ⟨B, j, none⟩ = some u) → K (a.put o.dst (.slice (some ⟨B, 0, none⟩) 1 cap)) w') : if Region.wanted o (yielded ops a.tmps) = true then Oper.wp P o a w K Q else E := by
  have hw : Region.wanted o (yielded ops a.tmps) = true := by simp [Region.wanted, hgd]
  rw [if_pos hw]
  obtain ⟨B, cap, w', hr, hb, hB, hc, hcs⟩ := app_one (P := P) w t o.type e i z size bytes ht hi hz hsize hby hzs hsz hbb g c news hl hnews h1
  unfold Oper.wp execOp
  simp only [ho, resolve, invoke, builtin, Sem.run_bind, Sem.run_pure, Result.andThen_ok, List.map_toArray, List.map_cons, List.map_nil, hs, hx, hr]
  exact h B cap w' hb hB hc hcs
theorem info142c : ∃ i, Tryz.prog.info? 142 = some i ∧ i.zero = some (.agg #[.slice none 0 0, .slice none 0 0]) ∧ i.size = 2 ∧ i.bytes = 48 := by
  have : (Tryz.prog.info? 142).map (fun i => (i.zero, i.size, i.bytes)) = some (some (.agg #[.slice none 0 0, .slice none 0 0]), 2, 48) := by kernel_rfl
  cases h : Tryz.prog.info? 142 with
  | none => rw [h] at this; cases this
  | some i =>
    rw [h] at this
    simp only [Option.map_some, Option.some.injEq, Prod.mk.injEq] at this
    exact ⟨i, rfl, this.1, this.2.1, this.2.2⟩
theorem look92b {w : World} {m1 ck : Nat} {l : List ((Nat → Int) × Value × Nat)} (h : w.heap[m1]? = some (.map (entA 20 .u8 l).toArray ck)) (A : Nat → BitVec 8) : (Instr.lookup 92 (.map (some m1)) (.agg (adV A)) false).run Tryz.prog w = .ok (lookB 20 (fun j => Kc.I8 (A j)) l (.agg zAc)) w :=
  run_lookup_arrB 92 43 86 5 20 .u8 Tryz.underlying92 Tryz.underlying43 Tryz.sizeOf5 Tryz.isAgg5 Tryz.underlying5 (.agg zAc) zero86 l h (fun j => Kc.I8 (A j))
theorem zero29 (w : World) : (zeroValue 29).run Tryz.prog w = .ok (.slice none 0 0) w := by kernel_rfl
theorem look169 {w : World} {m ck : Nat} (h : w.heap[m]? = some (.map #[] ck)) (A : Nat → BitVec 8) : (Instr.lookup 169 (.map (some m)) (.agg (adV A)) false).run Tryz.prog w = .ok (.slice none 0 0) w :=
  run_lookup_arrB 169 43 29 5 20 .u8 Tryz.underlying169 Tryz.underlying43 Tryz.sizeOf5 Tryz.isAgg5 Tryz.underlying5 (.slice none 0 0) zero29 [] h (fun j => Kc.I8 (A j))
end Go.Proofs.YtboeokmaepchgaaGreatDoor
