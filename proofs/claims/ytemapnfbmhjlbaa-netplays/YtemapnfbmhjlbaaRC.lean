/- net: the reference's send. -/
import Derived.Test.YtemapnfbmhjlbaaRB
import Derived.Deep.RegionHeld3
namespace Go.Proofs.Ytemapnfbmhjlbaa
open Go.RowKit Go.Maps Go.Joins
set_option linter.unusedSimpArgs false
set_option linter.unusedVariables false
set_option maxRecDepth 100000 in
set_option maxHeartbeats 8000000 in
theorem rsend_full {w : World} {b : Nat} {N : RS} (h : RIs w b N) (hf : 4096 ≤ N.fl.length) (id fr to : Int) (dv : Value) :
    Calls Try.prog 32 #[.pointer (some ⟨b, 0, none⟩), .agg #[.int .i64 id, .int .i64 fr, .int .i64 to, dv]] w fun e w' => e = .returned (.int .i64 3) ∧ Below w.heap.size w w' := by
  obtain ⟨_, _, _, c3, _⟩ := h.cells
  obtain ⟨fa, fc, hfv⟩ := row_form h.fl
  rw [hfv] at c3
  have hb := h.lt
  have hl : (4096 : Int) ≤ (N.fl.length : Int) := by omega
  generalize N.fl.length = n at *
  clear h hfv hf
  go_enter Try.func32, Try.ntmps32
  go_wp2
  go_ret
  exact ⟨rfl, (Below.refl _ w).alloc (Nat.le_refl _) _⟩
theorem pkB_new {w : World} {p : PK} {g : Nat} {t : TypeId} (hg : w.heap[g]? = some (.cells (pkC p).toArray t)) : ∀ j u, (pkC p)[j]? = some u → w.cell? ((⟨g, 0, none⟩ : Addr).add j) = some u := fun j u hu => by
  rw [Addr.add_lit, Nat.zero_add, cell_of_block hg]
  simpa using hu
theorem empty5 (w : World) : (w.alloc (.cells #[] 5)).ownsRow w.heap.size 5 1 (.slice (some ⟨w.heap.size, 0, none⟩) 0 0) ([] : List Int).length (vB []) :=
  ⟨rfl, Or.inr ⟨w.heap.size, 0, #[], rfl, Nat.le_refl _, heap_alloc_new w _, Nat.le_refl _, by decide, rfl, rfl⟩⟩
set_option maxRecDepth 100000 in
set_option maxHeartbeats 8000000 in
theorem rsend_ok {w : World} {b : Nat} {N : RS} (h : RIs w b N) (hf : N.fl.length < 4096) (hn : 0 ≤ N.next ∧ N.next ≤ 4611686018427387904) (id fr to : Int) (dv : Value) (bs : List Int) (hd : BytesV w dv bs) (hl : bs.length ≤ 65536) :
    Calls Try.prog 32 #[.pointer (some ⟨b, 0, none⟩), .agg #[.int .i64 id, .int .i64 fr, .int .i64 to, dv]] w fun e w' => RtR w b N (0, nPut (absR N) fr to bs) e w' := by
  obtain ⟨fa, fc, hfv⟩ := row_form h.fl
  obtain ⟨dva, dvc, rfl⟩ := hd.form
  obtain ⟨n, hnl⟩ : ∃ n, n = N.fl.length := ⟨_, rfl⟩
  rw [← hnl] at hfv
  have hl1 : ¬ (4096 : Int) ≤ (n : Int) := by omega
  have hb := h.lt
  obtain ⟨W, hW⟩ : ∃ W, W = w.alloc (.cells #[.int .i64 N.next, .int .i64 fr, .int .i64 to, .slice dva bs.length dvc] 38) := ⟨_, rfl⟩
  have hWb : Below w.heap.size w W := by rw [hW]; exact (Below.refl _ w).alloc (Nat.le_refl _) _
  have hWp : W.heap[w.heap.size]? = some (.cells #[.int .i64 N.next, .int .i64 fr, .int .i64 to, .slice dva bs.length dvc] 38) := by rw [hW]; exact heap_alloc_new _ _
  have h1 := h.below hWb
  have hbp : b ≠ w.heap.size := by omega
  have hc3 : W.cell? ⟨b, 3, none⟩ = some (.slice fa n fc) := h1.cells.2.2.2.1.trans (by rw [hfv])
  have hc1 : W.cell? ⟨b, 1, none⟩ = some (.int .i64 N.next) := h1.cells.2.1
  have c3 : w.cell? ⟨b, 3, none⟩ = some (.slice fa n fc) := h.cells.2.2.2.1.trans (by rw [hfv])
  obtain ⟨pb, hpb⟩ : ∃ pb, pb = w.heap.size := ⟨_, rfl⟩
  rw [← hpb] at hWp hbp
  have HC : Hid (RIs W b N ∧ N.fv = .slice fa n fc ∧ n = N.fl.length ∧ BytesV W (.slice dva bs.length dvc) bs ∧ Below w.heap.size w W ∧ b ≠ pb ∧ N.fl.length < 4096 ∧ bs.length ≤ 65536 ∧ RIs w b N) := ⟨h1, hfv, hnl, hd.below hWb, hWb, hbp, hf, hl, h⟩
  have HW : Hid (W = w.alloc (.cells #[.int .i64 N.next, .int .i64 fr, .int .i64 to, .slice dva bs.length dvc] 38) ∧ pb = w.heap.size ∧ W.heap.size = pb + 1) := ⟨hW, hpb, by rw [hW, hpb]; simp⟩
  have HP : Hid (W.heap[pb]? = some (.cells #[.int .i64 N.next, .int .i64 fr, .int .i64 to, .slice dva bs.length dvc] 38)) := hWp
  obtain ⟨nx0, nx9⟩ := hn
  clear h hfv hnl hd hWb h1 hf hW hpb hWp hl
  clear hc3 hc1
  have c1 : w.cell? ⟨b, 1, none⟩ = some (.int .i64 N.next) := HC.out.2.2.2.2.2.2.2.2.cells.2.1
  go_enter Try.func32, Try.ntmps32
  go_wp2_with (first
    | (at_builtin
       have hW := HW.out.1
       have hpb := HW.out.2.1
       have hWs := HW.out.2.2
       have hW1 : w.heap.size + 1 = W.heap.size := by omega
       rw [← hW, hW1, ← hpb]
       obtain ⟨eb, heb⟩ : ∃ eb, eb = W.heap.size := ⟨_, rfl⟩
       have hb5 : Below W.heap.size W (W.alloc (.cells #[] 5)) := (Below.refl _ W).alloc (Nat.le_refl _) _
       have he5 := empty5 W
       refine wpList_append_b rfl _ _ rfl W.heap.size (.slice (some ⟨W.heap.size, 0, none⟩) 0 0) (.slice dva bs.length dvc) [] bs rfl he5 rfl (HC.out.2.2.2.1.below hb5) (by have := HC.out.2.2.2.2.2.2.2.1; simp only [List.length_nil]; omega) hb5.size ?_
       intro v1 w5 ho hg ha
       rw [List.nil_append] at ho
       have hB5 : Below W.heap.size W w5 := hb5.grown hg hb5.size (fun j hj => by have h9 : W.heap.size = j := (by simpa [Value.ownBlock] using hj); omega)
       obtain ⟨va1, vc1, rfl⟩ := row_form ho
       have hp5 : w5.heap[pb]? = some (.cells #[.int .i64 N.next, .int .i64 fr, .int .i64 to, .slice dva bs.length dvc] 38) := (hB5.block pb (heap_lt HP.out)).trans HP.out
       have H5 : Hid (RIs w5 b N ∧ BytesV w5 (.slice va1 bs.length vc1) bs ∧ Below w.heap.size w w5 ∧ w5.heap[pb]? = some (.cells #[.int .i64 N.next, .int .i64 fr, .int .i64 to, .slice dva bs.length dvc] 38) ∧ ∀ x, dBlock (.slice va1 bs.length vc1) bs.length = some x → w.heap.size ≤ x ∧ x ≠ pb) := ⟨HC.out.1.below hB5, BytesV.of_own ho, HC.out.2.2.2.2.1.trans (hB5.mono (by omega)), hp5, fun x hx => by have h9 := (ho.lt x (dBlock_own hx)).1; omega⟩
       have c15 : w5.cell? ⟨b, 1, none⟩ = some (.int .i64 N.next) := H5.out.1.cells.2.1
       have z15 : w5.frozen? ⟨b, 1, none⟩ = false := H5.out.1.unfrozen 1
       have z5 : w5.frozen? ⟨pb, 3, none⟩ = false := unfrozen_of_block hp5 3
       have q5 : w5.cell? ⟨pb, 3, none⟩ = some (.slice dva bs.length dvc) := by rw [cell_of_block hp5]; rfl
       clear ho hg ha he5 hb5 hB5 hp5 hW hpb hWs hW1 heb c3 c1))
  obtain ⟨w3, hw3⟩ : ∃ w3, w3 = (w5.setCell ⟨pb, 3, none⟩ (.slice va1 bs.length vc1)).setCell ⟨b, 1, none⟩ (.int .i64 (N.next + 1)) := ⟨_, rfl⟩
  rw [← hw3]
  obtain ⟨L, hL⟩ : ∃ L, L = rsetNx N (N.next + 1) := ⟨_, rfl⟩
  have HLN : Hid (L = rsetNx N (N.next + 1)) := hL
  have HL : Hid (L.fv = .slice fa n fc ∧ n = L.fl.length ∧ ∀ g, w.heap.size ≤ g → L.own g = 0) := by rw [hL]; exact ⟨HC.out.2.1, HC.out.2.2.1, HC.out.2.2.2.2.2.2.2.2.fresh⟩
  have H3 : Hid (RIs w3 b L ∧ BytesV w3 (.slice va1 bs.length vc1) bs ∧ RFq w w3 N L ∧ w3.heap[pb]? = some (.cells #[.int .i64 N.next, .int .i64 fr, .int .i64 to, .slice va1 bs.length vc1] 38) ∧ ∀ x, dBlock (.slice va1 bs.length vc1) bs.length = some x → w.heap.size ≤ x ∧ x ≠ pb) := by
    have hpb := HW.out.2.1
    have hB6 : Below w.heap.size w (w5.setCell ⟨pb, 3, none⟩ (.slice va1 bs.length vc1)) := H5.out.2.2.1.setCell (p := ⟨pb, 3, none⟩) (by show w.heap.size ≤ pb; omega) _
    have hR6 := HC.out.2.2.2.2.2.2.2.2.below hB6
    have hE6 := rsetNx_end hR6 (N.next + 1)
    rw [← hw3, ← hL] at hE6
    have hbx : (w5.setCell ⟨pb, 3, none⟩ (.slice va1 bs.length vc1)).heap[pb]? = some (.cells #[.int .i64 N.next, .int .i64 fr, .int .i64 to, .slice va1 bs.length vc1] 38) := by rw [block_setCell H5.out.2.2.2.1 _]; simp
    have hk : ∀ x, x ≠ b → w3.heap[x]? = (w5.setCell ⟨pb, 3, none⟩ (.slice va1 bs.length vc1)).heap[x]? := fun x hx => by rw [hw3, Below.heap_setCell _ _ _ _ hx]
    refine ⟨hE6.1, (H5.out.2.1.kept (fun x hx => ?_)), (RFr.below hB6).toRFq.trans hE6.2.toRFq, (hk pb (fun e => hbp e.symm)).trans hbx, H5.out.2.2.2.2⟩
    have h9 := H5.out.2.2.2.2 x hx
    rw [hk x (fun e => by omega), Below.heap_setCell _ _ _ _ h9.2]
  clear H5 hw3 hL c15 z15 z5 q5
  have hfv4 : w3.cell? ⟨b, 3, none⟩ = some (.slice fa n fc) := H3.out.1.cells.2.2.2.1.trans (by rw [HL.out.1])
  go_wp2_with fail
  refine wp_region_held_drew (S := fun w' => w'.heap[pb]? = some (.cells #[.int .i64 N.next, .int .i64 fr, .int .i64 to, .slice va1 bs.length vc1] 38)) (by kernel_rfl) H3.out.2.2.2.1 (fun hHeld => ?_)
  refine wpAnyH_take (i := 0) (v := .pointer (some ⟨b, 0, none⟩)) rfl (by kernel_rfl) (by kernel_rfl) (by kernel_rfl) (fun _ _ _ h => h) (Or.inl ⟨by rfl, fun w9 hSw => ?_⟩) hHeld ?_
  · go_simp
  simp only [List.getElem_toArray, List.getElem_cons_succ, List.getElem_cons_zero, Act.put, List.setIfInBounds_toArray, List.set_cons_zero, List.set_cons_succ]
  refine wpAnyH_take (i := 1) (v := .pointer (some ⟨b, 0, none⟩)) rfl (by kernel_rfl) (by kernel_rfl) (by kernel_rfl) (fun _ _ _ h => h) (Or.inl ⟨by rfl, fun w9 hSw => ?_⟩) hHeld ?_
  · go_simp
  simp only [List.getElem_toArray, List.getElem_cons_succ, List.getElem_cons_zero, Act.put, List.setIfInBounds_toArray, List.set_cons_zero, List.set_cons_succ]
  refine wpAnyH_take (i := 2) (v := .pointer (some ⟨b, 0, none⟩)) rfl (by kernel_rfl) (by kernel_rfl) (by kernel_rfl) (fun _ _ _ h => h) (Or.inl ⟨by rfl, fun w9 hSw => ?_⟩) hHeld ?_
  · go_simp
  simp only [List.getElem_toArray, List.getElem_cons_succ, List.getElem_cons_zero, Act.put, List.setIfInBounds_toArray, List.set_cons_zero, List.set_cons_succ]
  refine wpAnyH_take (i := 3) (v := .pointer (some ⟨b, 3, none⟩)) rfl (by kernel_rfl) (by kernel_rfl) (by kernel_rfl) (fun _ _ _ h => h) (Or.inl ⟨by rfl, fun w9 hSw => ?_⟩) hHeld ?_
  · go_simp
  simp only [List.getElem_toArray, List.getElem_cons_succ, List.getElem_cons_zero, Act.put, List.setIfInBounds_toArray, List.set_cons_zero, List.set_cons_succ]
  refine wpAnyH_take (i := 5) (v := .agg #[.int .i64 N.next, .int .i64 fr, .int .i64 to, .slice va1 bs.length vc1]) rfl (by kernel_rfl) (by kernel_rfl) (by kernel_rfl) (fun _ _ _ h => h) (Or.inl ⟨by rfl, fun w9 hSw => ?_⟩) hHeld ?_
  · have k0 : w9.cell? ⟨pb, 0, none⟩ = some (.int .i64 N.next) := (cell_of_block hSw 0).trans rfl
    have k1 : w9.cell? ⟨pb, 1, none⟩ = some (.int .i64 fr) := (cell_of_block hSw 1).trans rfl
    have k2 : w9.cell? ⟨pb, 2, none⟩ = some (.int .i64 to) := (cell_of_block hSw 2).trans rfl
    have k3 : w9.cell? ⟨pb, 3, none⟩ = some (.slice va1 bs.length vc1) := (cell_of_block hSw 3).trans rfl
    go_simp
  simp only [List.getElem_toArray, List.getElem_cons_succ, List.getElem_cons_zero, Act.put, List.setIfInBounds_toArray, List.set_cons_zero, List.set_cons_succ]
  have H4 : Hid (RIs w3.drew b L ∧ BytesV w3.drew (.slice va1 bs.length vc1) bs ∧ RFq w w3.drew N L) := ⟨H3.out.1.below ⟨rfl, rfl, rfl, Nat.le_refl _, fun _ _ => rfl⟩, H3.out.2.1.below ⟨rfl, rfl, rfl, Nat.le_refl _, fun _ _ => rfl⟩, H3.out.2.2.1.trans (show RFr w3 w3.drew L L from RFr.below ⟨rfl, rfl, rfl, Nat.le_refl _, fun _ _ => rfl⟩).toRFq⟩
  have HD : Hid (∀ x, dBlock (.slice va1 bs.length vc1) bs.length = some x → w.heap.size ≤ x ∧ x ≠ pb) := H3.out.2.2.2.2
  have hc6 : w3.drew.cell? ⟨b, 3, none⟩ = some (.slice fa n fc) := hfv4
  clear H3 hfv4
  generalize w3.drew = w4 at hHeld H4 hc6 ⊢
  have HX : Hid (∃ w5 g5, w5 = w4.alloc (.cells #[.int .i64 N.next, .int .i64 fr, .int .i64 to, .slice va1 bs.length vc1] 38) ∧ g5 = w4.heap.size ∧ Below w4.heap.size w4 w5 ∧ w5.ownsRow 0 38 4 (.slice fa n fc) n (pkL L.fl) ∧ w5.heap[g5]? = some (.cells (pkC ⟨N.next, fr, to, .slice va1 bs.length vc1, bs⟩).toArray 38) ∧ w5.heap[pb]? = some (.cells #[.int .i64 N.next, .int .i64 fr, .int .i64 to, .slice va1 bs.length vc1] 38) ∧ w5.cell? ⟨b, 3, none⟩ = some (.slice fa n fc)) := by
    have hB5 : Below w4.heap.size w4 (w4.alloc (.cells #[.int .i64 N.next, .int .i64 fr, .int .i64 to, .slice va1 bs.length vc1] 38)) := (Below.refl _ w4).alloc (Nat.le_refl _) _
    refine ⟨_, _, rfl, rfl, hB5, ?_, heap_alloc_new _ _, (hB5.block pb (heap_lt hHeld)).trans hHeld, (hB5.cell H4.out.1.lt).trans hc6⟩
    have h1 := (H4.out.1.below hB5).fl
    rw [HL.out.1, ← HL.out.2.1] at h1
    exact h1
  obtain ⟨w5, g5, hw5, hg5, q⟩ := HX.out
  have H5 : Hid (Below w4.heap.size w4 w5 ∧ w5.ownsRow 0 38 4 (.slice fa n fc) n (pkL L.fl) ∧ w5.heap[g5]? = some (.cells (pkC ⟨N.next, fr, to, .slice va1 bs.length vc1, bs⟩).toArray 38) ∧ w5.heap[pb]? = some (.cells #[.int .i64 N.next, .int .i64 fr, .int .i64 to, .slice va1 bs.length vc1] 38)) := ⟨q.1, q.2.1, q.2.2.1, q.2.2.2.1⟩
  have hc65 : w5.cell? ⟨b, 3, none⟩ = some (.slice fa n fc) := q.2.2.2.2
  have hn5 : n + 1 ≤ 1000000 := by omega
  have HW5 : Hid (w5 = w4.alloc (.cells #[.int .i64 N.next, .int .i64 fr, .int .i64 to, .slice va1 bs.length vc1] 38) ∧ g5 = w4.heap.size) := ⟨hw5, hg5⟩
  clear q HX hw5 hg5
  refine wpAnyH_ready (rs := [4, 6]) (by kernel_rfl) (by simp) ?_
  refine AllReadyH.cons rfl (fun K hK => ?_) (AllReadyH.cons rfl (fun K hK => ?_) AllReadyH.nil)
  · go_simp
    refine hK.out _ _ hHeld (fun hHeld => ?_)
    clear hK K
    try simp only [List.getElem_toArray, List.getElem_cons_succ, List.getElem_cons_zero, Act.put, List.setIfInBounds_toArray, List.set_cons_zero, List.set_cons_succ]
    refine wpAnyH_ready (rs := [6]) (by kernel_rfl) (by simp) ?_
    refine AllReadyH.cons rfl (fun K hK => ?_) AllReadyH.nil
    go_simp
    have hw5 := HW5.out.1
    have hg5 := HW5.out.2
    rw [← hw5, ← hg5]
    have hH6 : w5.heap[pb]? = some (.cells #[.int .i64 N.next, .int .i64 fr, .int .i64 to, .slice va1 bs.length vc1] 38) := H5.out.2.2.2
    clear hw5 hg5 hc65
    go_wp2_with fail
    refine hK.out _ _ hH6 (fun hHeld => ?_)
    clear hK K
    try simp only [List.getElem_toArray, List.getElem_cons_succ, List.getElem_cons_zero, Act.put, List.setIfInBounds_toArray, List.set_cons_zero, List.set_cons_succ]
    refine wpAnyH_ready (rs := [7]) (by kernel_rfl) (by simp) ?_
    refine AllReadyH.cons rfl (fun K hK => ?_) AllReadyH.nil
    refine elQ.step_own rfl (.tmp 32) (.tmp 34) rfl 0 (.slice fa n fc) n (pkL L.fl) rfl H5.out.2.1 ⟨g5, 0, none⟩ 1 1 rfl (pkC ⟨N.next, fr, to, .slice va1 bs.length vc1, bs⟩) rfl (pkB_new H5.out.2.2.1) (fun u hu => by simp only [pkC, List.mem_cons, List.not_mem_nil, or_false] at hu; rcases hu with rfl | rfl | rfl | rfl <;> rfl) hn5 (Nat.zero_le _) ?_
    intro v6 w6 ho6 hg6 ha6
    obtain ⟨va, vc, rfl⟩ := row_form ho6
    have hg46 : w4.grownBy w6 L.fv.ownBlock := gb_comp (gb_of_below H5.out.1 _) hg6 (Or.inl (by rw [HL.out.1]))
    have hpk : pkL (L.fl ++ [⟨N.next, fr, to, .slice va1 bs.length vc1, bs⟩]) = pkL L.fl ++ pkC ⟨N.next, fr, to, .slice va1 bs.length vc1, bs⟩ := by rw [pkL_append]; simp [pkL]
    have hpl : (L.fl ++ [(⟨N.next, fr, to, .slice va1 bs.length vc1, bs⟩ : PK)]).length = n + 1 := by rw [List.length_append, ← HL.out.2.1]; rfl
    have hfr := HL.out.2.2
    have hend := rsetF_end (v := .slice va (n + 1) vc) (l := L.fl ++ [⟨N.next, fr, to, .slice va1 bs.length vc1, bs⟩]) H4.out.1 hg46 (by rw [hpk, hpl]; exact ho6) (by
      rcases ha6 with e | e
      · exact Or.inl (by rw [HL.out.1]; exact e)
      · exact Or.inr (fun x hx => by rw [e] at hx; injection hx with hx; have := H5.out.1.size; omega)) (fun p hp => by
      rcases List.mem_append.1 hp with hp | hp
      · exact H4.out.1.data p hp
      · rw [List.mem_singleton.1 hp]; exact H4.out.2.1) (fun p hp x hx => by
      rcases List.mem_append.1 hp with hp | hp
      · exact H4.out.1.rd p hp x hx
      · rw [List.mem_singleton.1 hp] at hx; exact hfr x (HD.out x hx).1)
    have hb4 := H4.out.1.lt
    have hnb : ∀ x, L.own x ≠ 3 → x < w4.heap.size → w6.heap[x]? = w4.heap[x]? := fun x h3 hx => hg46.block x hx (fun e => h3 (H4.out.1.rf x e.symm))
    have hb6 : w6.heap[b]? = some (.cells (rC L) 54) := (hnb b (by rw [H4.out.1.rn]; decide) hb4).trans H4.out.1.net
    have hS6 : w6.heap[pb]? = some (.cells #[.int .i64 N.next, .int .i64 fr, .int .i64 to, .slice va1 bs.length vc1] 38) := (hg6.block pb (heap_lt H5.out.2.2.2) (fun e => by
      have h3 := H4.out.1.rf pb (by rw [HL.out.1]; exact e.symm)
      rw [hfr pb (by have := HW.out.2.1; omega)] at h3
      cases h3)).trans H5.out.2.2.2
    have hS7 : (w6.setCell ⟨b, 3, none⟩ (.slice va (n + 1) vc)).heap[pb]? = some (.cells #[.int .i64 N.next, .int .i64 fr, .int .i64 to, .slice va1 bs.length vc1] 38) := (Below.heap_setCell _ _ _ _ (fun e => hbp e.symm)).trans hS6
    have d6 : w6.cell? ⟨b, 3, none⟩ = some (.slice fa n fc) := by rw [cell_of_block hb6]; show some L.fv = _; rw [HL.out.1]
    have z6 : w6.frozen? ⟨b, 3, none⟩ = false := unfrozen_of_block hb6 3
    have HE : Hid (RIs (w6.setCell ⟨b, 3, none⟩ (.slice va (n + 1) vc)) b (rsetF L (.slice va (n + 1) vc) (L.fl ++ [⟨N.next, fr, to, .slice va1 bs.length vc1, bs⟩])) ∧ RFq w4 (w6.setCell ⟨b, 3, none⟩ (.slice va (n + 1) vc)) L (rsetF L (.slice va (n + 1) vc) (L.fl ++ [⟨N.next, fr, to, .slice va1 bs.length vc1, bs⟩]))) := hend
    clear ho6 hg6 ha6 hg46 hpk hpl hend hnb hb6 hHeld
    go_wp2_with fail
    refine hK.out _ _ hS6 (fun hHeld => ?_)
    clear hK K
    try simp only [List.getElem_toArray, List.getElem_cons_succ, List.getElem_cons_zero, Act.put, List.setIfInBounds_toArray, List.set_cons_zero, List.set_cons_succ]
    refine wpAnyH_take (i := 8) (v := .pointer (some ⟨b, 0, none⟩)) rfl (by kernel_rfl) (by kernel_rfl) (by kernel_rfl) (fun _ _ _ h => h) (Or.inl ⟨by rfl, fun w9 hSw => ?_⟩) hHeld ?_
    · go_simp
    simp only [List.getElem_toArray, List.getElem_cons_succ, List.getElem_cons_zero, Act.put, List.setIfInBounds_toArray, List.set_cons_zero, List.set_cons_succ]
    refine wpAnyH_take (i := 9) (v := .pointer (some ⟨b, 3, none⟩)) rfl (by kernel_rfl) (by kernel_rfl) (by kernel_rfl) (fun _ _ _ h => h) (Or.inl ⟨by rfl, fun w9 hSw => ?_⟩) hHeld ?_
    · go_simp
    simp only [List.getElem_toArray, List.getElem_cons_succ, List.getElem_cons_zero, Act.put, List.setIfInBounds_toArray, List.set_cons_zero, List.set_cons_succ]
    refine wpAnyH_ready (rs := [10]) (by kernel_rfl) (by simp) ?_
    refine AllReadyH.cons rfl (fun K hK => ?_) AllReadyH.nil
    go_simp
    clear hS6 d6 z6
    have hS8 := hS7
    clear hS7
    obtain ⟨w7, hw7⟩ : ∃ w7, w7 = w6.setCell ⟨b, 3, none⟩ (.slice va (n + 1) vc) := ⟨_, rfl⟩
    rw [← hw7] at HE hS8 ⊢
    clear hw7
    go_wp2_with fail
    refine hK.out _ _ hS8 (fun hHeld => ?_)
    clear hK K
    try simp only [List.getElem_toArray, List.getElem_cons_succ, List.getElem_cons_zero, Act.put, List.setIfInBounds_toArray, List.set_cons_zero, List.set_cons_succ]
    refine wpAnyH_done (by kernel_rfl) ?_ _
    clear hHeld hS8
    go_wp2
    go_ret
    have hD := HD.out
    have hLn := HLN.out
    refine ⟨rfl, _, HE.out.1, ⟨H4.out.2.2.trans HE.out.2, fun p hp x hx => ?_⟩, ?_⟩
    · rcases List.mem_append.1 (show p ∈ L.fl ++ [⟨N.next, fr, to, .slice va1 bs.length vc1, bs⟩] from hp) with hp | hp
      · exact Or.inl ⟨p, by rw [hLn] at hp; exact hp, hx⟩
      · rw [List.mem_singleton.1 hp] at hx
        exact Or.inr (hD x hx).1
    show absR _ = _
    rw [hLn]
    simp [absR, nPut, rsetNx, rsetF, pkA]
  · go_simp
    have hw5 := HW5.out.1
    have hg5 := HW5.out.2
    rw [← hw5, ← hg5]
    have hH6 : w5.heap[pb]? = some (.cells #[.int .i64 N.next, .int .i64 fr, .int .i64 to, .slice va1 bs.length vc1] 38) := H5.out.2.2.2
    clear hw5 hg5
    go_wp2_with fail
    refine hK.out _ _ hH6 (fun hHeld => ?_)
    clear hK K
    try simp only [List.getElem_toArray, List.getElem_cons_succ, List.getElem_cons_zero, Act.put, List.setIfInBounds_toArray, List.set_cons_zero, List.set_cons_succ]
    refine wpAnyH_ready (rs := [4]) (by kernel_rfl) (by simp) ?_
    refine AllReadyH.cons rfl (fun K hK => ?_) AllReadyH.nil
    go_simp
    clear hc65
    refine hK.out _ _ hHeld (fun hHeld => ?_)
    clear hK K
    try simp only [List.getElem_toArray, List.getElem_cons_succ, List.getElem_cons_zero, Act.put, List.setIfInBounds_toArray, List.set_cons_zero, List.set_cons_succ]
    refine wpAnyH_ready (rs := [7]) (by kernel_rfl) (by simp) ?_
    refine AllReadyH.cons rfl (fun K hK => ?_) AllReadyH.nil
    refine elQ.step_own rfl (.tmp 32) (.tmp 34) rfl 0 (.slice fa n fc) n (pkL L.fl) rfl H5.out.2.1 ⟨g5, 0, none⟩ 1 1 rfl (pkC ⟨N.next, fr, to, .slice va1 bs.length vc1, bs⟩) rfl (pkB_new H5.out.2.2.1) (fun u hu => by simp only [pkC, List.mem_cons, List.not_mem_nil, or_false] at hu; rcases hu with rfl | rfl | rfl | rfl <;> rfl) hn5 (Nat.zero_le _) ?_
    intro v6 w6 ho6 hg6 ha6
    obtain ⟨va, vc, rfl⟩ := row_form ho6
    have hg46 : w4.grownBy w6 L.fv.ownBlock := gb_comp (gb_of_below H5.out.1 _) hg6 (Or.inl (by rw [HL.out.1]))
    have hpk : pkL (L.fl ++ [⟨N.next, fr, to, .slice va1 bs.length vc1, bs⟩]) = pkL L.fl ++ pkC ⟨N.next, fr, to, .slice va1 bs.length vc1, bs⟩ := by rw [pkL_append]; simp [pkL]
    have hpl : (L.fl ++ [(⟨N.next, fr, to, .slice va1 bs.length vc1, bs⟩ : PK)]).length = n + 1 := by rw [List.length_append, ← HL.out.2.1]; rfl
    have hfr := HL.out.2.2
    have hend := rsetF_end (v := .slice va (n + 1) vc) (l := L.fl ++ [⟨N.next, fr, to, .slice va1 bs.length vc1, bs⟩]) H4.out.1 hg46 (by rw [hpk, hpl]; exact ho6) (by
      rcases ha6 with e | e
      · exact Or.inl (by rw [HL.out.1]; exact e)
      · exact Or.inr (fun x hx => by rw [e] at hx; injection hx with hx; have := H5.out.1.size; omega)) (fun p hp => by
      rcases List.mem_append.1 hp with hp | hp
      · exact H4.out.1.data p hp
      · rw [List.mem_singleton.1 hp]; exact H4.out.2.1) (fun p hp x hx => by
      rcases List.mem_append.1 hp with hp | hp
      · exact H4.out.1.rd p hp x hx
      · rw [List.mem_singleton.1 hp] at hx; exact hfr x (HD.out x hx).1)
    have hb4 := H4.out.1.lt
    have hnb : ∀ x, L.own x ≠ 3 → x < w4.heap.size → w6.heap[x]? = w4.heap[x]? := fun x h3 hx => hg46.block x hx (fun e => h3 (H4.out.1.rf x e.symm))
    have hb6 : w6.heap[b]? = some (.cells (rC L) 54) := (hnb b (by rw [H4.out.1.rn]; decide) hb4).trans H4.out.1.net
    have hS6 : w6.heap[pb]? = some (.cells #[.int .i64 N.next, .int .i64 fr, .int .i64 to, .slice va1 bs.length vc1] 38) := (hg6.block pb (heap_lt H5.out.2.2.2) (fun e => by
      have h3 := H4.out.1.rf pb (by rw [HL.out.1]; exact e.symm)
      rw [hfr pb (by have := HW.out.2.1; omega)] at h3
      cases h3)).trans H5.out.2.2.2
    have hS7 : (w6.setCell ⟨b, 3, none⟩ (.slice va (n + 1) vc)).heap[pb]? = some (.cells #[.int .i64 N.next, .int .i64 fr, .int .i64 to, .slice va1 bs.length vc1] 38) := (Below.heap_setCell _ _ _ _ (fun e => hbp e.symm)).trans hS6
    have d6 : w6.cell? ⟨b, 3, none⟩ = some (.slice fa n fc) := by rw [cell_of_block hb6]; show some L.fv = _; rw [HL.out.1]
    have z6 : w6.frozen? ⟨b, 3, none⟩ = false := unfrozen_of_block hb6 3
    have HE : Hid (RIs (w6.setCell ⟨b, 3, none⟩ (.slice va (n + 1) vc)) b (rsetF L (.slice va (n + 1) vc) (L.fl ++ [⟨N.next, fr, to, .slice va1 bs.length vc1, bs⟩])) ∧ RFq w4 (w6.setCell ⟨b, 3, none⟩ (.slice va (n + 1) vc)) L (rsetF L (.slice va (n + 1) vc) (L.fl ++ [⟨N.next, fr, to, .slice va1 bs.length vc1, bs⟩]))) := hend
    clear ho6 hg6 ha6 hg46 hpk hpl hend hnb hb6 hHeld
    go_wp2_with fail
    refine hK.out _ _ hS6 (fun hHeld => ?_)
    clear hK K
    try simp only [List.getElem_toArray, List.getElem_cons_succ, List.getElem_cons_zero, Act.put, List.setIfInBounds_toArray, List.set_cons_zero, List.set_cons_succ]
    refine wpAnyH_take (i := 8) (v := .pointer (some ⟨b, 0, none⟩)) rfl (by kernel_rfl) (by kernel_rfl) (by kernel_rfl) (fun _ _ _ h => h) (Or.inl ⟨by rfl, fun w9 hSw => ?_⟩) hHeld ?_
    · go_simp
    simp only [List.getElem_toArray, List.getElem_cons_succ, List.getElem_cons_zero, Act.put, List.setIfInBounds_toArray, List.set_cons_zero, List.set_cons_succ]
    refine wpAnyH_take (i := 9) (v := .pointer (some ⟨b, 3, none⟩)) rfl (by kernel_rfl) (by kernel_rfl) (by kernel_rfl) (fun _ _ _ h => h) (Or.inl ⟨by rfl, fun w9 hSw => ?_⟩) hHeld ?_
    · go_simp
    simp only [List.getElem_toArray, List.getElem_cons_succ, List.getElem_cons_zero, Act.put, List.setIfInBounds_toArray, List.set_cons_zero, List.set_cons_succ]
    refine wpAnyH_ready (rs := [10]) (by kernel_rfl) (by simp) ?_
    refine AllReadyH.cons rfl (fun K hK => ?_) AllReadyH.nil
    go_simp
    clear hS6 d6 z6
    have hS8 := hS7
    clear hS7
    obtain ⟨w7, hw7⟩ : ∃ w7, w7 = w6.setCell ⟨b, 3, none⟩ (.slice va (n + 1) vc) := ⟨_, rfl⟩
    rw [← hw7] at HE hS8 ⊢
    clear hw7
    go_wp2_with fail
    refine hK.out _ _ hS8 (fun hHeld => ?_)
    clear hK K
    try simp only [List.getElem_toArray, List.getElem_cons_succ, List.getElem_cons_zero, Act.put, List.setIfInBounds_toArray, List.set_cons_zero, List.set_cons_succ]
    refine wpAnyH_done (by kernel_rfl) ?_ _
    clear hHeld hS8
    go_wp2
    go_ret
    have hD := HD.out
    have hLn := HLN.out
    refine ⟨rfl, _, HE.out.1, ⟨H4.out.2.2.trans HE.out.2, fun p hp x hx => ?_⟩, ?_⟩
    · rcases List.mem_append.1 (show p ∈ L.fl ++ [⟨N.next, fr, to, .slice va1 bs.length vc1, bs⟩] from hp) with hp | hp
      · exact Or.inl ⟨p, by rw [hLn] at hp; exact hp, hx⟩
      · rw [List.mem_singleton.1 hp] at hx
        exact Or.inr (hD x hx).1
    show absR _ = _
    rw [hLn]
    simp [absR, nPut, rsetNx, rsetF, pkA]
end Go.Proofs.Ytemapnfbmhjlbaa
