/- wal: load, whole. -/
import Derived.Test.YtconkienlcegaaaGreatDoorGWN3
namespace Go.Proofs.YtconkienlcegaaaGreatDoor
open Go.RowKit Go.Maps Go.Joins Go.Shelf
set_option linter.unusedSimpArgs false
set_option linter.unusedVariables false
attribute [local go_sem] Oper.semAt_some
set_option maxRecDepth 100000 in
set_option maxHeartbeats 8000000 in
theorem load_next {w : World} {bd bl : Nat} {S : DS} {L : LS} {ro : Int} (hI : LdIn w bd bl S L ro) (n : Int) (last : Bool) (he : (dRead (absD S) (fileB logB n)).1 = 0) (hfs : ¬ L.fs.length = 0) (hn : n = endL L) :
 Calls Tryz.prog 74 #[.pointer (some ⟨bl, 0, none⟩), .int .i64 n, .bool last] w fun e w' => ∃ c S' L', e = .returned (.int .i64 c) ∧ DL w' bd bl S' L' ro ∧ F3 w w' S L S' L' ∧ ((c = 34 ∧ absD S' = (dRead (absD S) (fileB logB n)).2 ∧ ∃ k rs, Took (dBytes (absD S) (fileB logB n)) k rs ∧ k < (dBytes (absD S) (fileB logB n)).length ∧ (nx ((dBytes (absD S) (fileB logB n)).drop k)).1 ≠ 0 ∧ ¬ ((nx ((dBytes (absD S) (fileB logB n)).drop k)).1 = 10 ∧ last = true)) ∨ ∃ k rs, Took (dBytes (absD S) (fileB logB n)) k rs ∧ (absL L' = { absL L with fs := L.fs ++ [n], rs := (absL L).rs ++ rs, size := k } ∧ L'.nm = L.nm) ∧ ((k = (dBytes (absD S) (fileB logB n)).length ∧ c = 0 ∧ absD S' = (dRead (absD S) (fileB logB n)).2) ∨ (k < (dBytes (absD S) (fileB logB n)).length ∧ (nx ((dBytes (absD S) (fileB logB n)).drop k)).1 = 10 ∧ last = true ∧ c = (dTru (dRead (absD S) (fileB logB n)).2 (fileB logB n) k).1 ∧ absD S' = (dTru (dRead (absD S) (fileB logB n)).2 (fileB logB n) k).2))) := by
 have HI : Hid (LdIn w bd bl S L ro) := hI; have HNE : Hid (n = endL L) := hn; clear hI hn; have B0 : Hid (DL (((w.alloc (.cells #[.pointer (some ⟨bl, 0, none⟩)] 91)).alloc (.cells #[.bool last] 4)).alloc (.cells #[.int .i64 0] 25)) bd bl S L ro ∧ F3 w (((w.alloc (.cells #[.pointer (some ⟨bl, 0, none⟩)] 91)).alloc (.cells #[.bool last] 4)).alloc (.cells #[.int .i64 0] 25)) S L S L ∧ (((w.alloc (.cells #[.pointer (some ⟨bl, 0, none⟩)] 91)).alloc (.cells #[.bool last] 4)).alloc (.cells #[.int .i64 0] 25)).heap[w.heap.size]? = some (.cells #[.pointer (some ⟨bl, 0, none⟩)] 91) ∧ (((w.alloc (.cells #[.pointer (some ⟨bl, 0, none⟩)] 91)).alloc (.cells #[.bool last] 4)).alloc (.cells #[.int .i64 0] 25)).heap[w.heap.size + 1]? = some (.cells #[.bool last] 4) ∧ (((w.alloc (.cells #[.pointer (some ⟨bl, 0, none⟩)] 91)).alloc (.cells #[.bool last] 4)).alloc (.cells #[.int .i64 0] 25)).heap[w.heap.size + 2]? = some (.cells #[.int .i64 0] 25) ∧ (((w.alloc (.cells #[.pointer (some ⟨bl, 0, none⟩)] 91)).alloc (.cells #[.bool last] 4)).alloc (.cells #[.int .i64 0] 25)).heap.size = w.heap.size + 3) := by
  have hb : Below w.heap.size w (((w.alloc (.cells #[.pointer (some ⟨bl, 0, none⟩)] 91)).alloc (.cells #[.bool last] 4)).alloc (.cells #[.int .i64 0] 25)) := by go_grown
  refine ⟨HI.out.dl.below hb, F3.below hb, ?_, ?_, ?_, by simp⟩
  · rw [heap_alloc_old _ _ _ (by simp; omega), heap_alloc_old _ _ _ (by simp)]; exact heap_alloc_new _ _
  · rw [heap_alloc_old _ _ _ (by simp)]; have := heap_alloc_new (w.alloc (.cells #[.pointer (some ⟨bl, 0, none⟩)] 91)) (.cells #[.bool last] 4); simpa using this
  · have := heap_alloc_new ((w.alloc (.cells #[.pointer (some ⟨bl, 0, none⟩)] 91)).alloc (.cells #[.bool last] 4)) (.cells #[.int .i64 0] 25); simpa using this
 refine (callsIn_wide (n := 4)).1 ?_; refine callsIn_of_wp_marks Tryz.func74 rfl trivial ?_ rfl; simp only [Tryz.ntmps74, List.size_toArray, List.length_cons, List.length_nil, Nat.reduceAdd, Nat.reduceSub, Array.replicate_succ, Array.replicate_zero, List.push_toArray, List.append_toArray, List.nil_append, List.cons_append]; refine wpIn_wide.2 ?_; go_wp2; go_step3; go_wp2_with fail; generalize ((w.alloc (.cells #[.pointer (some ⟨bl, 0, none⟩)] 91)).alloc (.cells #[.bool last] 4)).alloc (.cells #[.int .i64 0] 25) = w0 at B0 ⊢; refine wp_noP ?_; refine wp_region_held_drew (S := fun w' => w'.heap[bl]? = some (.cells (lC L) 141) ∧ w'.heap[w.heap.size]? = some (.cells #[.pointer (some ⟨bl, 0, none⟩)] 91)) (by kernel_rfl) ⟨B0.out.1.log.log, B0.out.2.2.1⟩ (fun hHeld => ?_); refine wpAnyH_take (i := 0) (v := .pointer (some ⟨bl, 0, none⟩)) rfl (by kernel_rfl) (by kernel_rfl) (by kernel_rfl) (fun _ _ _ h => h) (Or.inl ⟨by rfl, fun w9 hSw => ?_⟩) hHeld ?_
 · have hc : w9.cell? ⟨w.heap.size, 0, none⟩ = some (.pointer (some ⟨bl, 0, none⟩)) := (cell_of_block hSw.2 0).trans rfl
   go_simp
 simp only [List.getElem_toArray, List.getElem_cons_succ, List.getElem_cons_zero, Act.put, List.setIfInBounds_toArray, List.set_cons_zero, List.set_cons_succ]; refine wpAnyH_take (i := 1) (v := .pointer (some ⟨bl, 0, none⟩)) rfl (by kernel_rfl) (by kernel_rfl) (by kernel_rfl) (fun _ _ _ h => h) (Or.inl ⟨by rfl, fun w9 hSw => ?_⟩) hHeld ?_
 · go_simp
 simp only [List.getElem_toArray, List.getElem_cons_succ, List.getElem_cons_zero, Act.put, List.setIfInBounds_toArray, List.set_cons_zero, List.set_cons_succ]; refine wpAnyH_take (i := 2) (v := .pointer (some ⟨bl, 0, none⟩)) rfl (by kernel_rfl) (by kernel_rfl) (by kernel_rfl) (fun _ _ _ h => h) (Or.inl ⟨by rfl, fun w9 hSw => ?_⟩) hHeld ?_
 · go_simp
 simp only [List.getElem_toArray, List.getElem_cons_succ, List.getElem_cons_zero, Act.put, List.setIfInBounds_toArray, List.set_cons_zero, List.set_cons_succ]; refine wpAnyH_take (i := 3) (v := .pointer (some ⟨bd, 0, none⟩)) rfl (by kernel_rfl) (by kernel_rfl) (by kernel_rfl) (fun _ _ _ h => h) (Or.inl ⟨by rfl, fun w9 hSw => ?_⟩) hHeld ?_
 · have hc : w9.cell? ⟨bl, 0, none⟩ = some (.pointer (some ⟨bd, 0, none⟩)) := (cell_of_block hSw.1 0).trans (by show some (Value.pointer (some ⟨L.bd, 0, none⟩)) = _; rw [HI.out.dl.bdq])
   go_simp
 simp only [List.getElem_toArray, List.getElem_cons_succ, List.getElem_cons_zero, Act.put, List.setIfInBounds_toArray, List.set_cons_zero, List.set_cons_succ]; refine wpAnyH_take (i := 4) (v := .pointer (some ⟨bl, 0, none⟩)) rfl (by kernel_rfl) (by kernel_rfl) (by kernel_rfl) (fun _ _ _ h => h) (Or.inl ⟨by rfl, fun w9 hSw => ?_⟩) hHeld ?_
 · have hc : w9.cell? ⟨w.heap.size, 0, none⟩ = some (.pointer (some ⟨bl, 0, none⟩)) := (cell_of_block hSw.2 0).trans rfl
   go_simp
 simp only [List.getElem_toArray, List.getElem_cons_succ, List.getElem_cons_zero, Act.put, List.setIfInBounds_toArray, List.set_cons_zero, List.set_cons_succ]; refine wpAnyH_take (i := 5) (v := .pointer (some ⟨bl, 0, none⟩)) rfl (by kernel_rfl) (by kernel_rfl) (by kernel_rfl) (fun _ _ _ h => h) (Or.inl ⟨by rfl, fun w9 hSw => ?_⟩) hHeld ?_
 · go_simp
 simp only [List.getElem_toArray, List.getElem_cons_succ, List.getElem_cons_zero, Act.put, List.setIfInBounds_toArray, List.set_cons_zero, List.set_cons_succ]; refine wpAnyH_take (i := 6) (v := .pointer (some ⟨bl, 1, none⟩)) rfl (by kernel_rfl) (by kernel_rfl) (by kernel_rfl) (fun _ _ _ h => h) (Or.inl ⟨by rfl, fun w9 hSw => ?_⟩) hHeld ?_
 · go_simp
 simp only [List.getElem_toArray, List.getElem_cons_succ, List.getElem_cons_zero, Act.put, List.setIfInBounds_toArray, List.set_cons_zero, List.set_cons_succ]; refine wpAnyH_take (i := 7) (v := .string logB) rfl (by kernel_rfl) (by kernel_rfl) (by kernel_rfl) (fun _ _ _ h => h) (Or.inl ⟨by rfl, fun w9 hSw => ?_⟩) hHeld ?_
 · have hc : w9.cell? ⟨bl, 1, none⟩ = some (.string logB) := (cell_of_block hSw.1 1).trans (by show some (Value.string L.nm) = _; rw [HI.out.nm])
   go_simp
 simp only [List.getElem_toArray, List.getElem_cons_succ, List.getElem_cons_zero, Act.put, List.setIfInBounds_toArray, List.set_cons_zero, List.set_cons_succ]; refine wpAnyH_take (i := 8) (v := .int .i64 n) rfl (by kernel_rfl) (by kernel_rfl) (by kernel_rfl) (fun _ _ _ h => h) (Or.inl ⟨by rfl, fun w9 hSw => ?_⟩) hHeld ?_
 · go_simp
 simp only [List.getElem_toArray, List.getElem_cons_succ, List.getElem_cons_zero, Act.put, List.setIfInBounds_toArray, List.set_cons_zero, List.set_cons_succ]; refine wpAnyH_ready (rs := [9]) (by kernel_rfl) (by simp) ?_; refine AllReadyH.cons rfl (fun K hK => ?_) AllReadyH.nil; have H1 : DL w0.drew bd bl S L ro ∧ F3 w w0.drew S L S L ∧ w0.drew.heap.size = w.heap.size + 3 := ⟨B0.out.1.below ⟨rfl, rfl, rfl, Nat.le_refl _, fun _ _ => rfl⟩, B0.out.2.1.trans (F3.below ⟨rfl, rfl, rfl, Nat.le_refl _, fun _ _ => rfl⟩), B0.out.2.2.2.2.2⟩
 have H1b : Below w0.heap.size w0 w0.drew := ⟨rfl, rfl, rfl, Nat.le_refl _, fun _ _ => rfl⟩
 generalize w0.drew = w1 at hHeld H1 H1b ⊢; go_simp; refine Calls.mono (file_any H1.1.vars logB (by decide) n) ?_; rintro e w2 ⟨rfl, hb2⟩; have H2 : DL w2 bd bl S L ro ∧ F3 w w2 S L S L ∧ w.heap.size + 3 ≤ w2.heap.size ∧ Below w0.heap.size w0 w2 := ⟨H1.1.below hb2, H1.2.1.trans (F3.below hb2), by have := hb2.size; have := H1.2.2; omega, H1b.trans (hb2.mono H1b.size)⟩
 have hH2 : w2.heap[bl]? = some (.cells (lC L) 141) ∧ w2.heap[w.heap.size]? = some (.cells #[.pointer (some ⟨bl, 0, none⟩)] 91) := ⟨H2.1.log.log, (H2.2.2.2.block w.heap.size (by have := B0.out.2.2.2.2.2; omega)).trans B0.out.2.2.1⟩
 clear H1 H1b hHeld hb2; go_wp2_with fail; refine hK.out _ _ hH2 (fun hHeld => ?_); clear hK K; try simp only [List.getElem_toArray, List.getElem_cons_succ, List.getElem_cons_zero, Act.put, List.setIfInBounds_toArray, List.set_cons_zero, List.set_cons_succ]
 refine wpAnyH_ready (rs := [10]) (by kernel_rfl) (by simp) ?_; refine AllReadyH.cons rfl (fun K hK => ?_) AllReadyH.nil; go_simp; refine Calls.mono (g_read2 H2.1.disk H2.1.gb (fileB logB n) (by have := fileB_size n; omega)) ?_; rintro e w3 ⟨v, bs, rfl, ho, hbs, hvb, S1, hD, hF, hG, hro⟩; rw [dRead_bytes] at hbs; have hG' : GS S S1 (stepS S [fileB logB n]).down (stepS S [fileB logB n]).steps (gL (stepE S [fileB logB n]) (absP S) (absP S)) := by unfold gL; rw [ite_self]; exact hG
 obtain ⟨K1, K2⟩ := H2.1.disked hD hF (H2.1.gb.next (e := eFind (absP S) (fileB logB n)) hG' H2.1.gb.wf (by have := HI.out.st; omega)); have hA := gs_abs (e := eFind (absP S) (fileB logB n)) hG'; obtain ⟨va, vc, hvf⟩ := row_form ho; have hcap : bs.length ≤ vc ∧ vc ≤ 9223372036854775807 := by
  rcases ho.2 with ⟨e1, e2⟩ | ⟨g, cap, cur, e1, _, _, h1, h2, _⟩
  · rw [hvf] at e1; injection e1 with _ _ e3; omega
  · rw [hvf] at e1; injection e1 with _ _ e3; unfold maxLen at h2; omega
 subst hvf; have hoff : ∀ b, dBlock (.slice va bs.length vc) bs = some b → b < w3.heap.size ∧ S1.role b = .none ∧ L.own b = 0 ∧ w.heap.size + 2 < b := fun b hb => by
  obtain ⟨r1, r2⟩ := hvb b (dBlock_own hb); exact ⟨(ho.lt b (dBlock_own hb)).2, by rw [hro]; exact r2, H2.1.log.fresh b r1, by have := H2.2.2.1; omega⟩
 have hX : ∀ b, w.heap.size ≤ b → b < w.heap.size + 3 → w3.heap[b]? = w0.heap[b]? ∧ S1.role b = .none ∧ L.own b = 0 := fun b h1 h2 => by
  have h3 : S.role b = .none := HI.out.dl.disk.fresh b h1; have h4 : L.own b = 0 := HI.out.dl.log.fresh b h1; have h5 := H2.2.2.1; have h6 := B0.out.2.2.2.2.2; exact ⟨(K2.block b (by omega) h3 h4).trans (H2.2.2.2.block b (by omega)), (K2.off b (by omega) h3 h4).1, h4⟩
 have H3 : Hid (DL w3 bd bl S1 L ro ∧ F3 w w3 S L S1 L ∧ absD S1 = (dRead (absD S) (fileB logB n)).2 ∧ BytesV w3 (.slice va bs.length vc) bs ∧ bs = dBytes (absD S) (fileB logB n) ∧ (bs.length ≤ vc ∧ vc ≤ 9223372036854775807) ∧ (∀ b, dBlock (.slice va bs.length vc) bs = some b → b < w3.heap.size ∧ S1.role b = .none ∧ L.own b = 0 ∧ w.heap.size + 2 < b) ∧ (∀ b, w.heap.size ≤ b → b < w.heap.size + 3 → w3.heap[b]? = w0.heap[b]? ∧ S1.role b = .none ∧ L.own b = 0) ∧ w.heap.size + 3 ≤ w3.heap.size) := ⟨K1, H2.2.1.trans K2, hA, BytesV.of_own ho, hbs, hcap, hoff, hX, by have := K2.size; have := H2.2.2.1; omega⟩
 have hH3 : w3.heap[bl]? = some (.cells (lC L) 141) ∧ w3.heap[w.heap.size]? = some (.cells #[.pointer (some ⟨bl, 0, none⟩)] 91) := ⟨K1.log.log, (hX w.heap.size (Nat.le_refl _) (by omega)).1.trans B0.out.2.2.1⟩
 obtain ⟨c, hc⟩ : ∃ c, c = (dRead (absD S) (fileB logB n)).1 := ⟨_, rfl⟩
 have HC : Hid (c = (dRead (absD S) (fileB logB n)).1) := hc; rw [gI_abs S (fileB logB n) (eFind (absP S) (fileB logB n)) (absP S), show (dDo (absD S) (fileB logB n) (eFind (absP S) (fileB logB n)) (absP S)).1 = c from hc.symm]; have hx2 : w3.heap[w.heap.size + 2]? = some (.cells #[.int .i64 0] 25) := (hX (w.heap.size + 2) (by omega) (by omega)).1.trans B0.out.2.2.2.2.1; have hx1 : w3.heap[w.heap.size + 1]? = some (.cells #[.bool last] 4) := (hX (w.heap.size + 1) (by omega) (by omega)).1.trans B0.out.2.2.2.1; clear H2 hHeld hH2 hD hF hG hG' K1 K2 hA hc ho hbs hvb hro hcap hoff hX; go_wp2_with fail; refine hK.out _ _ hH3 (fun hHeld => ?_); clear hK K; try simp only [List.getElem_toArray, List.getElem_cons_succ, List.getElem_cons_zero, Act.put, List.setIfInBounds_toArray, List.set_cons_zero, List.set_cons_succ]
 refine wpAnyH_take (i := 11) (v := .tuple #[.slice va bs.length vc, .int .i64 c]) rfl (by kernel_rfl) (by kernel_rfl) (by kernel_rfl) (fun _ _ _ h => h) (Or.inl ⟨by rfl, fun w9 hSw => ?_⟩) hHeld ?_
 · go_simp
 simp only [List.getElem_toArray, List.getElem_cons_succ, List.getElem_cons_zero, Act.put, List.setIfInBounds_toArray, List.set_cons_zero, List.set_cons_succ]; refine wpAnyH_take (i := 12) (v := .slice va bs.length vc) rfl (by kernel_rfl) (by kernel_rfl) (by kernel_rfl) (fun _ _ _ h => h) (Or.inl ⟨by rfl, fun w9 hSw => ?_⟩) hHeld ?_
 · go_simp
 simp only [List.getElem_toArray, List.getElem_cons_succ, List.getElem_cons_zero, Act.put, List.setIfInBounds_toArray, List.set_cons_zero, List.set_cons_succ]; refine wpAnyH_take (i := 13) (v := .int .i64 c) rfl (by kernel_rfl) (by kernel_rfl) (by kernel_rfl) (fun _ _ _ h => h) (Or.inl ⟨by rfl, fun w9 hSw => ?_⟩) hHeld ?_
 · go_simp
 simp only [List.getElem_toArray, List.getElem_cons_succ, List.getElem_cons_zero, Act.put, List.setIfInBounds_toArray, List.set_cons_zero, List.set_cons_succ]; refine wpAnyH_take (i := 14) (v := .slice va bs.length vc) rfl (by kernel_rfl) (by kernel_rfl) (by kernel_rfl) (fun _ _ _ h => h) (Or.inl ⟨by rfl, fun w9 hSw => ?_⟩) hHeld ?_
 · go_simp
 simp only [List.getElem_toArray, List.getElem_cons_succ, List.getElem_cons_zero, Act.put, List.setIfInBounds_toArray, List.set_cons_zero, List.set_cons_succ]; refine wpAnyH_take (i := 15) (v := .int .i64 c) rfl (by kernel_rfl) (by kernel_rfl) (by kernel_rfl) (fun _ _ _ h => h) (Or.inl ⟨by rfl, fun w9 hSw => ?_⟩) hHeld ?_
 · go_simp
 simp only [List.getElem_toArray, List.getElem_cons_succ, List.getElem_cons_zero, Act.put, List.setIfInBounds_toArray, List.set_cons_zero, List.set_cons_succ]; refine wpAnyH_done (by kernel_rfl) ?_ _; simp only [noP]; have hc1 : (c == 0) = true := by rw [HC.out]; simpa using he
 have d2 : w3.cell? ⟨w.heap.size + 2, 0, none⟩ = some (.int .i64 0) := by rw [cell_of_block hx2]; rfl
 have f2 : w3.frozen? ⟨w.heap.size + 2, 0, none⟩ = false := unfrozen_of_block hx2 0; have d0 : w3.cell? ⟨w.heap.size, 0, none⟩ = some (.pointer (some ⟨bl, 0, none⟩)) := by rw [cell_of_block hHeld.2]; rfl
 obtain ⟨fa, fc, hfv⟩ := row_form H3.out.1.log.files; have d3 : w3.cell? ⟨bl, 3, none⟩ = some (.slice fa L.fs.length fc) := by rw [cell_of_block hHeld.1]; show some L.fv = _; rw [hfv]
 clear hfv; have HQA : DL w3 bd bl S1 L ro ∧ F3 w w3 S L S1 L ∧ absD S1 = (dRead (absD S) (fileB logB n)).2 ∧ BytesV w3 (.slice va bs.length vc) bs ∧ (w3.heap[w.heap.size]? = some (.cells #[.pointer (some ⟨bl, 0, none⟩)] 91) ∧ w3.heap[w.heap.size + 1]? = some (.cells #[.bool last] 4) ∧ w3.heap[w.heap.size + 2]? = some (.cells #[.int .i64 0] 25)) ∧ bs = (dBytes (absD S) (fileB logB n)) ∧ (bs.length ≤ vc ∧ vc ≤ 9223372036854775807) ∧ (∀ b, dBlock (.slice va bs.length vc) bs = some b → b < w3.heap.size ∧ S1.role b = .none ∧ L.own b = 0 ∧ w.heap.size + 2 < b) ∧ (∀ b, w.heap.size ≤ b → b < w.heap.size + 3 → S1.role b = .none ∧ L.own b = 0) ∧ w.heap.size + 3 ≤ w3.heap.size := ⟨H3.out.1, H3.out.2.1, H3.out.2.2.1, H3.out.2.2.2.1, ⟨(H3.out.2.2.2.2.2.2.2.1 w.heap.size (by omega) (by omega)).1.trans B0.out.2.2.1, hx1, hx2⟩, H3.out.2.2.2.2.1, H3.out.2.2.2.2.2.1, H3.out.2.2.2.2.2.2.1, fun b h1 h2 => (H3.out.2.2.2.2.2.2.2.1 b h1 h2).2, H3.out.2.2.2.2.2.2.2.2⟩
 have hl0 : (0 : Int) < L.fs.length := by omega
 have HQB : Hid _ := HQA; clear HQA; have HQA := HQB; clear HQB; clear hHeld hx1 hx2 hH3; go_wp2_with (first
  | (go_at_call 42
     refine Calls.mono (end_any H3.out.1.log HI.out.ln) ?_; rintro e wq ⟨rfl, hm⟩; rw [← HNE.out]; have Hq : Hid (DL wq bd bl S1 L ro ∧ F3 w wq S L S1 L ∧ absD S1 = (dRead (absD S) (fileB logB n)).2 ∧ BytesV wq (.slice va bs.length vc) bs ∧ (wq.heap[w.heap.size]? = some (.cells #[.pointer (some ⟨bl, 0, none⟩)] 91) ∧ wq.heap[w.heap.size + 1]? = some (.cells #[.bool last] 4) ∧ wq.heap[w.heap.size + 2]? = some (.cells #[.int .i64 0] 25)) ∧ bs = (dBytes (absD S) (fileB logB n)) ∧ (bs.length ≤ vc ∧ vc ≤ 9223372036854775807) ∧ (∀ b, dBlock (.slice va bs.length vc) bs = some b → b < wq.heap.size ∧ S1.role b = .none ∧ L.own b = 0 ∧ w.heap.size + 2 < b) ∧ (∀ b, w.heap.size ≤ b → b < w.heap.size + 3 → S1.role b = .none ∧ L.own b = 0) ∧ w.heap.size + 3 ≤ wq.heap.size) := (by
      obtain ⟨m, rfl⟩ := hm; have hb := below_drewN' w3 m; exact ⟨HQA.out.1.below hb, HQA.out.2.1.trans (F3.below hb), HQA.out.2.2.1, HQA.out.2.2.2.1.below hb, HQA.out.2.2.2.2.1, HQA.out.2.2.2.2.2⟩)
     clear hm d0; have d0 : wq.cell? ⟨w.heap.size, 0, none⟩ = some (.pointer (some ⟨bl, 0, none⟩)) := by rw [cell_of_block Hq.out.2.2.2.2.1.1]; rfl)
  | (go_at_call 107
     refine Calls.mono (begin_any Hq.out.1.log (by have := HI.out.fl; omega) n) ?_; rintro e w4 ⟨rfl, v4, hL4, hF4⟩; obtain ⟨q1, q2⟩ := Hq.out.1.logged hL4 hF4 rfl; have H4 : Hid (DL w4 bd bl S1 (setF L v4 (L.fs ++ [n]) 0) ro ∧ F3 wq w4 S1 L S1 (setF L v4 (L.fs ++ [n]) 0)) := ⟨q1, q2⟩
     clear hL4 hF4 q1 q2))
 go_step3
 go_wp2_with (first
  | (go_at_call 108
     refine Calls.mono (frames_any va bs.length vc) ?_; rintro e w5 ⟨rfl, hw5⟩; have HW5 : Hid (w5 = w4.alloc (.cells #[.slice va bs.length vc] 23)) := hw5; clear hw5))
 refine (wpIn_wide (n := 4)).1 ?_; refine range_leave (gf := 132) (lb := #[.pointer (some ⟨w4.heap.size, 0, none⟩)]) rfl (enters_of Tryz.func132 (by kernel_rfl) rfl) ?_; intro r W1 hst hpe htm hpar has' hbod hW1; obtain ⟨D, hD⟩ : ∃ D, D = w5.heap.size := ⟨_, rfl⟩
 have hD4 : D = w4.heap.size + 1 := by rw [hD, HW5.out]; simp
 rw [← hD]; have h0 : JJ w W1 bd bl S S1 L ro n last (.slice va bs.length vc) bs D 0 r 0 [] (setF L v4 (L.fs ++ [n]) 0) := load_start Hq.out H4.out.1 H4.out.2 HW5.out hD hW1 HI.out.dl; have hX3 : W1.cell? ⟨w4.heap.size, 0, none⟩ = some (.slice va bs.length vc) := by
  have h1 : w5.heap[w4.heap.size]? = some (.cells #[.slice va bs.length vc] 23) := by rw [HW5.out]; exact heap_alloc_new _ _
  have h2 : W1.heap[w4.heap.size]? = some (.cells #[.slice va bs.length vc] 23) := by
   rw [hW1, heap_alloc_old _ _ _ (by simp; omega), heap_alloc_old _ _ _ (by omega)]; exact h1
  rw [cell_of_block h2]; rfl
 have Hbl : Hid (bs.length ≤ 1073741824 ∧ bs.length ≤ vc ∧ vc ≤ 9223372036854775807) := ⟨by rw [Hq.out.2.2.2.2.2.1]; exact dBytes_len HI.out.dl.gb _, Hq.out.2.2.2.2.2.2.1⟩
 clear hW1 hD hD4; refine CallsIn.mono (frames1_in 2 (D + 1) w4.heap.size va vc bs W1 (fun k W => ∃ rs L', JJ w W bd bl S S1 L ro n last (.slice va bs.length vc) bs D 0 r k rs L') (fun W => XX w W bd bl S S1 L ro n last (.slice va bs.length vc) bs D r) hX3 Hbl.out.2.1 Hbl.out.2.2 (by have := Hbl.out.1; omega) ⟨_, _, h0⟩ (fun k W h => ⟨h.choose_spec.choose_spec.lo.bv, h.choose_spec.choose_spec.dl.vars.half⟩) ?hY) ?_
 case hY =>
  rintro k W W2 v2 hk ⟨rs, L', hj⟩ hb2 ho2; have hj2 := hj.below hb2; obtain ⟨va2, vc2, hv2⟩ := row_form ho2; subst hv2; by_cases hz : (nx (bs.drop k)).1 = 0
  · obtain ⟨q1, q2, q3, q4⟩ := nx_ok hz
    refine YieldAt.mono (round_leave (R := fun W' => ∃ rs L', JJ w W' bd bl S S1 L ro n last (.slice va bs.length vc) bs D 0 r (k + (nx (bs.drop k)).2.1) rs L') (J := fun _ _ => False) hj2.loop hst hpe (by rw [hpar]; rfl) ?_) ?_; rotate_left
    · rintro e W' (⟨rfl, h⟩ | ⟨c, _, h⟩)
      · exact Or.inl ⟨rfl, hz, h⟩
      · exact h.elim
    intro rb hrb; rw [hpar, has', hbod, htm]; clear hpar has' hbod htm hst hpe hrb; simp only [List.zip_toArray, List.zip_cons_cons, List.zip_nil_right, List.foldl_toArray, List.foldl_cons, List.foldl_nil, List.setIfInBounds_toArray, List.set_cons_zero, List.set_cons_succ]; rw [hz]; have HJ : Hid (JJ w W bd bl S S1 L ro n last (.slice va bs.length vc) bs D 0 r k rs L' ∧ Below W.heap.size W W2 ∧ JJ w W2 bd bl S S1 L ro n last (.slice va bs.length vc) bs D 0 r k rs L' ∧ W2.ownsRow W.heap.size 5 1 (.slice va2 (nx (bs.drop k)).2.2.length vc2) (nx (bs.drop k)).2.2.length (vB (nx (bs.drop k)).2.2)) := ⟨hj, hb2, hj2, ho2⟩
    have HQ : Hid ((nx (bs.drop k)).2.1 = 12 + (nx (bs.drop k)).2.2.length ∧ (nx (bs.drop k)).2.2.length ≤ 65536 ∧ (nx (bs.drop k)).1 = 0) := ⟨q3, q4, hz⟩
    clear hj hb2 hj2 ho2 q1 q2 q3 q4 hz; gi_wp2; refine ⟨HJ.out.2.2.1.loop, ?_⟩; have J1 : Hid (JJ w (W2.putObj (D + 1) (.loop rb)) bd bl S S1 L ro n last (.slice va bs.length vc) bs D 0 rb k rs L') := HJ.out.2.2.1.put rb; have HV : Hid (W2.putObj (D + 1) (.loop rb) = W2.putObj (D + 1) (.loop rb)) := rfl; obtain ⟨V, hV⟩ : ∃ V, V = W2.putObj (D + 1) (.loop rb) := ⟨_, rfl⟩
    have HVV : Hid (V = W2.putObj (D + 1) (.loop rb)) := hV; rw [← hV] at J1 ⊢; clear hV HV; have e0 : V.cell? ⟨w.heap.size, 0, none⟩ = some (.pointer (some ⟨bl, 0, none⟩)) := by rw [cell_of_block J1.out.lo.x0]; rfl
    gi_wp2; have hbV : BytesV V (.slice va2 (nx (bs.drop k)).2.2.length vc2) (nx (bs.drop k)).2.2 := by
     rw [HVV.out]; refine (BytesV.of_own HJ.out.2.2.2).keep (fun b hb => World.putObj_heap_other (fun e => ?_)); have h1 := (HJ.out.2.2.2.lt b (dBlock_own hb)).1; have h2 := HJ.out.1.lt; omega
    have hVs : V.heap.size = W2.heap.size := by rw [HVV.out]; simp [World.putObj]
    have hlen := J1.out.took.le; have hbl1 := Hbl.out.1; refine ⟨trivial, CallsIn.mono (CallsIn.inRound _ (callsIn_wide.2 (keep_any J1.out.dl.log (by
     have h1 := congrArg List.length J1.out.rs'; rw [List.length_map, List.length_append, List.length_map] at h1; have h2 := HI.out.rsl; omega) va2 vc2 (nx (bs.drop k)).2.2 hbV (fun b hb => ⟨HJ.out.1.dl.log.fresh b (HJ.out.2.2.2.lt b (dBlock_own hb)).1, by rw [hVs]; exact (HJ.out.2.2.2.lt b (dBlock_own hb)).2⟩) HQ.out.2.1 (by rw [J1.out.size]; omega)))) ?_⟩
    rintro e V2 ⟨rfl, v9, hL9, hK9⟩; have hA := HJ.out.1.put rb; have hAB : Below (W.putObj (D + 1) (.loop rb)).heap.size (W.putObj (D + 1) (.loop rb)) V := by
     have hs : (W.putObj (D + 1) (.loop rb)).heap.size = W.heap.size := by simp [World.putObj]
     have hb2 := HJ.out.2.1; rw [HVV.out, hs]; refine ⟨hb2.os, hb2.tape, hb2.output, by simpa [World.putObj] using hb2.size, fun b hb => ?_⟩; by_cases e : b = D + 1
     · subst e
       rw [World.putObj_heap_same HJ.out.2.2.1.lt, World.putObj_heap_same HJ.out.1.lt]
     · rw [World.putObj_heap_other e, World.putObj_heap_other e]
       exact hb2.block b hb
    obtain ⟨r1, r2⟩ := hA.dl.kept_rec hAB hL9 hK9 (fun b hb => by
     have hs : (W.putObj (D + 1) (.loop rb)).heap.size = W.heap.size := by simp [World.putObj]
     rw [hs]; exact (HJ.out.2.2.2.lt b (dBlock_own hb)).1) rfl
    have hJ2 := hA.keep (x := (nx (bs.drop k)).2.2) (z := k + (nx (bs.drop k)).2.1) r1 r2 (.step hA.took hk HQ.out.2.2) rfl (by simp [addR]) (by show L'.size + (12 + ((nx (bs.drop k)).2.2.length : Int)) = _; rw [hA.size, HQ.out.1]; omega) ⟨rfl, rfl, rfl⟩; gi_wp2; exact ⟨hJ2.loop, _, _, hJ2.put r⟩
  · by_cases hl : (nx (bs.drop k)).1 = 10 ∧ last = true
    · refine YieldAt.mono (round_leave (R := fun _ => False) (J := fun c W' => c = .exit 0 ∧ JJ w W' bd bl S S1 L ro n last (.slice va bs.length vc) bs D 0 { r with state := .done, pending := some (.exit 0) } k rs L') hj2.loop hst hpe (by rw [hpar]; rfl) ?_) ?_
      rotate_left
      · rintro e W' (⟨_, h⟩ | ⟨c, rfl, _, h⟩)
        · exact h.elim
        · exact Or.inr ⟨rfl, k, rs, L', hk, Or.inl ⟨hl.1, hl.2, h⟩⟩
      intro rb hrb; rw [hpar, has', hbod, htm]; clear hpar has' hbod htm hst hpe hrb; simp only [List.zip_toArray, List.zip_cons_cons, List.zip_nil_right, List.foldl_toArray, List.foldl_cons, List.foldl_nil, List.setIfInBounds_toArray, List.set_cons_zero, List.set_cons_succ]; rw [hl.1]; have HJ : Hid (JJ w W2 bd bl S S1 L ro n last (.slice va bs.length vc) bs D 0 r k rs L' ∧ last = true) := ⟨hj2, hl.2⟩
      clear hj hb2 hj2 ho2 hz hl; gi_wp2; refine ⟨HJ.out.1.loop, ?_⟩; have J1 : Hid (JJ w (W2.putObj (D + 1) (.loop rb)) bd bl S S1 L ro n last (.slice va bs.length vc) bs D 0 rb k rs L') := HJ.out.1.put rb; generalize W2.putObj (D + 1) (.loop rb) = V at J1 ⊢; have e1 : V.cell? ⟨w.heap.size + 1, 0, none⟩ = some (.bool true) := by rw [cell_of_block J1.out.lo.x1, HJ.out.2]; rfl
      gi_wp2; exact ⟨J1.out.loop, rfl, J1.out.put _⟩
    · refine YieldAt.mono (round_leave (R := fun _ => False) (J := fun c W' => c = .ret ∧ JJ w W' bd bl S S1 L ro n last (.slice va bs.length vc) bs D 34 { r with state := .done, pending := some .ret } k rs L') hj2.loop hst hpe (by rw [hpar]; rfl) ?_) ?_
      rotate_left
      · rintro e W' (⟨_, h⟩ | ⟨c, rfl, _, h⟩)
        · exact h.elim
        · exact Or.inr ⟨rfl, k, rs, L', hk, Or.inr ⟨hz, hl, h⟩⟩
      intro rb hrb; rw [hpar, has', hbod, htm]; clear hpar has' hbod htm hst hpe hrb; simp only [List.zip_toArray, List.zip_cons_cons, List.zip_nil_right, List.foldl_toArray, List.foldl_cons, List.foldl_nil, List.setIfInBounds_toArray, List.set_cons_zero, List.set_cons_succ]; obtain ⟨E, hE⟩ : ∃ E, E = (nx (bs.drop k)).1 := ⟨_, rfl⟩
      rw [← hE] at hz hl ⊢; have HJ : Hid (JJ w W2 bd bl S S1 L ro n last (.slice va bs.length vc) bs D 0 r k rs L' ∧ ¬ (E = 10 ∧ last = true)) := ⟨hj2, hl⟩
      have hz1 : (E == 0) = false := by simpa using hz
      have hz2 : (E != 0) = true := by simpa using hz
      clear hj hb2 hj2 ho2 hz hl hE; gi_wp2; refine ⟨HJ.out.1.loop, ?_⟩; have J1 : Hid (JJ w (W2.putObj (D + 1) (.loop rb)) bd bl S S1 L ro n last (.slice va bs.length vc) bs D 0 rb k rs L') := HJ.out.1.put rb; generalize W2.putObj (D + 1) (.loop rb) = V at J1 ⊢; have e1 : V.cell? ⟨w.heap.size + 1, 0, none⟩ = some (.bool last) := by rw [cell_of_block J1.out.lo.x1]; rfl
      have e2 : V.cell? ⟨w.heap.size + 1 + 1, 0, none⟩ = some (.int .i64 0) := by rw [cell_of_block J1.out.lo.x2]; rfl
      have f2 : V.frozen? ⟨w.heap.size + 1 + 1, 0, none⟩ = false := unfrozen_of_block J1.out.lo.x2 0; by_cases h10 : E = 10
      · have hlf : last = false := by
         cases last
         · rfl
         · exact absurd ⟨h10, rfl⟩ HJ.out.2
        have h10b : (E == 10) = true := by simpa using h10
        rw [hlf] at e1; clear h10; gi_wp2; exact ⟨(J1.out.res 34).loop, rfl, (J1.out.res 34).put _⟩
      · have h10b : (E == 10) = false := by simpa using h10
        clear h10; gi_wp2; exact ⟨(J1.out.res 34).loop, rfl, (J1.out.res 34).put _⟩
 rintro e W' ⟨hv, hq⟩; refine ⟨hv, ?_⟩; clear hst hpe htm hpar has' hbod h0 hX3 hv; rcases hq with ⟨rs, L', hj⟩ | ⟨k, rs, L', hk, hq⟩
 · refine Or.inl ⟨hj.loop, ?_⟩
   obtain ⟨re, hre⟩ : ∃ re : Loop, { r with state := .exhausted } = re := ⟨_, rfl⟩
   rw [hre]; have J1 : Hid (JJ w (W'.putObj (D + 1) (.loop re)) bd bl S S1 L ro n last (.slice va bs.length vc) bs D 0 re bs.length rs L') := hj.put re; generalize W'.putObj (D + 1) (.loop re) = V at J1 ⊢; clear hj hre; have e0 : V.cell? ⟨w.heap.size, 0, none⟩ = some (.pointer (some ⟨bl, 0, none⟩)) := by rw [cell_of_block J1.out.lo.x0]; rfl
   have e2 : V.cell? ⟨w.heap.size + 1 + 1, 0, none⟩ = some (.int .i64 0) := by rw [cell_of_block J1.out.lo.x2]; rfl
   have f2 : V.frozen? ⟨w.heap.size + 1 + 1, 0, none⟩ = false := unfrozen_of_block J1.out.lo.x2 0; have e5 : V.cell? ⟨bl, 5, none⟩ = some (.int .i64 (bs.length : Int)) := by rw [cell_of_block J1.out.dl.log.log]; show some (Value.int .i64 L'.size) = _; rw [J1.out.size]
   go_wp2; rw [Exit.noGoto_ret]
   refine ⟨by simp, .inl ⟨_, _, rfl, run_takeDeferred (J1.out.res 0).lo.d, ?_⟩⟩; have hl : (loadVar 25 ⟨w.heap.size + 1 + 1, 0, none⟩).run Tryz.prog ((V.setCell ⟨w.heap.size + 1 + 1, 0, none⟩ (.int .i64 0)).putObj D (.deferred none)) = .ok (.int .i64 0) ((V.setCell ⟨w.heap.size + 1 + 1, 0, none⟩ (.int .i64 0)).putObj D (.deferred none)) := load24 ((World.putObj_heap_other (by have := J1.out.lo.xd; omega)).trans (J1.out.res 0).lo.x2); refine ⟨.int .i64 0, by simp [results, Tryz.results74, asAddr, hl], 0, S1, L', rfl, ((J1.out.res 0).fin).1, ((J1.out.res 0).fin).2, ?_⟩; exact Or.inr ⟨bs.length, rs, by rw [← Hq.out.2.2.2.2.2.1]; exact J1.out.took, J1.out.absL, Or.inl ⟨by rw [← Hq.out.2.2.2.2.2.1], rfl, Hq.out.2.2.1⟩⟩
 rcases hq with ⟨h10, hlast, hj⟩ | ⟨hne, hnl, hj⟩
 · refine Or.inr ⟨.exit 0, hj.loop, ?_⟩
   obtain ⟨re, hre⟩ : ∃ re : Loop, { r with state := .exhausted, pending := some (.exit 0) } = re := ⟨_, rfl⟩
   rw [hre]; have J1 : Hid (JJ w (W'.putObj (D + 1) (.loop re)) bd bl S S1 L ro n last (.slice va bs.length vc) bs D 0 re k rs L' ∧ (nx (bs.drop k)).1 = 10 ∧ last = true) := ⟨hj.put re, h10, hlast⟩
   generalize W'.putObj (D + 1) (.loop re) = V at J1 ⊢; clear hj hre h10 hlast; have e0 : V.cell? ⟨w.heap.size, 0, none⟩ = some (.pointer (some ⟨bl, 0, none⟩)) := by rw [cell_of_block J1.out.1.lo.x0]; rfl
   have e5 : V.cell? ⟨bl, 5, none⟩ = some (.int .i64 (k : Int)) := by rw [cell_of_block J1.out.1.dl.log.log]; show some (Value.int .i64 L'.size) = _; rw [J1.out.1.size]
   have hkb : ((k : Int) == (bs.length : Int)) = false := by simp; omega
   refine wpIn_wide.2 ?_; go_wp2_with fail; refine wp_noP ?_; refine wp_region_held_drew (S := fun w' => w'.heap[bl]? = some (.cells (lC L') 141) ∧ w'.heap[w.heap.size]? = some (.cells #[.pointer (some ⟨bl, 0, none⟩)] 91)) (by kernel_rfl) ⟨J1.out.1.dl.log.log, J1.out.1.lo.x0⟩ (fun hHeld => ?_); refine wpAnyH_take (i := 0) (v := .pointer (some ⟨bl, 0, none⟩)) rfl (by kernel_rfl) (by kernel_rfl) (by kernel_rfl) (fun _ _ _ h => h) (Or.inl ⟨by rfl, fun w9 hSw => ?_⟩) hHeld ?_
   · have hc : w9.cell? ⟨w.heap.size, 0, none⟩ = some (.pointer (some ⟨bl, 0, none⟩)) := (cell_of_block hSw.2 0).trans rfl
     go_simp
   simp only [List.getElem_toArray, List.getElem_cons_succ, List.getElem_cons_zero, Act.put, List.setIfInBounds_toArray, List.set_cons_zero, List.set_cons_succ]; refine wpAnyH_take (i := 1) (v := .pointer (some ⟨bl, 0, none⟩)) rfl (by kernel_rfl) (by kernel_rfl) (by kernel_rfl) (fun _ _ _ h => h) (Or.inl ⟨by rfl, fun w9 hSw => ?_⟩) hHeld ?_
   · go_simp
   simp only [List.getElem_toArray, List.getElem_cons_succ, List.getElem_cons_zero, Act.put, List.setIfInBounds_toArray, List.set_cons_zero, List.set_cons_succ]; refine wpAnyH_take (i := 2) (v := .pointer (some ⟨bl, 0, none⟩)) rfl (by kernel_rfl) (by kernel_rfl) (by kernel_rfl) (fun _ _ _ h => h) (Or.inl ⟨by rfl, fun w9 hSw => ?_⟩) hHeld ?_
   · go_simp
   simp only [List.getElem_toArray, List.getElem_cons_succ, List.getElem_cons_zero, Act.put, List.setIfInBounds_toArray, List.set_cons_zero, List.set_cons_succ]; refine wpAnyH_take (i := 3) (v := .pointer (some ⟨bd, 0, none⟩)) rfl (by kernel_rfl) (by kernel_rfl) (by kernel_rfl) (fun _ _ _ h => h) (Or.inl ⟨by rfl, fun w9 hSw => ?_⟩) hHeld ?_
   · have hc : w9.cell? ⟨bl, 0, none⟩ = some (.pointer (some ⟨bd, 0, none⟩)) := (cell_of_block hSw.1 0).trans (by show some (Value.pointer (some ⟨L'.bd, 0, none⟩)) = _; rw [J1.out.1.dl.bdq])
     go_simp
   simp only [List.getElem_toArray, List.getElem_cons_succ, List.getElem_cons_zero, Act.put, List.setIfInBounds_toArray, List.set_cons_zero, List.set_cons_succ]; refine wpAnyH_take (i := 4) (v := .pointer (some ⟨bl, 0, none⟩)) rfl (by kernel_rfl) (by kernel_rfl) (by kernel_rfl) (fun _ _ _ h => h) (Or.inl ⟨by rfl, fun w9 hSw => ?_⟩) hHeld ?_
   · have hc : w9.cell? ⟨w.heap.size, 0, none⟩ = some (.pointer (some ⟨bl, 0, none⟩)) := (cell_of_block hSw.2 0).trans rfl
     go_simp
   simp only [List.getElem_toArray, List.getElem_cons_succ, List.getElem_cons_zero, Act.put, List.setIfInBounds_toArray, List.set_cons_zero, List.set_cons_succ]; refine wpAnyH_take (i := 5) (v := .pointer (some ⟨bl, 0, none⟩)) rfl (by kernel_rfl) (by kernel_rfl) (by kernel_rfl) (fun _ _ _ h => h) (Or.inl ⟨by rfl, fun w9 hSw => ?_⟩) hHeld ?_
   · go_simp
   simp only [List.getElem_toArray, List.getElem_cons_succ, List.getElem_cons_zero, Act.put, List.setIfInBounds_toArray, List.set_cons_zero, List.set_cons_succ]; refine wpAnyH_take (i := 6) (v := .pointer (some ⟨bl, 1, none⟩)) rfl (by kernel_rfl) (by kernel_rfl) (by kernel_rfl) (fun _ _ _ h => h) (Or.inl ⟨by rfl, fun w9 hSw => ?_⟩) hHeld ?_
   · go_simp
   simp only [List.getElem_toArray, List.getElem_cons_succ, List.getElem_cons_zero, Act.put, List.setIfInBounds_toArray, List.set_cons_zero, List.set_cons_succ]; refine wpAnyH_take (i := 7) (v := .string logB) rfl (by kernel_rfl) (by kernel_rfl) (by kernel_rfl) (fun _ _ _ h => h) (Or.inl ⟨by rfl, fun w9 hSw => ?_⟩) hHeld ?_
   · have hc : w9.cell? ⟨bl, 1, none⟩ = some (.string logB) := (cell_of_block hSw.1 1).trans (by show some (Value.string L'.nm) = _; rw [J1.out.1.rest.2.2, HI.out.nm])
     go_simp
   simp only [List.getElem_toArray, List.getElem_cons_succ, List.getElem_cons_zero, Act.put, List.setIfInBounds_toArray, List.set_cons_zero, List.set_cons_succ]; refine wpAnyH_take (i := 8) (v := .int .i64 n) rfl (by kernel_rfl) (by kernel_rfl) (by kernel_rfl) (fun _ _ _ h => h) (Or.inl ⟨by rfl, fun w9 hSw => ?_⟩) hHeld ?_
   · go_simp
   simp only [List.getElem_toArray, List.getElem_cons_succ, List.getElem_cons_zero, Act.put, List.setIfInBounds_toArray, List.set_cons_zero, List.set_cons_succ]; refine wpAnyH_take (i := 10) (v := .pointer (some ⟨bl, 0, none⟩)) rfl (by kernel_rfl) (by kernel_rfl) (by kernel_rfl) (fun _ _ _ h => h) (Or.inl ⟨by rfl, fun w9 hSw => ?_⟩) hHeld ?_
   · have hc : w9.cell? ⟨w.heap.size, 0, none⟩ = some (.pointer (some ⟨bl, 0, none⟩)) := (cell_of_block hSw.2 0).trans rfl
     go_simp
   simp only [List.getElem_toArray, List.getElem_cons_succ, List.getElem_cons_zero, Act.put, List.setIfInBounds_toArray, List.set_cons_zero, List.set_cons_succ]; refine wpAnyH_take (i := 11) (v := .pointer (some ⟨bl, 0, none⟩)) rfl (by kernel_rfl) (by kernel_rfl) (by kernel_rfl) (fun _ _ _ h => h) (Or.inl ⟨by rfl, fun w9 hSw => ?_⟩) hHeld ?_
   · go_simp
   simp only [List.getElem_toArray, List.getElem_cons_succ, List.getElem_cons_zero, Act.put, List.setIfInBounds_toArray, List.set_cons_zero, List.set_cons_succ]; refine wpAnyH_take (i := 12) (v := .pointer (some ⟨bl, 5, none⟩)) rfl (by kernel_rfl) (by kernel_rfl) (by kernel_rfl) (fun _ _ _ h => h) (Or.inl ⟨by rfl, fun w9 hSw => ?_⟩) hHeld ?_
   · go_simp
   simp only [List.getElem_toArray, List.getElem_cons_succ, List.getElem_cons_zero, Act.put, List.setIfInBounds_toArray, List.set_cons_zero, List.set_cons_succ]; refine wpAnyH_take (i := 13) (v := .int .i64 (k : Int)) rfl (by kernel_rfl) (by kernel_rfl) (by kernel_rfl) (fun _ _ _ h => h) (Or.inl ⟨by rfl, fun w9 hSw => ?_⟩) hHeld ?_
   · have hc : w9.cell? ⟨bl, 5, none⟩ = some (.int .i64 (k : Int)) := (cell_of_block hSw.1 5).trans (by show some (Value.int .i64 L'.size) = _; rw [J1.out.1.size])
     go_simp
   simp only [List.getElem_toArray, List.getElem_cons_succ, List.getElem_cons_zero, Act.put, List.setIfInBounds_toArray, List.set_cons_zero, List.set_cons_succ]; refine wpAnyH_ready (rs := [9]) (by kernel_rfl) (by simp) ?_; refine AllReadyH.cons rfl (fun K hK => ?_) AllReadyH.nil; have J2 : JJ w V.drew bd bl S S1 L ro n last (.slice va bs.length vc) bs D 0 re k rs L' := J1.out.1.below ⟨rfl, rfl, rfl, Nat.le_refl _, fun _ _ => rfl⟩; generalize V.drew = V1 at hHeld J2 ⊢; go_simp; refine Calls.mono (file_any J2.dl.vars logB (by decide) n) ?_; rintro e V2 ⟨rfl, hb2⟩; have J3 := J2.below hb2; have hH3 : V2.heap[bl]? = some (.cells (lC L') 141) ∧ V2.heap[w.heap.size]? = some (.cells #[.pointer (some ⟨bl, 0, none⟩)] 91) := ⟨J3.dl.log.log, J3.lo.x0⟩
   clear J2 hHeld hb2; go_wp2_with fail; refine hK.out _ _ hH3 (fun hHeld => ?_); clear hK K; try simp only [List.getElem_toArray, List.getElem_cons_succ, List.getElem_cons_zero, Act.put, List.setIfInBounds_toArray, List.set_cons_zero, List.set_cons_succ]
   refine wpAnyH_ready (rs := [14]) (by kernel_rfl) (by simp) ?_; refine AllReadyH.cons rfl (fun K hK => ?_) AllReadyH.nil; have HW := tru_wf J3.dl.disk.srt J3.dl.gb.wf (fileB logB n) k; have hs1 : S1.steps < 4611686018427387903 := by
    have h1 := congrArg DA.steps Hq.out.2.2.1; have h2 := dDo_steps (absD S) (fileB logB n) (eFind (absD S).l (fileB logB n)) (absD S).l; have h3 : S1.steps = (dDo (absD S) (fileB logB n) (eFind (absD S).l (fileB logB n)) (absD S).l).2.steps := h1; have h4 := HI.out.st; have h5 : (absD S).steps = S.steps := rfl; omega
   go_simp; refine Calls.mono (g_trunc J3.dl.disk J3.dl.gb (fileB logB n) (by have := fileB_size n; omega) k) ?_
   rintro e V3 ⟨rfl, S2, hD2, hF2, hG2⟩; obtain ⟨K1, K2⟩ := J3.dl.disked hD2 hF2 (J3.dl.gb.next (e := eTru (absP S1) (fileB logB n) k) hG2 HW hs1); have hA := gs_abs (e := eTru (absP S1) (fileB logB n) k) hG2; have J4 : Hid (DL V3 bd bl S2 L' ro ∧ FB w.heap.size w V3 S L S2 L' ∧ Lo V3 S2 L' w.heap.size D bl last (.slice va bs.length vc) bs 0 ∧ absD S2 = (dTru (dRead (absD S) (fileB logB n)).2 (fileB logB n) k).2) := ⟨K1, J3.fb.f3 (by have := J3.fb.size; omega) K2, J3.lo.f3 K2 J3.lt, by rw [hA, ← Hq.out.2.2.1]; rfl⟩
   have hH4 : V3.heap[bl]? = some (.cells (lC L') 141) ∧ V3.heap[w.heap.size]? = some (.cells #[.pointer (some ⟨bl, 0, none⟩)] 91) := ⟨K1.log.log, J4.out.2.2.1.x0⟩
   obtain ⟨d, hd⟩ : ∃ d, d = (dTru (dRead (absD S) (fileB logB n)).2 (fileB logB n) k).1 := ⟨_, rfl⟩
   have HDD : Hid (d = (dTru (dRead (absD S) (fileB logB n)).2 (fileB logB n) k).1) := hd; rw [gI_abs S1 (fileB logB n) (eTru (absP S1) (fileB logB n) k) (lTru (absP S1) (fileB logB n) k), show (dDo (absD S1) (fileB logB n) (eTru (absP S1) (fileB logB n) k) (lTru (absP S1) (fileB logB n) k)).1 = d from by rw [hd, ← Hq.out.2.2.1]; rfl]; clear J3 hHeld hH3 hD2 hF2 hG2 K1 K2 hA hd HW hs1; go_wp2_with fail; refine hK.out _ _ hH4 (fun hHeld => ?_); clear hK K; try simp only [List.getElem_toArray, List.getElem_cons_succ, List.getElem_cons_zero, Act.put, List.setIfInBounds_toArray, List.set_cons_zero, List.set_cons_succ]
   refine wpAnyH_ready (rs := [15]) (by kernel_rfl) (by simp) ?_; refine AllReadyH.cons rfl (fun K hK => ?_) AllReadyH.nil; have e2 : V3.cell? ⟨w.heap.size + 1 + 1, 0, none⟩ = some (.int .i64 0) := by rw [cell_of_block J4.out.2.2.1.x2]; rfl
   have f2 : V3.frozen? ⟨w.heap.size + 1 + 1, 0, none⟩ = false := unfrozen_of_block J4.out.2.2.1.x2 0; have hH5 : (V3.setCell ⟨w.heap.size + 1 + 1, 0, none⟩ (.int .i64 d)).heap[bl]? = some (.cells (lC L') 141) ∧ (V3.setCell ⟨w.heap.size + 1 + 1, 0, none⟩ (.int .i64 d)).heap[w.heap.size]? = some (.cells #[.pointer (some ⟨bl, 0, none⟩)] 91) := ⟨(Below.heap_setCell _ _ _ _ (fun e => by have h1 := HI.out.dl.log.lt; have e' : bl = w.heap.size + 1 + 1 := e; omega)).trans hH4.1, (Below.heap_setCell _ _ _ _ (fun e => by have e' : w.heap.size = w.heap.size + 1 + 1 := e; omega)).trans hH4.2⟩
   go_simp; refine hK.out _ _ hH5 (fun hHeld => ?_)
   clear hK K; try simp only [List.getElem_toArray, List.getElem_cons_succ, List.getElem_cons_zero, Act.put, List.setIfInBounds_toArray, List.set_cons_zero, List.set_cons_succ]
   refine wpAnyH_done (by kernel_rfl) ?_ _; simp only [noP]; go_wp2; rw [Exit.noGoto_ret]; have hx := J4.out.2.2.1.xd; have hv4 := J1.out.1.v4; have hdd : (V3.setCell ⟨w.heap.size + 1 + 1, 0, none⟩ (.int .i64 d)).heap[D]? = some (.deferred (some [])) := (Below.heap_setCell _ _ _ _ (fun e => by have e' : D = w.heap.size + 1 + 1 := e; omega)).trans J4.out.2.2.1.d; refine ⟨by simp, .inl ⟨_, _, rfl, run_takeDeferred hdd, ?_⟩⟩; have hl : (loadVar 25 ⟨w.heap.size + 1 + 1, 0, none⟩).run Tryz.prog ((V3.setCell ⟨w.heap.size + 1 + 1, 0, none⟩ (.int .i64 d)).putObj D (.deferred none)) = .ok (.int .i64 d) ((V3.setCell ⟨w.heap.size + 1 + 1, 0, none⟩ (.int .i64 d)).putObj D (.deferred none)) := load24 ((World.putObj_heap_other (by omega)).trans ((block_setCell J4.out.2.2.1.x2 _).trans rfl)); refine ⟨.int .i64 d, by simp [results, Tryz.results74, asAddr, hl], d, S2, L', rfl, ?_, ?_, ?_⟩
   · exact (J4.out.1.touch (w.heap.size + 1 + 1) J4.out.2.2.1.o2 (by omega) (fun b hb => Below.heap_setCell _ _ _ _ hb) (by simp)).put D J4.out.2.2.1.od (by omega) _
   · exact ((J4.out.2.1.set (x := w.heap.size + 1 + 1) (by omega) 0 _).put (by omega) _).to
   · exact Or.inr ⟨k, rs, by rw [← Hq.out.2.2.2.2.2.1]; exact J1.out.1.took, J1.out.1.absL, Or.inr ⟨by rw [← Hq.out.2.2.2.2.2.1]; exact hk, by rw [← Hq.out.2.2.2.2.2.1]; exact J1.out.2.1, J1.out.2.2, HDD.out, J4.out.2.2.2⟩⟩
 · refine Or.inr ⟨.ret, hj.loop, ?_⟩
   obtain ⟨re, hre⟩ : ∃ re : Loop, { r with state := .exhausted, pending := some .ret } = re := ⟨_, rfl⟩
   rw [hre]; have J1 : Hid (JJ w (W'.putObj (D + 1) (.loop re)) bd bl S S1 L ro n last (.slice va bs.length vc) bs D 34 re k rs L') := hj.put re; generalize W'.putObj (D + 1) (.loop re) = V at J1 ⊢; clear hj hre; refine wpIn_wide.2 ?_; go_wp2; rw [Exit.noGoto_ret]; refine ⟨by simp, .inl ⟨_, _, rfl, run_takeDeferred J1.out.lo.d, ?_⟩⟩; have hl : (loadVar 25 ⟨w.heap.size + 1 + 1, 0, none⟩).run Tryz.prog (V.putObj D (.deferred none)) = .ok (.int .i64 34) (V.putObj D (.deferred none)) := load24 ((World.putObj_heap_other (by have := J1.out.lo.xd; omega)).trans J1.out.lo.x2); refine ⟨.int .i64 34, by simp [results, Tryz.results74, asAddr, hl], 34, S1, L', rfl, J1.out.fin.1, J1.out.fin.2, ?_⟩; exact Or.inl ⟨rfl, Hq.out.2.2.1, k, rs, by rw [← Hq.out.2.2.2.2.2.1]; exact ⟨J1.out.took, hk, hne, hnl⟩⟩
end Go.Proofs.YtconkienlcegaaaGreatDoor
