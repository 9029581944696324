/- wal: load of a file whose number is not the next. -/
import Derived.Test.YtconkienlcegaaaGreatDoorGWN3
namespace Go.Proofs.YtconkienlcegaaaGreatDoor
open Go.RowKit Go.Maps Go.Joins Go.Shelf
set_option linter.unusedSimpArgs false
set_option linter.unusedVariables false
attribute [local go_sem] Oper.semAt_some
set_option maxRecDepth 100000 in
set_option maxHeartbeats 8000000 in
theorem load_gap {w : World} {bd bl : Nat} {S : DS} {L : LS} {ro : Int} (hI : LdIn w bd bl S L ro) (n : Int) (last : Bool) (he : (dRead (absD S) (fileB logB n)).1 = 0) (hfs : ¬ L.fs.length = 0) (hn : ¬ n = endL L) :
 Calls Tryz.prog 74 #[.pointer (some ⟨bl, 0, none⟩), .int .i64 n, .bool last] w fun e w' => ∃ S', e = .returned (.int .i64 34) ∧ DL w' bd bl S' L ro ∧ F3 w w' S L S' L ∧ absD S' = (dRead (absD S) (fileB logB n)).2 := by
 have HI : Hid (LdIn w bd bl S L ro) := hI; have HNE : Hid (¬ n = endL L) := hn; clear hI hn; have B0 : Hid (DL (((w.alloc (.cells #[.pointer (some ⟨bl, 0, none⟩)] 91)).alloc (.cells #[.bool last] 4)).alloc (.cells #[.int .i64 0] 25)) bd bl S L ro ∧ F3 w (((w.alloc (.cells #[.pointer (some ⟨bl, 0, none⟩)] 91)).alloc (.cells #[.bool last] 4)).alloc (.cells #[.int .i64 0] 25)) S L S L ∧ (((w.alloc (.cells #[.pointer (some ⟨bl, 0, none⟩)] 91)).alloc (.cells #[.bool last] 4)).alloc (.cells #[.int .i64 0] 25)).heap[w.heap.size]? = some (.cells #[.pointer (some ⟨bl, 0, none⟩)] 91) ∧ (((w.alloc (.cells #[.pointer (some ⟨bl, 0, none⟩)] 91)).alloc (.cells #[.bool last] 4)).alloc (.cells #[.int .i64 0] 25)).heap[w.heap.size + 1]? = some (.cells #[.bool last] 4) ∧ (((w.alloc (.cells #[.pointer (some ⟨bl, 0, none⟩)] 91)).alloc (.cells #[.bool last] 4)).alloc (.cells #[.int .i64 0] 25)).heap[w.heap.size + 2]? = some (.cells #[.int .i64 0] 25) ∧ (((w.alloc (.cells #[.pointer (some ⟨bl, 0, none⟩)] 91)).alloc (.cells #[.bool last] 4)).alloc (.cells #[.int .i64 0] 25)).heap.size = w.heap.size + 3) := by
  have hb : Below w.heap.size w (((w.alloc (.cells #[.pointer (some ⟨bl, 0, none⟩)] 91)).alloc (.cells #[.bool last] 4)).alloc (.cells #[.int .i64 0] 25)) := by go_grown
  refine ⟨HI.out.dl.below hb, F3.below hb, ?_, ?_, ?_, by simp⟩
  · rw [heap_alloc_old _ _ _ (by simp; omega), heap_alloc_old _ _ _ (by simp)]; exact heap_alloc_new _ _
  · rw [heap_alloc_old _ _ _ (by simp)]; have := heap_alloc_new (w.alloc (.cells #[.pointer (some ⟨bl, 0, none⟩)] 91)) (.cells #[.bool last] 4); simpa using this
  · have := heap_alloc_new ((w.alloc (.cells #[.pointer (some ⟨bl, 0, none⟩)] 91)).alloc (.cells #[.bool last] 4)) (.cells #[.int .i64 0] 25); simpa using this
 refine (callsIn_wide (n := 4)).1 ?_; refine callsIn_of_wp_marks Tryz.func74 rfl trivial ?_ rfl; simp only [Tryz.ntmps74, List.size_toArray, List.length_cons, List.length_nil, Nat.reduceAdd, Nat.reduceSub, Array.replicate_succ, Array.replicate_zero, List.push_toArray, List.append_toArray, List.nil_append, List.cons_append]; refine wpIn_wide.2 ?_; go_wp2; go_step3; go_wp2_with fail; generalize ((w.alloc (.cells #[.pointer (some ⟨bl, 0, none⟩)] 91)).alloc (.cells #[.bool last] 4)).alloc (.cells #[.int .i64 0] 25) = w0 at B0 ⊢; refine wp_noP ?_; refine wp_region_held_drew (S := fun w' => w'.heap[bl]? = some (.cells (lC L) 141) ∧ w'.heap[w.heap.size]? = some (.cells #[.pointer (some ⟨bl, 0, none⟩)] 91)) (by kernel_rfl) ⟨B0.out.1.log.log, B0.out.2.2.1⟩ (fun hHeld => ?_); refine wpAnyH_take (i := 0) (v := .pointer (some ⟨bl, 0, none⟩)) rfl (by kernel_rfl) (by kernel_rfl) (by kernel_rfl) (fun _ _ _ h => h) (Or.inl ⟨by rfl, fun w9 hSw => ?_⟩) hHeld ?_
 · have hc : w9.cell? ⟨w.heap.size, 0, none⟩ = some (.pointer (some ⟨bl, 0, none⟩)) := (cell_of_block hSw.2 0).trans rfl
   go_simp
 simp only [List.getElem_toArray, List.getElem_cons_succ, List.getElem_cons_zero, Act.put, List.setIfInBounds_toArray, List.set_cons_zero, List.set_cons_succ]; refine wpAnyH_take (i := 1) (v := .pointer (some ⟨bl, 0, none⟩)) rfl (by kernel_rfl) (by kernel_rfl) (by kernel_rfl) (fun _ _ _ h => h) (Or.inl ⟨by rfl, fun w9 hSw => ?_⟩) hHeld ?_
 · go_simp
 simp only [List.getElem_toArray, List.getElem_cons_succ, List.getElem_cons_zero, Act.put, List.setIfInBounds_toArray, List.set_cons_zero, List.set_cons_succ]; refine wpAnyH_take (i := 2) (v := .pointer (some ⟨bl, 0, none⟩)) rfl (by kernel_rfl) (by kernel_rfl) (by kernel_rfl) (fun _ _ _ h => h) (Or.inl ⟨by rfl, fun w9 hSw => ?_⟩) hHeld ?_
 · go_simp
 simp only [List.getElem_toArray, List.getElem_cons_succ, List.getElem_cons_zero, Act.put, List.setIfInBounds_toArray, List.set_cons_zero, List.set_cons_succ]; refine wpAnyH_take (i := 3) (v := .pointer (some ⟨bd, 0, none⟩)) rfl (by kernel_rfl) (by kernel_rfl) (by kernel_rfl) (fun _ _ _ h => h) (Or.inl ⟨by rfl, fun w9 hSw => ?_⟩) hHeld ?_
 · have hc : w9.cell? ⟨bl, 0, none⟩ = some (.pointer (some ⟨bd, 0, none⟩)) := (cell_of_block hSw.1 0).trans (by show some (Value.pointer (some ⟨L.bd, 0, none⟩)) = _; rw [HI.out.dl.bdq])
   go_simp
 simp only [List.getElem_toArray, List.getElem_cons_succ, List.getElem_cons_zero, Act.put, List.setIfInBounds_toArray, List.set_cons_zero, List.set_cons_succ]; refine wpAnyH_take (i := 4) (v := .pointer (some ⟨bl, 0, none⟩)) rfl (by kernel_rfl) (by kernel_rfl) (by kernel_rfl) (fun _ _ _ h => h) (Or.inl ⟨by rfl, fun w9 hSw => ?_⟩) hHeld ?_
 · have hc : w9.cell? ⟨w.heap.size, 0, none⟩ = some (.pointer (some ⟨bl, 0, none⟩)) := (cell_of_block hSw.2 0).trans rfl
   go_simp
 simp only [List.getElem_toArray, List.getElem_cons_succ, List.getElem_cons_zero, Act.put, List.setIfInBounds_toArray, List.set_cons_zero, List.set_cons_succ]; refine wpAnyH_take (i := 5) (v := .pointer (some ⟨bl, 0, none⟩)) rfl (by kernel_rfl) (by kernel_rfl) (by kernel_rfl) (fun _ _ _ h => h) (Or.inl ⟨by rfl, fun w9 hSw => ?_⟩) hHeld ?_
 · go_simp
 simp only [List.getElem_toArray, List.getElem_cons_succ, List.getElem_cons_zero, Act.put, List.setIfInBounds_toArray, List.set_cons_zero, List.set_cons_succ]; refine wpAnyH_take (i := 6) (v := .pointer (some ⟨bl, 1, none⟩)) rfl (by kernel_rfl) (by kernel_rfl) (by kernel_rfl) (fun _ _ _ h => h) (Or.inl ⟨by rfl, fun w9 hSw => ?_⟩) hHeld ?_
 · go_simp
 simp only [List.getElem_toArray, List.getElem_cons_succ, List.getElem_cons_zero, Act.put, List.setIfInBounds_toArray, List.set_cons_zero, List.set_cons_succ]; refine wpAnyH_take (i := 7) (v := .string logB) rfl (by kernel_rfl) (by kernel_rfl) (by kernel_rfl) (fun _ _ _ h => h) (Or.inl ⟨by rfl, fun w9 hSw => ?_⟩) hHeld ?_
 · have hc : w9.cell? ⟨bl, 1, none⟩ = some (.string logB) := (cell_of_block hSw.1 1).trans (by show some (Value.string L.nm) = _; rw [HI.out.nm])
   go_simp
 simp only [List.getElem_toArray, List.getElem_cons_succ, List.getElem_cons_zero, Act.put, List.setIfInBounds_toArray, List.set_cons_zero, List.set_cons_succ]; refine wpAnyH_take (i := 8) (v := .int .i64 n) rfl (by kernel_rfl) (by kernel_rfl) (by kernel_rfl) (fun _ _ _ h => h) (Or.inl ⟨by rfl, fun w9 hSw => ?_⟩) hHeld ?_
 · go_simp
 simp only [List.getElem_toArray, List.getElem_cons_succ, List.getElem_cons_zero, Act.put, List.setIfInBounds_toArray, List.set_cons_zero, List.set_cons_succ]; refine wpAnyH_ready (rs := [9]) (by kernel_rfl) (by simp) ?_; refine AllReadyH.cons rfl (fun K hK => ?_) AllReadyH.nil; have H1 : DL w0.drew bd bl S L ro ∧ F3 w w0.drew S L S L ∧ w0.drew.heap.size = w.heap.size + 3 := ⟨B0.out.1.below ⟨rfl, rfl, rfl, Nat.le_refl _, fun _ _ => rfl⟩, B0.out.2.1.trans (F3.below ⟨rfl, rfl, rfl, Nat.le_refl _, fun _ _ => rfl⟩), B0.out.2.2.2.2.2⟩
 have H1b : Below w0.heap.size w0 w0.drew := ⟨rfl, rfl, rfl, Nat.le_refl _, fun _ _ => rfl⟩
 generalize w0.drew = w1 at hHeld H1 H1b ⊢; go_simp; refine Calls.mono (file_any H1.1.vars logB (by decide) n) ?_; rintro e w2 ⟨rfl, hb2⟩; have H2 : DL w2 bd bl S L ro ∧ F3 w w2 S L S L ∧ w.heap.size + 3 ≤ w2.heap.size ∧ Below w0.heap.size w0 w2 := ⟨H1.1.below hb2, H1.2.1.trans (F3.below hb2), by have := hb2.size; have := H1.2.2; omega, H1b.trans (hb2.mono H1b.size)⟩
 have hH2 : w2.heap[bl]? = some (.cells (lC L) 141) ∧ w2.heap[w.heap.size]? = some (.cells #[.pointer (some ⟨bl, 0, none⟩)] 91) := ⟨H2.1.log.log, (H2.2.2.2.block w.heap.size (by have := B0.out.2.2.2.2.2; omega)).trans B0.out.2.2.1⟩
 clear H1 H1b hHeld hb2; go_wp2_with fail; refine hK.out _ _ hH2 (fun hHeld => ?_); clear hK K; try simp only [List.getElem_toArray, List.getElem_cons_succ, List.getElem_cons_zero, Act.put, List.setIfInBounds_toArray, List.set_cons_zero, List.set_cons_succ]
 refine wpAnyH_ready (rs := [10]) (by kernel_rfl) (by simp) ?_; refine AllReadyH.cons rfl (fun K hK => ?_) AllReadyH.nil; go_simp; refine Calls.mono (g_read2 H2.1.disk H2.1.gb (fileB logB n) (by have := fileB_size n; omega)) ?_; rintro e w3 ⟨v, bs, rfl, ho, hbs, hvb, S1, hD, hF, hG, hro⟩; rw [dRead_bytes] at hbs; have hG' : GS S S1 (stepS S [fileB logB n]).down (stepS S [fileB logB n]).steps (gL (stepE S [fileB logB n]) (absP S) (absP S)) := by unfold gL; rw [ite_self]; exact hG
 obtain ⟨K1, K2⟩ := H2.1.disked hD hF (H2.1.gb.next (e := eFind (absP S) (fileB logB n)) hG' H2.1.gb.wf (by have := HI.out.st; omega)); have hA := gs_abs (e := eFind (absP S) (fileB logB n)) hG'; obtain ⟨va, vc, hvf⟩ := row_form ho; have hcap : bs.length ≤ vc ∧ vc ≤ 9223372036854775807 := by
  rcases ho.2 with ⟨e1, e2⟩ | ⟨g, cap, cur, e1, _, _, h1, h2, _⟩
  · rw [hvf] at e1; injection e1 with _ _ e3; omega
  · rw [hvf] at e1; injection e1 with _ _ e3; unfold maxLen at h2; omega
 subst hvf; have hoff : ∀ b, dBlock (.slice va bs.length vc) bs = some b → b < w3.heap.size ∧ S1.role b = .none ∧ L.own b = 0 ∧ w.heap.size + 2 < b := fun b hb => by
  obtain ⟨r1, r2⟩ := hvb b (dBlock_own hb); exact ⟨(ho.lt b (dBlock_own hb)).2, by rw [hro]; exact r2, H2.1.log.fresh b r1, by have := H2.2.2.1; omega⟩
 have hX : ∀ b, w.heap.size ≤ b → b < w.heap.size + 3 → w3.heap[b]? = w0.heap[b]? ∧ S1.role b = .none ∧ L.own b = 0 := fun b h1 h2 => by
  have h3 : S.role b = .none := HI.out.dl.disk.fresh b h1; have h4 : L.own b = 0 := HI.out.dl.log.fresh b h1; have h5 := H2.2.2.1; have h6 := B0.out.2.2.2.2.2; exact ⟨(K2.block b (by omega) h3 h4).trans (H2.2.2.2.block b (by omega)), (K2.off b (by omega) h3 h4).1, h4⟩
 have H3 : Hid (DL w3 bd bl S1 L ro ∧ F3 w w3 S L S1 L ∧ absD S1 = (dRead (absD S) (fileB logB n)).2 ∧ BytesV w3 (.slice va bs.length vc) bs ∧ bs = dBytes (absD S) (fileB logB n) ∧ (bs.length ≤ vc ∧ vc ≤ 9223372036854775807) ∧ (∀ b, dBlock (.slice va bs.length vc) bs = some b → b < w3.heap.size ∧ S1.role b = .none ∧ L.own b = 0 ∧ w.heap.size + 2 < b) ∧ (∀ b, w.heap.size ≤ b → b < w.heap.size + 3 → w3.heap[b]? = w0.heap[b]? ∧ S1.role b = .none ∧ L.own b = 0) ∧ w.heap.size + 3 ≤ w3.heap.size) := ⟨K1, H2.2.1.trans K2, hA, BytesV.of_own ho, hbs, hcap, hoff, hX, by have := K2.size; have := H2.2.2.1; omega⟩
 have hH3 : w3.heap[bl]? = some (.cells (lC L) 141) ∧ w3.heap[w.heap.size]? = some (.cells #[.pointer (some ⟨bl, 0, none⟩)] 91) := ⟨K1.log.log, (hX w.heap.size (Nat.le_refl _) (by omega)).1.trans B0.out.2.2.1⟩
 obtain ⟨c, hc⟩ : ∃ c, c = (dRead (absD S) (fileB logB n)).1 := ⟨_, rfl⟩
 have HC : Hid (c = (dRead (absD S) (fileB logB n)).1) := hc; rw [gI_abs S (fileB logB n) (eFind (absP S) (fileB logB n)) (absP S), show (dDo (absD S) (fileB logB n) (eFind (absP S) (fileB logB n)) (absP S)).1 = c from hc.symm]; have hx2 : w3.heap[w.heap.size + 2]? = some (.cells #[.int .i64 0] 25) := (hX (w.heap.size + 2) (by omega) (by omega)).1.trans B0.out.2.2.2.2.1; have hx1 : w3.heap[w.heap.size + 1]? = some (.cells #[.bool last] 4) := (hX (w.heap.size + 1) (by omega) (by omega)).1.trans B0.out.2.2.2.1; clear H2 hHeld hH2 hD hF hG hG' K1 K2 hA hc ho hbs hvb hro hcap hoff hX; go_wp2_with fail; refine hK.out _ _ hH3 (fun hHeld => ?_); clear hK K; try simp only [List.getElem_toArray, List.getElem_cons_succ, List.getElem_cons_zero, Act.put, List.setIfInBounds_toArray, List.set_cons_zero, List.set_cons_succ]
 refine wpAnyH_take (i := 11) (v := .tuple #[.slice va bs.length vc, .int .i64 c]) rfl (by kernel_rfl) (by kernel_rfl) (by kernel_rfl) (fun _ _ _ h => h) (Or.inl ⟨by rfl, fun w9 hSw => ?_⟩) hHeld ?_
 · go_simp
 simp only [List.getElem_toArray, List.getElem_cons_succ, List.getElem_cons_zero, Act.put, List.setIfInBounds_toArray, List.set_cons_zero, List.set_cons_succ]; refine wpAnyH_take (i := 12) (v := .slice va bs.length vc) rfl (by kernel_rfl) (by kernel_rfl) (by kernel_rfl) (fun _ _ _ h => h) (Or.inl ⟨by rfl, fun w9 hSw => ?_⟩) hHeld ?_
 · go_simp
 simp only [List.getElem_toArray, List.getElem_cons_succ, List.getElem_cons_zero, Act.put, List.setIfInBounds_toArray, List.set_cons_zero, List.set_cons_succ]; refine wpAnyH_take (i := 13) (v := .int .i64 c) rfl (by kernel_rfl) (by kernel_rfl) (by kernel_rfl) (fun _ _ _ h => h) (Or.inl ⟨by rfl, fun w9 hSw => ?_⟩) hHeld ?_
 · go_simp
 simp only [List.getElem_toArray, List.getElem_cons_succ, List.getElem_cons_zero, Act.put, List.setIfInBounds_toArray, List.set_cons_zero, List.set_cons_succ]; refine wpAnyH_take (i := 14) (v := .slice va bs.length vc) rfl (by kernel_rfl) (by kernel_rfl) (by kernel_rfl) (fun _ _ _ h => h) (Or.inl ⟨by rfl, fun w9 hSw => ?_⟩) hHeld ?_
 · go_simp
 simp only [List.getElem_toArray, List.getElem_cons_succ, List.getElem_cons_zero, Act.put, List.setIfInBounds_toArray, List.set_cons_zero, List.set_cons_succ]; refine wpAnyH_take (i := 15) (v := .int .i64 c) rfl (by kernel_rfl) (by kernel_rfl) (by kernel_rfl) (fun _ _ _ h => h) (Or.inl ⟨by rfl, fun w9 hSw => ?_⟩) hHeld ?_
 · go_simp
 simp only [List.getElem_toArray, List.getElem_cons_succ, List.getElem_cons_zero, Act.put, List.setIfInBounds_toArray, List.set_cons_zero, List.set_cons_succ]; refine wpAnyH_done (by kernel_rfl) ?_ _; simp only [noP]; have hc1 : (c == 0) = true := by rw [HC.out]; simpa using he
 have d2 : w3.cell? ⟨w.heap.size + 2, 0, none⟩ = some (.int .i64 0) := by rw [cell_of_block hx2]; rfl
 have f2 : w3.frozen? ⟨w.heap.size + 2, 0, none⟩ = false := unfrozen_of_block hx2 0; have d0 : w3.cell? ⟨w.heap.size, 0, none⟩ = some (.pointer (some ⟨bl, 0, none⟩)) := by rw [cell_of_block hHeld.2]; rfl
 obtain ⟨fa, fc, hfv⟩ := row_form H3.out.1.log.files; have d3 : w3.cell? ⟨bl, 3, none⟩ = some (.slice fa L.fs.length fc) := by rw [cell_of_block hHeld.1]; show some L.fv = _; rw [hfv]
 clear hfv; have HQA : DL w3 bd bl S1 L ro ∧ F3 w w3 S L S1 L ∧ absD S1 = (dRead (absD S) (fileB logB n)).2 ∧ BytesV w3 (.slice va bs.length vc) bs ∧ (w3.heap[w.heap.size]? = some (.cells #[.pointer (some ⟨bl, 0, none⟩)] 91) ∧ w3.heap[w.heap.size + 1]? = some (.cells #[.bool last] 4) ∧ w3.heap[w.heap.size + 2]? = some (.cells #[.int .i64 0] 25)) ∧ bs = (dBytes (absD S) (fileB logB n)) ∧ (bs.length ≤ vc ∧ vc ≤ 9223372036854775807) ∧ (∀ b, dBlock (.slice va bs.length vc) bs = some b → b < w3.heap.size ∧ S1.role b = .none ∧ L.own b = 0 ∧ w.heap.size + 2 < b) ∧ (∀ b, w.heap.size ≤ b → b < w.heap.size + 3 → S1.role b = .none ∧ L.own b = 0) ∧ w.heap.size + 3 ≤ w3.heap.size := ⟨H3.out.1, H3.out.2.1, H3.out.2.2.1, H3.out.2.2.2.1, ⟨(H3.out.2.2.2.2.2.2.2.1 w.heap.size (by omega) (by omega)).1.trans B0.out.2.2.1, hx1, hx2⟩, H3.out.2.2.2.2.1, H3.out.2.2.2.2.2.1, H3.out.2.2.2.2.2.2.1, fun b h1 h2 => (H3.out.2.2.2.2.2.2.2.1 b h1 h2).2, H3.out.2.2.2.2.2.2.2.2⟩
 have hl0 : (0 : Int) < L.fs.length := by omega
 obtain ⟨E, hE⟩ : ∃ E, E = endL L := ⟨_, rfl⟩
 have hn2 : (n != E) = true := by rw [hE]; simpa using HNE.out
 have HE : Hid (E = endL L) := hE; have HQ3 : Hid (w3.heap[w.heap.size + 2]? = some (.cells #[.int .i64 0] 25)) := hx2; have HF2 : Hid (w3.frozen? ⟨w.heap.size + 2, 0, none⟩ = false) := f2; clear HQA hE hHeld hx1 hx2 hH3; go_wp2_with (first
  | (go_at_call 42
     refine Calls.mono (end_any H3.out.1.log HI.out.ln) ?_; rintro e wq ⟨rfl, hm⟩; rw [← HE.out]; have Hq : Hid (DL wq bd bl S1 L ro ∧ F3 w wq S L S1 L ∧ wq.heap[w.heap.size + 2]? = some (.cells #[.int .i64 0] 25)) := (by
      obtain ⟨m, rfl⟩ := hm; have hb := below_drewN' w3 m; exact ⟨H3.out.1.below hb, H3.out.2.1.trans (F3.below hb), HQ3.out⟩)
     clear hm d0 d2 f2; have d2 : wq.cell? ⟨w.heap.size + 2, 0, none⟩ = some (.int .i64 0) := by rw [cell_of_block Hq.out.2.2]; rfl
     have f2 : wq.frozen? ⟨w.heap.size + 2, 0, none⟩ = false := unfrozen_of_block Hq.out.2.2 0))
 rw [Exit.noGoto_ret]; have hl : (loadVar 25 ⟨w.heap.size + 2, 0, none⟩).run Tryz.prog (wq.setCell ⟨w.heap.size + 2, 0, none⟩ (.int .i64 34)) = .ok (.int .i64 34) (wq.setCell ⟨w.heap.size + 2, 0, none⟩ (.int .i64 34)) := load24 ((block_setCell Hq.out.2.2 _).trans rfl); refine ⟨.int .i64 34, by simp [results, Tryz.results74, asAddr, hl], S1, rfl, ?_, ?_, H3.out.2.2.1⟩
 · exact Hq.out.1.touch (w.heap.size + 2) (H3.out.2.2.2.2.2.2.2.1 (w.heap.size + 2) (by omega) (by omega)).2 (by have := HI.out.dl.vars.lt; omega) (fun b hb => Below.heap_setCell _ _ _ _ hb) (by simp)
 · exact (Hq.out.2.1.fb.set (by omega) 0 _).to
end Go.Proofs.YtconkienlcegaaaGreatDoor
