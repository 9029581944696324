/- WN1, WN2, WN3 -/
import Derived.Test.YtconkienlcegaaaGreatDoorGWN0
import Derived.WalkMore
namespace Go.Proofs.YtconkienlcegaaaGreatDoor
open Go.RowKit Go.Maps Go.Joins Go.Shelf
set_option linter.unusedSimpArgs false
set_option linter.unusedVariables false
/-- Read -/
theorem g_read2 {w : World} {bd : Nat} {S : DS} {room : Int} (h : DiskIs w bd S) (hb : GB S room) (s : ByteArray) (hs : s.size ≤ 9223372036854775807) :
 Calls Tryz.prog 106 #[.pointer (some ⟨bd, 0, none⟩), .string s] w fun e w' => ∃ v bs, e = .returned (.tuple #[v, .int .i64 (gI (stepE S [s]) (eFind (absP S) s))]) ∧ w'.ownsRow 0 5 1 v bs.length (vB bs) ∧ bs = (if stepE S [s] = 0 then (match fT (absP S) (nb s) with | some p => p.2.1 | none => []) else []) ∧ (∀ b, v.ownBlock = some b → w.heap.size ≤ b ∧ S.role b = .none) ∧ ∃ S', DiskIs w' bd S' ∧ Fr w w' S S' ∧ GS S S' (stepS S [s]).down (stepS S [s]).steps (absP S) ∧ S'.role = S.role := by
 by_cases h1 : stepE S [s] = 0
 case neg =>
  rw [gI1 h1]; have hf : findV S [s] = none := by simp [findV, h1]
  refine (read_no h hb.cnt s hs hf).mono ?_; rintro e w' ⟨rfl, hD, hF⟩; exact ⟨_, [], by simp [findE, h1], World.ownsRow_nil _ _ _ _, by rw [if_neg h1], fun b hb => (by cases hb), _, hD, hF, GS.st S _, (stepS_fields S [s]).2.2.2.2⟩
 case pos =>
  have hn : nameB s = true := by rw [← okN1]; exact st_name h1
  have h2 := st_zero h1; rw [gI0 h1, h2]; have hv : findV S [s] = look S.fs (nb s) := findV1 h1; cases hl : look S.fs (nb s) with
  | none =>
    rw [hl] at hv; refine (read_no h hb.cnt s hs hv).mono ?_; rintro e w' ⟨rfl, hD, hF⟩; rw [h2] at hD hF; exact ⟨_, [], by simp [findE, h1, hv, eFind, hn, fT_none hl], World.ownsRow_nil _ _ _ _, by rw [if_pos h1, fT_none hl], fun b hb => (by cases hb), _, hD, hF, GS.up S, rfl⟩
  | some g =>
    rw [hl] at hv; have hlen : (S.fl (nb s)).bs.length ≤ 1073741824 := by
     have h3 := (del_here (p := ((nb s, (S.fl (nb s)).bs, (S.fl (nb s)).safe) : Tf)) rfl (fT_mem (fT_some hl)).1).2; have h4 := hb.wf.sum; have h5 := hb.r0; simp only at h3; omega
    refine (read_ok h hb.cnt s hs hv (by rw [h2]; show (S.fl (nb s)).bs.length ≤ _; omega)).mono ?_; rintro e w' ⟨v', rfl, ho, hvb, hD, hF⟩; rw [h2] at ho hD hF; exact ⟨v', (S.fl (nb s)).bs, by simp [eFind, hn, fT_some hl], ho, by rw [if_pos h1, fT_some hl], hvb, _, hD, hF, GS.up S, rfl⟩
theorem dRead_bytes (S : DS) (s : ByteArray) : (if stepE S [s] = 0 then (match fT (absP S) (nb s) with | some p => p.2.1 | none => []) else []) = dBytes (absD S) s := by
 unfold dBytes; rw [stepE_abs]; rfl
theorem load24 {W : World} {x : Nat} {c : Int} (h : W.heap[x]? = some (.cells #[.int .i64 c] 25)) : (loadVar 25 ⟨x, 0, none⟩).run Tryz.prog W = .ok (.int .i64 c) W := by
 have hc : W.cell? ⟨x, 0, none⟩ = some (.int .i64 c) := by rw [cell_of_block h]; rfl
 go_simp
/-- No panic comes. -/
def noP (Q : Exit → Act → World → Prop) : Exit → Act → World → Prop
 | .panic _, _, _ => False
 | e, a, w => Q e a w
theorem wp_noP {P : Program} {c : Code} {Q : Exit → Act → World → Prop} {a : Act} {w : World} (h : c.wp P (noP Q) a w) : c.wp P Q a w := by
 refine wp_mono h ?_; intro e a w hq; cases e <;> first | exact hq | exact hq.elim
/-- What load is given. -/
structure LdIn (w : World) (bd bl : Nat) (S : DS) (L : LS) (ro : Int) : Prop where
 dl : DL w bd bl S L ro
 nm : L.nm = logB
 ln : LN L
 fl : L.fs.length ≤ 1000
 rsl : L.rs.length ≤ 1000000000000
 st : S.steps < 4611686018427387900
set_option maxRecDepth 100000 in
set_option maxHeartbeats 8000000 in
theorem load_err {w : World} {bd bl : Nat} {S : DS} {L : LS} {ro : Int} (hI : LdIn w bd bl S L ro) (n : Int) (last : Bool) (he : ¬ (dRead (absD S) (fileB logB n)).1 = 0) :
 Calls Tryz.prog 74 #[.pointer (some ⟨bl, 0, none⟩), .int .i64 n, .bool last] w fun e w' => ∃ c S' L', e = .returned (.int .i64 c) ∧ DL w' bd bl S' L' ro ∧ F3 w w' S L S' L' ∧ c = (dRead (absD S) (fileB logB n)).1 ∧ absD S' = (dRead (absD S) (fileB logB n)).2 := by
 have HI : Hid (LdIn w bd bl S L ro) := hI; clear hI; have B0 : Hid (DL (((w.alloc (.cells #[.pointer (some ⟨bl, 0, none⟩)] 91)).alloc (.cells #[.bool last] 4)).alloc (.cells #[.int .i64 0] 25)) bd bl S L ro ∧ F3 w (((w.alloc (.cells #[.pointer (some ⟨bl, 0, none⟩)] 91)).alloc (.cells #[.bool last] 4)).alloc (.cells #[.int .i64 0] 25)) S L S L ∧ (((w.alloc (.cells #[.pointer (some ⟨bl, 0, none⟩)] 91)).alloc (.cells #[.bool last] 4)).alloc (.cells #[.int .i64 0] 25)).heap[w.heap.size]? = some (.cells #[.pointer (some ⟨bl, 0, none⟩)] 91) ∧ (((w.alloc (.cells #[.pointer (some ⟨bl, 0, none⟩)] 91)).alloc (.cells #[.bool last] 4)).alloc (.cells #[.int .i64 0] 25)).heap[w.heap.size + 1]? = some (.cells #[.bool last] 4) ∧ (((w.alloc (.cells #[.pointer (some ⟨bl, 0, none⟩)] 91)).alloc (.cells #[.bool last] 4)).alloc (.cells #[.int .i64 0] 25)).heap[w.heap.size + 2]? = some (.cells #[.int .i64 0] 25) ∧ (((w.alloc (.cells #[.pointer (some ⟨bl, 0, none⟩)] 91)).alloc (.cells #[.bool last] 4)).alloc (.cells #[.int .i64 0] 25)).heap.size = w.heap.size + 3) := by
  have hb : Below w.heap.size w (((w.alloc (.cells #[.pointer (some ⟨bl, 0, none⟩)] 91)).alloc (.cells #[.bool last] 4)).alloc (.cells #[.int .i64 0] 25)) := by go_grown
  refine ⟨HI.out.dl.below hb, F3.below hb, ?_, ?_, ?_, by simp⟩
  · rw [heap_alloc_old _ _ _ (by simp; omega), heap_alloc_old _ _ _ (by simp)]; exact heap_alloc_new _ _
  · rw [heap_alloc_old _ _ _ (by simp)]; have := heap_alloc_new (w.alloc (.cells #[.pointer (some ⟨bl, 0, none⟩)] 91)) (.cells #[.bool last] 4); simpa using this
  · have := heap_alloc_new ((w.alloc (.cells #[.pointer (some ⟨bl, 0, none⟩)] 91)).alloc (.cells #[.bool last] 4)) (.cells #[.int .i64 0] 25); simpa using this
 refine (callsIn_wide (n := 4)).1 ?_; refine callsIn_of_wp_marks Tryz.func74 rfl trivial ?_ rfl; simp only [Tryz.ntmps74, List.size_toArray, List.length_cons, List.length_nil, Nat.reduceAdd, Nat.reduceSub, Array.replicate_succ, Array.replicate_zero, List.push_toArray, List.append_toArray, List.nil_append, List.cons_append]; refine wpIn_wide.2 ?_; go_wp2; go_step3; go_wp2_with fail; generalize ((w.alloc (.cells #[.pointer (some ⟨bl, 0, none⟩)] 91)).alloc (.cells #[.bool last] 4)).alloc (.cells #[.int .i64 0] 25) = w0 at B0 ⊢; refine wp_noP ?_; refine wp_region_held_drew (S := fun w' => w'.heap[bl]? = some (.cells (lC L) 141) ∧ w'.heap[w.heap.size]? = some (.cells #[.pointer (some ⟨bl, 0, none⟩)] 91)) (by kernel_rfl) ⟨B0.out.1.log.log, B0.out.2.2.1⟩ (fun hHeld => ?_); refine wpAnyH_take (i := 0) (v := .pointer (some ⟨bl, 0, none⟩)) rfl (by kernel_rfl) (by kernel_rfl) (by kernel_rfl) (fun _ _ _ h => h) (Or.inl ⟨by rfl, fun w9 hSw => ?_⟩) hHeld ?_
 · have hc : w9.cell? ⟨w.heap.size, 0, none⟩ = some (.pointer (some ⟨bl, 0, none⟩)) := (cell_of_block hSw.2 0).trans rfl
   go_simp
 simp only [List.getElem_toArray, List.getElem_cons_succ, List.getElem_cons_zero, Act.put, List.setIfInBounds_toArray, List.set_cons_zero, List.set_cons_succ]; refine wpAnyH_take (i := 1) (v := .pointer (some ⟨bl, 0, none⟩)) rfl (by kernel_rfl) (by kernel_rfl) (by kernel_rfl) (fun _ _ _ h => h) (Or.inl ⟨by rfl, fun w9 hSw => ?_⟩) hHeld ?_
 · go_simp
 simp only [List.getElem_toArray, List.getElem_cons_succ, List.getElem_cons_zero, Act.put, List.setIfInBounds_toArray, List.set_cons_zero, List.set_cons_succ]; refine wpAnyH_take (i := 2) (v := .pointer (some ⟨bl, 0, none⟩)) rfl (by kernel_rfl) (by kernel_rfl) (by kernel_rfl) (fun _ _ _ h => h) (Or.inl ⟨by rfl, fun w9 hSw => ?_⟩) hHeld ?_
 · go_simp
 simp only [List.getElem_toArray, List.getElem_cons_succ, List.getElem_cons_zero, Act.put, List.setIfInBounds_toArray, List.set_cons_zero, List.set_cons_succ]; refine wpAnyH_take (i := 3) (v := .pointer (some ⟨bd, 0, none⟩)) rfl (by kernel_rfl) (by kernel_rfl) (by kernel_rfl) (fun _ _ _ h => h) (Or.inl ⟨by rfl, fun w9 hSw => ?_⟩) hHeld ?_
 · have hc : w9.cell? ⟨bl, 0, none⟩ = some (.pointer (some ⟨bd, 0, none⟩)) := (cell_of_block hSw.1 0).trans (by show some (Value.pointer (some ⟨L.bd, 0, none⟩)) = _; rw [HI.out.dl.bdq])
   go_simp
 simp only [List.getElem_toArray, List.getElem_cons_succ, List.getElem_cons_zero, Act.put, List.setIfInBounds_toArray, List.set_cons_zero, List.set_cons_succ]; refine wpAnyH_take (i := 4) (v := .pointer (some ⟨bl, 0, none⟩)) rfl (by kernel_rfl) (by kernel_rfl) (by kernel_rfl) (fun _ _ _ h => h) (Or.inl ⟨by rfl, fun w9 hSw => ?_⟩) hHeld ?_
 · have hc : w9.cell? ⟨w.heap.size, 0, none⟩ = some (.pointer (some ⟨bl, 0, none⟩)) := (cell_of_block hSw.2 0).trans rfl
   go_simp
 simp only [List.getElem_toArray, List.getElem_cons_succ, List.getElem_cons_zero, Act.put, List.setIfInBounds_toArray, List.set_cons_zero, List.set_cons_succ]; refine wpAnyH_take (i := 5) (v := .pointer (some ⟨bl, 0, none⟩)) rfl (by kernel_rfl) (by kernel_rfl) (by kernel_rfl) (fun _ _ _ h => h) (Or.inl ⟨by rfl, fun w9 hSw => ?_⟩) hHeld ?_
 · go_simp
 simp only [List.getElem_toArray, List.getElem_cons_succ, List.getElem_cons_zero, Act.put, List.setIfInBounds_toArray, List.set_cons_zero, List.set_cons_succ]; refine wpAnyH_take (i := 6) (v := .pointer (some ⟨bl, 1, none⟩)) rfl (by kernel_rfl) (by kernel_rfl) (by kernel_rfl) (fun _ _ _ h => h) (Or.inl ⟨by rfl, fun w9 hSw => ?_⟩) hHeld ?_
 · go_simp
 simp only [List.getElem_toArray, List.getElem_cons_succ, List.getElem_cons_zero, Act.put, List.setIfInBounds_toArray, List.set_cons_zero, List.set_cons_succ]; refine wpAnyH_take (i := 7) (v := .string logB) rfl (by kernel_rfl) (by kernel_rfl) (by kernel_rfl) (fun _ _ _ h => h) (Or.inl ⟨by rfl, fun w9 hSw => ?_⟩) hHeld ?_
 · have hc : w9.cell? ⟨bl, 1, none⟩ = some (.string logB) := (cell_of_block hSw.1 1).trans (by show some (Value.string L.nm) = _; rw [HI.out.nm])
   go_simp
 simp only [List.getElem_toArray, List.getElem_cons_succ, List.getElem_cons_zero, Act.put, List.setIfInBounds_toArray, List.set_cons_zero, List.set_cons_succ]; refine wpAnyH_take (i := 8) (v := .int .i64 n) rfl (by kernel_rfl) (by kernel_rfl) (by kernel_rfl) (fun _ _ _ h => h) (Or.inl ⟨by rfl, fun w9 hSw => ?_⟩) hHeld ?_
 · go_simp
 simp only [List.getElem_toArray, List.getElem_cons_succ, List.getElem_cons_zero, Act.put, List.setIfInBounds_toArray, List.set_cons_zero, List.set_cons_succ]; refine wpAnyH_ready (rs := [9]) (by kernel_rfl) (by simp) ?_; refine AllReadyH.cons rfl (fun K hK => ?_) AllReadyH.nil; have H1 : DL w0.drew bd bl S L ro ∧ F3 w w0.drew S L S L ∧ w0.drew.heap.size = w.heap.size + 3 := ⟨B0.out.1.below ⟨rfl, rfl, rfl, Nat.le_refl _, fun _ _ => rfl⟩, B0.out.2.1.trans (F3.below ⟨rfl, rfl, rfl, Nat.le_refl _, fun _ _ => rfl⟩), B0.out.2.2.2.2.2⟩
 have H1b : Below w0.heap.size w0 w0.drew := ⟨rfl, rfl, rfl, Nat.le_refl _, fun _ _ => rfl⟩
 generalize w0.drew = w1 at hHeld H1 H1b ⊢; go_simp; refine Calls.mono (file_any H1.1.vars logB (by decide) n) ?_; rintro e w2 ⟨rfl, hb2⟩; have H2 : DL w2 bd bl S L ro ∧ F3 w w2 S L S L ∧ w.heap.size + 3 ≤ w2.heap.size ∧ Below w0.heap.size w0 w2 := ⟨H1.1.below hb2, H1.2.1.trans (F3.below hb2), by have := hb2.size; have := H1.2.2; omega, H1b.trans (hb2.mono H1b.size)⟩
 have hH2 : w2.heap[bl]? = some (.cells (lC L) 141) ∧ w2.heap[w.heap.size]? = some (.cells #[.pointer (some ⟨bl, 0, none⟩)] 91) := ⟨H2.1.log.log, (H2.2.2.2.block w.heap.size (by have := B0.out.2.2.2.2.2; omega)).trans B0.out.2.2.1⟩
 clear H1 H1b hHeld hb2; go_wp2_with fail; refine hK.out _ _ hH2 (fun hHeld => ?_); clear hK K; try simp only [List.getElem_toArray, List.getElem_cons_succ, List.getElem_cons_zero, Act.put, List.setIfInBounds_toArray, List.set_cons_zero, List.set_cons_succ]
 refine wpAnyH_ready (rs := [10]) (by kernel_rfl) (by simp) ?_; refine AllReadyH.cons rfl (fun K hK => ?_) AllReadyH.nil; go_simp; refine Calls.mono (g_read2 H2.1.disk H2.1.gb (fileB logB n) (by have := fileB_size n; omega)) ?_; rintro e w3 ⟨v, bs, rfl, ho, hbs, hvb, S1, hD, hF, hG, hro⟩; rw [dRead_bytes] at hbs; have hG' : GS S S1 (stepS S [fileB logB n]).down (stepS S [fileB logB n]).steps (gL (stepE S [fileB logB n]) (absP S) (absP S)) := by unfold gL; rw [ite_self]; exact hG
 obtain ⟨K1, K2⟩ := H2.1.disked hD hF (H2.1.gb.next (e := eFind (absP S) (fileB logB n)) hG' H2.1.gb.wf (by have := HI.out.st; omega)); have hA := gs_abs (e := eFind (absP S) (fileB logB n)) hG'; obtain ⟨va, vc, hvf⟩ := row_form ho; have hcap : bs.length ≤ vc ∧ vc ≤ 9223372036854775807 := by
  rcases ho.2 with ⟨e1, e2⟩ | ⟨g, cap, cur, e1, _, _, h1, h2, _⟩
  · rw [hvf] at e1; injection e1 with _ _ e3; omega
  · rw [hvf] at e1; injection e1 with _ _ e3; unfold maxLen at h2; omega
 subst hvf; have hoff : ∀ b, dBlock (.slice va bs.length vc) bs = some b → b < w3.heap.size ∧ S1.role b = .none ∧ L.own b = 0 ∧ w.heap.size + 2 < b := fun b hb => by
  obtain ⟨r1, r2⟩ := hvb b (dBlock_own hb); exact ⟨(ho.lt b (dBlock_own hb)).2, by rw [hro]; exact r2, H2.1.log.fresh b r1, by have := H2.2.2.1; omega⟩
 have hX : ∀ b, w.heap.size ≤ b → b < w.heap.size + 3 → w3.heap[b]? = w0.heap[b]? ∧ S1.role b = .none ∧ L.own b = 0 := fun b h1 h2 => by
  have h3 : S.role b = .none := HI.out.dl.disk.fresh b h1; have h4 : L.own b = 0 := HI.out.dl.log.fresh b h1; have h5 := H2.2.2.1; have h6 := B0.out.2.2.2.2.2; exact ⟨(K2.block b (by omega) h3 h4).trans (H2.2.2.2.block b (by omega)), (K2.off b (by omega) h3 h4).1, h4⟩
 have H3 : Hid (DL w3 bd bl S1 L ro ∧ F3 w w3 S L S1 L ∧ absD S1 = (dRead (absD S) (fileB logB n)).2 ∧ BytesV w3 (.slice va bs.length vc) bs ∧ bs = dBytes (absD S) (fileB logB n) ∧ (bs.length ≤ vc ∧ vc ≤ 9223372036854775807) ∧ (∀ b, dBlock (.slice va bs.length vc) bs = some b → b < w3.heap.size ∧ S1.role b = .none ∧ L.own b = 0 ∧ w.heap.size + 2 < b) ∧ (∀ b, w.heap.size ≤ b → b < w.heap.size + 3 → w3.heap[b]? = w0.heap[b]? ∧ S1.role b = .none ∧ L.own b = 0) ∧ w.heap.size + 3 ≤ w3.heap.size) := ⟨K1, H2.2.1.trans K2, hA, BytesV.of_own ho, hbs, hcap, hoff, hX, by have := K2.size; have := H2.2.2.1; omega⟩
 have hH3 : w3.heap[bl]? = some (.cells (lC L) 141) ∧ w3.heap[w.heap.size]? = some (.cells #[.pointer (some ⟨bl, 0, none⟩)] 91) := ⟨K1.log.log, (hX w.heap.size (Nat.le_refl _) (by omega)).1.trans B0.out.2.2.1⟩
 obtain ⟨c, hc⟩ : ∃ c, c = (dRead (absD S) (fileB logB n)).1 := ⟨_, rfl⟩
 have HC : Hid (c = (dRead (absD S) (fileB logB n)).1) := hc; rw [gI_abs S (fileB logB n) (eFind (absP S) (fileB logB n)) (absP S), show (dDo (absD S) (fileB logB n) (eFind (absP S) (fileB logB n)) (absP S)).1 = c from hc.symm]; have hx2 : w3.heap[w.heap.size + 2]? = some (.cells #[.int .i64 0] 25) := (hX (w.heap.size + 2) (by omega) (by omega)).1.trans B0.out.2.2.2.2.1; have hx1 : w3.heap[w.heap.size + 1]? = some (.cells #[.bool last] 4) := (hX (w.heap.size + 1) (by omega) (by omega)).1.trans B0.out.2.2.2.1; clear H2 hHeld hH2 hD hF hG hG' K1 K2 hA hc ho hbs hvb hro hcap hoff hX; go_wp2_with fail; refine hK.out _ _ hH3 (fun hHeld => ?_); clear hK K; try simp only [List.getElem_toArray, List.getElem_cons_succ, List.getElem_cons_zero, Act.put, List.setIfInBounds_toArray, List.set_cons_zero, List.set_cons_succ]
 refine wpAnyH_take (i := 11) (v := .tuple #[.slice va bs.length vc, .int .i64 c]) rfl (by kernel_rfl) (by kernel_rfl) (by kernel_rfl) (fun _ _ _ h => h) (Or.inl ⟨by rfl, fun w9 hSw => ?_⟩) hHeld ?_
 · go_simp
 simp only [List.getElem_toArray, List.getElem_cons_succ, List.getElem_cons_zero, Act.put, List.setIfInBounds_toArray, List.set_cons_zero, List.set_cons_succ]; refine wpAnyH_take (i := 12) (v := .slice va bs.length vc) rfl (by kernel_rfl) (by kernel_rfl) (by kernel_rfl) (fun _ _ _ h => h) (Or.inl ⟨by rfl, fun w9 hSw => ?_⟩) hHeld ?_
 · go_simp
 simp only [List.getElem_toArray, List.getElem_cons_succ, List.getElem_cons_zero, Act.put, List.setIfInBounds_toArray, List.set_cons_zero, List.set_cons_succ]; refine wpAnyH_take (i := 13) (v := .int .i64 c) rfl (by kernel_rfl) (by kernel_rfl) (by kernel_rfl) (fun _ _ _ h => h) (Or.inl ⟨by rfl, fun w9 hSw => ?_⟩) hHeld ?_
 · go_simp
 simp only [List.getElem_toArray, List.getElem_cons_succ, List.getElem_cons_zero, Act.put, List.setIfInBounds_toArray, List.set_cons_zero, List.set_cons_succ]; refine wpAnyH_take (i := 14) (v := .slice va bs.length vc) rfl (by kernel_rfl) (by kernel_rfl) (by kernel_rfl) (fun _ _ _ h => h) (Or.inl ⟨by rfl, fun w9 hSw => ?_⟩) hHeld ?_
 · go_simp
 simp only [List.getElem_toArray, List.getElem_cons_succ, List.getElem_cons_zero, Act.put, List.setIfInBounds_toArray, List.set_cons_zero, List.set_cons_succ]; refine wpAnyH_take (i := 15) (v := .int .i64 c) rfl (by kernel_rfl) (by kernel_rfl) (by kernel_rfl) (fun _ _ _ h => h) (Or.inl ⟨by rfl, fun w9 hSw => ?_⟩) hHeld ?_
 · go_simp
 simp only [List.getElem_toArray, List.getElem_cons_succ, List.getElem_cons_zero, Act.put, List.setIfInBounds_toArray, List.set_cons_zero, List.set_cons_succ]; refine wpAnyH_done (by kernel_rfl) ?_ _; simp only [noP]; have hc1 : (c == 0) = false := by rw [HC.out]; simpa using he
 have d2 : w3.cell? ⟨w.heap.size + 2, 0, none⟩ = some (.int .i64 0) := by rw [cell_of_block hx2]; rfl
 have f2 : w3.frozen? ⟨w.heap.size + 2, 0, none⟩ = false := unfrozen_of_block hx2 0; clear hHeld; go_wp2; rw [Exit.noGoto_ret]; have hl : (loadVar 25 ⟨w.heap.size + 2, 0, none⟩).run Tryz.prog (w3.setCell ⟨w.heap.size + 2, 0, none⟩ (.int .i64 c)) = .ok (.int .i64 c) (w3.setCell ⟨w.heap.size + 2, 0, none⟩ (.int .i64 c)) := load24 ((block_setCell hx2 _).trans rfl); refine ⟨.int .i64 c, by simp [results, Tryz.results74, asAddr, hl], c, S1, L, rfl, ?_, ?_, HC.out, H3.out.2.2.1⟩
 · exact H3.out.1.touch (w.heap.size + 2) (H3.out.2.2.2.2.2.2.2.1 (w.heap.size + 2) (by omega) (by omega)).2 (by have := HI.out.dl.vars.lt; omega) (fun b hb => Below.heap_setCell _ _ _ _ hb) (by simp)
 · exact (H3.out.2.1.fb.set (by omega) 0 _).to
theorem frames_any {w : World} (va : Option Addr) (vl vc : Nat) : Calls Tryz.prog 108 #[.slice va vl vc] w fun e w' => e = .returned (.func (.func 132) #[] #[.pointer (some ⟨w.heap.size, 0, none⟩)]) ∧ w' = w.alloc (.cells #[.slice va vl vc] 23) := by
 go_enter Tryz.func108, Tryz.ntmps108
 go_wp2; go_ret
 exact ⟨rfl, rfl⟩
/-- Within load's loop. -/
structure JJ (w W : World) (bd bl : Nat) (S S1 : DS) (L : LS) (ro : Int) (n : Int) (last : Bool) (v : Value) (bs : List Int) (D : Nat) (res : Int) (rc : Loop) (k : Nat) (rs : List (List Int)) (L' : LS) : Prop where
 took : Took bs k rs
 dl : DL W bd bl S1 L' ro
 fs : L'.fs = L.fs ++ [n]
 rs' : L'.rs.map (·.2) = L.rs.map (·.2) ++ rs
 size : L'.size = k
 rest : L'.uns = L.uns ∧ L'.most = L.most ∧ L'.nm = L.nm
 fb : FB w.heap.size w W S L S1 L'
 lo : Lo W S1 L' w.heap.size D bl last v bs res
 loop : W.heap[D + 1]? = some (.loop rc)
 v4 : 5 ≤ w.heap.size
theorem JJ.lt {w W : World} {bd bl : Nat} {S S1 : DS} {L L' : LS} {ro n : Int} {last : Bool} {v : Value} {bs : List Int} {D : Nat} {res : Int} {rc : Loop} {k : Nat} {rs : List (List Int)} (h : JJ w W bd bl S S1 L ro n last v bs D res rc k rs L') : D + 1 < W.heap.size := heap_lt h.loop
theorem JJ.below {w W W' : World} {bd bl : Nat} {S S1 : DS} {L L' : LS} {ro n : Int} {last : Bool} {v : Value} {bs : List Int} {D : Nat} {res : Int} {rc : Loop} {k : Nat} {rs : List (List Int)} (h : JJ w W bd bl S S1 L ro n last v bs D res rc k rs L') (hb : Below W.heap.size W W') : JJ w W' bd bl S S1 L ro n last v bs D res rc k rs L' :=
 ⟨h.took, h.dl.below hb, h.fs, h.rs', h.size, h.rest, h.fb.f3 (by have := h.fb.size; omega) (F3.below hb), h.lo.f3 (F3.below hb) h.lt, (hb.block _ h.lt).trans h.loop, h.v4⟩
theorem JJ.put {w W : World} {bd bl : Nat} {S S1 : DS} {L L' : LS} {ro n : Int} {last : Bool} {v : Value} {bs : List Int} {D : Nat} {res : Int} {rc : Loop} {k : Nat} {rs : List (List Int)} (h : JJ w W bd bl S S1 L ro n last v bs D res rc k rs L') (r2 : Loop) : JJ w (W.putObj (D + 1) (.loop r2)) bd bl S S1 L ro n last v bs D res r2 k rs L' :=
 ⟨h.took, h.dl.put (D + 1) h.lo.ol (by have := h.v4; have := h.lo.xd; omega) _, h.fs, h.rs', h.size, h.rest, h.fb.put (by have := h.lo.xd; omega) _, h.lo.put _, World.putObj_heap_same h.lt, h.v4⟩
theorem JJ.keep {w W W2 : World} {bd bl : Nat} {S S1 : DS} {L L' : LS} {ro n : Int} {last : Bool} {v : Value} {bs : List Int} {D : Nat} {res : Int} {rc : Loop} {k : Nat} {rs : List (List Int)} (h : JJ w W bd bl S S1 L ro n last v bs D res rc k rs L') {L2 : LS} {x : List Int} {z : Nat} (hd : DL W2 bd bl S1 L2 ro) (hF : F3 W W2 S1 L' S1 L2) (ht : Took bs z (rs ++ [x])) (h1 : L2.fs = L'.fs) (h2 : L2.rs.map (·.2) = L'.rs.map (·.2) ++ [x]) (h3 : L2.size = z) (h4 : L2.uns = L'.uns ∧ L2.most = L'.most ∧ L2.nm = L'.nm) : JJ w W2 bd bl S S1 L ro n last v bs D res rc z (rs ++ [x]) L2 :=
 ⟨ht, hd, h1.trans h.fs, by rw [h2, h.rs', List.append_assoc], h3, ⟨h4.1.trans h.rest.1, h4.2.1.trans h.rest.2.1, h4.2.2.trans h.rest.2.2⟩, h.fb.f3 (by have := h.fb.size; omega) hF, h.lo.f3 hF h.lt, (hF.block _ h.lt h.lo.ol.1 h.lo.ol.2).trans h.loop, h.v4⟩
/-- Load's loop was left. -/
def XX (w W : World) (bd bl : Nat) (S S1 : DS) (L : LS) (ro : Int) (n : Int) (last : Bool) (v : Value) (bs : List Int) (D : Nat) (r : Loop) : Prop :=
 ∃ k rs L', k < bs.length ∧ (((nx (bs.drop k)).1 = 10 ∧ last = true ∧ JJ w W bd bl S S1 L ro n last v bs D 0 { r with state := .done, pending := some (.exit 0) } k rs L') ∨ ((nx (bs.drop k)).1 ≠ 0 ∧ ¬ ((nx (bs.drop k)).1 = 10 ∧ last = true) ∧ JJ w W bd bl S S1 L ro n last v bs D 34 { r with state := .done, pending := some .ret } k rs L'))
theorem JJ.res {w W : World} {bd bl : Nat} {S S1 : DS} {L L' : LS} {ro n : Int} {last : Bool} {v : Value} {bs : List Int} {D : Nat} {res : Int} {rc : Loop} {k : Nat} {rs : List (List Int)} (h : JJ w W bd bl S S1 L ro n last v bs D res rc k rs L') (z : Int) : JJ w (W.setCell ⟨w.heap.size + 2, 0, none⟩ (.int .i64 z)) bd bl S S1 L ro n last v bs D z rc k rs L' := by
 have h1 := h.lo.xd; have hk : ∀ b, b ≠ w.heap.size + 2 → (W.setCell ⟨w.heap.size + 2, 0, none⟩ (.int .i64 z)).heap[b]? = W.heap[b]? := fun b hb => Below.heap_setCell _ _ _ _ hb
 have hv := h.dl.vars.lt; refine ⟨h.took, h.dl.touch (w.heap.size + 2) h.lo.o2 (by have := h.v4; omega) hk (by simp), h.fs, h.rs', h.size, h.rest, h.fb.set (by omega) 0 _, ⟨(hk _ (by omega)).trans h.lo.x0, (hk _ (by omega)).trans h.lo.x1, ?_, (hk _ (by omega)).trans h.lo.d, h.lo.bv.keep (fun b hb => hk b (by have := (h.lo.ov b hb).2.2.2.2; omega)), by simpa using h.lo.lt, h.lo.o0, h.lo.o1, h.lo.o2, h.lo.od, h.lo.ol, fun b hb => by simpa using h.lo.ov b hb, h.lo.xd⟩, (hk _ (by omega)).trans h.loop, h.v4⟩; rw [block_setCell h.lo.x2]; rfl
theorem JJ.fin {w W : World} {bd bl : Nat} {S S1 : DS} {L L' : LS} {ro n : Int} {last : Bool} {v : Value} {bs : List Int} {D : Nat} {res : Int} {rc : Loop} {k : Nat} {rs : List (List Int)} (h : JJ w W bd bl S S1 L ro n last v bs D res rc k rs L') : DL (W.putObj D (.deferred none)) bd bl S1 L' ro ∧ F3 w (W.putObj D (.deferred none)) S L S1 L' :=
 ⟨h.dl.put D h.lo.od (by have := h.v4; have := h.lo.xd; omega) _, (h.fb.put (by have := h.lo.xd; omega) _).to⟩
theorem JJ.absL {w W : World} {bd bl : Nat} {S S1 : DS} {L L' : LS} {ro n : Int} {last : Bool} {v : Value} {bs : List Int} {D : Nat} {res : Int} {rc : Loop} {k : Nat} {rs : List (List Int)} (h : JJ w W bd bl S S1 L ro n last v bs D res rc k rs L') : Proofs.YtconkienlcegaaaGreatDoor.absL L' = { Proofs.YtconkienlcegaaaGreatDoor.absL L with fs := L.fs ++ [n], rs := (Proofs.YtconkienlcegaaaGreatDoor.absL L).rs ++ rs, size := k } ∧ L'.nm = L.nm := by
 refine ⟨?_, h.rest.2.2⟩; unfold Proofs.YtconkienlcegaaaGreatDoor.absL; rw [h.fs, h.rs', h.size, h.rest.1, h.rest.2.1]
theorem dBytes_len {S : DS} {ro : Int} (h : GB S ro) (s : ByteArray) : (dBytes (absD S) s).length ≤ 1073741824 := by
 unfold dBytes; split
 · cases hf : fT (absD S).l (nb s) with
   | none => simp
   | some p =>
     have h3 := (del_here (p := p) rfl (fT_mem hf).1).2; have h4 := h.wf.sum; have h5 := h.r0; have e : (absD S).l = absP S := rfl; rw [e] at h3; show p.2.1.length ≤ _; omega
 · simp
theorem load_start {w wq w4 w5 W1 : World} {bd bl : Nat} {S S1 : DS} {L : LS} {ro : Int} {n : Int} {last : Bool} {va : Option Addr} {vc : Nat} {bs : List Int} {v4 : Value} {D : Nat} {r : Loop} (hq : DL wq bd bl S1 L ro ∧ F3 w wq S L S1 L ∧ absD S1 = (dRead (absD S) (fileB logB n)).2 ∧ BytesV wq (.slice va bs.length vc) bs ∧ (wq.heap[w.heap.size]? = some (.cells #[.pointer (some ⟨bl, 0, none⟩)] 91) ∧ wq.heap[w.heap.size + 1]? = some (.cells #[.bool last] 4) ∧ wq.heap[w.heap.size + 2]? = some (.cells #[.int .i64 0] 25)) ∧ bs = (dBytes (absD S) (fileB logB n)) ∧ (bs.length ≤ vc ∧ vc ≤ 9223372036854775807) ∧ (∀ b, dBlock (.slice va bs.length vc) bs = some b → b < wq.heap.size ∧ S1.role b = .none ∧ L.own b = 0 ∧ w.heap.size + 2 < b) ∧ (∀ b, w.heap.size ≤ b → b < w.heap.size + 3 → S1.role b = .none ∧ L.own b = 0) ∧ w.heap.size + 3 ≤ wq.heap.size) (hd4 : DL w4 bd bl S1 (setF L v4 (L.fs ++ [n]) 0) ro) (hF4 : F3 wq w4 S1 L S1 (setF L v4 (L.fs ++ [n]) 0)) (h5 : w5 = w4.alloc (.cells #[.slice va bs.length vc] 23)) (hD : D = w5.heap.size) (hW : W1 = (w5.alloc (.deferred (some []))).alloc (.loop r)) (h0 : DL w bd bl S L ro) :
 JJ w W1 bd bl S S1 L ro n last (.slice va bs.length vc) bs D 0 r 0 [] (setF L v4 (L.fs ++ [n]) 0) := by
 obtain ⟨k1, k2, k3, k4, ⟨x0, x1, x2⟩, k6, k7, k8, k9, k10⟩ := hq; have hb5 : Below w4.heap.size w4 w5 := by rw [h5]; go_grown
 have hs5 : w5.heap.size = w4.heap.size + 1 := by rw [h5]; simp
 have hbW : Below w5.heap.size w5 W1 := by rw [hW]; exact ((Below.refl _ _).alloc (Nat.le_refl _) _).alloc (by simp) _
 have hsW : W1.heap.size = D + 2 := by rw [hW, hD]; simp
 have hb : Below w4.heap.size w4 W1 := hb5.trans (hbW.mono hb5.size); have hF : F3 wq W1 S1 L S1 (setF L v4 (L.fs ++ [n]) 0) := hF4.trans (F3.below hb); have hs4 := hF4.size; have hfr : ∀ b, w4.heap.size ≤ b → S1.role b = .none ∧ (setF L v4 (L.fs ++ [n]) 0).own b = 0 := fun b hb' => ⟨hd4.disk.fresh b hb', hd4.log.fresh b hb'⟩
 have ho : ∀ b, w.heap.size ≤ b → b < w.heap.size + 3 → W1.heap[b]? = wq.heap[b]? ∧ S1.role b = .none ∧ (setF L v4 (L.fs ++ [n]) 0).own b = 0 := fun b h1 h2 => ⟨hF.block b (by omega) (k9 b h1 h2).1 (k9 b h1 h2).2, hF.off b (by omega) (k9 b h1 h2).1 (k9 b h1 h2).2⟩
 refine ⟨.nil, hd4.below hb, rfl, by simp [setF], rfl, ⟨rfl, rfl, rfl⟩, k2.fb.f3 (by have := k2.size; omega) hF, ⟨(ho w.heap.size (by omega) (by omega)).1.trans x0, (ho (w.heap.size + 1) (by omega) (by omega)).1.trans x1, (ho (w.heap.size + 2) (by omega) (by omega)).1.trans x2, ?_, k4.keep (fun b hb' => hF.block b (k8 b hb').1 (k8 b hb').2.1 (k8 b hb').2.2.1), ⟨by omega, by omega⟩, (ho w.heap.size (by omega) (by omega)).2, (ho (w.heap.size + 1) (by omega) (by omega)).2, (ho (w.heap.size + 2) (by omega) (by omega)).2, hfr D (by omega), hfr (D + 1) (by omega), fun b hb' => ⟨by have := (k8 b hb').1; omega, by have := (k8 b hb').1; omega, (hF.off b (k8 b hb').1 (k8 b hb').2.1 (k8 b hb').2.2.1).1, (hF.off b (k8 b hb').1 (k8 b hb').2.1 (k8 b hb').2.2.1).2, (k8 b hb').2.2.2⟩, by omega⟩, ?_, by have := h0.vars.lt; omega⟩
 · rw [hW, hD]; exact heap_alloc2_old _ _ _
 · rw [hW, hD]; exact heap_alloc2_new _ _ _
end Go.Proofs.YtconkienlcegaaaGreatDoor
