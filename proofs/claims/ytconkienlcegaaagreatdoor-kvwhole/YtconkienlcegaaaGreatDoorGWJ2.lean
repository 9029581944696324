/- WJ1, WJ2 -/
import Derived.Test.YtconkienlcegaaaGreatDoorGWN0
namespace Go.Proofs.YtconkienlcegaaaGreatDoor
open Go.RowKit Go.Maps Go.Joins
set_option linter.unusedSimpArgs false
set_option linter.unusedVariables false
set_option maxRecDepth 100000 in
set_option maxHeartbeats 8000000 in
theorem lappend_nil_f {w : World} {bd bl : Nat} {S : DS} {L : LS} {ro : Int} {va : Option Addr} {vc : Nat} {bs : List Int} (hI : AppIn w bd bl S L ro va vc bs) (hfs : L.fs = []) (hs : (pSync (absD S) (absL L)).1 = 0) (hok : ¬ (dApp (pSync (absD S) (absL L)).2.1 (fileB logB (endL L)) (frameB bs)).1 = 0) :
 Calls Tryz.prog 83 #[.pointer (some ⟨bl, 0, none⟩), .slice va bs.length vc] w fun e w' => ∃ c S' L', e = .returned (.int .i64 c) ∧ PR w w' bd bl S L ro (pApp (absD S) (absL L) bs) c S' L' := by
 have HI : Hid (AppIn w bd bl S L ro va vc bs) := hI; have hlen0 := hI.len; have hbig : ¬ 65536 < bs.length := by omega
 have hbg : (absL L).bg = true := by rw [absL_bg]; rw [hfs]; rfl
 obtain ⟨z1, z2, z3, z4⟩ := pSync_rest (absD S) (absL L); have hbg2 : (pSync (absD S) (absL L)).2.2.bg = true := by
  unfold PL.bg at hbg ⊢; rw [z1, z3, z4]; exact hbg
 have hnum : pNum (pSync (absD S) (absL L)).2.2 = endL L := by
  unfold pNum; rw [if_pos hbg2]; unfold PL.en PL.fst; rw [z1, z2]; exact absL_en L
 have hr : pApp (absD S) (absL L) bs = ((dApp (pSync (absD S) (absL L)).2.1 (fileB logB (endL L)) (frameB bs)).1, (dApp (pSync (absD S) (absL L)).2.1 (fileB logB (endL L)) (frameB bs)).2, (pSync (absD S) (absL L)).2.2) := by
  unfold pApp; rw [if_neg hbig, if_pos hbg, if_pos hs]; unfold pPut; rw [hnum, if_neg hok]
 have HR : Hid _ := hr; have HB2 : Hid ((pSync (absD S) (absL L)).2.2.bg = true ∧ pNum (pSync (absD S) (absL L)).2.2 = endL L) := ⟨hbg2, hnum⟩
 clear hr hbg hI hlen0 hbig z1 z2 z3 z4 hbg2 hnum; obtain ⟨fa, fc, c3, c5, c2⟩ := HI.out.cells; rw [hfs] at c3; clear hfs; have hblen := HI.out.len; have hb2 : decide ((65536 : Int) < bs.length) = false := by simp; omega
 clear hblen; go_enter Tryz.func83, Tryz.ntmps83; go_wp2_with fail; go_quiet (fail); go_wp2_with (first
  | (go_at_call 42
     refine Calls.mono (end_any (HI.out.dl.log.below (below_drewN' _ _)) HI.out.ln) ?_; rintro e w1 ⟨rfl, hm1⟩; have H1 : Hid (DL w1 bd bl S L ro ∧ F3 w w1 S L S L) := (by
      obtain ⟨m, rfl⟩ := hm1; exact ⟨HI.out.dl.below ⟨rfl, rfl, rfl, Nat.le_refl _, fun _ _ => rfl⟩, F3.below ⟨rfl, rfl, rfl, Nat.le_refl _, fun _ _ => rfl⟩⟩)
     clear hm1)
  | (go_at_call 84
     refine Calls.mono (lsync_any H1.out.1 HI.out.uns HI.out.nm (by have := HI.out.st; omega)) ?_; rintro e w2 ⟨c, S2, L2, rfl, hPR, e1, e2, e3, e4⟩; have H2 : Hid (DL w2 bd bl S2 L2 ro ∧ F3 w w2 S L S2 L2 ∧ absD S2 = (pSync (absD S) (absL L)).2.1 ∧ absL L2 = (pSync (absD S) (absL L)).2.2 ∧ L2.nm = logB ∧ L2.fs = L.fs ∧ L2.rs = L.rs ∧ L2.size = L.size ∧ c = (pSync (absD S) (absL L)).1 ∧ L2.most = L.most) := ⟨hPR.dl, H1.out.2.trans hPR.f3, hPR.disk, hPR.log, hPR.nm.trans HI.out.nm, e1, e2, e3, hPR.code, e4⟩
     have hc1 : (c == 0) = true := by rw [H2.out.2.2.2.2.2.2.2.2.1]; simpa using hs
     clear hPR e1 e2 e3 e4 H1))
 have HAS : Hid (absD S2 = (pSync (absD S) (absL L)).2.1) := H2.out.2.2.1; have HL2 : Hid (BytesV w2 (.slice va bs.length vc) bs) := HI.out.bv.f3 H2.out.2.1 HI.out.off; refine wp_region_held_drew (S := fun w' => w'.heap[bl]? = some (.cells (lC L2) 141)) (by kernel_rfl) H2.out.1.log.log (fun hHeld => ?_); refine wpAnyH_take (i := 0) (v := .pointer (some ⟨bl, 0, none⟩)) rfl (by kernel_rfl) (by kernel_rfl) (by kernel_rfl) (fun _ _ _ h => h) (Or.inl ⟨by rfl, fun w9 hSw => ?_⟩) hHeld ?_
 · go_simp
 simp only [List.getElem_toArray, List.getElem_cons_succ, List.getElem_cons_zero, Act.put, List.setIfInBounds_toArray, List.set_cons_zero, List.set_cons_succ]; refine wpAnyH_take (i := 1) (v := .pointer (some ⟨bl, 0, none⟩)) rfl (by kernel_rfl) (by kernel_rfl) (by kernel_rfl) (fun _ _ _ h => h) (Or.inl ⟨by rfl, fun w9 hSw => ?_⟩) hHeld ?_
 · go_simp
 simp only [List.getElem_toArray, List.getElem_cons_succ, List.getElem_cons_zero, Act.put, List.setIfInBounds_toArray, List.set_cons_zero, List.set_cons_succ]; refine wpAnyH_take (i := 2) (v := .pointer (some ⟨bl, 0, none⟩)) rfl (by kernel_rfl) (by kernel_rfl) (by kernel_rfl) (fun _ _ _ h => h) (Or.inl ⟨by rfl, fun w9 hSw => ?_⟩) hHeld ?_
 · go_simp
 simp only [List.getElem_toArray, List.getElem_cons_succ, List.getElem_cons_zero, Act.put, List.setIfInBounds_toArray, List.set_cons_zero, List.set_cons_succ]; refine wpAnyH_take (i := 3) (v := .pointer (some ⟨bd, 0, none⟩)) rfl (by kernel_rfl) (by kernel_rfl) (by kernel_rfl) (fun _ _ _ h => h) (Or.inl ⟨by rfl, fun w9 hSw => ?_⟩) hHeld ?_
 · have hc : w9.cell? ⟨bl, 0, none⟩ = some (.pointer (some ⟨bd, 0, none⟩)) := (cell_of_block hSw 0).trans (by show some (Value.pointer (some ⟨L2.bd, 0, none⟩)) = _; rw [H2.out.1.bdq])
   go_simp
 simp only [List.getElem_toArray, List.getElem_cons_succ, List.getElem_cons_zero, Act.put, List.setIfInBounds_toArray, List.set_cons_zero, List.set_cons_succ]; refine wpAnyH_take (i := 4) (v := .pointer (some ⟨bl, 0, none⟩)) rfl (by kernel_rfl) (by kernel_rfl) (by kernel_rfl) (fun _ _ _ h => h) (Or.inl ⟨by rfl, fun w9 hSw => ?_⟩) hHeld ?_
 · go_simp
 simp only [List.getElem_toArray, List.getElem_cons_succ, List.getElem_cons_zero, Act.put, List.setIfInBounds_toArray, List.set_cons_zero, List.set_cons_succ]; refine wpAnyH_take (i := 5) (v := .pointer (some ⟨bl, 0, none⟩)) rfl (by kernel_rfl) (by kernel_rfl) (by kernel_rfl) (fun _ _ _ h => h) (Or.inl ⟨by rfl, fun w9 hSw => ?_⟩) hHeld ?_
 · go_simp
 simp only [List.getElem_toArray, List.getElem_cons_succ, List.getElem_cons_zero, Act.put, List.setIfInBounds_toArray, List.set_cons_zero, List.set_cons_succ]; refine wpAnyH_take (i := 6) (v := .pointer (some ⟨bl, 1, none⟩)) rfl (by kernel_rfl) (by kernel_rfl) (by kernel_rfl) (fun _ _ _ h => h) (Or.inl ⟨by rfl, fun w9 hSw => ?_⟩) hHeld ?_
 · go_simp
 simp only [List.getElem_toArray, List.getElem_cons_succ, List.getElem_cons_zero, Act.put, List.setIfInBounds_toArray, List.set_cons_zero, List.set_cons_succ]; refine wpAnyH_take (i := 7) (v := .string logB) rfl (by kernel_rfl) (by kernel_rfl) (by kernel_rfl) (fun _ _ _ h => h) (Or.inl ⟨by rfl, fun w9 hSw => ?_⟩) hHeld ?_
 · have hc : w9.cell? ⟨bl, 1, none⟩ = some (.string logB) := (cell_of_block hSw 1).trans (by show some (Value.string L2.nm) = _; rw [H2.out.2.2.2.2.1])
   go_simp
 simp only [List.getElem_toArray, List.getElem_cons_succ, List.getElem_cons_zero, Act.put, List.setIfInBounds_toArray, List.set_cons_zero, List.set_cons_succ]; refine wpAnyH_take (i := 8) (v := .int .i64 (endL L)) rfl (by kernel_rfl) (by kernel_rfl) (by kernel_rfl) (fun _ _ _ h => h) (Or.inl ⟨by rfl, fun w9 hSw => ?_⟩) hHeld ?_
 · go_simp
 simp only [List.getElem_toArray, List.getElem_cons_succ, List.getElem_cons_zero, Act.put, List.setIfInBounds_toArray, List.set_cons_zero, List.set_cons_succ]; refine wpAnyH_take (i := 10) (v := .slice va bs.length vc) rfl (by kernel_rfl) (by kernel_rfl) (by kernel_rfl) (fun _ _ _ h => h) (Or.inl ⟨by rfl, fun w9 hSw => ?_⟩) hHeld ?_
 · go_simp
 simp only [List.getElem_toArray, List.getElem_cons_succ, List.getElem_cons_zero, Act.put, List.setIfInBounds_toArray, List.set_cons_zero, List.set_cons_succ]; refine wpAnyH_ready (rs := [9]) (by kernel_rfl) (by simp) ?_; refine AllReadyH.cons rfl (fun K hK => ?_) AllReadyH.nil; have H3 : DL w2.drew bd bl S2 L2 ro ∧ F3 w w2.drew S L S2 L2 ∧ BytesV w2.drew (.slice va bs.length vc) bs := ⟨H2.out.1.below ⟨rfl, rfl, rfl, Nat.le_refl _, fun _ _ => rfl⟩, H2.out.2.1.trans (F3.below ⟨rfl, rfl, rfl, Nat.le_refl _, fun _ _ => rfl⟩), HL2.out.keep (fun _ _ => rfl)⟩
 generalize w2.drew = w3 at hHeld H3 ⊢; go_simp; refine Calls.mono (file_any H3.1.vars logB (by decide) (endL L)) ?_; rintro e w4 ⟨rfl, hb4⟩; have H4 : DL w4 bd bl S2 L2 ro ∧ F3 w w4 S L S2 L2 ∧ BytesV w4 (.slice va bs.length vc) bs := ⟨H3.1.below hb4, H3.2.1.trans (F3.below hb4), H3.2.2.below hb4⟩
 have hH4 : w4.heap[bl]? = some (.cells (lC L2) 141) := H4.1.log.log; clear H3 hHeld hb4; go_wp2_with fail; refine hK.out _ _ hH4 (fun hHeld => ?_); clear hK K; try simp only [List.getElem_toArray, List.getElem_cons_succ, List.getElem_cons_zero, Act.put, List.setIfInBounds_toArray, List.set_cons_zero, List.set_cons_succ]
 refine wpAnyH_ready (rs := [11]) (by kernel_rfl) (by simp) ?_; refine AllReadyH.cons rfl (fun K hK => ?_) AllReadyH.nil; have hblen := HI.out.len; go_simp; refine Calls.mono (frame_any H4.1.vars.half va vc bs H4.2.2 (by omega)) ?_; rintro e w5 ⟨v5, rfl, ho5, hb5⟩; obtain ⟨a5, k5, rfl⟩ := row_form ho5; have H5 : DL w5 bd bl S2 L2 ro ∧ F3 w w5 S L S2 L2 ∧ BytesV w5 (.slice va bs.length vc) bs ∧ BytesV w5 (.slice a5 (frameB bs).length k5) (frameB bs) ∧ (∀ b, dBlock (.slice a5 (frameB bs).length k5) (frameB bs) = some b → S2.role b = .none) := ⟨H4.1.below hb5, H4.2.1.trans (F3.below hb5), H4.2.2.below hb5, BytesV.of_own ho5, fun b hb => H4.1.disk.fresh b (ho5.lt b (dBlock_own hb)).1⟩
 have hH5 : w5.heap[bl]? = some (.cells (lC L2) 141) := H5.1.log.log; clear H4 hHeld hH4 ho5 hb5; go_wp2_with fail; refine hK.out _ _ hH5 (fun hHeld => ?_); clear hK K; try simp only [List.getElem_toArray, List.getElem_cons_succ, List.getElem_cons_zero, Act.put, List.setIfInBounds_toArray, List.set_cons_zero, List.set_cons_succ]
 refine wpAnyH_ready (rs := [12]) (by kernel_rfl) (by simp) ?_; refine AllReadyH.cons rfl (fun K hK => ?_) AllReadyH.nil; have HW := app_wf H5.1.disk.srt H5.1.gb.wf (fileB logB (endL L)) (frameB bs); have HFL : Hid ((frameB bs).length = 12 + bs.length) := frameB_length bs; have hst2 : S2.steps < 4611686018427387903 := by have h1 := dDo_steps (absD S) (fileB logB (absL L).last) (eFind (absP S) (fileB logB (absL L).last)) (lSync (absP S) (fileB logB (absL L).last)); have h2 := HI.out.st; have h3 := pSync_steps (absD S) (absL L); have h4 : S2.steps = (pSync (absD S) (absL L)).2.1.steps := congrArg DA.steps H2.out.2.2.1; have h5 : (absD S).steps = S.steps := rfl; omega
 go_simp; refine Calls.mono (g_append H5.1.disk H5.1.gb (fileB logB (endL L)) (by have := fileB_size ((endL L)); omega) a5 k5 (frameB bs) H5.2.2.2.1 H5.2.2.2.2 (by have := HFL.out; omega)) ?_
 rintro e w6 ⟨rfl, S6, hD, hF, hG⟩; obtain ⟨K1, K2⟩ := H5.1.disked hD hF (H5.1.gb.next (e := eApp (absP S2) ro (fileB logB (endL L)) (frameB bs)) hG HW hst2); have hro : (absD S2).room = ro := H5.1.gb.rm; have hrr : ∀ X, (dDo (absD S2) (fileB logB (endL L)) (eApp (absP S2) ro (fileB logB (endL L)) (frameB bs)) (lApp (absP S2) ro (fileB logB (endL L)) (frameB bs))) = X → dApp (absD S2) (fileB logB (endL L)) (frameB bs) = X := fun X hX => by rw [← hX]; unfold dApp; rw [hro]; rfl
 have H6 : Hid (DL w6 bd bl S6 L2 ro ∧ F3 w w6 S L S6 L2 ∧ BytesV w6 (.slice va bs.length vc) bs ∧ absD S6 = (dApp (absD S2) (fileB logB (endL L)) (frameB bs)).2) := ⟨K1, H5.2.1.trans K2, HI.out.bv.f3 (H5.2.1.trans K2) HI.out.off, by rw [hrr _ rfl]; exact gs_abs hG⟩
 have hE := gI_abs S2 (fileB logB (endL L)) (eApp (absP S2) ro (fileB logB (endL L)) (frameB bs)) (lApp (absP S2) ro (fileB logB (endL L)) (frameB bs)); rw [hE, ← hrr _ rfl]; have hH6 : w6.heap[bl]? = some (.cells (lC L2) 141) := K1.log.log; obtain ⟨d, hd⟩ : ∃ d, d = (dApp (absD S2) (fileB logB (endL L)) (frameB bs)).1 := ⟨_, rfl⟩
 have HDD : Hid (d = (dApp (absD S2) (fileB logB (endL L)) (frameB bs)).1) := hd; rw [← hd]; have hd1 : (d == 0) = false := by rw [hd]; rw [HAS.out]; simpa using hok
 clear H5 hHeld hH5 hD hF hG K1 K2 hE hd HW hrr hro; go_wp2_with fail; refine hK.out _ _ hH6 (fun hHeld => ?_); clear hK K; try simp only [List.getElem_toArray, List.getElem_cons_succ, List.getElem_cons_zero, Act.put, List.setIfInBounds_toArray, List.set_cons_zero, List.set_cons_succ]
 refine wpAnyH_take (i := 13) (v := .int .i64 d) rfl (by kernel_rfl) (by kernel_rfl) (by kernel_rfl) (fun _ _ _ h => h) (Or.inl ⟨by rfl, fun w9 hSw => ?_⟩) hHeld ?_
 · go_simp
 simp only [List.getElem_toArray, List.getElem_cons_succ, List.getElem_cons_zero, Act.put, List.setIfInBounds_toArray, List.set_cons_zero, List.set_cons_succ]; refine wpAnyH_done (by kernel_rfl) ?_ _; go_wp2; go_ret; rw [HR.out]; exact ⟨d, S6, L2, rfl, ⟨by rw [HDD.out, HAS.out], by rw [H6.out.2.2.2, HAS.out], H2.out.2.2.2.1, H6.out.1, H6.out.2.1, H2.out.2.2.2.2.1.trans HI.out.nm.symm⟩⟩
set_option maxRecDepth 100000 in
set_option maxHeartbeats 8000000 in
theorem lappend_nil_t {w : World} {bd bl : Nat} {S : DS} {L : LS} {ro : Int} {va : Option Addr} {vc : Nat} {bs : List Int} (hI : AppIn w bd bl S L ro va vc bs) (hfs : L.fs = []) (hs : (pSync (absD S) (absL L)).1 = 0) (hok : (dApp (pSync (absD S) (absL L)).2.1 (fileB logB (endL L)) (frameB bs)).1 = 0) :
 Calls Tryz.prog 83 #[.pointer (some ⟨bl, 0, none⟩), .slice va bs.length vc] w fun e w' => ∃ c S' L', e = .returned (.int .i64 c) ∧ PR w w' bd bl S L ro (pApp (absD S) (absL L) bs) c S' L' := by
 have HI : Hid (AppIn w bd bl S L ro va vc bs) := hI; have hlen0 := hI.len; have hbig : ¬ 65536 < bs.length := by omega
 have hbg : (absL L).bg = true := by rw [absL_bg]; rw [hfs]; rfl
 obtain ⟨z1, z2, z3, z4⟩ := pSync_rest (absD S) (absL L); have hbg2 : (pSync (absD S) (absL L)).2.2.bg = true := by
  unfold PL.bg at hbg ⊢; rw [z1, z3, z4]; exact hbg
 have hnum : pNum (pSync (absD S) (absL L)).2.2 = endL L := by
  unfold pNum; rw [if_pos hbg2]; unfold PL.en PL.fst; rw [z1, z2]; exact absL_en L
 have hr : pApp (absD S) (absL L) bs = (0, (dApp (pSync (absD S) (absL L)).2.1 (fileB logB (endL L)) (frameB bs)).2, pAdd (pSync (absD S) (absL L)).2.2 bs) := by
  unfold pApp; rw [if_neg hbig, if_pos hbg, if_pos hs]; unfold pPut; rw [hnum, if_pos hok]
 have HR : Hid _ := hr; have HB2 : Hid ((pSync (absD S) (absL L)).2.2.bg = true ∧ pNum (pSync (absD S) (absL L)).2.2 = endL L) := ⟨hbg2, hnum⟩
 clear hr hbg hI hlen0 hbig z1 z2 z3 z4 hbg2 hnum; obtain ⟨fa, fc, c3, c5, c2⟩ := HI.out.cells; rw [hfs] at c3; clear hfs; have hblen := HI.out.len; have hb2 : decide ((65536 : Int) < bs.length) = false := by simp; omega
 clear hblen; go_enter Tryz.func83, Tryz.ntmps83; go_wp2_with fail; go_quiet (fail); go_wp2_with (first
  | (go_at_call 42
     refine Calls.mono (end_any (HI.out.dl.log.below (below_drewN' _ _)) HI.out.ln) ?_; rintro e w1 ⟨rfl, hm1⟩; have H1 : Hid (DL w1 bd bl S L ro ∧ F3 w w1 S L S L) := (by
      obtain ⟨m, rfl⟩ := hm1; exact ⟨HI.out.dl.below ⟨rfl, rfl, rfl, Nat.le_refl _, fun _ _ => rfl⟩, F3.below ⟨rfl, rfl, rfl, Nat.le_refl _, fun _ _ => rfl⟩⟩)
     clear hm1)
  | (go_at_call 84
     refine Calls.mono (lsync_any H1.out.1 HI.out.uns HI.out.nm (by have := HI.out.st; omega)) ?_; rintro e w2 ⟨c, S2, L2, rfl, hPR, e1, e2, e3, e4⟩; have H2 : Hid (DL w2 bd bl S2 L2 ro ∧ F3 w w2 S L S2 L2 ∧ absD S2 = (pSync (absD S) (absL L)).2.1 ∧ absL L2 = (pSync (absD S) (absL L)).2.2 ∧ L2.nm = logB ∧ L2.fs = L.fs ∧ L2.rs = L.rs ∧ L2.size = L.size ∧ c = (pSync (absD S) (absL L)).1 ∧ L2.most = L.most) := ⟨hPR.dl, H1.out.2.trans hPR.f3, hPR.disk, hPR.log, hPR.nm.trans HI.out.nm, e1, e2, e3, hPR.code, e4⟩
     have hc1 : (c == 0) = true := by rw [H2.out.2.2.2.2.2.2.2.2.1]; simpa using hs
     clear hPR e1 e2 e3 e4 H1))
 have HAS : Hid (absD S2 = (pSync (absD S) (absL L)).2.1) := H2.out.2.2.1; have HL2 : Hid (BytesV w2 (.slice va bs.length vc) bs) := HI.out.bv.f3 H2.out.2.1 HI.out.off; refine wp_region_held_drew (S := fun w' => w'.heap[bl]? = some (.cells (lC L2) 141)) (by kernel_rfl) H2.out.1.log.log (fun hHeld => ?_); refine wpAnyH_take (i := 0) (v := .pointer (some ⟨bl, 0, none⟩)) rfl (by kernel_rfl) (by kernel_rfl) (by kernel_rfl) (fun _ _ _ h => h) (Or.inl ⟨by rfl, fun w9 hSw => ?_⟩) hHeld ?_
 · go_simp
 simp only [List.getElem_toArray, List.getElem_cons_succ, List.getElem_cons_zero, Act.put, List.setIfInBounds_toArray, List.set_cons_zero, List.set_cons_succ]; refine wpAnyH_take (i := 1) (v := .pointer (some ⟨bl, 0, none⟩)) rfl (by kernel_rfl) (by kernel_rfl) (by kernel_rfl) (fun _ _ _ h => h) (Or.inl ⟨by rfl, fun w9 hSw => ?_⟩) hHeld ?_
 · go_simp
 simp only [List.getElem_toArray, List.getElem_cons_succ, List.getElem_cons_zero, Act.put, List.setIfInBounds_toArray, List.set_cons_zero, List.set_cons_succ]; refine wpAnyH_take (i := 2) (v := .pointer (some ⟨bl, 0, none⟩)) rfl (by kernel_rfl) (by kernel_rfl) (by kernel_rfl) (fun _ _ _ h => h) (Or.inl ⟨by rfl, fun w9 hSw => ?_⟩) hHeld ?_
 · go_simp
 simp only [List.getElem_toArray, List.getElem_cons_succ, List.getElem_cons_zero, Act.put, List.setIfInBounds_toArray, List.set_cons_zero, List.set_cons_succ]; refine wpAnyH_take (i := 3) (v := .pointer (some ⟨bd, 0, none⟩)) rfl (by kernel_rfl) (by kernel_rfl) (by kernel_rfl) (fun _ _ _ h => h) (Or.inl ⟨by rfl, fun w9 hSw => ?_⟩) hHeld ?_
 · have hc : w9.cell? ⟨bl, 0, none⟩ = some (.pointer (some ⟨bd, 0, none⟩)) := (cell_of_block hSw 0).trans (by show some (Value.pointer (some ⟨L2.bd, 0, none⟩)) = _; rw [H2.out.1.bdq])
   go_simp
 simp only [List.getElem_toArray, List.getElem_cons_succ, List.getElem_cons_zero, Act.put, List.setIfInBounds_toArray, List.set_cons_zero, List.set_cons_succ]; refine wpAnyH_take (i := 4) (v := .pointer (some ⟨bl, 0, none⟩)) rfl (by kernel_rfl) (by kernel_rfl) (by kernel_rfl) (fun _ _ _ h => h) (Or.inl ⟨by rfl, fun w9 hSw => ?_⟩) hHeld ?_
 · go_simp
 simp only [List.getElem_toArray, List.getElem_cons_succ, List.getElem_cons_zero, Act.put, List.setIfInBounds_toArray, List.set_cons_zero, List.set_cons_succ]; refine wpAnyH_take (i := 5) (v := .pointer (some ⟨bl, 0, none⟩)) rfl (by kernel_rfl) (by kernel_rfl) (by kernel_rfl) (fun _ _ _ h => h) (Or.inl ⟨by rfl, fun w9 hSw => ?_⟩) hHeld ?_
 · go_simp
 simp only [List.getElem_toArray, List.getElem_cons_succ, List.getElem_cons_zero, Act.put, List.setIfInBounds_toArray, List.set_cons_zero, List.set_cons_succ]; refine wpAnyH_take (i := 6) (v := .pointer (some ⟨bl, 1, none⟩)) rfl (by kernel_rfl) (by kernel_rfl) (by kernel_rfl) (fun _ _ _ h => h) (Or.inl ⟨by rfl, fun w9 hSw => ?_⟩) hHeld ?_
 · go_simp
 simp only [List.getElem_toArray, List.getElem_cons_succ, List.getElem_cons_zero, Act.put, List.setIfInBounds_toArray, List.set_cons_zero, List.set_cons_succ]; refine wpAnyH_take (i := 7) (v := .string logB) rfl (by kernel_rfl) (by kernel_rfl) (by kernel_rfl) (fun _ _ _ h => h) (Or.inl ⟨by rfl, fun w9 hSw => ?_⟩) hHeld ?_
 · have hc : w9.cell? ⟨bl, 1, none⟩ = some (.string logB) := (cell_of_block hSw 1).trans (by show some (Value.string L2.nm) = _; rw [H2.out.2.2.2.2.1])
   go_simp
 simp only [List.getElem_toArray, List.getElem_cons_succ, List.getElem_cons_zero, Act.put, List.setIfInBounds_toArray, List.set_cons_zero, List.set_cons_succ]; refine wpAnyH_take (i := 8) (v := .int .i64 (endL L)) rfl (by kernel_rfl) (by kernel_rfl) (by kernel_rfl) (fun _ _ _ h => h) (Or.inl ⟨by rfl, fun w9 hSw => ?_⟩) hHeld ?_
 · go_simp
 simp only [List.getElem_toArray, List.getElem_cons_succ, List.getElem_cons_zero, Act.put, List.setIfInBounds_toArray, List.set_cons_zero, List.set_cons_succ]; refine wpAnyH_take (i := 10) (v := .slice va bs.length vc) rfl (by kernel_rfl) (by kernel_rfl) (by kernel_rfl) (fun _ _ _ h => h) (Or.inl ⟨by rfl, fun w9 hSw => ?_⟩) hHeld ?_
 · go_simp
 simp only [List.getElem_toArray, List.getElem_cons_succ, List.getElem_cons_zero, Act.put, List.setIfInBounds_toArray, List.set_cons_zero, List.set_cons_succ]; refine wpAnyH_ready (rs := [9]) (by kernel_rfl) (by simp) ?_; refine AllReadyH.cons rfl (fun K hK => ?_) AllReadyH.nil; have H3 : DL w2.drew bd bl S2 L2 ro ∧ F3 w w2.drew S L S2 L2 ∧ BytesV w2.drew (.slice va bs.length vc) bs := ⟨H2.out.1.below ⟨rfl, rfl, rfl, Nat.le_refl _, fun _ _ => rfl⟩, H2.out.2.1.trans (F3.below ⟨rfl, rfl, rfl, Nat.le_refl _, fun _ _ => rfl⟩), HL2.out.keep (fun _ _ => rfl)⟩
 generalize w2.drew = w3 at hHeld H3 ⊢; go_simp; refine Calls.mono (file_any H3.1.vars logB (by decide) (endL L)) ?_; rintro e w4 ⟨rfl, hb4⟩; have H4 : DL w4 bd bl S2 L2 ro ∧ F3 w w4 S L S2 L2 ∧ BytesV w4 (.slice va bs.length vc) bs := ⟨H3.1.below hb4, H3.2.1.trans (F3.below hb4), H3.2.2.below hb4⟩
 have hH4 : w4.heap[bl]? = some (.cells (lC L2) 141) := H4.1.log.log; clear H3 hHeld hb4; go_wp2_with fail; refine hK.out _ _ hH4 (fun hHeld => ?_); clear hK K; try simp only [List.getElem_toArray, List.getElem_cons_succ, List.getElem_cons_zero, Act.put, List.setIfInBounds_toArray, List.set_cons_zero, List.set_cons_succ]
 refine wpAnyH_ready (rs := [11]) (by kernel_rfl) (by simp) ?_; refine AllReadyH.cons rfl (fun K hK => ?_) AllReadyH.nil; have hblen := HI.out.len; go_simp; refine Calls.mono (frame_any H4.1.vars.half va vc bs H4.2.2 (by omega)) ?_; rintro e w5 ⟨v5, rfl, ho5, hb5⟩; obtain ⟨a5, k5, rfl⟩ := row_form ho5; have H5 : DL w5 bd bl S2 L2 ro ∧ F3 w w5 S L S2 L2 ∧ BytesV w5 (.slice va bs.length vc) bs ∧ BytesV w5 (.slice a5 (frameB bs).length k5) (frameB bs) ∧ (∀ b, dBlock (.slice a5 (frameB bs).length k5) (frameB bs) = some b → S2.role b = .none) := ⟨H4.1.below hb5, H4.2.1.trans (F3.below hb5), H4.2.2.below hb5, BytesV.of_own ho5, fun b hb => H4.1.disk.fresh b (ho5.lt b (dBlock_own hb)).1⟩
 have hH5 : w5.heap[bl]? = some (.cells (lC L2) 141) := H5.1.log.log; clear H4 hHeld hH4 ho5 hb5; go_wp2_with fail; refine hK.out _ _ hH5 (fun hHeld => ?_); clear hK K; try simp only [List.getElem_toArray, List.getElem_cons_succ, List.getElem_cons_zero, Act.put, List.setIfInBounds_toArray, List.set_cons_zero, List.set_cons_succ]
 refine wpAnyH_ready (rs := [12]) (by kernel_rfl) (by simp) ?_; refine AllReadyH.cons rfl (fun K hK => ?_) AllReadyH.nil; have HW := app_wf H5.1.disk.srt H5.1.gb.wf (fileB logB (endL L)) (frameB bs); have HFL : Hid ((frameB bs).length = 12 + bs.length) := frameB_length bs; have hst2 : S2.steps < 4611686018427387903 := by have h1 := dDo_steps (absD S) (fileB logB (absL L).last) (eFind (absP S) (fileB logB (absL L).last)) (lSync (absP S) (fileB logB (absL L).last)); have h2 := HI.out.st; have h3 := pSync_steps (absD S) (absL L); have h4 : S2.steps = (pSync (absD S) (absL L)).2.1.steps := congrArg DA.steps H2.out.2.2.1; have h5 : (absD S).steps = S.steps := rfl; omega
 go_simp; refine Calls.mono (g_append H5.1.disk H5.1.gb (fileB logB (endL L)) (by have := fileB_size ((endL L)); omega) a5 k5 (frameB bs) H5.2.2.2.1 H5.2.2.2.2 (by have := HFL.out; omega)) ?_
 rintro e w6 ⟨rfl, S6, hD, hF, hG⟩; obtain ⟨K1, K2⟩ := H5.1.disked hD hF (H5.1.gb.next (e := eApp (absP S2) ro (fileB logB (endL L)) (frameB bs)) hG HW hst2); have hro : (absD S2).room = ro := H5.1.gb.rm; have hrr : ∀ X, (dDo (absD S2) (fileB logB (endL L)) (eApp (absP S2) ro (fileB logB (endL L)) (frameB bs)) (lApp (absP S2) ro (fileB logB (endL L)) (frameB bs))) = X → dApp (absD S2) (fileB logB (endL L)) (frameB bs) = X := fun X hX => by rw [← hX]; unfold dApp; rw [hro]; rfl
 have H6 : Hid (DL w6 bd bl S6 L2 ro ∧ F3 w w6 S L S6 L2 ∧ BytesV w6 (.slice va bs.length vc) bs ∧ absD S6 = (dApp (absD S2) (fileB logB (endL L)) (frameB bs)).2) := ⟨K1, H5.2.1.trans K2, HI.out.bv.f3 (H5.2.1.trans K2) HI.out.off, by rw [hrr _ rfl]; exact gs_abs hG⟩
 have hE := gI_abs S2 (fileB logB (endL L)) (eApp (absP S2) ro (fileB logB (endL L)) (frameB bs)) (lApp (absP S2) ro (fileB logB (endL L)) (frameB bs)); rw [hE, ← hrr _ rfl]; have hH6 : w6.heap[bl]? = some (.cells (lC L2) 141) := K1.log.log; obtain ⟨d, hd⟩ : ∃ d, d = (dApp (absD S2) (fileB logB (endL L)) (frameB bs)).1 := ⟨_, rfl⟩
 have HDD : Hid (d = (dApp (absD S2) (fileB logB (endL L)) (frameB bs)).1) := hd; rw [← hd]; have hd1 : (d == 0) = true := by rw [hd]; rw [HAS.out]; simpa using hok
 clear H5 hHeld hH5 hD hF hG K1 K2 hE hd HW hrr hro; go_wp2_with fail; refine hK.out _ _ hH6 (fun hHeld => ?_); clear hK K; try simp only [List.getElem_toArray, List.getElem_cons_succ, List.getElem_cons_zero, Act.put, List.setIfInBounds_toArray, List.set_cons_zero, List.set_cons_succ]
 refine wpAnyH_take (i := 13) (v := .int .i64 d) rfl (by kernel_rfl) (by kernel_rfl) (by kernel_rfl) (fun _ _ _ h => h) (Or.inl ⟨by rfl, fun w9 hSw => ?_⟩) hHeld ?_
 · go_simp
 simp only [List.getElem_toArray, List.getElem_cons_succ, List.getElem_cons_zero, Act.put, List.setIfInBounds_toArray, List.set_cons_zero, List.set_cons_succ]; refine wpAnyH_done (by kernel_rfl) ?_ _; have hblen := HI.out.len; go_wp2_with (first
  | (go_at_call 107
     refine Calls.mono (begin_any H6.out.1.log (by rw [H2.out.2.2.2.2.2.1]; have := HI.out.fl; omega) (endL L)) ?_; rintro e w7 ⟨rfl, v7, hL7, hF7⟩; obtain ⟨q1, q2⟩ := H6.out.1.logged hL7 hF7 rfl; obtain ⟨L7, hL7e⟩ : ∃ L7, L7 = setF L2 v7 (L2.fs ++ [endL L]) 0 := ⟨_, rfl⟩
     rw [← hL7e] at q1 q2; have HE7 : Hid (L7 = setF L2 v7 (L2.fs ++ [endL L]) 0) := hL7e; have H7 : Hid (DL w7 bd bl S6 L7 ro ∧ F3 w w7 S L S6 L7 ∧ BytesV w7 (.slice va bs.length vc) bs) := ⟨q1, H6.out.2.1.trans q2, HI.out.bv.f3 (H6.out.2.1.trans q2) HI.out.off⟩
     clear hL7 hF7 q1 q2 hL7e)
  | (go_at_call 58
     refine Calls.mono (bclone_any _ _ H7.out.2.2 (by omega)) ?_; rintro e w8 ⟨v8, rfl, ho8, hb8⟩; obtain ⟨a8, k8, rfl⟩ := row_form ho8; have H8 : Hid (w8.ownsRow w7.heap.size 5 1 (.slice a8 bs.length k8) bs.length (vB bs) ∧ Below w7.heap.size w7 w8) := ⟨ho8, hb8⟩
     clear ho8 hb8)
  | (go_at_call 109
     refine Calls.mono (keep_any (H7.out.1.log.below H8.out.2) (by rw [HE7.out]; show L2.rs.length ≤ _; rw [H2.out.2.2.2.2.2.2.1]; exact HI.out.ln.2) a8 k8 bs (BytesV.of_own H8.out.1) (fun b hb => ⟨H7.out.1.log.fresh b (H8.out.1.lt b (dBlock_own hb)).1, (H8.out.1.lt b (dBlock_own hb)).2⟩) hblen (by rw [HE7.out]; show (0 : Int) ≤ 0 ∧ (0 : Int) ≤ _; omega)) ?_; rintro e w9 ⟨rfl, v9, hL9, hK9⟩; obtain ⟨q1, q2⟩ := H7.out.1.kept_rec H8.out.2 hL9 hK9 (fun b hb => (H8.out.1.lt b (dBlock_own hb)).1) rfl; have H9 : Hid (DL w9 bd bl S6 (addR L7 v9 (.slice a8 bs.length k8, bs)) ro ∧ F3 w w9 S L S6 (addR L7 v9 (.slice a8 bs.length k8, bs))) := ⟨q1, H7.out.2.1.trans q2⟩
     have d6 : w9.cell? ⟨bl, 6, none⟩ = some (.bool L7.uns) := by rw [cell_of_block hL9.log]; rfl
     have f6 : w9.frozen? ⟨bl, 6, none⟩ = false := unfrozen_of_block hL9.log 6; clear hL9 hK9 q1 q2))
 go_ret; obtain ⟨q1, q2⟩ := H9.out.1.log.setU true
 obtain ⟨r1, r2⟩ := H9.out.1.logged q1 q2 rfl; refine ⟨0, S6, setU (addR L7 v9 (.slice a8 bs.length k8, bs)) true, rfl, ⟨?_, ?_, ?_, r1, H9.out.2.trans r2, ?_⟩⟩
 · rw [HR.out]
 · rw [HR.out, H6.out.2.2.2, HAS.out]
 · rw [HR.out]
   show absL _ = pAdd (pSync (absD S) (absL L)).2.2 bs; unfold pAdd; rw [HB2.out.1, HB2.out.2, ← H2.out.2.2.2.1]; rw [HE7.out]; simp [absL, setU, addR, setF]
 · rw [HE7.out]
   exact H2.out.2.2.2.2.1.trans HI.out.nm.symm
end Go.Proofs.YtconkienlcegaaaGreatDoor
