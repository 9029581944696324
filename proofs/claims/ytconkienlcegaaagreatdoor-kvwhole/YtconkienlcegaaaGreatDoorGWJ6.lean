/- WJ5, WJ6 -/
import Derived.Test.YtconkienlcegaaaGreatDoorGWN0
namespace Go.Proofs.YtconkienlcegaaaGreatDoor
open Go.RowKit Go.Maps Go.Joins
set_option linter.unusedSimpArgs false
set_option linter.unusedVariables false
set_option maxRecDepth 100000 in
set_option maxHeartbeats 8000000 in
theorem lappend_old_f {w : World} {bd bl : Nat} {S : DS} {L : LS} {ro : Int} {va : Option Addr} {vc : Nat} {bs : List Int} (hI : AppIn w bd bl S L ro va vc bs) (hfs : ¬ L.fs.length = 0) (hm : ¬ L.most ≤ L.size) {x : Int} (hx : L.fs.getLast? = some x) (hok : ¬ (dApp (absD S) (fileB logB x) (frameB bs)).1 = 0) :
 Calls Tryz.prog 83 #[.pointer (some ⟨bl, 0, none⟩), .slice va bs.length vc] w fun e w' => ∃ c S' L', e = .returned (.int .i64 c) ∧ PR w w' bd bl S L ro (pApp (absD S) (absL L) bs) c S' L' := by
 have HI : Hid (AppIn w bd bl S L ro va vc bs) := hI; have hlen0 := hI.len; have hbig : ¬ 65536 < bs.length := by omega
 have hbg : (absL L).bg = false := by
  rw [absL_bg, decide_eq_false hm, Bool.or_false]; cases hf : L.fs with
  | nil => exact absurd (by rw [hf]; rfl) hfs
  | cons y r => rfl
 have hnum : pNum (absL L) = x := by
  unfold pNum; rw [if_neg (by rw [hbg]; simp)]; show L.fs.getLastD 0 = x; rw [List.getLastD_eq_getLast?, hx]; rfl
 have hr : pApp (absD S) (absL L) bs = ((dApp (absD S) (fileB logB x) (frameB bs)).1, (dApp (absD S) (fileB logB x) (frameB bs)).2, absL L) := by
  unfold pApp; rw [if_neg hbig, if_neg (by rw [hbg]; simp)]; unfold pPut; rw [hnum, if_neg hok]
 have HR : Hid _ := hr; have HX : Hid (L.fs.getLast? = some x) := hx; have HB2 : Hid ((absL L).bg = false) := hbg; have HAS : Hid (absD S = absD S) := rfl; clear hr hbg hI hlen0 hbig hnum hx; obtain ⟨fa, fc, c3, c5, c2⟩ := HI.out.cells; have hl3 : ((L.fs.length : Int) == 0) = false := by simpa using hfs
 have hmm : decide (L.most ≤ L.size) = false := by simp; omega
 have hblen := HI.out.len; have hb2 : decide ((65536 : Int) < bs.length) = false := by simp; omega
 clear hblen; go_enter Tryz.func83, Tryz.ntmps83; go_wp2_with fail; go_quiet (fail); go_wp2_with (first
  | (go_at_call 42
     refine Calls.mono (end_any (HI.out.dl.log.below (below_drewN' _ _)) HI.out.ln) ?_; rintro e w1 ⟨rfl, hm1⟩; have H1 : Hid (DL w1 bd bl S L ro ∧ F3 w w1 S L S L) := (by
      obtain ⟨m, rfl⟩ := hm1; exact ⟨HI.out.dl.below ⟨rfl, rfl, rfl, Nat.le_refl _, fun _ _ => rfl⟩, F3.below ⟨rfl, rfl, rfl, Nat.le_refl _, fun _ _ => rfl⟩⟩)
     clear hm1)
  | (go_at_call 115
     refine Calls.mono (last_any H1.out.1.log HX.out) ?_; rintro e w2 ⟨rfl, hm2⟩; have H2 : Hid (DL w2 bd bl S L ro ∧ F3 w w2 S L S L ∧ absD S = absD S ∧ absL L = absL L ∧ L.nm = logB) := (by
      obtain ⟨m, rfl⟩ := hm2; exact ⟨H1.out.1.below (below_drewN' _ _), H1.out.2.trans (F3.below (below_drewN' _ _)), rfl, rfl, HI.out.nm⟩)
     clear hm2 H1))
 have HL2 : Hid (BytesV w2 (.slice va bs.length vc) bs) := HI.out.bv.f3 H2.out.2.1 HI.out.off; refine wp_region_held_drew (S := fun w' => w'.heap[bl]? = some (.cells (lC L) 141)) (by kernel_rfl) H2.out.1.log.log (fun hHeld => ?_); refine wpAnyH_take (i := 0) (v := .pointer (some ⟨bl, 0, none⟩)) rfl (by kernel_rfl) (by kernel_rfl) (by kernel_rfl) (fun _ _ _ h => h) (Or.inl ⟨by rfl, fun w9 hSw => ?_⟩) hHeld ?_
 · go_simp
 simp only [List.getElem_toArray, List.getElem_cons_succ, List.getElem_cons_zero, Act.put, List.setIfInBounds_toArray, List.set_cons_zero, List.set_cons_succ]; refine wpAnyH_take (i := 1) (v := .pointer (some ⟨bl, 0, none⟩)) rfl (by kernel_rfl) (by kernel_rfl) (by kernel_rfl) (fun _ _ _ h => h) (Or.inl ⟨by rfl, fun w9 hSw => ?_⟩) hHeld ?_
 · go_simp
 simp only [List.getElem_toArray, List.getElem_cons_succ, List.getElem_cons_zero, Act.put, List.setIfInBounds_toArray, List.set_cons_zero, List.set_cons_succ]; refine wpAnyH_take (i := 2) (v := .pointer (some ⟨bl, 0, none⟩)) rfl (by kernel_rfl) (by kernel_rfl) (by kernel_rfl) (fun _ _ _ h => h) (Or.inl ⟨by rfl, fun w9 hSw => ?_⟩) hHeld ?_
 · go_simp
 simp only [List.getElem_toArray, List.getElem_cons_succ, List.getElem_cons_zero, Act.put, List.setIfInBounds_toArray, List.set_cons_zero, List.set_cons_succ]; refine wpAnyH_take (i := 3) (v := .pointer (some ⟨bd, 0, none⟩)) rfl (by kernel_rfl) (by kernel_rfl) (by kernel_rfl) (fun _ _ _ h => h) (Or.inl ⟨by rfl, fun w9 hSw => ?_⟩) hHeld ?_
 · have hc : w9.cell? ⟨bl, 0, none⟩ = some (.pointer (some ⟨bd, 0, none⟩)) := (cell_of_block hSw 0).trans (by show some (Value.pointer (some ⟨L.bd, 0, none⟩)) = _; rw [H2.out.1.bdq])
   go_simp
 simp only [List.getElem_toArray, List.getElem_cons_succ, List.getElem_cons_zero, Act.put, List.setIfInBounds_toArray, List.set_cons_zero, List.set_cons_succ]; refine wpAnyH_take (i := 4) (v := .pointer (some ⟨bl, 0, none⟩)) rfl (by kernel_rfl) (by kernel_rfl) (by kernel_rfl) (fun _ _ _ h => h) (Or.inl ⟨by rfl, fun w9 hSw => ?_⟩) hHeld ?_
 · go_simp
 simp only [List.getElem_toArray, List.getElem_cons_succ, List.getElem_cons_zero, Act.put, List.setIfInBounds_toArray, List.set_cons_zero, List.set_cons_succ]; refine wpAnyH_take (i := 5) (v := .pointer (some ⟨bl, 0, none⟩)) rfl (by kernel_rfl) (by kernel_rfl) (by kernel_rfl) (fun _ _ _ h => h) (Or.inl ⟨by rfl, fun w9 hSw => ?_⟩) hHeld ?_
 · go_simp
 simp only [List.getElem_toArray, List.getElem_cons_succ, List.getElem_cons_zero, Act.put, List.setIfInBounds_toArray, List.set_cons_zero, List.set_cons_succ]; refine wpAnyH_take (i := 6) (v := .pointer (some ⟨bl, 1, none⟩)) rfl (by kernel_rfl) (by kernel_rfl) (by kernel_rfl) (fun _ _ _ h => h) (Or.inl ⟨by rfl, fun w9 hSw => ?_⟩) hHeld ?_
 · go_simp
 simp only [List.getElem_toArray, List.getElem_cons_succ, List.getElem_cons_zero, Act.put, List.setIfInBounds_toArray, List.set_cons_zero, List.set_cons_succ]; refine wpAnyH_take (i := 7) (v := .string logB) rfl (by kernel_rfl) (by kernel_rfl) (by kernel_rfl) (fun _ _ _ h => h) (Or.inl ⟨by rfl, fun w9 hSw => ?_⟩) hHeld ?_
 · have hc : w9.cell? ⟨bl, 1, none⟩ = some (.string logB) := (cell_of_block hSw 1).trans (by show some (Value.string L.nm) = _; rw [H2.out.2.2.2.2])
   go_simp
 simp only [List.getElem_toArray, List.getElem_cons_succ, List.getElem_cons_zero, Act.put, List.setIfInBounds_toArray, List.set_cons_zero, List.set_cons_succ]; refine wpAnyH_take (i := 8) (v := .int .i64 x) rfl (by kernel_rfl) (by kernel_rfl) (by kernel_rfl) (fun _ _ _ h => h) (Or.inl ⟨by rfl, fun w9 hSw => ?_⟩) hHeld ?_
 · go_simp
 simp only [List.getElem_toArray, List.getElem_cons_succ, List.getElem_cons_zero, Act.put, List.setIfInBounds_toArray, List.set_cons_zero, List.set_cons_succ]; refine wpAnyH_take (i := 10) (v := .slice va bs.length vc) rfl (by kernel_rfl) (by kernel_rfl) (by kernel_rfl) (fun _ _ _ h => h) (Or.inl ⟨by rfl, fun w9 hSw => ?_⟩) hHeld ?_
 · go_simp
 simp only [List.getElem_toArray, List.getElem_cons_succ, List.getElem_cons_zero, Act.put, List.setIfInBounds_toArray, List.set_cons_zero, List.set_cons_succ]; refine wpAnyH_ready (rs := [9]) (by kernel_rfl) (by simp) ?_; refine AllReadyH.cons rfl (fun K hK => ?_) AllReadyH.nil; have H3 : DL w2.drew bd bl S L ro ∧ F3 w w2.drew S L S L ∧ BytesV w2.drew (.slice va bs.length vc) bs := ⟨H2.out.1.below ⟨rfl, rfl, rfl, Nat.le_refl _, fun _ _ => rfl⟩, H2.out.2.1.trans (F3.below ⟨rfl, rfl, rfl, Nat.le_refl _, fun _ _ => rfl⟩), HL2.out.keep (fun _ _ => rfl)⟩
 generalize w2.drew = w3 at hHeld H3 ⊢; go_simp; refine Calls.mono (file_any H3.1.vars logB (by decide) x) ?_; rintro e w4 ⟨rfl, hb4⟩; have H4 : DL w4 bd bl S L ro ∧ F3 w w4 S L S L ∧ BytesV w4 (.slice va bs.length vc) bs := ⟨H3.1.below hb4, H3.2.1.trans (F3.below hb4), H3.2.2.below hb4⟩
 have hH4 : w4.heap[bl]? = some (.cells (lC L) 141) := H4.1.log.log; clear H3 hHeld hb4; go_wp2_with fail; refine hK.out _ _ hH4 (fun hHeld => ?_); clear hK K; try simp only [List.getElem_toArray, List.getElem_cons_succ, List.getElem_cons_zero, Act.put, List.setIfInBounds_toArray, List.set_cons_zero, List.set_cons_succ]
 refine wpAnyH_ready (rs := [11]) (by kernel_rfl) (by simp) ?_; refine AllReadyH.cons rfl (fun K hK => ?_) AllReadyH.nil; have hblen := HI.out.len; go_simp; refine Calls.mono (frame_any H4.1.vars.half va vc bs H4.2.2 (by omega)) ?_; rintro e w5 ⟨v5, rfl, ho5, hb5⟩; obtain ⟨a5, k5, rfl⟩ := row_form ho5; have H5 : DL w5 bd bl S L ro ∧ F3 w w5 S L S L ∧ BytesV w5 (.slice va bs.length vc) bs ∧ BytesV w5 (.slice a5 (frameB bs).length k5) (frameB bs) ∧ (∀ b, dBlock (.slice a5 (frameB bs).length k5) (frameB bs) = some b → S.role b = .none) := ⟨H4.1.below hb5, H4.2.1.trans (F3.below hb5), H4.2.2.below hb5, BytesV.of_own ho5, fun b hb => H4.1.disk.fresh b (ho5.lt b (dBlock_own hb)).1⟩
 have hH5 : w5.heap[bl]? = some (.cells (lC L) 141) := H5.1.log.log; clear H4 hHeld hH4 ho5 hb5; go_wp2_with fail; refine hK.out _ _ hH5 (fun hHeld => ?_); clear hK K; try simp only [List.getElem_toArray, List.getElem_cons_succ, List.getElem_cons_zero, Act.put, List.setIfInBounds_toArray, List.set_cons_zero, List.set_cons_succ]
 refine wpAnyH_ready (rs := [12]) (by kernel_rfl) (by simp) ?_; refine AllReadyH.cons rfl (fun K hK => ?_) AllReadyH.nil; have HW := app_wf H5.1.disk.srt H5.1.gb.wf (fileB logB x) (frameB bs); have HFL : Hid ((frameB bs).length = 12 + bs.length) := frameB_length bs; have hst2 : S.steps < 4611686018427387903 := by have := HI.out.st; omega
 go_simp; refine Calls.mono (g_append H5.1.disk H5.1.gb (fileB logB x) (by have := fileB_size (x); omega) a5 k5 (frameB bs) H5.2.2.2.1 H5.2.2.2.2 (by have := HFL.out; omega)) ?_
 rintro e w6 ⟨rfl, S6, hD, hF, hG⟩; obtain ⟨K1, K2⟩ := H5.1.disked hD hF (H5.1.gb.next (e := eApp (absP S) ro (fileB logB x) (frameB bs)) hG HW hst2); have hro : (absD S).room = ro := H5.1.gb.rm; have hrr : ∀ X, (dDo (absD S) (fileB logB x) (eApp (absP S) ro (fileB logB x) (frameB bs)) (lApp (absP S) ro (fileB logB x) (frameB bs))) = X → dApp (absD S) (fileB logB x) (frameB bs) = X := fun X hX => by rw [← hX]; unfold dApp; rw [hro]; rfl
 have H6 : Hid (DL w6 bd bl S6 L ro ∧ F3 w w6 S L S6 L ∧ BytesV w6 (.slice va bs.length vc) bs ∧ absD S6 = (dApp (absD S) (fileB logB x) (frameB bs)).2) := ⟨K1, H5.2.1.trans K2, HI.out.bv.f3 (H5.2.1.trans K2) HI.out.off, by rw [hrr _ rfl]; exact gs_abs hG⟩
 have hE := gI_abs S (fileB logB x) (eApp (absP S) ro (fileB logB x) (frameB bs)) (lApp (absP S) ro (fileB logB x) (frameB bs)); rw [hE, ← hrr _ rfl]; have hH6 : w6.heap[bl]? = some (.cells (lC L) 141) := K1.log.log; obtain ⟨d, hd⟩ : ∃ d, d = (dApp (absD S) (fileB logB x) (frameB bs)).1 := ⟨_, rfl⟩
 have HDD : Hid (d = (dApp (absD S) (fileB logB x) (frameB bs)).1) := hd; rw [← hd]; have hd1 : (d == 0) = false := by rw [hd]; simpa using hok
 clear H5 hHeld hH5 hD hF hG K1 K2 hE hd HW hrr hro; go_wp2_with fail; refine hK.out _ _ hH6 (fun hHeld => ?_); clear hK K; try simp only [List.getElem_toArray, List.getElem_cons_succ, List.getElem_cons_zero, Act.put, List.setIfInBounds_toArray, List.set_cons_zero, List.set_cons_succ]
 refine wpAnyH_take (i := 13) (v := .int .i64 d) rfl (by kernel_rfl) (by kernel_rfl) (by kernel_rfl) (fun _ _ _ h => h) (Or.inl ⟨by rfl, fun w9 hSw => ?_⟩) hHeld ?_
 · go_simp
 simp only [List.getElem_toArray, List.getElem_cons_succ, List.getElem_cons_zero, Act.put, List.setIfInBounds_toArray, List.set_cons_zero, List.set_cons_succ]; refine wpAnyH_done (by kernel_rfl) ?_ _; go_wp2; go_ret; rw [HR.out]; exact ⟨d, S6, L, rfl, ⟨HDD.out, H6.out.2.2.2, rfl, H6.out.1, H6.out.2.1, rfl⟩⟩
set_option maxRecDepth 100000 in
set_option maxHeartbeats 8000000 in
theorem lappend_old_t {w : World} {bd bl : Nat} {S : DS} {L : LS} {ro : Int} {va : Option Addr} {vc : Nat} {bs : List Int} (hI : AppIn w bd bl S L ro va vc bs) (hfs : ¬ L.fs.length = 0) (hm : ¬ L.most ≤ L.size) {x : Int} (hx : L.fs.getLast? = some x) (hok : (dApp (absD S) (fileB logB x) (frameB bs)).1 = 0) :
 Calls Tryz.prog 83 #[.pointer (some ⟨bl, 0, none⟩), .slice va bs.length vc] w fun e w' => ∃ c S' L', e = .returned (.int .i64 c) ∧ PR w w' bd bl S L ro (pApp (absD S) (absL L) bs) c S' L' := by
 have HI : Hid (AppIn w bd bl S L ro va vc bs) := hI; have hlen0 := hI.len; have hbig : ¬ 65536 < bs.length := by omega
 have hbg : (absL L).bg = false := by
  rw [absL_bg, decide_eq_false hm, Bool.or_false]; cases hf : L.fs with
  | nil => exact absurd (by rw [hf]; rfl) hfs
  | cons y r => rfl
 have hnum : pNum (absL L) = x := by
  unfold pNum; rw [if_neg (by rw [hbg]; simp)]; show L.fs.getLastD 0 = x; rw [List.getLastD_eq_getLast?, hx]; rfl
 have hr : pApp (absD S) (absL L) bs = (0, (dApp (absD S) (fileB logB x) (frameB bs)).2, pAdd (absL L) bs) := by
  unfold pApp; rw [if_neg hbig, if_neg (by rw [hbg]; simp)]; unfold pPut; rw [hnum, if_pos hok]
 have HR : Hid _ := hr; have HX : Hid (L.fs.getLast? = some x) := hx; have HB2 : Hid ((absL L).bg = false) := hbg; have HAS : Hid (absD S = absD S) := rfl; clear hr hbg hI hlen0 hbig hnum hx; obtain ⟨fa, fc, c3, c5, c2⟩ := HI.out.cells; have hl3 : ((L.fs.length : Int) == 0) = false := by simpa using hfs
 have hmm : decide (L.most ≤ L.size) = false := by simp; omega
 have hblen := HI.out.len; have hb2 : decide ((65536 : Int) < bs.length) = false := by simp; omega
 clear hblen; go_enter Tryz.func83, Tryz.ntmps83; go_wp2_with fail; go_quiet (fail); go_wp2_with (first
  | (go_at_call 42
     refine Calls.mono (end_any (HI.out.dl.log.below (below_drewN' _ _)) HI.out.ln) ?_; rintro e w1 ⟨rfl, hm1⟩; have H1 : Hid (DL w1 bd bl S L ro ∧ F3 w w1 S L S L) := (by
      obtain ⟨m, rfl⟩ := hm1; exact ⟨HI.out.dl.below ⟨rfl, rfl, rfl, Nat.le_refl _, fun _ _ => rfl⟩, F3.below ⟨rfl, rfl, rfl, Nat.le_refl _, fun _ _ => rfl⟩⟩)
     clear hm1)
  | (go_at_call 115
     refine Calls.mono (last_any H1.out.1.log HX.out) ?_; rintro e w2 ⟨rfl, hm2⟩; have H2 : Hid (DL w2 bd bl S L ro ∧ F3 w w2 S L S L ∧ absD S = absD S ∧ absL L = absL L ∧ L.nm = logB) := (by
      obtain ⟨m, rfl⟩ := hm2; exact ⟨H1.out.1.below (below_drewN' _ _), H1.out.2.trans (F3.below (below_drewN' _ _)), rfl, rfl, HI.out.nm⟩)
     clear hm2 H1))
 have HL2 : Hid (BytesV w2 (.slice va bs.length vc) bs) := HI.out.bv.f3 H2.out.2.1 HI.out.off; refine wp_region_held_drew (S := fun w' => w'.heap[bl]? = some (.cells (lC L) 141)) (by kernel_rfl) H2.out.1.log.log (fun hHeld => ?_); refine wpAnyH_take (i := 0) (v := .pointer (some ⟨bl, 0, none⟩)) rfl (by kernel_rfl) (by kernel_rfl) (by kernel_rfl) (fun _ _ _ h => h) (Or.inl ⟨by rfl, fun w9 hSw => ?_⟩) hHeld ?_
 · go_simp
 simp only [List.getElem_toArray, List.getElem_cons_succ, List.getElem_cons_zero, Act.put, List.setIfInBounds_toArray, List.set_cons_zero, List.set_cons_succ]; refine wpAnyH_take (i := 1) (v := .pointer (some ⟨bl, 0, none⟩)) rfl (by kernel_rfl) (by kernel_rfl) (by kernel_rfl) (fun _ _ _ h => h) (Or.inl ⟨by rfl, fun w9 hSw => ?_⟩) hHeld ?_
 · go_simp
 simp only [List.getElem_toArray, List.getElem_cons_succ, List.getElem_cons_zero, Act.put, List.setIfInBounds_toArray, List.set_cons_zero, List.set_cons_succ]; refine wpAnyH_take (i := 2) (v := .pointer (some ⟨bl, 0, none⟩)) rfl (by kernel_rfl) (by kernel_rfl) (by kernel_rfl) (fun _ _ _ h => h) (Or.inl ⟨by rfl, fun w9 hSw => ?_⟩) hHeld ?_
 · go_simp
 simp only [List.getElem_toArray, List.getElem_cons_succ, List.getElem_cons_zero, Act.put, List.setIfInBounds_toArray, List.set_cons_zero, List.set_cons_succ]; refine wpAnyH_take (i := 3) (v := .pointer (some ⟨bd, 0, none⟩)) rfl (by kernel_rfl) (by kernel_rfl) (by kernel_rfl) (fun _ _ _ h => h) (Or.inl ⟨by rfl, fun w9 hSw => ?_⟩) hHeld ?_
 · have hc : w9.cell? ⟨bl, 0, none⟩ = some (.pointer (some ⟨bd, 0, none⟩)) := (cell_of_block hSw 0).trans (by show some (Value.pointer (some ⟨L.bd, 0, none⟩)) = _; rw [H2.out.1.bdq])
   go_simp
 simp only [List.getElem_toArray, List.getElem_cons_succ, List.getElem_cons_zero, Act.put, List.setIfInBounds_toArray, List.set_cons_zero, List.set_cons_succ]; refine wpAnyH_take (i := 4) (v := .pointer (some ⟨bl, 0, none⟩)) rfl (by kernel_rfl) (by kernel_rfl) (by kernel_rfl) (fun _ _ _ h => h) (Or.inl ⟨by rfl, fun w9 hSw => ?_⟩) hHeld ?_
 · go_simp
 simp only [List.getElem_toArray, List.getElem_cons_succ, List.getElem_cons_zero, Act.put, List.setIfInBounds_toArray, List.set_cons_zero, List.set_cons_succ]; refine wpAnyH_take (i := 5) (v := .pointer (some ⟨bl, 0, none⟩)) rfl (by kernel_rfl) (by kernel_rfl) (by kernel_rfl) (fun _ _ _ h => h) (Or.inl ⟨by rfl, fun w9 hSw => ?_⟩) hHeld ?_
 · go_simp
 simp only [List.getElem_toArray, List.getElem_cons_succ, List.getElem_cons_zero, Act.put, List.setIfInBounds_toArray, List.set_cons_zero, List.set_cons_succ]; refine wpAnyH_take (i := 6) (v := .pointer (some ⟨bl, 1, none⟩)) rfl (by kernel_rfl) (by kernel_rfl) (by kernel_rfl) (fun _ _ _ h => h) (Or.inl ⟨by rfl, fun w9 hSw => ?_⟩) hHeld ?_
 · go_simp
 simp only [List.getElem_toArray, List.getElem_cons_succ, List.getElem_cons_zero, Act.put, List.setIfInBounds_toArray, List.set_cons_zero, List.set_cons_succ]; refine wpAnyH_take (i := 7) (v := .string logB) rfl (by kernel_rfl) (by kernel_rfl) (by kernel_rfl) (fun _ _ _ h => h) (Or.inl ⟨by rfl, fun w9 hSw => ?_⟩) hHeld ?_
 · have hc : w9.cell? ⟨bl, 1, none⟩ = some (.string logB) := (cell_of_block hSw 1).trans (by show some (Value.string L.nm) = _; rw [H2.out.2.2.2.2])
   go_simp
 simp only [List.getElem_toArray, List.getElem_cons_succ, List.getElem_cons_zero, Act.put, List.setIfInBounds_toArray, List.set_cons_zero, List.set_cons_succ]; refine wpAnyH_take (i := 8) (v := .int .i64 x) rfl (by kernel_rfl) (by kernel_rfl) (by kernel_rfl) (fun _ _ _ h => h) (Or.inl ⟨by rfl, fun w9 hSw => ?_⟩) hHeld ?_
 · go_simp
 simp only [List.getElem_toArray, List.getElem_cons_succ, List.getElem_cons_zero, Act.put, List.setIfInBounds_toArray, List.set_cons_zero, List.set_cons_succ]; refine wpAnyH_take (i := 10) (v := .slice va bs.length vc) rfl (by kernel_rfl) (by kernel_rfl) (by kernel_rfl) (fun _ _ _ h => h) (Or.inl ⟨by rfl, fun w9 hSw => ?_⟩) hHeld ?_
 · go_simp
 simp only [List.getElem_toArray, List.getElem_cons_succ, List.getElem_cons_zero, Act.put, List.setIfInBounds_toArray, List.set_cons_zero, List.set_cons_succ]; refine wpAnyH_ready (rs := [9]) (by kernel_rfl) (by simp) ?_; refine AllReadyH.cons rfl (fun K hK => ?_) AllReadyH.nil; have H3 : DL w2.drew bd bl S L ro ∧ F3 w w2.drew S L S L ∧ BytesV w2.drew (.slice va bs.length vc) bs := ⟨H2.out.1.below ⟨rfl, rfl, rfl, Nat.le_refl _, fun _ _ => rfl⟩, H2.out.2.1.trans (F3.below ⟨rfl, rfl, rfl, Nat.le_refl _, fun _ _ => rfl⟩), HL2.out.keep (fun _ _ => rfl)⟩
 generalize w2.drew = w3 at hHeld H3 ⊢; go_simp; refine Calls.mono (file_any H3.1.vars logB (by decide) x) ?_; rintro e w4 ⟨rfl, hb4⟩; have H4 : DL w4 bd bl S L ro ∧ F3 w w4 S L S L ∧ BytesV w4 (.slice va bs.length vc) bs := ⟨H3.1.below hb4, H3.2.1.trans (F3.below hb4), H3.2.2.below hb4⟩
 have hH4 : w4.heap[bl]? = some (.cells (lC L) 141) := H4.1.log.log; clear H3 hHeld hb4; go_wp2_with fail; refine hK.out _ _ hH4 (fun hHeld => ?_); clear hK K; try simp only [List.getElem_toArray, List.getElem_cons_succ, List.getElem_cons_zero, Act.put, List.setIfInBounds_toArray, List.set_cons_zero, List.set_cons_succ]
 refine wpAnyH_ready (rs := [11]) (by kernel_rfl) (by simp) ?_; refine AllReadyH.cons rfl (fun K hK => ?_) AllReadyH.nil; have hblen := HI.out.len; go_simp; refine Calls.mono (frame_any H4.1.vars.half va vc bs H4.2.2 (by omega)) ?_; rintro e w5 ⟨v5, rfl, ho5, hb5⟩; obtain ⟨a5, k5, rfl⟩ := row_form ho5; have H5 : DL w5 bd bl S L ro ∧ F3 w w5 S L S L ∧ BytesV w5 (.slice va bs.length vc) bs ∧ BytesV w5 (.slice a5 (frameB bs).length k5) (frameB bs) ∧ (∀ b, dBlock (.slice a5 (frameB bs).length k5) (frameB bs) = some b → S.role b = .none) := ⟨H4.1.below hb5, H4.2.1.trans (F3.below hb5), H4.2.2.below hb5, BytesV.of_own ho5, fun b hb => H4.1.disk.fresh b (ho5.lt b (dBlock_own hb)).1⟩
 have hH5 : w5.heap[bl]? = some (.cells (lC L) 141) := H5.1.log.log; clear H4 hHeld hH4 ho5 hb5; go_wp2_with fail; refine hK.out _ _ hH5 (fun hHeld => ?_); clear hK K; try simp only [List.getElem_toArray, List.getElem_cons_succ, List.getElem_cons_zero, Act.put, List.setIfInBounds_toArray, List.set_cons_zero, List.set_cons_succ]
 refine wpAnyH_ready (rs := [12]) (by kernel_rfl) (by simp) ?_; refine AllReadyH.cons rfl (fun K hK => ?_) AllReadyH.nil; have HW := app_wf H5.1.disk.srt H5.1.gb.wf (fileB logB x) (frameB bs); have HFL : Hid ((frameB bs).length = 12 + bs.length) := frameB_length bs; have hst2 : S.steps < 4611686018427387903 := by have := HI.out.st; omega
 go_simp; refine Calls.mono (g_append H5.1.disk H5.1.gb (fileB logB x) (by have := fileB_size (x); omega) a5 k5 (frameB bs) H5.2.2.2.1 H5.2.2.2.2 (by have := HFL.out; omega)) ?_
 rintro e w6 ⟨rfl, S6, hD, hF, hG⟩; obtain ⟨K1, K2⟩ := H5.1.disked hD hF (H5.1.gb.next (e := eApp (absP S) ro (fileB logB x) (frameB bs)) hG HW hst2); have hro : (absD S).room = ro := H5.1.gb.rm; have hrr : ∀ X, (dDo (absD S) (fileB logB x) (eApp (absP S) ro (fileB logB x) (frameB bs)) (lApp (absP S) ro (fileB logB x) (frameB bs))) = X → dApp (absD S) (fileB logB x) (frameB bs) = X := fun X hX => by rw [← hX]; unfold dApp; rw [hro]; rfl
 have H6 : Hid (DL w6 bd bl S6 L ro ∧ F3 w w6 S L S6 L ∧ BytesV w6 (.slice va bs.length vc) bs ∧ absD S6 = (dApp (absD S) (fileB logB x) (frameB bs)).2) := ⟨K1, H5.2.1.trans K2, HI.out.bv.f3 (H5.2.1.trans K2) HI.out.off, by rw [hrr _ rfl]; exact gs_abs hG⟩
 have hE := gI_abs S (fileB logB x) (eApp (absP S) ro (fileB logB x) (frameB bs)) (lApp (absP S) ro (fileB logB x) (frameB bs)); rw [hE, ← hrr _ rfl]; have hH6 : w6.heap[bl]? = some (.cells (lC L) 141) := K1.log.log; obtain ⟨d, hd⟩ : ∃ d, d = (dApp (absD S) (fileB logB x) (frameB bs)).1 := ⟨_, rfl⟩
 have HDD : Hid (d = (dApp (absD S) (fileB logB x) (frameB bs)).1) := hd; rw [← hd]; have hd1 : (d == 0) = true := by rw [hd]; simpa using hok
 clear H5 hHeld hH5 hD hF hG K1 K2 hE hd HW hrr hro; go_wp2_with fail; refine hK.out _ _ hH6 (fun hHeld => ?_); clear hK K; try simp only [List.getElem_toArray, List.getElem_cons_succ, List.getElem_cons_zero, Act.put, List.setIfInBounds_toArray, List.set_cons_zero, List.set_cons_succ]
 refine wpAnyH_take (i := 13) (v := .int .i64 d) rfl (by kernel_rfl) (by kernel_rfl) (by kernel_rfl) (fun _ _ _ h => h) (Or.inl ⟨by rfl, fun w9 hSw => ?_⟩) hHeld ?_
 · go_simp
 simp only [List.getElem_toArray, List.getElem_cons_succ, List.getElem_cons_zero, Act.put, List.setIfInBounds_toArray, List.set_cons_zero, List.set_cons_succ]; refine wpAnyH_done (by kernel_rfl) ?_ _; have hblen := HI.out.len; obtain ⟨L7, hL7e⟩ : ∃ L7, L7 = L := ⟨_, rfl⟩
 obtain ⟨w7, hw7e⟩ : ∃ w7, w7 = w6 := ⟨_, rfl⟩
 have HE7 : Hid (L7 = L) := hL7e; have H7 : Hid (DL w7 bd bl S6 L7 ro ∧ F3 w w7 S L S6 L7 ∧ BytesV w7 (.slice va bs.length vc) bs) := by rw [hL7e, hw7e]; exact ⟨H6.out.1, H6.out.2.1, H6.out.2.2.1⟩
 rw [← hw7e]; clear hL7e hw7e; go_wp2_with (first
  | (go_at_call 58
     refine Calls.mono (bclone_any _ _ H7.out.2.2 (by omega)) ?_; rintro e w8 ⟨v8, rfl, ho8, hb8⟩; obtain ⟨a8, k8, rfl⟩ := row_form ho8; have H8 : Hid (w8.ownsRow w7.heap.size 5 1 (.slice a8 bs.length k8) bs.length (vB bs) ∧ Below w7.heap.size w7 w8) := ⟨ho8, hb8⟩
     clear ho8 hb8)
  | (go_at_call 109
     refine Calls.mono (keep_any (H7.out.1.log.below H8.out.2) (by rw [HE7.out]; exact HI.out.ln.2) a8 k8 bs (BytesV.of_own H8.out.1) (fun b hb => ⟨H7.out.1.log.fresh b (H8.out.1.lt b (dBlock_own hb)).1, (H8.out.1.lt b (dBlock_own hb)).2⟩) hblen (by rw [HE7.out]; exact HI.out.sz)) ?_; rintro e w9 ⟨rfl, v9, hL9, hK9⟩; obtain ⟨q1, q2⟩ := H7.out.1.kept_rec H8.out.2 hL9 hK9 (fun b hb => (H8.out.1.lt b (dBlock_own hb)).1) rfl; have H9 : Hid (DL w9 bd bl S6 (addR L7 v9 (.slice a8 bs.length k8, bs)) ro ∧ F3 w w9 S L S6 (addR L7 v9 (.slice a8 bs.length k8, bs))) := ⟨q1, H7.out.2.1.trans q2⟩
     have d6 : w9.cell? ⟨bl, 6, none⟩ = some (.bool L7.uns) := by rw [cell_of_block hL9.log]; rfl
     have f6 : w9.frozen? ⟨bl, 6, none⟩ = false := unfrozen_of_block hL9.log 6; clear hL9 hK9 q1 q2))
 go_ret; obtain ⟨q1, q2⟩ := H9.out.1.log.setU true
 obtain ⟨r1, r2⟩ := H9.out.1.logged q1 q2 rfl; refine ⟨0, S6, setU (addR L7 v9 (.slice a8 bs.length k8, bs)) true, rfl, ⟨?_, ?_, ?_, r1, H9.out.2.trans r2, ?_⟩⟩
 · rw [HR.out]
 · rw [HR.out, H6.out.2.2.2]
 · rw [HR.out]
   show absL _ = pAdd (absL L) bs; unfold pAdd; rw [HB2.out, HE7.out]; simp [absL, setU, addR]
 · rw [HE7.out]
   rfl
end Go.Proofs.YtconkienlcegaaaGreatDoor
