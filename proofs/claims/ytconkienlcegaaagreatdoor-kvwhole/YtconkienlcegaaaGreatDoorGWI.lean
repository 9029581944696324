/- WH, WI -/
import Derived.Test.YtconkienlcegaaaGreatDoorGWG
namespace Go.Proofs.YtconkienlcegaaaGreatDoor
open Go.RowKit Go.Maps Go.Joins
set_option linter.unusedSimpArgs false
set_option linter.unusedVariables false
def setU (L : LS) (u : Bool) : LS := { L with uns := u }
theorem LogIs.setU {w : World} {bl : Nat} {L : LS} (h : LogIs w bl L) (u : Bool) : LogIs (w.setCell ⟨bl, 6, none⟩ (.bool u)) bl (setU L u) ∧ LFr w (w.setCell ⟨bl, 6, none⟩ (.bool u)) L (Proofs.YtconkienlcegaaaGreatDoor.setU L u) := by
 have hk : ∀ b, b ≠ bl → (w.setCell ⟨bl, 6, none⟩ (.bool u)).heap[b]? = w.heap[b]? := fun b hb => Below.heap_setCell _ _ _ _ hb
 have hne : ∀ b, L.own b ≠ 1 → b ≠ bl := fun b h1 e => h1 (by rw [e]; exact h.rl)
 refine ⟨⟨?_, h.rl, ownsRow_heap h.files (fun b hb => hk b (hne b (by rw [h.rf b hb]; simp))), h.rf, ownsRow_heap h.recs (fun b hb => hk b (hne b (by rw [h.rr b hb]; simp))), h.rr, fun p hp => (h.each p hp).keep (fun b hb => hk b (hne b (by rw [h.re p hp b hb]; simp))), h.re, fun b hb => h.fresh b (by simpa using hb)⟩, rfl, rfl, rfl, by simp, fun b h0 h1 => hk b (hne b (by rw [h1]; simp)), fun b h0 h1 => h1⟩; rw [block_setCell h.log]; simp [lC, Proofs.YtconkienlcegaaaGreatDoor.setU]
set_option maxHeartbeats 1000000 in
theorem lsync_clean {w : World} {bd bl : Nat} {S : DS} {L : LS} {ro : Int} (h : DL w bd bl S L ro) (hu : L.uns = false) : Calls Tryz.prog 84 #[.pointer (some ⟨bl, 0, none⟩)] w fun e w' => e = .returned (.int .i64 0) ∧ w' = w := by
 have c6 : w.cell? ⟨bl, 6, none⟩ = some (.bool false) := by rw [cell_of_block h.log.log]; show some (Value.bool L.uns) = _; rw [hu]
 clear h; go_enter Tryz.func84, Tryz.ntmps84; go_wp2; go_ret; exact ⟨rfl, rfl⟩
set_option maxRecDepth 100000 in
set_option maxHeartbeats 4000000 in
theorem lsync_dirty {w : World} {bd bl : Nat} {S : DS} {L : LS} {ro : Int} (h : DL w bd bl S L ro) (hu : L.uns = true) {x : Int} (hx : L.fs.getLast? = some x) (hnm : L.nm = logB) (hst : S.steps < 4611686018427387903) :
 Calls Tryz.prog 84 #[.pointer (some ⟨bl, 0, none⟩)] w fun e w' => ∃ S' c, e = .returned (.int .i64 c) ∧ c = (dSync (absD S) (fileB logB x)).1 ∧ absD S' = (dSync (absD S) (fileB logB x)).2 ∧ DL w' bd bl S' (setU L (decide (c ≠ 0))) ro ∧ F3 w w' S L S' (setU L (decide (c ≠ 0))) := by
 have c6 : w.cell? ⟨bl, 6, none⟩ = some (.bool true) := by rw [cell_of_block h.log.log]; show some (Value.bool L.uns) = _; rw [hu]
 have HH : Hid (DL w bd bl S L ro ∧ L.fs.getLast? = some x ∧ L.nm = logB ∧ L.uns = true) := ⟨h, hx, hnm, hu⟩
 have hB0 : L.bd = bd := h.bdq; clear h hx hnm hu; go_enter Tryz.func84, Tryz.ntmps84; go_wp2_with fail; refine wp_region_held_drew (S := fun w' => w'.heap[bl]? = some (.cells (lC L) 141)) (by kernel_rfl) HH.out.1.log.log (fun hHeld => ?_); refine wpAnyH_take (i := 0) (v := .pointer (some ⟨bl, 0, none⟩)) rfl (by kernel_rfl) (by kernel_rfl) (by kernel_rfl) (fun _ _ _ h => h) (Or.inl ⟨by rfl, fun w9 hSw => ?_⟩) hHeld ?_
 · go_simp
 simp only [List.getElem_toArray, List.getElem_cons_succ, List.getElem_cons_zero, Act.put, List.setIfInBounds_toArray, List.set_cons_zero, List.set_cons_succ]; refine wpAnyH_take (i := 1) (v := .pointer (some ⟨bl, 0, none⟩)) rfl (by kernel_rfl) (by kernel_rfl) (by kernel_rfl) (fun _ _ _ h => h) (Or.inl ⟨by rfl, fun w9 hSw => ?_⟩) hHeld ?_
 · go_simp
 simp only [List.getElem_toArray, List.getElem_cons_succ, List.getElem_cons_zero, Act.put, List.setIfInBounds_toArray, List.set_cons_zero, List.set_cons_succ]; refine wpAnyH_take (i := 2) (v := .pointer (some ⟨bl, 0, none⟩)) rfl (by kernel_rfl) (by kernel_rfl) (by kernel_rfl) (fun _ _ _ h => h) (Or.inl ⟨by rfl, fun w9 hSw => ?_⟩) hHeld ?_
 · go_simp
 simp only [List.getElem_toArray, List.getElem_cons_succ, List.getElem_cons_zero, Act.put, List.setIfInBounds_toArray, List.set_cons_zero, List.set_cons_succ]; refine wpAnyH_take (i := 3) (v := .pointer (some ⟨bd, 0, none⟩)) rfl (by kernel_rfl) (by kernel_rfl) (by kernel_rfl) (fun _ _ _ h => h) (Or.inl ⟨by rfl, fun w9 hSw => ?_⟩) hHeld ?_
 · have hc : w9.cell? ⟨bl, 0, none⟩ = some (.pointer (some ⟨bd, 0, none⟩)) := (cell_of_block hSw 0).trans (by show some (Value.pointer (some ⟨L.bd, 0, none⟩)) = _; rw [hB0])
   go_simp
 simp only [List.getElem_toArray, List.getElem_cons_succ, List.getElem_cons_zero, Act.put, List.setIfInBounds_toArray, List.set_cons_zero, List.set_cons_succ]; refine wpAnyH_take (i := 4) (v := .pointer (some ⟨bl, 0, none⟩)) rfl (by kernel_rfl) (by kernel_rfl) (by kernel_rfl) (fun _ _ _ h => h) (Or.inl ⟨by rfl, fun w9 hSw => ?_⟩) hHeld ?_
 · go_simp
 simp only [List.getElem_toArray, List.getElem_cons_succ, List.getElem_cons_zero, Act.put, List.setIfInBounds_toArray, List.set_cons_zero, List.set_cons_succ]; refine wpAnyH_take (i := 5) (v := .pointer (some ⟨bl, 0, none⟩)) rfl (by kernel_rfl) (by kernel_rfl) (by kernel_rfl) (fun _ _ _ h => h) (Or.inl ⟨by rfl, fun w9 hSw => ?_⟩) hHeld ?_
 · go_simp
 simp only [List.getElem_toArray, List.getElem_cons_succ, List.getElem_cons_zero, Act.put, List.setIfInBounds_toArray, List.set_cons_zero, List.set_cons_succ]; refine wpAnyH_take (i := 6) (v := .pointer (some ⟨bl, 1, none⟩)) rfl (by kernel_rfl) (by kernel_rfl) (by kernel_rfl) (fun _ _ _ h => h) (Or.inl ⟨by rfl, fun w9 hSw => ?_⟩) hHeld ?_
 · go_simp
 simp only [List.getElem_toArray, List.getElem_cons_succ, List.getElem_cons_zero, Act.put, List.setIfInBounds_toArray, List.set_cons_zero, List.set_cons_succ]; refine wpAnyH_take (i := 7) (v := .string logB) rfl (by kernel_rfl) (by kernel_rfl) (by kernel_rfl) (fun _ _ _ h => h) (Or.inl ⟨by rfl, fun w9 hSw => ?_⟩) hHeld ?_
 · have hc : w9.cell? ⟨bl, 1, none⟩ = some (.string logB) := (cell_of_block hSw 1).trans (by show some (Value.string L.nm) = _; rw [HH.out.2.2.1])
   go_simp
 simp only [List.getElem_toArray, List.getElem_cons_succ, List.getElem_cons_zero, Act.put, List.setIfInBounds_toArray, List.set_cons_zero, List.set_cons_succ]; refine wpAnyH_take (i := 8) (v := .pointer (some ⟨bl, 0, none⟩)) rfl (by kernel_rfl) (by kernel_rfl) (by kernel_rfl) (fun _ _ _ h => h) (Or.inl ⟨by rfl, fun w9 hSw => ?_⟩) hHeld ?_
 · go_simp
 simp only [List.getElem_toArray, List.getElem_cons_succ, List.getElem_cons_zero, Act.put, List.setIfInBounds_toArray, List.set_cons_zero, List.set_cons_succ]; refine wpAnyH_ready (rs := [9]) (by kernel_rfl) (by simp) ?_; refine AllReadyH.cons rfl (fun K hK => ?_) AllReadyH.nil; have H1 : DL w.drew bd bl S L ro ∧ F3 w w.drew S L S L := ⟨HH.out.1.below ⟨rfl, rfl, rfl, Nat.le_refl _, fun _ _ => rfl⟩, F3.below ⟨rfl, rfl, rfl, Nat.le_refl _, fun _ _ => rfl⟩⟩
 generalize w.drew = w1 at hHeld H1 ⊢; go_simp; refine Calls.mono (last_any H1.1.log HH.out.2.1) ?_; rintro e w2 ⟨rfl, m2, rfl⟩; have H2 : DL (w1.drewN m2) bd bl S L ro ∧ F3 w (w1.drewN m2) S L S L := ⟨H1.1.below (below_drewN' _ _), H1.2.trans (F3.below (below_drewN' _ _))⟩
 have hH2 : (w1.drewN m2).heap[bl]? = some (.cells (lC L) 141) := hHeld; generalize w1.drewN m2 = w2 at hH2 H2 ⊢; clear H1 hHeld; go_wp2_with fail; refine hK.out _ _ hH2 (fun hHeld => ?_); clear hK K; try simp only [List.getElem_toArray, List.getElem_cons_succ, List.getElem_cons_zero, Act.put, List.setIfInBounds_toArray, List.set_cons_zero, List.set_cons_succ]
 refine wpAnyH_ready (rs := [10]) (by kernel_rfl) (by simp) ?_; refine AllReadyH.cons rfl (fun K hK => ?_) AllReadyH.nil; go_simp; refine Calls.mono (file_any H2.1.vars logB (by decide) x) ?_; rintro e w3 ⟨rfl, hb3⟩; have H3 : DL w3 bd bl S L ro ∧ F3 w w3 S L S L := ⟨H2.1.below hb3, H2.2.trans (F3.below hb3)⟩
 have hH3 : w3.heap[bl]? = some (.cells (lC L) 141) := H3.1.log.log; clear H2 hHeld hH2 hb3; go_wp2_with fail; refine hK.out _ _ hH3 (fun hHeld => ?_); clear hK K; try simp only [List.getElem_toArray, List.getElem_cons_succ, List.getElem_cons_zero, Act.put, List.setIfInBounds_toArray, List.set_cons_zero, List.set_cons_succ]
 refine wpAnyH_ready (rs := [11]) (by kernel_rfl) (by simp) ?_; refine AllReadyH.cons rfl (fun K hK => ?_) AllReadyH.nil; have HW := sync_wf H3.1.disk.srt H3.1.gb.wf (fileB logB x); go_simp; refine Calls.mono (g_sync H3.1.disk H3.1.gb (fileB logB x) (by have := fileB_size x; omega)) ?_; rintro e w4 ⟨rfl, S', hD, hF, hG⟩; obtain ⟨K1, K2⟩ := H3.1.disked hD hF (H3.1.gb.next (e := eFind (absP S) (fileB logB x)) hG HW hst); have H4 : Hid (DL w4 bd bl S' L ro ∧ F3 w w4 S L S' L ∧ absD S' = (dSync (absD S) (fileB logB x)).2) := ⟨K1, H3.2.trans K2, gs_abs hG⟩
 have hE := gI_abs S (fileB logB x) (eFind (absP S) (fileB logB x)) (lSync (absP S) (fileB logB x)); rw [hE]; have hH4 : w4.heap[bl]? = some (.cells (lC L) 141) := K1.log.log; obtain ⟨c, hc⟩ : ∃ c, c = (dSync (absD S) (fileB logB x)).1 := ⟨_, rfl⟩
 have HC : Hid (c = (dSync (absD S) (fileB logB x)).1) := hc; rw [show (dDo (absD S) (fileB logB x) (eFind (absP S) (fileB logB x)) (lSync (absP S) (fileB logB x))).1 = c from hc.symm]; clear H3 hHeld hH3 hD hF hG K1 K2 hE hc HW; go_wp2_with fail; refine hK.out _ _ hH4 (fun hHeld => ?_); clear hK K; try simp only [List.getElem_toArray, List.getElem_cons_succ, List.getElem_cons_zero, Act.put, List.setIfInBounds_toArray, List.set_cons_zero, List.set_cons_succ]
 refine wpAnyH_take (i := 12) (v := .int .i64 c) rfl (by kernel_rfl) (by kernel_rfl) (by kernel_rfl) (fun _ _ _ h => h) (Or.inl ⟨by rfl, fun w9 hSw => ?_⟩) hHeld ?_
 · go_simp
 simp only [List.getElem_toArray, List.getElem_cons_succ, List.getElem_cons_zero, Act.put, List.setIfInBounds_toArray, List.set_cons_zero, List.set_cons_succ]; refine wpAnyH_done (by kernel_rfl) ?_ _; by_cases hc0 : c = 0
 · have hc1 : (c == 0) = true := by simpa using hc0
   have d6 : w4.cell? ⟨bl, 6, none⟩ = some (.bool true) := by rw [cell_of_block hH4]; show some (Value.bool L.uns) = _; rw [HH.out.2.2.2]
   have f6 : w4.frozen? ⟨bl, 6, none⟩ = false := unfrozen_of_block hH4 6; have HC0 : Hid (c = 0) := hc0; clear hc0 hHeld; go_wp2; go_ret; obtain ⟨q1, q2⟩ := H4.out.1.log.setU false; obtain ⟨r1, r2⟩ := H4.out.1.logged q1 q2 rfl; refine ⟨S', 0, rfl, by rw [← HC.out, HC0.out], H4.out.2.2, ?_, ?_⟩
   · exact r1
   · exact H4.out.2.1.trans r2
 · have hc1 : (c == 0) = false := by simpa using hc0
   have hLL : setU L (decide (c ≠ 0)) = L := by
    have : decide (c ≠ 0) = L.uns := by rw [HH.out.2.2.2]; simpa using hc0
    rw [this]; rfl
   have HLL : Hid (setU L (decide (c ≠ 0)) = L) := hLL; clear hLL hc0; go_wp2; go_ret; refine ⟨S', c, rfl, HC.out, H4.out.2.2, ?_, ?_⟩
   · rw [HLL.out]; exact H4.out.1
   · rw [HLL.out]; exact H4.out.2.1
theorem LogIs.recd {w : World} {bl : Nat} {L : LS} (h : LogIs w bl L) : ∃ a c, L.rv = .slice a L.rs.length c ∧ ∀ j p, L.rs[j]? = some p → ∃ g, a = some ⟨g, 0, none⟩ ∧ w.cell? ⟨g, j, none⟩ = some p.1 := by
 obtain ⟨a, c, e⟩ := row_form h.recs; refine ⟨a, c, e, fun j p hj => ?_⟩; have hl := (List.getElem?_eq_some_iff.1 hj).1; rcases h.recs.2 with ⟨_, h0⟩ | ⟨g, cap', cur, e', _⟩
 · omega
 · rw [e] at e'
   injection e' with e1 e2 e3
   subst e1; have h0 := h.recs.cells (g := g) (by rw [e]; rfl) j p.1 (by rw [List.getElem?_map, hj]; rfl); rw [Addr.add_lit, Nat.zero_add] at h0; exact ⟨g, rfl, h0⟩
set_option maxRecDepth 100000 in
set_option maxHeartbeats 4000000 in
theorem get_here {w : World} {bl : Nat} {L : LS} (h : LogIs w bl L) (hn : LN L) (k : Nat) (n : Int) (hk : n = fst L + k) {p : Value × List Int} (hp : L.rs[k]? = some p) (hbl : p.2.length ≤ 140737488355328) : Calls Tryz.prog 43 #[.pointer (some ⟨bl, 0, none⟩), .int .i64 n] w fun e w' => ∃ v, e = .returned (.tuple #[v, .int .i64 0]) ∧ w'.ownsRow w.heap.size 5 1 v p.2.length (vB p.2) ∧ Below w.heap.size w w' := by
 have HF : Hid _ := first_any h; have HE : Hid _ := end_any h hn; have hb := hn.fst; have hb2 := hn.2; have hkl := (List.getElem?_eq_some_iff.1 hp).1; have hE : endL L = fst L + L.rs.length := rfl; have HH : Hid (LogIs w bl L ∧ L.rs[k]? = some p) := ⟨h, hp⟩
 obtain ⟨a, c, hrv, hc⟩ := h.recd; obtain ⟨g, rfl, hcell⟩ := hc k p hp; obtain ⟨pa, pl, pc, hpv⟩ : ∃ a l c, p.1 = .slice a l c := by
  rcases h.each p (List.mem_of_getElem? hp) with ⟨e, _⟩ | ⟨ad, cap, e, _⟩
  · exact ⟨_, _, _, e⟩
  · exact ⟨_, _, _, e⟩
 rw [hpv] at hcell; have HP : Hid (p.1 = .slice pa pl pc ∧ L.rv = .slice (some ⟨g, 0, none⟩) L.rs.length c) := ⟨hpv, hrv⟩
 have HC : Hid (∀ w', Below w.heap.size w w' → w'.cell? ⟨g, k, none⟩ = some (.slice pa pl pc)) := fun w' hb => (hb.cell (p := ⟨g, k, none⟩) (cell_lt hcell)).trans hcell
 have hki : (k : Int) < L.rs.length := by omega
 have hnn : n - fst L = k := by omega
 rw [hE] at HE; have HFF : Hid (∀ w', LogIs w' bl L → Calls Tryz.prog 41 #[.pointer (some ⟨bl, 0, none⟩)] w' fun e w'' => e = .returned (.int .i64 (fst L)) ∧ w'' = w') := fun w' hL => first_any hL
 generalize fst L = F at *; have q1 : decide (n < F) = false := by simp; omega
 have q2 : decide (F + (L.rs.length : Int) ≤ n) = false := by simp; omega
 have q3 : ¬ n < F := by omega
 have q4 : ¬ F + (L.rs.length : Int) ≤ n := by omega
 have HK : Hid (n = F + k) := hk; clear h hn hc hcell hE hpv hrv hp hk; go_enter Tryz.func43, Tryz.ntmps43; go_wp2_with (first
  | (go_at_call 41; refine Calls.mono HF.out ?_; rintro e w1 ⟨rfl, hw1⟩; obtain rfl := hw1.symm; clear HF)
  | (go_at_call 42; refine Calls.mono HE.out ?_; rintro e w1 ⟨rfl, m, rfl⟩))
 have H1 : LogIs (w.drewN m) bl L ∧ Below w.heap.size w (w.drewN m) := ⟨HH.out.1.drewN m, below_drewN' _ _⟩
 generalize w.drewN m = w1 at H1 ⊢; refine wp_region_held_drew (S := fun w' => w'.heap[bl]? = some (.cells (lC L) 141) ∧ w'.cell? ⟨g, k, none⟩ = some (.slice pa pl pc)) (by kernel_rfl) ⟨H1.1.log, HC.out w1 H1.2⟩ (fun hHeld => ?_); refine wpAnyH_take (i := 0) (v := .pointer (some ⟨bl, 0, none⟩)) rfl (by kernel_rfl) (by kernel_rfl) (by kernel_rfl) (fun _ _ _ h => h) (Or.inl ⟨by rfl, fun w9 hSw => ?_⟩) hHeld ?_
 · go_simp
 simp only [List.getElem_toArray, List.getElem_cons_succ, List.getElem_cons_zero, Act.put, List.setIfInBounds_toArray, List.set_cons_zero, List.set_cons_succ]; refine wpAnyH_take (i := 1) (v := .pointer (some ⟨bl, 0, none⟩)) rfl (by kernel_rfl) (by kernel_rfl) (by kernel_rfl) (fun _ _ _ h => h) (Or.inl ⟨by rfl, fun w9 hSw => ?_⟩) hHeld ?_
 · go_simp
 simp only [List.getElem_toArray, List.getElem_cons_succ, List.getElem_cons_zero, Act.put, List.setIfInBounds_toArray, List.set_cons_zero, List.set_cons_succ]; refine wpAnyH_take (i := 2) (v := .pointer (some ⟨bl, 4, none⟩)) rfl (by kernel_rfl) (by kernel_rfl) (by kernel_rfl) (fun _ _ _ h => h) (Or.inl ⟨by rfl, fun w9 hSw => ?_⟩) hHeld ?_
 · go_simp
 simp only [List.getElem_toArray, List.getElem_cons_succ, List.getElem_cons_zero, Act.put, List.setIfInBounds_toArray, List.set_cons_zero, List.set_cons_succ]; refine wpAnyH_take (i := 3) (v := .slice (some ⟨g, 0, none⟩) L.rs.length c) rfl (by kernel_rfl) (by kernel_rfl) (by kernel_rfl) (fun _ _ _ h => h) (Or.inl ⟨by rfl, fun w9 hSw => ?_⟩) hHeld ?_
 · have hc : w9.cell? ⟨bl, 4, none⟩ = some (.slice (some ⟨g, 0, none⟩) L.rs.length c) := (cell_of_block hSw.1 4).trans (by show some L.rv = _; rw [HP.out.2])
   go_simp
 simp only [List.getElem_toArray, List.getElem_cons_succ, List.getElem_cons_zero, Act.put, List.setIfInBounds_toArray, List.set_cons_zero, List.set_cons_succ]; refine wpAnyH_take (i := 4) (v := .int .i64 n) rfl (by kernel_rfl) (by kernel_rfl) (by kernel_rfl) (fun _ _ _ h => h) (Or.inl ⟨by rfl, fun w9 hSw => ?_⟩) hHeld ?_
 · go_simp
 simp only [List.getElem_toArray, List.getElem_cons_succ, List.getElem_cons_zero, Act.put, List.setIfInBounds_toArray, List.set_cons_zero, List.set_cons_succ]; refine wpAnyH_take (i := 5) (v := .pointer (some ⟨bl, 0, none⟩)) rfl (by kernel_rfl) (by kernel_rfl) (by kernel_rfl) (fun _ _ _ h => h) (Or.inl ⟨by rfl, fun w9 hSw => ?_⟩) hHeld ?_
 · go_simp
 simp only [List.getElem_toArray, List.getElem_cons_succ, List.getElem_cons_zero, Act.put, List.setIfInBounds_toArray, List.set_cons_zero, List.set_cons_succ]; refine wpAnyH_ready (rs := [6]) (by kernel_rfl) (by simp) ?_; refine AllReadyH.cons rfl (fun K hK => ?_) AllReadyH.nil; have H2 : LogIs w1.drew bl L ∧ Below w.heap.size w w1.drew := ⟨H1.1.kept (fun _ _ => rfl) (Nat.le_refl _), H1.2.os, H1.2.tape, H1.2.output, H1.2.size, H1.2.block⟩
 generalize w1.drew = w2 at hHeld H2 ⊢; clear H1; go_simp; refine Calls.mono (HFF.out _ H2.1) ?_; rintro e w3 ⟨rfl, hw3⟩; obtain rfl := hw3.symm; go_wp2_with fail; refine hK.out _ _ hHeld (fun hHeld => ?_); clear hK K; try simp only [List.getElem_toArray, List.getElem_cons_succ, List.getElem_cons_zero, Act.put, List.setIfInBounds_toArray, List.set_cons_zero, List.set_cons_succ]
 refine wpAnyH_take (i := 7) (v := .int .i64 k) rfl (by kernel_rfl) (by kernel_rfl) (by kernel_rfl) (fun _ _ _ h => h) (Or.inl ⟨by rfl, fun w9 hSw => ?_⟩) hHeld ?_
 · have hsub : IntKind.i64.wrap (k : Int) = k := by rw [IntKind.wrap_i64]; omega
   go_simp
 simp only [List.getElem_toArray, List.getElem_cons_succ, List.getElem_cons_zero, Act.put, List.setIfInBounds_toArray, List.set_cons_zero, List.set_cons_succ]; refine wpAnyH_take (i := 8) (v := .pointer (some ⟨g, k, none⟩)) rfl (by kernel_rfl) (by kernel_rfl) (by kernel_rfl) (fun _ _ _ h => h) (Or.inl ⟨by rfl, fun w9 hSw => ?_⟩) hHeld ?_
 · go_simp
 simp only [List.getElem_toArray, List.getElem_cons_succ, List.getElem_cons_zero, Act.put, List.setIfInBounds_toArray, List.set_cons_zero, List.set_cons_succ]; refine wpAnyH_take (i := 9) (v := .slice pa pl pc) rfl (by kernel_rfl) (by kernel_rfl) (by kernel_rfl) (fun _ _ _ h => h) (Or.inl ⟨by rfl, fun w9 hSw => ?_⟩) hHeld ?_
 · have hc := hSw.2
   go_simp
 simp only [List.getElem_toArray, List.getElem_cons_succ, List.getElem_cons_zero, Act.put, List.setIfInBounds_toArray, List.set_cons_zero, List.set_cons_succ]; refine wpAnyH_ready (rs := [10]) (by kernel_rfl) (by simp) ?_; refine AllReadyH.cons rfl (fun K hK => ?_) AllReadyH.nil; have hbv : BytesV w2 (.slice pa pl pc) p.2 := by
  have := H2.1.each p (List.mem_of_getElem? HH.out.2); rw [HP.out.1] at this; exact this
 go_simp; refine Calls.mono (bclone_any _ _ hbv hbl) ?_
 rintro e w4 ⟨v4, rfl, ho, hb4⟩; have H4 : Hid (w4.ownsRow w.heap.size 5 1 v4 p.2.length (vB p.2) ∧ Below w.heap.size w w4) := ⟨ownsRow_le ho H2.2.size, H2.2.trans (hb4.mono H2.2.size)⟩
 have hH4 : w4.heap[bl]? = some (.cells (lC L) 141) ∧ w4.cell? ⟨g, k, none⟩ = some (.slice pa pl pc) := ⟨(H2.1.below hb4).log, HC.out w4 H4.out.2⟩
 clear H2 hHeld ho hb4 hbv; go_wp2_with fail; refine hK.out _ _ hH4 (fun hHeld => ?_); clear hK K; try simp only [List.getElem_toArray, List.getElem_cons_succ, List.getElem_cons_zero, Act.put, List.setIfInBounds_toArray, List.set_cons_zero, List.set_cons_succ]
 refine wpAnyH_take (i := 11) (v := v4) rfl (by kernel_rfl) (by kernel_rfl) (by kernel_rfl) (fun _ _ _ h => h) (Or.inl ⟨by rfl, fun w9 hSw => ?_⟩) hHeld ?_
 · go_simp
 simp only [List.getElem_toArray, List.getElem_cons_succ, List.getElem_cons_zero, Act.put, List.setIfInBounds_toArray, List.set_cons_zero, List.set_cons_succ]; refine wpAnyH_take (i := 12) (v := .int .i64 0) rfl (by kernel_rfl) (by kernel_rfl) (by kernel_rfl) (fun _ _ _ h => h) (Or.inl ⟨by rfl, fun w9 hSw => ?_⟩) hHeld ?_
 · go_simp
 simp only [List.getElem_toArray, List.getElem_cons_succ, List.getElem_cons_zero, Act.put, List.setIfInBounds_toArray, List.set_cons_zero, List.set_cons_succ]; refine wpAnyH_done (by kernel_rfl) ?_ _; go_wp2; go_returns; exact ⟨v4, rfl, H4.out⟩
/-- A log, told apart from memory. -/
structure PL where
 fs : List Int
 rs : List (List Int)
 size : Int
 uns : Bool
 most : Int
def absL (L : LS) : PL := ⟨L.fs, L.rs.map (·.2), L.size, L.uns, L.most⟩
def PL.fst (P : PL) : Int := P.fs.headD 0
def PL.en (P : PL) : Int := P.fst + P.rs.length
def PL.bg (P : PL) : Bool := P.fs.isEmpty || decide (P.most ≤ P.size)
def PL.last (P : PL) : Int := P.fs.getLastD 0
def pSync (A : DA) (P : PL) : Int × DA × PL := if P.uns then ((dSync A (fileB logB P.last)).1, (dSync A (fileB logB P.last)).2, { P with uns := decide ((dSync A (fileB logB P.last)).1 ≠ 0) }) else (0, A, P)
def pNum (P : PL) : Int := if P.bg then P.en else P.last
def pAdd (P : PL) (bs : List Int) : PL := { P with fs := if P.bg then P.fs ++ [pNum P] else P.fs, rs := P.rs ++ [bs], size := (if P.bg then 0 else P.size) + (12 + bs.length), uns := true }
def pPut (A : DA) (P : PL) (bs : List Int) : Int × DA × PL := if (dApp A (fileB logB (pNum P)) (frameB bs)).1 = 0 then (0, (dApp A (fileB logB (pNum P)) (frameB bs)).2, pAdd P bs) else ((dApp A (fileB logB (pNum P)) (frameB bs)).1, (dApp A (fileB logB (pNum P)) (frameB bs)).2, P)
def pApp (A : DA) (P : PL) (bs : List Int) : Int × DA × PL :=
 if 65536 < bs.length then (3, A, P) else
 if P.bg then (if (pSync A P).1 = 0 then pPut (pSync A P).2.1 (pSync A P).2.2 bs else pSync A P) else pPut A P bs
/-- Both, behind a call. -/
structure PR (w w' : World) (bd bl : Nat) (S : DS) (L : LS) (ro : Int) (r : Int × DA × PL) (c : Int) (S' : DS) (L' : LS) : Prop where
 code : c = r.1
 disk : absD S' = r.2.1
 log : absL L' = r.2.2
 dl : DL w' bd bl S' L' ro
 f3 : F3 w w' S L S' L'
 nm : L'.nm = L.nm
theorem lsync_any {w : World} {bd bl : Nat} {S : DS} {L : LS} {ro : Int} (h : DL w bd bl S L ro) (hu : L.uns = true → L.fs ≠ []) (hnm : L.nm = logB) (hst : S.steps < 4611686018427387903) :
 Calls Tryz.prog 84 #[.pointer (some ⟨bl, 0, none⟩)] w fun e w' => ∃ c S' L', e = .returned (.int .i64 c) ∧ PR w w' bd bl S L ro (pSync (absD S) (absL L)) c S' L' ∧ L'.fs = L.fs ∧ L'.rs = L.rs ∧ L'.size = L.size ∧ L'.most = L.most := by
 cases hU : L.uns with
 | false =>
   refine (lsync_clean h hU).mono ?_; rintro e w' ⟨rfl, rfl⟩; have hp : pSync (absD S) (absL L) = (0, absD S, absL L) := if_neg (by show ¬ L.uns = true; rw [hU]; simp); exact ⟨0, S, L, rfl, ⟨by rw [hp], by rw [hp], by rw [hp], h, F3.refl _ _ _, rfl⟩, rfl, rfl, rfl, rfl⟩
 | true =>
   have hx : L.fs.getLast? = some (absL L).last := by
    cases hl : L.fs.getLast? with
    | none => exact absurd (List.getLast?_eq_none_iff.1 hl) (hu hU)
    | some y =>
      show some y = some (L.fs.getLastD 0); rw [List.getLastD_eq_getLast?, hl]; rfl
   refine (lsync_dirty h hU hx hnm hst).mono ?_; rintro e w' ⟨S', c, rfl, hc, hA, hD, hF⟩; have hp : pSync (absD S) (absL L) = ((dSync (absD S) (fileB logB (absL L).last)).1, (dSync (absD S) (fileB logB (absL L).last)).2, { absL L with uns := decide ((dSync (absD S) (fileB logB (absL L).last)).1 ≠ 0) }) := if_pos hU; exact ⟨c, S', setU L (decide (c ≠ 0)), rfl, ⟨by rw [hp]; exact hc, by rw [hp]; exact hA, by rw [hp, ← hc]; rfl, hD, hF, rfl⟩, rfl, rfl, rfl, rfl⟩
end Go.Proofs.YtconkienlcegaaaGreatDoor
