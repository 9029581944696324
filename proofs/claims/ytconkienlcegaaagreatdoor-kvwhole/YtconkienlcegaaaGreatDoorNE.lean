/- kv: Trim of a log. -/
import Derived.Test.YtconkienlcegaaaGreatDoorGWI
import Derived.Test.YtconkienlcegaaaGreatDoorGND
namespace Go.Proofs.YtconkienlcegaaaGreatDoor
open Go.RowKit Go.Maps Go.Joins Go.Sort
set_option linter.unusedSimpArgs false
set_option linter.unusedVariables false
theorem rem_wf {l : List Tf} {ro : Int} (h : Wf l ro) (s : ByteArray) : Wf (lRem l s) ro := by
 unfold lRem; split
 · split
   · exact h.del _
   · exact h
 · exact h
def dRem (A : DA) (s : ByteArray) : Int × DA := dDo A s (eFind A.l s) (lRem A.l s)
/-- What Trim makes of a log's files and records. -/
def pTrim : List Int → DA → List (List Int) → Int → Int × DA × List Int × List (List Int)
 | a :: b :: r, A, rs, n => if b ≤ n then (if (dRem A (fileB logB a)).1 = 0 then pTrim (b :: r) (dRem A (fileB logB a)).2 (rs.drop (b - a).toNat) n else ((dRem A (fileB logB a)).1, (dRem A (fileB logB a)).2, a :: b :: r, rs)) else (0, A, a :: b :: r, rs)
 | fs, A, rs, n => (0, A, fs, rs)
def TrimOk : List Int → Nat → Prop
 | a :: b :: r, m => a < b ∧ (b - a).toNat ≤ m ∧ TrimOk (b :: r) (m - (b - a).toNat)
 | _, _ => True
/-- A log without its first file, and the records of it. -/
def setR (L : LS) (fv : Value) (fs : List Int) (rv : Value) (rs : List (Value × List Int)) : LS := { L with fv := fv, fs := fs, rv := rv, rs := rs }
theorem LogIs.setRec {w w' : World} {bl : Nat} {L : LS} (h : LogIs w bl L) {v : Value} {j : Nat} (hr : w'.ownsRow 0 23 1 v (L.rs.drop j).length ((L.rs.drop j).map (·.1))) (hg : w.grownBy w' L.rv.ownBlock) (hv : v.ownBlock = L.rv.ownBlock) :
 LogIs (w'.setCell ⟨bl, 4, none⟩ v) bl (setR L L.fv L.fs v (L.rs.drop j)) ∧ LFr w (w'.setCell ⟨bl, 4, none⟩ v) L (setR L L.fv L.fs v (L.rs.drop j)) := by
 have hbl : ∀ b, L.rv.ownBlock = some b → b ≠ bl := fun b hb e => by have := h.rr b hb; rw [e, h.rl] at this; cases this
 have hlog : w'.heap[bl]? = some (.cells (lC L) 141) := (hg.block bl h.lt (fun e => hbl bl e.symm rfl)).trans h.log; have hk : ∀ b, b ≠ bl → (w'.setCell ⟨bl, 4, none⟩ v).heap[b]? = w'.heap[b]? := fun b hb => Below.heap_setCell _ _ _ _ hb
 have hsame : ∀ b, L.own b ≠ 0 → L.own b ≠ 1 → L.own b ≠ 3 → (w'.setCell ⟨bl, 4, none⟩ v).heap[b]? = w.heap[b]? := fun b h0 h1 h3 => (hk b (fun e => h1 (by rw [e]; exact h.rl))).trans (hg.block b (h.own_lt h0) (fun e => h3 (h.rr b e.symm)))
 have hsz : (w'.setCell ⟨bl, 4, none⟩ v).heap.size = w'.heap.size := by simp
 refine ⟨⟨?_, h.rl, ownsRow_heap h.files (fun b hb => hsame b (by rw [h.rf b hb]; simp) (by rw [h.rf b hb]; simp) (by rw [h.rf b hb]; simp)), h.rf, ownsRow_heap hr (fun b hb => hk b (hbl b (hv ▸ hb))), fun b hb => h.rr b (hv ▸ hb), fun p hp => ?_, fun p hp => h.re p (List.mem_of_mem_drop hp), fun b hb => h.fresh b (by rw [hsz] at hb; exact Nat.le_trans hg.size hb)⟩, hg.os, hg.tape, hg.output, by rw [hsz]; exact hg.size, fun b hb h0 => ?_, fun b hb h0 => h0⟩
 · rw [block_setCell hlog]
   simp [lC, setR]
 · have hp' := List.mem_of_mem_drop hp
   exact (h.each p hp').keep (fun b hb => hsame b (by rw [h.re p hp' b hb]; simp) (by rw [h.re p hp' b hb]; simp) (by rw [h.re p hp' b hb]; simp))
 · exact (hk b (fun e => by rw [e, h.rl] at h0; cases h0)).trans (hg.block b hb (fun e => by rw [h.rr b e.symm] at h0; cases h0))
theorem LogIs.setFil {w w' : World} {bl : Nat} {L : LS} (h : LogIs w bl L) {v : Value} {fs : List Int} (hr : w'.ownsRow 0 3 1 v fs.length (vI fs)) (hg : w.grownBy w' L.fv.ownBlock) (hv : v.ownBlock = L.fv.ownBlock) :
 LogIs (w'.setCell ⟨bl, 3, none⟩ v) bl (setR L v fs L.rv L.rs) ∧ LFr w (w'.setCell ⟨bl, 3, none⟩ v) L (setR L v fs L.rv L.rs) := by
 have hbl : ∀ b, L.fv.ownBlock = some b → b ≠ bl := fun b hb e => by have := h.rf b hb; rw [e, h.rl] at this; cases this
 have hlog : w'.heap[bl]? = some (.cells (lC L) 141) := (hg.block bl h.lt (fun e => hbl bl e.symm rfl)).trans h.log; have hk : ∀ b, b ≠ bl → (w'.setCell ⟨bl, 3, none⟩ v).heap[b]? = w'.heap[b]? := fun b hb => Below.heap_setCell _ _ _ _ hb
 have hsame : ∀ b, L.own b ≠ 0 → L.own b ≠ 1 → L.own b ≠ 2 → (w'.setCell ⟨bl, 3, none⟩ v).heap[b]? = w.heap[b]? := fun b h0 h1 h3 => (hk b (fun e => h1 (by rw [e]; exact h.rl))).trans (hg.block b (h.own_lt h0) (fun e => h3 (h.rf b e.symm)))
 have hsz : (w'.setCell ⟨bl, 3, none⟩ v).heap.size = w'.heap.size := by simp
 refine ⟨⟨?_, h.rl, ownsRow_heap hr (fun b hb => hk b (hbl b (hv ▸ hb))), fun b hb => h.rf b (hv ▸ hb), ownsRow_heap h.recs (fun b hb => hsame b (by rw [h.rr b hb]; simp) (by rw [h.rr b hb]; simp) (by rw [h.rr b hb]; simp)), h.rr, fun p hp => ?_, h.re, fun b hb => h.fresh b (by rw [hsz] at hb; exact Nat.le_trans hg.size hb)⟩, hg.os, hg.tape, hg.output, by rw [hsz]; exact hg.size, fun b hb h0 => ?_, fun b hb h0 => h0⟩
 · rw [block_setCell hlog]
   simp [lC, setR]
 · exact (h.each p hp).keep (fun b hb => hsame b (by rw [h.re p hp b hb]; simp) (by rw [h.re p hp b hb]; simp) (by rw [h.re p hp b hb]; simp))
 · exact (hk b (fun e => by rw [e, h.rl] at h0; cases h0)).trans (hg.block b hb (fun e => by rw [h.rf b e.symm] at h0; cases h0))
theorem LogIs.heads {w : World} {bl : Nat} {L : LS} (h : LogIs w bl L) : ∃ ds : List SlH, L.rs.map (·.1) = ds.map eH := by
 have h1 := h.each; generalize L.rs = l at h1; induction l with
 | nil => exact ⟨[], rfl⟩
 | cons p r ih =>
   obtain ⟨ds, hd⟩ := ih fun q hq => h1 q (List.mem_cons_of_mem _ hq)
   obtain ⟨a, n, c, e⟩ : ∃ a n c, p.1 = .slice a n c := by
    rcases h1 p List.mem_cons_self with ⟨e, _⟩ | ⟨ad, cap, e, _⟩
    · exact ⟨_, _, _, e⟩
    · exact ⟨_, _, _, e⟩
   exact ⟨(a, n, c) :: ds, by rw [List.map_cons, List.map_cons, e, hd]⟩
/-- How long a log's list of files is. -/
def filN (bl : Nat) (w : World) : Nat := match w.cell? ⟨bl, 3, none⟩ with | some (.slice _ n _) => n | _ => 0
/-- Behind Trim. -/
def TrR (w : World) (bd bl : Nat) (S : DS) (L : LS) (ro n : Int) (e : Ending) (w' : World) : Prop := ∃ S' L', e = .returned (.int .i64 (pTrim L.fs (absD S) (L.rs.map (·.2)) n).1) ∧ DL w' bd bl S' L' ro ∧ F3 w w' S L S' L' ∧ absD S' = (pTrim L.fs (absD S) (L.rs.map (·.2)) n).2.1 ∧ absL L' = { absL L with fs := (pTrim L.fs (absD S) (L.rs.map (·.2)) n).2.2.1, rs := (pTrim L.fs (absD S) (L.rs.map (·.2)) n).2.2.2 } ∧ L'.nm = logB
/-- Within the rounds of Trim. -/
structure TrJ (w wr : World) (bd bl : Nat) (S S1 : DS) (L L1 : LS) (ro n : Int) : Prop where
 dl : DL wr bd bl S1 L1 ro
 f3 : F3 w wr S L S1 L1
 eq : pTrim L.fs (absD S) (L.rs.map (·.2)) n = pTrim L1.fs (absD S1) (L1.rs.map (·.2)) n
 ok : TrimOk L1.fs L1.rs.length
 bd : ∀ x ∈ L1.fs, 0 ≤ x ∧ x < 1000000000
 st : S1.steps + L1.fs.length < 4611686018427387903
 rest : L1.size = L.size ∧ L1.uns = L.uns ∧ L1.most = L.most ∧ L1.nm = logB
 rl : L1.rs.length ≤ 1099511627776
set_option maxRecDepth 100000 in
set_option maxHeartbeats 8000000 in
/-- Trim -/
theorem ltrim_any {w : World} {bd bl : Nat} {S : DS} {L : LS} {ro : Int} (h : DL w bd bl S L ro) (hnm : L.nm = logB) (hok : TrimOk L.fs L.rs.length) (hb : ∀ x ∈ L.fs, 0 ≤ x ∧ x < 1000000000) (hst : S.steps + L.fs.length < 4611686018427387903) (hrl : L.rs.length ≤ 1099511627776) (n : Int) :
 Calls Tryz.prog 53 #[.pointer (some ⟨bl, 0, none⟩), .int .i64 n] w fun e w' => TrR w bd bl S L ro n e w' := by
 have H0 : Hid (TrJ w w bd bl S S L L ro n) := ⟨h, F3.refl _ _ _, rfl, hok, hb, hst, ⟨rfl, rfl, rfl, hnm⟩, hrl⟩
 have HA : Hid (absL L = ⟨L.fs, L.rs.map (·.2), L.size, L.uns, L.most⟩) := rfl; clear h hnm hok hb hst hrl; go_enter Tryz.func53, Tryz.ntmps53; go_wp2; go_loopw [5] (fun u wr => ∃ S1 L1, Hid (TrJ w wr bd bl S S1 L L1 ro n)) (fun _ wr => filN bl wr)
 case atStart => exact ⟨S, L, H0⟩
 case round =>
  obtain ⟨S1, L1, HJ⟩ := hrel; have hlog := HJ.out.dl.log.log; obtain ⟨fa, fc, hfv, hfc⟩ := HJ.out.dl.log.file; have c3 : wr.cell? ⟨bl, 3, none⟩ = some (.slice fa L1.fs.length fc) := by rw [cell_of_block hlog, ← hfv]; rfl
  have hb0 := HJ.out.dl.bdq; have hnm0 := HJ.out.rest.2.2.2; rcases hfs : L1.fs with _ | ⟨a, _ | ⟨b, r⟩⟩
  · have he : pTrim L1.fs (absD S1) (L1.rs.map (·.2)) n = (0, absD S1, L1.fs, L1.rs.map (·.2)) := by rw [hfs]; rfl
    rw [hfs] at c3; have HE : Hid (pTrim L1.fs (absD S1) (L1.rs.map (·.2)) n = (0, absD S1, L1.fs, L1.rs.map (·.2))) := he; clear he hfs hfc hfv hlog hb0 hnm0; go_wp2; go_ret; refine ⟨S1, L1, by rw [HJ.out.eq, HE.out]; rfl, HJ.out.dl, HJ.out.f3, by rw [HJ.out.eq, HE.out], ?_, HJ.out.rest.2.2.2⟩; rw [HJ.out.eq, HE.out, HA.out]; show absL L1 = ⟨L1.fs, L1.rs.map (·.2), L.size, L.uns, L.most⟩
    rw [← HJ.out.rest.1, ← HJ.out.rest.2.1, ← HJ.out.rest.2.2.1]; rfl
  · have he : pTrim L1.fs (absD S1) (L1.rs.map (·.2)) n = (0, absD S1, L1.fs, L1.rs.map (·.2)) := by rw [hfs]; rfl
    rw [hfs] at c3; have HE : Hid (pTrim L1.fs (absD S1) (L1.rs.map (·.2)) n = (0, absD S1, L1.fs, L1.rs.map (·.2))) := he; clear he hfs hfc hfv hlog hb0 hnm0; go_wp2; go_ret; refine ⟨S1, L1, by rw [HJ.out.eq, HE.out]; rfl, HJ.out.dl, HJ.out.f3, by rw [HJ.out.eq, HE.out], ?_, HJ.out.rest.2.2.2⟩; rw [HJ.out.eq, HE.out, HA.out]; show absL L1 = ⟨L1.fs, L1.rs.map (·.2), L.size, L.uns, L.most⟩
    rw [← HJ.out.rest.1, ← HJ.out.rest.2.1, ← HJ.out.rest.2.2.1]; rfl
  obtain ⟨g, hga, k0⟩ := hfc 0 a (by rw [hfs]; rfl); obtain ⟨g', hga', k1⟩ := hfc 1 b (by rw [hfs]; rfl); subst hga; injection hga' with hga'
  injection hga' with hga' _ _
  subst hga'; have hN : L1.fs.length = r.length + 2 := by rw [hfs]; rfl
  obtain ⟨N, hNN⟩ : ∃ N, N = L1.fs.length := ⟨_, rfl⟩
  rw [← hNN] at c3 hN; have hN2 : (1 : Int) < N := by omega
  have hN3 : (0 : Int) < N := by omega
  have hN4 : ¬ N = 0 := by omega
  have HNL : Hid (N = r.length + 2) := hN; clear hN; have HN : Hid (N = L1.fs.length ∧ L1.fs = a :: b :: r ∧ L1.fv = .slice (some ⟨g, 0, none⟩) N fc) := ⟨hNN, hfs, by rw [hNN]; exact hfv⟩
  clear hNN hfs hfv hfc; by_cases hbn : b ≤ n; rotate_left
  · have he : pTrim L1.fs (absD S1) (L1.rs.map (·.2)) n = (0, absD S1, L1.fs, L1.rs.map (·.2)) := by rw [HN.out.2.1]; unfold pTrim; rw [if_neg hbn]
    have HE : Hid (pTrim L1.fs (absD S1) (L1.rs.map (·.2)) n = (0, absD S1, L1.fs, L1.rs.map (·.2))) := he; clear he hlog hb0 hnm0 k0; go_wp2; go_ret; refine ⟨S1, L1, by rw [HJ.out.eq, HE.out]; rfl, HJ.out.dl, HJ.out.f3, by rw [HJ.out.eq, HE.out], ?_, HJ.out.rest.2.2.2⟩; rw [HJ.out.eq, HE.out, HA.out]; show absL L1 = ⟨L1.fs, L1.rs.map (·.2), L.size, L.uns, L.most⟩
    rw [← HJ.out.rest.1, ← HJ.out.rest.2.1, ← HJ.out.rest.2.2.1]; rfl
  have hst1 : S1.steps < 4611686018427387903 := by have := HJ.out.st; omega
  go_wp2_with fail
  refine wp_region_held_drew (S := fun w' => w'.heap[bl]? = some (.cells (lC L1) 141) ∧ w'.cell? ⟨g, 0, none⟩ = some (.int .i64 a)) (by kernel_rfl) ⟨hlog, k0⟩ (fun hHeld => ?_); refine wpAnyH_take (i := 0) (v := .pointer (some ⟨bl, 0, none⟩)) rfl (by kernel_rfl) (by kernel_rfl) (by kernel_rfl) (fun _ _ _ h => h) (Or.inl ⟨by rfl, fun w9 hSw => ?_⟩) hHeld ?_
  · go_simp
  simp only [List.getElem_toArray, List.getElem_cons_succ, List.getElem_cons_zero, Act.put, List.setIfInBounds_toArray, List.set_cons_zero, List.set_cons_succ]; refine wpAnyH_take (i := 1) (v := .pointer (some ⟨bl, 0, none⟩)) rfl (by kernel_rfl) (by kernel_rfl) (by kernel_rfl) (fun _ _ _ h => h) (Or.inl ⟨by rfl, fun w9 hSw => ?_⟩) hHeld ?_
  · go_simp
  simp only [List.getElem_toArray, List.getElem_cons_succ, List.getElem_cons_zero, Act.put, List.setIfInBounds_toArray, List.set_cons_zero, List.set_cons_succ]; refine wpAnyH_take (i := 2) (v := .pointer (some ⟨bl, 0, none⟩)) rfl (by kernel_rfl) (by kernel_rfl) (by kernel_rfl) (fun _ _ _ h => h) (Or.inl ⟨by rfl, fun w9 hSw => ?_⟩) hHeld ?_
  · go_simp
  simp only [List.getElem_toArray, List.getElem_cons_succ, List.getElem_cons_zero, Act.put, List.setIfInBounds_toArray, List.set_cons_zero, List.set_cons_succ]; refine wpAnyH_take (i := 3) (v := .pointer (some ⟨bd, 0, none⟩)) rfl (by kernel_rfl) (by kernel_rfl) (by kernel_rfl) (fun _ _ _ h => h) (Or.inl ⟨by rfl, fun w9 hSw => ?_⟩) hHeld ?_
  · have hc : w9.cell? ⟨bl, 0, none⟩ = some (.pointer (some ⟨bd, 0, none⟩)) := (cell_of_block hSw.1 0).trans (by show some (Value.pointer (some ⟨L1.bd, 0, none⟩)) = _; rw [hb0])
    go_simp
  simp only [List.getElem_toArray, List.getElem_cons_succ, List.getElem_cons_zero, Act.put, List.setIfInBounds_toArray, List.set_cons_zero, List.set_cons_succ]; refine wpAnyH_take (i := 4) (v := .pointer (some ⟨bl, 0, none⟩)) rfl (by kernel_rfl) (by kernel_rfl) (by kernel_rfl) (fun _ _ _ h => h) (Or.inl ⟨by rfl, fun w9 hSw => ?_⟩) hHeld ?_
  · go_simp
  simp only [List.getElem_toArray, List.getElem_cons_succ, List.getElem_cons_zero, Act.put, List.setIfInBounds_toArray, List.set_cons_zero, List.set_cons_succ]; refine wpAnyH_take (i := 5) (v := .pointer (some ⟨bl, 0, none⟩)) rfl (by kernel_rfl) (by kernel_rfl) (by kernel_rfl) (fun _ _ _ h => h) (Or.inl ⟨by rfl, fun w9 hSw => ?_⟩) hHeld ?_
  · go_simp
  simp only [List.getElem_toArray, List.getElem_cons_succ, List.getElem_cons_zero, Act.put, List.setIfInBounds_toArray, List.set_cons_zero, List.set_cons_succ]; refine wpAnyH_take (i := 6) (v := .pointer (some ⟨bl, 1, none⟩)) rfl (by kernel_rfl) (by kernel_rfl) (by kernel_rfl) (fun _ _ _ h => h) (Or.inl ⟨by rfl, fun w9 hSw => ?_⟩) hHeld ?_
  · go_simp
  simp only [List.getElem_toArray, List.getElem_cons_succ, List.getElem_cons_zero, Act.put, List.setIfInBounds_toArray, List.set_cons_zero, List.set_cons_succ]; refine wpAnyH_take (i := 7) (v := .string logB) rfl (by kernel_rfl) (by kernel_rfl) (by kernel_rfl) (fun _ _ _ h => h) (Or.inl ⟨by rfl, fun w9 hSw => ?_⟩) hHeld ?_
  · have hc : w9.cell? ⟨bl, 1, none⟩ = some (.string logB) := (cell_of_block hSw.1 1).trans (by show some (Value.string L1.nm) = _; rw [hnm0])
    go_simp
  simp only [List.getElem_toArray, List.getElem_cons_succ, List.getElem_cons_zero, Act.put, List.setIfInBounds_toArray, List.set_cons_zero, List.set_cons_succ]; refine wpAnyH_take (i := 8) (v := .pointer (some ⟨bl, 0, none⟩)) rfl (by kernel_rfl) (by kernel_rfl) (by kernel_rfl) (fun _ _ _ h => h) (Or.inl ⟨by rfl, fun w9 hSw => ?_⟩) hHeld ?_
  · go_simp
  simp only [List.getElem_toArray, List.getElem_cons_succ, List.getElem_cons_zero, Act.put, List.setIfInBounds_toArray, List.set_cons_zero, List.set_cons_succ]; refine wpAnyH_take (i := 9) (v := .pointer (some ⟨bl, 0, none⟩)) rfl (by kernel_rfl) (by kernel_rfl) (by kernel_rfl) (fun _ _ _ h => h) (Or.inl ⟨by rfl, fun w9 hSw => ?_⟩) hHeld ?_
  · go_simp
  simp only [List.getElem_toArray, List.getElem_cons_succ, List.getElem_cons_zero, Act.put, List.setIfInBounds_toArray, List.set_cons_zero, List.set_cons_succ]; refine wpAnyH_take (i := 10) (v := .pointer (some ⟨bl, 3, none⟩)) rfl (by kernel_rfl) (by kernel_rfl) (by kernel_rfl) (fun _ _ _ h => h) (Or.inl ⟨by rfl, fun w9 hSw => ?_⟩) hHeld ?_
  · go_simp
  simp only [List.getElem_toArray, List.getElem_cons_succ, List.getElem_cons_zero, Act.put, List.setIfInBounds_toArray, List.set_cons_zero, List.set_cons_succ]; refine wpAnyH_take (i := 11) (v := .slice (some ⟨g, 0, none⟩) N fc) rfl (by kernel_rfl) (by kernel_rfl) (by kernel_rfl) (fun _ _ _ h => h) (Or.inl ⟨by rfl, fun w9 hSw => ?_⟩) hHeld ?_
  · have hc : w9.cell? ⟨bl, 3, none⟩ = some (.slice (some ⟨g, 0, none⟩) N fc) := (cell_of_block hSw.1 3).trans (by show some L1.fv = _; rw [HN.out.2.2])
    go_simp
  simp only [List.getElem_toArray, List.getElem_cons_succ, List.getElem_cons_zero, Act.put, List.setIfInBounds_toArray, List.set_cons_zero, List.set_cons_succ]; refine wpAnyH_take (i := 12) (v := .pointer (some ⟨g, 0, none⟩)) rfl (by kernel_rfl) (by kernel_rfl) (by kernel_rfl) (fun _ _ _ h => h) (Or.inl ⟨by rfl, fun w9 hSw => ?_⟩) hHeld ?_
  · go_simp
  simp only [List.getElem_toArray, List.getElem_cons_succ, List.getElem_cons_zero, Act.put, List.setIfInBounds_toArray, List.set_cons_zero, List.set_cons_succ]; refine wpAnyH_take (i := 13) (v := .int .i64 a) rfl (by kernel_rfl) (by kernel_rfl) (by kernel_rfl) (fun _ _ _ h => h) (Or.inl ⟨by rfl, fun w9 hSw => ?_⟩) hHeld ?_
  · have hc : w9.cell? ⟨g, 0, none⟩ = some (.int .i64 a) := hSw.2
    go_simp
  simp only [List.getElem_toArray, List.getElem_cons_succ, List.getElem_cons_zero, Act.put, List.setIfInBounds_toArray, List.set_cons_zero, List.set_cons_succ]; refine wpAnyH_ready (rs := [14]) (by kernel_rfl) (by simp) ?_; refine AllReadyH.cons rfl (fun K hK => ?_) AllReadyH.nil; have H1 : DL wr.drew bd bl S1 L1 ro ∧ F3 wr wr.drew S1 L1 S1 L1 := ⟨HJ.out.dl.below ⟨rfl, rfl, rfl, Nat.le_refl _, fun _ _ => rfl⟩, F3.below ⟨rfl, rfl, rfl, Nat.le_refl _, fun _ _ => rfl⟩⟩
  generalize wr.drew = w1 at hHeld H1 ⊢; go_simp; refine Calls.mono (file_any H1.1.vars logB (by decide) a) ?_; rintro e w3 ⟨rfl, hb3⟩; have H3 : DL w3 bd bl S1 L1 ro ∧ F3 wr w3 S1 L1 S1 L1 := ⟨H1.1.below hb3, H1.2.trans (F3.below hb3)⟩
  have hH3 : w3.heap[bl]? = some (.cells (lC L1) 141) ∧ w3.cell? ⟨g, 0, none⟩ = some (.int .i64 a) := ⟨H3.1.log.log, (World.cell?_of_block (a := ⟨g, 0, none⟩) (hb3.block g (cell_lt hHeld.2))).trans hHeld.2⟩
  clear H1 hHeld hb3; go_wp2_with fail; refine hK.out _ _ hH3 (fun hHeld => ?_); clear hK K; try simp only [List.getElem_toArray, List.getElem_cons_succ, List.getElem_cons_zero, Act.put, List.setIfInBounds_toArray, List.set_cons_zero, List.set_cons_succ]
  refine wpAnyH_ready (rs := [15]) (by kernel_rfl) (by simp) ?_; refine AllReadyH.cons rfl (fun K hK => ?_) AllReadyH.nil; have HW := rem_wf H3.1.gb.wf (fileB logB a); go_simp; refine Calls.mono (g_remove H3.1.disk H3.1.gb (fileB logB a) (by have := fileB_size a; omega)) ?_; rintro e w4 ⟨rfl, S', hD, hF, hG⟩; obtain ⟨K1, K2⟩ := H3.1.disked hD hF (H3.1.gb.next (e := eFind (absP S1) (fileB logB a)) hG HW hst1); have H4 : Hid (DL w4 bd bl S' L1 ro ∧ F3 wr w4 S1 L1 S' L1 ∧ absD S' = (dRem (absD S1) (fileB logB a)).2) := ⟨K1, H3.2.trans K2, gs_abs hG⟩
  have hE := gI_abs S1 (fileB logB a) (eFind (absP S1) (fileB logB a)) (lRem (absP S1) (fileB logB a)); rw [hE]; obtain ⟨g0, fc0, hg0, hgc⟩ := K1.log.file; have hH4 : w4.heap[bl]? = some (.cells (lC L1) 141) ∧ w4.cell? ⟨g, 0, none⟩ = some (.int .i64 a) ∧ w4.cell? ⟨g, 1, none⟩ = some (.int .i64 b) := by
   obtain ⟨x, hx, hy⟩ := hgc 0 a (by rw [HN.out.2.1]; rfl); obtain ⟨x1, hx1, hy1⟩ := hgc 1 b (by rw [HN.out.2.1]; rfl); have e1 := HN.out.2.2.symm.trans hg0; injection e1 with e1 _ _
   rw [hx] at e1; injection e1 with e1
   injection e1 with e1 _ _
   rw [hx] at hx1; injection hx1 with hx1
   injection hx1 with hx1 _ _
   subst e1 hx1; exact ⟨K1.log.log, hy, hy1⟩
  obtain ⟨c, hc⟩ : ∃ c, c = (dRem (absD S1) (fileB logB a)).1 := ⟨_, rfl⟩
  have HC : Hid (c = (dRem (absD S1) (fileB logB a)).1) := hc; rw [show (dDo (absD S1) (fileB logB a) (eFind (absP S1) (fileB logB a)) (lRem (absP S1) (fileB logB a))).1 = c from hc.symm]; have HST : Hid (S'.steps ≤ S1.steps + 1) := by
   show _ ≤ _; have h1 := congrArg DA.steps H4.out.2.2; have h2 := (dDo_steps (absD S1) (fileB logB a) (eFind (absD S1).l (fileB logB a)) (lRem (absD S1).l (fileB logB a))).2; have h3 : (absD S').steps = S'.steps := rfl; have h4 : (absD S1).steps = S1.steps := rfl; have h5 : (dRem (absD S1) (fileB logB a)).2.steps = (dDo (absD S1) (fileB logB a) (eFind (absD S1).l (fileB logB a)) (lRem (absD S1).l (fileB logB a))).2.steps := rfl; omega
  clear H3 hHeld hH3 hD hF hG K1 K2 hE hc HW hg0 hgc; go_wp2_with fail; refine hK.out _ _ ⟨hH4.1, hH4.2.1⟩ (fun hHeld => ?_); clear hK K; try simp only [List.getElem_toArray, List.getElem_cons_succ, List.getElem_cons_zero, Act.put, List.setIfInBounds_toArray, List.set_cons_zero, List.set_cons_succ]
  refine wpAnyH_take (i := 16) (v := .int .i64 c) rfl (by kernel_rfl) (by kernel_rfl) (by kernel_rfl) (fun _ _ _ h => h) (Or.inl ⟨by rfl, fun w9 hSw => ?_⟩) hHeld ?_
  · go_simp
  simp only [List.getElem_toArray, List.getElem_cons_succ, List.getElem_cons_zero, Act.put, List.setIfInBounds_toArray, List.set_cons_zero, List.set_cons_succ]; refine wpAnyH_done (by kernel_rfl) ?_ _; by_cases hc0 : c = 0; rotate_left
  · have hc1 : (c == 0) = false := by simpa using hc0
    have he : pTrim L1.fs (absD S1) (L1.rs.map (·.2)) n = (c, absD S', L1.fs, L1.rs.map (·.2)) := by
     rw [HN.out.2.1]; unfold pTrim; rw [if_pos hbn, if_neg (by rw [← HC.out]; exact hc0), ← HC.out, ← H4.out.2.2]
    have HE : Hid (pTrim L1.fs (absD S1) (L1.rs.map (·.2)) n = (c, absD S', L1.fs, L1.rs.map (·.2))) := he; clear he hHeld hlog k0 k1 c3 hb0 hnm0; go_wp2; go_ret; refine ⟨S', L1, by rw [HJ.out.eq, HE.out]; rfl, H4.out.1, HJ.out.f3.trans H4.out.2.1, by rw [HJ.out.eq, HE.out], ?_, HJ.out.rest.2.2.2⟩; rw [HJ.out.eq, HE.out, HA.out]; show absL L1 = ⟨L1.fs, L1.rs.map (·.2), L.size, L.uns, L.most⟩
    rw [← HJ.out.rest.1, ← HJ.out.rest.2.1, ← HJ.out.rest.2.2.1]; rfl
  have hc1 : (c == 0) = true := by simpa using hc0
  have HC0 : Hid (c = 0) := hc0; have hok1 := HJ.out.ok; rw [HN.out.2.1] at hok1; obtain ⟨t1, t2, t3⟩ := hok1; obtain ⟨j, hj⟩ : ∃ j, j = (b - a).toNat := ⟨_, rfl⟩
  rw [← hj] at t2 t3; have hba : b - a = (j : Int) := by omega
  have hjn : j ≤ 1099511627776 := by have := HJ.out.rl; omega
  obtain ⟨ds, hds⟩ := H4.out.1.log.heads; have hdl : ds.length = L1.rs.length := by have := congrArg List.length hds; simpa using this.symm
  obtain ⟨ra, rc, hrv⟩ : ∃ ra rc, L1.rv = .slice (some ⟨ra, 0, none⟩) L1.rs.length rc := by
   rcases H4.out.1.log.recs.2 with ⟨_, h0⟩ | ⟨g2, cap2, cur2, e2, _⟩
   · omega
   · exact ⟨g2, cap2, e2⟩
  obtain ⟨R, hR⟩ : ∃ R, R = ds.length := ⟨_, rfl⟩
  have HR : Hid (R = ds.length ∧ ds.length = L1.rs.length ∧ L1.rs.map (·.1) = ds.map eH ∧ L1.rv = .slice (some ⟨ra, 0, none⟩) R rc ∧ j ≤ R ∧ j = (b - a).toNat) := ⟨hR, hdl, hds, by rw [hrv, hR, hdl], by omega, hj⟩
  have HT : Hid (a < b ∧ TrimOk (b :: r) (L1.rs.length - j)) := ⟨t1, t3⟩
  have hK4 : w4.heap[bl]? = some (.cells (lC L1) 141) ∧ w4.cell? ⟨g, 0, none⟩ = some (.int .i64 a) ∧ w4.cell? ⟨g, 1, none⟩ = some (.int .i64 b) := hH4; clear hrv hds hdl hR hj t1 t2 t3 hHeld hc0 hlog k0 k1 c3 hb0 hnm0 hH4; have hwj : IntKind.i64.wrap ((j : Nat) : Int) = (j : Nat) := by rw [IntKind.wrap_i64]; omega
  have k3 : w4.cell? ⟨bl, 3, none⟩ = some (.slice (some ⟨g, 0, none⟩) N fc) := (cell_of_block hK4.1 3).trans (by show some L1.fv = _; rw [HN.out.2.2]); have k4 : w4.cell? ⟨bl, 4, none⟩ = some (.slice (some ⟨ra, 0, none⟩) R rc) := (cell_of_block hK4.1 4).trans (by show some L1.rv = _; rw [HR.out.2.2.2.1]); go_wp2_with fail; refine wp_region_held_drew (S := fun w' => w'.cell? ⟨bl, 3, none⟩ = some (.slice (some ⟨g, 0, none⟩) N fc) ∧ w'.cell? ⟨g, 0, none⟩ = some (.int .i64 a) ∧ w'.cell? ⟨g, 1, none⟩ = some (.int .i64 b)) (by kernel_rfl) ⟨k3, hK4.2.1, hK4.2.2⟩ (fun hHeld => ?_); refine wpAnyH_take (i := 0) (v := .pointer (some ⟨bl, 0, none⟩)) rfl (by kernel_rfl) (by kernel_rfl) (by kernel_rfl) (fun _ _ _ h => h) (Or.inl ⟨by rfl, fun w9 hSw => ?_⟩) hHeld ?_
  · go_simp
  simp only [List.getElem_toArray, List.getElem_cons_succ, List.getElem_cons_zero, Act.put, List.setIfInBounds_toArray, List.set_cons_zero, List.set_cons_succ]; refine wpAnyH_take (i := 1) (v := .pointer (some ⟨bl, 0, none⟩)) rfl (by kernel_rfl) (by kernel_rfl) (by kernel_rfl) (fun _ _ _ h => h) (Or.inl ⟨by rfl, fun w9 hSw => ?_⟩) hHeld ?_
  · go_simp
  simp only [List.getElem_toArray, List.getElem_cons_succ, List.getElem_cons_zero, Act.put, List.setIfInBounds_toArray, List.set_cons_zero, List.set_cons_succ]; refine wpAnyH_take (i := 2) (v := .pointer (some ⟨bl, 0, none⟩)) rfl (by kernel_rfl) (by kernel_rfl) (by kernel_rfl) (fun _ _ _ h => h) (Or.inl ⟨by rfl, fun w9 hSw => ?_⟩) hHeld ?_
  · go_simp
  simp only [List.getElem_toArray, List.getElem_cons_succ, List.getElem_cons_zero, Act.put, List.setIfInBounds_toArray, List.set_cons_zero, List.set_cons_succ]; refine wpAnyH_take (i := 3) (v := .pointer (some ⟨bl, 4, none⟩)) rfl (by kernel_rfl) (by kernel_rfl) (by kernel_rfl) (fun _ _ _ h => h) (Or.inl ⟨by rfl, fun w9 hSw => ?_⟩) hHeld ?_
  · go_simp
  simp only [List.getElem_toArray, List.getElem_cons_succ, List.getElem_cons_zero, Act.put, List.setIfInBounds_toArray, List.set_cons_zero, List.set_cons_succ]; refine wpAnyH_take (i := 5) (v := .pointer (some ⟨bl, 0, none⟩)) rfl (by kernel_rfl) (by kernel_rfl) (by kernel_rfl) (fun _ _ _ h => h) (Or.inl ⟨by rfl, fun w9 hSw => ?_⟩) hHeld ?_
  · go_simp
  simp only [List.getElem_toArray, List.getElem_cons_succ, List.getElem_cons_zero, Act.put, List.setIfInBounds_toArray, List.set_cons_zero, List.set_cons_succ]; refine wpAnyH_take (i := 6) (v := .pointer (some ⟨bl, 0, none⟩)) rfl (by kernel_rfl) (by kernel_rfl) (by kernel_rfl) (fun _ _ _ h => h) (Or.inl ⟨by rfl, fun w9 hSw => ?_⟩) hHeld ?_
  · go_simp
  simp only [List.getElem_toArray, List.getElem_cons_succ, List.getElem_cons_zero, Act.put, List.setIfInBounds_toArray, List.set_cons_zero, List.set_cons_succ]; refine wpAnyH_take (i := 7) (v := .pointer (some ⟨bl, 3, none⟩)) rfl (by kernel_rfl) (by kernel_rfl) (by kernel_rfl) (fun _ _ _ h => h) (Or.inl ⟨by rfl, fun w9 hSw => ?_⟩) hHeld ?_
  · go_simp
  simp only [List.getElem_toArray, List.getElem_cons_succ, List.getElem_cons_zero, Act.put, List.setIfInBounds_toArray, List.set_cons_zero, List.set_cons_succ]; refine wpAnyH_take (i := 8) (v := .slice (some ⟨g, 0, none⟩) N fc) rfl (by kernel_rfl) (by kernel_rfl) (by kernel_rfl) (fun _ _ _ h => h) (Or.inl ⟨by rfl, fun w9 hSw => ?_⟩) hHeld ?_
  · have hc : w9.cell? ⟨bl, 3, none⟩ = some (.slice (some ⟨g, 0, none⟩) N fc) := hSw.1
    go_simp
  simp only [List.getElem_toArray, List.getElem_cons_succ, List.getElem_cons_zero, Act.put, List.setIfInBounds_toArray, List.set_cons_zero, List.set_cons_succ]; refine wpAnyH_take (i := 9) (v := .pointer (some ⟨g, 1, none⟩)) rfl (by kernel_rfl) (by kernel_rfl) (by kernel_rfl) (fun _ _ _ h => h) (Or.inl ⟨by rfl, fun w9 hSw => ?_⟩) hHeld ?_
  · go_simp
  simp only [List.getElem_toArray, List.getElem_cons_succ, List.getElem_cons_zero, Act.put, List.setIfInBounds_toArray, List.set_cons_zero, List.set_cons_succ]; refine wpAnyH_take (i := 10) (v := .int .i64 b) rfl (by kernel_rfl) (by kernel_rfl) (by kernel_rfl) (fun _ _ _ h => h) (Or.inl ⟨by rfl, fun w9 hSw => ?_⟩) hHeld ?_
  · have hc : w9.cell? ⟨g, 1, none⟩ = some (.int .i64 b) := hSw.2.2
    go_simp
  simp only [List.getElem_toArray, List.getElem_cons_succ, List.getElem_cons_zero, Act.put, List.setIfInBounds_toArray, List.set_cons_zero, List.set_cons_succ]; refine wpAnyH_take (i := 11) (v := .pointer (some ⟨bl, 0, none⟩)) rfl (by kernel_rfl) (by kernel_rfl) (by kernel_rfl) (fun _ _ _ h => h) (Or.inl ⟨by rfl, fun w9 hSw => ?_⟩) hHeld ?_
  · go_simp
  simp only [List.getElem_toArray, List.getElem_cons_succ, List.getElem_cons_zero, Act.put, List.setIfInBounds_toArray, List.set_cons_zero, List.set_cons_succ]; refine wpAnyH_take (i := 12) (v := .pointer (some ⟨bl, 0, none⟩)) rfl (by kernel_rfl) (by kernel_rfl) (by kernel_rfl) (fun _ _ _ h => h) (Or.inl ⟨by rfl, fun w9 hSw => ?_⟩) hHeld ?_
  · go_simp
  simp only [List.getElem_toArray, List.getElem_cons_succ, List.getElem_cons_zero, Act.put, List.setIfInBounds_toArray, List.set_cons_zero, List.set_cons_succ]; refine wpAnyH_take (i := 13) (v := .pointer (some ⟨bl, 3, none⟩)) rfl (by kernel_rfl) (by kernel_rfl) (by kernel_rfl) (fun _ _ _ h => h) (Or.inl ⟨by rfl, fun w9 hSw => ?_⟩) hHeld ?_
  · go_simp
  simp only [List.getElem_toArray, List.getElem_cons_succ, List.getElem_cons_zero, Act.put, List.setIfInBounds_toArray, List.set_cons_zero, List.set_cons_succ]; refine wpAnyH_take (i := 14) (v := .slice (some ⟨g, 0, none⟩) N fc) rfl (by kernel_rfl) (by kernel_rfl) (by kernel_rfl) (fun _ _ _ h => h) (Or.inl ⟨by rfl, fun w9 hSw => ?_⟩) hHeld ?_
  · have hc : w9.cell? ⟨bl, 3, none⟩ = some (.slice (some ⟨g, 0, none⟩) N fc) := hSw.1
    go_simp
  simp only [List.getElem_toArray, List.getElem_cons_succ, List.getElem_cons_zero, Act.put, List.setIfInBounds_toArray, List.set_cons_zero, List.set_cons_succ]; refine wpAnyH_take (i := 15) (v := .pointer (some ⟨g, 0, none⟩)) rfl (by kernel_rfl) (by kernel_rfl) (by kernel_rfl) (fun _ _ _ h => h) (Or.inl ⟨by rfl, fun w9 hSw => ?_⟩) hHeld ?_
  · go_simp
  simp only [List.getElem_toArray, List.getElem_cons_succ, List.getElem_cons_zero, Act.put, List.setIfInBounds_toArray, List.set_cons_zero, List.set_cons_succ]; refine wpAnyH_take (i := 16) (v := .int .i64 a) rfl (by kernel_rfl) (by kernel_rfl) (by kernel_rfl) (fun _ _ _ h => h) (Or.inl ⟨by rfl, fun w9 hSw => ?_⟩) hHeld ?_
  · have hc : w9.cell? ⟨g, 0, none⟩ = some (.int .i64 a) := hSw.2.1
    go_simp
  simp only [List.getElem_toArray, List.getElem_cons_succ, List.getElem_cons_zero, Act.put, List.setIfInBounds_toArray, List.set_cons_zero, List.set_cons_succ]; refine wpAnyH_take (i := 17) (v := .int .i64 (j : Nat)) rfl (by kernel_rfl) (by kernel_rfl) (by kernel_rfl) (fun _ _ _ h => h) (Or.inl ⟨by rfl, fun w9 hSw => ?_⟩) hHeld ?_
  · go_simp
  simp only [List.getElem_toArray, List.getElem_cons_succ, List.getElem_cons_zero, Act.put, List.setIfInBounds_toArray, List.set_cons_zero, List.set_cons_succ]; refine wpAnyH_ready (rs := [4]) (by kernel_rfl) (by simp) ?_; refine AllReadyH.cons rfl (fun K hK => ?_) AllReadyH.nil; have k4' : w4.drew.cell? ⟨bl, 4, none⟩ = some (.slice (some ⟨ra, 0, none⟩) R rc) := k4; go_simp; refine hK.out _ _ hHeld (fun hHeld => ?_); clear hK K; try simp only [List.getElem_toArray, List.getElem_cons_succ, List.getElem_cons_zero, Act.put, List.setIfInBounds_toArray, List.set_cons_zero, List.set_cons_succ]
  refine wpAnyH_ready (rs := [18]) (by kernel_rfl) (by simp) ?_; refine AllReadyH.cons rfl (fun K hK => ?_) AllReadyH.nil; have H5 : Hid (DL w4.drew bd bl S' L1 ro ∧ F3 wr w4.drew S1 L1 S' L1) := ⟨H4.out.1.below ⟨rfl, rfl, rfl, Nat.le_refl _, fun _ _ => rfl⟩, H4.out.2.1.trans (F3.below ⟨rfl, rfl, rfl, Nat.le_refl _, fun _ _ => rfl⟩)⟩
  generalize w4.drew = w5 at hHeld H5 ⊢; have HD : Hid (∀ (_ : Unit), _) := fun _ => delete_r (w := w5) (base := 0) (g := ra) (cap := rc) (j := j) (ds := ds) (by have h9 := H5.out.1.log.recs; rw [HR.out.2.2.2.1, HR.out.2.2.1, ← HR.out.2.1] at h9; have h8 := HR.out.1; subst h8; exact h9) (by have h8 := HR.out.1; have h7 := HR.out.2.2.2.2.1; omega)
  rw [← HR.out.1] at HD; go_simp; refine Calls.mono (HD.out ()) ?_; rintro e w6 ⟨rfl, ho6, hg6⟩; have hdr : (ds.drop j).map eH = (L1.rs.drop j).map (·.1) := by rw [List.map_drop, ← HR.out.2.2.1, List.map_drop]
  have hlr : (L1.rs.drop j).length = R - j := by rw [List.length_drop, ← HR.out.2.1, ← HR.out.1]
  rw [hdr, ← hlr] at ho6; obtain ⟨q1, q2⟩ := H5.out.1.log.setRec ho6 (by rw [HR.out.2.2.2.1]; exact hg6) (by rw [HR.out.2.2.2.1]; rfl); obtain ⟨r1, r2⟩ := H5.out.1.logged q1 q2 rfl; have hH6 : w6.heap[bl]? = some (.cells (lC L1) 141) := (hg6.block bl (H5.out.1.log.lt) (fun e => by injection e with e; have h9 := H5.out.1.log.rr ra (by rw [HR.out.2.2.2.1]; rfl); rw [← e, H5.out.1.log.rl] at h9; cases h9)).trans H5.out.1.log.log; rw [hlr] at r1 r2; have H6 : Hid (DL (w6.setCell ⟨bl, 4, none⟩ (.slice (some ⟨ra, 0, none⟩) (R - j) rc)) bd bl S' (setR L1 L1.fv L1.fs (.slice (some ⟨ra, 0, none⟩) (R - j) rc) (L1.rs.drop j)) ro ∧ F3 wr (w6.setCell ⟨bl, 4, none⟩ (.slice (some ⟨ra, 0, none⟩) (R - j) rc)) S1 L1 S' (setR L1 L1.fv L1.fs (.slice (some ⟨ra, 0, none⟩) (R - j) rc) (L1.rs.drop j))) := ⟨r1, H5.out.2.trans r2⟩
  have hgg : w6.heap[g]? = w5.heap[g]? := hg6.block g (cell_lt hHeld.2.1) (fun e => by injection e with e; have h9 := H5.out.1.log.rr ra (by rw [HR.out.2.2.2.1]; rfl); have h8 := H5.out.1.log.rf g (by rw [HN.out.2.2]; rfl); rw [← e, h8] at h9; cases h9); have hS6 : w6.cell? ⟨bl, 3, none⟩ = some (.slice (some ⟨g, 0, none⟩) N fc) ∧ w6.cell? ⟨g, 0, none⟩ = some (.int .i64 a) ∧ w6.cell? ⟨g, 1, none⟩ = some (.int .i64 b) := ⟨(cell_of_block hH6 3).trans (by show some L1.fv = _; rw [HN.out.2.2]), (World.cell?_of_block (a := ⟨g, 0, none⟩) hgg).trans hHeld.2.1, (World.cell?_of_block (a := ⟨g, 1, none⟩) hgg).trans hHeld.2.2⟩
  have hgb : g ≠ bl := fun e => by have h8 := H5.out.1.log.rf g (by rw [HN.out.2.2]; rfl); rw [e, H5.out.1.log.rl] at h8; cases h8
  have f4 : w6.frozen? ⟨bl, 4, none⟩ = false := unfrozen_of_block hH6 4; have k6 : w6.cell? ⟨bl, 4, none⟩ = some (.slice (some ⟨ra, 0, none⟩) R rc) := (cell_of_block hH6 4).trans (by show some L1.rv = _; rw [HR.out.2.2.2.1]); clear HD ho6 hg6 hdr hlr q1 q2 r1 r2 hHeld hgg; go_wp2_with fail; refine hK.out _ _ hS6 (fun hHeld => ?_); clear hK K; try simp only [List.getElem_toArray, List.getElem_cons_succ, List.getElem_cons_zero, Act.put, List.setIfInBounds_toArray, List.set_cons_zero, List.set_cons_succ]
  refine wpAnyH_take (i := 19) (v := .pointer (some ⟨bl, 0, none⟩)) rfl (by kernel_rfl) (by kernel_rfl) (by kernel_rfl) (fun _ _ _ h => h) (Or.inl ⟨by rfl, fun w9 hSw => ?_⟩) hHeld ?_
  · go_simp
  simp only [List.getElem_toArray, List.getElem_cons_succ, List.getElem_cons_zero, Act.put, List.setIfInBounds_toArray, List.set_cons_zero, List.set_cons_succ]; refine wpAnyH_take (i := 20) (v := .pointer (some ⟨bl, 4, none⟩)) rfl (by kernel_rfl) (by kernel_rfl) (by kernel_rfl) (fun _ _ _ h => h) (Or.inl ⟨by rfl, fun w9 hSw => ?_⟩) hHeld ?_
  · go_simp
  simp only [List.getElem_toArray, List.getElem_cons_succ, List.getElem_cons_zero, Act.put, List.setIfInBounds_toArray, List.set_cons_zero, List.set_cons_succ]; refine wpAnyH_ready (rs := [21]) (by kernel_rfl) (by simp) ?_; refine AllReadyH.cons rfl (fun K hK => ?_) AllReadyH.nil; go_simp; have hH7 := H6.out.1.log.log; obtain ⟨w7, hw7⟩ : ∃ w7, w7 = w6.setCell ⟨bl, 4, none⟩ (.slice (some ⟨ra, 0, none⟩) (R - j) rc) := ⟨_, rfl⟩
  have hS7 : w7.cell? ⟨bl, 3, none⟩ = some (.slice (some ⟨g, 0, none⟩) N fc) ∧ w7.cell? ⟨g, 0, none⟩ = some (.int .i64 a) ∧ w7.cell? ⟨g, 1, none⟩ = some (.int .i64 b) := by
   rw [hw7]; have hk : (w6.setCell ⟨bl, 4, none⟩ (.slice (some ⟨ra, 0, none⟩) (R - j) rc)).heap[g]? = w6.heap[g]? := Below.heap_setCell _ _ _ _ hgb; exact ⟨(cell_of_block hH7 3).trans (by show some L1.fv = _; rw [HN.out.2.2]), (World.cell?_of_block (a := ⟨g, 0, none⟩) hk).trans hS6.2.1, (World.cell?_of_block (a := ⟨g, 1, none⟩) hk).trans hS6.2.2⟩
  rw [← hw7] at H6 hH7 ⊢; clear hw7 hS6 f4 k6 hH6 hgb; go_wp2_with fail; refine hK.out _ _ hS7 (fun hHeld => ?_); clear hK K; try simp only [List.getElem_toArray, List.getElem_cons_succ, List.getElem_cons_zero, Act.put, List.setIfInBounds_toArray, List.set_cons_zero, List.set_cons_succ]
  refine wpAnyH_done (by kernel_rfl) ?_ _; have k3' := hS7.1; have HD8 : Hid (∀ (_ : Unit), _) := fun _ => delete_i (w := w7) (base := 0) (g := g) (cap := fc) (j := 1) (zs := L1.fs) (by have h9 := H6.out.1.log.files; have h8 : (setR L1 L1.fv L1.fs (.slice (some ⟨ra, 0, none⟩) (R - j) rc) (L1.rs.drop j)).fv = .slice (some ⟨g, 0, none⟩) N fc := HN.out.2.2; rw [h8] at h9; have h7 := HN.out.1; subst h7; exact h9) (by have := HN.out.1; omega)
  rw [← HN.out.1] at HD8; clear hS7 hHeld; have T8 : Hid True := trivial; go_wp2_with (first
   | (have _ := T8
      go_at_call 92
      clear T8; refine Calls.mono (HD8.out ()) ?_; rintro e w8 ⟨rfl, ho8, hg8⟩; have hd8 : L1.fs.drop 1 = b :: r := by rw [HN.out.2.1]; rfl
      have hl8 : (b :: r).length = N - 1 := by have := HNL.out; simp; omega
      rw [hd8, ← hl8] at ho8; obtain ⟨q1, q2⟩ := H6.out.1.log.setFil ho8 (by rw [show (setR L1 L1.fv L1.fs (.slice (some ⟨ra, 0, none⟩) (R - j) rc) (L1.rs.drop j)).fv = .slice (some ⟨g, 0, none⟩) N fc from HN.out.2.2]; exact hg8) (by rw [show (setR L1 L1.fv L1.fs (.slice (some ⟨ra, 0, none⟩) (R - j) rc) (L1.rs.drop j)).fv = .slice (some ⟨g, 0, none⟩) N fc from HN.out.2.2]; rfl); obtain ⟨r1, r2⟩ := H6.out.1.logged q1 q2 rfl; have hH8 : w8.heap[bl]? = some (.cells (lC (setR L1 L1.fv L1.fs (.slice (some ⟨ra, 0, none⟩) (R - j) rc) (L1.rs.drop j))) 141) := (hg8.block bl (heap_lt hH7) (fun e => by injection e with e; have h9 := H6.out.1.log.rf g (by rw [show (setR L1 L1.fv L1.fs (.slice (some ⟨ra, 0, none⟩) (R - j) rc) (L1.rs.drop j)).fv = .slice (some ⟨g, 0, none⟩) N fc from HN.out.2.2]; rfl); rw [← e, H6.out.1.log.rl] at h9; cases h9)).trans hH7; have f3 : w8.frozen? ⟨bl, 3, none⟩ = false := unfrozen_of_block hH8 3; have k8 : w8.cell? ⟨bl, 3, none⟩ = some (.slice (some ⟨g, 0, none⟩) N fc) := (cell_of_block hH8 3).trans (by show some L1.fv = _; rw [HN.out.2.2]); rw [hl8] at r1 r2; have H8 : Hid (DL (w8.setCell ⟨bl, 3, none⟩ (.slice (some ⟨g, 0, none⟩) (N - 1) fc)) bd bl S' (setR L1 (.slice (some ⟨g, 0, none⟩) (N - 1) fc) (b :: r) (.slice (some ⟨ra, 0, none⟩) (R - j) rc) (L1.rs.drop j)) ro ∧ F3 wr (w8.setCell ⟨bl, 3, none⟩ (.slice (some ⟨g, 0, none⟩) (N - 1) fc)) S1 L1 S' (setR L1 (.slice (some ⟨g, 0, none⟩) (N - 1) fc) (b :: r) (.slice (some ⟨ra, 0, none⟩) (R - j) rc) (L1.rs.drop j))) := ⟨r1, H6.out.2.trans r2⟩
      clear HD8 ho8 hg8 hd8 hl8 q1 q2 r1 r2 hH8))
  go_roundw
  case rel =>
   refine ⟨S', setR L1 (.slice (some ⟨g, 0, none⟩) (N - 1) fc) (b :: r) (.slice (some ⟨ra, 0, none⟩) (R - j) rc) (L1.rs.drop j), H8.out.1, HJ.out.f3.trans H8.out.2, ?_, ?_, ?_, ?_, HJ.out.rest, ?_⟩
   · rw [HJ.out.eq, HN.out.2.1]
     conv => lhs; unfold pTrim
     rw [if_pos hbn, ← HC.out, if_pos HC0.out, ← H4.out.2.2, ← HR.out.2.2.2.2.2, ← List.map_drop]; rfl
   · show TrimOk (b :: r) (L1.rs.drop j).length
     rw [List.length_drop]; exact HT.out.2
   · intro x hx
     exact HJ.out.bd x (by rw [HN.out.2.1]; exact List.mem_cons_of_mem _ hx)
   · have h1 := HJ.out.st
     have h2 := HST.out; have h3 := HN.out.1; have h4 := HNL.out; show S'.steps + ((b :: r).length : Int) < _; rw [List.length_cons]; omega
   · show (L1.rs.drop j).length ≤ _
     rw [List.length_drop]; have := HJ.out.rl; omega
  case measure =>
   have h1 : filN bl wr = N := by
    unfold filN; rw [show wr.cell? ⟨bl, 3, none⟩ = some (.slice (some ⟨g, 0, none⟩) N fc) from (cell_of_block HJ.out.dl.log.log 3).trans (by show some L1.fv = _; rw [HN.out.2.2])]
   have h2 : filN bl (w8.setCell ⟨bl, 3, none⟩ (.slice (some ⟨g, 0, none⟩) (N - 1) fc)) = N - 1 := by
    unfold filN; rw [show (w8.setCell ⟨bl, 3, none⟩ (.slice (some ⟨g, 0, none⟩) (N - 1) fc)).cell? ⟨bl, 3, none⟩ = some (.slice (some ⟨g, 0, none⟩) (N - 1) fc) from (cell_of_block H8.out.1.log.log 3).trans rfl]
   have h3 := HNL.out; omega
end Go.Proofs.YtconkienlcegaaaGreatDoor
