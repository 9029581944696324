/- disk: does, call by call, whatever the plans. -/
import Derived.Test.YtllkpnlgemjgfaaCG
import Derived.Test.YtllkpnlgemjgfaaPF
namespace Go.Proofs.Ytllkpnlgemjgfaa
open Go.RowKit Go.Maps Go.Joins
set_option linter.unusedSimpArgs false
set_option linter.unusedVariables false
set_option maxRecDepth 100000 in
set_option maxHeartbeats 8000000 in
theorem gdoes1 {w : World} {bd br : Nat} {S : DS} {R : RS} {ro : Int} (h : Tw w bd br S R ro) (hst : S.steps < 4611686018427387903) (hrn : R.n < 4611686018427387903) (x : Int) (s t : ByteArray) (hs : s.size ≤ 9223372036854775807) (ht : t.size ≤ 9223372036854775807) (va : Option Addr) (vc : Nat) (bs : List Int) (hv : BytesV w (.slice va bs.length vc) bs) (hv1 : ∀ b, dBlock (.slice va bs.length vc) bs = some b → b < w.heap.size ∧ S.role b = .none ∧ R.own b = 0) (hb63 : bs.length ≤ 4611686018427387904) (y : Int) (kv pv : Value) (hw : Wf (gL (stepE S [s]) (absP S) (lApp (absP S) ro s bs)) ro) :
    Calls Try.prog 9 #[.pointer (some ⟨bd, 0, none⟩), .pointer (some ⟨br, 0, none⟩), .agg (opC 1 x s t (.slice va bs.length vc) y kv pv)] w fun e w' => e = .returned (.bool true) ∧ ∃ S' R', Tw w' bd br S' R' ro ∧ F2 w w' S R S' R' ∧ absP S' = gL (stepE S [s]) (absP S) (lApp (absP S) ro s bs) ∧ S'.steps ≤ S.steps + 1 ∧ R'.n ≤ R.n + 1 := by
  have hbd := h.disk.lt
  have hbr := h.ref.lt
  have H0 : Hid (Tw (w.alloc (.cells (opC 1 x s t (.slice va bs.length vc) y kv pv) 35)) bd br S R ro ∧ F2 w (w.alloc (.cells (opC 1 x s t (.slice va bs.length vc) y kv pv) 35)) S R S R ∧ (w.alloc (.cells (opC 1 x s t (.slice va bs.length vc) y kv pv) 35)).heap[w.heap.size]? = some (.cells (opC 1 x s t (.slice va bs.length vc) y kv pv) 35) ∧ BytesV (w.alloc (.cells (opC 1 x s t (.slice va bs.length vc) y kv pv) 35)) (.slice va bs.length vc) bs) := ⟨h.below (by go_grown), F2.below (by go_grown), heap_alloc_new _ _, hv.below (by go_grown)⟩
  have HB : Hid (S.role w.heap.size = .none ∧ R.own w.heap.size = 0 ∧ (w.alloc (.cells (opC 1 x s t (.slice va bs.length vc) y kv pv) 35)).heap.size = w.heap.size + 1) := ⟨h.disk.fresh _ (Nat.le_refl _), h.ref.fresh _ (Nat.le_refl _), by simp⟩
  have HV : Hid (∀ b, dBlock (.slice va bs.length vc) bs = some b → b < w.heap.size ∧ S.role b = .none ∧ R.own b = 0) := hv1
  have HT9 : Hid (S.steps = R.n) := h.steps
  have HH : Hid (S.steps < 4611686018427387903 ∧ R.n < 4611686018427387903 ∧ Wf (gL (stepE S [s]) (absP S) (lApp (absP S) ro s bs)) ro) := ⟨hst, hrn, hw⟩
  clear h hv hv1 hst hrn hw
  have k0 : (w.alloc (.cells (opC 1 x s t (.slice va bs.length vc) y kv pv) 35)).cell? ⟨w.heap.size, 0, none⟩ = some (.int .i64 1) := by rw [cell_of_block H0.out.2.2.1]; rfl
  go_enter Try.func9, Try.ntmps9
  unfold opC
  go_wp2
  rw [show #[Value.int .i64 1, .int .i64 x, .string s, .string t, .slice va bs.length vc, .int .u8 y, kv, pv] = opC 1 x s t (.slice va bs.length vc) y kv pv from rfl]
  generalize w.alloc (.cells (opC 1 x s t (.slice va bs.length vc) y kv pv) 35) = w0 at H0 HB k0 ⊢
  clear k0
  refine wp_region_held_drew (S := fun w' => w'.heap[w.heap.size]? = some (.cells (opC 1 x s t (.slice va bs.length vc) y kv pv) 35)) (by kernel_rfl) H0.out.2.2.1 (fun hHeld => ?_)
  refine wpAnyH_take (i := 0) (v := .pointer (some ⟨bd, 0, none⟩)) rfl (by kernel_rfl) (by kernel_rfl) (by kernel_rfl) (fun _ _ _ h => h) (Or.inl ⟨by rfl, fun w9 hSw => ?_⟩) hHeld ?_
  · go_simp
  simp only [List.getElem_toArray, List.getElem_cons_succ, List.getElem_cons_zero, Act.put, List.setIfInBounds_toArray, List.set_cons_zero, List.set_cons_succ]
  refine wpAnyH_take (i := 1) (v := .pointer (some ⟨w.heap.size, 2, none⟩)) rfl (by kernel_rfl) (by kernel_rfl) (by kernel_rfl) (fun _ _ _ h => h) (Or.inl ⟨by rfl, fun w9 hSw => ?_⟩) hHeld ?_
  · go_simp
  simp only [List.getElem_toArray, List.getElem_cons_succ, List.getElem_cons_zero, Act.put, List.setIfInBounds_toArray, List.set_cons_zero, List.set_cons_succ]
  refine wpAnyH_take (i := 2) (v := .string s) rfl (by kernel_rfl) (by kernel_rfl) (by kernel_rfl) (fun _ _ _ h => h) (Or.inl ⟨by rfl, fun w9 hSw => ?_⟩) hHeld ?_
  · have hc : w9.cell? ⟨w.heap.size, 2, none⟩ = some (.string s) := (cell_of_block hSw 2).trans rfl
    go_simp
  simp only [List.getElem_toArray, List.getElem_cons_succ, List.getElem_cons_zero, Act.put, List.setIfInBounds_toArray, List.set_cons_zero, List.set_cons_succ]
  refine wpAnyH_take (i := 3) (v := .pointer (some ⟨w.heap.size, 4, none⟩)) rfl (by kernel_rfl) (by kernel_rfl) (by kernel_rfl) (fun _ _ _ h => h) (Or.inl ⟨by rfl, fun w9 hSw => ?_⟩) hHeld ?_
  · go_simp
  simp only [List.getElem_toArray, List.getElem_cons_succ, List.getElem_cons_zero, Act.put, List.setIfInBounds_toArray, List.set_cons_zero, List.set_cons_succ]
  refine wpAnyH_take (i := 4) (v := .slice va bs.length vc) rfl (by kernel_rfl) (by kernel_rfl) (by kernel_rfl) (fun _ _ _ h => h) (Or.inl ⟨by rfl, fun w9 hSw => ?_⟩) hHeld ?_
  · have hc : w9.cell? ⟨w.heap.size, 4, none⟩ = some (.slice va bs.length vc) := (cell_of_block hSw 4).trans rfl
    go_simp
  simp only [List.getElem_toArray, List.getElem_cons_succ, List.getElem_cons_zero, Act.put, List.setIfInBounds_toArray, List.set_cons_zero, List.set_cons_succ]
  refine wpAnyH_take (i := 6) (v := .pointer (some ⟨br, 0, none⟩)) rfl (by kernel_rfl) (by kernel_rfl) (by kernel_rfl) (fun _ _ _ h => h) (Or.inl ⟨by rfl, fun w9 hSw => ?_⟩) hHeld ?_
  · go_simp
  simp only [List.getElem_toArray, List.getElem_cons_succ, List.getElem_cons_zero, Act.put, List.setIfInBounds_toArray, List.set_cons_zero, List.set_cons_succ]
  refine wpAnyH_take (i := 7) (v := .pointer (some ⟨w.heap.size, 2, none⟩)) rfl (by kernel_rfl) (by kernel_rfl) (by kernel_rfl) (fun _ _ _ h => h) (Or.inl ⟨by rfl, fun w9 hSw => ?_⟩) hHeld ?_
  · go_simp
  simp only [List.getElem_toArray, List.getElem_cons_succ, List.getElem_cons_zero, Act.put, List.setIfInBounds_toArray, List.set_cons_zero, List.set_cons_succ]
  refine wpAnyH_take (i := 8) (v := .string s) rfl (by kernel_rfl) (by kernel_rfl) (by kernel_rfl) (fun _ _ _ h => h) (Or.inl ⟨by rfl, fun w9 hSw => ?_⟩) hHeld ?_
  · have hc : w9.cell? ⟨w.heap.size, 2, none⟩ = some (.string s) := (cell_of_block hSw 2).trans rfl
    go_simp
  simp only [List.getElem_toArray, List.getElem_cons_succ, List.getElem_cons_zero, Act.put, List.setIfInBounds_toArray, List.set_cons_zero, List.set_cons_succ]
  refine wpAnyH_take (i := 9) (v := .pointer (some ⟨w.heap.size, 4, none⟩)) rfl (by kernel_rfl) (by kernel_rfl) (by kernel_rfl) (fun _ _ _ h => h) (Or.inl ⟨by rfl, fun w9 hSw => ?_⟩) hHeld ?_
  · go_simp
  simp only [List.getElem_toArray, List.getElem_cons_succ, List.getElem_cons_zero, Act.put, List.setIfInBounds_toArray, List.set_cons_zero, List.set_cons_succ]
  refine wpAnyH_take (i := 10) (v := .slice va bs.length vc) rfl (by kernel_rfl) (by kernel_rfl) (by kernel_rfl) (fun _ _ _ h => h) (Or.inl ⟨by rfl, fun w9 hSw => ?_⟩) hHeld ?_
  · have hc : w9.cell? ⟨w.heap.size, 4, none⟩ = some (.slice va bs.length vc) := (cell_of_block hSw 4).trans rfl
    go_simp
  simp only [List.getElem_toArray, List.getElem_cons_succ, List.getElem_cons_zero, Act.put, List.setIfInBounds_toArray, List.set_cons_zero, List.set_cons_succ]
  refine wpAnyH_ready (rs := [5]) (by kernel_rfl) (by simp) ?_
  refine AllReadyH.cons rfl (fun K hK => ?_) AllReadyH.nil
  have HT : Tw w0.drew bd br S R ro := H0.out.1.below ⟨rfl, rfl, rfl, Nat.le_refl _, fun _ _ => rfl⟩
  have HF0 : F2 w w0.drew S R S R := H0.out.2.1.trans (F2.below ⟨rfl, rfl, rfl, Nat.le_refl _, fun _ _ => rfl⟩)
  have HBv : BytesV w0.drew (.slice va bs.length vc) bs := H0.out.2.2.2.below ⟨rfl, rfl, rfl, Nat.le_refl _, fun _ _ => rfl⟩
  have hsz : w0.drew.heap.size = w.heap.size + 1 := HB.out.2.2
  generalize w0.drew = w1 at hHeld HT HF0 HBv hsz ⊢
  go_simp
  refine Calls.mono (g_append HT.disk HT.gb s hs va vc bs HBv (fun b hb => (HV.out b hb).2.1) hb63) ?_
  rintro e w2 ⟨rfl, S', hD, hF, hPS⟩
  have hM := HT.first hD hF
  have hH2 : w2.heap[w.heap.size]? = some (.cells (opC 1 x s t (.slice va bs.length vc) y kv pv) 35) := (hF.block w.heap.size (by omega) HB.out.1).trans hHeld
  have HBv2 : BytesV w2 (.slice va bs.length vc) bs := HBv.fr (fun b hb => (HV.out b hb).2.1) hF
  have H1 : Hid (Tw w1 bd br S R ro ∧ Mid w1 w2 bd br S S' R ∧ GS S S' (stepS S [s]).down (stepS S [s]).steps (gL (stepE S [s]) (absP S) (lApp (absP S) ro s bs)) ∧ F2 w w1 S R S R ∧ BytesV w2 (.slice va bs.length vc) bs) := ⟨HT, hM, hPS, HF0, HBv2⟩
  clear HT HF0 HBv hD hF hPS hM HBv2 hHeld hsz
  go_wp2_with fail
  refine hK.out _ _ hH2 (fun hHeld => ?_)
  clear hK K
  try simp only [List.getElem_toArray, List.getElem_cons_succ, List.getElem_cons_zero, Act.put, List.setIfInBounds_toArray, List.set_cons_zero, List.set_cons_succ]
  refine wpAnyH_ready (rs := [11]) (by kernel_rfl) (by simp) ?_
  refine AllReadyH.cons rfl (fun K hK => ?_) AllReadyH.nil
  have hr := h_append H1.out.2.1.ref H1.out.1.hb s hs va vc bs H1.out.2.2.2.2 (fun b hb => (HV.out b hb).2.2) hb63
  rw [← H1.out.1.same, H1.out.1.stepE (ns := [s]) ((okN1 s).trans (nn s).symm)] at hr
  go_simp
  refine Calls.mono hr ?_
  clear hr
  rintro e w3 ⟨rfl, R', hR, hRF, hRPS⟩
  obtain ⟨q1, q2, q3⟩ := H1.out.2.1.second hR hRF
  have hH3 : w3.heap[w.heap.size]? = some (.cells (opC 1 x s t (.slice va bs.length vc) y kv pv) 35) := (hRF.block w.heap.size (heap_lt hH2) HB.out.2.1).trans hH2
  have H3 : Hid (Tw w3 bd br S' R' ro ∧ F2 w w3 S R S' R' ∧ GS S S' (stepS S [s]).down (stepS S [s]).steps (gL (stepE S [s]) (absP S) (lApp (absP S) ro s bs)) ∧ HS R R' (rstS R s s).down (rstS R s s).n (gL (stepE S [s]) (absP S) (lApp (absP S) ro s bs))) := ⟨H1.out.1.next (ns := [s]) ((okN1 s).trans (nn s).symm) q1 hR q2 H1.out.2.2.1 hRPS HH.out.2.2 HH.out.1, H1.out.2.2.2.1.trans q3, H1.out.2.2.1, hRPS⟩
  clear hR hRF hRPS q1 q2 q3 hHeld
  go_wp2_with fail
  refine hK.out _ _ hH3 (fun hHeld => ?_)
  clear hK K
  try simp only [List.getElem_toArray, List.getElem_cons_succ, List.getElem_cons_zero, Act.put, List.setIfInBounds_toArray, List.set_cons_zero, List.set_cons_succ]
  refine wpAnyH_take (i := 12) (v := .bool true) rfl (by kernel_rfl) (by kernel_rfl) (by kernel_rfl) (fun _ _ _ h => h) (Or.inl ⟨by rfl, fun w9 hSw => ?_⟩) hHeld ?_
  · go_simp
  simp only [List.getElem_toArray, List.getElem_cons_succ, List.getElem_cons_zero, Act.put, List.setIfInBounds_toArray, List.set_cons_zero, List.set_cons_succ]
  refine wpAnyH_take (i := 13) (v := .bool true) rfl (by kernel_rfl) (by kernel_rfl) (by kernel_rfl) (fun _ _ _ h => h) (Or.inl ⟨by rfl, fun w9 hSw => ?_⟩) hHeld ?_
  · go_simp
  simp only [List.getElem_toArray, List.getElem_cons_succ, List.getElem_cons_zero, Act.put, List.setIfInBounds_toArray, List.set_cons_zero, List.set_cons_succ]
  refine wpAnyH_done (by kernel_rfl) ?_ _
  go_wp2
  go_ret
  refine ⟨rfl, S', R', H3.out.1, H3.out.2.1, H3.out.2.2.1.abs, ?_, ?_⟩
  · rw [H3.out.2.2.1.steps]
    exact (stepS_le S [s]).2
  · rw [← H3.out.1.steps, H3.out.2.2.1.steps]
    exact Int.le_trans (stepS_le S [s]).2 (by rw [HT9.out]; omega)
set_option maxRecDepth 100000 in
set_option maxHeartbeats 8000000 in
theorem gdoes2 {w : World} {bd br : Nat} {S : DS} {R : RS} {ro : Int} (h : Tw w bd br S R ro) (hst : S.steps < 4611686018427387903) (hrn : R.n < 4611686018427387903) (x : Int) (s t : ByteArray) (hs : s.size ≤ 9223372036854775807) (ht : t.size ≤ 9223372036854775807) (va : Option Addr) (vc : Nat) (bs : List Int) (hv : BytesV w (.slice va bs.length vc) bs) (hv1 : ∀ b, dBlock (.slice va bs.length vc) bs = some b → b < w.heap.size ∧ S.role b = .none ∧ R.own b = 0) (hb63 : bs.length ≤ 4611686018427387904) (y : Int) (kv pv : Value) (hw : Wf (gL (stepE S [s]) (absP S) (lSync (absP S) s)) ro) :
    Calls Try.prog 9 #[.pointer (some ⟨bd, 0, none⟩), .pointer (some ⟨br, 0, none⟩), .agg (opC 2 x s t (.slice va bs.length vc) y kv pv)] w fun e w' => e = .returned (.bool true) ∧ ∃ S' R', Tw w' bd br S' R' ro ∧ F2 w w' S R S' R' ∧ absP S' = gL (stepE S [s]) (absP S) (lSync (absP S) s) ∧ S'.steps ≤ S.steps + 1 ∧ R'.n ≤ R.n + 1 := by
  have hbd := h.disk.lt
  have hbr := h.ref.lt
  have H0 : Hid (Tw (w.alloc (.cells (opC 2 x s t (.slice va bs.length vc) y kv pv) 35)) bd br S R ro ∧ F2 w (w.alloc (.cells (opC 2 x s t (.slice va bs.length vc) y kv pv) 35)) S R S R ∧ (w.alloc (.cells (opC 2 x s t (.slice va bs.length vc) y kv pv) 35)).heap[w.heap.size]? = some (.cells (opC 2 x s t (.slice va bs.length vc) y kv pv) 35) ∧ BytesV (w.alloc (.cells (opC 2 x s t (.slice va bs.length vc) y kv pv) 35)) (.slice va bs.length vc) bs) := ⟨h.below (by go_grown), F2.below (by go_grown), heap_alloc_new _ _, hv.below (by go_grown)⟩
  have HB : Hid (S.role w.heap.size = .none ∧ R.own w.heap.size = 0 ∧ (w.alloc (.cells (opC 2 x s t (.slice va bs.length vc) y kv pv) 35)).heap.size = w.heap.size + 1) := ⟨h.disk.fresh _ (Nat.le_refl _), h.ref.fresh _ (Nat.le_refl _), by simp⟩
  have HV : Hid (∀ b, dBlock (.slice va bs.length vc) bs = some b → b < w.heap.size ∧ S.role b = .none ∧ R.own b = 0) := hv1
  have HT9 : Hid (S.steps = R.n) := h.steps
  have HH : Hid (S.steps < 4611686018427387903 ∧ R.n < 4611686018427387903 ∧ Wf (gL (stepE S [s]) (absP S) (lSync (absP S) s)) ro) := ⟨hst, hrn, hw⟩
  clear h hv hv1 hst hrn hw
  have k0 : (w.alloc (.cells (opC 2 x s t (.slice va bs.length vc) y kv pv) 35)).cell? ⟨w.heap.size, 0, none⟩ = some (.int .i64 2) := by rw [cell_of_block H0.out.2.2.1]; rfl
  go_enter Try.func9, Try.ntmps9
  unfold opC
  go_wp2
  rw [show #[Value.int .i64 2, .int .i64 x, .string s, .string t, .slice va bs.length vc, .int .u8 y, kv, pv] = opC 2 x s t (.slice va bs.length vc) y kv pv from rfl]
  generalize w.alloc (.cells (opC 2 x s t (.slice va bs.length vc) y kv pv) 35) = w0 at H0 HB k0 ⊢
  clear k0
  refine wp_region_held_drew (S := fun w' => w'.heap[w.heap.size]? = some (.cells (opC 2 x s t (.slice va bs.length vc) y kv pv) 35)) (by kernel_rfl) H0.out.2.2.1 (fun hHeld => ?_)
  refine wpAnyH_take (i := 0) (v := .pointer (some ⟨bd, 0, none⟩)) rfl (by kernel_rfl) (by kernel_rfl) (by kernel_rfl) (fun _ _ _ h => h) (Or.inl ⟨by rfl, fun w9 hSw => ?_⟩) hHeld ?_
  · go_simp
  simp only [List.getElem_toArray, List.getElem_cons_succ, List.getElem_cons_zero, Act.put, List.setIfInBounds_toArray, List.set_cons_zero, List.set_cons_succ]
  refine wpAnyH_take (i := 1) (v := .pointer (some ⟨w.heap.size, 2, none⟩)) rfl (by kernel_rfl) (by kernel_rfl) (by kernel_rfl) (fun _ _ _ h => h) (Or.inl ⟨by rfl, fun w9 hSw => ?_⟩) hHeld ?_
  · go_simp
  simp only [List.getElem_toArray, List.getElem_cons_succ, List.getElem_cons_zero, Act.put, List.setIfInBounds_toArray, List.set_cons_zero, List.set_cons_succ]
  refine wpAnyH_take (i := 2) (v := .string s) rfl (by kernel_rfl) (by kernel_rfl) (by kernel_rfl) (fun _ _ _ h => h) (Or.inl ⟨by rfl, fun w9 hSw => ?_⟩) hHeld ?_
  · have hc : w9.cell? ⟨w.heap.size, 2, none⟩ = some (.string s) := (cell_of_block hSw 2).trans rfl
    go_simp
  simp only [List.getElem_toArray, List.getElem_cons_succ, List.getElem_cons_zero, Act.put, List.setIfInBounds_toArray, List.set_cons_zero, List.set_cons_succ]
  refine wpAnyH_take (i := 4) (v := .pointer (some ⟨br, 0, none⟩)) rfl (by kernel_rfl) (by kernel_rfl) (by kernel_rfl) (fun _ _ _ h => h) (Or.inl ⟨by rfl, fun w9 hSw => ?_⟩) hHeld ?_
  · go_simp
  simp only [List.getElem_toArray, List.getElem_cons_succ, List.getElem_cons_zero, Act.put, List.setIfInBounds_toArray, List.set_cons_zero, List.set_cons_succ]
  refine wpAnyH_take (i := 5) (v := .pointer (some ⟨w.heap.size, 2, none⟩)) rfl (by kernel_rfl) (by kernel_rfl) (by kernel_rfl) (fun _ _ _ h => h) (Or.inl ⟨by rfl, fun w9 hSw => ?_⟩) hHeld ?_
  · go_simp
  simp only [List.getElem_toArray, List.getElem_cons_succ, List.getElem_cons_zero, Act.put, List.setIfInBounds_toArray, List.set_cons_zero, List.set_cons_succ]
  refine wpAnyH_take (i := 6) (v := .string s) rfl (by kernel_rfl) (by kernel_rfl) (by kernel_rfl) (fun _ _ _ h => h) (Or.inl ⟨by rfl, fun w9 hSw => ?_⟩) hHeld ?_
  · have hc : w9.cell? ⟨w.heap.size, 2, none⟩ = some (.string s) := (cell_of_block hSw 2).trans rfl
    go_simp
  simp only [List.getElem_toArray, List.getElem_cons_succ, List.getElem_cons_zero, Act.put, List.setIfInBounds_toArray, List.set_cons_zero, List.set_cons_succ]
  refine wpAnyH_ready (rs := [3]) (by kernel_rfl) (by simp) ?_
  refine AllReadyH.cons rfl (fun K hK => ?_) AllReadyH.nil
  have HT : Tw w0.drew bd br S R ro := H0.out.1.below ⟨rfl, rfl, rfl, Nat.le_refl _, fun _ _ => rfl⟩
  have HF0 : F2 w w0.drew S R S R := H0.out.2.1.trans (F2.below ⟨rfl, rfl, rfl, Nat.le_refl _, fun _ _ => rfl⟩)
  have HBv : BytesV w0.drew (.slice va bs.length vc) bs := H0.out.2.2.2.below ⟨rfl, rfl, rfl, Nat.le_refl _, fun _ _ => rfl⟩
  have hsz : w0.drew.heap.size = w.heap.size + 1 := HB.out.2.2
  generalize w0.drew = w1 at hHeld HT HF0 HBv hsz ⊢
  go_simp
  refine Calls.mono (g_sync HT.disk HT.gb s hs) ?_
  rintro e w2 ⟨rfl, S', hD, hF, hPS⟩
  have hM := HT.first hD hF
  have hH2 : w2.heap[w.heap.size]? = some (.cells (opC 2 x s t (.slice va bs.length vc) y kv pv) 35) := (hF.block w.heap.size (by omega) HB.out.1).trans hHeld
  have HBv2 : BytesV w2 (.slice va bs.length vc) bs := HBv.fr (fun b hb => (HV.out b hb).2.1) hF
  have H1 : Hid (Tw w1 bd br S R ro ∧ Mid w1 w2 bd br S S' R ∧ GS S S' (stepS S [s]).down (stepS S [s]).steps (gL (stepE S [s]) (absP S) (lSync (absP S) s)) ∧ F2 w w1 S R S R ∧ BytesV w2 (.slice va bs.length vc) bs) := ⟨HT, hM, hPS, HF0, HBv2⟩
  clear HT HF0 HBv hD hF hPS hM HBv2 hHeld hsz
  go_wp2_with fail
  refine hK.out _ _ hH2 (fun hHeld => ?_)
  clear hK K
  try simp only [List.getElem_toArray, List.getElem_cons_succ, List.getElem_cons_zero, Act.put, List.setIfInBounds_toArray, List.set_cons_zero, List.set_cons_succ]
  refine wpAnyH_ready (rs := [7]) (by kernel_rfl) (by simp) ?_
  refine AllReadyH.cons rfl (fun K hK => ?_) AllReadyH.nil
  have hr := h_sync H1.out.2.1.ref H1.out.1.hb s hs
  rw [← H1.out.1.same, H1.out.1.stepE (ns := [s]) ((okN1 s).trans (nn s).symm)] at hr
  go_simp
  refine Calls.mono hr ?_
  clear hr
  rintro e w3 ⟨rfl, R', hR, hRF, hRPS⟩
  obtain ⟨q1, q2, q3⟩ := H1.out.2.1.second hR hRF
  have hH3 : w3.heap[w.heap.size]? = some (.cells (opC 2 x s t (.slice va bs.length vc) y kv pv) 35) := (hRF.block w.heap.size (heap_lt hH2) HB.out.2.1).trans hH2
  have H3 : Hid (Tw w3 bd br S' R' ro ∧ F2 w w3 S R S' R' ∧ GS S S' (stepS S [s]).down (stepS S [s]).steps (gL (stepE S [s]) (absP S) (lSync (absP S) s)) ∧ HS R R' (rstS R s s).down (rstS R s s).n (gL (stepE S [s]) (absP S) (lSync (absP S) s))) := ⟨H1.out.1.next (ns := [s]) ((okN1 s).trans (nn s).symm) q1 hR q2 H1.out.2.2.1 hRPS HH.out.2.2 HH.out.1, H1.out.2.2.2.1.trans q3, H1.out.2.2.1, hRPS⟩
  clear hR hRF hRPS q1 q2 q3 hHeld
  go_wp2_with fail
  refine hK.out _ _ hH3 (fun hHeld => ?_)
  clear hK K
  try simp only [List.getElem_toArray, List.getElem_cons_succ, List.getElem_cons_zero, Act.put, List.setIfInBounds_toArray, List.set_cons_zero, List.set_cons_succ]
  refine wpAnyH_take (i := 8) (v := .bool true) rfl (by kernel_rfl) (by kernel_rfl) (by kernel_rfl) (fun _ _ _ h => h) (Or.inl ⟨by rfl, fun w9 hSw => ?_⟩) hHeld ?_
  · go_simp
  simp only [List.getElem_toArray, List.getElem_cons_succ, List.getElem_cons_zero, Act.put, List.setIfInBounds_toArray, List.set_cons_zero, List.set_cons_succ]
  refine wpAnyH_take (i := 9) (v := .bool true) rfl (by kernel_rfl) (by kernel_rfl) (by kernel_rfl) (fun _ _ _ h => h) (Or.inl ⟨by rfl, fun w9 hSw => ?_⟩) hHeld ?_
  · go_simp
  simp only [List.getElem_toArray, List.getElem_cons_succ, List.getElem_cons_zero, Act.put, List.setIfInBounds_toArray, List.set_cons_zero, List.set_cons_succ]
  refine wpAnyH_done (by kernel_rfl) ?_ _
  go_wp2
  go_ret
  refine ⟨rfl, S', R', H3.out.1, H3.out.2.1, H3.out.2.2.1.abs, ?_, ?_⟩
  · rw [H3.out.2.2.1.steps]
    exact (stepS_le S [s]).2
  · rw [← H3.out.1.steps, H3.out.2.2.1.steps]
    exact Int.le_trans (stepS_le S [s]).2 (by rw [HT9.out]; omega)
set_option maxRecDepth 100000 in
set_option maxHeartbeats 8000000 in
theorem gdoes3 {w : World} {bd br : Nat} {S : DS} {R : RS} {ro : Int} (h : Tw w bd br S R ro) (hst : S.steps < 4611686018427387903) (hrn : R.n < 4611686018427387903) (x : Int) (s t : ByteArray) (hs : s.size ≤ 9223372036854775807) (ht : t.size ≤ 9223372036854775807) (va : Option Addr) (vc : Nat) (bs : List Int) (hv : BytesV w (.slice va bs.length vc) bs) (hv1 : ∀ b, dBlock (.slice va bs.length vc) bs = some b → b < w.heap.size ∧ S.role b = .none ∧ R.own b = 0) (hb63 : bs.length ≤ 4611686018427387904) (y : Int) (kv pv : Value) (hw : Wf (gL (stepE S [s]) (absP S) (lTru (absP S) s x)) ro) :
    Calls Try.prog 9 #[.pointer (some ⟨bd, 0, none⟩), .pointer (some ⟨br, 0, none⟩), .agg (opC 3 x s t (.slice va bs.length vc) y kv pv)] w fun e w' => e = .returned (.bool true) ∧ ∃ S' R', Tw w' bd br S' R' ro ∧ F2 w w' S R S' R' ∧ absP S' = gL (stepE S [s]) (absP S) (lTru (absP S) s x) ∧ S'.steps ≤ S.steps + 1 ∧ R'.n ≤ R.n + 1 := by
  have hbd := h.disk.lt
  have hbr := h.ref.lt
  have H0 : Hid (Tw (w.alloc (.cells (opC 3 x s t (.slice va bs.length vc) y kv pv) 35)) bd br S R ro ∧ F2 w (w.alloc (.cells (opC 3 x s t (.slice va bs.length vc) y kv pv) 35)) S R S R ∧ (w.alloc (.cells (opC 3 x s t (.slice va bs.length vc) y kv pv) 35)).heap[w.heap.size]? = some (.cells (opC 3 x s t (.slice va bs.length vc) y kv pv) 35) ∧ BytesV (w.alloc (.cells (opC 3 x s t (.slice va bs.length vc) y kv pv) 35)) (.slice va bs.length vc) bs) := ⟨h.below (by go_grown), F2.below (by go_grown), heap_alloc_new _ _, hv.below (by go_grown)⟩
  have HB : Hid (S.role w.heap.size = .none ∧ R.own w.heap.size = 0 ∧ (w.alloc (.cells (opC 3 x s t (.slice va bs.length vc) y kv pv) 35)).heap.size = w.heap.size + 1) := ⟨h.disk.fresh _ (Nat.le_refl _), h.ref.fresh _ (Nat.le_refl _), by simp⟩
  have HV : Hid (∀ b, dBlock (.slice va bs.length vc) bs = some b → b < w.heap.size ∧ S.role b = .none ∧ R.own b = 0) := hv1
  have HT9 : Hid (S.steps = R.n) := h.steps
  have HH : Hid (S.steps < 4611686018427387903 ∧ R.n < 4611686018427387903 ∧ Wf (gL (stepE S [s]) (absP S) (lTru (absP S) s x)) ro) := ⟨hst, hrn, hw⟩
  clear h hv hv1 hst hrn hw
  have k0 : (w.alloc (.cells (opC 3 x s t (.slice va bs.length vc) y kv pv) 35)).cell? ⟨w.heap.size, 0, none⟩ = some (.int .i64 3) := by rw [cell_of_block H0.out.2.2.1]; rfl
  go_enter Try.func9, Try.ntmps9
  unfold opC
  go_wp2
  rw [show #[Value.int .i64 3, .int .i64 x, .string s, .string t, .slice va bs.length vc, .int .u8 y, kv, pv] = opC 3 x s t (.slice va bs.length vc) y kv pv from rfl]
  generalize w.alloc (.cells (opC 3 x s t (.slice va bs.length vc) y kv pv) 35) = w0 at H0 HB k0 ⊢
  clear k0
  refine wp_region_held_drew (S := fun w' => w'.heap[w.heap.size]? = some (.cells (opC 3 x s t (.slice va bs.length vc) y kv pv) 35)) (by kernel_rfl) H0.out.2.2.1 (fun hHeld => ?_)
  refine wpAnyH_take (i := 0) (v := .pointer (some ⟨bd, 0, none⟩)) rfl (by kernel_rfl) (by kernel_rfl) (by kernel_rfl) (fun _ _ _ h => h) (Or.inl ⟨by rfl, fun w9 hSw => ?_⟩) hHeld ?_
  · go_simp
  simp only [List.getElem_toArray, List.getElem_cons_succ, List.getElem_cons_zero, Act.put, List.setIfInBounds_toArray, List.set_cons_zero, List.set_cons_succ]
  refine wpAnyH_take (i := 1) (v := .pointer (some ⟨w.heap.size, 2, none⟩)) rfl (by kernel_rfl) (by kernel_rfl) (by kernel_rfl) (fun _ _ _ h => h) (Or.inl ⟨by rfl, fun w9 hSw => ?_⟩) hHeld ?_
  · go_simp
  simp only [List.getElem_toArray, List.getElem_cons_succ, List.getElem_cons_zero, Act.put, List.setIfInBounds_toArray, List.set_cons_zero, List.set_cons_succ]
  refine wpAnyH_take (i := 2) (v := .string s) rfl (by kernel_rfl) (by kernel_rfl) (by kernel_rfl) (fun _ _ _ h => h) (Or.inl ⟨by rfl, fun w9 hSw => ?_⟩) hHeld ?_
  · have hc : w9.cell? ⟨w.heap.size, 2, none⟩ = some (.string s) := (cell_of_block hSw 2).trans rfl
    go_simp
  simp only [List.getElem_toArray, List.getElem_cons_succ, List.getElem_cons_zero, Act.put, List.setIfInBounds_toArray, List.set_cons_zero, List.set_cons_succ]
  refine wpAnyH_take (i := 3) (v := .pointer (some ⟨w.heap.size, 1, none⟩)) rfl (by kernel_rfl) (by kernel_rfl) (by kernel_rfl) (fun _ _ _ h => h) (Or.inl ⟨by rfl, fun w9 hSw => ?_⟩) hHeld ?_
  · go_simp
  simp only [List.getElem_toArray, List.getElem_cons_succ, List.getElem_cons_zero, Act.put, List.setIfInBounds_toArray, List.set_cons_zero, List.set_cons_succ]
  refine wpAnyH_take (i := 4) (v := .int .i64 x) rfl (by kernel_rfl) (by kernel_rfl) (by kernel_rfl) (fun _ _ _ h => h) (Or.inl ⟨by rfl, fun w9 hSw => ?_⟩) hHeld ?_
  · have hc : w9.cell? ⟨w.heap.size, 1, none⟩ = some (.int .i64 x) := (cell_of_block hSw 1).trans rfl
    go_simp
  simp only [List.getElem_toArray, List.getElem_cons_succ, List.getElem_cons_zero, Act.put, List.setIfInBounds_toArray, List.set_cons_zero, List.set_cons_succ]
  refine wpAnyH_take (i := 6) (v := .pointer (some ⟨br, 0, none⟩)) rfl (by kernel_rfl) (by kernel_rfl) (by kernel_rfl) (fun _ _ _ h => h) (Or.inl ⟨by rfl, fun w9 hSw => ?_⟩) hHeld ?_
  · go_simp
  simp only [List.getElem_toArray, List.getElem_cons_succ, List.getElem_cons_zero, Act.put, List.setIfInBounds_toArray, List.set_cons_zero, List.set_cons_succ]
  refine wpAnyH_take (i := 7) (v := .pointer (some ⟨w.heap.size, 2, none⟩)) rfl (by kernel_rfl) (by kernel_rfl) (by kernel_rfl) (fun _ _ _ h => h) (Or.inl ⟨by rfl, fun w9 hSw => ?_⟩) hHeld ?_
  · go_simp
  simp only [List.getElem_toArray, List.getElem_cons_succ, List.getElem_cons_zero, Act.put, List.setIfInBounds_toArray, List.set_cons_zero, List.set_cons_succ]
  refine wpAnyH_take (i := 8) (v := .string s) rfl (by kernel_rfl) (by kernel_rfl) (by kernel_rfl) (fun _ _ _ h => h) (Or.inl ⟨by rfl, fun w9 hSw => ?_⟩) hHeld ?_
  · have hc : w9.cell? ⟨w.heap.size, 2, none⟩ = some (.string s) := (cell_of_block hSw 2).trans rfl
    go_simp
  simp only [List.getElem_toArray, List.getElem_cons_succ, List.getElem_cons_zero, Act.put, List.setIfInBounds_toArray, List.set_cons_zero, List.set_cons_succ]
  refine wpAnyH_take (i := 9) (v := .pointer (some ⟨w.heap.size, 1, none⟩)) rfl (by kernel_rfl) (by kernel_rfl) (by kernel_rfl) (fun _ _ _ h => h) (Or.inl ⟨by rfl, fun w9 hSw => ?_⟩) hHeld ?_
  · go_simp
  simp only [List.getElem_toArray, List.getElem_cons_succ, List.getElem_cons_zero, Act.put, List.setIfInBounds_toArray, List.set_cons_zero, List.set_cons_succ]
  refine wpAnyH_take (i := 10) (v := .int .i64 x) rfl (by kernel_rfl) (by kernel_rfl) (by kernel_rfl) (fun _ _ _ h => h) (Or.inl ⟨by rfl, fun w9 hSw => ?_⟩) hHeld ?_
  · have hc : w9.cell? ⟨w.heap.size, 1, none⟩ = some (.int .i64 x) := (cell_of_block hSw 1).trans rfl
    go_simp
  simp only [List.getElem_toArray, List.getElem_cons_succ, List.getElem_cons_zero, Act.put, List.setIfInBounds_toArray, List.set_cons_zero, List.set_cons_succ]
  refine wpAnyH_ready (rs := [5]) (by kernel_rfl) (by simp) ?_
  refine AllReadyH.cons rfl (fun K hK => ?_) AllReadyH.nil
  have HT : Tw w0.drew bd br S R ro := H0.out.1.below ⟨rfl, rfl, rfl, Nat.le_refl _, fun _ _ => rfl⟩
  have HF0 : F2 w w0.drew S R S R := H0.out.2.1.trans (F2.below ⟨rfl, rfl, rfl, Nat.le_refl _, fun _ _ => rfl⟩)
  have HBv : BytesV w0.drew (.slice va bs.length vc) bs := H0.out.2.2.2.below ⟨rfl, rfl, rfl, Nat.le_refl _, fun _ _ => rfl⟩
  have hsz : w0.drew.heap.size = w.heap.size + 1 := HB.out.2.2
  generalize w0.drew = w1 at hHeld HT HF0 HBv hsz ⊢
  go_simp
  refine Calls.mono (g_trunc HT.disk HT.gb s hs x) ?_
  rintro e w2 ⟨rfl, S', hD, hF, hPS⟩
  have hM := HT.first hD hF
  have hH2 : w2.heap[w.heap.size]? = some (.cells (opC 3 x s t (.slice va bs.length vc) y kv pv) 35) := (hF.block w.heap.size (by omega) HB.out.1).trans hHeld
  have HBv2 : BytesV w2 (.slice va bs.length vc) bs := HBv.fr (fun b hb => (HV.out b hb).2.1) hF
  have H1 : Hid (Tw w1 bd br S R ro ∧ Mid w1 w2 bd br S S' R ∧ GS S S' (stepS S [s]).down (stepS S [s]).steps (gL (stepE S [s]) (absP S) (lTru (absP S) s x)) ∧ F2 w w1 S R S R ∧ BytesV w2 (.slice va bs.length vc) bs) := ⟨HT, hM, hPS, HF0, HBv2⟩
  clear HT HF0 HBv hD hF hPS hM HBv2 hHeld hsz
  go_wp2_with fail
  refine hK.out _ _ hH2 (fun hHeld => ?_)
  clear hK K
  try simp only [List.getElem_toArray, List.getElem_cons_succ, List.getElem_cons_zero, Act.put, List.setIfInBounds_toArray, List.set_cons_zero, List.set_cons_succ]
  refine wpAnyH_ready (rs := [11]) (by kernel_rfl) (by simp) ?_
  refine AllReadyH.cons rfl (fun K hK => ?_) AllReadyH.nil
  have hr := h_trunc H1.out.2.1.ref H1.out.1.hb s hs x
  rw [← H1.out.1.same, H1.out.1.stepE (ns := [s]) ((okN1 s).trans (nn s).symm)] at hr
  go_simp
  refine Calls.mono hr ?_
  clear hr
  rintro e w3 ⟨rfl, R', hR, hRF, hRPS⟩
  obtain ⟨q1, q2, q3⟩ := H1.out.2.1.second hR hRF
  have hH3 : w3.heap[w.heap.size]? = some (.cells (opC 3 x s t (.slice va bs.length vc) y kv pv) 35) := (hRF.block w.heap.size (heap_lt hH2) HB.out.2.1).trans hH2
  have H3 : Hid (Tw w3 bd br S' R' ro ∧ F2 w w3 S R S' R' ∧ GS S S' (stepS S [s]).down (stepS S [s]).steps (gL (stepE S [s]) (absP S) (lTru (absP S) s x)) ∧ HS R R' (rstS R s s).down (rstS R s s).n (gL (stepE S [s]) (absP S) (lTru (absP S) s x))) := ⟨H1.out.1.next (ns := [s]) ((okN1 s).trans (nn s).symm) q1 hR q2 H1.out.2.2.1 hRPS HH.out.2.2 HH.out.1, H1.out.2.2.2.1.trans q3, H1.out.2.2.1, hRPS⟩
  clear hR hRF hRPS q1 q2 q3 hHeld
  go_wp2_with fail
  refine hK.out _ _ hH3 (fun hHeld => ?_)
  clear hK K
  try simp only [List.getElem_toArray, List.getElem_cons_succ, List.getElem_cons_zero, Act.put, List.setIfInBounds_toArray, List.set_cons_zero, List.set_cons_succ]
  refine wpAnyH_take (i := 12) (v := .bool true) rfl (by kernel_rfl) (by kernel_rfl) (by kernel_rfl) (fun _ _ _ h => h) (Or.inl ⟨by rfl, fun w9 hSw => ?_⟩) hHeld ?_
  · go_simp
  simp only [List.getElem_toArray, List.getElem_cons_succ, List.getElem_cons_zero, Act.put, List.setIfInBounds_toArray, List.set_cons_zero, List.set_cons_succ]
  refine wpAnyH_take (i := 13) (v := .bool true) rfl (by kernel_rfl) (by kernel_rfl) (by kernel_rfl) (fun _ _ _ h => h) (Or.inl ⟨by rfl, fun w9 hSw => ?_⟩) hHeld ?_
  · go_simp
  simp only [List.getElem_toArray, List.getElem_cons_succ, List.getElem_cons_zero, Act.put, List.setIfInBounds_toArray, List.set_cons_zero, List.set_cons_succ]
  refine wpAnyH_done (by kernel_rfl) ?_ _
  go_wp2
  go_ret
  refine ⟨rfl, S', R', H3.out.1, H3.out.2.1, H3.out.2.2.1.abs, ?_, ?_⟩
  · rw [H3.out.2.2.1.steps]
    exact (stepS_le S [s]).2
  · rw [← H3.out.1.steps, H3.out.2.2.1.steps]
    exact Int.le_trans (stepS_le S [s]).2 (by rw [HT9.out]; omega)
set_option maxRecDepth 100000 in
set_option maxHeartbeats 8000000 in
theorem gdoes4 {w : World} {bd br : Nat} {S : DS} {R : RS} {ro : Int} (h : Tw w bd br S R ro) (hst : S.steps < 4611686018427387903) (hrn : R.n < 4611686018427387903) (x : Int) (s t : ByteArray) (hs : s.size ≤ 9223372036854775807) (ht : t.size ≤ 9223372036854775807) (va : Option Addr) (vc : Nat) (bs : List Int) (hv : BytesV w (.slice va bs.length vc) bs) (hv1 : ∀ b, dBlock (.slice va bs.length vc) bs = some b → b < w.heap.size ∧ S.role b = .none ∧ R.own b = 0) (hb63 : bs.length ≤ 4611686018427387904) (y : Int) (kv pv : Value) (hw : Wf (gL (stepE S [s, t]) (absP S) (lRen (absP S) s t)) ro) :
    Calls Try.prog 9 #[.pointer (some ⟨bd, 0, none⟩), .pointer (some ⟨br, 0, none⟩), .agg (opC 4 x s t (.slice va bs.length vc) y kv pv)] w fun e w' => e = .returned (.bool true) ∧ ∃ S' R', Tw w' bd br S' R' ro ∧ F2 w w' S R S' R' ∧ absP S' = gL (stepE S [s, t]) (absP S) (lRen (absP S) s t) ∧ S'.steps ≤ S.steps + 1 ∧ R'.n ≤ R.n + 1 := by
  have hbd := h.disk.lt
  have hbr := h.ref.lt
  have H0 : Hid (Tw (w.alloc (.cells (opC 4 x s t (.slice va bs.length vc) y kv pv) 35)) bd br S R ro ∧ F2 w (w.alloc (.cells (opC 4 x s t (.slice va bs.length vc) y kv pv) 35)) S R S R ∧ (w.alloc (.cells (opC 4 x s t (.slice va bs.length vc) y kv pv) 35)).heap[w.heap.size]? = some (.cells (opC 4 x s t (.slice va bs.length vc) y kv pv) 35) ∧ BytesV (w.alloc (.cells (opC 4 x s t (.slice va bs.length vc) y kv pv) 35)) (.slice va bs.length vc) bs) := ⟨h.below (by go_grown), F2.below (by go_grown), heap_alloc_new _ _, hv.below (by go_grown)⟩
  have HB : Hid (S.role w.heap.size = .none ∧ R.own w.heap.size = 0 ∧ (w.alloc (.cells (opC 4 x s t (.slice va bs.length vc) y kv pv) 35)).heap.size = w.heap.size + 1) := ⟨h.disk.fresh _ (Nat.le_refl _), h.ref.fresh _ (Nat.le_refl _), by simp⟩
  have HV : Hid (∀ b, dBlock (.slice va bs.length vc) bs = some b → b < w.heap.size ∧ S.role b = .none ∧ R.own b = 0) := hv1
  have HT9 : Hid (S.steps = R.n) := h.steps
  have HH : Hid (S.steps < 4611686018427387903 ∧ R.n < 4611686018427387903 ∧ Wf (gL (stepE S [s, t]) (absP S) (lRen (absP S) s t)) ro) := ⟨hst, hrn, hw⟩
  clear h hv hv1 hst hrn hw
  have k0 : (w.alloc (.cells (opC 4 x s t (.slice va bs.length vc) y kv pv) 35)).cell? ⟨w.heap.size, 0, none⟩ = some (.int .i64 4) := by rw [cell_of_block H0.out.2.2.1]; rfl
  go_enter Try.func9, Try.ntmps9
  unfold opC
  go_wp2
  rw [show #[Value.int .i64 4, .int .i64 x, .string s, .string t, .slice va bs.length vc, .int .u8 y, kv, pv] = opC 4 x s t (.slice va bs.length vc) y kv pv from rfl]
  generalize w.alloc (.cells (opC 4 x s t (.slice va bs.length vc) y kv pv) 35) = w0 at H0 HB k0 ⊢
  clear k0
  refine wp_region_held_drew (S := fun w' => w'.heap[w.heap.size]? = some (.cells (opC 4 x s t (.slice va bs.length vc) y kv pv) 35)) (by kernel_rfl) H0.out.2.2.1 (fun hHeld => ?_)
  refine wpAnyH_take (i := 0) (v := .pointer (some ⟨bd, 0, none⟩)) rfl (by kernel_rfl) (by kernel_rfl) (by kernel_rfl) (fun _ _ _ h => h) (Or.inl ⟨by rfl, fun w9 hSw => ?_⟩) hHeld ?_
  · go_simp
  simp only [List.getElem_toArray, List.getElem_cons_succ, List.getElem_cons_zero, Act.put, List.setIfInBounds_toArray, List.set_cons_zero, List.set_cons_succ]
  refine wpAnyH_take (i := 1) (v := .pointer (some ⟨w.heap.size, 2, none⟩)) rfl (by kernel_rfl) (by kernel_rfl) (by kernel_rfl) (fun _ _ _ h => h) (Or.inl ⟨by rfl, fun w9 hSw => ?_⟩) hHeld ?_
  · go_simp
  simp only [List.getElem_toArray, List.getElem_cons_succ, List.getElem_cons_zero, Act.put, List.setIfInBounds_toArray, List.set_cons_zero, List.set_cons_succ]
  refine wpAnyH_take (i := 2) (v := .string s) rfl (by kernel_rfl) (by kernel_rfl) (by kernel_rfl) (fun _ _ _ h => h) (Or.inl ⟨by rfl, fun w9 hSw => ?_⟩) hHeld ?_
  · have hc : w9.cell? ⟨w.heap.size, 2, none⟩ = some (.string s) := (cell_of_block hSw 2).trans rfl
    go_simp
  simp only [List.getElem_toArray, List.getElem_cons_succ, List.getElem_cons_zero, Act.put, List.setIfInBounds_toArray, List.set_cons_zero, List.set_cons_succ]
  refine wpAnyH_take (i := 3) (v := .pointer (some ⟨w.heap.size, 3, none⟩)) rfl (by kernel_rfl) (by kernel_rfl) (by kernel_rfl) (fun _ _ _ h => h) (Or.inl ⟨by rfl, fun w9 hSw => ?_⟩) hHeld ?_
  · go_simp
  simp only [List.getElem_toArray, List.getElem_cons_succ, List.getElem_cons_zero, Act.put, List.setIfInBounds_toArray, List.set_cons_zero, List.set_cons_succ]
  refine wpAnyH_take (i := 4) (v := .string t) rfl (by kernel_rfl) (by kernel_rfl) (by kernel_rfl) (fun _ _ _ h => h) (Or.inl ⟨by rfl, fun w9 hSw => ?_⟩) hHeld ?_
  · have hc : w9.cell? ⟨w.heap.size, 3, none⟩ = some (.string t) := (cell_of_block hSw 3).trans rfl
    go_simp
  simp only [List.getElem_toArray, List.getElem_cons_succ, List.getElem_cons_zero, Act.put, List.setIfInBounds_toArray, List.set_cons_zero, List.set_cons_succ]
  refine wpAnyH_take (i := 6) (v := .pointer (some ⟨br, 0, none⟩)) rfl (by kernel_rfl) (by kernel_rfl) (by kernel_rfl) (fun _ _ _ h => h) (Or.inl ⟨by rfl, fun w9 hSw => ?_⟩) hHeld ?_
  · go_simp
  simp only [List.getElem_toArray, List.getElem_cons_succ, List.getElem_cons_zero, Act.put, List.setIfInBounds_toArray, List.set_cons_zero, List.set_cons_succ]
  refine wpAnyH_take (i := 7) (v := .pointer (some ⟨w.heap.size, 2, none⟩)) rfl (by kernel_rfl) (by kernel_rfl) (by kernel_rfl) (fun _ _ _ h => h) (Or.inl ⟨by rfl, fun w9 hSw => ?_⟩) hHeld ?_
  · go_simp
  simp only [List.getElem_toArray, List.getElem_cons_succ, List.getElem_cons_zero, Act.put, List.setIfInBounds_toArray, List.set_cons_zero, List.set_cons_succ]
  refine wpAnyH_take (i := 8) (v := .string s) rfl (by kernel_rfl) (by kernel_rfl) (by kernel_rfl) (fun _ _ _ h => h) (Or.inl ⟨by rfl, fun w9 hSw => ?_⟩) hHeld ?_
  · have hc : w9.cell? ⟨w.heap.size, 2, none⟩ = some (.string s) := (cell_of_block hSw 2).trans rfl
    go_simp
  simp only [List.getElem_toArray, List.getElem_cons_succ, List.getElem_cons_zero, Act.put, List.setIfInBounds_toArray, List.set_cons_zero, List.set_cons_succ]
  refine wpAnyH_take (i := 9) (v := .pointer (some ⟨w.heap.size, 3, none⟩)) rfl (by kernel_rfl) (by kernel_rfl) (by kernel_rfl) (fun _ _ _ h => h) (Or.inl ⟨by rfl, fun w9 hSw => ?_⟩) hHeld ?_
  · go_simp
  simp only [List.getElem_toArray, List.getElem_cons_succ, List.getElem_cons_zero, Act.put, List.setIfInBounds_toArray, List.set_cons_zero, List.set_cons_succ]
  refine wpAnyH_take (i := 10) (v := .string t) rfl (by kernel_rfl) (by kernel_rfl) (by kernel_rfl) (fun _ _ _ h => h) (Or.inl ⟨by rfl, fun w9 hSw => ?_⟩) hHeld ?_
  · have hc : w9.cell? ⟨w.heap.size, 3, none⟩ = some (.string t) := (cell_of_block hSw 3).trans rfl
    go_simp
  simp only [List.getElem_toArray, List.getElem_cons_succ, List.getElem_cons_zero, Act.put, List.setIfInBounds_toArray, List.set_cons_zero, List.set_cons_succ]
  refine wpAnyH_ready (rs := [5]) (by kernel_rfl) (by simp) ?_
  refine AllReadyH.cons rfl (fun K hK => ?_) AllReadyH.nil
  have HT : Tw w0.drew bd br S R ro := H0.out.1.below ⟨rfl, rfl, rfl, Nat.le_refl _, fun _ _ => rfl⟩
  have HF0 : F2 w w0.drew S R S R := H0.out.2.1.trans (F2.below ⟨rfl, rfl, rfl, Nat.le_refl _, fun _ _ => rfl⟩)
  have HBv : BytesV w0.drew (.slice va bs.length vc) bs := H0.out.2.2.2.below ⟨rfl, rfl, rfl, Nat.le_refl _, fun _ _ => rfl⟩
  have hsz : w0.drew.heap.size = w.heap.size + 1 := HB.out.2.2
  generalize w0.drew = w1 at hHeld HT HF0 HBv hsz ⊢
  go_simp
  refine Calls.mono (g_rename HT.disk HT.gb s t hs ht) ?_
  rintro e w2 ⟨rfl, S', hD, hF, hPS⟩
  have hM := HT.first hD hF
  have hH2 : w2.heap[w.heap.size]? = some (.cells (opC 4 x s t (.slice va bs.length vc) y kv pv) 35) := (hF.block w.heap.size (by omega) HB.out.1).trans hHeld
  have HBv2 : BytesV w2 (.slice va bs.length vc) bs := HBv.fr (fun b hb => (HV.out b hb).2.1) hF
  have H1 : Hid (Tw w1 bd br S R ro ∧ Mid w1 w2 bd br S S' R ∧ GS S S' (stepS S [s, t]).down (stepS S [s, t]).steps (gL (stepE S [s, t]) (absP S) (lRen (absP S) s t)) ∧ F2 w w1 S R S R ∧ BytesV w2 (.slice va bs.length vc) bs) := ⟨HT, hM, hPS, HF0, HBv2⟩
  clear HT HF0 HBv hD hF hPS hM HBv2 hHeld hsz
  go_wp2_with fail
  refine hK.out _ _ hH2 (fun hHeld => ?_)
  clear hK K
  try simp only [List.getElem_toArray, List.getElem_cons_succ, List.getElem_cons_zero, Act.put, List.setIfInBounds_toArray, List.set_cons_zero, List.set_cons_succ]
  refine wpAnyH_ready (rs := [11]) (by kernel_rfl) (by simp) ?_
  refine AllReadyH.cons rfl (fun K hK => ?_) AllReadyH.nil
  have hr := h_rename H1.out.2.1.ref H1.out.1.hb s t hs ht
  rw [← H1.out.1.same, H1.out.1.stepE (ns := [s, t]) (okN2 s t)] at hr
  go_simp
  refine Calls.mono hr ?_
  clear hr
  rintro e w3 ⟨rfl, R', hR, hRF, hRPS⟩
  obtain ⟨q1, q2, q3⟩ := H1.out.2.1.second hR hRF
  have hH3 : w3.heap[w.heap.size]? = some (.cells (opC 4 x s t (.slice va bs.length vc) y kv pv) 35) := (hRF.block w.heap.size (heap_lt hH2) HB.out.2.1).trans hH2
  have H3 : Hid (Tw w3 bd br S' R' ro ∧ F2 w w3 S R S' R' ∧ GS S S' (stepS S [s, t]).down (stepS S [s, t]).steps (gL (stepE S [s, t]) (absP S) (lRen (absP S) s t)) ∧ HS R R' (rstS R s t).down (rstS R s t).n (gL (stepE S [s, t]) (absP S) (lRen (absP S) s t))) := ⟨H1.out.1.next (ns := [s, t]) (okN2 s t) q1 hR q2 H1.out.2.2.1 hRPS HH.out.2.2 HH.out.1, H1.out.2.2.2.1.trans q3, H1.out.2.2.1, hRPS⟩
  clear hR hRF hRPS q1 q2 q3 hHeld
  go_wp2_with fail
  refine hK.out _ _ hH3 (fun hHeld => ?_)
  clear hK K
  try simp only [List.getElem_toArray, List.getElem_cons_succ, List.getElem_cons_zero, Act.put, List.setIfInBounds_toArray, List.set_cons_zero, List.set_cons_succ]
  refine wpAnyH_take (i := 12) (v := .bool true) rfl (by kernel_rfl) (by kernel_rfl) (by kernel_rfl) (fun _ _ _ h => h) (Or.inl ⟨by rfl, fun w9 hSw => ?_⟩) hHeld ?_
  · go_simp
  simp only [List.getElem_toArray, List.getElem_cons_succ, List.getElem_cons_zero, Act.put, List.setIfInBounds_toArray, List.set_cons_zero, List.set_cons_succ]
  refine wpAnyH_take (i := 13) (v := .bool true) rfl (by kernel_rfl) (by kernel_rfl) (by kernel_rfl) (fun _ _ _ h => h) (Or.inl ⟨by rfl, fun w9 hSw => ?_⟩) hHeld ?_
  · go_simp
  simp only [List.getElem_toArray, List.getElem_cons_succ, List.getElem_cons_zero, Act.put, List.setIfInBounds_toArray, List.set_cons_zero, List.set_cons_succ]
  refine wpAnyH_done (by kernel_rfl) ?_ _
  go_wp2
  go_ret
  refine ⟨rfl, S', R', H3.out.1, H3.out.2.1, H3.out.2.2.1.abs, ?_, ?_⟩
  · rw [H3.out.2.2.1.steps]
    exact (stepS_le S [s, t]).2
  · rw [← H3.out.1.steps, H3.out.2.2.1.steps]
    exact Int.le_trans (stepS_le S [s, t]).2 (by rw [HT9.out]; omega)
set_option maxRecDepth 100000 in
set_option maxHeartbeats 8000000 in
theorem gdoes5 {w : World} {bd br : Nat} {S : DS} {R : RS} {ro : Int} (h : Tw w bd br S R ro) (hst : S.steps < 4611686018427387903) (hrn : R.n < 4611686018427387903) (x : Int) (s t : ByteArray) (hs : s.size ≤ 9223372036854775807) (ht : t.size ≤ 9223372036854775807) (va : Option Addr) (vc : Nat) (bs : List Int) (hv : BytesV w (.slice va bs.length vc) bs) (hv1 : ∀ b, dBlock (.slice va bs.length vc) bs = some b → b < w.heap.size ∧ S.role b = .none ∧ R.own b = 0) (hb63 : bs.length ≤ 4611686018427387904) (y : Int) (kv pv : Value) (hw : Wf (gL (stepE S [s]) (absP S) (lRem (absP S) s)) ro) :
    Calls Try.prog 9 #[.pointer (some ⟨bd, 0, none⟩), .pointer (some ⟨br, 0, none⟩), .agg (opC 5 x s t (.slice va bs.length vc) y kv pv)] w fun e w' => e = .returned (.bool true) ∧ ∃ S' R', Tw w' bd br S' R' ro ∧ F2 w w' S R S' R' ∧ absP S' = gL (stepE S [s]) (absP S) (lRem (absP S) s) ∧ S'.steps ≤ S.steps + 1 ∧ R'.n ≤ R.n + 1 := by
  have hbd := h.disk.lt
  have hbr := h.ref.lt
  have H0 : Hid (Tw (w.alloc (.cells (opC 5 x s t (.slice va bs.length vc) y kv pv) 35)) bd br S R ro ∧ F2 w (w.alloc (.cells (opC 5 x s t (.slice va bs.length vc) y kv pv) 35)) S R S R ∧ (w.alloc (.cells (opC 5 x s t (.slice va bs.length vc) y kv pv) 35)).heap[w.heap.size]? = some (.cells (opC 5 x s t (.slice va bs.length vc) y kv pv) 35) ∧ BytesV (w.alloc (.cells (opC 5 x s t (.slice va bs.length vc) y kv pv) 35)) (.slice va bs.length vc) bs) := ⟨h.below (by go_grown), F2.below (by go_grown), heap_alloc_new _ _, hv.below (by go_grown)⟩
  have HB : Hid (S.role w.heap.size = .none ∧ R.own w.heap.size = 0 ∧ (w.alloc (.cells (opC 5 x s t (.slice va bs.length vc) y kv pv) 35)).heap.size = w.heap.size + 1) := ⟨h.disk.fresh _ (Nat.le_refl _), h.ref.fresh _ (Nat.le_refl _), by simp⟩
  have HV : Hid (∀ b, dBlock (.slice va bs.length vc) bs = some b → b < w.heap.size ∧ S.role b = .none ∧ R.own b = 0) := hv1
  have HT9 : Hid (S.steps = R.n) := h.steps
  have HH : Hid (S.steps < 4611686018427387903 ∧ R.n < 4611686018427387903 ∧ Wf (gL (stepE S [s]) (absP S) (lRem (absP S) s)) ro) := ⟨hst, hrn, hw⟩
  clear h hv hv1 hst hrn hw
  have k0 : (w.alloc (.cells (opC 5 x s t (.slice va bs.length vc) y kv pv) 35)).cell? ⟨w.heap.size, 0, none⟩ = some (.int .i64 5) := by rw [cell_of_block H0.out.2.2.1]; rfl
  go_enter Try.func9, Try.ntmps9
  unfold opC
  go_wp2
  rw [show #[Value.int .i64 5, .int .i64 x, .string s, .string t, .slice va bs.length vc, .int .u8 y, kv, pv] = opC 5 x s t (.slice va bs.length vc) y kv pv from rfl]
  generalize w.alloc (.cells (opC 5 x s t (.slice va bs.length vc) y kv pv) 35) = w0 at H0 HB k0 ⊢
  clear k0
  refine wp_region_held_drew (S := fun w' => w'.heap[w.heap.size]? = some (.cells (opC 5 x s t (.slice va bs.length vc) y kv pv) 35)) (by kernel_rfl) H0.out.2.2.1 (fun hHeld => ?_)
  refine wpAnyH_take (i := 0) (v := .pointer (some ⟨bd, 0, none⟩)) rfl (by kernel_rfl) (by kernel_rfl) (by kernel_rfl) (fun _ _ _ h => h) (Or.inl ⟨by rfl, fun w9 hSw => ?_⟩) hHeld ?_
  · go_simp
  simp only [List.getElem_toArray, List.getElem_cons_succ, List.getElem_cons_zero, Act.put, List.setIfInBounds_toArray, List.set_cons_zero, List.set_cons_succ]
  refine wpAnyH_take (i := 1) (v := .pointer (some ⟨w.heap.size, 2, none⟩)) rfl (by kernel_rfl) (by kernel_rfl) (by kernel_rfl) (fun _ _ _ h => h) (Or.inl ⟨by rfl, fun w9 hSw => ?_⟩) hHeld ?_
  · go_simp
  simp only [List.getElem_toArray, List.getElem_cons_succ, List.getElem_cons_zero, Act.put, List.setIfInBounds_toArray, List.set_cons_zero, List.set_cons_succ]
  refine wpAnyH_take (i := 2) (v := .string s) rfl (by kernel_rfl) (by kernel_rfl) (by kernel_rfl) (fun _ _ _ h => h) (Or.inl ⟨by rfl, fun w9 hSw => ?_⟩) hHeld ?_
  · have hc : w9.cell? ⟨w.heap.size, 2, none⟩ = some (.string s) := (cell_of_block hSw 2).trans rfl
    go_simp
  simp only [List.getElem_toArray, List.getElem_cons_succ, List.getElem_cons_zero, Act.put, List.setIfInBounds_toArray, List.set_cons_zero, List.set_cons_succ]
  refine wpAnyH_take (i := 4) (v := .pointer (some ⟨br, 0, none⟩)) rfl (by kernel_rfl) (by kernel_rfl) (by kernel_rfl) (fun _ _ _ h => h) (Or.inl ⟨by rfl, fun w9 hSw => ?_⟩) hHeld ?_
  · go_simp
  simp only [List.getElem_toArray, List.getElem_cons_succ, List.getElem_cons_zero, Act.put, List.setIfInBounds_toArray, List.set_cons_zero, List.set_cons_succ]
  refine wpAnyH_take (i := 5) (v := .pointer (some ⟨w.heap.size, 2, none⟩)) rfl (by kernel_rfl) (by kernel_rfl) (by kernel_rfl) (fun _ _ _ h => h) (Or.inl ⟨by rfl, fun w9 hSw => ?_⟩) hHeld ?_
  · go_simp
  simp only [List.getElem_toArray, List.getElem_cons_succ, List.getElem_cons_zero, Act.put, List.setIfInBounds_toArray, List.set_cons_zero, List.set_cons_succ]
  refine wpAnyH_take (i := 6) (v := .string s) rfl (by kernel_rfl) (by kernel_rfl) (by kernel_rfl) (fun _ _ _ h => h) (Or.inl ⟨by rfl, fun w9 hSw => ?_⟩) hHeld ?_
  · have hc : w9.cell? ⟨w.heap.size, 2, none⟩ = some (.string s) := (cell_of_block hSw 2).trans rfl
    go_simp
  simp only [List.getElem_toArray, List.getElem_cons_succ, List.getElem_cons_zero, Act.put, List.setIfInBounds_toArray, List.set_cons_zero, List.set_cons_succ]
  refine wpAnyH_ready (rs := [3]) (by kernel_rfl) (by simp) ?_
  refine AllReadyH.cons rfl (fun K hK => ?_) AllReadyH.nil
  have HT : Tw w0.drew bd br S R ro := H0.out.1.below ⟨rfl, rfl, rfl, Nat.le_refl _, fun _ _ => rfl⟩
  have HF0 : F2 w w0.drew S R S R := H0.out.2.1.trans (F2.below ⟨rfl, rfl, rfl, Nat.le_refl _, fun _ _ => rfl⟩)
  have HBv : BytesV w0.drew (.slice va bs.length vc) bs := H0.out.2.2.2.below ⟨rfl, rfl, rfl, Nat.le_refl _, fun _ _ => rfl⟩
  have hsz : w0.drew.heap.size = w.heap.size + 1 := HB.out.2.2
  generalize w0.drew = w1 at hHeld HT HF0 HBv hsz ⊢
  go_simp
  refine Calls.mono (g_remove HT.disk HT.gb s hs) ?_
  rintro e w2 ⟨rfl, S', hD, hF, hPS⟩
  have hM := HT.first hD hF
  have hH2 : w2.heap[w.heap.size]? = some (.cells (opC 5 x s t (.slice va bs.length vc) y kv pv) 35) := (hF.block w.heap.size (by omega) HB.out.1).trans hHeld
  have HBv2 : BytesV w2 (.slice va bs.length vc) bs := HBv.fr (fun b hb => (HV.out b hb).2.1) hF
  have H1 : Hid (Tw w1 bd br S R ro ∧ Mid w1 w2 bd br S S' R ∧ GS S S' (stepS S [s]).down (stepS S [s]).steps (gL (stepE S [s]) (absP S) (lRem (absP S) s)) ∧ F2 w w1 S R S R ∧ BytesV w2 (.slice va bs.length vc) bs) := ⟨HT, hM, hPS, HF0, HBv2⟩
  clear HT HF0 HBv hD hF hPS hM HBv2 hHeld hsz
  go_wp2_with fail
  refine hK.out _ _ hH2 (fun hHeld => ?_)
  clear hK K
  try simp only [List.getElem_toArray, List.getElem_cons_succ, List.getElem_cons_zero, Act.put, List.setIfInBounds_toArray, List.set_cons_zero, List.set_cons_succ]
  refine wpAnyH_ready (rs := [7]) (by kernel_rfl) (by simp) ?_
  refine AllReadyH.cons rfl (fun K hK => ?_) AllReadyH.nil
  have hr := h_remove H1.out.2.1.ref H1.out.1.hb s hs
  rw [← H1.out.1.same, H1.out.1.stepE (ns := [s]) ((okN1 s).trans (nn s).symm)] at hr
  go_simp
  refine Calls.mono hr ?_
  clear hr
  rintro e w3 ⟨rfl, R', hR, hRF, hRPS⟩
  obtain ⟨q1, q2, q3⟩ := H1.out.2.1.second hR hRF
  have hH3 : w3.heap[w.heap.size]? = some (.cells (opC 5 x s t (.slice va bs.length vc) y kv pv) 35) := (hRF.block w.heap.size (heap_lt hH2) HB.out.2.1).trans hH2
  have H3 : Hid (Tw w3 bd br S' R' ro ∧ F2 w w3 S R S' R' ∧ GS S S' (stepS S [s]).down (stepS S [s]).steps (gL (stepE S [s]) (absP S) (lRem (absP S) s)) ∧ HS R R' (rstS R s s).down (rstS R s s).n (gL (stepE S [s]) (absP S) (lRem (absP S) s))) := ⟨H1.out.1.next (ns := [s]) ((okN1 s).trans (nn s).symm) q1 hR q2 H1.out.2.2.1 hRPS HH.out.2.2 HH.out.1, H1.out.2.2.2.1.trans q3, H1.out.2.2.1, hRPS⟩
  clear hR hRF hRPS q1 q2 q3 hHeld
  go_wp2_with fail
  refine hK.out _ _ hH3 (fun hHeld => ?_)
  clear hK K
  try simp only [List.getElem_toArray, List.getElem_cons_succ, List.getElem_cons_zero, Act.put, List.setIfInBounds_toArray, List.set_cons_zero, List.set_cons_succ]
  refine wpAnyH_take (i := 8) (v := .bool true) rfl (by kernel_rfl) (by kernel_rfl) (by kernel_rfl) (fun _ _ _ h => h) (Or.inl ⟨by rfl, fun w9 hSw => ?_⟩) hHeld ?_
  · go_simp
  simp only [List.getElem_toArray, List.getElem_cons_succ, List.getElem_cons_zero, Act.put, List.setIfInBounds_toArray, List.set_cons_zero, List.set_cons_succ]
  refine wpAnyH_take (i := 9) (v := .bool true) rfl (by kernel_rfl) (by kernel_rfl) (by kernel_rfl) (fun _ _ _ h => h) (Or.inl ⟨by rfl, fun w9 hSw => ?_⟩) hHeld ?_
  · go_simp
  simp only [List.getElem_toArray, List.getElem_cons_succ, List.getElem_cons_zero, Act.put, List.setIfInBounds_toArray, List.set_cons_zero, List.set_cons_succ]
  refine wpAnyH_done (by kernel_rfl) ?_ _
  go_wp2
  go_ret
  refine ⟨rfl, S', R', H3.out.1, H3.out.2.1, H3.out.2.2.1.abs, ?_, ?_⟩
  · rw [H3.out.2.2.1.steps]
    exact (stepS_le S [s]).2
  · rw [← H3.out.1.steps, H3.out.2.2.1.steps]
    exact Int.le_trans (stepS_le S [s]).2 (by rw [HT9.out]; omega)
end Go.Proofs.Ytllkpnlgemjgfaa
