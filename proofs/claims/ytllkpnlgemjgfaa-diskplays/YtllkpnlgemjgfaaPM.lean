/- disk: does, Spoil. -/
import Derived.Test.YtllkpnlgemjgfaaPG
import Derived.Test.YtllkpnlgemjgfaaGP
namespace Go.Proofs.Ytllkpnlgemjgfaa
open Go.RowKit Go.Maps Go.Joins
set_option linter.unusedSimpArgs false
set_option linter.unusedVariables false
set_option maxRecDepth 100000 in
set_option maxHeartbeats 8000000 in
theorem gdoes9 {w : World} {bd br : Nat} {S : DS} {R : RS} {ro : Int} (h : Tw w bd br S R ro) (x : Int) (s t : ByteArray) (hs : s.size ≤ 9223372036854775807) (va : Option Addr) (vc : Nat) (bs : List Int) (y : Int) (kv pv : Value) (hw : Wf (lSpo (absP S) s x y) ro) :
    Calls Try.prog 9 #[.pointer (some ⟨bd, 0, none⟩), .pointer (some ⟨br, 0, none⟩), .agg (opC 9 x s t (.slice va bs.length vc) y kv pv)] w fun e w' => e = .returned (.bool true) ∧ ∃ S' R', Tw w' bd br S' R' ro ∧ F2 w w' S R S' R' ∧ absP S' = lSpo (absP S) s x y ∧ S'.steps = S.steps := by
  have hbd := h.disk.lt
  have hbr := h.ref.lt
  have H0 : Hid (Tw (w.alloc (.cells (opC 9 x s t (.slice va bs.length vc) y kv pv) 35)) bd br S R ro ∧ F2 w (w.alloc (.cells (opC 9 x s t (.slice va bs.length vc) y kv pv) 35)) S R S R ∧ (w.alloc (.cells (opC 9 x s t (.slice va bs.length vc) y kv pv) 35)).heap[w.heap.size]? = some (.cells (opC 9 x s t (.slice va bs.length vc) y kv pv) 35)) := ⟨h.below (by go_grown), F2.below (by go_grown), heap_alloc_new _ _⟩
  have HB : Hid (S.role w.heap.size = .none ∧ R.own w.heap.size = 0 ∧ (w.alloc (.cells (opC 9 x s t (.slice va bs.length vc) y kv pv) 35)).heap.size = w.heap.size + 1) := ⟨h.disk.fresh _ (Nat.le_refl _), h.ref.fresh _ (Nat.le_refl _), by simp⟩
  have HH : Hid (Wf (lSpo (absP S) s x y) ro) := hw
  clear h hw
  have k0 : (w.alloc (.cells (opC 9 x s t (.slice va bs.length vc) y kv pv) 35)).cell? ⟨w.heap.size, 0, none⟩ = some (.int .i64 9) := by rw [cell_of_block H0.out.2.2]; rfl
  go_enter Try.func9, Try.ntmps9
  unfold opC
  go_wp2
  rw [show #[Value.int .i64 9, .int .i64 x, .string s, .string t, .slice va bs.length vc, .int .u8 y, kv, pv] = opC 9 x s t (.slice va bs.length vc) y kv pv from rfl]
  generalize w.alloc (.cells (opC 9 x s t (.slice va bs.length vc) y kv pv) 35) = w0 at H0 HB k0 ⊢
  clear k0
  refine wp_region_held_drew (S := fun w' => w'.heap[w.heap.size]? = some (.cells (opC 9 x s t (.slice va bs.length vc) y kv pv) 35)) (by kernel_rfl) H0.out.2.2 (fun hHeld => ?_)
  refine wpAnyH_take (i := 0) (v := .pointer (some ⟨bd, 0, none⟩)) rfl (by kernel_rfl) (by kernel_rfl) (by kernel_rfl) (fun _ _ _ h => h) (Or.inl ⟨by rfl, fun w9 hSw => ?_⟩) hHeld ?_
  · go_simp
  simp only [List.getElem_toArray, List.getElem_cons_succ, List.getElem_cons_zero, Act.put, List.setIfInBounds_toArray, List.set_cons_zero, List.set_cons_succ]
  refine wpAnyH_take (i := 1) (v := .pointer (some ⟨w.heap.size, 2, none⟩)) rfl (by kernel_rfl) (by kernel_rfl) (by kernel_rfl) (fun _ _ _ h => h) (Or.inl ⟨by rfl, fun w9 hSw => ?_⟩) hHeld ?_
  · go_simp
  simp only [List.getElem_toArray, List.getElem_cons_succ, List.getElem_cons_zero, Act.put, List.setIfInBounds_toArray, List.set_cons_zero, List.set_cons_succ]
  refine wpAnyH_take (i := 2) (v := .string s) rfl (by kernel_rfl) (by kernel_rfl) (by kernel_rfl) (fun _ _ _ h => h) (Or.inl ⟨by rfl, fun w9 hSw => ?_⟩) hHeld ?_
  · have hc : w9.cell? ⟨w.heap.size, 2, none⟩ = some (.string s) := (cell_of_block hSw 2).trans rfl
    go_simp
  simp only [List.getElem_toArray, List.getElem_cons_succ, List.getElem_cons_zero, Act.put, List.setIfInBounds_toArray, List.set_cons_zero, List.set_cons_succ]
  refine wpAnyH_take (i := 3) (v := .pointer (some ⟨w.heap.size, 1, none⟩)) rfl (by kernel_rfl) (by kernel_rfl) (by kernel_rfl) (fun _ _ _ h => h) (Or.inl ⟨by rfl, fun w9 hSw => ?_⟩) hHeld ?_
  · go_simp
  simp only [List.getElem_toArray, List.getElem_cons_succ, List.getElem_cons_zero, Act.put, List.setIfInBounds_toArray, List.set_cons_zero, List.set_cons_succ]
  refine wpAnyH_take (i := 4) (v := .int .i64 x) rfl (by kernel_rfl) (by kernel_rfl) (by kernel_rfl) (fun _ _ _ h => h) (Or.inl ⟨by rfl, fun w9 hSw => ?_⟩) hHeld ?_
  · have hc : w9.cell? ⟨w.heap.size, 1, none⟩ = some (.int .i64 x) := (cell_of_block hSw 1).trans rfl
    go_simp
  simp only [List.getElem_toArray, List.getElem_cons_succ, List.getElem_cons_zero, Act.put, List.setIfInBounds_toArray, List.set_cons_zero, List.set_cons_succ]
  refine wpAnyH_take (i := 5) (v := .pointer (some ⟨w.heap.size, 5, none⟩)) rfl (by kernel_rfl) (by kernel_rfl) (by kernel_rfl) (fun _ _ _ h => h) (Or.inl ⟨by rfl, fun w9 hSw => ?_⟩) hHeld ?_
  · go_simp
  simp only [List.getElem_toArray, List.getElem_cons_succ, List.getElem_cons_zero, Act.put, List.setIfInBounds_toArray, List.set_cons_zero, List.set_cons_succ]
  refine wpAnyH_take (i := 6) (v := .int .u8 y) rfl (by kernel_rfl) (by kernel_rfl) (by kernel_rfl) (fun _ _ _ h => h) (Or.inl ⟨by rfl, fun w9 hSw => ?_⟩) hHeld ?_
  · have hc : w9.cell? ⟨w.heap.size, 5, none⟩ = some (.int .u8 y) := (cell_of_block hSw 5).trans rfl
    go_simp
  simp only [List.getElem_toArray, List.getElem_cons_succ, List.getElem_cons_zero, Act.put, List.setIfInBounds_toArray, List.set_cons_zero, List.set_cons_succ]
  refine wpAnyH_take (i := 8) (v := .pointer (some ⟨br, 0, none⟩)) rfl (by kernel_rfl) (by kernel_rfl) (by kernel_rfl) (fun _ _ _ h => h) (Or.inl ⟨by rfl, fun w9 hSw => ?_⟩) hHeld ?_
  · go_simp
  simp only [List.getElem_toArray, List.getElem_cons_succ, List.getElem_cons_zero, Act.put, List.setIfInBounds_toArray, List.set_cons_zero, List.set_cons_succ]
  refine wpAnyH_take (i := 9) (v := .pointer (some ⟨w.heap.size, 2, none⟩)) rfl (by kernel_rfl) (by kernel_rfl) (by kernel_rfl) (fun _ _ _ h => h) (Or.inl ⟨by rfl, fun w9 hSw => ?_⟩) hHeld ?_
  · go_simp
  simp only [List.getElem_toArray, List.getElem_cons_succ, List.getElem_cons_zero, Act.put, List.setIfInBounds_toArray, List.set_cons_zero, List.set_cons_succ]
  refine wpAnyH_take (i := 10) (v := .string s) rfl (by kernel_rfl) (by kernel_rfl) (by kernel_rfl) (fun _ _ _ h => h) (Or.inl ⟨by rfl, fun w9 hSw => ?_⟩) hHeld ?_
  · have hc : w9.cell? ⟨w.heap.size, 2, none⟩ = some (.string s) := (cell_of_block hSw 2).trans rfl
    go_simp
  simp only [List.getElem_toArray, List.getElem_cons_succ, List.getElem_cons_zero, Act.put, List.setIfInBounds_toArray, List.set_cons_zero, List.set_cons_succ]
  refine wpAnyH_take (i := 11) (v := .pointer (some ⟨w.heap.size, 1, none⟩)) rfl (by kernel_rfl) (by kernel_rfl) (by kernel_rfl) (fun _ _ _ h => h) (Or.inl ⟨by rfl, fun w9 hSw => ?_⟩) hHeld ?_
  · go_simp
  simp only [List.getElem_toArray, List.getElem_cons_succ, List.getElem_cons_zero, Act.put, List.setIfInBounds_toArray, List.set_cons_zero, List.set_cons_succ]
  refine wpAnyH_take (i := 12) (v := .int .i64 x) rfl (by kernel_rfl) (by kernel_rfl) (by kernel_rfl) (fun _ _ _ h => h) (Or.inl ⟨by rfl, fun w9 hSw => ?_⟩) hHeld ?_
  · have hc : w9.cell? ⟨w.heap.size, 1, none⟩ = some (.int .i64 x) := (cell_of_block hSw 1).trans rfl
    go_simp
  simp only [List.getElem_toArray, List.getElem_cons_succ, List.getElem_cons_zero, Act.put, List.setIfInBounds_toArray, List.set_cons_zero, List.set_cons_succ]
  refine wpAnyH_take (i := 13) (v := .pointer (some ⟨w.heap.size, 5, none⟩)) rfl (by kernel_rfl) (by kernel_rfl) (by kernel_rfl) (fun _ _ _ h => h) (Or.inl ⟨by rfl, fun w9 hSw => ?_⟩) hHeld ?_
  · go_simp
  simp only [List.getElem_toArray, List.getElem_cons_succ, List.getElem_cons_zero, Act.put, List.setIfInBounds_toArray, List.set_cons_zero, List.set_cons_succ]
  refine wpAnyH_take (i := 14) (v := .int .u8 y) rfl (by kernel_rfl) (by kernel_rfl) (by kernel_rfl) (fun _ _ _ h => h) (Or.inl ⟨by rfl, fun w9 hSw => ?_⟩) hHeld ?_
  · have hc : w9.cell? ⟨w.heap.size, 5, none⟩ = some (.int .u8 y) := (cell_of_block hSw 5).trans rfl
    go_simp
  simp only [List.getElem_toArray, List.getElem_cons_succ, List.getElem_cons_zero, Act.put, List.setIfInBounds_toArray, List.set_cons_zero, List.set_cons_succ]
  refine wpAnyH_ready (rs := [7]) (by kernel_rfl) (by simp) ?_
  refine AllReadyH.cons rfl (fun K hK => ?_) AllReadyH.nil
  have HT : Tw w0.drew bd br S R ro := H0.out.1.below ⟨rfl, rfl, rfl, Nat.le_refl _, fun _ _ => rfl⟩
  have HF0 : F2 w w0.drew S R S R := H0.out.2.1.trans (F2.below ⟨rfl, rfl, rfl, Nat.le_refl _, fun _ _ => rfl⟩)
  have hsz : w0.drew.heap.size = w.heap.size + 1 := HB.out.2.2
  generalize w0.drew = w1 at hHeld HT HF0 hsz ⊢
  go_simp
  refine Calls.mono (g_spoil HT.disk HT.gb s hs x y) ?_
  rintro e w2 ⟨rfl, S', hD, hF, hPS⟩
  have hM := HT.first hD hF
  have hH2 : w2.heap[w.heap.size]? = some (.cells (opC 9 x s t (.slice va bs.length vc) y kv pv) 35) := (hF.block w.heap.size (by omega) HB.out.1).trans hHeld
  have H1 : Hid (Tw w1 bd br S R ro ∧ Mid w1 w2 bd br S S' R ∧ GS S S' S.down S.steps (lSpo (absP S) s x y) ∧ F2 w w1 S R S R) := ⟨HT, hM, hPS, HF0⟩
  clear HT HF0 hD hF hPS hM hHeld hsz
  go_wp2_with fail
  refine hK.out _ _ hH2 (fun hHeld => ?_)
  clear hK K
  try simp only [List.getElem_toArray, List.getElem_cons_succ, List.getElem_cons_zero, Act.put, List.setIfInBounds_toArray, List.set_cons_zero, List.set_cons_succ]
  refine wpAnyH_ready (rs := [15]) (by kernel_rfl) (by simp) ?_
  refine AllReadyH.cons rfl (fun K hK => ?_) AllReadyH.nil
  have hr := h_spoil H1.out.2.1.ref H1.out.1.hb s x y
  rw [← H1.out.1.same] at hr
  go_simp
  refine Calls.mono hr ?_
  clear hr
  rintro e w3 ⟨rfl, R', hR, hRF, hRPS⟩
  obtain ⟨q1, q2, q3⟩ := H1.out.2.1.second hR hRF
  have hH3 : w3.heap[w.heap.size]? = some (.cells (opC 9 x s t (.slice va bs.length vc) y kv pv) 35) := (hRF.block w.heap.size (heap_lt hH2) HB.out.2.1).trans hH2
  have H3 : Hid (Tw w3 bd br S' R' ro ∧ F2 w w3 S R S' R' ∧ GS S S' S.down S.steps (lSpo (absP S) s x y)) := ⟨H1.out.1.next0 q1 hR q2 H1.out.2.2.1 hRPS HH.out, H1.out.2.2.2.trans q3, H1.out.2.2.1⟩
  clear hR hRF hRPS q1 q2 q3 hHeld
  go_wp2_with fail
  refine hK.out _ _ hH3 (fun hHeld => ?_)
  clear hK K
  try simp only [List.getElem_toArray, List.getElem_cons_succ, List.getElem_cons_zero, Act.put, List.setIfInBounds_toArray, List.set_cons_zero, List.set_cons_succ]
  refine wpAnyH_take (i := 16) (v := .bool true) rfl (by kernel_rfl) (by kernel_rfl) (by kernel_rfl) (fun _ _ _ h => h) (Or.inl ⟨by rfl, fun w9 hSw => ?_⟩) hHeld ?_
  · go_simp
  simp only [List.getElem_toArray, List.getElem_cons_succ, List.getElem_cons_zero, Act.put, List.setIfInBounds_toArray, List.set_cons_zero, List.set_cons_succ]
  refine wpAnyH_take (i := 17) (v := .bool true) rfl (by kernel_rfl) (by kernel_rfl) (by kernel_rfl) (fun _ _ _ h => h) (Or.inl ⟨by rfl, fun w9 hSw => ?_⟩) hHeld ?_
  · go_simp
  simp only [List.getElem_toArray, List.getElem_cons_succ, List.getElem_cons_zero, Act.put, List.setIfInBounds_toArray, List.set_cons_zero, List.set_cons_succ]
  refine wpAnyH_done (by kernel_rfl) ?_ _
  go_wp2
  go_ret
  exact ⟨rfl, S', R', H3.out.1, H3.out.2.1, H3.out.2.2.abs, H3.out.2.2.steps⟩
end Go.Proofs.Ytllkpnlgemjgfaa
