/- disk: does, Arm. -/
import Derived.Test.YtllkpnlgemjgfaaPG
import Derived.Test.YtllkpnlgemjgfaaGS
namespace Go.Proofs.Ytllkpnlgemjgfaa
open Go.RowKit Go.Maps Go.Joins
set_option linter.unusedSimpArgs false
set_option linter.unusedVariables false
theorem FltV.fr {w w' : World} {S S' : DS} {va : Option Addr} {ps : List (Int × Int)} (h : FltV w va ps) (hr : ∀ b o, va = some ⟨b, o, none⟩ → ps ≠ [] → S.role b = .none) (hF : Fr w w' S S') : FltV w' va ps := by
  intro j p hj
  obtain ⟨b, o, rfl, h0, h1⟩ := h j p hj
  have hne : ps ≠ [] := by rintro rfl; simp at hj
  have hb := hF.block b (cell_lt h0) (hr b o rfl hne)
  exact ⟨b, o, rfl, (World.cell?_of_block (a := ⟨b, o + j * 2, none⟩) hb).trans h0, (World.cell?_of_block (a := ⟨b, o + j * 2 + 1, none⟩) hb).trans h1⟩
theorem Tw.arm {w w3 : World} {bd br b : Nat} {S : DS} {R : RS} {ro : Int} {ps : List (Int × Int)} {v : Value} (h : Tw w bd br S R ro) (hr : Right ps) (hD : DiskIs w3 bd (armS S b ps)) (hR : RefIs w3 br (setP R v ps)) (hap : ∀ x, (setP R v ps).own x ≠ 0 → (armS S b ps).role x = .none) : Tw w3 bd br (armS S b ps) (setP R v ps) ro := by
  have hc := h.gb.cnt
  unfold Cnt at hc
  refine ⟨hD, ⟨?_, h.gb.rm, h.gb.r0, h.gb.wf⟩, hR, ⟨⟨hr.1, fun p hp => ?_, fun _ => ?_⟩, h.hb.cnt, h.hb.rm, h.hb.r0, h.hb.wf, h.hb.srt⟩, h.same, hap, h.down, h.steps, h.steps, fun x _ => rfl⟩
  · show 0 ≤ S.steps ∧ S.steps ≤ S.steps ∧ S.steps < 4611686018427387904
    omega
  · obtain ⟨j, hj⟩ := List.mem_iff_getElem?.1 hp
    have := hr.2.each j p (List.getElem?_eq_some_iff.1 hj).1 hj
    omega
  · show 0 ≤ R.n ∧ R.n ≤ R.n
    have := h.steps
    omega
/-- The document's Arm, whatever the plan. -/
def RArm (w : World) (br : Nat) (R : RS) (ps : List (Int × Int)) (e : Ending) (w' : World) : Prop := (Right ps ∧ e = .returned (.int .i64 0) ∧ ∃ v, RefIs w' br (setP R v ps) ∧ RFr w w' R (setP R v ps)) ∨ (¬ Right ps ∧ e = .returned (.int .i64 1) ∧ Below w.heap.size w w')
theorem rarm_any {w : World} {br : Nat} {R : RS} (h : RefIs w br R) (va : Option Addr) (vc : Nat) (ps : List (Int × Int)) (hv : FltV w va ps) (hn : va = none → vc = 0 ∧ ps = []) :
    Calls Try.prog 34 #[.pointer (some ⟨br, 0, none⟩), .slice va ps.length vc] w fun e w' => RArm w br R ps e w' := by
  by_cases hr : Right ps
  · cases va with
    | none =>
      obtain ⟨rfl, rfl⟩ := hn rfl
      refine (rarm_nil h).mono ?_
      rintro e w' ⟨rfl, v, h1, h2⟩
      exact Or.inl ⟨hr, rfl, v, h1, h2⟩
    | some ad =>
      refine (rarm_ok h ad vc ps hv hr).mono ?_
      rintro e w' ⟨rfl, v, h1, h2⟩
      exact Or.inl ⟨hr, rfl, v, h1, h2⟩
  · refine (rarm_no va vc ps hv hr).mono ?_
    rintro e w' ⟨rfl, h1⟩
    exact Or.inr ⟨hr, rfl, h1⟩
set_option maxRecDepth 100000 in
set_option maxHeartbeats 8000000 in
theorem gdoes8 {w : World} {bd br : Nat} {S : DS} {R : RS} {ro : Int} (h : Tw w bd br S R ro) (x : Int) (s t : ByteArray) (va : Option Addr) (vl vc : Nat) (y : Int) (kv : Value) (pa : Option Addr) (pc : Nat) (ps : List (Int × Int)) (hv : FltV w pa ps) (hw : FW ps) (hp0 : pa = none → pc = 0 ∧ ps = []) (hl : ps.length * 16 ≤ 140737488351232) (hoff : ∀ b o, pa = some ⟨b, o, none⟩ → ps ≠ [] → b < w.heap.size ∧ S.role b = .none ∧ R.own b = 0) :
    Calls Try.prog 9 #[.pointer (some ⟨bd, 0, none⟩), .pointer (some ⟨br, 0, none⟩), .agg (opC 8 x s t (.slice va vl vc) y kv (.slice pa ps.length pc))] w fun e w' => e = .returned (.bool true) ∧ ∃ S' R', Tw w' bd br S' R' ro ∧ F2 w w' S R S' R' ∧ absP S' = absP S ∧ S'.steps = S.steps := by
  have hbd := h.disk.lt
  have hbr := h.ref.lt
  have H0 : Hid (Tw (w.alloc (.cells (opC 8 x s t (.slice va vl vc) y kv (.slice pa ps.length pc)) 35)) bd br S R ro ∧ F2 w (w.alloc (.cells (opC 8 x s t (.slice va vl vc) y kv (.slice pa ps.length pc)) 35)) S R S R ∧ (w.alloc (.cells (opC 8 x s t (.slice va vl vc) y kv (.slice pa ps.length pc)) 35)).heap[w.heap.size]? = some (.cells (opC 8 x s t (.slice va vl vc) y kv (.slice pa ps.length pc)) 35)) := ⟨h.below (by go_grown), F2.below (by go_grown), heap_alloc_new _ _⟩
  have HB : Hid (S.role w.heap.size = .none ∧ R.own w.heap.size = 0 ∧ (w.alloc (.cells (opC 8 x s t (.slice va vl vc) y kv (.slice pa ps.length pc)) 35)).heap.size = w.heap.size + 1 ∧ FltV (w.alloc (.cells (opC 8 x s t (.slice va vl vc) y kv (.slice pa ps.length pc)) 35)) pa ps ∧ FW ps ∧ (pa = none → pc = 0 ∧ ps = []) ∧ (∀ b o, pa = some ⟨b, o, none⟩ → ps ≠ [] → b < w.heap.size ∧ S.role b = .none ∧ R.own b = 0)) := ⟨h.disk.fresh _ (Nat.le_refl _), h.ref.fresh _ (Nat.le_refl _), by simp, hv.below (by go_grown), hw, hp0, hoff⟩
  clear h hv hw hp0 hoff
  have k0 : (w.alloc (.cells (opC 8 x s t (.slice va vl vc) y kv (.slice pa ps.length pc)) 35)).cell? ⟨w.heap.size, 0, none⟩ = some (.int .i64 8) := by rw [cell_of_block H0.out.2.2]; rfl
  go_enter Try.func9, Try.ntmps9
  unfold opC
  go_wp2
  rw [show #[Value.int .i64 8, .int .i64 x, .string s, .string t, .slice va vl vc, .int .u8 y, kv, .slice pa ps.length pc] = opC 8 x s t (.slice va vl vc) y kv (.slice pa ps.length pc) from rfl]
  generalize w.alloc (.cells (opC 8 x s t (.slice va vl vc) y kv (.slice pa ps.length pc)) 35) = w0 at H0 HB k0 ⊢
  clear k0
  refine wp_region_held_drew (S := fun w' => w'.heap[w.heap.size]? = some (.cells (opC 8 x s t (.slice va vl vc) y kv (.slice pa ps.length pc)) 35)) (by kernel_rfl) H0.out.2.2 (fun hHeld => ?_)
  refine wpAnyH_take (i := 0) (v := .pointer (some ⟨bd, 0, none⟩)) rfl (by kernel_rfl) (by kernel_rfl) (by kernel_rfl) (fun _ _ _ h => h) (Or.inl ⟨by rfl, fun w9 hSw => ?_⟩) hHeld ?_
  · go_simp
  simp only [List.getElem_toArray, List.getElem_cons_succ, List.getElem_cons_zero, Act.put, List.setIfInBounds_toArray, List.set_cons_zero, List.set_cons_succ]
  refine wpAnyH_take (i := 1) (v := .pointer (some ⟨w.heap.size, 7, none⟩)) rfl (by kernel_rfl) (by kernel_rfl) (by kernel_rfl) (fun _ _ _ h => h) (Or.inl ⟨by rfl, fun w9 hSw => ?_⟩) hHeld ?_
  · go_simp
  simp only [List.getElem_toArray, List.getElem_cons_succ, List.getElem_cons_zero, Act.put, List.setIfInBounds_toArray, List.set_cons_zero, List.set_cons_succ]
  refine wpAnyH_take (i := 2) (v := .slice pa ps.length pc) rfl (by kernel_rfl) (by kernel_rfl) (by kernel_rfl) (fun _ _ _ h => h) (Or.inl ⟨by rfl, fun w9 hSw => ?_⟩) hHeld ?_
  · have hc : w9.cell? ⟨w.heap.size, 7, none⟩ = some (.slice pa ps.length pc) := (cell_of_block hSw 7).trans rfl
    go_simp
  simp only [List.getElem_toArray, List.getElem_cons_succ, List.getElem_cons_zero, Act.put, List.setIfInBounds_toArray, List.set_cons_zero, List.set_cons_succ]
  refine wpAnyH_take (i := 5) (v := .pointer (some ⟨br, 0, none⟩)) rfl (by kernel_rfl) (by kernel_rfl) (by kernel_rfl) (fun _ _ _ h => h) (Or.inl ⟨by rfl, fun w9 hSw => ?_⟩) hHeld ?_
  · go_simp
  simp only [List.getElem_toArray, List.getElem_cons_succ, List.getElem_cons_zero, Act.put, List.setIfInBounds_toArray, List.set_cons_zero, List.set_cons_succ]
  refine wpAnyH_take (i := 6) (v := .pointer (some ⟨w.heap.size, 7, none⟩)) rfl (by kernel_rfl) (by kernel_rfl) (by kernel_rfl) (fun _ _ _ h => h) (Or.inl ⟨by rfl, fun w9 hSw => ?_⟩) hHeld ?_
  · go_simp
  simp only [List.getElem_toArray, List.getElem_cons_succ, List.getElem_cons_zero, Act.put, List.setIfInBounds_toArray, List.set_cons_zero, List.set_cons_succ]
  refine wpAnyH_take (i := 7) (v := .slice pa ps.length pc) rfl (by kernel_rfl) (by kernel_rfl) (by kernel_rfl) (fun _ _ _ h => h) (Or.inl ⟨by rfl, fun w9 hSw => ?_⟩) hHeld ?_
  · have hc : w9.cell? ⟨w.heap.size, 7, none⟩ = some (.slice pa ps.length pc) := (cell_of_block hSw 7).trans rfl
    go_simp
  simp only [List.getElem_toArray, List.getElem_cons_succ, List.getElem_cons_zero, Act.put, List.setIfInBounds_toArray, List.set_cons_zero, List.set_cons_succ]
  refine wpAnyH_ready (rs := [3]) (by kernel_rfl) (by simp) ?_
  refine AllReadyH.cons rfl (fun K hK => ?_) AllReadyH.nil
  have HT : Tw w0.drew bd br S R ro := H0.out.1.below ⟨rfl, rfl, rfl, Nat.le_refl _, fun _ _ => rfl⟩
  have HF0 : F2 w w0.drew S R S R := H0.out.2.1.trans (F2.below ⟨rfl, rfl, rfl, Nat.le_refl _, fun _ _ => rfl⟩)
  have hsz : w0.drew.heap.size = w.heap.size + 1 := HB.out.2.2.1
  have hfl : FltV w0.drew pa ps := HB.out.2.2.2.1.below ⟨rfl, rfl, rfl, Nat.le_refl _, fun _ _ => rfl⟩
  generalize w0.drew = w1 at hHeld HT HF0 hsz hfl ⊢
  go_simp
  refine Calls.mono (plan_any pa pc ps hfl hl) ?_
  rintro e w2 ⟨oa, oc, rfl, hfo, hb2⟩
  have hH2 : w2.heap[w.heap.size]? = some (.cells (opC 8 x s t (.slice va vl vc) y kv (.slice pa ps.length pc)) 35) := (hb2.block w.heap.size (by omega)).trans hHeld
  have H1 : Hid (Tw w2 bd br S R ro ∧ F2 w w2 S R S R ∧ FltV w2 oa ps ∧ FltV w2 pa ps ∧ w.heap.size < w2.heap.size) := ⟨HT.below hb2, HF0.trans (F2.below hb2), hfo, hfl.below hb2, by have := hb2.size; omega⟩
  clear HT HF0 hsz hfl hfo hb2 hHeld
  go_wp2_with fail
  refine hK.out _ _ hH2 (fun hHeld => ?_)
  clear hK K
  try simp only [List.getElem_toArray, List.getElem_cons_succ, List.getElem_cons_zero, Act.put, List.setIfInBounds_toArray, List.set_cons_zero, List.set_cons_succ]
  refine wpAnyH_ready (rs := [4]) (by kernel_rfl) (by simp) ?_
  refine AllReadyH.cons rfl (fun K hK => ?_) AllReadyH.nil
  go_simp
  refine Calls.mono (arm_any H1.out.1.disk oa oc ps H1.out.2.2.1 HB.out.2.2.2.2.1) ?_
  rintro e w3 hA
  rcases hA with ⟨hri, rfl, b, hD, hF⟩ | ⟨hri, rfl, hb3⟩
  · have hM := H1.out.1.first hD hF
    have hH3 : w3.heap[w.heap.size]? = some (.cells (opC 8 x s t (.slice va vl vc) y kv (.slice pa ps.length pc)) 35) := (hF.block w.heap.size H1.out.2.2.2.2 HB.out.1).trans hH2
    have H2 : Hid (Mid w2 w3 bd br S (armS S b ps) R ∧ FltV w3 pa ps ∧ Right ps) := ⟨hM, H1.out.2.2.2.1.fr (fun b o e1 e2 => (HB.out.2.2.2.2.2.2 b o e1 e2).2.1) hF, hri⟩
    clear hM hD hF hri hHeld hH2
    go_wp2_with fail
    refine hK.out _ _ hH3 (fun hHeld => ?_)
    clear hK K
    try simp only [List.getElem_toArray, List.getElem_cons_succ, List.getElem_cons_zero, Act.put, List.setIfInBounds_toArray, List.set_cons_zero, List.set_cons_succ]
    refine wpAnyH_ready (rs := [8]) (by kernel_rfl) (by simp) ?_
    refine AllReadyH.cons rfl (fun K hK => ?_) AllReadyH.nil
    go_simp
    refine Calls.mono (rarm_any H2.out.1.ref pa pc ps H2.out.2.1 HB.out.2.2.2.2.2.1) ?_
    rintro e w4 hA
    rcases hA with ⟨_, rfl, v, hR, hRF⟩ | ⟨hri, _, _⟩
    rotate_left
    · exact absurd H2.out.2.2 hri
    obtain ⟨q1, q2, q3⟩ := H2.out.1.second hR hRF
    have hH4 : w4.heap[w.heap.size]? = some (.cells (opC 8 x s t (.slice va vl vc) y kv (.slice pa ps.length pc)) 35) := (hRF.block w.heap.size (heap_lt hH3) HB.out.2.1).trans hH3
    have H3 : Hid (Tw w4 bd br (armS S b ps) (setP R v ps) ro ∧ F2 w w4 S R (armS S b ps) (setP R v ps)) := ⟨H1.out.1.arm H2.out.2.2 q1 hR q2, H1.out.2.1.trans q3⟩
    clear hR hRF q1 q2 q3 hHeld
    go_wp2_with fail
    refine hK.out _ _ hH4 (fun hHeld => ?_)
    clear hK K
    try simp only [List.getElem_toArray, List.getElem_cons_succ, List.getElem_cons_zero, Act.put, List.setIfInBounds_toArray, List.set_cons_zero, List.set_cons_succ]
    refine wpAnyH_take (i := 9) (v := .bool true) rfl (by kernel_rfl) (by kernel_rfl) (by kernel_rfl) (fun _ _ _ h => h) (Or.inl ⟨by rfl, fun w9 hSw => ?_⟩) hHeld ?_
    · go_simp
    simp only [List.getElem_toArray, List.getElem_cons_succ, List.getElem_cons_zero, Act.put, List.setIfInBounds_toArray, List.set_cons_zero, List.set_cons_succ]
    refine wpAnyH_take (i := 10) (v := .bool true) rfl (by kernel_rfl) (by kernel_rfl) (by kernel_rfl) (fun _ _ _ h => h) (Or.inl ⟨by rfl, fun w9 hSw => ?_⟩) hHeld ?_
    · go_simp
    simp only [List.getElem_toArray, List.getElem_cons_succ, List.getElem_cons_zero, Act.put, List.setIfInBounds_toArray, List.set_cons_zero, List.set_cons_succ]
    refine wpAnyH_done (by kernel_rfl) ?_ _
    go_wp2
    go_ret
    exact ⟨rfl, _, _, H3.out.1, H3.out.2, rfl, rfl⟩
  · have hH3 : w3.heap[w.heap.size]? = some (.cells (opC 8 x s t (.slice va vl vc) y kv (.slice pa ps.length pc)) 35) := (hb3.block w.heap.size H1.out.2.2.2.2).trans hH2
    have H2 : Hid (Tw w3 bd br S R ro ∧ F2 w w3 S R S R ∧ FltV w3 pa ps ∧ ¬ Right ps) := ⟨H1.out.1.below hb3, H1.out.2.1.trans (F2.below hb3), H1.out.2.2.2.1.below hb3, hri⟩
    clear hb3 hri hHeld hH2
    go_wp2_with fail
    refine hK.out _ _ hH3 (fun hHeld => ?_)
    clear hK K
    try simp only [List.getElem_toArray, List.getElem_cons_succ, List.getElem_cons_zero, Act.put, List.setIfInBounds_toArray, List.set_cons_zero, List.set_cons_succ]
    refine wpAnyH_ready (rs := [8]) (by kernel_rfl) (by simp) ?_
    refine AllReadyH.cons rfl (fun K hK => ?_) AllReadyH.nil
    go_simp
    refine Calls.mono (rarm_any H2.out.1.ref pa pc ps H2.out.2.2.1 HB.out.2.2.2.2.2.1) ?_
    rintro e w4 hA
    rcases hA with ⟨hri, _⟩ | ⟨_, rfl, hb4⟩
    · exact absurd hri H2.out.2.2.2
    have hH4 : w4.heap[w.heap.size]? = some (.cells (opC 8 x s t (.slice va vl vc) y kv (.slice pa ps.length pc)) 35) := (hb4.block w.heap.size (heap_lt hH3)).trans hH3
    have H3 : Hid (Tw w4 bd br S R ro ∧ F2 w w4 S R S R) := ⟨H2.out.1.below hb4, H2.out.2.1.trans (F2.below hb4)⟩
    clear hb4 hHeld
    go_wp2_with fail
    refine hK.out _ _ hH4 (fun hHeld => ?_)
    clear hK K
    try simp only [List.getElem_toArray, List.getElem_cons_succ, List.getElem_cons_zero, Act.put, List.setIfInBounds_toArray, List.set_cons_zero, List.set_cons_succ]
    refine wpAnyH_take (i := 9) (v := .bool true) rfl (by kernel_rfl) (by kernel_rfl) (by kernel_rfl) (fun _ _ _ h => h) (Or.inl ⟨by rfl, fun w9 hSw => ?_⟩) hHeld ?_
    · go_simp
    simp only [List.getElem_toArray, List.getElem_cons_succ, List.getElem_cons_zero, Act.put, List.setIfInBounds_toArray, List.set_cons_zero, List.set_cons_succ]
    refine wpAnyH_take (i := 10) (v := .bool true) rfl (by kernel_rfl) (by kernel_rfl) (by kernel_rfl) (fun _ _ _ h => h) (Or.inl ⟨by rfl, fun w9 hSw => ?_⟩) hHeld ?_
    · go_simp
    simp only [List.getElem_toArray, List.getElem_cons_succ, List.getElem_cons_zero, Act.put, List.setIfInBounds_toArray, List.set_cons_zero, List.set_cons_succ]
    refine wpAnyH_done (by kernel_rfl) ?_ _
    go_wp2
    go_ret
    exact ⟨rfl, _, _, H3.out.1, H3.out.2, rfl, rfl⟩
end Go.Proofs.Ytllkpnlgemjgfaa
