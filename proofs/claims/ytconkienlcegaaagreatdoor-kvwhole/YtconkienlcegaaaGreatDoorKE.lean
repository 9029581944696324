/- kv: Own (the law's): changes as the program's. -/
import Derived.Test.YtconkienlcegaaaGreatDoorGKD
import Derived.Test.YtconkienlcegaaaGreatDoorGWN3
import Derived.Deep.RegionHeld3
namespace Go.Proofs.YtconkienlcegaaaGreatDoor
open Go.RowKit Go.Maps Go.Joins Go.Shelf
set_option linter.unusedSimpArgs false
set_option linter.unusedVariables false
theorem info90b : (Tryz.prog.info? 90).map (fun i => (i.zero, i.size, i.bytes)) = some (some (.agg #[.slice none 0 0, .slice none 0 0, .bool false]), 3, 56) := by kernel_rfl
theorem info90c : ∃ i, Tryz.prog.info? 90 = some i ∧ i.zero = some (.agg #[.slice none 0 0, .slice none 0 0, .bool false]) ∧ i.size = 3 ∧ i.bytes = 56 := by
 have := info90b; cases h : Tryz.prog.info? 90 with
 | none => rw [h] at this; cases this
 | some i =>
   rw [h] at this; simp at this; exact ⟨i, rfl, this.1, this.2.1, this.2.2⟩
/-- One change of a row. -/
structure CI where
 c : Ch
 vk : Value
 vv : Value
def ciC (f : CI) : List Value := [f.vk, f.vv, .bool f.c.gone]
def ciL (A : List CI) : List Value := A.flatMap ciC
theorem ciL_append (a b : List CI) : ciL (a ++ b) = ciL a ++ ciL b := by simp [ciL]
theorem ciL_at : ∀ (A : List CI) (i : Nat) (f : CI), A[i]? = some f → ∀ j, j < 3 → (ciL A)[i * 3 + j]? = (ciC f)[j]?
 | [], i, f, h, j, hj => by simp at h
 | g :: A, 0, f, h, j, hj => by
   simp at h; subst h; show (ciC g ++ ciL A)[0 * 3 + j]? = _; rw [List.getElem?_append_left (by simp [ciC]; omega)]; simp
 | g :: A, i + 1, f, h, j, hj => by
   simp at h; show (ciC g ++ ciL A)[(i + 1) * 3 + j]? = _; rw [List.getElem?_append_right (by simp [ciC]; omega)]; have := ciL_at A i f h j hj; simp only [ciC, List.length_cons, List.length_nil] at *; rw [show (i + 1) * 3 + j - (0 + 1 + 1 + 1) = i * 3 + j from by omega]; exact this
/-- A row of changes of the call's own is changes. -/
theorem row_chs {w : World} {base : Nat} {v : Value} {A : List CI} {D : Nat → Prop} (hrow : w.ownsRow base 90 3 v A.length (ciL A)) (hit : ∀ f ∈ A, KBD w D f.vk f.c.key ∧ KBD w D f.vv f.c.val) (hD : ∀ b, v.ownBlock = some b → D b) (hl : A.length * 56 ≤ 140737488355328) : ChsV w D v (A.map CI.c) := by
 have hmap : ∀ i x, (A.map CI.c)[i]? = some x → ∃ f : CI, A[i]? = some f ∧ f.c = x := fun i x hx => by
  rw [List.getElem?_map] at hx; cases hf : A[i]? with
  | none => rw [hf] at hx; cases hx
  | some f => rw [hf] at hx; injection hx with hx; exact ⟨f, hf, hx⟩
 have hlen : (A.map CI.c).length = A.length := by simp
 have hcells : ∀ g, v.ownBlock = some g → ∀ i f, A[i]? = some f → ∀ j u, (ciC f)[j]? = some u → w.cell? ⟨g, 0 + i * 3 + j, none⟩ = some u := fun g hg i f hf j u hu => by
  have h3 : j < 3 := by
   have := (List.getElem?_eq_some_iff.1 hu).1
   simpa [ciC] using this
  have := hrow.cells hg (i * 3 + j) u (by rw [ciL_at A i f hf j h3]; exact hu); rw [Addr.add_lit, ← Nat.add_assoc] at this; exact this
 rcases hrow.2 with ⟨rfl, h0⟩ | ⟨g, cap, cur, rfl, _, _, h1, h2, _⟩
 · have hA : A = [] := List.eq_nil_of_length_eq_zero h0
   subst hA; exact .mk [] none 0 0 0 (fun _ => .nilIface) (fun _ => .nilIface) (Nat.le_refl _) (by omega) (by simp) (fun h => by simp at h) (fun h => by simp at h) (fun i x hx => by simp at hx) (fun i x hx => by simp at hx) (fun i x hx => by simp at hx) (fun i x hx => by simp at hx) (fun i x hx => by simp at hx)
 · have := ChsV.mk (w := w) (D := D) (A.map CI.c) (some ⟨g, 0, none⟩) cap g 0 (fun i => ((A[i]?).map CI.vk).getD .nilIface) (fun i => ((A[i]?).map CI.vv).getD .nilIface) (by rw [hlen]; exact h1) (by unfold maxLen at h2; omega) (by rw [hlen]; exact hl)
    (fun _ => rfl) (fun _ => hD g rfl)
    (fun i x hx => by obtain ⟨f, hf, rfl⟩ := hmap i x hx; rw [hf]; exact hcells g rfl i f hf 0 _ rfl)
    (fun i x hx => by obtain ⟨f, hf, rfl⟩ := hmap i x hx; rw [hf]; exact hcells g rfl i f hf 1 _ rfl)
    (fun i x hx => by obtain ⟨f, hf, rfl⟩ := hmap i x hx; exact hcells g rfl i f hf 2 _ rfl)
    (fun i x hx => by obtain ⟨f, hf, rfl⟩ := hmap i x hx; rw [hf]; exact (hit f (List.mem_of_getElem? hf)).1)
    (fun i x hx => by obtain ⟨f, hf, rfl⟩ := hmap i x hx; rw [hf]; exact (hit f (List.mem_of_getElem? hf)).2)
   rw [hlen] at this; exact this
/-- append of a change that lies in a block of its own, as a step of a region. -/
theorem step_append_ch {w : World} {ops : Array Oper} {o : Oper} {a : Act} {K : Act → World → Prop} {Q : Exit → Act → World → Prop} {E : Prop} (hgd : o.guard = none) (s x : Operand)
 (ho : o.op = .call { callee := .builtin .append, args := #[s, x], argTypes := #[43, 43] }) {base : Nat} {v : Value} {A : List CI} (f : CI) (hb : ∃ a l c, f.vk = .slice a l c) (hi : ∃ a l c, f.vv = .slice a l c) (hs : a.eval s = v) (hown : w.ownsRow base 90 3 v A.length (ciL A)) (g : Nat) (hx : a.eval x = .slice (some ⟨g, 0, none⟩) 1 1) (hg : w.heap[g]? = some (.cells #[f.vk, f.vv, .bool f.c.gone] 90)) (hl : (A.length + 1) * 56 ≤ 140737488355328) (hbase : base ≤ w.heap.size)
 (h : ∀ v' w', w'.ownsRow base 90 3 v' (A.length + 1) (ciL (A ++ [f])) → w.grownBy w' v.ownBlock → (v'.ownBlock = v.ownBlock ∨ v'.ownBlock = some w.heap.size) → K (a.put o.dst v') w') :
 if Region.wanted o (yielded ops a.tmps) = true then Oper.wp Tryz.prog o a w K Q else E := by
 have hw : Region.wanted o (yielded ops a.tmps) = true := by simp [Region.wanted, hgd]
 rw [if_pos hw]; obtain ⟨i0, hi0, hz0, hz1, hz2⟩ := info90c; obtain ⟨v', w', hr, h2, h3, _, h5⟩ := run_append_own_at (P := Tryz.prog) w base 43 o.type 90 i0 _ 3 56 Tryz.underlying43 hi0 hz0 hz1 hz2 rfl (by decide) v A.length (ciL A) hown ⟨g, 0, none⟩ 1 1 (ciC f) rfl (fun j u hu => by
  rw [Addr.add_lit, Nat.zero_add, cell_of_block hg]
  simpa [ciC] using hu) (fun u hu => by
   obtain ⟨_, _, _, e1⟩ := hb; obtain ⟨_, _, _, e2⟩ := hi; simp only [ciC, List.mem_cons, List.not_mem_nil, or_false] at hu; rcases hu with rfl | rfl | rfl
   · rw [e1]; rfl
   · rw [e2]; rfl
   · rfl) (by unfold maxLen; omega) (by omega) hbase
 have hc : ciL (A ++ [f]) = ciL A ++ ciC f := by rw [ciL_append]; simp [ciL]
 rw [← hc] at h2; unfold Oper.wp execOp; simp only [ho, resolve, invoke, builtin, Sem.run_bind, Sem.run_pure, Result.andThen_ok, List.map_toArray, List.map_cons, List.map_nil, hs, hx, hr]; exact h v' w' h2 h3 h5
/-- Within the rounds of Own. -/
structure KOJ (w W : World) (A : List CI) (v : Value) : Prop where
 row : W.ownsRow w.heap.size 90 3 v A.length (ciL A)
 it : ∀ f ∈ A, KBD W (fun b => b < w.heap.size) f.vk f.c.key ∧ KBD W (fun b => b < w.heap.size) f.vv f.c.val
 bl : Below w.heap.size w W
set_option maxRecDepth 100000 in
set_option maxHeartbeats 8000000 in
/-- Own -/
theorem kown_any {w : World} {v : Value} {cs : List Ch} (h : ChsV w (fun b => b < w.heap.size) v cs) :
 Calls Tryz.prog 14 #[v] w fun e w' => Below w.heap.size w w' ∧ ∃ v', e = .returned v' ∧ ChsV w' (fun b => b < w'.heap.size) v' cs := by
 obtain ⟨a, cap, rfl, i1, i2, i3⟩ := h.form; have HC : Hid (ChsV w (fun b => b < w.heap.size) (.slice a cs.length cap) cs) := h; obtain ⟨N, hN⟩ : ∃ N, N = cs.length := ⟨_, rfl⟩
 rw [← hN] at HC i1 i3 ⊢; have HN : Hid (N = cs.length) := hN; clear h hN; go_enter Tryz.func14, Tryz.ntmps14; go_wp2_with fail; go_loopw [3, 4] (fun u i wr => ∃ (j : Nat) (A : List CI) (v : Value), j ≤ N ∧ i = .int .i64 j ∧ u = v ∧ KOJ w wr A v ∧ A.map CI.c = cs.take j) (fun _ i _ => N - (intOf i).toNat)
 case atStart => exact ⟨0, [], _, Nat.zero_le _, rfl, rfl, ⟨World.ownsRow_nil _ _ _ _, fun f hf => (by cases hf), Below.refl _ _⟩, by simp⟩
 case round =>
  obtain ⟨j, A, v, hj, rfl, rfl, hJ, hA⟩ := hrel; obtain ⟨av0, cv0, hv⟩ := row_form hJ.row; subst hv; have hAl : A.length = j := by have := congrArg List.length hA; rw [List.length_map, List.length_take, ← HN.out] at this; omega
  by_cases hjl : j < N
  · obtain ⟨c, hc⟩ : ∃ c, cs[j]? = some c := ⟨_, List.getElem?_eq_getElem (by have := HN.out; omega)⟩
    obtain ⟨g, o, vk, vv, rfl, hg, p0, p1, p2, hvk, hvv⟩ := HC.out.at hc; obtain ⟨ak, ck, rfl⟩ := hvk.is.form'; obtain ⟨av, cv, rfl⟩ := hvv.is.form'; obtain ⟨nk, hnk⟩ : ∃ nk, nk = c.key.length := ⟨_, rfl⟩
    obtain ⟨nv, hnv⟩ : ∃ nv, nv = c.val.length := ⟨_, rfl⟩
    obtain ⟨cg, hcg⟩ : ∃ cg, cg = c.gone := ⟨_, rfl⟩
    obtain ⟨q, hq⟩ : ∃ q, q = A.length := ⟨_, rfl⟩
    rw [← hnk] at p0 hvk; rw [← hnv] at p1 hvv; rw [← hcg] at p2; have hS0 : (fun w' => w'.cell? ⟨g, o + j * 3, none⟩ = some (.slice ak nk ck) ∧ w'.cell? ⟨g, o + j * 3 + 1, none⟩ = some (.slice av nv cv) ∧ w'.cell? ⟨g, o + j * 3 + 2, none⟩ = some (.bool cg)) wr.drew := ⟨(hJ.bl.cell (p := ⟨g, o + j * 3, none⟩) hg).trans p0, (hJ.bl.cell (p := ⟨g, o + j * 3 + 1, none⟩) hg).trans p1, (hJ.bl.cell (p := ⟨g, o + j * 3 + 2, none⟩) hg).trans p2⟩
    have HJ : Hid (KOJ w wr A (.slice av0 q cv0) ∧ q = A.length ∧ A.length = j ∧ A.map CI.c = cs.take j ∧ cs[j]? = some c ∧ cg = c.gone ∧ KBD w (fun b => b < w.heap.size) (.slice ak nk ck) c.key ∧ KBD w (fun b => b < w.heap.size) (.slice av nv cv) c.val ∧ g < w.heap.size) := ⟨by rw [hq]; exact hJ, hq, hAl, hA, hc, hcg, hvk, hvv, hg⟩
    have hki : (j : Int) < N := by omega
    rw [← hq]; clear hc hg p0 p1 p2 hvk hvv hnk hnv hcg hJ hA hAl hq; go_wp2_with fail; refine wp_noP ?_; refine wp_region_held_drew (S := (fun w' => w'.cell? ⟨g, o + j * 3, none⟩ = some (.slice ak nk ck) ∧ w'.cell? ⟨g, o + j * 3 + 1, none⟩ = some (.slice av nv cv) ∧ w'.cell? ⟨g, o + j * 3 + 2, none⟩ = some (.bool cg))) (by kernel_rfl) hS0 (fun hHeld => ?_); refine wpAnyH_take (i := 0) (v := .slice av0 q cv0) rfl (by kernel_rfl) (by kernel_rfl) (by kernel_rfl) (fun _ _ _ h => h) (Or.inl ⟨by rfl, fun w9 hSw => ?_⟩) hHeld ?_
    · go_simp
    simp only [List.getElem_toArray, List.getElem_cons_succ, List.getElem_cons_zero, Act.put, List.setIfInBounds_toArray, List.set_cons_zero, List.set_cons_succ]; refine wpAnyH_take (i := 1) (v := .slice (some ⟨g, o, none⟩) N cap) rfl (by kernel_rfl) (by kernel_rfl) (by kernel_rfl) (fun _ _ _ h => h) (Or.inl ⟨by rfl, fun w9 hSw => ?_⟩) hHeld ?_
    · go_simp
    simp only [List.getElem_toArray, List.getElem_cons_succ, List.getElem_cons_zero, Act.put, List.setIfInBounds_toArray, List.set_cons_zero, List.set_cons_succ]; refine wpAnyH_take (i := 2) (v := .int .i64 j) rfl (by kernel_rfl) (by kernel_rfl) (by kernel_rfl) (fun _ _ _ h => h) (Or.inl ⟨by rfl, fun w9 hSw => ?_⟩) hHeld ?_
    · go_simp
    simp only [List.getElem_toArray, List.getElem_cons_succ, List.getElem_cons_zero, Act.put, List.setIfInBounds_toArray, List.set_cons_zero, List.set_cons_succ]; refine wpAnyH_take (i := 3) (v := .pointer (some ⟨g, o + j * 3, none⟩)) rfl (by kernel_rfl) (by kernel_rfl) (by kernel_rfl) (fun _ _ _ h => h) (Or.inl ⟨by rfl, fun w9 hSw => ?_⟩) hHeld ?_
    · go_simp
    simp only [List.getElem_toArray, List.getElem_cons_succ, List.getElem_cons_zero, Act.put, List.setIfInBounds_toArray, List.set_cons_zero, List.set_cons_succ]; refine wpAnyH_take (i := 4) (v := .pointer (some ⟨g, o + j * 3, none⟩)) rfl (by kernel_rfl) (by kernel_rfl) (by kernel_rfl) (fun _ _ _ h => h) (Or.inl ⟨by rfl, fun w9 hSw => ?_⟩) hHeld ?_
    · go_simp
    simp only [List.getElem_toArray, List.getElem_cons_succ, List.getElem_cons_zero, Act.put, List.setIfInBounds_toArray, List.set_cons_zero, List.set_cons_succ]; refine wpAnyH_take (i := 5) (v := .slice ak nk ck) rfl (by kernel_rfl) (by kernel_rfl) (by kernel_rfl) (fun _ _ _ h => h) (Or.inl ⟨by rfl, fun w9 hSw => ?_⟩) hHeld ?_
    · have x0 := hSw.1
      have x1 := hSw.2.1; have x2 := hSw.2.2; go_simp
    simp only [List.getElem_toArray, List.getElem_cons_succ, List.getElem_cons_zero, Act.put, List.setIfInBounds_toArray, List.set_cons_zero, List.set_cons_succ]; refine wpAnyH_take (i := 6) (v := .slice (some ⟨g, o, none⟩) N cap) rfl (by kernel_rfl) (by kernel_rfl) (by kernel_rfl) (fun _ _ _ h => h) (Or.inl ⟨by rfl, fun w9 hSw => ?_⟩) hHeld ?_
    · go_simp
    simp only [List.getElem_toArray, List.getElem_cons_succ, List.getElem_cons_zero, Act.put, List.setIfInBounds_toArray, List.set_cons_zero, List.set_cons_succ]; refine wpAnyH_take (i := 7) (v := .int .i64 j) rfl (by kernel_rfl) (by kernel_rfl) (by kernel_rfl) (fun _ _ _ h => h) (Or.inl ⟨by rfl, fun w9 hSw => ?_⟩) hHeld ?_
    · go_simp
    simp only [List.getElem_toArray, List.getElem_cons_succ, List.getElem_cons_zero, Act.put, List.setIfInBounds_toArray, List.set_cons_zero, List.set_cons_succ]; refine wpAnyH_take (i := 8) (v := .pointer (some ⟨g, o + j * 3, none⟩)) rfl (by kernel_rfl) (by kernel_rfl) (by kernel_rfl) (fun _ _ _ h => h) (Or.inl ⟨by rfl, fun w9 hSw => ?_⟩) hHeld ?_
    · go_simp
    simp only [List.getElem_toArray, List.getElem_cons_succ, List.getElem_cons_zero, Act.put, List.setIfInBounds_toArray, List.set_cons_zero, List.set_cons_succ]; refine wpAnyH_take (i := 9) (v := .pointer (some ⟨g, o + j * 3 + 1, none⟩)) rfl (by kernel_rfl) (by kernel_rfl) (by kernel_rfl) (fun _ _ _ h => h) (Or.inl ⟨by rfl, fun w9 hSw => ?_⟩) hHeld ?_
    · go_simp
    simp only [List.getElem_toArray, List.getElem_cons_succ, List.getElem_cons_zero, Act.put, List.setIfInBounds_toArray, List.set_cons_zero, List.set_cons_succ]; refine wpAnyH_take (i := 10) (v := .slice av nv cv) rfl (by kernel_rfl) (by kernel_rfl) (by kernel_rfl) (fun _ _ _ h => h) (Or.inl ⟨by rfl, fun w9 hSw => ?_⟩) hHeld ?_
    · have x0 := hSw.1
      have x1 := hSw.2.1; have x2 := hSw.2.2; go_simp
    simp only [List.getElem_toArray, List.getElem_cons_succ, List.getElem_cons_zero, Act.put, List.setIfInBounds_toArray, List.set_cons_zero, List.set_cons_succ]; refine wpAnyH_take (i := 11) (v := .slice (some ⟨g, o, none⟩) N cap) rfl (by kernel_rfl) (by kernel_rfl) (by kernel_rfl) (fun _ _ _ h => h) (Or.inl ⟨by rfl, fun w9 hSw => ?_⟩) hHeld ?_
    · go_simp
    simp only [List.getElem_toArray, List.getElem_cons_succ, List.getElem_cons_zero, Act.put, List.setIfInBounds_toArray, List.set_cons_zero, List.set_cons_succ]; refine wpAnyH_take (i := 12) (v := .int .i64 j) rfl (by kernel_rfl) (by kernel_rfl) (by kernel_rfl) (fun _ _ _ h => h) (Or.inl ⟨by rfl, fun w9 hSw => ?_⟩) hHeld ?_
    · go_simp
    simp only [List.getElem_toArray, List.getElem_cons_succ, List.getElem_cons_zero, Act.put, List.setIfInBounds_toArray, List.set_cons_zero, List.set_cons_succ]; refine wpAnyH_take (i := 13) (v := .pointer (some ⟨g, o + j * 3, none⟩)) rfl (by kernel_rfl) (by kernel_rfl) (by kernel_rfl) (fun _ _ _ h => h) (Or.inl ⟨by rfl, fun w9 hSw => ?_⟩) hHeld ?_
    · go_simp
    simp only [List.getElem_toArray, List.getElem_cons_succ, List.getElem_cons_zero, Act.put, List.setIfInBounds_toArray, List.set_cons_zero, List.set_cons_succ]; refine wpAnyH_take (i := 14) (v := .pointer (some ⟨g, o + j * 3 + 2, none⟩)) rfl (by kernel_rfl) (by kernel_rfl) (by kernel_rfl) (fun _ _ _ h => h) (Or.inl ⟨by rfl, fun w9 hSw => ?_⟩) hHeld ?_
    · go_simp
    simp only [List.getElem_toArray, List.getElem_cons_succ, List.getElem_cons_zero, Act.put, List.setIfInBounds_toArray, List.set_cons_zero, List.set_cons_succ]; refine wpAnyH_take (i := 15) (v := .bool cg) rfl (by kernel_rfl) (by kernel_rfl) (by kernel_rfl) (fun _ _ _ h => h) (Or.inl ⟨by rfl, fun w9 hSw => ?_⟩) hHeld ?_
    · have x0 := hSw.1
      have x1 := hSw.2.1; have x2 := hSw.2.2; go_simp
    simp only [List.getElem_toArray, List.getElem_cons_succ, List.getElem_cons_zero, Act.put, List.setIfInBounds_toArray, List.set_cons_zero, List.set_cons_succ]; refine wpAnyH_take (i := 16) (v := .agg #[.slice ak nk ck, .slice av nv cv, .bool cg]) rfl (by kernel_rfl) (by kernel_rfl) (by kernel_rfl) (fun _ _ _ h => h) (Or.inl ⟨by rfl, fun w9 hSw => ?_⟩) hHeld ?_
    · go_simp
    simp only [List.getElem_toArray, List.getElem_cons_succ, List.getElem_cons_zero, Act.put, List.setIfInBounds_toArray, List.set_cons_zero, List.set_cons_succ]; refine wpAnyH_ready (rs := [17]) (by kernel_rfl) (by simp) ?_; refine AllReadyH.cons rfl (fun K hK => ?_) AllReadyH.nil; have H1 : Hid (KOJ w wr.drew A (.slice av0 q cv0)) := ⟨HJ.out.1.row, fun f hf => ⟨(HJ.out.1.it f hf).1.mono (fun _ _ => rfl) (fun _ h => h), (HJ.out.1.it f hf).2.mono (fun _ _ => rfl) (fun _ h => h)⟩, ⟨HJ.out.1.bl.os, HJ.out.1.bl.tape, HJ.out.1.bl.output, HJ.out.1.bl.size, HJ.out.1.bl.block⟩⟩
    generalize wr.drew = W at H1 hHeld ⊢; go_simp; have hbz : Below W.heap.size W (W.alloc (.cells #[.slice ak nk ck, .slice av nv cv, .bool cg] 90)) := by go_grown
    have hS3 : (fun w' => w'.cell? ⟨g, o + j * 3, none⟩ = some (.slice ak nk ck) ∧ w'.cell? ⟨g, o + j * 3 + 1, none⟩ = some (.slice av nv cv) ∧ w'.cell? ⟨g, o + j * 3 + 2, none⟩ = some (.bool cg)) (W.alloc (.cells #[.slice ak nk ck, .slice av nv cv, .bool cg] 90)) := ⟨(hbz.cell (cell_lt hHeld.1)).trans hHeld.1, (hbz.cell (cell_lt hHeld.2.1)).trans hHeld.2.1, (hbz.cell (cell_lt hHeld.2.2)).trans hHeld.2.2⟩
    have hwl := H1.out.bl.size; have H3 : Hid (KOJ w (W.alloc (.cells #[.slice ak nk ck, .slice av nv cv, .bool cg] 90)) A (.slice av0 q cv0) ∧ (W.alloc (.cells #[.slice ak nk ck, .slice av nv cv, .bool cg] 90)).heap[W.heap.size]? = some (.cells #[.slice ak nk ck, .slice av nv cv, .bool cg] 90)) := ⟨⟨ownsRow_heap H1.out.row (fun b hb => hbz.block b (H1.out.row.lt b hb).2), fun f hf => ⟨(H1.out.it f hf).1.mono (fun b hb => hbz.block b (by omega)) (fun _ h => h), (H1.out.it f hf).2.mono (fun b hb => hbz.block b (by omega)) (fun _ h => h)⟩, H1.out.bl.trans (hbz.mono H1.out.bl.size)⟩, heap_alloc_new _ _⟩
    obtain ⟨gz, hgz⟩ : ∃ gz, gz = W.heap.size := ⟨_, rfl⟩
    rw [← hgz] at H3 ⊢; clear hbz hgz H1 hwl; refine hK.out _ _ hS3 (fun hHeld => ?_); clear hK K; try simp only [List.getElem_toArray, List.getElem_cons_succ, List.getElem_cons_zero, Act.put, List.setIfInBounds_toArray, List.set_cons_zero, List.set_cons_succ]
    generalize W.alloc (.cells #[.slice ak nk ck, .slice av nv cv, .bool cg] 90) = w3 at H3 hHeld hS3 ⊢; refine wpAnyH_ready (rs := [18]) (by kernel_rfl) (by simp) ?_; refine AllReadyH.cons rfl (fun K hK => ?_) AllReadyH.nil; refine step_append_ch (by rfl) _ _ (by rfl) (base := w.heap.size) (v := .slice av0 q cv0) (A := A) ⟨c, .slice ak nk ck, .slice av nv cv⟩ ⟨_, _, _, rfl⟩ ⟨_, _, _, rfl⟩ (by rfl) H3.out.1.row gz (by rfl) (by rw [← HJ.out.2.2.2.2.2.1]; exact H3.out.2) (by have := HJ.out.2.2.1; omega) H3.out.1.bl.size ?_; intro v' V2 ho hg ha; obtain ⟨av', cv', rfl⟩ := row_form ho; have hk : ∀ b, b < w.heap.size → V2.heap[b]? = w3.heap[b]? := fun b h1 => hg.block b (by have := H3.out.1.bl.size; omega) (fun e => by have := (H3.out.1.row.lt b e.symm).1; omega)
    have hgl := HJ.out.2.2.2.2.2.2.2.2; have hS4 : (fun w' => w'.cell? ⟨g, o + j * 3, none⟩ = some (.slice ak nk ck) ∧ w'.cell? ⟨g, o + j * 3 + 1, none⟩ = some (.slice av nv cv) ∧ w'.cell? ⟨g, o + j * 3 + 2, none⟩ = some (.bool cg)) V2 := ⟨(World.cell?_of_block (a := ⟨g, o + j * 3, none⟩) (hk g hgl)).trans hHeld.1, (World.cell?_of_block (a := ⟨g, o + j * 3 + 1, none⟩) (hk g hgl)).trans hHeld.2.1, (World.cell?_of_block (a := ⟨g, o + j * 3 + 2, none⟩) (hk g hgl)).trans hHeld.2.2⟩
    have hb9 : Below w.heap.size w V2 := H3.out.1.bl.grown hg H3.out.1.bl.size (fun b hb => (H3.out.1.row.lt b hb).1); have H4 : Hid (KOJ w V2 (A ++ [⟨c, .slice ak nk ck, .slice av nv cv⟩]) (.slice av' (A.length + 1) cv')) := by
     refine ⟨by rw [List.length_append]; exact ho, fun f hf => ?_, hb9⟩; rcases List.mem_append.1 hf with h9 | h9
     · exact ⟨(H3.out.1.it f h9).1.mono hk (fun _ h => h), (H3.out.1.it f h9).2.mono hk (fun _ h => h)⟩
     · obtain rfl := List.mem_singleton.1 h9
       exact ⟨HJ.out.2.2.2.2.2.2.1.mono (fun b hb => hb9.block b hb) (fun _ h => h), HJ.out.2.2.2.2.2.2.2.1.mono (fun b hb => hb9.block b hb) (fun _ h => h)⟩
    obtain ⟨q', hq'⟩ : ∃ q', q' = A.length + 1 := ⟨_, rfl⟩
    rw [← hq'] at H4 ⊢; clear ho hg ha hk hb9 hq' hgl; refine hK.out _ _ hS4 (fun hHeld => ?_); clear hK K; try simp only [List.getElem_toArray, List.getElem_cons_succ, List.getElem_cons_zero, Act.put, List.setIfInBounds_toArray, List.set_cons_zero, List.set_cons_succ]
    refine wpAnyH_take (i := 19) (v := .slice av' q' cv') rfl (by kernel_rfl) (by kernel_rfl) (by kernel_rfl) (fun _ _ _ h => h) (Or.inl ⟨by rfl, fun w9 hSw => ?_⟩) hHeld ?_
    · go_simp
    simp only [List.getElem_toArray, List.getElem_cons_succ, List.getElem_cons_zero, Act.put, List.setIfInBounds_toArray, List.set_cons_zero, List.set_cons_succ]; refine wpAnyH_done (by kernel_rfl) ?_ _; simp only [noP]; clear hHeld hS4 hS3 hS0; go_wp2; go_roundw
    case rel => exact ⟨j + 1, A ++ [⟨c, .slice ak nk ck, .slice av nv cv⟩], _, by omega, by go_num, rfl, H4.out, by rw [List.map_append, HJ.out.2.2.2.1, List.take_add_one, HJ.out.2.2.2.2.1]; rfl⟩
    case measure => simp [intOf]; omega
  · have hki : ¬ (j : Int) < N := by omega
    have HJ : Hid (KOJ w wr A (.slice av0 A.length cv0) ∧ A.map CI.c = cs ∧ A.length = j) := ⟨hJ, by rw [hA, List.take_of_length_le (by have := HN.out; omega)], hAl⟩
    clear hJ hA hAl; go_wp2; go_ret; refine ⟨HJ.out.1.bl, _, rfl, ?_⟩; rw [← HJ.out.2.1]; have hwl := HJ.out.1.bl.size; exact row_chs HJ.out.1.row (fun f hf => ⟨(HJ.out.1.it f hf).1.mono (fun _ _ => rfl) (fun b hb => by omega), (HJ.out.1.it f hf).2.mono (fun _ _ => rfl) (fun b hb => by omega)⟩) (fun b hb => (HJ.out.1.row.lt b hb).2) (by have := HJ.out.2.2; omega)
end Go.Proofs.YtconkienlcegaaaGreatDoor
