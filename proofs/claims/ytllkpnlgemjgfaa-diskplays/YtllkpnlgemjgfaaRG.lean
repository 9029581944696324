/- disk: the document's Sync, Truncate. -/
import Derived.Test.YtllkpnlgemjgfaaRE
namespace Go.Proofs.Ytllkpnlgemjgfaa
open Go.RowKit Go.Maps Go.Joins
set_option linter.unusedSimpArgs false
set_option linter.unusedVariables false
theorem ownsRow_set {w : World} {base size n : Nat} {e : TypeId} {v : Value} {xs : List Value} (h : w.ownsRow base e size v n xs) {g : Nat} (hg : v.ownBlock = some g) (j : Nat) (u : Value) : (w.setCell ⟨g, j, none⟩ u).ownsRow base e size v n (xs.set j u) := by
  obtain ⟨h1, h2⟩ := h
  refine ⟨by rw [List.length_set]; exact h1, ?_⟩
  rcases h2 with ⟨h3, h4⟩ | ⟨g', cap, cur, rfl, hb, hc, h5, h6, h7, h8⟩
  · rw [h3] at hg; cases hg
  · have e1 : g' = g := by simpa [Value.ownBlock] using hg
    subst e1
    refine Or.inr ⟨g', cap, cur.setIfInBounds j u, rfl, hb, block_setCell hc u, h5, h6, by simpa using h7, ?_⟩
    rw [Array.toList_setIfInBounds, List.take_set, h8]
theorem rfL_set2 : ∀ (A : List RF) (k : Nat) (f : RF) (x : Int), A[k]? = some f → (rfL A).set (k * 3 + 2) (.int .i64 x) = rfL (A.set k { f with sf := x })
  | [], k, f, x, h => by simp at h
  | a :: r, 0, f, x, h => by
    simp at h
    subst h
    simp [rfL, rfC]
  | a :: r, k + 1, f, x, h => by
    simp at h
    have ih := rfL_set2 r k f x h
    have e : rfL (a :: r) = rfC a ++ rfL r := by simp [rfL]
    have e2 : rfL ((a :: r).set (k + 1) { f with sf := x }) = rfC a ++ rfL (r.set k { f with sf := x }) := by simp [rfL]
    rw [e, e2, ← ih, List.set_append_right _ _ (by simp [rfC]; omega)]
    congr 2
    simp [rfC]
    omega
theorem rfL_set1 : ∀ (A : List RF) (k : Nat) (f : RF) (v : Value) (bs : List Int), A[k]? = some f → (rfL A).set (k * 3 + 1) v = rfL (A.set k { f with bv := v, bs := bs })
  | [], k, f, v, bs, h => by simp at h
  | a :: r, 0, f, v, bs, h => by
    simp at h
    subst h
    simp [rfL, rfC]
  | a :: r, k + 1, f, v, bs, h => by
    simp at h
    have ih := rfL_set1 r k f v bs h
    have e : rfL (a :: r) = rfC a ++ rfL r := by simp [rfL]
    have e2 : rfL ((a :: r).set (k + 1) { f with bv := v, bs := bs }) = rfC a ++ rfL (r.set k { f with bv := v, bs := bs }) := by simp [rfL]
    rw [e, e2, ← ih, List.set_append_right _ _ (by simp [rfC]; omega)]
    congr 2
    simp [rfC]
    omega
/-- One file of the list is another. -/
theorem RefIs.setF {w w' : World} {br : Nat} {R : RS} (h : RefIs w br R) {k g : Nat} (hg : R.lv.ownBlock = some g) (f' : RF) (hk : ∀ b, b ≠ g → w'.heap[b]? = w.heap[b]?) (hs : w.heap.size ≤ w'.heap.size)
    (hl : w'.ownsRow 0 64 3 R.lv (R.A.set k f').length (rfL (R.A.set k f'))) (hr : w.ownsRow 0 5 1 f'.bv f'.bs.length (vB f'.bs)) (ho : ∀ b, f'.bv.ownBlock = some b → R.own b = 3) (hn : f'.nm.size ≤ 9223372036854775807) : RefIs w' br { R with A := R.A.set k f' } := by
  have h2 := h.rl g hg
  have hk' : ∀ b, R.own b ≠ 2 → w'.heap[b]? = w.heap[b]? := fun b hb => hk b (fun e => hb (by rw [e]; exact h2))
  have hmem : ∀ x ∈ R.A.set k f', x = f' ∨ x ∈ R.A := fun x hx => (List.mem_or_eq_of_mem_set hx).symm
  refine ⟨?_, h.rd, hl, h.rl, fun x hx => ?_, fun x hx b hb => ?_, fun x hx => ?_, ?_, h.rp, fun b hb => h.fresh b (by omega)⟩
  · exact (hk' br (by rw [h.rd]; simp)).trans h.disk
  · rcases hmem x hx with rfl | hx
    · exact ownsRow_heap hr (fun b hb => hk' b (by rw [ho b hb]; simp))
    · exact ownsRow_heap (h.row x hx) (fun b hb => hk' b (by rw [h.rr x hx b hb]; simp))
  · rcases hmem x hx with rfl | hx
    · exact ho b hb
    · exact h.rr x hx b hb
  · rcases hmem x hx with rfl | hx
    · exact hn
    · exact h.nm x hx
  · exact ownsRow_heap h.plan (fun b hb => hk' b (by rw [h.rp b hb]; simp))
theorem RefIs.frF {w w' : World} {br : Nat} {R : RS} (h : RefIs w br R) {k g : Nat} (hg : R.lv.ownBlock = some g) (f' : RF) (hk : ∀ b, b ≠ g → w'.heap[b]? = w.heap[b]?) (hs : w.heap.size ≤ w'.heap.size) (ho : w'.os = w.os ∧ w'.tape = w.tape ∧ w'.output = w.output) : RFr w w' R { R with A := R.A.set k f' } :=
  ⟨ho.1, ho.2.1, ho.2.2, hs, fun b _ hr => hk b (fun e => by rw [e, h.rl g hg] at hr; cases hr), fun _ _ h => h⟩
set_option maxRecDepth 100000 in
set_option maxHeartbeats 4000000 in
theorem rsync_ok {w : World} {br : Nat} {R : RS} (h : RefIs w br R) (hp : PlanR R) (hn : Rn R) (hl : R.A.length ≤ 100) (s : ByteArray) (hs : s.size ≤ 9223372036854775807) (he : rthE R s s = 0) {k : Nat} {f : RF} (hi : idxR s R.A = (k : Nat)) (hkf : R.A[k]? = some f) :
    Calls Try.prog 17 #[.pointer (some ⟨br, 0, none⟩), .string s] w fun e w' => e = .returned (.int .i64 0) ∧ RefIs w' br { rstS R s s with A := (rstS R s s).A.set k { f with sf := (f.bs.length : Int) } } ∧ RFr w w' R { rstS R s s with A := (rstS R s s).A.set k { f with sf := (f.bs.length : Int) } } := by
  have HR : Hid (RefIs w br R) := h
  have hI : rthI R s s = (k : Nat) := by rw [(rth_zero he).2.2, hi]
  have hA := A_rstS R s s
  clear h
  generalize hS1 : rstS R s s = R1 at *
  have hkf1 : R1.A[k]? = some f := by rw [hA]; exact hkf
  have hkl : k < R1.A.length := (List.getElem?_eq_some_iff.1 hkf1).1
  have hki : (k : Int) < R1.A.length := by omega
  have hl1 : R1.A.length ≤ 100 := by rw [hA]; exact hl
  clear hA
  go_enter Try.func17, Try.ntmps17
  go_wp2_with (first
    | (go_at_call 43
       refine (rthere0 HR.out hp s s hs hs hn (by omega)).mono ?_
       rw [he, hI, hS1]
       rintro e w1 ⟨rfl, hR1, hF1⟩
       have H1 : Hid (RefIs w1 br R1 ∧ RFr w w1 R R1) := ⟨hR1, hF1⟩
       obtain ⟨g, cap, hlv, hog, hgl, hlc, hcc⟩ := hR1.cell hkf1
       have c3 : w1.cell? ⟨br, 3, none⟩ = some (.slice (some ⟨g, 0, none⟩) R1.A.length cap) := by rw [cell_of_block hR1.disk]; simp [rC, hlv]
       have hc0 := hcc 0 _ rfl
       rw [Nat.add_zero] at hc0
       have hc1 := hcc 1 _ rfl
       have hc2 := hcc 2 _ rfl
       obtain ⟨ba, bc, hbv⟩ := row_form (hR1.row f (List.mem_of_getElem? hkf1))
       rw [hbv] at hc1
       have hby := BytesV.of_own (hR1.row f (List.mem_of_getElem? hkf1))
       rw [hbv] at hby
       have HBY : Hid (BytesV w1 (.slice ba f.bs.length bc) f.bs) := hby
       clear hR1 hF1 hcc hby)
    | go_in)
  have hgo : R1.lv.ownBlock = some g := by rw [hlv]; rfl
  have hfz : w1.frozen? ⟨g, k * 3 + 2, none⟩ = false ∧ w1.frozen? ⟨g, k * 3 + 1, none⟩ = false := by
    rcases H1.out.1.list.2 with ⟨h0, _⟩ | ⟨g', cap', cur, h0, _, hc, _⟩
    · rw [h0] at hgo; cases hgo
    · rw [h0] at hgo
      have e1 : g' = g := by simpa [Value.ownBlock] using hgo
      subst e1
      exact ⟨unfrozen_of_block hc _, unfrozen_of_block hc _⟩
  have HC : Hid (w1.cell? ⟨br, 3, none⟩ = some (.slice (some ⟨g, 0, none⟩) R1.A.length cap) ∧ w1.cell? ⟨g, k * 3 + 1, none⟩ = some (.slice ba f.bs.length bc) ∧ w1.cell? ⟨g, k * 3 + 2, none⟩ = some (.int .i64 f.sf) ∧ w1.frozen? ⟨g, k * 3 + 2, none⟩ = false ∧ w1.frozen? ⟨g, k * 3 + 1, none⟩ = false) := ⟨c3, hc1, hc2, hfz⟩
  have hbrg : br ≠ g := fun e => by have := H1.out.1.rd; rw [e, hog] at this; cases this
  clear hfz c3 hc0 hc1 hc2
  refine wp_region_held_drew (S := fun w' => w'.cell? ⟨br, 3, none⟩ = some (.slice (some ⟨g, 0, none⟩) R1.A.length cap) ∧ w'.cell? ⟨g, k * 3 + 1, none⟩ = some (.slice ba f.bs.length bc)) (by kernel_rfl) ⟨HC.out.1, HC.out.2.1⟩ (fun hHeld => ?_)
  refine wpAnyH_take (i := 0) (v := .pointer (some ⟨br, 0, none⟩)) rfl (by kernel_rfl) (by kernel_rfl) (by kernel_rfl) (fun _ _ _ h => h) (Or.inl ⟨by rfl, fun w9 hSw => ?_⟩) hHeld ?_
  · go_simp
  simp only [List.getElem_toArray, List.getElem_cons_succ, List.getElem_cons_zero, Act.put, List.setIfInBounds_toArray, List.set_cons_zero, List.set_cons_succ]
  refine wpAnyH_take (i := 1) (v := .pointer (some ⟨br, 0, none⟩)) rfl (by kernel_rfl) (by kernel_rfl) (by kernel_rfl) (fun _ _ _ h => h) (Or.inl ⟨by rfl, fun w9 hSw => ?_⟩) hHeld ?_
  · go_simp
  simp only [List.getElem_toArray, List.getElem_cons_succ, List.getElem_cons_zero, Act.put, List.setIfInBounds_toArray, List.set_cons_zero, List.set_cons_succ]
  refine wpAnyH_take (i := 2) (v := .pointer (some ⟨br, 3, none⟩)) rfl (by kernel_rfl) (by kernel_rfl) (by kernel_rfl) (fun _ _ _ h => h) (Or.inl ⟨by rfl, fun w9 hSw => ?_⟩) hHeld ?_
  · go_simp
  simp only [List.getElem_toArray, List.getElem_cons_succ, List.getElem_cons_zero, Act.put, List.setIfInBounds_toArray, List.set_cons_zero, List.set_cons_succ]
  refine wpAnyH_take (i := 3) (v := .slice (some ⟨g, 0, none⟩) R1.A.length cap) rfl (by kernel_rfl) (by kernel_rfl) (by kernel_rfl) (fun _ _ _ h => h) (Or.inl ⟨by rfl, fun w9 hSw => ?_⟩) hHeld ?_
  · have hc : w9.cell? ⟨br, 3, none⟩ = some (.slice (some ⟨g, 0, none⟩) R1.A.length cap) := hSw.1
    go_simp
  simp only [List.getElem_toArray, List.getElem_cons_succ, List.getElem_cons_zero, Act.put, List.setIfInBounds_toArray, List.set_cons_zero, List.set_cons_succ]
  refine wpAnyH_take (i := 4) (v := .int .i64 (k : Int)) rfl (by kernel_rfl) (by kernel_rfl) (by kernel_rfl) (fun _ _ _ h => h) (Or.inl ⟨by rfl, fun w9 hSw => ?_⟩) hHeld ?_
  · go_simp
  simp only [List.getElem_toArray, List.getElem_cons_succ, List.getElem_cons_zero, Act.put, List.setIfInBounds_toArray, List.set_cons_zero, List.set_cons_succ]
  refine wpAnyH_take (i := 5) (v := .pointer (some ⟨br, 0, none⟩)) rfl (by kernel_rfl) (by kernel_rfl) (by kernel_rfl) (fun _ _ _ h => h) (Or.inl ⟨by rfl, fun w9 hSw => ?_⟩) hHeld ?_
  · go_simp
  simp only [List.getElem_toArray, List.getElem_cons_succ, List.getElem_cons_zero, Act.put, List.setIfInBounds_toArray, List.set_cons_zero, List.set_cons_succ]
  refine wpAnyH_take (i := 6) (v := .pointer (some ⟨br, 0, none⟩)) rfl (by kernel_rfl) (by kernel_rfl) (by kernel_rfl) (fun _ _ _ h => h) (Or.inl ⟨by rfl, fun w9 hSw => ?_⟩) hHeld ?_
  · go_simp
  simp only [List.getElem_toArray, List.getElem_cons_succ, List.getElem_cons_zero, Act.put, List.setIfInBounds_toArray, List.set_cons_zero, List.set_cons_succ]
  refine wpAnyH_take (i := 7) (v := .pointer (some ⟨br, 3, none⟩)) rfl (by kernel_rfl) (by kernel_rfl) (by kernel_rfl) (fun _ _ _ h => h) (Or.inl ⟨by rfl, fun w9 hSw => ?_⟩) hHeld ?_
  · go_simp
  simp only [List.getElem_toArray, List.getElem_cons_succ, List.getElem_cons_zero, Act.put, List.setIfInBounds_toArray, List.set_cons_zero, List.set_cons_succ]
  refine wpAnyH_take (i := 8) (v := .slice (some ⟨g, 0, none⟩) R1.A.length cap) rfl (by kernel_rfl) (by kernel_rfl) (by kernel_rfl) (fun _ _ _ h => h) (Or.inl ⟨by rfl, fun w9 hSw => ?_⟩) hHeld ?_
  · have hc : w9.cell? ⟨br, 3, none⟩ = some (.slice (some ⟨g, 0, none⟩) R1.A.length cap) := hSw.1
    go_simp
  simp only [List.getElem_toArray, List.getElem_cons_succ, List.getElem_cons_zero, Act.put, List.setIfInBounds_toArray, List.set_cons_zero, List.set_cons_succ]
  refine wpAnyH_take (i := 9) (v := .int .i64 (k : Int)) rfl (by kernel_rfl) (by kernel_rfl) (by kernel_rfl) (fun _ _ _ h => h) (Or.inl ⟨by rfl, fun w9 hSw => ?_⟩) hHeld ?_
  · go_simp
  simp only [List.getElem_toArray, List.getElem_cons_succ, List.getElem_cons_zero, Act.put, List.setIfInBounds_toArray, List.set_cons_zero, List.set_cons_succ]
  refine wpAnyH_take (i := 10) (v := .pointer (some ⟨g, k * 3, none⟩)) rfl (by kernel_rfl) (by kernel_rfl) (by kernel_rfl) (fun _ _ _ h => h) (Or.inl ⟨by rfl, fun w9 hSw => ?_⟩) hHeld ?_
  · go_simp
  simp only [List.getElem_toArray, List.getElem_cons_succ, List.getElem_cons_zero, Act.put, List.setIfInBounds_toArray, List.set_cons_zero, List.set_cons_succ]
  refine wpAnyH_take (i := 11) (v := .pointer (some ⟨g, k * 3 + 1, none⟩)) rfl (by kernel_rfl) (by kernel_rfl) (by kernel_rfl) (fun _ _ _ h => h) (Or.inl ⟨by rfl, fun w9 hSw => ?_⟩) hHeld ?_
  · go_simp
  simp only [List.getElem_toArray, List.getElem_cons_succ, List.getElem_cons_zero, Act.put, List.setIfInBounds_toArray, List.set_cons_zero, List.set_cons_succ]
  refine wpAnyH_take (i := 12) (v := .slice ba f.bs.length bc) rfl (by kernel_rfl) (by kernel_rfl) (by kernel_rfl) (fun _ _ _ h => h) (Or.inl ⟨by rfl, fun w9 hSw => ?_⟩) hHeld ?_
  · have hc : w9.cell? ⟨g, k * 3 + 1, none⟩ = some (.slice ba f.bs.length bc) := hSw.2
    go_simp
  simp only [List.getElem_toArray, List.getElem_cons_succ, List.getElem_cons_zero, Act.put, List.setIfInBounds_toArray, List.set_cons_zero, List.set_cons_succ]
  refine wpAnyH_take (i := 13) (v := .int .i64 (f.bs.length : Int)) rfl (by kernel_rfl) (by kernel_rfl) (by kernel_rfl) (fun _ _ _ h => h) (Or.inl ⟨by rfl, fun w9 hSw => ?_⟩) hHeld ?_
  · go_simp
  simp only [List.getElem_toArray, List.getElem_cons_succ, List.getElem_cons_zero, Act.put, List.setIfInBounds_toArray, List.set_cons_zero, List.set_cons_succ]
  refine wpAnyH_take (i := 14) (v := .pointer (some ⟨g, k * 3, none⟩)) rfl (by kernel_rfl) (by kernel_rfl) (by kernel_rfl) (fun _ _ _ h => h) (Or.inl ⟨by rfl, fun w9 hSw => ?_⟩) hHeld ?_
  · go_simp
  simp only [List.getElem_toArray, List.getElem_cons_succ, List.getElem_cons_zero, Act.put, List.setIfInBounds_toArray, List.set_cons_zero, List.set_cons_succ]
  refine wpAnyH_take (i := 15) (v := .pointer (some ⟨g, k * 3 + 2, none⟩)) rfl (by kernel_rfl) (by kernel_rfl) (by kernel_rfl) (fun _ _ _ h => h) (Or.inl ⟨by rfl, fun w9 hSw => ?_⟩) hHeld ?_
  · go_simp
  simp only [List.getElem_toArray, List.getElem_cons_succ, List.getElem_cons_zero, Act.put, List.setIfInBounds_toArray, List.set_cons_zero, List.set_cons_succ]
  refine wpAnyH_ready (rs := [16]) (by kernel_rfl) (by simp) ?_
  refine AllReadyH.cons rfl (fun K hK => ?_) AllReadyH.nil
  have hc2' : w1.drew.cell? ⟨g, k * 3 + 2, none⟩ = some (.int .i64 f.sf) := HC.out.2.2.1
  have hf2' : w1.drew.frozen? ⟨g, k * 3 + 2, none⟩ = false := HC.out.2.2.2.1
  have HD2 : Hid (RefIs w1.drew br R1 ∧ RFr w w1.drew R R1) := ⟨H1.out.1.kept (fun _ _ => rfl) (Nat.le_refl _), ⟨H1.out.2.os, H1.out.2.tape, H1.out.2.output, H1.out.2.size, H1.out.2.block, H1.out.2.own⟩⟩
  generalize w1.drew = w2 at hHeld hc2' hf2' HD2 ⊢
  go_simp
  refine hK.out _ _ ⟨?_, ?_⟩ (fun hHeld => ?_)
  · rw [World.cell?_of_block (Below.heap_setCell _ _ _ _ hbrg)]
    exact hHeld.1
  · exact (World.cell?_setCell_other _ ⟨g, k * 3 + 2, none⟩ ⟨g, k * 3 + 1, none⟩ _ (fun e => by injection e with _ e _; omega)).trans hHeld.2
  clear hK K
  try simp only [List.getElem_toArray, List.getElem_cons_succ, List.getElem_cons_zero, Act.put, List.setIfInBounds_toArray, List.set_cons_zero, List.set_cons_succ]
  refine wpAnyH_done (by kernel_rfl) ?_ _
  clear hHeld
  go_wp2
  go_ret
  have hrow := HD2.out.1.row f (List.mem_of_getElem? hkf1)
  have hl2 := ownsRow_set HD2.out.1.list hgo (k * 3 + 2) (.int .i64 (f.bs.length : Int))
  rw [rfL_set2 R1.A k f _ hkf1] at hl2
  have hk : ∀ b, b ≠ g → (w2.setCell ⟨g, k * 3 + 2, none⟩ (.int .i64 (f.bs.length : Int))).heap[b]? = w2.heap[b]? := fun b hb => Below.heap_setCell _ _ _ _ hb
  refine ⟨rfl, HD2.out.1.setF hgo _ hk (by simp) ?_ hrow (HD2.out.1.rr f (List.mem_of_getElem? hkf1)) (HD2.out.1.nm f (List.mem_of_getElem? hkf1)), HD2.out.2.trans (HD2.out.1.frF hgo _ hk (by simp) ⟨rfl, rfl, rfl⟩)⟩
  rw [List.length_set]
  exact hl2

end Go.Proofs.Ytllkpnlgemjgfaa
