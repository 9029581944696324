/- UJ, UK, laid into one text. -/
import Derived.Test.YtboeokmaepchgaaGreatDoorM27
/- state: Open. -/
namespace Go.Proofs.YtboeokmaepchgaaGreatDoor
open Go.RowKit Go.Maps Go.Joins Go.Shelf
set_option linter.unusedSimpArgs false
set_option linter.unusedVariables false
/-- A state's cells: root, nodes, err, accounts, slots, and what a transaction has. -/
def stF (D : Nat → BitVec 8) (er : Int) (m1 m2 t : Nat) (rf : Int) (lg jr sn : Value) (j : Nat) : Value :=
  if j < 32 then .int .u8 (Kc.I8 (D j)) else if j = 32 then .nilFunc else if j = 33 then .int .i64 er else if j = 34 then .map (some m1) else if j = 35 then .map (some m2)
  else if j = 36 then .map (some t) else if j = 37 then .map (some (t + 1)) else if j = 38 then .map (some (t + 2)) else if j = 39 then .int .i64 rf else if j = 40 then lg else if j = 41 then jr else sn
/-- A state that was just opened. -/
structure Fresh (w : World) (D : Nat → BitVec 8) (base b : Nat) : Prop where
  ex : ∃ m1 m2 t, w.heap[b]? = some (.cells (Kc.vec 43 (stF D 0 m1 m2 t 0 (.slice none 0 0) (.slice none 0 0) (.slice none 0 0))) 101) ∧ w.heap[m1]? = some (.map #[] 0) ∧ w.heap[m2]? = some (.map #[] 0) ∧ w.heap[t]? = some (.map #[] 0) ∧ w.heap[t + 1]? = some (.map #[] 0) ∧ w.heap[t + 2]? = some (.map #[] 0) ∧ base ≤ m1 ∧ base ≤ m2 ∧ base ≤ t ∧ m1 ≠ m2 ∧ (m1 < t ∨ t + 2 < m1) ∧ (m2 < t ∨ t + 2 < m2) ∧ base ≤ b
/-- What has been made so far: the maps of accounts, of slots, of a transaction. -/
structure Made (w U : World) (p1 p2 p3 : Option Nat) : Prop where
  bl : Below w.heap.size w U
  h1 : ∀ m, p1 = some m → U.heap[m]? = some (.map #[] 0) ∧ w.heap.size ≤ m
  h2 : ∀ m, p2 = some m → U.heap[m]? = some (.map #[] 0) ∧ w.heap.size ≤ m
  h3 : ∀ t, p3 = some t → U.heap[t]? = some (.map #[] 0) ∧ U.heap[t + 1]? = some (.map #[] 0) ∧ U.heap[t + 2]? = some (.map #[] 0) ∧ w.heap.size ≤ t
  n12 : ∀ m n, p1 = some m → p2 = some n → m ≠ n
  n13 : ∀ m t, p1 = some m → p3 = some t → m < t ∨ t + 2 < m
  n23 : ∀ m t, p2 = some m → p3 = some t → m < t ∨ t + 2 < m
theorem Made.add1 {w U : World} {p2 p3 : Option Nat} (h : Made w U none p2 p3) : Made w (U.alloc (.map #[] 0)) (some U.heap.size) p2 p3 := by
  have hb : Below U.heap.size U (U.alloc (.map #[] 0)) := by go_grown
  have hs := h.bl.size
  refine ⟨h.bl.trans (hb.mono hs), fun m e => ?_, fun m e => ?_, fun t e => ?_, fun m n e e' => ?_, fun m t e e' => ?_, h.n23⟩
  · cases e; exact ⟨heap_alloc_new _ _, hs⟩
  · have := h.h2 m e; exact ⟨(hb.block m (heap_lt this.1)).trans this.1, this.2⟩
  · have := h.h3 t e; exact ⟨(hb.block _ (heap_lt this.1)).trans this.1, (hb.block _ (heap_lt this.2.1)).trans this.2.1, (hb.block _ (heap_lt this.2.2.1)).trans this.2.2.1, this.2.2.2⟩
  · cases e; have := heap_lt (h.h2 n e').1; omega
  · cases e; have := heap_lt (h.h3 t e').2.2.1; omega
theorem Made.add2 {w U : World} {p1 p3 : Option Nat} (h : Made w U p1 none p3) : Made w (U.alloc (.map #[] 0)) p1 (some U.heap.size) p3 := by
  have hb : Below U.heap.size U (U.alloc (.map #[] 0)) := by go_grown
  have hs := h.bl.size
  refine ⟨h.bl.trans (hb.mono hs), fun m e => ?_, fun m e => ?_, fun t e => ?_, fun m n e e' => ?_, h.n13, fun m t e e' => ?_⟩
  · have := h.h1 m e; exact ⟨(hb.block m (heap_lt this.1)).trans this.1, this.2⟩
  · cases e; exact ⟨heap_alloc_new _ _, hs⟩
  · have := h.h3 t e; exact ⟨(hb.block _ (heap_lt this.1)).trans this.1, (hb.block _ (heap_lt this.2.1)).trans this.2.1, (hb.block _ (heap_lt this.2.2.1)).trans this.2.2.1, this.2.2.2⟩
  · cases e'; have := heap_lt (h.h1 m e).1; omega
  · cases e; have := heap_lt (h.h3 t e').2.2.1; omega
theorem Made.add3 {w U V : World} {p1 p2 : Option Nat} {t : Nat} (h : Made w U p1 p2 none) (hb : Below U.heap.size U V) (ht : U.heap.size ≤ t) (h0 : V.heap[t]? = some (.map #[] 0)) (h1 : V.heap[t + 1]? = some (.map #[] 0)) (h2 : V.heap[t + 2]? = some (.map #[] 0)) : Made w V p1 p2 (some t) := by
  have hs := h.bl.size
  refine ⟨h.bl.trans (hb.mono hs), fun m e => ?_, fun m e => ?_, fun t e => ?_, h.n12, fun m t e e' => ?_, fun m t e e' => ?_⟩
  · have := h.h1 m e; exact ⟨(hb.block m (heap_lt this.1)).trans this.1, this.2⟩
  · have := h.h2 m e; exact ⟨(hb.block m (heap_lt this.1)).trans this.1, this.2⟩
  · cases e; exact ⟨h0, h1, h2, by omega⟩
  · cases e'; have := heap_lt (h.h1 m e).1; omega
  · cases e'; have := heap_lt (h.h2 m e).1; omega
theorem Made.fin {w U : World} {D : Nat → BitVec 8} {m1 m2 t : Nat} (h : Made w U (some m1) (some m2) (some t)) : Below w.heap.size w (U.alloc (.cells (Kc.vec 43 (stF D 0 m1 m2 t 0 (.slice none 0 0) (.slice none 0 0) (.slice none 0 0))) 101)) ∧ Fresh (U.alloc (.cells (Kc.vec 43 (stF D 0 m1 m2 t 0 (.slice none 0 0) (.slice none 0 0) (.slice none 0 0))) 101)) D w.heap.size U.heap.size := by
  have hb : Below U.heap.size U (U.alloc (.cells (Kc.vec 43 (stF D 0 m1 m2 t 0 (.slice none 0 0) (.slice none 0 0) (.slice none 0 0))) 101)) := by go_grown
  have a1 := h.h1 m1 rfl
  have a2 := h.h2 m2 rfl
  have a3 := h.h3 t rfl
  exact ⟨h.bl.trans (hb.mono h.bl.size), ⟨m1, m2, t, heap_alloc_new _ _, (hb.block _ (heap_lt a1.1)).trans a1.1, (hb.block _ (heap_lt a2.1)).trans a2.1, (hb.block _ (heap_lt a3.1)).trans a3.1, (hb.block _ (heap_lt a3.2.1)).trans a3.2.1, (hb.block _ (heap_lt a3.2.2.1)).trans a3.2.2.1, a1.2, a2.2, a3.2.2.2, h.n12 _ _ rfl rfl, h.n13 _ _ rfl rfl, h.n23 _ _ rfl rfl, h.bl.size⟩⟩
set_option maxRecDepth 100000 in
set_option maxHeartbeats 16000000 in
/-- state.Open without nodes -/
theorem sopen_any {w : World} (D : Nat → BitVec 8) : Calls Tryz.prog 77 #[.agg (Kc.vec 32 (Kc.byt D)), .nilFunc] w fun e w' => Below w.heap.size w w' ∧ ∃ b, e = .returned (.pointer (some ⟨b, 0, none⟩)) ∧ Fresh w' D w.heap.size b := by
  have h92 : ∀ w : World, (Instr.makeMap 92 none).run Tryz.prog w = .ok (.map (some w.heap.size)) (w.alloc (.map #[] 0)) := fun w => run_makeMap (P := Tryz.prog) 92 w
  have h93 : ∀ w : World, (Instr.makeMap 93 none).run Tryz.prog w = .ok (.map (some w.heap.size)) (w.alloc (.map #[] 0)) := fun w => run_makeMap (P := Tryz.prog) 93 w
  have H0 : Hid (Below w.heap.size w (w.alloc (.cells (Kc.vec 32 (Kc.byt D)) 33)) ∧ (w.alloc (.cells (Kc.vec 32 (Kc.byt D)) 33)).heap[w.heap.size]? = some (.cells (Kc.vec 32 (Kc.byt D)) 33)) := ⟨by go_grown, heap_alloc_new _ _⟩
  go_enter Tryz.func77, Tryz.ntmps77
  go_wp2_with fail
  generalize w.alloc (.cells (Kc.vec 32 (Kc.byt D)) 33) = W0 at H0 ⊢
  refine wp_noP ?_
  refine wp_region_held_drew (S := (fun w' : World => w'.heap[w.heap.size]? = some (.cells (Kc.vec 32 (Kc.byt D)) 33))) (by kernel_rfl) H0.out.2 (fun hHeld => ?_)
  have G0 : Hid (Made w W0.drew none none none) := ⟨⟨H0.out.1.os, H0.out.1.tape, H0.out.1.output, H0.out.1.size, H0.out.1.block⟩, fun m e => (by cases e), fun m e => (by cases e), fun m e => (by cases e), fun m n e => (by cases e), fun m n e => (by cases e), fun m n e => (by cases e)⟩
  clear H0
  generalize W0.drew = U0 at G0 hHeld ⊢
  refine wpAnyH_take (i := 0) (v := .agg (Kc.vec 32 (Kc.byt D))) rfl (by kernel_rfl) (by kernel_rfl) (by kernel_rfl) (fun _ _ _ h => h) (Or.inl ⟨by rfl, fun w9 hSw => ?_⟩) hHeld ?_
  · exact Kc.run_load_exec 33 _ rfl _ rfl (load33 hSw)
  simp only [List.getElem_toArray, List.getElem_cons_succ, List.getElem_cons_zero, Act.put, List.setIfInBounds_toArray, List.set_cons_zero, List.set_cons_succ]
  refine wpAnyH_take (i := 1) (v := .nilFunc) rfl (by kernel_rfl) (by kernel_rfl) (by kernel_rfl) (fun _ _ _ h => h) (Or.inl ⟨by rfl, fun w9 hSw => ?_⟩) hHeld ?_
  · go_simp
  simp only [List.getElem_toArray, List.getElem_cons_succ, List.getElem_cons_zero, Act.put, List.setIfInBounds_toArray, List.set_cons_zero, List.set_cons_succ]
  refine wpAnyH_ready (rs := [2, 3, 4]) (by kernel_rfl) (by simp) ?_
  refine AllReadyH.cons rfl (fun K hK => ?_) (AllReadyH.cons rfl (fun K hK => ?_) (AllReadyH.cons rfl (fun K hK => ?_) AllReadyH.nil))
  · go_simp
    have G1 : Hid _ := G0.out.add1
    have hx : (fun w' : World => w'.heap[w.heap.size]? = some (.cells (Kc.vec 32 (Kc.byt D)) 33)) (U0.alloc (.map #[] 0)) := (heap_alloc_old U0 _ (heap_lt hHeld)).trans hHeld
    obtain ⟨m1, hm1⟩ : ∃ m1, m1 = U0.heap.size := ⟨_, rfl⟩
    rw [← hm1] at G1 ⊢
    clear hm1
    generalize U0.alloc (.map #[] 0) = U1 at G1 hx ⊢
    refine hK.out _ _ hx (fun hHeld => ?_)
    clear hK K
    try simp only [List.getElem_toArray, List.getElem_cons_succ, List.getElem_cons_zero, Act.put, List.setIfInBounds_toArray, List.set_cons_zero, List.set_cons_succ]
    refine wpAnyH_ready (rs := [3, 4]) (by kernel_rfl) (by simp) ?_
    refine AllReadyH.cons rfl (fun K hK => ?_) (AllReadyH.cons rfl (fun K hK => ?_) AllReadyH.nil)
    · go_simp
      have G2 : Hid _ := G1.out.add2
      have hx : (fun w' : World => w'.heap[w.heap.size]? = some (.cells (Kc.vec 32 (Kc.byt D)) 33)) (U1.alloc (.map #[] 0)) := (heap_alloc_old U1 _ (heap_lt hHeld)).trans hHeld
      obtain ⟨m2, hm2⟩ : ∃ m2, m2 = U1.heap.size := ⟨_, rfl⟩
      rw [← hm2] at G2 ⊢
      clear hm2
      generalize U1.alloc (.map #[] 0) = U2 at G2 hx ⊢
      refine hK.out _ _ hx (fun hHeld => ?_)
      clear hK K
      try simp only [List.getElem_toArray, List.getElem_cons_succ, List.getElem_cons_zero, Act.put, List.setIfInBounds_toArray, List.set_cons_zero, List.set_cons_succ]
      refine wpAnyH_ready (rs := [4]) (by kernel_rfl) (by simp) ?_
      refine AllReadyH.cons rfl (fun K hK => ?_) AllReadyH.nil
      have hC := newTrans_any (w := U2)
      go_simp
      refine Calls.mono hC ?_
      clear hC
      rintro e U3 ⟨hb, t3, ht, rfl, q0, q1, q2⟩
      have G3 : Hid _ := G2.out.add3 hb ht q0 q1 q2
      have hx : (fun w' : World => w'.heap[w.heap.size]? = some (.cells (Kc.vec 32 (Kc.byt D)) 33)) U3 := (hb.block _ (heap_lt hHeld)).trans hHeld
      clear hb ht q0 q1 q2
      refine hK.out _ _ hx (fun hHeld => ?_)
      clear hK K
      try simp only [List.getElem_toArray, List.getElem_cons_succ, List.getElem_cons_zero, Act.put, List.setIfInBounds_toArray, List.set_cons_zero, List.set_cons_succ]
      refine wpAnyH_take (i := 5) (v := .agg (Kc.vec 43 (stF D 0 m1 m2 t3 0 (.slice none 0 0) (.slice none 0 0) (.slice none 0 0)))) rfl (by kernel_rfl) (by kernel_rfl) (by kernel_rfl) (fun _ _ _ h => h) (Or.inl ⟨by rfl, fun w9 hSw => ?_⟩) hHeld ?_
      · go_simp
        kernel_rfl
      simp only [List.getElem_toArray, List.getElem_cons_succ, List.getElem_cons_zero, Act.put, List.setIfInBounds_toArray, List.set_cons_zero, List.set_cons_succ]
      refine wpAnyH_ready (rs := [6]) (by kernel_rfl) (by simp) ?_
      refine AllReadyH.cons rfl (fun K hK => ?_) AllReadyH.nil
      go_simp
      have hf := G3.out.fin (D := D)
      have hx9 : (fun w' : World => w'.heap[w.heap.size]? = some (.cells (Kc.vec 32 (Kc.byt D)) 33)) (U3.alloc (.cells (Kc.vec 43 (stF D 0 m1 m2 t3 0 (.slice none 0 0) (.slice none 0 0) (.slice none 0 0))) 101)) := (heap_alloc_old U3 _ (heap_lt hHeld)).trans hHeld
      have HF : Hid _ := hf
      clear hf
      refine hK.out _ _ hx9 (fun hHeld => ?_)
      clear hK K
      try simp only [List.getElem_toArray, List.getElem_cons_succ, List.getElem_cons_zero, Act.put, List.setIfInBounds_toArray, List.set_cons_zero, List.set_cons_succ]
      refine wpAnyH_take (i := 7) (v := .pointer (some ⟨U3.heap.size, 0, none⟩)) rfl (by kernel_rfl) (by kernel_rfl) (by kernel_rfl) (fun _ _ _ h => h) (Or.inl ⟨by rfl, fun w9 hSw => ?_⟩) hHeld ?_
      · go_simp
      simp only [List.getElem_toArray, List.getElem_cons_succ, List.getElem_cons_zero, Act.put, List.setIfInBounds_toArray, List.set_cons_zero, List.set_cons_succ]
      refine wpAnyH_done (by kernel_rfl) ?_ _
      simp only [noP]
      clear hHeld hx9
      go_wp2
      go_ret
      exact ⟨HF.out.1, _, rfl, HF.out.2⟩
    · have hC := newTrans_any (w := U1)
      go_simp
      refine Calls.mono hC ?_
      clear hC
      rintro e U4 ⟨hb, t4, ht, rfl, q0, q1, q2⟩
      have G2 : Hid _ := G1.out.add3 hb ht q0 q1 q2
      have hx : (fun w' : World => w'.heap[w.heap.size]? = some (.cells (Kc.vec 32 (Kc.byt D)) 33)) U4 := (hb.block _ (heap_lt hHeld)).trans hHeld
      clear hb ht q0 q1 q2
      refine hK.out _ _ hx (fun hHeld => ?_)
      clear hK K
      try simp only [List.getElem_toArray, List.getElem_cons_succ, List.getElem_cons_zero, Act.put, List.setIfInBounds_toArray, List.set_cons_zero, List.set_cons_succ]
      refine wpAnyH_ready (rs := [3]) (by kernel_rfl) (by simp) ?_
      refine AllReadyH.cons rfl (fun K hK => ?_) AllReadyH.nil
      go_simp
      have G3 : Hid _ := G2.out.add2
      have hx : (fun w' : World => w'.heap[w.heap.size]? = some (.cells (Kc.vec 32 (Kc.byt D)) 33)) (U4.alloc (.map #[] 0)) := (heap_alloc_old U4 _ (heap_lt hHeld)).trans hHeld
      obtain ⟨m5, hm5⟩ : ∃ m5, m5 = U4.heap.size := ⟨_, rfl⟩
      rw [← hm5] at G3 ⊢
      clear hm5
      generalize U4.alloc (.map #[] 0) = U5 at G3 hx ⊢
      refine hK.out _ _ hx (fun hHeld => ?_)
      clear hK K
      try simp only [List.getElem_toArray, List.getElem_cons_succ, List.getElem_cons_zero, Act.put, List.setIfInBounds_toArray, List.set_cons_zero, List.set_cons_succ]
      refine wpAnyH_take (i := 5) (v := .agg (Kc.vec 43 (stF D 0 m1 m5 t4 0 (.slice none 0 0) (.slice none 0 0) (.slice none 0 0)))) rfl (by kernel_rfl) (by kernel_rfl) (by kernel_rfl) (fun _ _ _ h => h) (Or.inl ⟨by rfl, fun w9 hSw => ?_⟩) hHeld ?_
      · go_simp
        kernel_rfl
      simp only [List.getElem_toArray, List.getElem_cons_succ, List.getElem_cons_zero, Act.put, List.setIfInBounds_toArray, List.set_cons_zero, List.set_cons_succ]
      refine wpAnyH_ready (rs := [6]) (by kernel_rfl) (by simp) ?_
      refine AllReadyH.cons rfl (fun K hK => ?_) AllReadyH.nil
      go_simp
      have hf := G3.out.fin (D := D)
      have hx9 : (fun w' : World => w'.heap[w.heap.size]? = some (.cells (Kc.vec 32 (Kc.byt D)) 33)) (U5.alloc (.cells (Kc.vec 43 (stF D 0 m1 m5 t4 0 (.slice none 0 0) (.slice none 0 0) (.slice none 0 0))) 101)) := (heap_alloc_old U5 _ (heap_lt hHeld)).trans hHeld
      have HF : Hid _ := hf
      clear hf
      refine hK.out _ _ hx9 (fun hHeld => ?_)
      clear hK K
      try simp only [List.getElem_toArray, List.getElem_cons_succ, List.getElem_cons_zero, Act.put, List.setIfInBounds_toArray, List.set_cons_zero, List.set_cons_succ]
      refine wpAnyH_take (i := 7) (v := .pointer (some ⟨U5.heap.size, 0, none⟩)) rfl (by kernel_rfl) (by kernel_rfl) (by kernel_rfl) (fun _ _ _ h => h) (Or.inl ⟨by rfl, fun w9 hSw => ?_⟩) hHeld ?_
      · go_simp
      simp only [List.getElem_toArray, List.getElem_cons_succ, List.getElem_cons_zero, Act.put, List.setIfInBounds_toArray, List.set_cons_zero, List.set_cons_succ]
      refine wpAnyH_done (by kernel_rfl) ?_ _
      simp only [noP]
      clear hHeld hx9
      go_wp2
      go_ret
      exact ⟨HF.out.1, _, rfl, HF.out.2⟩
  · go_simp
    have G1 : Hid _ := G0.out.add2
    have hx : (fun w' : World => w'.heap[w.heap.size]? = some (.cells (Kc.vec 32 (Kc.byt D)) 33)) (U0.alloc (.map #[] 0)) := (heap_alloc_old U0 _ (heap_lt hHeld)).trans hHeld
    obtain ⟨m6, hm6⟩ : ∃ m6, m6 = U0.heap.size := ⟨_, rfl⟩
    rw [← hm6] at G1 ⊢
    clear hm6
    generalize U0.alloc (.map #[] 0) = U6 at G1 hx ⊢
    refine hK.out _ _ hx (fun hHeld => ?_)
    clear hK K
    try simp only [List.getElem_toArray, List.getElem_cons_succ, List.getElem_cons_zero, Act.put, List.setIfInBounds_toArray, List.set_cons_zero, List.set_cons_succ]
    refine wpAnyH_ready (rs := [2, 4]) (by kernel_rfl) (by simp) ?_
    refine AllReadyH.cons rfl (fun K hK => ?_) (AllReadyH.cons rfl (fun K hK => ?_) AllReadyH.nil)
    · go_simp
      have G2 : Hid _ := G1.out.add1
      have hx : (fun w' : World => w'.heap[w.heap.size]? = some (.cells (Kc.vec 32 (Kc.byt D)) 33)) (U6.alloc (.map #[] 0)) := (heap_alloc_old U6 _ (heap_lt hHeld)).trans hHeld
      obtain ⟨m7, hm7⟩ : ∃ m7, m7 = U6.heap.size := ⟨_, rfl⟩
      rw [← hm7] at G2 ⊢
      clear hm7
      generalize U6.alloc (.map #[] 0) = U7 at G2 hx ⊢
      refine hK.out _ _ hx (fun hHeld => ?_)
      clear hK K
      try simp only [List.getElem_toArray, List.getElem_cons_succ, List.getElem_cons_zero, Act.put, List.setIfInBounds_toArray, List.set_cons_zero, List.set_cons_succ]
      refine wpAnyH_ready (rs := [4]) (by kernel_rfl) (by simp) ?_
      refine AllReadyH.cons rfl (fun K hK => ?_) AllReadyH.nil
      have hC := newTrans_any (w := U7)
      go_simp
      refine Calls.mono hC ?_
      clear hC
      rintro e U8 ⟨hb, t8, ht, rfl, q0, q1, q2⟩
      have G3 : Hid _ := G2.out.add3 hb ht q0 q1 q2
      have hx : (fun w' : World => w'.heap[w.heap.size]? = some (.cells (Kc.vec 32 (Kc.byt D)) 33)) U8 := (hb.block _ (heap_lt hHeld)).trans hHeld
      clear hb ht q0 q1 q2
      refine hK.out _ _ hx (fun hHeld => ?_)
      clear hK K
      try simp only [List.getElem_toArray, List.getElem_cons_succ, List.getElem_cons_zero, Act.put, List.setIfInBounds_toArray, List.set_cons_zero, List.set_cons_succ]
      refine wpAnyH_take (i := 5) (v := .agg (Kc.vec 43 (stF D 0 m7 m6 t8 0 (.slice none 0 0) (.slice none 0 0) (.slice none 0 0)))) rfl (by kernel_rfl) (by kernel_rfl) (by kernel_rfl) (fun _ _ _ h => h) (Or.inl ⟨by rfl, fun w9 hSw => ?_⟩) hHeld ?_
      · go_simp
        kernel_rfl
      simp only [List.getElem_toArray, List.getElem_cons_succ, List.getElem_cons_zero, Act.put, List.setIfInBounds_toArray, List.set_cons_zero, List.set_cons_succ]
      refine wpAnyH_ready (rs := [6]) (by kernel_rfl) (by simp) ?_
      refine AllReadyH.cons rfl (fun K hK => ?_) AllReadyH.nil
      go_simp
      have hf := G3.out.fin (D := D)
      have hx9 : (fun w' : World => w'.heap[w.heap.size]? = some (.cells (Kc.vec 32 (Kc.byt D)) 33)) (U8.alloc (.cells (Kc.vec 43 (stF D 0 m7 m6 t8 0 (.slice none 0 0) (.slice none 0 0) (.slice none 0 0))) 101)) := (heap_alloc_old U8 _ (heap_lt hHeld)).trans hHeld
      have HF : Hid _ := hf
      clear hf
      refine hK.out _ _ hx9 (fun hHeld => ?_)
      clear hK K
      try simp only [List.getElem_toArray, List.getElem_cons_succ, List.getElem_cons_zero, Act.put, List.setIfInBounds_toArray, List.set_cons_zero, List.set_cons_succ]
      refine wpAnyH_take (i := 7) (v := .pointer (some ⟨U8.heap.size, 0, none⟩)) rfl (by kernel_rfl) (by kernel_rfl) (by kernel_rfl) (fun _ _ _ h => h) (Or.inl ⟨by rfl, fun w9 hSw => ?_⟩) hHeld ?_
      · go_simp
      simp only [List.getElem_toArray, List.getElem_cons_succ, List.getElem_cons_zero, Act.put, List.setIfInBounds_toArray, List.set_cons_zero, List.set_cons_succ]
      refine wpAnyH_done (by kernel_rfl) ?_ _
      simp only [noP]
      clear hHeld hx9
      go_wp2
      go_ret
      exact ⟨HF.out.1, _, rfl, HF.out.2⟩
    · have hC := newTrans_any (w := U6)
      go_simp
      refine Calls.mono hC ?_
      clear hC
      rintro e U9 ⟨hb, t9, ht, rfl, q0, q1, q2⟩
      have G2 : Hid _ := G1.out.add3 hb ht q0 q1 q2
      have hx : (fun w' : World => w'.heap[w.heap.size]? = some (.cells (Kc.vec 32 (Kc.byt D)) 33)) U9 := (hb.block _ (heap_lt hHeld)).trans hHeld
      clear hb ht q0 q1 q2
      refine hK.out _ _ hx (fun hHeld => ?_)
      clear hK K
      try simp only [List.getElem_toArray, List.getElem_cons_succ, List.getElem_cons_zero, Act.put, List.setIfInBounds_toArray, List.set_cons_zero, List.set_cons_succ]
      refine wpAnyH_ready (rs := [2]) (by kernel_rfl) (by simp) ?_
      refine AllReadyH.cons rfl (fun K hK => ?_) AllReadyH.nil
      go_simp
      have G3 : Hid _ := G2.out.add1
      have hx : (fun w' : World => w'.heap[w.heap.size]? = some (.cells (Kc.vec 32 (Kc.byt D)) 33)) (U9.alloc (.map #[] 0)) := (heap_alloc_old U9 _ (heap_lt hHeld)).trans hHeld
      obtain ⟨m10, hm10⟩ : ∃ m10, m10 = U9.heap.size := ⟨_, rfl⟩
      rw [← hm10] at G3 ⊢
      clear hm10
      generalize U9.alloc (.map #[] 0) = U10 at G3 hx ⊢
      refine hK.out _ _ hx (fun hHeld => ?_)
      clear hK K
      try simp only [List.getElem_toArray, List.getElem_cons_succ, List.getElem_cons_zero, Act.put, List.setIfInBounds_toArray, List.set_cons_zero, List.set_cons_succ]
      refine wpAnyH_take (i := 5) (v := .agg (Kc.vec 43 (stF D 0 m10 m6 t9 0 (.slice none 0 0) (.slice none 0 0) (.slice none 0 0)))) rfl (by kernel_rfl) (by kernel_rfl) (by kernel_rfl) (fun _ _ _ h => h) (Or.inl ⟨by rfl, fun w9 hSw => ?_⟩) hHeld ?_
      · go_simp
        kernel_rfl
      simp only [List.getElem_toArray, List.getElem_cons_succ, List.getElem_cons_zero, Act.put, List.setIfInBounds_toArray, List.set_cons_zero, List.set_cons_succ]
      refine wpAnyH_ready (rs := [6]) (by kernel_rfl) (by simp) ?_
      refine AllReadyH.cons rfl (fun K hK => ?_) AllReadyH.nil
      go_simp
      have hf := G3.out.fin (D := D)
      have hx9 : (fun w' : World => w'.heap[w.heap.size]? = some (.cells (Kc.vec 32 (Kc.byt D)) 33)) (U10.alloc (.cells (Kc.vec 43 (stF D 0 m10 m6 t9 0 (.slice none 0 0) (.slice none 0 0) (.slice none 0 0))) 101)) := (heap_alloc_old U10 _ (heap_lt hHeld)).trans hHeld
      have HF : Hid _ := hf
      clear hf
      refine hK.out _ _ hx9 (fun hHeld => ?_)
      clear hK K
      try simp only [List.getElem_toArray, List.getElem_cons_succ, List.getElem_cons_zero, Act.put, List.setIfInBounds_toArray, List.set_cons_zero, List.set_cons_succ]
      refine wpAnyH_take (i := 7) (v := .pointer (some ⟨U10.heap.size, 0, none⟩)) rfl (by kernel_rfl) (by kernel_rfl) (by kernel_rfl) (fun _ _ _ h => h) (Or.inl ⟨by rfl, fun w9 hSw => ?_⟩) hHeld ?_
      · go_simp
      simp only [List.getElem_toArray, List.getElem_cons_succ, List.getElem_cons_zero, Act.put, List.setIfInBounds_toArray, List.set_cons_zero, List.set_cons_succ]
      refine wpAnyH_done (by kernel_rfl) ?_ _
      simp only [noP]
      clear hHeld hx9
      go_wp2
      go_ret
      exact ⟨HF.out.1, _, rfl, HF.out.2⟩
  · have hC := newTrans_any (w := U0)
    go_simp
    refine Calls.mono hC ?_
    clear hC
    rintro e U11 ⟨hb, t11, ht, rfl, q0, q1, q2⟩
    have G1 : Hid _ := G0.out.add3 hb ht q0 q1 q2
    have hx : (fun w' : World => w'.heap[w.heap.size]? = some (.cells (Kc.vec 32 (Kc.byt D)) 33)) U11 := (hb.block _ (heap_lt hHeld)).trans hHeld
    clear hb ht q0 q1 q2
    refine hK.out _ _ hx (fun hHeld => ?_)
    clear hK K
    try simp only [List.getElem_toArray, List.getElem_cons_succ, List.getElem_cons_zero, Act.put, List.setIfInBounds_toArray, List.set_cons_zero, List.set_cons_succ]
    refine wpAnyH_ready (rs := [2, 3]) (by kernel_rfl) (by simp) ?_
    refine AllReadyH.cons rfl (fun K hK => ?_) (AllReadyH.cons rfl (fun K hK => ?_) AllReadyH.nil)
    · go_simp
      have G2 : Hid _ := G1.out.add1
      have hx : (fun w' : World => w'.heap[w.heap.size]? = some (.cells (Kc.vec 32 (Kc.byt D)) 33)) (U11.alloc (.map #[] 0)) := (heap_alloc_old U11 _ (heap_lt hHeld)).trans hHeld
      obtain ⟨m12, hm12⟩ : ∃ m12, m12 = U11.heap.size := ⟨_, rfl⟩
      rw [← hm12] at G2 ⊢
      clear hm12
      generalize U11.alloc (.map #[] 0) = U12 at G2 hx ⊢
      refine hK.out _ _ hx (fun hHeld => ?_)
      clear hK K
      try simp only [List.getElem_toArray, List.getElem_cons_succ, List.getElem_cons_zero, Act.put, List.setIfInBounds_toArray, List.set_cons_zero, List.set_cons_succ]
      refine wpAnyH_ready (rs := [3]) (by kernel_rfl) (by simp) ?_
      refine AllReadyH.cons rfl (fun K hK => ?_) AllReadyH.nil
      go_simp
      have G3 : Hid _ := G2.out.add2
      have hx : (fun w' : World => w'.heap[w.heap.size]? = some (.cells (Kc.vec 32 (Kc.byt D)) 33)) (U12.alloc (.map #[] 0)) := (heap_alloc_old U12 _ (heap_lt hHeld)).trans hHeld
      obtain ⟨m13, hm13⟩ : ∃ m13, m13 = U12.heap.size := ⟨_, rfl⟩
      rw [← hm13] at G3 ⊢
      clear hm13
      generalize U12.alloc (.map #[] 0) = U13 at G3 hx ⊢
      refine hK.out _ _ hx (fun hHeld => ?_)
      clear hK K
      try simp only [List.getElem_toArray, List.getElem_cons_succ, List.getElem_cons_zero, Act.put, List.setIfInBounds_toArray, List.set_cons_zero, List.set_cons_succ]
      refine wpAnyH_take (i := 5) (v := .agg (Kc.vec 43 (stF D 0 m12 m13 t11 0 (.slice none 0 0) (.slice none 0 0) (.slice none 0 0)))) rfl (by kernel_rfl) (by kernel_rfl) (by kernel_rfl) (fun _ _ _ h => h) (Or.inl ⟨by rfl, fun w9 hSw => ?_⟩) hHeld ?_
      · go_simp
        kernel_rfl
      simp only [List.getElem_toArray, List.getElem_cons_succ, List.getElem_cons_zero, Act.put, List.setIfInBounds_toArray, List.set_cons_zero, List.set_cons_succ]
      refine wpAnyH_ready (rs := [6]) (by kernel_rfl) (by simp) ?_
      refine AllReadyH.cons rfl (fun K hK => ?_) AllReadyH.nil
      go_simp
      have hf := G3.out.fin (D := D)
      have hx9 : (fun w' : World => w'.heap[w.heap.size]? = some (.cells (Kc.vec 32 (Kc.byt D)) 33)) (U13.alloc (.cells (Kc.vec 43 (stF D 0 m12 m13 t11 0 (.slice none 0 0) (.slice none 0 0) (.slice none 0 0))) 101)) := (heap_alloc_old U13 _ (heap_lt hHeld)).trans hHeld
      have HF : Hid _ := hf
      clear hf
      refine hK.out _ _ hx9 (fun hHeld => ?_)
      clear hK K
      try simp only [List.getElem_toArray, List.getElem_cons_succ, List.getElem_cons_zero, Act.put, List.setIfInBounds_toArray, List.set_cons_zero, List.set_cons_succ]
      refine wpAnyH_take (i := 7) (v := .pointer (some ⟨U13.heap.size, 0, none⟩)) rfl (by kernel_rfl) (by kernel_rfl) (by kernel_rfl) (fun _ _ _ h => h) (Or.inl ⟨by rfl, fun w9 hSw => ?_⟩) hHeld ?_
      · go_simp
      simp only [List.getElem_toArray, List.getElem_cons_succ, List.getElem_cons_zero, Act.put, List.setIfInBounds_toArray, List.set_cons_zero, List.set_cons_succ]
      refine wpAnyH_done (by kernel_rfl) ?_ _
      simp only [noP]
      clear hHeld hx9
      go_wp2
      go_ret
      exact ⟨HF.out.1, _, rfl, HF.out.2⟩
    · go_simp
      have G2 : Hid _ := G1.out.add2
      have hx : (fun w' : World => w'.heap[w.heap.size]? = some (.cells (Kc.vec 32 (Kc.byt D)) 33)) (U11.alloc (.map #[] 0)) := (heap_alloc_old U11 _ (heap_lt hHeld)).trans hHeld
      obtain ⟨m14, hm14⟩ : ∃ m14, m14 = U11.heap.size := ⟨_, rfl⟩
      rw [← hm14] at G2 ⊢
      clear hm14
      generalize U11.alloc (.map #[] 0) = U14 at G2 hx ⊢
      refine hK.out _ _ hx (fun hHeld => ?_)
      clear hK K
      try simp only [List.getElem_toArray, List.getElem_cons_succ, List.getElem_cons_zero, Act.put, List.setIfInBounds_toArray, List.set_cons_zero, List.set_cons_succ]
      refine wpAnyH_ready (rs := [2]) (by kernel_rfl) (by simp) ?_
      refine AllReadyH.cons rfl (fun K hK => ?_) AllReadyH.nil
      go_simp
      have G3 : Hid _ := G2.out.add1
      have hx : (fun w' : World => w'.heap[w.heap.size]? = some (.cells (Kc.vec 32 (Kc.byt D)) 33)) (U14.alloc (.map #[] 0)) := (heap_alloc_old U14 _ (heap_lt hHeld)).trans hHeld
      obtain ⟨m15, hm15⟩ : ∃ m15, m15 = U14.heap.size := ⟨_, rfl⟩
      rw [← hm15] at G3 ⊢
      clear hm15
      generalize U14.alloc (.map #[] 0) = U15 at G3 hx ⊢
      refine hK.out _ _ hx (fun hHeld => ?_)
      clear hK K
      try simp only [List.getElem_toArray, List.getElem_cons_succ, List.getElem_cons_zero, Act.put, List.setIfInBounds_toArray, List.set_cons_zero, List.set_cons_succ]
      refine wpAnyH_take (i := 5) (v := .agg (Kc.vec 43 (stF D 0 m15 m14 t11 0 (.slice none 0 0) (.slice none 0 0) (.slice none 0 0)))) rfl (by kernel_rfl) (by kernel_rfl) (by kernel_rfl) (fun _ _ _ h => h) (Or.inl ⟨by rfl, fun w9 hSw => ?_⟩) hHeld ?_
      · go_simp
        kernel_rfl
      simp only [List.getElem_toArray, List.getElem_cons_succ, List.getElem_cons_zero, Act.put, List.setIfInBounds_toArray, List.set_cons_zero, List.set_cons_succ]
      refine wpAnyH_ready (rs := [6]) (by kernel_rfl) (by simp) ?_
      refine AllReadyH.cons rfl (fun K hK => ?_) AllReadyH.nil
      go_simp
      have hf := G3.out.fin (D := D)
      have hx9 : (fun w' : World => w'.heap[w.heap.size]? = some (.cells (Kc.vec 32 (Kc.byt D)) 33)) (U15.alloc (.cells (Kc.vec 43 (stF D 0 m15 m14 t11 0 (.slice none 0 0) (.slice none 0 0) (.slice none 0 0))) 101)) := (heap_alloc_old U15 _ (heap_lt hHeld)).trans hHeld
      have HF : Hid _ := hf
      clear hf
      refine hK.out _ _ hx9 (fun hHeld => ?_)
      clear hK K
      try simp only [List.getElem_toArray, List.getElem_cons_succ, List.getElem_cons_zero, Act.put, List.setIfInBounds_toArray, List.set_cons_zero, List.set_cons_succ]
      refine wpAnyH_take (i := 7) (v := .pointer (some ⟨U15.heap.size, 0, none⟩)) rfl (by kernel_rfl) (by kernel_rfl) (by kernel_rfl) (fun _ _ _ h => h) (Or.inl ⟨by rfl, fun w9 hSw => ?_⟩) hHeld ?_
      · go_simp
      simp only [List.getElem_toArray, List.getElem_cons_succ, List.getElem_cons_zero, Act.put, List.setIfInBounds_toArray, List.set_cons_zero, List.set_cons_succ]
      refine wpAnyH_done (by kernel_rfl) ?_ _
      simp only [noP]
      clear hHeld hx9
      go_wp2
      go_ret
      exact ⟨HF.out.1, _, rfl, HF.out.2⟩
end Go.Proofs.YtboeokmaepchgaaGreatDoor
/- state: find in an empty tree. -/
namespace Go.Proofs.YtboeokmaepchgaaGreatDoor
open Go.RowKit Go.Maps Go.Joins Go.Shelf
set_option linter.unusedSimpArgs false
set_option linter.unusedVariables false
/-- The bytes of a row. -/
def rwB (n : Nat) (H : Nat → BitVec 8) : List Int := (List.range n).map fun j => Kc.I8 (H j)
theorem rwB_length (n : Nat) (H : Nat → BitVec 8) : (rwB n H).length = n := by simp [rwB]
theorem rwB_byt (n : Nat) (H : Nat → BitVec 8) : Byt (rwB n H) := fun c hc => by
  obtain ⟨j, _, rfl⟩ := List.mem_map.1 hc
  exact Kc.I8_bd _
theorem rwB_v {w : World} {b n t : Nat} {H : Nat → BitVec 8} (h : w.heap[b]? = some (.cells (Kc.vec n (Kc.byt H)) t)) : BytesV w (.slice (some ⟨b, 0, none⟩) n n) (rwB n H) := by
  refine Or.inr ⟨⟨b, 0, none⟩, n, by rw [rwB_length], fun j u hu => ?_⟩
  have hj : j < n := by
    have := (List.getElem?_eq_some_iff.1 hu).1
    rw [vB_length, rwB_length] at this
    exact this
  rw [Addr.add_lit, Nat.zero_add, cell_of_block h j, Kc.get_vec n _ j hj]
  have : (vB (rwB n H))[j]? = some (.int .u8 (Kc.I8 (H j))) := by simp [vB, rwB, hj]
  rw [this] at hu
  exact hu
theorem st_cell {w : World} {b : Nat} {f : Nat → Value} (h : w.heap[b]? = some (.cells (Kc.vec 43 f) 101)) (j : Nat) (hj : j < 43) : w.cell? ⟨b, j, none⟩ = some (f j) := (cell_of_block h j).trans (Kc.get_vec 43 f j hj)
set_option maxRecDepth 100000 in
set_option maxHeartbeats 16000000 in
/-- find in an empty tree -/
theorem sfind_empty {w : World} {b : Nat} {D : Nat → BitVec 8} {m1 m2 t : Nat} {rf : Int} {lg jr sn : Value} {a : Option Addr} {c : Nat} {bs : List Int} (hD : D = Kc.digest (Kc.mB Kc.eM) 1) (hp : Kc.PathIn w) (hst : w.heap[b]? = some (.cells (Kc.vec 43 (stF D 0 m1 m2 t rf lg jr sn)) 101)) (hb : BytesV w (.slice a bs.length c) bs) (hby : Byt bs) (hbc : bs.length ≤ c) (hcm : c ≤ 9223372036854775807) (hbl : bs.length ≤ 1000) :
    Calls Tryz.prog 70 #[.pointer (some ⟨b, 0, none⟩), .agg (Kc.vec 32 (Kc.byt D)), .slice a bs.length c] w fun e w' => e = .returned (.slice none 0 0) ∧ Below w.heap.size w w' := by
  have hB0 : Below w.heap.size w (w.alloc (.cells (Kc.vec 32 (Kc.byt D)) 33)) := by go_grown
  have HP : Hid (Kc.PathIn w ∧ 1 < w.heap.size ∧ D = Kc.digest (Kc.mB Kc.eM) 1) := ⟨hp, Kc.pathIn_pos hp, hD⟩
  have hS := sum_b (hp.below hB0 (Kc.pathIn_pos hp)) (hb.below hB0) hby hbc hcm (by omega)
  obtain ⟨H, hH⟩ : ∃ H, H = Kc.digest (Kc.mB bs) bs.length := ⟨_, rfl⟩
  rw [← hH] at hS
  have HS : Hid _ := hS
  have H0 : Hid (Below w.heap.size w (w.alloc (.cells (Kc.vec 32 (Kc.byt D)) 33)) ∧ (w.alloc (.cells (Kc.vec 32 (Kc.byt D)) 33)).heap[b]? = some (.cells (Kc.vec 43 (stF D 0 m1 m2 t rf lg jr sn)) 101) ∧ (w.alloc (.cells (Kc.vec 32 (Kc.byt D)) 33)).heap[w.heap.size]? = some (.cells (Kc.vec 32 (Kc.byt D)) 33)) := ⟨hB0, (hB0.block b (heap_lt hst)).trans hst, heap_alloc_new _ _⟩
  obtain ⟨n, hn⟩ : ∃ n, n = bs.length := ⟨_, rfl⟩
  rw [← hn] at HS ⊢
  clear hD hp hst hb hby hbc hcm hbl hB0 hS hH hn
  go_enter Tryz.func70, Tryz.ntmps70
  go_wp2_with fail
  generalize w.alloc (.cells (Kc.vec 32 (Kc.byt D)) 33) = W0 at H0 HS ⊢
  refine Calls.mono HS.out ?_
  rintro e W1 ⟨rfl, hb1⟩
  have hA : Below W1.heap.size W1 (W1.alloc (.cells (Kc.vec 32 (Kc.byt H)) 33)) := by go_grown
  have hb01 : Below w.heap.size w W1 := H0.out.1.trans (hb1.mono H0.out.1.size)
  have H1 : Hid (Below w.heap.size w (W1.alloc (.cells (Kc.vec 32 (Kc.byt H)) 33)) ∧ (W1.alloc (.cells (Kc.vec 32 (Kc.byt H)) 33)).heap[b]? = some (.cells (Kc.vec 43 (stF D 0 m1 m2 t rf lg jr sn)) 101) ∧ (W1.alloc (.cells (Kc.vec 32 (Kc.byt H)) 33)).heap[w.heap.size]? = some (.cells (Kc.vec 32 (Kc.byt D)) 33) ∧ (W1.alloc (.cells (Kc.vec 32 (Kc.byt H)) 33)).heap[W1.heap.size]? = some (.cells (Kc.vec 32 (Kc.byt H)) 33)) := ⟨hb01.trans (hA.mono hb01.size), (hA.block _ (Nat.lt_of_lt_of_le (heap_lt H0.out.2.1) hb1.size)).trans ((hb1.block _ (heap_lt H0.out.2.1)).trans H0.out.2.1), (hA.block _ (Nat.lt_of_lt_of_le (heap_lt H0.out.2.2) hb1.size)).trans ((hb1.block _ (heap_lt H0.out.2.2)).trans H0.out.2.2), heap_alloc_new _ _⟩
  clear hA hb01 hb1 H0 HS
  go_wp2_with (first | (refine wpList_store_row rfl 33 _ _ rfl W1.heap.size (Kc.vec 32 (Kc.byt H)) rfl rfl 33 _ (heap_alloc_new _ _) (Kc.info29v _) rfl (Kc.one_byt _ _) ?_; rw [World.setRow_alloc_new]))
  obtain ⟨kb, hkb⟩ : ∃ kb, kb = W1.heap.size := ⟨_, rfl⟩
  rw [← hkb] at H1 ⊢
  clear hkb
  generalize W1.alloc (.cells (Kc.vec 32 (Kc.byt H)) 33) = W2 at H1 ⊢
  refine wp_noP ?_
  refine wp_region_held_drew (S := (fun w' : World => w'.heap[b]? = some (.cells (Kc.vec 43 (stF D 0 m1 m2 t rf lg jr sn)) 101) ∧ w'.heap[w.heap.size]? = some (.cells (Kc.vec 32 (Kc.byt D)) 33) ∧ w'.heap[kb]? = some (.cells (Kc.vec 32 (Kc.byt H)) 33))) (by kernel_rfl) ⟨H1.out.2.1, H1.out.2.2.1, H1.out.2.2.2⟩ (fun hHeld => ?_)
  have G0 : Hid (Below w.heap.size w W2.drew) := ⟨H1.out.1.os, H1.out.1.tape, H1.out.1.output, H1.out.1.size, H1.out.1.block⟩
  clear H1
  generalize W2.drew = U0 at G0 hHeld ⊢
  refine wpAnyH_take (i := 0) (v := .agg (Kc.vec 32 (Kc.byt D))) rfl (by kernel_rfl) (by kernel_rfl) (by kernel_rfl) (fun _ _ _ h => h) (Or.inl ⟨by rfl, fun w9 hSw => ?_⟩) hHeld ?_
  · exact Kc.run_load_exec 33 _ rfl _ rfl (load33 hSw.2.1)
  simp only [List.getElem_toArray, List.getElem_cons_succ, List.getElem_cons_zero, Act.put, List.setIfInBounds_toArray, List.set_cons_zero, List.set_cons_succ]
  refine wpAnyH_take (i := 1) (v := .pointer (some ⟨b, 0, none⟩)) rfl (by kernel_rfl) (by kernel_rfl) (by kernel_rfl) (fun _ _ _ h => h) (Or.inl ⟨by rfl, fun w9 hSw => ?_⟩) hHeld ?_
  · go_simp
  simp only [List.getElem_toArray, List.getElem_cons_succ, List.getElem_cons_zero, Act.put, List.setIfInBounds_toArray, List.set_cons_zero, List.set_cons_succ]
  refine wpAnyH_take (i := 2) (v := .pointer (some ⟨b, 0, none⟩)) rfl (by kernel_rfl) (by kernel_rfl) (by kernel_rfl) (fun _ _ _ h => h) (Or.inl ⟨by rfl, fun w9 hSw => ?_⟩) hHeld ?_
  · go_simp
  simp only [List.getElem_toArray, List.getElem_cons_succ, List.getElem_cons_zero, Act.put, List.setIfInBounds_toArray, List.set_cons_zero, List.set_cons_succ]
  refine wpAnyH_take (i := 3) (v := .pointer (some ⟨b, 32, none⟩)) rfl (by kernel_rfl) (by kernel_rfl) (by kernel_rfl) (fun _ _ _ h => h) (Or.inl ⟨by rfl, fun w9 hSw => ?_⟩) hHeld ?_
  · go_simp
  simp only [List.getElem_toArray, List.getElem_cons_succ, List.getElem_cons_zero, Act.put, List.setIfInBounds_toArray, List.set_cons_zero, List.set_cons_succ]
  refine wpAnyH_take (i := 4) (v := .nilFunc) rfl (by kernel_rfl) (by kernel_rfl) (by kernel_rfl) (fun _ _ _ h => h) (Or.inl ⟨by rfl, fun w9 hSw => ?_⟩) hHeld ?_
  · have k0 : w9.cell? ⟨b, 32, none⟩ = some .nilFunc := st_cell hSw.1 32 (by decide)
    go_simp
  simp only [List.getElem_toArray, List.getElem_cons_succ, List.getElem_cons_zero, Act.put, List.setIfInBounds_toArray, List.set_cons_zero, List.set_cons_succ]
  refine wpAnyH_take (i := 6) (v := .slice (some ⟨kb, 0, none⟩) 32 32) rfl (by kernel_rfl) (by kernel_rfl) (by kernel_rfl) (fun _ _ _ h => h) (Or.inl ⟨by rfl, fun w9 hSw => ?_⟩) hHeld ?_
  · go_simp
  simp only [List.getElem_toArray, List.getElem_cons_succ, List.getElem_cons_zero, Act.put, List.setIfInBounds_toArray, List.set_cons_zero, List.set_cons_succ]
  refine wpAnyH_ready (rs := [5]) (by kernel_rfl) (by simp) ?_
  refine AllReadyH.cons rfl (fun K hK => ?_) AllReadyH.nil
  have hC := open_any (w := U0) D HP.out.2.2 (HP.out.1.below G0.out HP.out.2.1)
  go_simp
  refine Calls.mono hC ?_
  clear hC
  rintro e U1 ⟨tb, rfl, htb, ht1, hb1⟩
  have G1 : Hid (Below w.heap.size w U1 ∧ U1.heap[tb]? = some (.cells #[.nilIface, .nilFunc] 78)) := ⟨G0.out.trans (hb1.mono G0.out.size), ht1⟩
  have hx1 : (fun w' : World => w'.heap[b]? = some (.cells (Kc.vec 43 (stF D 0 m1 m2 t rf lg jr sn)) 101) ∧ w'.heap[w.heap.size]? = some (.cells (Kc.vec 32 (Kc.byt D)) 33) ∧ w'.heap[kb]? = some (.cells (Kc.vec 32 (Kc.byt H)) 33)) U1 := ⟨(hb1.block _ (heap_lt hHeld.1)).trans hHeld.1, (hb1.block _ (heap_lt hHeld.2.1)).trans hHeld.2.1, (hb1.block _ (heap_lt hHeld.2.2)).trans hHeld.2.2⟩
  clear hb1 ht1 htb G0
  refine hK.out _ _ hx1 (fun hHeld => ?_)
  clear hK K
  try simp only [List.getElem_toArray, List.getElem_cons_succ, List.getElem_cons_zero, Act.put, List.setIfInBounds_toArray, List.set_cons_zero, List.set_cons_succ]
  refine wpAnyH_ready (rs := [7]) (by kernel_rfl) (by simp) ?_
  refine AllReadyH.cons rfl (fun K hK => ?_) AllReadyH.nil
  have hC := get_empty (w := U1) (b := tb) (ak := some ⟨kb, 0, none⟩) (ck := 32) (ks := rwB 32 H) G1.out.2 (by rw [rwB_length]; exact rwB_v hHeld.2.2) (rwB_byt _ _) (by rw [rwB_length]; decide)
  rw [rwB_length] at hC
  go_simp
  refine Calls.mono hC ?_
  clear hC
  rintro e U2 ⟨rfl, hb2⟩
  have G2 : Hid (Below w.heap.size w U2) := G1.out.1.trans (hb2.mono G1.out.1.size)
  have hx2 : (fun w' : World => w'.heap[b]? = some (.cells (Kc.vec 43 (stF D 0 m1 m2 t rf lg jr sn)) 101) ∧ w'.heap[w.heap.size]? = some (.cells (Kc.vec 32 (Kc.byt D)) 33) ∧ w'.heap[kb]? = some (.cells (Kc.vec 32 (Kc.byt H)) 33)) U2 := ⟨(hb2.block _ (heap_lt hHeld.1)).trans hHeld.1, (hb2.block _ (heap_lt hHeld.2.1)).trans hHeld.2.1, (hb2.block _ (heap_lt hHeld.2.2)).trans hHeld.2.2⟩
  clear hb2 G1 hx1
  refine hK.out _ _ hx2 (fun hHeld => ?_)
  clear hK K
  try simp only [List.getElem_toArray, List.getElem_cons_succ, List.getElem_cons_zero, Act.put, List.setIfInBounds_toArray, List.set_cons_zero, List.set_cons_succ]
  refine wpAnyH_take (i := 8) (v := .tuple #[.slice none 0 0, .bool false, .int .i64 0]) rfl (by kernel_rfl) (by kernel_rfl) (by kernel_rfl) (fun _ _ _ h => h) (Or.inl ⟨by rfl, fun w9 hSw => ?_⟩) hHeld ?_
  · go_simp
  simp only [List.getElem_toArray, List.getElem_cons_succ, List.getElem_cons_zero, Act.put, List.setIfInBounds_toArray, List.set_cons_zero, List.set_cons_succ]
  refine wpAnyH_take (i := 9) (v := .slice none 0 0) rfl (by kernel_rfl) (by kernel_rfl) (by kernel_rfl) (fun _ _ _ h => h) (Or.inl ⟨by rfl, fun w9 hSw => ?_⟩) hHeld ?_
  · go_simp
  simp only [List.getElem_toArray, List.getElem_cons_succ, List.getElem_cons_zero, Act.put, List.setIfInBounds_toArray, List.set_cons_zero, List.set_cons_succ]
  refine wpAnyH_take (i := 10) (v := .bool false) rfl (by kernel_rfl) (by kernel_rfl) (by kernel_rfl) (fun _ _ _ h => h) (Or.inl ⟨by rfl, fun w9 hSw => ?_⟩) hHeld ?_
  · go_simp
  simp only [List.getElem_toArray, List.getElem_cons_succ, List.getElem_cons_zero, Act.put, List.setIfInBounds_toArray, List.set_cons_zero, List.set_cons_succ]
  refine wpAnyH_take (i := 11) (v := .int .i64 0) rfl (by kernel_rfl) (by kernel_rfl) (by kernel_rfl) (fun _ _ _ h => h) (Or.inl ⟨by rfl, fun w9 hSw => ?_⟩) hHeld ?_
  · go_simp
  simp only [List.getElem_toArray, List.getElem_cons_succ, List.getElem_cons_zero, Act.put, List.setIfInBounds_toArray, List.set_cons_zero, List.set_cons_succ]
  refine wpAnyH_take (i := 12) (v := .slice none 0 0) rfl (by kernel_rfl) (by kernel_rfl) (by kernel_rfl) (fun _ _ _ h => h) (Or.inl ⟨by rfl, fun w9 hSw => ?_⟩) hHeld ?_
  · go_simp
  simp only [List.getElem_toArray, List.getElem_cons_succ, List.getElem_cons_zero, Act.put, List.setIfInBounds_toArray, List.set_cons_zero, List.set_cons_succ]
  refine wpAnyH_take (i := 13) (v := .bool false) rfl (by kernel_rfl) (by kernel_rfl) (by kernel_rfl) (fun _ _ _ h => h) (Or.inl ⟨by rfl, fun w9 hSw => ?_⟩) hHeld ?_
  · go_simp
  simp only [List.getElem_toArray, List.getElem_cons_succ, List.getElem_cons_zero, Act.put, List.setIfInBounds_toArray, List.set_cons_zero, List.set_cons_succ]
  refine wpAnyH_take (i := 14) (v := .int .i64 0) rfl (by kernel_rfl) (by kernel_rfl) (by kernel_rfl) (fun _ _ _ h => h) (Or.inl ⟨by rfl, fun w9 hSw => ?_⟩) hHeld ?_
  · go_simp
  simp only [List.getElem_toArray, List.getElem_cons_succ, List.getElem_cons_zero, Act.put, List.setIfInBounds_toArray, List.set_cons_zero, List.set_cons_succ]
  refine wpAnyH_done (by kernel_rfl) ?_ _
  simp only [noP]
  clear hHeld hx2
  go_wp2
  go_ret
  exact ⟨rfl, G2.out⟩
end Go.Proofs.YtboeokmaepchgaaGreatDoor
