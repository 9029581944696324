/- net: the reference's Set, carried out. -/
import Derived.Test.YtemapnfbmhjlbaaRF
namespace Go.Proofs.Ytemapnfbmhjlbaa
open Go.RowKit Go.Maps Go.Joins
set_option linter.unusedSimpArgs false
set_option linter.unusedVariables false
/-- The two operations that may come up. -/
theorem wpAnyX_two {P : Program} {ops : Array Oper} {Q : Exit → Act → World → Prop} {md : Region.Mode} {S : World → Prop} {X : Nat → Bool} {i j : Nat} {o p : Oper} {fuel : Nat} {listed : Array Bool} {a : Act} {w : World} (hr : Region.ready md ops listed = [i, j]) (ho : ops[i]? = some o) (hp : ops[j]? = some p) (hw : Region.wanted o (yielded ops a.tmps) = true) (hv : Region.wanted p (yielded ops a.tmps) = true)
    (h : ∀ K' : Act → World → Prop, Hid (∀ a w, (X i = true ∨ S w) → wpAnyX P md ops Q S X fuel (listed.setIfInBounds i true) a w → K' a w) → Oper.wp P o a w K' Q)
    (k : ∀ K' : Act → World → Prop, Hid (∀ a w, (X j = true ∨ S w) → wpAnyX P md ops Q S X fuel (listed.setIfInBounds j true) a w → K' a w) → Oper.wp P p a w K' Q) : wpAnyX P md ops Q S X (fuel + 1) listed a w := by
  refine ⟨fun h0 => (by rw [hr] at h0; cases h0), fun x hx => ?_⟩
  rw [hr] at hx
  rcases List.mem_cons.1 hx with rfl | hx
  · unfold wpOp
    rw [ho]
    simp only [hw, if_true]
    exact Or.inl (h _ (fun a w hS hW => ⟨hS, hW⟩))
  · rcases List.mem_singleton.1 hx with rfl
    unfold wpOp
    rw [hp]
    simp only [hv, if_true]
    exact Or.inl (k _ (fun a w hS hW => ⟨hS, hW⟩))
theorem empty92 (w : World) : (w.alloc (.cells #[] 92)).ownsRow 0 92 3 (.slice (some ⟨w.heap.size, 0, none⟩) 0 0) 0 [] := rowz elU.empty
set_option maxRecDepth 100000 in
set_option maxHeartbeats 16000000 in
theorem rset_nil {w : World} {b : Nat} {N : RS} (h : RIs w b N) (ho : ROk N) (hs : Asc N.tm) (node tag delay : Int) (hn : isB N.nodes node = true) (hd : 0 ≤ delay) (hl : ¬ 1099511627776 - N.clk < delay) (ht : N.tm.length < 4096) (hz : N.tm.length = 0) (hv : N.tv = .slice none 0 0) :
    Calls Try.prog 19 #[.pointer (some ⟨b, 0, none⟩), .int .i64 node, .int .i64 tag, .int .i64 delay] w fun e w' => RtR w b N (0, { absR N with tm := insT N.tm ⟨node, tag, N.clk + delay⟩ }) e w' := by
  have hnot : ∀ (x : Bool) (w : World), (Op.unary .not (.bool x)).run Try.prog w = .ok (.bool (!x)) w := fun _ _ => rfl
  have HD0 : Hid _ := node_any h node
  have HN1 : Hid (isB N.nodes node = true) := hn
  have c2 := h.cells.2.2.1
  have c4 := h.cells.2.2.2.2
  obtain ⟨ta, tc, htv, hnil, htc, hg0, hcells⟩ := h.tmv
  rw [htv] at c4
  have hck := ho.ck
  have hb := h.lt
  obtain ⟨n, hnn⟩ : ∃ n, n = N.tm.length := ⟨_, rfl⟩
  rw [← hnn] at c4 htc hnil htv ht
  obtain ⟨C, hC⟩ : ∃ C, C = N.clk := ⟨_, rfl⟩
  rw [← hC] at c2 hck hl
  obtain ⟨T, hT⟩ : ∃ T, T = C + delay := ⟨_, rfl⟩
  have HAB : Hid (insT N.tm ⟨node, tag, N.clk + delay⟩ = insT N.tm ⟨node, tag, T⟩) := by rw [hT, hC]; exact rfl
  have HTC : Hid (T = C + delay) := hT
  have hz' : n = 0 := by omega
  subst hz'
  have e1 : ta = none ∧ tc = 0 := by rw [htv] at hv; injection hv with a _ c; exact ⟨a, c⟩
  obtain ⟨rfl, rfl⟩ := e1
  have HS : Hid (RIs w b N ∧ N.tv = .slice none 0 0 ∧ 0 = N.tm.length ∧ (∀ j u, (tmL N.tm)[j]? = some u → ∃ g o, (none : Option Addr) = some ⟨g, o, none⟩ ∧ w.cell? ⟨g, o + j, none⟩ = some u) ∧ True) := ⟨h, htv, hnn, hcells, trivial⟩
  have HT : Hid (slot N.tm T = 0) := by
    have hnl : N.tm = [] := List.eq_nil_of_length_eq_zero hz
    rw [hnl]
    exact rfl
  clear h ho hs hn hnn hC hT hcells htv hnil htc hg0 hz hv
  go_enter Try.func19, Try.ntmps19
  go_wp2_with (go_at_call 31; refine Calls.mono HD0.out ?_; rintro e w1 ⟨rfl, hw1⟩; obtain rfl : w = w1 := hw1.symm; rw [HN1.out]; clear HD0)
  have hTC := HTC.out
  rw [← hTC]
  obtain ⟨W, hW⟩ : ∃ W, W = w.alloc (.cells #[.int .i64 node, .int .i64 tag, .int .i64 T] 92) := ⟨_, rfl⟩
  obtain ⟨xb, hxb⟩ : ∃ xb, xb = w.heap.size := ⟨_, rfl⟩
  have HB : Hid (Below w.heap.size w W ∧ W.heap[xb]? = some (.cells #[.int .i64 node, .int .i64 tag, .int .i64 T] 92)) := by rw [hW, hxb]; exact ⟨(Below.refl _ w).alloc (Nat.le_refl _) _, heap_alloc_new _ _⟩
  have c4W : W.cell? ⟨b, 4, none⟩ = some (.slice none 0 0) := (HB.out.1.cell hb).trans c4
  rw [← hW, ← hxb]
  clear hW hxb hTC c4
  go_loopw [10] (fun i wr => i = .int .i64 0 ∧ Hid (Below w.heap.size w wr ∧ wr.heap[xb]? = some (.cells #[.int .i64 node, .int .i64 tag, .int .i64 T] 92))) (fun _ _ => 0)
  case atStart => exact ⟨rfl, HB.out⟩
  case round =>
    clear HB c4W
    obtain ⟨rfl, HB⟩ := hrel
    go_wp2_with fail
    refine wp_region_X (fun _ => false) (S := fun _ => True) (by kernel_rfl) trivial (fun hHeld => ?_)
    refine wpAnyX_take (i := 0) (v := .int .i64 0) rfl (by kernel_rfl) (by kernel_rfl) (by kernel_rfl) (by kernel_rfl) (fun _ _ _ h => h) (Or.inl ⟨by rfl, fun w9 hSw => ?_⟩) hHeld ?_
    · go_simp
    simp only [List.getElem_toArray, List.getElem_cons_succ, List.getElem_cons_zero, Act.put, List.setIfInBounds_toArray, List.set_cons_zero, List.set_cons_succ]
    refine wpAnyX_take (i := 1) (v := .bool false) rfl (by kernel_rfl) (by kernel_rfl) (by kernel_rfl) (by kernel_rfl) (fun _ _ _ h => h) (Or.inl ⟨by rfl, fun w9 hSw => ?_⟩) hHeld ?_
    · go_simp
    simp only [List.getElem_toArray, List.getElem_cons_succ, List.getElem_cons_zero, Act.put, List.setIfInBounds_toArray, List.set_cons_zero, List.set_cons_succ]
    refine wpAnyX_take (i := 2) (v := .bool false) rfl (by kernel_rfl) (by kernel_rfl) (by kernel_rfl) (by kernel_rfl) (fun _ _ _ h => h) (Or.inl ⟨by rfl, fun w9 hSw => ?_⟩) hHeld ?_
    · go_simp
    simp only [List.getElem_toArray, List.getElem_cons_succ, List.getElem_cons_zero, Act.put, List.setIfInBounds_toArray, List.set_cons_zero, List.set_cons_succ]
    refine wpAnyX_take (i := 3) (v := undef) rfl (by kernel_rfl) (by kernel_rfl) (by kernel_rfl) (by kernel_rfl) (fun _ _ _ h => h) (Or.inr ⟨by rfl, rfl⟩) hHeld ?_
    simp only [List.getElem_toArray, List.getElem_cons_succ, List.getElem_cons_zero, Act.put, List.setIfInBounds_toArray, List.set_cons_zero, List.set_cons_succ]
    refine wpAnyX_take (i := 4) (v := undef) rfl (by kernel_rfl) (by kernel_rfl) (by kernel_rfl) (by kernel_rfl) (fun _ _ _ h => h) (Or.inr ⟨by rfl, rfl⟩) hHeld ?_
    simp only [List.getElem_toArray, List.getElem_cons_succ, List.getElem_cons_zero, Act.put, List.setIfInBounds_toArray, List.set_cons_zero, List.set_cons_succ]
    refine wpAnyX_take (i := 5) (v := undef) rfl (by kernel_rfl) (by kernel_rfl) (by kernel_rfl) (by kernel_rfl) (fun _ _ _ h => h) (Or.inr ⟨by rfl, rfl⟩) hHeld ?_
    simp only [List.getElem_toArray, List.getElem_cons_succ, List.getElem_cons_zero, Act.put, List.setIfInBounds_toArray, List.set_cons_zero, List.set_cons_succ]
    refine wpAnyX_take (i := 6) (v := undef) rfl (by kernel_rfl) (by kernel_rfl) (by kernel_rfl) (by kernel_rfl) (fun _ _ _ h => h) (Or.inr ⟨by rfl, rfl⟩) hHeld ?_
    simp only [List.getElem_toArray, List.getElem_cons_succ, List.getElem_cons_zero, Act.put, List.setIfInBounds_toArray, List.set_cons_zero, List.set_cons_succ]
    refine wpAnyX_take (i := 7) (v := undef) rfl (by kernel_rfl) (by kernel_rfl) (by kernel_rfl) (by kernel_rfl) (fun _ _ _ h => h) (Or.inr ⟨by rfl, rfl⟩) hHeld ?_
    simp only [List.getElem_toArray, List.getElem_cons_succ, List.getElem_cons_zero, Act.put, List.setIfInBounds_toArray, List.set_cons_zero, List.set_cons_succ]
    refine wpAnyX_take (i := 8) (v := undef) rfl (by kernel_rfl) (by kernel_rfl) (by kernel_rfl) (by kernel_rfl) (fun _ _ _ h => h) (Or.inr ⟨by rfl, rfl⟩) hHeld ?_
    simp only [List.getElem_toArray, List.getElem_cons_succ, List.getElem_cons_zero, Act.put, List.setIfInBounds_toArray, List.set_cons_zero, List.set_cons_succ]
    refine wpAnyX_take (i := 9) (v := undef) rfl (by kernel_rfl) (by kernel_rfl) (by kernel_rfl) (by kernel_rfl) (fun _ _ _ h => h) (Or.inr ⟨by rfl, rfl⟩) hHeld ?_
    simp only [List.getElem_toArray, List.getElem_cons_succ, List.getElem_cons_zero, Act.put, List.setIfInBounds_toArray, List.set_cons_zero, List.set_cons_succ]
    refine wpAnyX_take (i := 10) (v := undef) rfl (by kernel_rfl) (by kernel_rfl) (by kernel_rfl) (by kernel_rfl) (fun _ _ _ h => h) (Or.inr ⟨by rfl, rfl⟩) hHeld ?_
    simp only [List.getElem_toArray, List.getElem_cons_succ, List.getElem_cons_zero, Act.put, List.setIfInBounds_toArray, List.set_cons_zero, List.set_cons_succ]
    refine wpAnyX_take (i := 11) (v := undef) rfl (by kernel_rfl) (by kernel_rfl) (by kernel_rfl) (by kernel_rfl) (fun _ _ _ h => h) (Or.inr ⟨by rfl, rfl⟩) hHeld ?_
    simp only [List.getElem_toArray, List.getElem_cons_succ, List.getElem_cons_zero, Act.put, List.setIfInBounds_toArray, List.set_cons_zero, List.set_cons_succ]
    refine wpAnyX_take (i := 12) (v := undef) rfl (by kernel_rfl) (by kernel_rfl) (by kernel_rfl) (by kernel_rfl) (fun _ _ _ h => h) (Or.inr ⟨by rfl, rfl⟩) hHeld ?_
    simp only [List.getElem_toArray, List.getElem_cons_succ, List.getElem_cons_zero, Act.put, List.setIfInBounds_toArray, List.set_cons_zero, List.set_cons_succ]
    refine wpAnyX_take (i := 13) (v := undef) rfl (by kernel_rfl) (by kernel_rfl) (by kernel_rfl) (by kernel_rfl) (fun _ _ _ h => h) (Or.inr ⟨by rfl, rfl⟩) hHeld ?_
    simp only [List.getElem_toArray, List.getElem_cons_succ, List.getElem_cons_zero, Act.put, List.setIfInBounds_toArray, List.set_cons_zero, List.set_cons_succ]
    refine wpAnyX_take (i := 14) (v := undef) rfl (by kernel_rfl) (by kernel_rfl) (by kernel_rfl) (by kernel_rfl) (fun _ _ _ h => h) (Or.inr ⟨by rfl, rfl⟩) hHeld ?_
    simp only [List.getElem_toArray, List.getElem_cons_succ, List.getElem_cons_zero, Act.put, List.setIfInBounds_toArray, List.set_cons_zero, List.set_cons_succ]
    refine wpAnyX_take (i := 15) (v := .bool false) rfl (by kernel_rfl) (by kernel_rfl) (by kernel_rfl) (by kernel_rfl) (fun _ _ _ h => h) (Or.inl ⟨by rfl, fun w9 hSw => ?_⟩) hHeld ?_
    · go_simp
    simp only [List.getElem_toArray, List.getElem_cons_succ, List.getElem_cons_zero, Act.put, List.setIfInBounds_toArray, List.set_cons_zero, List.set_cons_succ]
    refine wpAnyX_done (by kernel_rfl) ?_ _
    have HB2 : Hid (Below w.heap.size w wr.drew ∧ wr.drew.heap[xb]? = some (.cells #[.int .i64 node, .int .i64 tag, .int .i64 T] 92)) := ⟨HB.out.1.drew, HB.out.2⟩
    clear HB hHeld
    have HB := HB2
    clear HB2
    generalize wr.drew = wq at HB ⊢
    go_wp2_with fail
    have HG : Hid (RIs wq b N ∧ Below w.heap.size w wq ∧ wq.heap[xb]? = some (.cells #[.int .i64 node, .int .i64 tag, .int .i64 T] 92)) := ⟨HS.out.1.below HB.out.1, HB.out.1, HB.out.2⟩
    have hS0 : wq.cell? ⟨b, 4, none⟩ = some (.slice none 0 0) ∧ wq.heap[xb]? = some (.cells #[.int .i64 node, .int .i64 tag, .int .i64 T] 92) := ⟨HG.out.1.cells.2.2.2.2.trans (by rw [HS.out.2.1]), HG.out.2.2⟩
    go_wp2_with fail
    refine wp_region_X (fun j => j == 21) (S := fun w' => w'.cell? ⟨b, 4, none⟩ = some (.slice none 0 0) ∧ w'.heap[xb]? = some (.cells #[.int .i64 node, .int .i64 tag, .int .i64 T] 92)) (by kernel_rfl) hS0 (fun hHeld => ?_)
    refine wpAnyX_take (i := 0) (v := .pointer (some ⟨b, 0, none⟩)) rfl (by kernel_rfl) (by kernel_rfl) (by kernel_rfl) (by kernel_rfl) (fun _ _ _ h => h) (Or.inl ⟨by rfl, fun w9 hSw => ?_⟩) hHeld ?_
    · go_simp
    simp only [List.getElem_toArray, List.getElem_cons_succ, List.getElem_cons_zero, Act.put, List.setIfInBounds_toArray, List.set_cons_zero, List.set_cons_succ]
    refine wpAnyX_take (i := 2) (v := .pointer (some ⟨b, 0, none⟩)) rfl (by kernel_rfl) (by kernel_rfl) (by kernel_rfl) (by kernel_rfl) (fun _ _ _ h => h) (Or.inl ⟨by rfl, fun w9 hSw => ?_⟩) hHeld ?_
    · go_simp
    simp only [List.getElem_toArray, List.getElem_cons_succ, List.getElem_cons_zero, Act.put, List.setIfInBounds_toArray, List.set_cons_zero, List.set_cons_succ]
    refine wpAnyX_take (i := 3) (v := .pointer (some ⟨b, 0, none⟩)) rfl (by kernel_rfl) (by kernel_rfl) (by kernel_rfl) (by kernel_rfl) (fun _ _ _ h => h) (Or.inl ⟨by rfl, fun w9 hSw => ?_⟩) hHeld ?_
    · go_simp
    simp only [List.getElem_toArray, List.getElem_cons_succ, List.getElem_cons_zero, Act.put, List.setIfInBounds_toArray, List.set_cons_zero, List.set_cons_succ]
    refine wpAnyX_take (i := 4) (v := .pointer (some ⟨b, 4, none⟩)) rfl (by kernel_rfl) (by kernel_rfl) (by kernel_rfl) (by kernel_rfl) (fun _ _ _ h => h) (Or.inl ⟨by rfl, fun w9 hSw => ?_⟩) hHeld ?_
    · go_simp
    simp only [List.getElem_toArray, List.getElem_cons_succ, List.getElem_cons_zero, Act.put, List.setIfInBounds_toArray, List.set_cons_zero, List.set_cons_succ]
    refine wpAnyX_take (i := 5) (v := .slice none 0 0) rfl (by kernel_rfl) (by kernel_rfl) (by kernel_rfl) (by kernel_rfl) (fun _ _ _ h => h) (Or.inl ⟨by rfl, fun w9 hSw => ?_⟩) hHeld ?_
    · obtain ⟨hc, hx⟩ := hSw
      go_simp
    simp only [List.getElem_toArray, List.getElem_cons_succ, List.getElem_cons_zero, Act.put, List.setIfInBounds_toArray, List.set_cons_zero, List.set_cons_succ]
    refine wpAnyX_take (i := 6) (v := .int .i64 0) rfl (by kernel_rfl) (by kernel_rfl) (by kernel_rfl) (by kernel_rfl) (fun _ _ _ h => h) (Or.inl ⟨by rfl, fun w9 hSw => ?_⟩) hHeld ?_
    · go_simp
    simp only [List.getElem_toArray, List.getElem_cons_succ, List.getElem_cons_zero, Act.put, List.setIfInBounds_toArray, List.set_cons_zero, List.set_cons_succ]
    refine wpAnyX_take (i := 7) (v := .slice none 0 0) rfl (by kernel_rfl) (by kernel_rfl) (by kernel_rfl) (by kernel_rfl) (fun _ _ _ h => h) (Or.inl ⟨by rfl, fun w9 hSw => ?_⟩) hHeld ?_
    · go_simp
    simp only [List.getElem_toArray, List.getElem_cons_succ, List.getElem_cons_zero, Act.put, List.setIfInBounds_toArray, List.set_cons_zero, List.set_cons_succ]
    refine wpAnyX_take (i := 12) (v := .pointer (some ⟨b, 0, none⟩)) rfl (by kernel_rfl) (by kernel_rfl) (by kernel_rfl) (by kernel_rfl) (fun _ _ _ h => h) (Or.inl ⟨by rfl, fun w9 hSw => ?_⟩) hHeld ?_
    · go_simp
    simp only [List.getElem_toArray, List.getElem_cons_succ, List.getElem_cons_zero, Act.put, List.setIfInBounds_toArray, List.set_cons_zero, List.set_cons_succ]
    refine wpAnyX_take (i := 13) (v := .pointer (some ⟨b, 0, none⟩)) rfl (by kernel_rfl) (by kernel_rfl) (by kernel_rfl) (by kernel_rfl) (fun _ _ _ h => h) (Or.inl ⟨by rfl, fun w9 hSw => ?_⟩) hHeld ?_
    · go_simp
    simp only [List.getElem_toArray, List.getElem_cons_succ, List.getElem_cons_zero, Act.put, List.setIfInBounds_toArray, List.set_cons_zero, List.set_cons_succ]
    refine wpAnyX_take (i := 14) (v := .pointer (some ⟨b, 4, none⟩)) rfl (by kernel_rfl) (by kernel_rfl) (by kernel_rfl) (by kernel_rfl) (fun _ _ _ h => h) (Or.inl ⟨by rfl, fun w9 hSw => ?_⟩) hHeld ?_
    · go_simp
    simp only [List.getElem_toArray, List.getElem_cons_succ, List.getElem_cons_zero, Act.put, List.setIfInBounds_toArray, List.set_cons_zero, List.set_cons_succ]
    refine wpAnyX_take (i := 15) (v := .slice none 0 0) rfl (by kernel_rfl) (by kernel_rfl) (by kernel_rfl) (by kernel_rfl) (fun _ _ _ h => h) (Or.inl ⟨by rfl, fun w9 hSw => ?_⟩) hHeld ?_
    · obtain ⟨hc, hx⟩ := hSw
      go_simp
    simp only [List.getElem_toArray, List.getElem_cons_succ, List.getElem_cons_zero, Act.put, List.setIfInBounds_toArray, List.set_cons_zero, List.set_cons_succ]
    refine wpAnyX_take (i := 16) (v := .int .i64 0) rfl (by kernel_rfl) (by kernel_rfl) (by kernel_rfl) (by kernel_rfl) (fun _ _ _ h => h) (Or.inl ⟨by rfl, fun w9 hSw => ?_⟩) hHeld ?_
    · go_simp
    simp only [List.getElem_toArray, List.getElem_cons_succ, List.getElem_cons_zero, Act.put, List.setIfInBounds_toArray, List.set_cons_zero, List.set_cons_succ]
    refine wpAnyX_take (i := 17) (v := .slice none 0 0) rfl (by kernel_rfl) (by kernel_rfl) (by kernel_rfl) (by kernel_rfl) (fun _ _ _ h => h) (Or.inl ⟨by rfl, fun w9 hSw => ?_⟩) hHeld ?_
    · go_simp
    simp only [List.getElem_toArray, List.getElem_cons_succ, List.getElem_cons_zero, Act.put, List.setIfInBounds_toArray, List.set_cons_zero, List.set_cons_succ]
    refine wpAnyX_take (i := 9) (v := .agg #[.int .i64 node, .int .i64 tag, .int .i64 T]) rfl (by kernel_rfl) (by kernel_rfl) (by kernel_rfl) (by kernel_rfl) (fun _ _ _ h => h) (Or.inl ⟨by rfl, fun w9 hSw => ?_⟩) hHeld ?_
    · have k0 : w9.cell? ⟨xb, 0, none⟩ = some (.int .i64 node) := (cell_of_block hSw.2 0).trans rfl
      have k1 : w9.cell? ⟨xb, 1, none⟩ = some (.int .i64 tag) := (cell_of_block hSw.2 1).trans rfl
      have k2 : w9.cell? ⟨xb, 2, none⟩ = some (.int .i64 T) := (cell_of_block hSw.2 2).trans rfl
      go_simp
    simp only [List.getElem_toArray, List.getElem_cons_succ, List.getElem_cons_zero, Act.put, List.setIfInBounds_toArray, List.set_cons_zero, List.set_cons_succ]
    have H4 : Hid (RIs wq.drew b N ∧ Below w.heap.size w wq.drew) := ⟨HG.out.1.below ⟨rfl, rfl, rfl, Nat.le_refl _, fun _ _ => rfl⟩, HG.out.2.1.drew⟩
    clear hS0
    generalize wq.drew = w4 at hHeld H4 ⊢
    have HH : Hid (w4.cell? ⟨b, 4, none⟩ = some (.slice none 0 0) ∧ w4.heap[xb]? = some (.cells #[.int .i64 node, .int .i64 tag, .int .i64 T] 92)) := hHeld
    clear hHeld
    refine wpAnyX_two (i := 1) (j := 10) (by kernel_rfl) rfl rfl (by rfl) (by rfl) (fun K hK => ?_) (fun K hK => ?_)
    · have hE := empty92 w4
      have hEb : Below w4.heap.size w4 (w4.alloc (.cells #[] 92)) := (Below.refl _ w4).alloc (Nat.le_refl _) _
      obtain ⟨rb, hrb⟩ : ∃ rb, rb = w4.heap.size := ⟨_, rfl⟩
      go_simp
      rw [← hrb] at hE ⊢
      generalize hnw : w4.alloc (.cells #[] 92) = wa at hE hEb ⊢
      clear hnw
      have HA : Hid (Below w4.heap.size w4 wa ∧ wa.ownsRow 0 92 3 (.slice (some ⟨rb, 0, none⟩) 0 0) 0 [] ∧ (∀ x, (Value.slice (some ⟨rb, 0, none⟩) 0 0).ownBlock = some x → w4.heap.size ≤ x)) := ⟨hEb, hE, fun x hx => (by have h9 : rb = x := (by simpa [Value.ownBlock] using hx); omega)⟩
      clear hE hEb hrb
      refine hK.out _ _ (Or.inr (show wa.cell? ⟨b, 4, none⟩ = some (.slice none 0 0) ∧ wa.heap[xb]? = some (.cells #[.int .i64 node, .int .i64 tag, .int .i64 T] 92) from ⟨(HA.out.1.cell H4.out.1.lt).trans HH.out.1, (HA.out.1.block xb (heap_lt HH.out.2)).trans HH.out.2⟩)) ?_
      clear hK K
      try simp only [List.getElem_toArray, List.getElem_cons_succ, List.getElem_cons_zero, Act.put, List.setIfInBounds_toArray, List.set_cons_zero, List.set_cons_succ]
      refine wpAnyX_two (i := 8) (j := 10) (by kernel_rfl) rfl rfl (by rfl) (by rfl) (fun K hK => ?_) (fun K hK => ?_)
      · have hB := HA.out.1
        refine elU.wp_appendG (.tmp 67) (.tmp 73) rfl 0 (.slice (some ⟨rb, 0, none⟩) 0 0) 0 [] rfl HA.out.2.1 none 0 0 rfl (fun _ => ⟨rfl, rfl⟩) ((tmL N.tm).take (0 * 3)) (by rw [List.length_take, tmL_length]; have := HS.out.2.2.1; omega) (fun j u hu => by
          rw [List.getElem?_take] at hu
          split at hu
          · obtain ⟨g9, o9, e9, hc9⟩ := HS.out.2.2.2.1 j u hu
            have hc8 := (H4.out.2.cell (p := ⟨g9, o9 + j, none⟩) (cell_lt hc9)).trans hc9
            exact ⟨g9, o9, e9, (hB.cell (p := ⟨g9, o9 + j, none⟩) (cell_lt hc8)).trans hc8⟩
          · cases hu) (fun u hu => tmL_one N.tm u (List.mem_of_mem_take hu)) (by omega) (Nat.zero_le _) ?_
        intro v8 we ho8 hg8 ha8
        rw [List.nil_append, Nat.zero_add] at ho8
        obtain ⟨v8a, v8c, rfl⟩ := row_form ho8
        have hB8 : Below w4.heap.size w4 we := hB.grown hg8 hB.size (fun jj hjj => HA.out.2.2 jj hjj)
        have hfr : ∀ x, (Value.slice v8a 0 v8c).ownBlock = some x → w4.heap.size ≤ x := fun x hx => by
          rcases ha8 with e | e
          · rw [e] at hx
            exact HA.out.2.2 x hx
          · rw [e] at hx
            injection hx with hx
            have := hB.size
            skip
            omega
        have HA2 : Hid (Below w4.heap.size w4 we ∧ we.ownsRow 0 92 3 (.slice v8a 0 v8c) 0 ((tmL N.tm).take (0 * 3)) ∧ (∀ x, (Value.slice v8a 0 v8c).ownBlock = some x → w4.heap.size ≤ x)) := ⟨hB8, ho8, hfr⟩
        clear HA hB ho8 hg8 ha8 hB8 hfr
        have HA := HA2
        clear HA2
        refine hK.out _ _ (Or.inr (show we.cell? ⟨b, 4, none⟩ = some (.slice none 0 0) ∧ we.heap[xb]? = some (.cells #[.int .i64 node, .int .i64 tag, .int .i64 T] 92) from ⟨(HA.out.1.cell H4.out.1.lt).trans HH.out.1, (HA.out.1.block xb (heap_lt HH.out.2)).trans HH.out.2⟩)) ?_
        clear hK K
        try simp only [List.getElem_toArray, List.getElem_cons_succ, List.getElem_cons_zero, Act.put, List.setIfInBounds_toArray, List.set_cons_zero, List.set_cons_succ]
        refine wpAnyX_one (i := 10) (by kernel_rfl) rfl (by rfl) (fun K hK => ?_)
        have hEb : Below we.heap.size we (we.alloc (.cells #[.int .i64 node, .int .i64 tag, .int .i64 T] 92)) := (Below.refl _ we).alloc (Nat.le_refl _) _
        have hEn : (we.alloc (.cells #[.int .i64 node, .int .i64 tag, .int .i64 T] 92)).heap[we.heap.size]? = some (.cells #[.int .i64 node, .int .i64 tag, .int .i64 T] 92) := heap_alloc_new _ _
        obtain ⟨sb, hsb⟩ : ∃ sb, sb = we.heap.size := ⟨_, rfl⟩
        go_simp
        rw [← hsb] at hEn ⊢
        generalize hnw : we.alloc (.cells #[.int .i64 node, .int .i64 tag, .int .i64 T] 92) = wf at hEn hEb ⊢
        clear hnw
        have HA2 : Hid (Below w4.heap.size w4 wf ∧ wf.ownsRow 0 92 3 (.slice v8a 0 v8c) 0 ((tmL N.tm).take (0 * 3)) ∧ (∀ x, (.slice v8a 0 v8c : Value).ownBlock = some x → w4.heap.size ≤ x ∧ x ≠ sb) ∧ wf.heap[sb]? = some (.cells #[.int .i64 node, .int .i64 tag, .int .i64 T] 92)) := ⟨HA.out.1.trans (hEb.mono HA.out.1.size), ownsRow_heap HA.out.2.1 (fun x hx => hEb.block x (HA.out.2.1.lt x hx).2), fun x hx => ⟨HA.out.2.2 x hx, fun e => by have := (HA.out.2.1.lt x hx).2; omega⟩, hEn⟩
        clear HA
        have HA := HA2
        clear HA2
        clear hEn hEb hsb
        refine hK.out _ _ (Or.inr (show wf.cell? ⟨b, 4, none⟩ = some (.slice none 0 0) ∧ wf.heap[xb]? = some (.cells #[.int .i64 node, .int .i64 tag, .int .i64 T] 92) from ⟨(HA.out.1.cell H4.out.1.lt).trans HH.out.1, (HA.out.1.block xb (heap_lt HH.out.2)).trans HH.out.2⟩)) ?_
        clear hK K
        try simp only [List.getElem_toArray, List.getElem_cons_succ, List.getElem_cons_zero, Act.put, List.setIfInBounds_toArray, List.set_cons_zero, List.set_cons_succ]
        refine wpAnyX_one (i := 11) (by kernel_rfl) rfl (by rfl) (fun K hK => ?_)
        have hB := HA.out.1
        refine elU.wp_append (.tmp 74) (.tmp 76) rfl 0 (.slice v8a 0 v8c) 0 ((tmL N.tm).take (0 * 3)) rfl HA.out.2.1 ⟨sb, 0, none⟩ 1 1 rfl (tmC ⟨node, tag, T⟩) rfl (fun j u hu => by
          rw [Addr.add_lit, Nat.zero_add, cell_of_block HA.out.2.2.2]
          simpa [tmC] using hu) (fun u hu => by simp only [tmC, List.mem_cons, List.not_mem_nil, or_false] at hu; rcases hu with rfl | rfl | rfl <;> rfl) (by omega) (Nat.zero_le _) ?_
        intro v9 wg ho9 hg9 ha9
        obtain ⟨v9a, v9c, rfl⟩ := row_form ho9
        have HD : Hid (Below w4.heap.size w4 wg ∧ wg.ownsRow 0 92 3 (.slice v9a (0 + 1) v9c) (0 + 1) ((tmL N.tm).take (0 * 3) ++ tmC ⟨node, tag, T⟩) ∧ (∀ x, (Value.slice v9a (0 + 1) v9c).ownBlock = some x → w4.heap.size ≤ x)) := ⟨hB.grown hg9 hB.size (fun jj hjj => (HA.out.2.2.1 jj hjj).1), ho9, fun x hx => by
          rcases ha9 with e | e
          · rw [e] at hx
            exact (HA.out.2.2.1 x hx).1
          · rw [e] at hx
            injection hx with hx
            have := hB.size
            omega⟩
        clear HA hB ho9 hg9 ha9
        refine hK.out _ _ (Or.inr (show wg.cell? ⟨b, 4, none⟩ = some (.slice none 0 0) ∧ wg.heap[xb]? = some (.cells #[.int .i64 node, .int .i64 tag, .int .i64 T] 92) from ⟨(HD.out.1.cell H4.out.1.lt).trans HH.out.1, (HD.out.1.block xb (heap_lt HH.out.2)).trans HH.out.2⟩)) ?_
        clear hK K
        try simp only [List.getElem_toArray, List.getElem_cons_succ, List.getElem_cons_zero, Act.put, List.setIfInBounds_toArray, List.set_cons_zero, List.set_cons_succ]
        refine wpAnyX_one (i := 18) (by kernel_rfl) rfl (by rfl) (fun K hK => ?_)
        have hB := HD.out.1
        skip
        refine elU.wp_appendG (.tmp 77) (.tmp 83) rfl 0 (.slice v9a (0 + 1) v9c) (0 + 1) ((tmL N.tm).take (0 * 3) ++ tmC ⟨node, tag, T⟩) rfl HD.out.2.1 none 0 0 rfl (fun _ => ⟨rfl, rfl⟩) ((tmL N.tm).drop (0 * 3)) (by rw [List.length_drop, tmL_length]; have := HS.out.2.2.1; omega) (fun j u hu => by
          rw [List.getElem?_drop] at hu
          have hj := (List.getElem?_eq_some_iff.1 hu).1
          rw [tmL_length] at hj
          obtain ⟨g9, o9, e9, hc9⟩ := HS.out.2.2.2.1 _ u hu
          have hc8 := (H4.out.2.cell (p := ⟨g9, o9 + (0 * 3 + j), none⟩) (cell_lt hc9)).trans hc9
          have hc7 := (hB.cell (p := ⟨g9, o9 + (0 * 3 + j), none⟩) (cell_lt hc8)).trans hc8
          cases e9) (fun u hu => tmL_one N.tm u (List.mem_of_mem_drop hu)) (by omega) (Nat.zero_le _) ?_
        intro v10 wh ho10 hg10 ha10
        have hsl := HT.out
        have hlen : (0 + 1 + 0) = (insT N.tm ⟨node, tag, T⟩).length := by rw [ins_length]; have := HS.out.2.2.1; omega
        have hrw : (tmL N.tm).take (0 * 3) ++ tmC ⟨node, tag, T⟩ ++ (tmL N.tm).drop (0 * 3) = tmL (insT N.tm ⟨node, tag, T⟩) := by
          unfold insT
          rw [hsl, tmL_append, tmL_append, tmL_take, tmL_drop]
          simp [tmL]
        rw [hrw, hlen] at ho10
        obtain ⟨v10a, v10c, rfl⟩ := row_form ho10
        have hB10 : Below w4.heap.size w4 wh := hB.grown hg10 hB.size (fun jj hjj => HD.out.2.2 jj hjj)
        have hend := rsetT_end (v := .slice v10a (insT N.tm ⟨node, tag, T⟩).length v10c) (l := insT N.tm ⟨node, tag, T⟩) H4.out.1 (gb_of_below hB10 _) ho10 (Or.inr (fun x hx => by
          rcases ha10 with e | e
          · rw [e] at hx
            exact HD.out.2.2 x hx
          · rw [e] at hx
            injection hx with hx
            have := hB.size
            omega))
        have z10 : wh.frozen? ⟨b, 4, none⟩ = false := unfrozen_of_block ((hB10.block b H4.out.1.lt).trans H4.out.1.net) 4
        have HE : Hid (RIs (wh.setCell ⟨b, 4, none⟩ (.slice v10a (insT N.tm ⟨node, tag, T⟩).length v10c)) b (rsetT N (.slice v10a (insT N.tm ⟨node, tag, T⟩).length v10c) (insT N.tm ⟨node, tag, T⟩)) ∧ RFr w (wh.setCell ⟨b, 4, none⟩ (.slice v10a (insT N.tm ⟨node, tag, T⟩).length v10c)) N (rsetT N (.slice v10a (insT N.tm ⟨node, tag, T⟩).length v10c) (insT N.tm ⟨node, tag, T⟩)) ∧ Below w4.heap.size w4 wh) := ⟨hend.1, (RFr.below H4.out.2).trans hend.2, hB10⟩
        clear hB ho10 hg10 ha10 hsl hrw hend hB10 HD hlen 
        generalize (insT N.tm ⟨node, tag, T⟩).length = q at *
        have c10 := (show wh.cell? ⟨b, 4, none⟩ = some (.slice none 0 0) ∧ wh.heap[xb]? = some (.cells #[.int .i64 node, .int .i64 tag, .int .i64 T] 92) from ⟨(HE.out.2.2.cell H4.out.1.lt).trans HH.out.1, (HE.out.2.2.block xb (heap_lt HH.out.2)).trans HH.out.2⟩)
        have cc := c10.1
        refine hK.out _ _ (Or.inr c10) ?_
        clear hK K
        try simp only [List.getElem_toArray, List.getElem_cons_succ, List.getElem_cons_zero, Act.put, List.setIfInBounds_toArray, List.set_cons_zero, List.set_cons_succ]
        refine wpAnyX_one (i := 19) (by kernel_rfl) rfl (by rfl) (fun K hK => ?_)
        go_wp2_with fail
        refine hK.out _ _ (Or.inr c10) ?_
        clear hK K
        try simp only [List.getElem_toArray, List.getElem_cons_succ, List.getElem_cons_zero, Act.put, List.setIfInBounds_toArray, List.set_cons_zero, List.set_cons_succ]
        refine wpAnyX_one (i := 20) (by kernel_rfl) rfl (by rfl) (fun K hK => ?_)
        go_wp2_with fail
        refine hK.out _ _ (Or.inr c10) ?_
        clear hK K
        try simp only [List.getElem_toArray, List.getElem_cons_succ, List.getElem_cons_zero, Act.put, List.setIfInBounds_toArray, List.set_cons_zero, List.set_cons_succ]
        refine wpAnyX_one (i := 21) (by kernel_rfl) rfl (by rfl) (fun K hK => ?_)
        go_wp2_with fail
        refine hK.out _ _ (Or.inl rfl) ?_
        clear hK K
        try simp only [List.getElem_toArray, List.getElem_cons_succ, List.getElem_cons_zero, Act.put, List.setIfInBounds_toArray, List.set_cons_zero, List.set_cons_succ]
        refine wpAnyX_done (by kernel_rfl) ?_ _
        clear c10 cc z10
        go_wp2_with fail
        go_ret
        refine ⟨rfl, _, HE.out.1, HE.out.2.1, ?_⟩
        have hA := HAB.out
        unfold absR rsetT
        rw [hA]
      · have hEb : Below wa.heap.size wa (wa.alloc (.cells #[.int .i64 node, .int .i64 tag, .int .i64 T] 92)) := (Below.refl _ wa).alloc (Nat.le_refl _) _
        have hEn : (wa.alloc (.cells #[.int .i64 node, .int .i64 tag, .int .i64 T] 92)).heap[wa.heap.size]? = some (.cells #[.int .i64 node, .int .i64 tag, .int .i64 T] 92) := heap_alloc_new _ _
        obtain ⟨sb, hsb⟩ : ∃ sb, sb = wa.heap.size := ⟨_, rfl⟩
        go_simp
        rw [← hsb] at hEn ⊢
        generalize hnw : wa.alloc (.cells #[.int .i64 node, .int .i64 tag, .int .i64 T] 92) = wab at hEn hEb ⊢
        clear hnw
        have HA2 : Hid (Below w4.heap.size w4 wab ∧ wab.ownsRow 0 92 3 (.slice (some ⟨rb, 0, none⟩) 0 0) 0 [] ∧ (∀ x, (.slice (some ⟨rb, 0, none⟩) 0 0 : Value).ownBlock = some x → w4.heap.size ≤ x ∧ x ≠ sb) ∧ wab.heap[sb]? = some (.cells #[.int .i64 node, .int .i64 tag, .int .i64 T] 92)) := ⟨HA.out.1.trans (hEb.mono HA.out.1.size), ownsRow_heap HA.out.2.1 (fun x hx => hEb.block x (HA.out.2.1.lt x hx).2), fun x hx => ⟨HA.out.2.2 x hx, fun e => by have := (HA.out.2.1.lt x hx).2; omega⟩, hEn⟩
        clear HA
        have HA := HA2
        clear HA2
        clear hEn hEb hsb
        refine hK.out _ _ (Or.inr (show wab.cell? ⟨b, 4, none⟩ = some (.slice none 0 0) ∧ wab.heap[xb]? = some (.cells #[.int .i64 node, .int .i64 tag, .int .i64 T] 92) from ⟨(HA.out.1.cell H4.out.1.lt).trans HH.out.1, (HA.out.1.block xb (heap_lt HH.out.2)).trans HH.out.2⟩)) ?_
        clear hK K
        try simp only [List.getElem_toArray, List.getElem_cons_succ, List.getElem_cons_zero, Act.put, List.setIfInBounds_toArray, List.set_cons_zero, List.set_cons_succ]
        refine wpAnyX_one (i := 8) (by kernel_rfl) rfl (by rfl) (fun K hK => ?_)
        have hB := HA.out.1
        refine elU.wp_appendG (.tmp 67) (.tmp 73) rfl 0 (.slice (some ⟨rb, 0, none⟩) 0 0) 0 [] rfl HA.out.2.1 none 0 0 rfl (fun _ => ⟨rfl, rfl⟩) ((tmL N.tm).take (0 * 3)) (by rw [List.length_take, tmL_length]; have := HS.out.2.2.1; omega) (fun j u hu => by
          rw [List.getElem?_take] at hu
          split at hu
          · obtain ⟨g9, o9, e9, hc9⟩ := HS.out.2.2.2.1 j u hu
            have hc8 := (H4.out.2.cell (p := ⟨g9, o9 + j, none⟩) (cell_lt hc9)).trans hc9
            exact ⟨g9, o9, e9, (hB.cell (p := ⟨g9, o9 + j, none⟩) (cell_lt hc8)).trans hc8⟩
          · cases hu) (fun u hu => tmL_one N.tm u (List.mem_of_mem_take hu)) (by omega) (Nat.zero_le _) ?_
        intro v8 wf ho8 hg8 ha8
        rw [List.nil_append, Nat.zero_add] at ho8
        obtain ⟨v8a, v8c, rfl⟩ := row_form ho8
        have hB8 : Below w4.heap.size w4 wf := hB.grown hg8 hB.size (fun jj hjj => (HA.out.2.2.1 jj hjj).1)
        have hfr : ∀ x, (Value.slice v8a 0 v8c).ownBlock = some x → w4.heap.size ≤ x ∧ x ≠ sb := fun x hx => by
          rcases ha8 with e | e
          · rw [e] at hx
            exact HA.out.2.2.1 x hx
          · rw [e] at hx
            injection hx with hx
            have := hB.size
            have := heap_lt HA.out.2.2.2
            omega
        have HA2 : Hid (Below w4.heap.size w4 wf ∧ wf.ownsRow 0 92 3 (.slice v8a 0 v8c) 0 ((tmL N.tm).take (0 * 3)) ∧ (∀ x, (Value.slice v8a 0 v8c).ownBlock = some x → w4.heap.size ≤ x ∧ x ≠ sb) ∧ wf.heap[sb]? = some (.cells #[.int .i64 node, .int .i64 tag, .int .i64 T] 92)) := ⟨hB8, ho8, hfr, (hg8.block sb (heap_lt HA.out.2.2.2) (fun e => (HA.out.2.2.1 sb e.symm).2 rfl)).trans HA.out.2.2.2⟩
        clear HA hB ho8 hg8 ha8 hB8 hfr
        have HA := HA2
        clear HA2
        refine hK.out _ _ (Or.inr (show wf.cell? ⟨b, 4, none⟩ = some (.slice none 0 0) ∧ wf.heap[xb]? = some (.cells #[.int .i64 node, .int .i64 tag, .int .i64 T] 92) from ⟨(HA.out.1.cell H4.out.1.lt).trans HH.out.1, (HA.out.1.block xb (heap_lt HH.out.2)).trans HH.out.2⟩)) ?_
        clear hK K
        try simp only [List.getElem_toArray, List.getElem_cons_succ, List.getElem_cons_zero, Act.put, List.setIfInBounds_toArray, List.set_cons_zero, List.set_cons_succ]
        refine wpAnyX_one (i := 11) (by kernel_rfl) rfl (by rfl) (fun K hK => ?_)
        have hB := HA.out.1
        refine elU.wp_append (.tmp 74) (.tmp 76) rfl 0 (.slice v8a 0 v8c) 0 ((tmL N.tm).take (0 * 3)) rfl HA.out.2.1 ⟨sb, 0, none⟩ 1 1 rfl (tmC ⟨node, tag, T⟩) rfl (fun j u hu => by
          rw [Addr.add_lit, Nat.zero_add, cell_of_block HA.out.2.2.2]
          simpa [tmC] using hu) (fun u hu => by simp only [tmC, List.mem_cons, List.not_mem_nil, or_false] at hu; rcases hu with rfl | rfl | rfl <;> rfl) (by omega) (Nat.zero_le _) ?_
        intro v9 wg ho9 hg9 ha9
        obtain ⟨v9a, v9c, rfl⟩ := row_form ho9
        have HD : Hid (Below w4.heap.size w4 wg ∧ wg.ownsRow 0 92 3 (.slice v9a (0 + 1) v9c) (0 + 1) ((tmL N.tm).take (0 * 3) ++ tmC ⟨node, tag, T⟩) ∧ (∀ x, (Value.slice v9a (0 + 1) v9c).ownBlock = some x → w4.heap.size ≤ x)) := ⟨hB.grown hg9 hB.size (fun jj hjj => (HA.out.2.2.1 jj hjj).1), ho9, fun x hx => by
          rcases ha9 with e | e
          · rw [e] at hx
            exact (HA.out.2.2.1 x hx).1
          · rw [e] at hx
            injection hx with hx
            have := hB.size
            omega⟩
        clear HA hB ho9 hg9 ha9
        refine hK.out _ _ (Or.inr (show wg.cell? ⟨b, 4, none⟩ = some (.slice none 0 0) ∧ wg.heap[xb]? = some (.cells #[.int .i64 node, .int .i64 tag, .int .i64 T] 92) from ⟨(HD.out.1.cell H4.out.1.lt).trans HH.out.1, (HD.out.1.block xb (heap_lt HH.out.2)).trans HH.out.2⟩)) ?_
        clear hK K
        try simp only [List.getElem_toArray, List.getElem_cons_succ, List.getElem_cons_zero, Act.put, List.setIfInBounds_toArray, List.set_cons_zero, List.set_cons_succ]
        refine wpAnyX_one (i := 18) (by kernel_rfl) rfl (by rfl) (fun K hK => ?_)
        have hB := HD.out.1
        skip
        refine elU.wp_appendG (.tmp 77) (.tmp 83) rfl 0 (.slice v9a (0 + 1) v9c) (0 + 1) ((tmL N.tm).take (0 * 3) ++ tmC ⟨node, tag, T⟩) rfl HD.out.2.1 none 0 0 rfl (fun _ => ⟨rfl, rfl⟩) ((tmL N.tm).drop (0 * 3)) (by rw [List.length_drop, tmL_length]; have := HS.out.2.2.1; omega) (fun j u hu => by
          rw [List.getElem?_drop] at hu
          have hj := (List.getElem?_eq_some_iff.1 hu).1
          rw [tmL_length] at hj
          obtain ⟨g9, o9, e9, hc9⟩ := HS.out.2.2.2.1 _ u hu
          have hc8 := (H4.out.2.cell (p := ⟨g9, o9 + (0 * 3 + j), none⟩) (cell_lt hc9)).trans hc9
          have hc7 := (hB.cell (p := ⟨g9, o9 + (0 * 3 + j), none⟩) (cell_lt hc8)).trans hc8
          cases e9) (fun u hu => tmL_one N.tm u (List.mem_of_mem_drop hu)) (by omega) (Nat.zero_le _) ?_
        intro v10 wh ho10 hg10 ha10
        have hsl := HT.out
        have hlen : (0 + 1 + 0) = (insT N.tm ⟨node, tag, T⟩).length := by rw [ins_length]; have := HS.out.2.2.1; omega
        have hrw : (tmL N.tm).take (0 * 3) ++ tmC ⟨node, tag, T⟩ ++ (tmL N.tm).drop (0 * 3) = tmL (insT N.tm ⟨node, tag, T⟩) := by
          unfold insT
          rw [hsl, tmL_append, tmL_append, tmL_take, tmL_drop]
          simp [tmL]
        rw [hrw, hlen] at ho10
        obtain ⟨v10a, v10c, rfl⟩ := row_form ho10
        have hB10 : Below w4.heap.size w4 wh := hB.grown hg10 hB.size (fun jj hjj => HD.out.2.2 jj hjj)
        have hend := rsetT_end (v := .slice v10a (insT N.tm ⟨node, tag, T⟩).length v10c) (l := insT N.tm ⟨node, tag, T⟩) H4.out.1 (gb_of_below hB10 _) ho10 (Or.inr (fun x hx => by
          rcases ha10 with e | e
          · rw [e] at hx
            exact HD.out.2.2 x hx
          · rw [e] at hx
            injection hx with hx
            have := hB.size
            omega))
        have z10 : wh.frozen? ⟨b, 4, none⟩ = false := unfrozen_of_block ((hB10.block b H4.out.1.lt).trans H4.out.1.net) 4
        have HE : Hid (RIs (wh.setCell ⟨b, 4, none⟩ (.slice v10a (insT N.tm ⟨node, tag, T⟩).length v10c)) b (rsetT N (.slice v10a (insT N.tm ⟨node, tag, T⟩).length v10c) (insT N.tm ⟨node, tag, T⟩)) ∧ RFr w (wh.setCell ⟨b, 4, none⟩ (.slice v10a (insT N.tm ⟨node, tag, T⟩).length v10c)) N (rsetT N (.slice v10a (insT N.tm ⟨node, tag, T⟩).length v10c) (insT N.tm ⟨node, tag, T⟩)) ∧ Below w4.heap.size w4 wh) := ⟨hend.1, (RFr.below H4.out.2).trans hend.2, hB10⟩
        clear hB ho10 hg10 ha10 hsl hrw hend hB10 HD hlen 
        generalize (insT N.tm ⟨node, tag, T⟩).length = q at *
        have c10 := (show wh.cell? ⟨b, 4, none⟩ = some (.slice none 0 0) ∧ wh.heap[xb]? = some (.cells #[.int .i64 node, .int .i64 tag, .int .i64 T] 92) from ⟨(HE.out.2.2.cell H4.out.1.lt).trans HH.out.1, (HE.out.2.2.block xb (heap_lt HH.out.2)).trans HH.out.2⟩)
        have cc := c10.1
        refine hK.out _ _ (Or.inr c10) ?_
        clear hK K
        try simp only [List.getElem_toArray, List.getElem_cons_succ, List.getElem_cons_zero, Act.put, List.setIfInBounds_toArray, List.set_cons_zero, List.set_cons_succ]
        refine wpAnyX_one (i := 19) (by kernel_rfl) rfl (by rfl) (fun K hK => ?_)
        go_wp2_with fail
        refine hK.out _ _ (Or.inr c10) ?_
        clear hK K
        try simp only [List.getElem_toArray, List.getElem_cons_succ, List.getElem_cons_zero, Act.put, List.setIfInBounds_toArray, List.set_cons_zero, List.set_cons_succ]
        refine wpAnyX_one (i := 20) (by kernel_rfl) rfl (by rfl) (fun K hK => ?_)
        go_wp2_with fail
        refine hK.out _ _ (Or.inr c10) ?_
        clear hK K
        try simp only [List.getElem_toArray, List.getElem_cons_succ, List.getElem_cons_zero, Act.put, List.setIfInBounds_toArray, List.set_cons_zero, List.set_cons_succ]
        refine wpAnyX_one (i := 21) (by kernel_rfl) rfl (by rfl) (fun K hK => ?_)
        go_wp2_with fail
        refine hK.out _ _ (Or.inl rfl) ?_
        clear hK K
        try simp only [List.getElem_toArray, List.getElem_cons_succ, List.getElem_cons_zero, Act.put, List.setIfInBounds_toArray, List.set_cons_zero, List.set_cons_succ]
        refine wpAnyX_done (by kernel_rfl) ?_ _
        clear c10 cc z10
        go_wp2_with fail
        go_ret
        refine ⟨rfl, _, HE.out.1, HE.out.2.1, ?_⟩
        have hA := HAB.out
        unfold absR rsetT
        rw [hA]
    · have hEb : Below w4.heap.size w4 (w4.alloc (.cells #[.int .i64 node, .int .i64 tag, .int .i64 T] 92)) := (Below.refl _ w4).alloc (Nat.le_refl _) _
      have hEn : (w4.alloc (.cells #[.int .i64 node, .int .i64 tag, .int .i64 T] 92)).heap[w4.heap.size]? = some (.cells #[.int .i64 node, .int .i64 tag, .int .i64 T] 92) := heap_alloc_new _ _
      obtain ⟨sb, hsb⟩ : ∃ sb, sb = w4.heap.size := ⟨_, rfl⟩
      go_simp
      rw [← hsb] at hEn ⊢
      generalize hnw : w4.alloc (.cells #[.int .i64 node, .int .i64 tag, .int .i64 T] 92) = wb at hEn hEb ⊢
      clear hnw
      have HC : Hid (Below w4.heap.size w4 wb ∧ wb.heap[sb]? = some (.cells #[.int .i64 node, .int .i64 tag, .int .i64 T] 92)) := ⟨hEb, hEn⟩
      clear hEn hEb hsb
      refine hK.out _ _ (Or.inr (show wb.cell? ⟨b, 4, none⟩ = some (.slice none 0 0) ∧ wb.heap[xb]? = some (.cells #[.int .i64 node, .int .i64 tag, .int .i64 T] 92) from ⟨(HC.out.1.cell H4.out.1.lt).trans HH.out.1, (HC.out.1.block xb (heap_lt HH.out.2)).trans HH.out.2⟩)) ?_
      clear hK K
      try simp only [List.getElem_toArray, List.getElem_cons_succ, List.getElem_cons_zero, Act.put, List.setIfInBounds_toArray, List.set_cons_zero, List.set_cons_succ]
      refine wpAnyX_one (i := 1) (by kernel_rfl) rfl (by rfl) (fun K hK => ?_)
      have hE := empty92 wb
      have hEb : Below wb.heap.size wb (wb.alloc (.cells #[] 92)) := (Below.refl _ wb).alloc (Nat.le_refl _) _
      obtain ⟨rb, hrb⟩ : ∃ rb, rb = wb.heap.size := ⟨_, rfl⟩
      go_simp
      rw [← hrb] at hE ⊢
      generalize hnw : wb.alloc (.cells #[] 92) = wab at hE hEb ⊢
      clear hnw
      have HA : Hid (Below w4.heap.size w4 wab ∧ wab.ownsRow 0 92 3 (.slice (some ⟨rb, 0, none⟩) 0 0) 0 [] ∧ (∀ x, (Value.slice (some ⟨rb, 0, none⟩) 0 0).ownBlock = some x → w4.heap.size ≤ x ∧ x ≠ sb) ∧ wab.heap[sb]? = some (.cells #[.int .i64 node, .int .i64 tag, .int .i64 T] 92)) := ⟨HC.out.1.trans (hEb.mono HC.out.1.size), hE, fun x hx => (by have h9 : rb = x := (by simpa [Value.ownBlock] using hx); have := HC.out.1.size; have := heap_lt HC.out.2; omega), (hEb.block sb (heap_lt HC.out.2)).trans HC.out.2⟩
      clear hE hEb hrb
      refine hK.out _ _ (Or.inr (show wab.cell? ⟨b, 4, none⟩ = some (.slice none 0 0) ∧ wab.heap[xb]? = some (.cells #[.int .i64 node, .int .i64 tag, .int .i64 T] 92) from ⟨(HA.out.1.cell H4.out.1.lt).trans HH.out.1, (HA.out.1.block xb (heap_lt HH.out.2)).trans HH.out.2⟩)) ?_
      clear hK K
      try simp only [List.getElem_toArray, List.getElem_cons_succ, List.getElem_cons_zero, Act.put, List.setIfInBounds_toArray, List.set_cons_zero, List.set_cons_succ]
      refine wpAnyX_one (i := 8) (by kernel_rfl) rfl (by rfl) (fun K hK => ?_)
      have hB := HA.out.1
      refine elU.wp_appendG (.tmp 67) (.tmp 73) rfl 0 (.slice (some ⟨rb, 0, none⟩) 0 0) 0 [] rfl HA.out.2.1 none 0 0 rfl (fun _ => ⟨rfl, rfl⟩) ((tmL N.tm).take (0 * 3)) (by rw [List.length_take, tmL_length]; have := HS.out.2.2.1; omega) (fun j u hu => by
        rw [List.getElem?_take] at hu
        split at hu
        · obtain ⟨g9, o9, e9, hc9⟩ := HS.out.2.2.2.1 j u hu
          have hc8 := (H4.out.2.cell (p := ⟨g9, o9 + j, none⟩) (cell_lt hc9)).trans hc9
          exact ⟨g9, o9, e9, (hB.cell (p := ⟨g9, o9 + j, none⟩) (cell_lt hc8)).trans hc8⟩
        · cases hu) (fun u hu => tmL_one N.tm u (List.mem_of_mem_take hu)) (by omega) (Nat.zero_le _) ?_
      intro v8 wf ho8 hg8 ha8
      rw [List.nil_append, Nat.zero_add] at ho8
      obtain ⟨v8a, v8c, rfl⟩ := row_form ho8
      have hB8 : Below w4.heap.size w4 wf := hB.grown hg8 hB.size (fun jj hjj => (HA.out.2.2.1 jj hjj).1)
      have hfr : ∀ x, (Value.slice v8a 0 v8c).ownBlock = some x → w4.heap.size ≤ x ∧ x ≠ sb := fun x hx => by
        rcases ha8 with e | e
        · rw [e] at hx
          exact HA.out.2.2.1 x hx
        · rw [e] at hx
          injection hx with hx
          have := hB.size
          have := heap_lt HA.out.2.2.2
          omega
      have HA2 : Hid (Below w4.heap.size w4 wf ∧ wf.ownsRow 0 92 3 (.slice v8a 0 v8c) 0 ((tmL N.tm).take (0 * 3)) ∧ (∀ x, (Value.slice v8a 0 v8c).ownBlock = some x → w4.heap.size ≤ x ∧ x ≠ sb) ∧ wf.heap[sb]? = some (.cells #[.int .i64 node, .int .i64 tag, .int .i64 T] 92)) := ⟨hB8, ho8, hfr, (hg8.block sb (heap_lt HA.out.2.2.2) (fun e => (HA.out.2.2.1 sb e.symm).2 rfl)).trans HA.out.2.2.2⟩
      clear HA hB ho8 hg8 ha8 hB8 hfr
      have HA := HA2
      clear HA2
      refine hK.out _ _ (Or.inr (show wf.cell? ⟨b, 4, none⟩ = some (.slice none 0 0) ∧ wf.heap[xb]? = some (.cells #[.int .i64 node, .int .i64 tag, .int .i64 T] 92) from ⟨(HA.out.1.cell H4.out.1.lt).trans HH.out.1, (HA.out.1.block xb (heap_lt HH.out.2)).trans HH.out.2⟩)) ?_
      clear hK K
      try simp only [List.getElem_toArray, List.getElem_cons_succ, List.getElem_cons_zero, Act.put, List.setIfInBounds_toArray, List.set_cons_zero, List.set_cons_succ]
      refine wpAnyX_one (i := 11) (by kernel_rfl) rfl (by rfl) (fun K hK => ?_)
      have hB := HA.out.1
      refine elU.wp_append (.tmp 74) (.tmp 76) rfl 0 (.slice v8a 0 v8c) 0 ((tmL N.tm).take (0 * 3)) rfl HA.out.2.1 ⟨sb, 0, none⟩ 1 1 rfl (tmC ⟨node, tag, T⟩) rfl (fun j u hu => by
        rw [Addr.add_lit, Nat.zero_add, cell_of_block HA.out.2.2.2]
        simpa [tmC] using hu) (fun u hu => by simp only [tmC, List.mem_cons, List.not_mem_nil, or_false] at hu; rcases hu with rfl | rfl | rfl <;> rfl) (by omega) (Nat.zero_le _) ?_
      intro v9 wg ho9 hg9 ha9
      obtain ⟨v9a, v9c, rfl⟩ := row_form ho9
      have HD : Hid (Below w4.heap.size w4 wg ∧ wg.ownsRow 0 92 3 (.slice v9a (0 + 1) v9c) (0 + 1) ((tmL N.tm).take (0 * 3) ++ tmC ⟨node, tag, T⟩) ∧ (∀ x, (Value.slice v9a (0 + 1) v9c).ownBlock = some x → w4.heap.size ≤ x)) := ⟨hB.grown hg9 hB.size (fun jj hjj => (HA.out.2.2.1 jj hjj).1), ho9, fun x hx => by
        rcases ha9 with e | e
        · rw [e] at hx
          exact (HA.out.2.2.1 x hx).1
        · rw [e] at hx
          injection hx with hx
          have := hB.size
          omega⟩
      clear HA hB ho9 hg9 ha9
      refine hK.out _ _ (Or.inr (show wg.cell? ⟨b, 4, none⟩ = some (.slice none 0 0) ∧ wg.heap[xb]? = some (.cells #[.int .i64 node, .int .i64 tag, .int .i64 T] 92) from ⟨(HD.out.1.cell H4.out.1.lt).trans HH.out.1, (HD.out.1.block xb (heap_lt HH.out.2)).trans HH.out.2⟩)) ?_
      clear hK K
      try simp only [List.getElem_toArray, List.getElem_cons_succ, List.getElem_cons_zero, Act.put, List.setIfInBounds_toArray, List.set_cons_zero, List.set_cons_succ]
      refine wpAnyX_one (i := 18) (by kernel_rfl) rfl (by rfl) (fun K hK => ?_)
      have hB := HD.out.1
      skip
      refine elU.wp_appendG (.tmp 77) (.tmp 83) rfl 0 (.slice v9a (0 + 1) v9c) (0 + 1) ((tmL N.tm).take (0 * 3) ++ tmC ⟨node, tag, T⟩) rfl HD.out.2.1 none 0 0 rfl (fun _ => ⟨rfl, rfl⟩) ((tmL N.tm).drop (0 * 3)) (by rw [List.length_drop, tmL_length]; have := HS.out.2.2.1; omega) (fun j u hu => by
        rw [List.getElem?_drop] at hu
        have hj := (List.getElem?_eq_some_iff.1 hu).1
        rw [tmL_length] at hj
        obtain ⟨g9, o9, e9, hc9⟩ := HS.out.2.2.2.1 _ u hu
        have hc8 := (H4.out.2.cell (p := ⟨g9, o9 + (0 * 3 + j), none⟩) (cell_lt hc9)).trans hc9
        have hc7 := (hB.cell (p := ⟨g9, o9 + (0 * 3 + j), none⟩) (cell_lt hc8)).trans hc8
        cases e9) (fun u hu => tmL_one N.tm u (List.mem_of_mem_drop hu)) (by omega) (Nat.zero_le _) ?_
      intro v10 wh ho10 hg10 ha10
      have hsl := HT.out
      have hlen : (0 + 1 + 0) = (insT N.tm ⟨node, tag, T⟩).length := by rw [ins_length]; have := HS.out.2.2.1; omega
      have hrw : (tmL N.tm).take (0 * 3) ++ tmC ⟨node, tag, T⟩ ++ (tmL N.tm).drop (0 * 3) = tmL (insT N.tm ⟨node, tag, T⟩) := by
        unfold insT
        rw [hsl, tmL_append, tmL_append, tmL_take, tmL_drop]
        simp [tmL]
      rw [hrw, hlen] at ho10
      obtain ⟨v10a, v10c, rfl⟩ := row_form ho10
      have hB10 : Below w4.heap.size w4 wh := hB.grown hg10 hB.size (fun jj hjj => HD.out.2.2 jj hjj)
      have hend := rsetT_end (v := .slice v10a (insT N.tm ⟨node, tag, T⟩).length v10c) (l := insT N.tm ⟨node, tag, T⟩) H4.out.1 (gb_of_below hB10 _) ho10 (Or.inr (fun x hx => by
        rcases ha10 with e | e
        · rw [e] at hx
          exact HD.out.2.2 x hx
        · rw [e] at hx
          injection hx with hx
          have := hB.size
          omega))
      have z10 : wh.frozen? ⟨b, 4, none⟩ = false := unfrozen_of_block ((hB10.block b H4.out.1.lt).trans H4.out.1.net) 4
      have HE : Hid (RIs (wh.setCell ⟨b, 4, none⟩ (.slice v10a (insT N.tm ⟨node, tag, T⟩).length v10c)) b (rsetT N (.slice v10a (insT N.tm ⟨node, tag, T⟩).length v10c) (insT N.tm ⟨node, tag, T⟩)) ∧ RFr w (wh.setCell ⟨b, 4, none⟩ (.slice v10a (insT N.tm ⟨node, tag, T⟩).length v10c)) N (rsetT N (.slice v10a (insT N.tm ⟨node, tag, T⟩).length v10c) (insT N.tm ⟨node, tag, T⟩)) ∧ Below w4.heap.size w4 wh) := ⟨hend.1, (RFr.below H4.out.2).trans hend.2, hB10⟩
      clear hB ho10 hg10 ha10 hsl hrw hend hB10 HD hlen 
      generalize (insT N.tm ⟨node, tag, T⟩).length = q at *
      have c10 := (show wh.cell? ⟨b, 4, none⟩ = some (.slice none 0 0) ∧ wh.heap[xb]? = some (.cells #[.int .i64 node, .int .i64 tag, .int .i64 T] 92) from ⟨(HE.out.2.2.cell H4.out.1.lt).trans HH.out.1, (HE.out.2.2.block xb (heap_lt HH.out.2)).trans HH.out.2⟩)
      have cc := c10.1
      refine hK.out _ _ (Or.inr c10) ?_
      clear hK K
      try simp only [List.getElem_toArray, List.getElem_cons_succ, List.getElem_cons_zero, Act.put, List.setIfInBounds_toArray, List.set_cons_zero, List.set_cons_succ]
      refine wpAnyX_one (i := 19) (by kernel_rfl) rfl (by rfl) (fun K hK => ?_)
      go_wp2_with fail
      refine hK.out _ _ (Or.inr c10) ?_
      clear hK K
      try simp only [List.getElem_toArray, List.getElem_cons_succ, List.getElem_cons_zero, Act.put, List.setIfInBounds_toArray, List.set_cons_zero, List.set_cons_succ]
      refine wpAnyX_one (i := 20) (by kernel_rfl) rfl (by rfl) (fun K hK => ?_)
      go_wp2_with fail
      refine hK.out _ _ (Or.inr c10) ?_
      clear hK K
      try simp only [List.getElem_toArray, List.getElem_cons_succ, List.getElem_cons_zero, Act.put, List.setIfInBounds_toArray, List.set_cons_zero, List.set_cons_succ]
      refine wpAnyX_one (i := 21) (by kernel_rfl) rfl (by rfl) (fun K hK => ?_)
      go_wp2_with fail
      refine hK.out _ _ (Or.inl rfl) ?_
      clear hK K
      try simp only [List.getElem_toArray, List.getElem_cons_succ, List.getElem_cons_zero, Act.put, List.setIfInBounds_toArray, List.set_cons_zero, List.set_cons_succ]
      refine wpAnyX_done (by kernel_rfl) ?_ _
      clear c10 cc z10
      go_wp2_with fail
      go_ret
      refine ⟨rfl, _, HE.out.1, HE.out.2.1, ?_⟩
      have hA := HAB.out
      unfold absR rsetT
      rw [hA]
set_option maxRecDepth 100000 in
set_option maxHeartbeats 16000000 in
theorem rset_some {w : World} {b : Nat} {N : RS} (h : RIs w b N) (ho : ROk N) (hs : Asc N.tm) (node tag delay : Int) (hn : isB N.nodes node = true) (hd : 0 ≤ delay) (hl : ¬ 1099511627776 - N.clk < delay) (ht : N.tm.length < 4096) (g : Nat) (hv : ∃ tc, N.tv = .slice (some ⟨g, 0, none⟩) N.tm.length tc) :
    Calls Try.prog 19 #[.pointer (some ⟨b, 0, none⟩), .int .i64 node, .int .i64 tag, .int .i64 delay] w fun e w' => RtR w b N (0, { absR N with tm := insT N.tm ⟨node, tag, N.clk + delay⟩ }) e w' := by
  have hnot : ∀ (x : Bool) (w : World), (Op.unary .not (.bool x)).run Try.prog w = .ok (.bool (!x)) w := fun _ _ => rfl
  have HD0 : Hid _ := node_any h node
  have HN1 : Hid (isB N.nodes node = true) := hn
  have c2 := h.cells.2.2.1
  have c4 := h.cells.2.2.2.2
  obtain ⟨ta, tc, htv, hnil, htc, hg0, hcells⟩ := h.tmv
  rw [htv] at c4
  have hck := ho.ck
  have hb := h.lt
  obtain ⟨n, hnn⟩ : ∃ n, n = N.tm.length := ⟨_, rfl⟩
  rw [← hnn] at c4 htc hnil htv ht
  obtain ⟨C, hC⟩ : ∃ C, C = N.clk := ⟨_, rfl⟩
  rw [← hC] at c2 hck hl
  obtain ⟨T, hT⟩ : ∃ T, T = C + delay := ⟨_, rfl⟩
  have HAB : Hid (insT N.tm ⟨node, tag, N.clk + delay⟩ = insT N.tm ⟨node, tag, T⟩) := by rw [hT, hC]; exact rfl
  have HTC : Hid (T = C + delay) := hT
  obtain ⟨tc9, hv⟩ := hv
  have e1 : ta = some ⟨g, 0, none⟩ := by rw [htv, ← hnn] at hv; injection hv
  subst e1
  have HS : Hid (RIs w b N ∧ N.tv = .slice (some ⟨g, 0, none⟩) n tc ∧ n = N.tm.length ∧ (∀ j u, (tmL N.tm)[j]? = some u → ∃ g9 o, (some (⟨g, 0, none⟩ : Addr) : Option Addr) = some ⟨g9, o, none⟩ ∧ w.cell? ⟨g9, o + j, none⟩ = some u) ∧ True) := ⟨h, htv, hnn, hcells, trivial⟩
  have HAS : Hid (Asc N.tm) := hs
  clear h ho hs hn hnn hC hT hcells htv hnil hg0 hv
  go_enter Try.func19, Try.ntmps19
  go_wp2_with (go_at_call 31; refine Calls.mono HD0.out ?_; rintro e w1 ⟨rfl, hw1⟩; obtain rfl : w = w1 := hw1.symm; rw [HN1.out]; clear HD0)
  have hTC := HTC.out
  rw [← hTC]
  obtain ⟨W, hW⟩ : ∃ W, W = w.alloc (.cells #[.int .i64 node, .int .i64 tag, .int .i64 T] 92) := ⟨_, rfl⟩
  obtain ⟨xb, hxb⟩ : ∃ xb, xb = w.heap.size := ⟨_, rfl⟩
  have HB : Hid (Below w.heap.size w W ∧ W.heap[xb]? = some (.cells #[.int .i64 node, .int .i64 tag, .int .i64 T] 92)) := by rw [hW, hxb]; exact ⟨(Below.refl _ w).alloc (Nat.le_refl _) _, heap_alloc_new _ _⟩
  have c4W : W.cell? ⟨b, 4, none⟩ = some (.slice (some ⟨g, 0, none⟩) n tc) := (HB.out.1.cell hb).trans c4
  rw [← hW, ← hxb]
  clear hW hxb hTC c4
  go_loopw [10] (fun i wr => ∃ k : Nat, k ≤ n ∧ i = .int .i64 k ∧ Hid ((Below w.heap.size w wr ∧ wr.heap[xb]? = some (.cells #[.int .i64 node, .int .i64 tag, .int .i64 T] 92)) ∧ ∀ (j : Nat) (t : TM), N.tm[j]? = some t → k ≤ j → T < t.at_)) (fun i _ => (intOf i).toNat)
  case atStart => exact ⟨n, Nat.le_refl _, rfl, HB.out, fun j t hj hk => by have h1 := (List.getElem?_eq_some_iff.1 hj).1; have h2 := HS.out.2.2.1; omega⟩
  case round =>
    clear HB c4W
    obtain ⟨k, hkn, rfl, HBq⟩ := hrel
    by_cases hk0 : k = 0
    · have HK0 : Hid (k = 0) := hk0
      have HT : Hid (slot N.tm T = k) := slot_eq HAS.out (by have := HS.out.2.2.1; omega) HBq.out.2 (fun _ _ h => by omega)
      clear hk0
      go_wp2_with fail
      refine wp_region_X (fun _ => false) (S := fun _ => True) (by kernel_rfl) trivial (fun hHeld => ?_)
      refine wpAnyX_take (i := 0) (v := .int .i64 k) rfl (by kernel_rfl) (by kernel_rfl) (by kernel_rfl) (by kernel_rfl) (fun _ _ _ h => h) (Or.inl ⟨by rfl, fun w9 hSw => ?_⟩) hHeld ?_
      · go_simp
      simp only [List.getElem_toArray, List.getElem_cons_succ, List.getElem_cons_zero, Act.put, List.setIfInBounds_toArray, List.set_cons_zero, List.set_cons_succ]
      refine wpAnyX_take (i := 1) (v := .bool false) rfl (by kernel_rfl) (by kernel_rfl) (by kernel_rfl) (by kernel_rfl) (fun _ _ _ h => h) (Or.inl ⟨by rfl, fun w9 hSw => ?_⟩) hHeld ?_
      · go_simp
        try (have := HK0.out; omega)
      simp only [List.getElem_toArray, List.getElem_cons_succ, List.getElem_cons_zero, Act.put, List.setIfInBounds_toArray, List.set_cons_zero, List.set_cons_succ]
      refine wpAnyX_take (i := 2) (v := .bool false) rfl (by kernel_rfl) (by kernel_rfl) (by kernel_rfl) (by kernel_rfl) (fun _ _ _ h => h) (Or.inl ⟨by rfl, fun w9 hSw => ?_⟩) hHeld ?_
      · go_simp
      simp only [List.getElem_toArray, List.getElem_cons_succ, List.getElem_cons_zero, Act.put, List.setIfInBounds_toArray, List.set_cons_zero, List.set_cons_succ]
      refine wpAnyX_take (i := 3) (v := undef) rfl (by kernel_rfl) (by kernel_rfl) (by kernel_rfl) (by kernel_rfl) (fun _ _ _ h => h) (Or.inr ⟨by rfl, rfl⟩) hHeld ?_
      simp only [List.getElem_toArray, List.getElem_cons_succ, List.getElem_cons_zero, Act.put, List.setIfInBounds_toArray, List.set_cons_zero, List.set_cons_succ]
      refine wpAnyX_take (i := 4) (v := undef) rfl (by kernel_rfl) (by kernel_rfl) (by kernel_rfl) (by kernel_rfl) (fun _ _ _ h => h) (Or.inr ⟨by rfl, rfl⟩) hHeld ?_
      simp only [List.getElem_toArray, List.getElem_cons_succ, List.getElem_cons_zero, Act.put, List.setIfInBounds_toArray, List.set_cons_zero, List.set_cons_succ]
      refine wpAnyX_take (i := 5) (v := undef) rfl (by kernel_rfl) (by kernel_rfl) (by kernel_rfl) (by kernel_rfl) (fun _ _ _ h => h) (Or.inr ⟨by rfl, rfl⟩) hHeld ?_
      simp only [List.getElem_toArray, List.getElem_cons_succ, List.getElem_cons_zero, Act.put, List.setIfInBounds_toArray, List.set_cons_zero, List.set_cons_succ]
      refine wpAnyX_take (i := 6) (v := undef) rfl (by kernel_rfl) (by kernel_rfl) (by kernel_rfl) (by kernel_rfl) (fun _ _ _ h => h) (Or.inr ⟨by rfl, rfl⟩) hHeld ?_
      simp only [List.getElem_toArray, List.getElem_cons_succ, List.getElem_cons_zero, Act.put, List.setIfInBounds_toArray, List.set_cons_zero, List.set_cons_succ]
      refine wpAnyX_take (i := 7) (v := undef) rfl (by kernel_rfl) (by kernel_rfl) (by kernel_rfl) (by kernel_rfl) (fun _ _ _ h => h) (Or.inr ⟨by rfl, rfl⟩) hHeld ?_
      simp only [List.getElem_toArray, List.getElem_cons_succ, List.getElem_cons_zero, Act.put, List.setIfInBounds_toArray, List.set_cons_zero, List.set_cons_succ]
      refine wpAnyX_take (i := 8) (v := undef) rfl (by kernel_rfl) (by kernel_rfl) (by kernel_rfl) (by kernel_rfl) (fun _ _ _ h => h) (Or.inr ⟨by rfl, rfl⟩) hHeld ?_
      simp only [List.getElem_toArray, List.getElem_cons_succ, List.getElem_cons_zero, Act.put, List.setIfInBounds_toArray, List.set_cons_zero, List.set_cons_succ]
      refine wpAnyX_take (i := 9) (v := undef) rfl (by kernel_rfl) (by kernel_rfl) (by kernel_rfl) (by kernel_rfl) (fun _ _ _ h => h) (Or.inr ⟨by rfl, rfl⟩) hHeld ?_
      simp only [List.getElem_toArray, List.getElem_cons_succ, List.getElem_cons_zero, Act.put, List.setIfInBounds_toArray, List.set_cons_zero, List.set_cons_succ]
      refine wpAnyX_take (i := 10) (v := undef) rfl (by kernel_rfl) (by kernel_rfl) (by kernel_rfl) (by kernel_rfl) (fun _ _ _ h => h) (Or.inr ⟨by rfl, rfl⟩) hHeld ?_
      simp only [List.getElem_toArray, List.getElem_cons_succ, List.getElem_cons_zero, Act.put, List.setIfInBounds_toArray, List.set_cons_zero, List.set_cons_succ]
      refine wpAnyX_take (i := 11) (v := undef) rfl (by kernel_rfl) (by kernel_rfl) (by kernel_rfl) (by kernel_rfl) (fun _ _ _ h => h) (Or.inr ⟨by rfl, rfl⟩) hHeld ?_
      simp only [List.getElem_toArray, List.getElem_cons_succ, List.getElem_cons_zero, Act.put, List.setIfInBounds_toArray, List.set_cons_zero, List.set_cons_succ]
      refine wpAnyX_take (i := 12) (v := undef) rfl (by kernel_rfl) (by kernel_rfl) (by kernel_rfl) (by kernel_rfl) (fun _ _ _ h => h) (Or.inr ⟨by rfl, rfl⟩) hHeld ?_
      simp only [List.getElem_toArray, List.getElem_cons_succ, List.getElem_cons_zero, Act.put, List.setIfInBounds_toArray, List.set_cons_zero, List.set_cons_succ]
      refine wpAnyX_take (i := 13) (v := undef) rfl (by kernel_rfl) (by kernel_rfl) (by kernel_rfl) (by kernel_rfl) (fun _ _ _ h => h) (Or.inr ⟨by rfl, rfl⟩) hHeld ?_
      simp only [List.getElem_toArray, List.getElem_cons_succ, List.getElem_cons_zero, Act.put, List.setIfInBounds_toArray, List.set_cons_zero, List.set_cons_succ]
      refine wpAnyX_take (i := 14) (v := undef) rfl (by kernel_rfl) (by kernel_rfl) (by kernel_rfl) (by kernel_rfl) (fun _ _ _ h => h) (Or.inr ⟨by rfl, rfl⟩) hHeld ?_
      simp only [List.getElem_toArray, List.getElem_cons_succ, List.getElem_cons_zero, Act.put, List.setIfInBounds_toArray, List.set_cons_zero, List.set_cons_succ]
      refine wpAnyX_take (i := 15) (v := .bool false) rfl (by kernel_rfl) (by kernel_rfl) (by kernel_rfl) (by kernel_rfl) (fun _ _ _ h => h) (Or.inl ⟨by rfl, fun w9 hSw => ?_⟩) hHeld ?_
      · go_simp
      simp only [List.getElem_toArray, List.getElem_cons_succ, List.getElem_cons_zero, Act.put, List.setIfInBounds_toArray, List.set_cons_zero, List.set_cons_succ]
      refine wpAnyX_done (by kernel_rfl) ?_ _
      have HB2 : Hid (Below w.heap.size w wr.drew ∧ wr.drew.heap[xb]? = some (.cells #[.int .i64 node, .int .i64 tag, .int .i64 T] 92)) := ⟨HBq.out.1.1.drew, HBq.out.1.2⟩
      clear HBq hHeld
      have HB := HB2
      clear HB2
      generalize wr.drew = wq at HB ⊢
      obtain ⟨xo, hxo⟩ : ∃ xo, xo = if tc = k then 0 else k * 3 := ⟨_, rfl⟩
      have HX : Hid (xo = if tc = k then 0 else k * 3) := hxo
      clear hxo
      go_wp2_with fail
      have HG : Hid (RIs wq b N ∧ Below w.heap.size w wq ∧ wq.heap[xb]? = some (.cells #[.int .i64 node, .int .i64 tag, .int .i64 T] 92)) := ⟨HS.out.1.below HB.out.1, HB.out.1, HB.out.2⟩
      have hS0 : wq.cell? ⟨b, 4, none⟩ = some (.slice (some ⟨g, 0, none⟩) n tc) ∧ wq.heap[xb]? = some (.cells #[.int .i64 node, .int .i64 tag, .int .i64 T] 92) := ⟨HG.out.1.cells.2.2.2.2.trans (by rw [HS.out.2.1]), HG.out.2.2⟩
      go_wp2_with fail
      refine wp_region_X (fun j => j == 21) (S := fun w' => w'.cell? ⟨b, 4, none⟩ = some (.slice (some ⟨g, 0, none⟩) n tc) ∧ w'.heap[xb]? = some (.cells #[.int .i64 node, .int .i64 tag, .int .i64 T] 92)) (by kernel_rfl) hS0 (fun hHeld => ?_)
      refine wpAnyX_take (i := 0) (v := .pointer (some ⟨b, 0, none⟩)) rfl (by kernel_rfl) (by kernel_rfl) (by kernel_rfl) (by kernel_rfl) (fun _ _ _ h => h) (Or.inl ⟨by rfl, fun w9 hSw => ?_⟩) hHeld ?_
      · go_simp
      simp only [List.getElem_toArray, List.getElem_cons_succ, List.getElem_cons_zero, Act.put, List.setIfInBounds_toArray, List.set_cons_zero, List.set_cons_succ]
      refine wpAnyX_take (i := 2) (v := .pointer (some ⟨b, 0, none⟩)) rfl (by kernel_rfl) (by kernel_rfl) (by kernel_rfl) (by kernel_rfl) (fun _ _ _ h => h) (Or.inl ⟨by rfl, fun w9 hSw => ?_⟩) hHeld ?_
      · go_simp
      simp only [List.getElem_toArray, List.getElem_cons_succ, List.getElem_cons_zero, Act.put, List.setIfInBounds_toArray, List.set_cons_zero, List.set_cons_succ]
      refine wpAnyX_take (i := 3) (v := .pointer (some ⟨b, 0, none⟩)) rfl (by kernel_rfl) (by kernel_rfl) (by kernel_rfl) (by kernel_rfl) (fun _ _ _ h => h) (Or.inl ⟨by rfl, fun w9 hSw => ?_⟩) hHeld ?_
      · go_simp
      simp only [List.getElem_toArray, List.getElem_cons_succ, List.getElem_cons_zero, Act.put, List.setIfInBounds_toArray, List.set_cons_zero, List.set_cons_succ]
      refine wpAnyX_take (i := 4) (v := .pointer (some ⟨b, 4, none⟩)) rfl (by kernel_rfl) (by kernel_rfl) (by kernel_rfl) (by kernel_rfl) (fun _ _ _ h => h) (Or.inl ⟨by rfl, fun w9 hSw => ?_⟩) hHeld ?_
      · go_simp
      simp only [List.getElem_toArray, List.getElem_cons_succ, List.getElem_cons_zero, Act.put, List.setIfInBounds_toArray, List.set_cons_zero, List.set_cons_succ]
      refine wpAnyX_take (i := 5) (v := .slice (some ⟨g, 0, none⟩) n tc) rfl (by kernel_rfl) (by kernel_rfl) (by kernel_rfl) (by kernel_rfl) (fun _ _ _ h => h) (Or.inl ⟨by rfl, fun w9 hSw => ?_⟩) hHeld ?_
      · obtain ⟨hc, hx⟩ := hSw
        go_simp
      simp only [List.getElem_toArray, List.getElem_cons_succ, List.getElem_cons_zero, Act.put, List.setIfInBounds_toArray, List.set_cons_zero, List.set_cons_succ]
      refine wpAnyX_take (i := 6) (v := .int .i64 k) rfl (by kernel_rfl) (by kernel_rfl) (by kernel_rfl) (by kernel_rfl) (fun _ _ _ h => h) (Or.inl ⟨by rfl, fun w9 hSw => ?_⟩) hHeld ?_
      · go_simp
      simp only [List.getElem_toArray, List.getElem_cons_succ, List.getElem_cons_zero, Act.put, List.setIfInBounds_toArray, List.set_cons_zero, List.set_cons_succ]
      refine wpAnyX_take (i := 7) (v := .slice (some ⟨g, 0, none⟩) k tc) rfl (by kernel_rfl) (by kernel_rfl) (by kernel_rfl) (by kernel_rfl) (fun _ _ _ h => h) (Or.inl ⟨by rfl, fun w9 hSw => ?_⟩) hHeld ?_
      · go_simp
        intro hx
        omega
      simp only [List.getElem_toArray, List.getElem_cons_succ, List.getElem_cons_zero, Act.put, List.setIfInBounds_toArray, List.set_cons_zero, List.set_cons_succ]
      refine wpAnyX_take (i := 12) (v := .pointer (some ⟨b, 0, none⟩)) rfl (by kernel_rfl) (by kernel_rfl) (by kernel_rfl) (by kernel_rfl) (fun _ _ _ h => h) (Or.inl ⟨by rfl, fun w9 hSw => ?_⟩) hHeld ?_
      · go_simp
      simp only [List.getElem_toArray, List.getElem_cons_succ, List.getElem_cons_zero, Act.put, List.setIfInBounds_toArray, List.set_cons_zero, List.set_cons_succ]
      refine wpAnyX_take (i := 13) (v := .pointer (some ⟨b, 0, none⟩)) rfl (by kernel_rfl) (by kernel_rfl) (by kernel_rfl) (by kernel_rfl) (fun _ _ _ h => h) (Or.inl ⟨by rfl, fun w9 hSw => ?_⟩) hHeld ?_
      · go_simp
      simp only [List.getElem_toArray, List.getElem_cons_succ, List.getElem_cons_zero, Act.put, List.setIfInBounds_toArray, List.set_cons_zero, List.set_cons_succ]
      refine wpAnyX_take (i := 14) (v := .pointer (some ⟨b, 4, none⟩)) rfl (by kernel_rfl) (by kernel_rfl) (by kernel_rfl) (by kernel_rfl) (fun _ _ _ h => h) (Or.inl ⟨by rfl, fun w9 hSw => ?_⟩) hHeld ?_
      · go_simp
      simp only [List.getElem_toArray, List.getElem_cons_succ, List.getElem_cons_zero, Act.put, List.setIfInBounds_toArray, List.set_cons_zero, List.set_cons_succ]
      refine wpAnyX_take (i := 15) (v := .slice (some ⟨g, 0, none⟩) n tc) rfl (by kernel_rfl) (by kernel_rfl) (by kernel_rfl) (by kernel_rfl) (fun _ _ _ h => h) (Or.inl ⟨by rfl, fun w9 hSw => ?_⟩) hHeld ?_
      · obtain ⟨hc, hx⟩ := hSw
        go_simp
      simp only [List.getElem_toArray, List.getElem_cons_succ, List.getElem_cons_zero, Act.put, List.setIfInBounds_toArray, List.set_cons_zero, List.set_cons_succ]
      refine wpAnyX_take (i := 16) (v := .int .i64 k) rfl (by kernel_rfl) (by kernel_rfl) (by kernel_rfl) (by kernel_rfl) (fun _ _ _ h => h) (Or.inl ⟨by rfl, fun w9 hSw => ?_⟩) hHeld ?_
      · go_simp
      simp only [List.getElem_toArray, List.getElem_cons_succ, List.getElem_cons_zero, Act.put, List.setIfInBounds_toArray, List.set_cons_zero, List.set_cons_succ]
      refine wpAnyX_take (i := 17) (v := .slice (some ⟨g, xo, none⟩) (n - k) (tc - k)) rfl (by kernel_rfl) (by kernel_rfl) (by kernel_rfl) (by kernel_rfl) (fun _ _ _ h => h) (Or.inl ⟨by rfl, fun w9 hSw => ?_⟩) hHeld ?_
      · go_simp
        rw [HX.out]
        by_cases hq : tc = k
        · simp only [if_pos hq]
        · simp only [if_neg hq]
      simp only [List.getElem_toArray, List.getElem_cons_succ, List.getElem_cons_zero, Act.put, List.setIfInBounds_toArray, List.set_cons_zero, List.set_cons_succ]
      refine wpAnyX_take (i := 9) (v := .agg #[.int .i64 node, .int .i64 tag, .int .i64 T]) rfl (by kernel_rfl) (by kernel_rfl) (by kernel_rfl) (by kernel_rfl) (fun _ _ _ h => h) (Or.inl ⟨by rfl, fun w9 hSw => ?_⟩) hHeld ?_
      · have k0 : w9.cell? ⟨xb, 0, none⟩ = some (.int .i64 node) := (cell_of_block hSw.2 0).trans rfl
        have k1 : w9.cell? ⟨xb, 1, none⟩ = some (.int .i64 tag) := (cell_of_block hSw.2 1).trans rfl
        have k2 : w9.cell? ⟨xb, 2, none⟩ = some (.int .i64 T) := (cell_of_block hSw.2 2).trans rfl
        go_simp
      simp only [List.getElem_toArray, List.getElem_cons_succ, List.getElem_cons_zero, Act.put, List.setIfInBounds_toArray, List.set_cons_zero, List.set_cons_succ]
      have H4 : Hid (RIs wq.drew b N ∧ Below w.heap.size w wq.drew) := ⟨HG.out.1.below ⟨rfl, rfl, rfl, Nat.le_refl _, fun _ _ => rfl⟩, HG.out.2.1.drew⟩
      clear hS0
      generalize wq.drew = w4 at hHeld H4 ⊢
      have HH : Hid (w4.cell? ⟨b, 4, none⟩ = some (.slice (some ⟨g, 0, none⟩) n tc) ∧ w4.heap[xb]? = some (.cells #[.int .i64 node, .int .i64 tag, .int .i64 T] 92)) := hHeld
      clear hHeld
      refine wpAnyX_two (i := 1) (j := 10) (by kernel_rfl) rfl rfl (by rfl) (by rfl) (fun K hK => ?_) (fun K hK => ?_)
      · have hE := empty92 w4
        have hEb : Below w4.heap.size w4 (w4.alloc (.cells #[] 92)) := (Below.refl _ w4).alloc (Nat.le_refl _) _
        obtain ⟨rb, hrb⟩ : ∃ rb, rb = w4.heap.size := ⟨_, rfl⟩
        go_simp
        rw [← hrb] at hE ⊢
        generalize hnw : w4.alloc (.cells #[] 92) = wa at hE hEb ⊢
        clear hnw
        have HA : Hid (Below w4.heap.size w4 wa ∧ wa.ownsRow 0 92 3 (.slice (some ⟨rb, 0, none⟩) 0 0) 0 [] ∧ (∀ x, (Value.slice (some ⟨rb, 0, none⟩) 0 0).ownBlock = some x → w4.heap.size ≤ x)) := ⟨hEb, hE, fun x hx => (by have h9 : rb = x := (by simpa [Value.ownBlock] using hx); omega)⟩
        clear hE hEb hrb
        refine hK.out _ _ (Or.inr (show wa.cell? ⟨b, 4, none⟩ = some (.slice (some ⟨g, 0, none⟩) n tc) ∧ wa.heap[xb]? = some (.cells #[.int .i64 node, .int .i64 tag, .int .i64 T] 92) from ⟨(HA.out.1.cell H4.out.1.lt).trans HH.out.1, (HA.out.1.block xb (heap_lt HH.out.2)).trans HH.out.2⟩)) ?_
        clear hK K
        try simp only [List.getElem_toArray, List.getElem_cons_succ, List.getElem_cons_zero, Act.put, List.setIfInBounds_toArray, List.set_cons_zero, List.set_cons_succ]
        refine wpAnyX_two (i := 8) (j := 10) (by kernel_rfl) rfl rfl (by rfl) (by rfl) (fun K hK => ?_) (fun K hK => ?_)
        · have hB := HA.out.1
          refine elU.wp_appendG (.tmp 67) (.tmp 73) rfl 0 (.slice (some ⟨rb, 0, none⟩) 0 0) 0 [] rfl HA.out.2.1 (some ⟨g, 0, none⟩) k tc rfl (fun e => by cases e) ((tmL N.tm).take (k * 3)) (by rw [List.length_take, tmL_length]; have := HS.out.2.2.1; omega) (fun j u hu => by
            rw [List.getElem?_take] at hu
            split at hu
            · obtain ⟨g9, o9, e9, hc9⟩ := HS.out.2.2.2.1 j u hu
              have hc8 := (H4.out.2.cell (p := ⟨g9, o9 + j, none⟩) (cell_lt hc9)).trans hc9
              exact ⟨g9, o9, e9, (hB.cell (p := ⟨g9, o9 + j, none⟩) (cell_lt hc8)).trans hc8⟩
            · cases hu) (fun u hu => tmL_one N.tm u (List.mem_of_mem_take hu)) (by omega) (Nat.zero_le _) ?_
          intro v8 we ho8 hg8 ha8
          rw [List.nil_append, Nat.zero_add] at ho8
          obtain ⟨v8a, v8c, rfl⟩ := row_form ho8
          have hB8 : Below w4.heap.size w4 we := hB.grown hg8 hB.size (fun jj hjj => HA.out.2.2 jj hjj)
          have hfr : ∀ x, (Value.slice v8a k v8c).ownBlock = some x → w4.heap.size ≤ x := fun x hx => by
            rcases ha8 with e | e
            · rw [e] at hx
              exact HA.out.2.2 x hx
            · rw [e] at hx
              injection hx with hx
              have := hB.size
              skip
              omega
          have HA2 : Hid (Below w4.heap.size w4 we ∧ we.ownsRow 0 92 3 (.slice v8a k v8c) k ((tmL N.tm).take (k * 3)) ∧ (∀ x, (Value.slice v8a k v8c).ownBlock = some x → w4.heap.size ≤ x)) := ⟨hB8, ho8, hfr⟩
          clear HA hB ho8 hg8 ha8 hB8 hfr
          have HA := HA2
          clear HA2
          refine hK.out _ _ (Or.inr (show we.cell? ⟨b, 4, none⟩ = some (.slice (some ⟨g, 0, none⟩) n tc) ∧ we.heap[xb]? = some (.cells #[.int .i64 node, .int .i64 tag, .int .i64 T] 92) from ⟨(HA.out.1.cell H4.out.1.lt).trans HH.out.1, (HA.out.1.block xb (heap_lt HH.out.2)).trans HH.out.2⟩)) ?_
          clear hK K
          try simp only [List.getElem_toArray, List.getElem_cons_succ, List.getElem_cons_zero, Act.put, List.setIfInBounds_toArray, List.set_cons_zero, List.set_cons_succ]
          refine wpAnyX_one (i := 10) (by kernel_rfl) rfl (by rfl) (fun K hK => ?_)
          have hEb : Below we.heap.size we (we.alloc (.cells #[.int .i64 node, .int .i64 tag, .int .i64 T] 92)) := (Below.refl _ we).alloc (Nat.le_refl _) _
          have hEn : (we.alloc (.cells #[.int .i64 node, .int .i64 tag, .int .i64 T] 92)).heap[we.heap.size]? = some (.cells #[.int .i64 node, .int .i64 tag, .int .i64 T] 92) := heap_alloc_new _ _
          obtain ⟨sb, hsb⟩ : ∃ sb, sb = we.heap.size := ⟨_, rfl⟩
          go_simp
          rw [← hsb] at hEn ⊢
          generalize hnw : we.alloc (.cells #[.int .i64 node, .int .i64 tag, .int .i64 T] 92) = wf at hEn hEb ⊢
          clear hnw
          have HA2 : Hid (Below w4.heap.size w4 wf ∧ wf.ownsRow 0 92 3 (.slice v8a k v8c) k ((tmL N.tm).take (k * 3)) ∧ (∀ x, (.slice v8a k v8c : Value).ownBlock = some x → w4.heap.size ≤ x ∧ x ≠ sb) ∧ wf.heap[sb]? = some (.cells #[.int .i64 node, .int .i64 tag, .int .i64 T] 92)) := ⟨HA.out.1.trans (hEb.mono HA.out.1.size), ownsRow_heap HA.out.2.1 (fun x hx => hEb.block x (HA.out.2.1.lt x hx).2), fun x hx => ⟨HA.out.2.2 x hx, fun e => by have := (HA.out.2.1.lt x hx).2; omega⟩, hEn⟩
          clear HA
          have HA := HA2
          clear HA2
          clear hEn hEb hsb
          refine hK.out _ _ (Or.inr (show wf.cell? ⟨b, 4, none⟩ = some (.slice (some ⟨g, 0, none⟩) n tc) ∧ wf.heap[xb]? = some (.cells #[.int .i64 node, .int .i64 tag, .int .i64 T] 92) from ⟨(HA.out.1.cell H4.out.1.lt).trans HH.out.1, (HA.out.1.block xb (heap_lt HH.out.2)).trans HH.out.2⟩)) ?_
          clear hK K
          try simp only [List.getElem_toArray, List.getElem_cons_succ, List.getElem_cons_zero, Act.put, List.setIfInBounds_toArray, List.set_cons_zero, List.set_cons_succ]
          refine wpAnyX_one (i := 11) (by kernel_rfl) rfl (by rfl) (fun K hK => ?_)
          have hB := HA.out.1
          refine elU.wp_append (.tmp 74) (.tmp 76) rfl 0 (.slice v8a k v8c) k ((tmL N.tm).take (k * 3)) rfl HA.out.2.1 ⟨sb, 0, none⟩ 1 1 rfl (tmC ⟨node, tag, T⟩) rfl (fun j u hu => by
            rw [Addr.add_lit, Nat.zero_add, cell_of_block HA.out.2.2.2]
            simpa [tmC] using hu) (fun u hu => by simp only [tmC, List.mem_cons, List.not_mem_nil, or_false] at hu; rcases hu with rfl | rfl | rfl <;> rfl) (by omega) (Nat.zero_le _) ?_
          intro v9 wg ho9 hg9 ha9
          obtain ⟨v9a, v9c, rfl⟩ := row_form ho9
          have HD : Hid (Below w4.heap.size w4 wg ∧ wg.ownsRow 0 92 3 (.slice v9a (k + 1) v9c) (k + 1) ((tmL N.tm).take (k * 3) ++ tmC ⟨node, tag, T⟩) ∧ (∀ x, (Value.slice v9a (k + 1) v9c).ownBlock = some x → w4.heap.size ≤ x)) := ⟨hB.grown hg9 hB.size (fun jj hjj => (HA.out.2.2.1 jj hjj).1), ho9, fun x hx => by
            rcases ha9 with e | e
            · rw [e] at hx
              exact (HA.out.2.2.1 x hx).1
            · rw [e] at hx
              injection hx with hx
              have := hB.size
              omega⟩
          clear HA hB ho9 hg9 ha9
          refine hK.out _ _ (Or.inr (show wg.cell? ⟨b, 4, none⟩ = some (.slice (some ⟨g, 0, none⟩) n tc) ∧ wg.heap[xb]? = some (.cells #[.int .i64 node, .int .i64 tag, .int .i64 T] 92) from ⟨(HD.out.1.cell H4.out.1.lt).trans HH.out.1, (HD.out.1.block xb (heap_lt HH.out.2)).trans HH.out.2⟩)) ?_
          clear hK K
          try simp only [List.getElem_toArray, List.getElem_cons_succ, List.getElem_cons_zero, Act.put, List.setIfInBounds_toArray, List.set_cons_zero, List.set_cons_succ]
          refine wpAnyX_one (i := 18) (by kernel_rfl) rfl (by rfl) (fun K hK => ?_)
          have hB := HD.out.1
          have hxo := HX.out
          refine elU.wp_appendG (.tmp 77) (.tmp 83) rfl 0 (.slice v9a (k + 1) v9c) (k + 1) ((tmL N.tm).take (k * 3) ++ tmC ⟨node, tag, T⟩) rfl HD.out.2.1 (some ⟨g, xo, none⟩) (n - k) (tc - k) rfl (fun e => by cases e) ((tmL N.tm).drop (k * 3)) (by rw [List.length_drop, tmL_length]; have := HS.out.2.2.1; omega) (fun j u hu => by
            rw [List.getElem?_drop] at hu
            have hj := (List.getElem?_eq_some_iff.1 hu).1
            rw [tmL_length] at hj
            obtain ⟨g9, o9, e9, hc9⟩ := HS.out.2.2.2.1 _ u hu
            have hc8 := (H4.out.2.cell (p := ⟨g9, o9 + (k * 3 + j), none⟩) (cell_lt hc9)).trans hc9
            have hc7 := (hB.cell (p := ⟨g9, o9 + (k * 3 + j), none⟩) (cell_lt hc8)).trans hc8
            injection e9 with e9
            injection e9 with e9 e10
            subst e9 e10
            have hnl := HS.out.2.2.1
            rw [if_neg (by omega)] at hxo
            refine ⟨g, xo, rfl, ?_⟩
            rw [hxo]
            rw [Nat.zero_add] at hc7
            exact hc7) (fun u hu => tmL_one N.tm u (List.mem_of_mem_drop hu)) (by omega) (Nat.zero_le _) ?_
          intro v10 wh ho10 hg10 ha10
          have hsl := HT.out
          have hlen : (k + 1 + (n - k)) = (insT N.tm ⟨node, tag, T⟩).length := by rw [ins_length]; have := HS.out.2.2.1; omega
          have hrw : (tmL N.tm).take (k * 3) ++ tmC ⟨node, tag, T⟩ ++ (tmL N.tm).drop (k * 3) = tmL (insT N.tm ⟨node, tag, T⟩) := by
            unfold insT
            rw [hsl, tmL_append, tmL_append, tmL_take, tmL_drop]
            simp [tmL]
          rw [hrw, hlen] at ho10
          obtain ⟨v10a, v10c, rfl⟩ := row_form ho10
          have hB10 : Below w4.heap.size w4 wh := hB.grown hg10 hB.size (fun jj hjj => HD.out.2.2 jj hjj)
          have hend := rsetT_end (v := .slice v10a (insT N.tm ⟨node, tag, T⟩).length v10c) (l := insT N.tm ⟨node, tag, T⟩) H4.out.1 (gb_of_below hB10 _) ho10 (Or.inr (fun x hx => by
            rcases ha10 with e | e
            · rw [e] at hx
              exact HD.out.2.2 x hx
            · rw [e] at hx
              injection hx with hx
              have := hB.size
              omega))
          have z10 : wh.frozen? ⟨b, 4, none⟩ = false := unfrozen_of_block ((hB10.block b H4.out.1.lt).trans H4.out.1.net) 4
          have HE : Hid (RIs (wh.setCell ⟨b, 4, none⟩ (.slice v10a (insT N.tm ⟨node, tag, T⟩).length v10c)) b (rsetT N (.slice v10a (insT N.tm ⟨node, tag, T⟩).length v10c) (insT N.tm ⟨node, tag, T⟩)) ∧ RFr w (wh.setCell ⟨b, 4, none⟩ (.slice v10a (insT N.tm ⟨node, tag, T⟩).length v10c)) N (rsetT N (.slice v10a (insT N.tm ⟨node, tag, T⟩).length v10c) (insT N.tm ⟨node, tag, T⟩)) ∧ Below w4.heap.size w4 wh) := ⟨hend.1, (RFr.below H4.out.2).trans hend.2, hB10⟩
          clear hB ho10 hg10 ha10 hsl hrw hend hB10 HD hlen hxo
          generalize (insT N.tm ⟨node, tag, T⟩).length = q at *
          have c10 := (show wh.cell? ⟨b, 4, none⟩ = some (.slice (some ⟨g, 0, none⟩) n tc) ∧ wh.heap[xb]? = some (.cells #[.int .i64 node, .int .i64 tag, .int .i64 T] 92) from ⟨(HE.out.2.2.cell H4.out.1.lt).trans HH.out.1, (HE.out.2.2.block xb (heap_lt HH.out.2)).trans HH.out.2⟩)
          have cc := c10.1
          refine hK.out _ _ (Or.inr c10) ?_
          clear hK K
          try simp only [List.getElem_toArray, List.getElem_cons_succ, List.getElem_cons_zero, Act.put, List.setIfInBounds_toArray, List.set_cons_zero, List.set_cons_succ]
          refine wpAnyX_one (i := 19) (by kernel_rfl) rfl (by rfl) (fun K hK => ?_)
          go_wp2_with fail
          refine hK.out _ _ (Or.inr c10) ?_
          clear hK K
          try simp only [List.getElem_toArray, List.getElem_cons_succ, List.getElem_cons_zero, Act.put, List.setIfInBounds_toArray, List.set_cons_zero, List.set_cons_succ]
          refine wpAnyX_one (i := 20) (by kernel_rfl) rfl (by rfl) (fun K hK => ?_)
          go_wp2_with fail
          refine hK.out _ _ (Or.inr c10) ?_
          clear hK K
          try simp only [List.getElem_toArray, List.getElem_cons_succ, List.getElem_cons_zero, Act.put, List.setIfInBounds_toArray, List.set_cons_zero, List.set_cons_succ]
          refine wpAnyX_one (i := 21) (by kernel_rfl) rfl (by rfl) (fun K hK => ?_)
          go_wp2_with fail
          refine hK.out _ _ (Or.inl rfl) ?_
          clear hK K
          try simp only [List.getElem_toArray, List.getElem_cons_succ, List.getElem_cons_zero, Act.put, List.setIfInBounds_toArray, List.set_cons_zero, List.set_cons_succ]
          refine wpAnyX_done (by kernel_rfl) ?_ _
          clear c10 cc z10
          go_wp2_with fail
          go_ret
          refine ⟨rfl, _, HE.out.1, HE.out.2.1, ?_⟩
          have hA := HAB.out
          unfold absR rsetT
          rw [hA]
        · have hEb : Below wa.heap.size wa (wa.alloc (.cells #[.int .i64 node, .int .i64 tag, .int .i64 T] 92)) := (Below.refl _ wa).alloc (Nat.le_refl _) _
          have hEn : (wa.alloc (.cells #[.int .i64 node, .int .i64 tag, .int .i64 T] 92)).heap[wa.heap.size]? = some (.cells #[.int .i64 node, .int .i64 tag, .int .i64 T] 92) := heap_alloc_new _ _
          obtain ⟨sb, hsb⟩ : ∃ sb, sb = wa.heap.size := ⟨_, rfl⟩
          go_simp
          rw [← hsb] at hEn ⊢
          generalize hnw : wa.alloc (.cells #[.int .i64 node, .int .i64 tag, .int .i64 T] 92) = wab at hEn hEb ⊢
          clear hnw
          have HA2 : Hid (Below w4.heap.size w4 wab ∧ wab.ownsRow 0 92 3 (.slice (some ⟨rb, 0, none⟩) 0 0) 0 [] ∧ (∀ x, (.slice (some ⟨rb, 0, none⟩) 0 0 : Value).ownBlock = some x → w4.heap.size ≤ x ∧ x ≠ sb) ∧ wab.heap[sb]? = some (.cells #[.int .i64 node, .int .i64 tag, .int .i64 T] 92)) := ⟨HA.out.1.trans (hEb.mono HA.out.1.size), ownsRow_heap HA.out.2.1 (fun x hx => hEb.block x (HA.out.2.1.lt x hx).2), fun x hx => ⟨HA.out.2.2 x hx, fun e => by have := (HA.out.2.1.lt x hx).2; omega⟩, hEn⟩
          clear HA
          have HA := HA2
          clear HA2
          clear hEn hEb hsb
          refine hK.out _ _ (Or.inr (show wab.cell? ⟨b, 4, none⟩ = some (.slice (some ⟨g, 0, none⟩) n tc) ∧ wab.heap[xb]? = some (.cells #[.int .i64 node, .int .i64 tag, .int .i64 T] 92) from ⟨(HA.out.1.cell H4.out.1.lt).trans HH.out.1, (HA.out.1.block xb (heap_lt HH.out.2)).trans HH.out.2⟩)) ?_
          clear hK K
          try simp only [List.getElem_toArray, List.getElem_cons_succ, List.getElem_cons_zero, Act.put, List.setIfInBounds_toArray, List.set_cons_zero, List.set_cons_succ]
          refine wpAnyX_one (i := 8) (by kernel_rfl) rfl (by rfl) (fun K hK => ?_)
          have hB := HA.out.1
          refine elU.wp_appendG (.tmp 67) (.tmp 73) rfl 0 (.slice (some ⟨rb, 0, none⟩) 0 0) 0 [] rfl HA.out.2.1 (some ⟨g, 0, none⟩) k tc rfl (fun e => by cases e) ((tmL N.tm).take (k * 3)) (by rw [List.length_take, tmL_length]; have := HS.out.2.2.1; omega) (fun j u hu => by
            rw [List.getElem?_take] at hu
            split at hu
            · obtain ⟨g9, o9, e9, hc9⟩ := HS.out.2.2.2.1 j u hu
              have hc8 := (H4.out.2.cell (p := ⟨g9, o9 + j, none⟩) (cell_lt hc9)).trans hc9
              exact ⟨g9, o9, e9, (hB.cell (p := ⟨g9, o9 + j, none⟩) (cell_lt hc8)).trans hc8⟩
            · cases hu) (fun u hu => tmL_one N.tm u (List.mem_of_mem_take hu)) (by omega) (Nat.zero_le _) ?_
          intro v8 wf ho8 hg8 ha8
          rw [List.nil_append, Nat.zero_add] at ho8
          obtain ⟨v8a, v8c, rfl⟩ := row_form ho8
          have hB8 : Below w4.heap.size w4 wf := hB.grown hg8 hB.size (fun jj hjj => (HA.out.2.2.1 jj hjj).1)
          have hfr : ∀ x, (Value.slice v8a k v8c).ownBlock = some x → w4.heap.size ≤ x ∧ x ≠ sb := fun x hx => by
            rcases ha8 with e | e
            · rw [e] at hx
              exact HA.out.2.2.1 x hx
            · rw [e] at hx
              injection hx with hx
              have := hB.size
              have := heap_lt HA.out.2.2.2
              omega
          have HA2 : Hid (Below w4.heap.size w4 wf ∧ wf.ownsRow 0 92 3 (.slice v8a k v8c) k ((tmL N.tm).take (k * 3)) ∧ (∀ x, (Value.slice v8a k v8c).ownBlock = some x → w4.heap.size ≤ x ∧ x ≠ sb) ∧ wf.heap[sb]? = some (.cells #[.int .i64 node, .int .i64 tag, .int .i64 T] 92)) := ⟨hB8, ho8, hfr, (hg8.block sb (heap_lt HA.out.2.2.2) (fun e => (HA.out.2.2.1 sb e.symm).2 rfl)).trans HA.out.2.2.2⟩
          clear HA hB ho8 hg8 ha8 hB8 hfr
          have HA := HA2
          clear HA2
          refine hK.out _ _ (Or.inr (show wf.cell? ⟨b, 4, none⟩ = some (.slice (some ⟨g, 0, none⟩) n tc) ∧ wf.heap[xb]? = some (.cells #[.int .i64 node, .int .i64 tag, .int .i64 T] 92) from ⟨(HA.out.1.cell H4.out.1.lt).trans HH.out.1, (HA.out.1.block xb (heap_lt HH.out.2)).trans HH.out.2⟩)) ?_
          clear hK K
          try simp only [List.getElem_toArray, List.getElem_cons_succ, List.getElem_cons_zero, Act.put, List.setIfInBounds_toArray, List.set_cons_zero, List.set_cons_succ]
          refine wpAnyX_one (i := 11) (by kernel_rfl) rfl (by rfl) (fun K hK => ?_)
          have hB := HA.out.1
          refine elU.wp_append (.tmp 74) (.tmp 76) rfl 0 (.slice v8a k v8c) k ((tmL N.tm).take (k * 3)) rfl HA.out.2.1 ⟨sb, 0, none⟩ 1 1 rfl (tmC ⟨node, tag, T⟩) rfl (fun j u hu => by
            rw [Addr.add_lit, Nat.zero_add, cell_of_block HA.out.2.2.2]
            simpa [tmC] using hu) (fun u hu => by simp only [tmC, List.mem_cons, List.not_mem_nil, or_false] at hu; rcases hu with rfl | rfl | rfl <;> rfl) (by omega) (Nat.zero_le _) ?_
          intro v9 wg ho9 hg9 ha9
          obtain ⟨v9a, v9c, rfl⟩ := row_form ho9
          have HD : Hid (Below w4.heap.size w4 wg ∧ wg.ownsRow 0 92 3 (.slice v9a (k + 1) v9c) (k + 1) ((tmL N.tm).take (k * 3) ++ tmC ⟨node, tag, T⟩) ∧ (∀ x, (Value.slice v9a (k + 1) v9c).ownBlock = some x → w4.heap.size ≤ x)) := ⟨hB.grown hg9 hB.size (fun jj hjj => (HA.out.2.2.1 jj hjj).1), ho9, fun x hx => by
            rcases ha9 with e | e
            · rw [e] at hx
              exact (HA.out.2.2.1 x hx).1
            · rw [e] at hx
              injection hx with hx
              have := hB.size
              omega⟩
          clear HA hB ho9 hg9 ha9
          refine hK.out _ _ (Or.inr (show wg.cell? ⟨b, 4, none⟩ = some (.slice (some ⟨g, 0, none⟩) n tc) ∧ wg.heap[xb]? = some (.cells #[.int .i64 node, .int .i64 tag, .int .i64 T] 92) from ⟨(HD.out.1.cell H4.out.1.lt).trans HH.out.1, (HD.out.1.block xb (heap_lt HH.out.2)).trans HH.out.2⟩)) ?_
          clear hK K
          try simp only [List.getElem_toArray, List.getElem_cons_succ, List.getElem_cons_zero, Act.put, List.setIfInBounds_toArray, List.set_cons_zero, List.set_cons_succ]
          refine wpAnyX_one (i := 18) (by kernel_rfl) rfl (by rfl) (fun K hK => ?_)
          have hB := HD.out.1
          have hxo := HX.out
          refine elU.wp_appendG (.tmp 77) (.tmp 83) rfl 0 (.slice v9a (k + 1) v9c) (k + 1) ((tmL N.tm).take (k * 3) ++ tmC ⟨node, tag, T⟩) rfl HD.out.2.1 (some ⟨g, xo, none⟩) (n - k) (tc - k) rfl (fun e => by cases e) ((tmL N.tm).drop (k * 3)) (by rw [List.length_drop, tmL_length]; have := HS.out.2.2.1; omega) (fun j u hu => by
            rw [List.getElem?_drop] at hu
            have hj := (List.getElem?_eq_some_iff.1 hu).1
            rw [tmL_length] at hj
            obtain ⟨g9, o9, e9, hc9⟩ := HS.out.2.2.2.1 _ u hu
            have hc8 := (H4.out.2.cell (p := ⟨g9, o9 + (k * 3 + j), none⟩) (cell_lt hc9)).trans hc9
            have hc7 := (hB.cell (p := ⟨g9, o9 + (k * 3 + j), none⟩) (cell_lt hc8)).trans hc8
            injection e9 with e9
            injection e9 with e9 e10
            subst e9 e10
            have hnl := HS.out.2.2.1
            rw [if_neg (by omega)] at hxo
            refine ⟨g, xo, rfl, ?_⟩
            rw [hxo]
            rw [Nat.zero_add] at hc7
            exact hc7) (fun u hu => tmL_one N.tm u (List.mem_of_mem_drop hu)) (by omega) (Nat.zero_le _) ?_
          intro v10 wh ho10 hg10 ha10
          have hsl := HT.out
          have hlen : (k + 1 + (n - k)) = (insT N.tm ⟨node, tag, T⟩).length := by rw [ins_length]; have := HS.out.2.2.1; omega
          have hrw : (tmL N.tm).take (k * 3) ++ tmC ⟨node, tag, T⟩ ++ (tmL N.tm).drop (k * 3) = tmL (insT N.tm ⟨node, tag, T⟩) := by
            unfold insT
            rw [hsl, tmL_append, tmL_append, tmL_take, tmL_drop]
            simp [tmL]
          rw [hrw, hlen] at ho10
          obtain ⟨v10a, v10c, rfl⟩ := row_form ho10
          have hB10 : Below w4.heap.size w4 wh := hB.grown hg10 hB.size (fun jj hjj => HD.out.2.2 jj hjj)
          have hend := rsetT_end (v := .slice v10a (insT N.tm ⟨node, tag, T⟩).length v10c) (l := insT N.tm ⟨node, tag, T⟩) H4.out.1 (gb_of_below hB10 _) ho10 (Or.inr (fun x hx => by
            rcases ha10 with e | e
            · rw [e] at hx
              exact HD.out.2.2 x hx
            · rw [e] at hx
              injection hx with hx
              have := hB.size
              omega))
          have z10 : wh.frozen? ⟨b, 4, none⟩ = false := unfrozen_of_block ((hB10.block b H4.out.1.lt).trans H4.out.1.net) 4
          have HE : Hid (RIs (wh.setCell ⟨b, 4, none⟩ (.slice v10a (insT N.tm ⟨node, tag, T⟩).length v10c)) b (rsetT N (.slice v10a (insT N.tm ⟨node, tag, T⟩).length v10c) (insT N.tm ⟨node, tag, T⟩)) ∧ RFr w (wh.setCell ⟨b, 4, none⟩ (.slice v10a (insT N.tm ⟨node, tag, T⟩).length v10c)) N (rsetT N (.slice v10a (insT N.tm ⟨node, tag, T⟩).length v10c) (insT N.tm ⟨node, tag, T⟩)) ∧ Below w4.heap.size w4 wh) := ⟨hend.1, (RFr.below H4.out.2).trans hend.2, hB10⟩
          clear hB ho10 hg10 ha10 hsl hrw hend hB10 HD hlen hxo
          generalize (insT N.tm ⟨node, tag, T⟩).length = q at *
          have c10 := (show wh.cell? ⟨b, 4, none⟩ = some (.slice (some ⟨g, 0, none⟩) n tc) ∧ wh.heap[xb]? = some (.cells #[.int .i64 node, .int .i64 tag, .int .i64 T] 92) from ⟨(HE.out.2.2.cell H4.out.1.lt).trans HH.out.1, (HE.out.2.2.block xb (heap_lt HH.out.2)).trans HH.out.2⟩)
          have cc := c10.1
          refine hK.out _ _ (Or.inr c10) ?_
          clear hK K
          try simp only [List.getElem_toArray, List.getElem_cons_succ, List.getElem_cons_zero, Act.put, List.setIfInBounds_toArray, List.set_cons_zero, List.set_cons_succ]
          refine wpAnyX_one (i := 19) (by kernel_rfl) rfl (by rfl) (fun K hK => ?_)
          go_wp2_with fail
          refine hK.out _ _ (Or.inr c10) ?_
          clear hK K
          try simp only [List.getElem_toArray, List.getElem_cons_succ, List.getElem_cons_zero, Act.put, List.setIfInBounds_toArray, List.set_cons_zero, List.set_cons_succ]
          refine wpAnyX_one (i := 20) (by kernel_rfl) rfl (by rfl) (fun K hK => ?_)
          go_wp2_with fail
          refine hK.out _ _ (Or.inr c10) ?_
          clear hK K
          try simp only [List.getElem_toArray, List.getElem_cons_succ, List.getElem_cons_zero, Act.put, List.setIfInBounds_toArray, List.set_cons_zero, List.set_cons_succ]
          refine wpAnyX_one (i := 21) (by kernel_rfl) rfl (by rfl) (fun K hK => ?_)
          go_wp2_with fail
          refine hK.out _ _ (Or.inl rfl) ?_
          clear hK K
          try simp only [List.getElem_toArray, List.getElem_cons_succ, List.getElem_cons_zero, Act.put, List.setIfInBounds_toArray, List.set_cons_zero, List.set_cons_succ]
          refine wpAnyX_done (by kernel_rfl) ?_ _
          clear c10 cc z10
          go_wp2_with fail
          go_ret
          refine ⟨rfl, _, HE.out.1, HE.out.2.1, ?_⟩
          have hA := HAB.out
          unfold absR rsetT
          rw [hA]
      · have hEb : Below w4.heap.size w4 (w4.alloc (.cells #[.int .i64 node, .int .i64 tag, .int .i64 T] 92)) := (Below.refl _ w4).alloc (Nat.le_refl _) _
        have hEn : (w4.alloc (.cells #[.int .i64 node, .int .i64 tag, .int .i64 T] 92)).heap[w4.heap.size]? = some (.cells #[.int .i64 node, .int .i64 tag, .int .i64 T] 92) := heap_alloc_new _ _
        obtain ⟨sb, hsb⟩ : ∃ sb, sb = w4.heap.size := ⟨_, rfl⟩
        go_simp
        rw [← hsb] at hEn ⊢
        generalize hnw : w4.alloc (.cells #[.int .i64 node, .int .i64 tag, .int .i64 T] 92) = wb at hEn hEb ⊢
        clear hnw
        have HC : Hid (Below w4.heap.size w4 wb ∧ wb.heap[sb]? = some (.cells #[.int .i64 node, .int .i64 tag, .int .i64 T] 92)) := ⟨hEb, hEn⟩
        clear hEn hEb hsb
        refine hK.out _ _ (Or.inr (show wb.cell? ⟨b, 4, none⟩ = some (.slice (some ⟨g, 0, none⟩) n tc) ∧ wb.heap[xb]? = some (.cells #[.int .i64 node, .int .i64 tag, .int .i64 T] 92) from ⟨(HC.out.1.cell H4.out.1.lt).trans HH.out.1, (HC.out.1.block xb (heap_lt HH.out.2)).trans HH.out.2⟩)) ?_
        clear hK K
        try simp only [List.getElem_toArray, List.getElem_cons_succ, List.getElem_cons_zero, Act.put, List.setIfInBounds_toArray, List.set_cons_zero, List.set_cons_succ]
        refine wpAnyX_one (i := 1) (by kernel_rfl) rfl (by rfl) (fun K hK => ?_)
        have hE := empty92 wb
        have hEb : Below wb.heap.size wb (wb.alloc (.cells #[] 92)) := (Below.refl _ wb).alloc (Nat.le_refl _) _
        obtain ⟨rb, hrb⟩ : ∃ rb, rb = wb.heap.size := ⟨_, rfl⟩
        go_simp
        rw [← hrb] at hE ⊢
        generalize hnw : wb.alloc (.cells #[] 92) = wab at hE hEb ⊢
        clear hnw
        have HA : Hid (Below w4.heap.size w4 wab ∧ wab.ownsRow 0 92 3 (.slice (some ⟨rb, 0, none⟩) 0 0) 0 [] ∧ (∀ x, (Value.slice (some ⟨rb, 0, none⟩) 0 0).ownBlock = some x → w4.heap.size ≤ x ∧ x ≠ sb) ∧ wab.heap[sb]? = some (.cells #[.int .i64 node, .int .i64 tag, .int .i64 T] 92)) := ⟨HC.out.1.trans (hEb.mono HC.out.1.size), hE, fun x hx => (by have h9 : rb = x := (by simpa [Value.ownBlock] using hx); have := HC.out.1.size; have := heap_lt HC.out.2; omega), (hEb.block sb (heap_lt HC.out.2)).trans HC.out.2⟩
        clear hE hEb hrb
        refine hK.out _ _ (Or.inr (show wab.cell? ⟨b, 4, none⟩ = some (.slice (some ⟨g, 0, none⟩) n tc) ∧ wab.heap[xb]? = some (.cells #[.int .i64 node, .int .i64 tag, .int .i64 T] 92) from ⟨(HA.out.1.cell H4.out.1.lt).trans HH.out.1, (HA.out.1.block xb (heap_lt HH.out.2)).trans HH.out.2⟩)) ?_
        clear hK K
        try simp only [List.getElem_toArray, List.getElem_cons_succ, List.getElem_cons_zero, Act.put, List.setIfInBounds_toArray, List.set_cons_zero, List.set_cons_succ]
        refine wpAnyX_one (i := 8) (by kernel_rfl) rfl (by rfl) (fun K hK => ?_)
        have hB := HA.out.1
        refine elU.wp_appendG (.tmp 67) (.tmp 73) rfl 0 (.slice (some ⟨rb, 0, none⟩) 0 0) 0 [] rfl HA.out.2.1 (some ⟨g, 0, none⟩) k tc rfl (fun e => by cases e) ((tmL N.tm).take (k * 3)) (by rw [List.length_take, tmL_length]; have := HS.out.2.2.1; omega) (fun j u hu => by
          rw [List.getElem?_take] at hu
          split at hu
          · obtain ⟨g9, o9, e9, hc9⟩ := HS.out.2.2.2.1 j u hu
            have hc8 := (H4.out.2.cell (p := ⟨g9, o9 + j, none⟩) (cell_lt hc9)).trans hc9
            exact ⟨g9, o9, e9, (hB.cell (p := ⟨g9, o9 + j, none⟩) (cell_lt hc8)).trans hc8⟩
          · cases hu) (fun u hu => tmL_one N.tm u (List.mem_of_mem_take hu)) (by omega) (Nat.zero_le _) ?_
        intro v8 wf ho8 hg8 ha8
        rw [List.nil_append, Nat.zero_add] at ho8
        obtain ⟨v8a, v8c, rfl⟩ := row_form ho8
        have hB8 : Below w4.heap.size w4 wf := hB.grown hg8 hB.size (fun jj hjj => (HA.out.2.2.1 jj hjj).1)
        have hfr : ∀ x, (Value.slice v8a k v8c).ownBlock = some x → w4.heap.size ≤ x ∧ x ≠ sb := fun x hx => by
          rcases ha8 with e | e
          · rw [e] at hx
            exact HA.out.2.2.1 x hx
          · rw [e] at hx
            injection hx with hx
            have := hB.size
            have := heap_lt HA.out.2.2.2
            omega
        have HA2 : Hid (Below w4.heap.size w4 wf ∧ wf.ownsRow 0 92 3 (.slice v8a k v8c) k ((tmL N.tm).take (k * 3)) ∧ (∀ x, (Value.slice v8a k v8c).ownBlock = some x → w4.heap.size ≤ x ∧ x ≠ sb) ∧ wf.heap[sb]? = some (.cells #[.int .i64 node, .int .i64 tag, .int .i64 T] 92)) := ⟨hB8, ho8, hfr, (hg8.block sb (heap_lt HA.out.2.2.2) (fun e => (HA.out.2.2.1 sb e.symm).2 rfl)).trans HA.out.2.2.2⟩
        clear HA hB ho8 hg8 ha8 hB8 hfr
        have HA := HA2
        clear HA2
        refine hK.out _ _ (Or.inr (show wf.cell? ⟨b, 4, none⟩ = some (.slice (some ⟨g, 0, none⟩) n tc) ∧ wf.heap[xb]? = some (.cells #[.int .i64 node, .int .i64 tag, .int .i64 T] 92) from ⟨(HA.out.1.cell H4.out.1.lt).trans HH.out.1, (HA.out.1.block xb (heap_lt HH.out.2)).trans HH.out.2⟩)) ?_
        clear hK K
        try simp only [List.getElem_toArray, List.getElem_cons_succ, List.getElem_cons_zero, Act.put, List.setIfInBounds_toArray, List.set_cons_zero, List.set_cons_succ]
        refine wpAnyX_one (i := 11) (by kernel_rfl) rfl (by rfl) (fun K hK => ?_)
        have hB := HA.out.1
        refine elU.wp_append (.tmp 74) (.tmp 76) rfl 0 (.slice v8a k v8c) k ((tmL N.tm).take (k * 3)) rfl HA.out.2.1 ⟨sb, 0, none⟩ 1 1 rfl (tmC ⟨node, tag, T⟩) rfl (fun j u hu => by
          rw [Addr.add_lit, Nat.zero_add, cell_of_block HA.out.2.2.2]
          simpa [tmC] using hu) (fun u hu => by simp only [tmC, List.mem_cons, List.not_mem_nil, or_false] at hu; rcases hu with rfl | rfl | rfl <;> rfl) (by omega) (Nat.zero_le _) ?_
        intro v9 wg ho9 hg9 ha9
        obtain ⟨v9a, v9c, rfl⟩ := row_form ho9
        have HD : Hid (Below w4.heap.size w4 wg ∧ wg.ownsRow 0 92 3 (.slice v9a (k + 1) v9c) (k + 1) ((tmL N.tm).take (k * 3) ++ tmC ⟨node, tag, T⟩) ∧ (∀ x, (Value.slice v9a (k + 1) v9c).ownBlock = some x → w4.heap.size ≤ x)) := ⟨hB.grown hg9 hB.size (fun jj hjj => (HA.out.2.2.1 jj hjj).1), ho9, fun x hx => by
          rcases ha9 with e | e
          · rw [e] at hx
            exact (HA.out.2.2.1 x hx).1
          · rw [e] at hx
            injection hx with hx
            have := hB.size
            omega⟩
        clear HA hB ho9 hg9 ha9
        refine hK.out _ _ (Or.inr (show wg.cell? ⟨b, 4, none⟩ = some (.slice (some ⟨g, 0, none⟩) n tc) ∧ wg.heap[xb]? = some (.cells #[.int .i64 node, .int .i64 tag, .int .i64 T] 92) from ⟨(HD.out.1.cell H4.out.1.lt).trans HH.out.1, (HD.out.1.block xb (heap_lt HH.out.2)).trans HH.out.2⟩)) ?_
        clear hK K
        try simp only [List.getElem_toArray, List.getElem_cons_succ, List.getElem_cons_zero, Act.put, List.setIfInBounds_toArray, List.set_cons_zero, List.set_cons_succ]
        refine wpAnyX_one (i := 18) (by kernel_rfl) rfl (by rfl) (fun K hK => ?_)
        have hB := HD.out.1
        have hxo := HX.out
        refine elU.wp_appendG (.tmp 77) (.tmp 83) rfl 0 (.slice v9a (k + 1) v9c) (k + 1) ((tmL N.tm).take (k * 3) ++ tmC ⟨node, tag, T⟩) rfl HD.out.2.1 (some ⟨g, xo, none⟩) (n - k) (tc - k) rfl (fun e => by cases e) ((tmL N.tm).drop (k * 3)) (by rw [List.length_drop, tmL_length]; have := HS.out.2.2.1; omega) (fun j u hu => by
          rw [List.getElem?_drop] at hu
          have hj := (List.getElem?_eq_some_iff.1 hu).1
          rw [tmL_length] at hj
          obtain ⟨g9, o9, e9, hc9⟩ := HS.out.2.2.2.1 _ u hu
          have hc8 := (H4.out.2.cell (p := ⟨g9, o9 + (k * 3 + j), none⟩) (cell_lt hc9)).trans hc9
          have hc7 := (hB.cell (p := ⟨g9, o9 + (k * 3 + j), none⟩) (cell_lt hc8)).trans hc8
          injection e9 with e9
          injection e9 with e9 e10
          subst e9 e10
          have hnl := HS.out.2.2.1
          rw [if_neg (by omega)] at hxo
          refine ⟨g, xo, rfl, ?_⟩
          rw [hxo]
          rw [Nat.zero_add] at hc7
          exact hc7) (fun u hu => tmL_one N.tm u (List.mem_of_mem_drop hu)) (by omega) (Nat.zero_le _) ?_
        intro v10 wh ho10 hg10 ha10
        have hsl := HT.out
        have hlen : (k + 1 + (n - k)) = (insT N.tm ⟨node, tag, T⟩).length := by rw [ins_length]; have := HS.out.2.2.1; omega
        have hrw : (tmL N.tm).take (k * 3) ++ tmC ⟨node, tag, T⟩ ++ (tmL N.tm).drop (k * 3) = tmL (insT N.tm ⟨node, tag, T⟩) := by
          unfold insT
          rw [hsl, tmL_append, tmL_append, tmL_take, tmL_drop]
          simp [tmL]
        rw [hrw, hlen] at ho10
        obtain ⟨v10a, v10c, rfl⟩ := row_form ho10
        have hB10 : Below w4.heap.size w4 wh := hB.grown hg10 hB.size (fun jj hjj => HD.out.2.2 jj hjj)
        have hend := rsetT_end (v := .slice v10a (insT N.tm ⟨node, tag, T⟩).length v10c) (l := insT N.tm ⟨node, tag, T⟩) H4.out.1 (gb_of_below hB10 _) ho10 (Or.inr (fun x hx => by
          rcases ha10 with e | e
          · rw [e] at hx
            exact HD.out.2.2 x hx
          · rw [e] at hx
            injection hx with hx
            have := hB.size
            omega))
        have z10 : wh.frozen? ⟨b, 4, none⟩ = false := unfrozen_of_block ((hB10.block b H4.out.1.lt).trans H4.out.1.net) 4
        have HE : Hid (RIs (wh.setCell ⟨b, 4, none⟩ (.slice v10a (insT N.tm ⟨node, tag, T⟩).length v10c)) b (rsetT N (.slice v10a (insT N.tm ⟨node, tag, T⟩).length v10c) (insT N.tm ⟨node, tag, T⟩)) ∧ RFr w (wh.setCell ⟨b, 4, none⟩ (.slice v10a (insT N.tm ⟨node, tag, T⟩).length v10c)) N (rsetT N (.slice v10a (insT N.tm ⟨node, tag, T⟩).length v10c) (insT N.tm ⟨node, tag, T⟩)) ∧ Below w4.heap.size w4 wh) := ⟨hend.1, (RFr.below H4.out.2).trans hend.2, hB10⟩
        clear hB ho10 hg10 ha10 hsl hrw hend hB10 HD hlen hxo
        generalize (insT N.tm ⟨node, tag, T⟩).length = q at *
        have c10 := (show wh.cell? ⟨b, 4, none⟩ = some (.slice (some ⟨g, 0, none⟩) n tc) ∧ wh.heap[xb]? = some (.cells #[.int .i64 node, .int .i64 tag, .int .i64 T] 92) from ⟨(HE.out.2.2.cell H4.out.1.lt).trans HH.out.1, (HE.out.2.2.block xb (heap_lt HH.out.2)).trans HH.out.2⟩)
        have cc := c10.1
        refine hK.out _ _ (Or.inr c10) ?_
        clear hK K
        try simp only [List.getElem_toArray, List.getElem_cons_succ, List.getElem_cons_zero, Act.put, List.setIfInBounds_toArray, List.set_cons_zero, List.set_cons_succ]
        refine wpAnyX_one (i := 19) (by kernel_rfl) rfl (by rfl) (fun K hK => ?_)
        go_wp2_with fail
        refine hK.out _ _ (Or.inr c10) ?_
        clear hK K
        try simp only [List.getElem_toArray, List.getElem_cons_succ, List.getElem_cons_zero, Act.put, List.setIfInBounds_toArray, List.set_cons_zero, List.set_cons_succ]
        refine wpAnyX_one (i := 20) (by kernel_rfl) rfl (by rfl) (fun K hK => ?_)
        go_wp2_with fail
        refine hK.out _ _ (Or.inr c10) ?_
        clear hK K
        try simp only [List.getElem_toArray, List.getElem_cons_succ, List.getElem_cons_zero, Act.put, List.setIfInBounds_toArray, List.set_cons_zero, List.set_cons_succ]
        refine wpAnyX_one (i := 21) (by kernel_rfl) rfl (by rfl) (fun K hK => ?_)
        go_wp2_with fail
        refine hK.out _ _ (Or.inl rfl) ?_
        clear hK K
        try simp only [List.getElem_toArray, List.getElem_cons_succ, List.getElem_cons_zero, Act.put, List.setIfInBounds_toArray, List.set_cons_zero, List.set_cons_succ]
        refine wpAnyX_done (by kernel_rfl) ?_ _
        clear c10 cc z10
        go_wp2_with fail
        go_ret
        refine ⟨rfl, _, HE.out.1, HE.out.2.1, ?_⟩
        have hA := HAB.out
        unfold absR rsetT
        rw [hA]
    · obtain ⟨j, hkj⟩ : ∃ j, k = j + 1 := ⟨k - 1, by omega⟩
      have HKJ : Hid (k = j + 1) := hkj
      have hk1 : (k : Int) - 1 = j := by omega
      have hkp : (0 : Int) < k := by omega
      have hjn : (j : Int) < n := by omega
      obtain ⟨t, ht9⟩ : ∃ t, N.tm[j]? = some t := ⟨_, List.getElem?_eq_getElem (by have := HS.out.2.2.1; omega)⟩
      obtain ⟨g9, o9, e9, hc9⟩ := HS.out.2.2.2.1 (j * 3 + 2) (.int .i64 t.at_) (by rw [tmL_at N.tm j t ht9 2 (by decide)]; rfl)
      injection e9 with e9
      injection e9 with e9 e10
      subst e9 e10
      rw [Nat.zero_add] at hc9
      obtain ⟨TA, hTA⟩ : ∃ TA, TA = t.at_ := ⟨_, rfl⟩
      rw [← hTA] at hc9
      have HTA : Hid (N.tm[j]? = some t ∧ TA = t.at_) := ⟨ht9, hTA⟩
      have hS0 : wr.cell? ⟨b, 4, none⟩ = some (.slice (some ⟨g, 0, none⟩) n tc) ∧ wr.heap[xb]? = some (.cells #[.int .i64 node, .int .i64 tag, .int .i64 T] 92) ∧ wr.cell? ⟨g, j * 3 + 2, none⟩ = some (.int .i64 TA) := ⟨((HS.out.1.below HBq.out.1.1).cells.2.2.2.2).trans (by rw [HS.out.2.1]), HBq.out.1.2, (HBq.out.1.1.cell (p := ⟨g, j * 3 + 2, none⟩) (cell_lt hc9)).trans hc9⟩
      clear hk0 hkj ht9 hc9 hTA
      by_cases hgt : T < TA
      · go_wp2_with fail
        refine wp_region_X (fun _ => false) (S := fun w' => w'.cell? ⟨b, 4, none⟩ = some (.slice (some ⟨g, 0, none⟩) n tc) ∧ w'.heap[xb]? = some (.cells #[.int .i64 node, .int .i64 tag, .int .i64 T] 92) ∧ w'.cell? ⟨g, j * 3 + 2, none⟩ = some (.int .i64 TA)) (by kernel_rfl) hS0 (fun hHeld => ?_)
        refine wpAnyX_take (i := 0) (v := .int .i64 k) rfl (by kernel_rfl) (by kernel_rfl) (by kernel_rfl) (by kernel_rfl) (fun _ _ _ h => h) (Or.inl ⟨by rfl, fun w9 hSw => ?_⟩) hHeld ?_
        · go_simp
        simp only [List.getElem_toArray, List.getElem_cons_succ, List.getElem_cons_zero, Act.put, List.setIfInBounds_toArray, List.set_cons_zero, List.set_cons_succ]
        refine wpAnyX_take (i := 1) (v := .bool true) rfl (by kernel_rfl) (by kernel_rfl) (by kernel_rfl) (by kernel_rfl) (fun _ _ _ h => h) (Or.inl ⟨by rfl, fun w9 hSw => ?_⟩) hHeld ?_
        · go_simp
          omega
        simp only [List.getElem_toArray, List.getElem_cons_succ, List.getElem_cons_zero, Act.put, List.setIfInBounds_toArray, List.set_cons_zero, List.set_cons_succ]
        refine wpAnyX_take (i := 2) (v := .bool true) rfl (by kernel_rfl) (by kernel_rfl) (by kernel_rfl) (by kernel_rfl) (fun _ _ _ h => h) (Or.inl ⟨by rfl, fun w9 hSw => ?_⟩) hHeld ?_
        · go_simp
        simp only [List.getElem_toArray, List.getElem_cons_succ, List.getElem_cons_zero, Act.put, List.setIfInBounds_toArray, List.set_cons_zero, List.set_cons_succ]
        refine wpAnyX_take (i := 3) (v := .pointer (some ⟨b, 0, none⟩)) rfl (by kernel_rfl) (by kernel_rfl) (by kernel_rfl) (by kernel_rfl) (fun _ _ _ h => h) (Or.inl ⟨by rfl, fun w9 hSw => ?_⟩) hHeld ?_
        · go_simp
        simp only [List.getElem_toArray, List.getElem_cons_succ, List.getElem_cons_zero, Act.put, List.setIfInBounds_toArray, List.set_cons_zero, List.set_cons_succ]
        refine wpAnyX_take (i := 4) (v := .pointer (some ⟨b, 0, none⟩)) rfl (by kernel_rfl) (by kernel_rfl) (by kernel_rfl) (by kernel_rfl) (fun _ _ _ h => h) (Or.inl ⟨by rfl, fun w9 hSw => ?_⟩) hHeld ?_
        · go_simp
        simp only [List.getElem_toArray, List.getElem_cons_succ, List.getElem_cons_zero, Act.put, List.setIfInBounds_toArray, List.set_cons_zero, List.set_cons_succ]
        refine wpAnyX_take (i := 5) (v := .pointer (some ⟨b, 4, none⟩)) rfl (by kernel_rfl) (by kernel_rfl) (by kernel_rfl) (by kernel_rfl) (fun _ _ _ h => h) (Or.inl ⟨by rfl, fun w9 hSw => ?_⟩) hHeld ?_
        · go_simp
        simp only [List.getElem_toArray, List.getElem_cons_succ, List.getElem_cons_zero, Act.put, List.setIfInBounds_toArray, List.set_cons_zero, List.set_cons_succ]
        refine wpAnyX_take (i := 6) (v := .slice (some ⟨g, 0, none⟩) n tc) rfl (by kernel_rfl) (by kernel_rfl) (by kernel_rfl) (by kernel_rfl) (fun _ _ _ h => h) (Or.inl ⟨by rfl, fun w9 hSw => ?_⟩) hHeld ?_
        · obtain ⟨hc, hx, ht⟩ := hSw
          go_simp
        simp only [List.getElem_toArray, List.getElem_cons_succ, List.getElem_cons_zero, Act.put, List.setIfInBounds_toArray, List.set_cons_zero, List.set_cons_succ]
        refine wpAnyX_take (i := 7) (v := .int .i64 k) rfl (by kernel_rfl) (by kernel_rfl) (by kernel_rfl) (by kernel_rfl) (fun _ _ _ h => h) (Or.inl ⟨by rfl, fun w9 hSw => ?_⟩) hHeld ?_
        · go_simp
        simp only [List.getElem_toArray, List.getElem_cons_succ, List.getElem_cons_zero, Act.put, List.setIfInBounds_toArray, List.set_cons_zero, List.set_cons_succ]
        refine wpAnyX_take (i := 8) (v := .int .i64 j) rfl (by kernel_rfl) (by kernel_rfl) (by kernel_rfl) (by kernel_rfl) (fun _ _ _ h => h) (Or.inl ⟨by rfl, fun w9 hSw => ?_⟩) hHeld ?_
        · go_simp
          rw [IntKind.wrap_i64]
          omega
        simp only [List.getElem_toArray, List.getElem_cons_succ, List.getElem_cons_zero, Act.put, List.setIfInBounds_toArray, List.set_cons_zero, List.set_cons_succ]
        refine wpAnyX_take (i := 9) (v := .pointer (some ⟨g, j * 3, none⟩)) rfl (by kernel_rfl) (by kernel_rfl) (by kernel_rfl) (by kernel_rfl) (fun _ _ _ h => h) (Or.inl ⟨by rfl, fun w9 hSw => ?_⟩) hHeld ?_
        · go_simp
        simp only [List.getElem_toArray, List.getElem_cons_succ, List.getElem_cons_zero, Act.put, List.setIfInBounds_toArray, List.set_cons_zero, List.set_cons_succ]
        refine wpAnyX_take (i := 10) (v := .pointer (some ⟨g, j * 3 + 2, none⟩)) rfl (by kernel_rfl) (by kernel_rfl) (by kernel_rfl) (by kernel_rfl) (fun _ _ _ h => h) (Or.inl ⟨by rfl, fun w9 hSw => ?_⟩) hHeld ?_
        · go_simp
        simp only [List.getElem_toArray, List.getElem_cons_succ, List.getElem_cons_zero, Act.put, List.setIfInBounds_toArray, List.set_cons_zero, List.set_cons_succ]
        refine wpAnyX_take (i := 11) (v := .int .i64 TA) rfl (by kernel_rfl) (by kernel_rfl) (by kernel_rfl) (by kernel_rfl) (fun _ _ _ h => h) (Or.inl ⟨by rfl, fun w9 hSw => ?_⟩) hHeld ?_
        · obtain ⟨hc, hx, ht⟩ := hSw
          go_simp
        simp only [List.getElem_toArray, List.getElem_cons_succ, List.getElem_cons_zero, Act.put, List.setIfInBounds_toArray, List.set_cons_zero, List.set_cons_succ]
        refine wpAnyX_take (i := 12) (v := .pointer (some ⟨xb, 2, none⟩)) rfl (by kernel_rfl) (by kernel_rfl) (by kernel_rfl) (by kernel_rfl) (fun _ _ _ h => h) (Or.inl ⟨by rfl, fun w9 hSw => ?_⟩) hHeld ?_
        · go_simp
        simp only [List.getElem_toArray, List.getElem_cons_succ, List.getElem_cons_zero, Act.put, List.setIfInBounds_toArray, List.set_cons_zero, List.set_cons_succ]
        refine wpAnyX_take (i := 13) (v := .int .i64 T) rfl (by kernel_rfl) (by kernel_rfl) (by kernel_rfl) (by kernel_rfl) (fun _ _ _ h => h) (Or.inl ⟨by rfl, fun w9 hSw => ?_⟩) hHeld ?_
        · have k2 : w9.cell? ⟨xb, 2, none⟩ = some (.int .i64 T) := (cell_of_block hSw.2.1 2).trans rfl
          go_simp
        simp only [List.getElem_toArray, List.getElem_cons_succ, List.getElem_cons_zero, Act.put, List.setIfInBounds_toArray, List.set_cons_zero, List.set_cons_succ]
        refine wpAnyX_take (i := 14) (v := .bool true) rfl (by kernel_rfl) (by kernel_rfl) (by kernel_rfl) (by kernel_rfl) (fun _ _ _ h => h) (Or.inl ⟨by rfl, fun w9 hSw => ?_⟩) hHeld ?_
        · go_simp
        simp only [List.getElem_toArray, List.getElem_cons_succ, List.getElem_cons_zero, Act.put, List.setIfInBounds_toArray, List.set_cons_zero, List.set_cons_succ]
        refine wpAnyX_take (i := 15) (v := .bool true) rfl (by kernel_rfl) (by kernel_rfl) (by kernel_rfl) (by kernel_rfl) (fun _ _ _ h => h) (Or.inl ⟨by rfl, fun w9 hSw => ?_⟩) hHeld ?_
        · go_simp
        simp only [List.getElem_toArray, List.getElem_cons_succ, List.getElem_cons_zero, Act.put, List.setIfInBounds_toArray, List.set_cons_zero, List.set_cons_succ]
        refine wpAnyX_done (by kernel_rfl) ?_ _
        have HB2 : Hid ((Below w.heap.size w wr.drew ∧ wr.drew.heap[xb]? = some (.cells #[.int .i64 node, .int .i64 tag, .int .i64 T] 92)) ∧ ∀ (i : Nat) (t : TM), N.tm[i]? = some t → j ≤ i → T < t.at_) := ⟨⟨HBq.out.1.1.drew, HBq.out.1.2⟩, fun i t9 hi hji => by
          rcases Nat.lt_or_ge j i with h | h
          · exact HBq.out.2 i t9 hi (by have := HKJ.out; omega)
          · obtain rfl : j = i := by omega
            have h8 := HTA.out
            rw [h8.1] at hi
            injection hi with hi
            rw [← hi, ← h8.2]
            exact hgt⟩
        clear HBq hHeld hS0
        generalize wr.drew = wq at HB2 ⊢
        go_wp2_with fail
        go_roundw
        case rel => exact ⟨j, by have := HKJ.out; omega, rfl, HB2.out⟩
        case measure => have := HKJ.out; simp [intOf]; omega
      · go_wp2_with fail
        refine wp_region_X (fun _ => false) (S := fun w' => w'.cell? ⟨b, 4, none⟩ = some (.slice (some ⟨g, 0, none⟩) n tc) ∧ w'.heap[xb]? = some (.cells #[.int .i64 node, .int .i64 tag, .int .i64 T] 92) ∧ w'.cell? ⟨g, j * 3 + 2, none⟩ = some (.int .i64 TA)) (by kernel_rfl) hS0 (fun hHeld => ?_)
        refine wpAnyX_take (i := 0) (v := .int .i64 k) rfl (by kernel_rfl) (by kernel_rfl) (by kernel_rfl) (by kernel_rfl) (fun _ _ _ h => h) (Or.inl ⟨by rfl, fun w9 hSw => ?_⟩) hHeld ?_
        · go_simp
        simp only [List.getElem_toArray, List.getElem_cons_succ, List.getElem_cons_zero, Act.put, List.setIfInBounds_toArray, List.set_cons_zero, List.set_cons_succ]
        refine wpAnyX_take (i := 1) (v := .bool true) rfl (by kernel_rfl) (by kernel_rfl) (by kernel_rfl) (by kernel_rfl) (fun _ _ _ h => h) (Or.inl ⟨by rfl, fun w9 hSw => ?_⟩) hHeld ?_
        · go_simp
          omega
        simp only [List.getElem_toArray, List.getElem_cons_succ, List.getElem_cons_zero, Act.put, List.setIfInBounds_toArray, List.set_cons_zero, List.set_cons_succ]
        refine wpAnyX_take (i := 2) (v := .bool true) rfl (by kernel_rfl) (by kernel_rfl) (by kernel_rfl) (by kernel_rfl) (fun _ _ _ h => h) (Or.inl ⟨by rfl, fun w9 hSw => ?_⟩) hHeld ?_
        · go_simp
        simp only [List.getElem_toArray, List.getElem_cons_succ, List.getElem_cons_zero, Act.put, List.setIfInBounds_toArray, List.set_cons_zero, List.set_cons_succ]
        refine wpAnyX_take (i := 3) (v := .pointer (some ⟨b, 0, none⟩)) rfl (by kernel_rfl) (by kernel_rfl) (by kernel_rfl) (by kernel_rfl) (fun _ _ _ h => h) (Or.inl ⟨by rfl, fun w9 hSw => ?_⟩) hHeld ?_
        · go_simp
        simp only [List.getElem_toArray, List.getElem_cons_succ, List.getElem_cons_zero, Act.put, List.setIfInBounds_toArray, List.set_cons_zero, List.set_cons_succ]
        refine wpAnyX_take (i := 4) (v := .pointer (some ⟨b, 0, none⟩)) rfl (by kernel_rfl) (by kernel_rfl) (by kernel_rfl) (by kernel_rfl) (fun _ _ _ h => h) (Or.inl ⟨by rfl, fun w9 hSw => ?_⟩) hHeld ?_
        · go_simp
        simp only [List.getElem_toArray, List.getElem_cons_succ, List.getElem_cons_zero, Act.put, List.setIfInBounds_toArray, List.set_cons_zero, List.set_cons_succ]
        refine wpAnyX_take (i := 5) (v := .pointer (some ⟨b, 4, none⟩)) rfl (by kernel_rfl) (by kernel_rfl) (by kernel_rfl) (by kernel_rfl) (fun _ _ _ h => h) (Or.inl ⟨by rfl, fun w9 hSw => ?_⟩) hHeld ?_
        · go_simp
        simp only [List.getElem_toArray, List.getElem_cons_succ, List.getElem_cons_zero, Act.put, List.setIfInBounds_toArray, List.set_cons_zero, List.set_cons_succ]
        refine wpAnyX_take (i := 6) (v := .slice (some ⟨g, 0, none⟩) n tc) rfl (by kernel_rfl) (by kernel_rfl) (by kernel_rfl) (by kernel_rfl) (fun _ _ _ h => h) (Or.inl ⟨by rfl, fun w9 hSw => ?_⟩) hHeld ?_
        · obtain ⟨hc, hx, ht⟩ := hSw
          go_simp
        simp only [List.getElem_toArray, List.getElem_cons_succ, List.getElem_cons_zero, Act.put, List.setIfInBounds_toArray, List.set_cons_zero, List.set_cons_succ]
        refine wpAnyX_take (i := 7) (v := .int .i64 k) rfl (by kernel_rfl) (by kernel_rfl) (by kernel_rfl) (by kernel_rfl) (fun _ _ _ h => h) (Or.inl ⟨by rfl, fun w9 hSw => ?_⟩) hHeld ?_
        · go_simp
        simp only [List.getElem_toArray, List.getElem_cons_succ, List.getElem_cons_zero, Act.put, List.setIfInBounds_toArray, List.set_cons_zero, List.set_cons_succ]
        refine wpAnyX_take (i := 8) (v := .int .i64 j) rfl (by kernel_rfl) (by kernel_rfl) (by kernel_rfl) (by kernel_rfl) (fun _ _ _ h => h) (Or.inl ⟨by rfl, fun w9 hSw => ?_⟩) hHeld ?_
        · go_simp
          rw [IntKind.wrap_i64]
          omega
        simp only [List.getElem_toArray, List.getElem_cons_succ, List.getElem_cons_zero, Act.put, List.setIfInBounds_toArray, List.set_cons_zero, List.set_cons_succ]
        refine wpAnyX_take (i := 9) (v := .pointer (some ⟨g, j * 3, none⟩)) rfl (by kernel_rfl) (by kernel_rfl) (by kernel_rfl) (by kernel_rfl) (fun _ _ _ h => h) (Or.inl ⟨by rfl, fun w9 hSw => ?_⟩) hHeld ?_
        · go_simp
        simp only [List.getElem_toArray, List.getElem_cons_succ, List.getElem_cons_zero, Act.put, List.setIfInBounds_toArray, List.set_cons_zero, List.set_cons_succ]
        refine wpAnyX_take (i := 10) (v := .pointer (some ⟨g, j * 3 + 2, none⟩)) rfl (by kernel_rfl) (by kernel_rfl) (by kernel_rfl) (by kernel_rfl) (fun _ _ _ h => h) (Or.inl ⟨by rfl, fun w9 hSw => ?_⟩) hHeld ?_
        · go_simp
        simp only [List.getElem_toArray, List.getElem_cons_succ, List.getElem_cons_zero, Act.put, List.setIfInBounds_toArray, List.set_cons_zero, List.set_cons_succ]
        refine wpAnyX_take (i := 11) (v := .int .i64 TA) rfl (by kernel_rfl) (by kernel_rfl) (by kernel_rfl) (by kernel_rfl) (fun _ _ _ h => h) (Or.inl ⟨by rfl, fun w9 hSw => ?_⟩) hHeld ?_
        · obtain ⟨hc, hx, ht⟩ := hSw
          go_simp
        simp only [List.getElem_toArray, List.getElem_cons_succ, List.getElem_cons_zero, Act.put, List.setIfInBounds_toArray, List.set_cons_zero, List.set_cons_succ]
        refine wpAnyX_take (i := 12) (v := .pointer (some ⟨xb, 2, none⟩)) rfl (by kernel_rfl) (by kernel_rfl) (by kernel_rfl) (by kernel_rfl) (fun _ _ _ h => h) (Or.inl ⟨by rfl, fun w9 hSw => ?_⟩) hHeld ?_
        · go_simp
        simp only [List.getElem_toArray, List.getElem_cons_succ, List.getElem_cons_zero, Act.put, List.setIfInBounds_toArray, List.set_cons_zero, List.set_cons_succ]
        refine wpAnyX_take (i := 13) (v := .int .i64 T) rfl (by kernel_rfl) (by kernel_rfl) (by kernel_rfl) (by kernel_rfl) (fun _ _ _ h => h) (Or.inl ⟨by rfl, fun w9 hSw => ?_⟩) hHeld ?_
        · have k2 : w9.cell? ⟨xb, 2, none⟩ = some (.int .i64 T) := (cell_of_block hSw.2.1 2).trans rfl
          go_simp
        simp only [List.getElem_toArray, List.getElem_cons_succ, List.getElem_cons_zero, Act.put, List.setIfInBounds_toArray, List.set_cons_zero, List.set_cons_succ]
        refine wpAnyX_take (i := 14) (v := .bool false) rfl (by kernel_rfl) (by kernel_rfl) (by kernel_rfl) (by kernel_rfl) (fun _ _ _ h => h) (Or.inl ⟨by rfl, fun w9 hSw => ?_⟩) hHeld ?_
        · go_simp
        simp only [List.getElem_toArray, List.getElem_cons_succ, List.getElem_cons_zero, Act.put, List.setIfInBounds_toArray, List.set_cons_zero, List.set_cons_succ]
        refine wpAnyX_take (i := 15) (v := .bool false) rfl (by kernel_rfl) (by kernel_rfl) (by kernel_rfl) (by kernel_rfl) (fun _ _ _ h => h) (Or.inl ⟨by rfl, fun w9 hSw => ?_⟩) hHeld ?_
        · go_simp
        simp only [List.getElem_toArray, List.getElem_cons_succ, List.getElem_cons_zero, Act.put, List.setIfInBounds_toArray, List.set_cons_zero, List.set_cons_succ]
        refine wpAnyX_done (by kernel_rfl) ?_ _
        have HT : Hid (slot N.tm T = k) := slot_eq HAS.out (by have := HS.out.2.2.1; omega) HBq.out.2 (fun t9 h9 _ => by
          have h8 := HTA.out
          have h7 := HKJ.out
          rw [show k - 1 = j by omega, h8.1] at h9
          injection h9 with h9
          rw [← h9, ← h8.2]
          omega)
        clear hS0 hk1 hkp hgt HTA HKJ hjn
        have HB2 : Hid (Below w.heap.size w wr.drew ∧ wr.drew.heap[xb]? = some (.cells #[.int .i64 node, .int .i64 tag, .int .i64 T] 92)) := ⟨HBq.out.1.1.drew, HBq.out.1.2⟩
        clear HBq hHeld
        have HB := HB2
        clear HB2
        generalize wr.drew = wq at HB ⊢
        obtain ⟨xo, hxo⟩ : ∃ xo, xo = if tc = k then 0 else k * 3 := ⟨_, rfl⟩
        have HX : Hid (xo = if tc = k then 0 else k * 3) := hxo
        clear hxo
        go_wp2_with fail
        have HG : Hid (RIs wq b N ∧ Below w.heap.size w wq ∧ wq.heap[xb]? = some (.cells #[.int .i64 node, .int .i64 tag, .int .i64 T] 92)) := ⟨HS.out.1.below HB.out.1, HB.out.1, HB.out.2⟩
        have hS0 : wq.cell? ⟨b, 4, none⟩ = some (.slice (some ⟨g, 0, none⟩) n tc) ∧ wq.heap[xb]? = some (.cells #[.int .i64 node, .int .i64 tag, .int .i64 T] 92) := ⟨HG.out.1.cells.2.2.2.2.trans (by rw [HS.out.2.1]), HG.out.2.2⟩
        go_wp2_with fail
        refine wp_region_X (fun j => j == 21) (S := fun w' => w'.cell? ⟨b, 4, none⟩ = some (.slice (some ⟨g, 0, none⟩) n tc) ∧ w'.heap[xb]? = some (.cells #[.int .i64 node, .int .i64 tag, .int .i64 T] 92)) (by kernel_rfl) hS0 (fun hHeld => ?_)
        refine wpAnyX_take (i := 0) (v := .pointer (some ⟨b, 0, none⟩)) rfl (by kernel_rfl) (by kernel_rfl) (by kernel_rfl) (by kernel_rfl) (fun _ _ _ h => h) (Or.inl ⟨by rfl, fun w9 hSw => ?_⟩) hHeld ?_
        · go_simp
        simp only [List.getElem_toArray, List.getElem_cons_succ, List.getElem_cons_zero, Act.put, List.setIfInBounds_toArray, List.set_cons_zero, List.set_cons_succ]
        refine wpAnyX_take (i := 2) (v := .pointer (some ⟨b, 0, none⟩)) rfl (by kernel_rfl) (by kernel_rfl) (by kernel_rfl) (by kernel_rfl) (fun _ _ _ h => h) (Or.inl ⟨by rfl, fun w9 hSw => ?_⟩) hHeld ?_
        · go_simp
        simp only [List.getElem_toArray, List.getElem_cons_succ, List.getElem_cons_zero, Act.put, List.setIfInBounds_toArray, List.set_cons_zero, List.set_cons_succ]
        refine wpAnyX_take (i := 3) (v := .pointer (some ⟨b, 0, none⟩)) rfl (by kernel_rfl) (by kernel_rfl) (by kernel_rfl) (by kernel_rfl) (fun _ _ _ h => h) (Or.inl ⟨by rfl, fun w9 hSw => ?_⟩) hHeld ?_
        · go_simp
        simp only [List.getElem_toArray, List.getElem_cons_succ, List.getElem_cons_zero, Act.put, List.setIfInBounds_toArray, List.set_cons_zero, List.set_cons_succ]
        refine wpAnyX_take (i := 4) (v := .pointer (some ⟨b, 4, none⟩)) rfl (by kernel_rfl) (by kernel_rfl) (by kernel_rfl) (by kernel_rfl) (fun _ _ _ h => h) (Or.inl ⟨by rfl, fun w9 hSw => ?_⟩) hHeld ?_
        · go_simp
        simp only [List.getElem_toArray, List.getElem_cons_succ, List.getElem_cons_zero, Act.put, List.setIfInBounds_toArray, List.set_cons_zero, List.set_cons_succ]
        refine wpAnyX_take (i := 5) (v := .slice (some ⟨g, 0, none⟩) n tc) rfl (by kernel_rfl) (by kernel_rfl) (by kernel_rfl) (by kernel_rfl) (fun _ _ _ h => h) (Or.inl ⟨by rfl, fun w9 hSw => ?_⟩) hHeld ?_
        · obtain ⟨hc, hx⟩ := hSw
          go_simp
        simp only [List.getElem_toArray, List.getElem_cons_succ, List.getElem_cons_zero, Act.put, List.setIfInBounds_toArray, List.set_cons_zero, List.set_cons_succ]
        refine wpAnyX_take (i := 6) (v := .int .i64 k) rfl (by kernel_rfl) (by kernel_rfl) (by kernel_rfl) (by kernel_rfl) (fun _ _ _ h => h) (Or.inl ⟨by rfl, fun w9 hSw => ?_⟩) hHeld ?_
        · go_simp
        simp only [List.getElem_toArray, List.getElem_cons_succ, List.getElem_cons_zero, Act.put, List.setIfInBounds_toArray, List.set_cons_zero, List.set_cons_succ]
        refine wpAnyX_take (i := 7) (v := .slice (some ⟨g, 0, none⟩) k tc) rfl (by kernel_rfl) (by kernel_rfl) (by kernel_rfl) (by kernel_rfl) (fun _ _ _ h => h) (Or.inl ⟨by rfl, fun w9 hSw => ?_⟩) hHeld ?_
        · go_simp
          intro hx
          omega
        simp only [List.getElem_toArray, List.getElem_cons_succ, List.getElem_cons_zero, Act.put, List.setIfInBounds_toArray, List.set_cons_zero, List.set_cons_succ]
        refine wpAnyX_take (i := 12) (v := .pointer (some ⟨b, 0, none⟩)) rfl (by kernel_rfl) (by kernel_rfl) (by kernel_rfl) (by kernel_rfl) (fun _ _ _ h => h) (Or.inl ⟨by rfl, fun w9 hSw => ?_⟩) hHeld ?_
        · go_simp
        simp only [List.getElem_toArray, List.getElem_cons_succ, List.getElem_cons_zero, Act.put, List.setIfInBounds_toArray, List.set_cons_zero, List.set_cons_succ]
        refine wpAnyX_take (i := 13) (v := .pointer (some ⟨b, 0, none⟩)) rfl (by kernel_rfl) (by kernel_rfl) (by kernel_rfl) (by kernel_rfl) (fun _ _ _ h => h) (Or.inl ⟨by rfl, fun w9 hSw => ?_⟩) hHeld ?_
        · go_simp
        simp only [List.getElem_toArray, List.getElem_cons_succ, List.getElem_cons_zero, Act.put, List.setIfInBounds_toArray, List.set_cons_zero, List.set_cons_succ]
        refine wpAnyX_take (i := 14) (v := .pointer (some ⟨b, 4, none⟩)) rfl (by kernel_rfl) (by kernel_rfl) (by kernel_rfl) (by kernel_rfl) (fun _ _ _ h => h) (Or.inl ⟨by rfl, fun w9 hSw => ?_⟩) hHeld ?_
        · go_simp
        simp only [List.getElem_toArray, List.getElem_cons_succ, List.getElem_cons_zero, Act.put, List.setIfInBounds_toArray, List.set_cons_zero, List.set_cons_succ]
        refine wpAnyX_take (i := 15) (v := .slice (some ⟨g, 0, none⟩) n tc) rfl (by kernel_rfl) (by kernel_rfl) (by kernel_rfl) (by kernel_rfl) (fun _ _ _ h => h) (Or.inl ⟨by rfl, fun w9 hSw => ?_⟩) hHeld ?_
        · obtain ⟨hc, hx⟩ := hSw
          go_simp
        simp only [List.getElem_toArray, List.getElem_cons_succ, List.getElem_cons_zero, Act.put, List.setIfInBounds_toArray, List.set_cons_zero, List.set_cons_succ]
        refine wpAnyX_take (i := 16) (v := .int .i64 k) rfl (by kernel_rfl) (by kernel_rfl) (by kernel_rfl) (by kernel_rfl) (fun _ _ _ h => h) (Or.inl ⟨by rfl, fun w9 hSw => ?_⟩) hHeld ?_
        · go_simp
        simp only [List.getElem_toArray, List.getElem_cons_succ, List.getElem_cons_zero, Act.put, List.setIfInBounds_toArray, List.set_cons_zero, List.set_cons_succ]
        refine wpAnyX_take (i := 17) (v := .slice (some ⟨g, xo, none⟩) (n - k) (tc - k)) rfl (by kernel_rfl) (by kernel_rfl) (by kernel_rfl) (by kernel_rfl) (fun _ _ _ h => h) (Or.inl ⟨by rfl, fun w9 hSw => ?_⟩) hHeld ?_
        · go_simp
          rw [HX.out]
          by_cases hq : tc = k
          · simp only [if_pos hq]
          · simp only [if_neg hq]
        simp only [List.getElem_toArray, List.getElem_cons_succ, List.getElem_cons_zero, Act.put, List.setIfInBounds_toArray, List.set_cons_zero, List.set_cons_succ]
        refine wpAnyX_take (i := 9) (v := .agg #[.int .i64 node, .int .i64 tag, .int .i64 T]) rfl (by kernel_rfl) (by kernel_rfl) (by kernel_rfl) (by kernel_rfl) (fun _ _ _ h => h) (Or.inl ⟨by rfl, fun w9 hSw => ?_⟩) hHeld ?_
        · have k0 : w9.cell? ⟨xb, 0, none⟩ = some (.int .i64 node) := (cell_of_block hSw.2 0).trans rfl
          have k1 : w9.cell? ⟨xb, 1, none⟩ = some (.int .i64 tag) := (cell_of_block hSw.2 1).trans rfl
          have k2 : w9.cell? ⟨xb, 2, none⟩ = some (.int .i64 T) := (cell_of_block hSw.2 2).trans rfl
          go_simp
        simp only [List.getElem_toArray, List.getElem_cons_succ, List.getElem_cons_zero, Act.put, List.setIfInBounds_toArray, List.set_cons_zero, List.set_cons_succ]
        have H4 : Hid (RIs wq.drew b N ∧ Below w.heap.size w wq.drew) := ⟨HG.out.1.below ⟨rfl, rfl, rfl, Nat.le_refl _, fun _ _ => rfl⟩, HG.out.2.1.drew⟩
        clear hS0
        generalize wq.drew = w4 at hHeld H4 ⊢
        have HH : Hid (w4.cell? ⟨b, 4, none⟩ = some (.slice (some ⟨g, 0, none⟩) n tc) ∧ w4.heap[xb]? = some (.cells #[.int .i64 node, .int .i64 tag, .int .i64 T] 92)) := hHeld
        clear hHeld
        refine wpAnyX_two (i := 1) (j := 10) (by kernel_rfl) rfl rfl (by rfl) (by rfl) (fun K hK => ?_) (fun K hK => ?_)
        · have hE := empty92 w4
          have hEb : Below w4.heap.size w4 (w4.alloc (.cells #[] 92)) := (Below.refl _ w4).alloc (Nat.le_refl _) _
          obtain ⟨rb, hrb⟩ : ∃ rb, rb = w4.heap.size := ⟨_, rfl⟩
          go_simp
          rw [← hrb] at hE ⊢
          generalize hnw : w4.alloc (.cells #[] 92) = wa at hE hEb ⊢
          clear hnw
          have HA : Hid (Below w4.heap.size w4 wa ∧ wa.ownsRow 0 92 3 (.slice (some ⟨rb, 0, none⟩) 0 0) 0 [] ∧ (∀ x, (Value.slice (some ⟨rb, 0, none⟩) 0 0).ownBlock = some x → w4.heap.size ≤ x)) := ⟨hEb, hE, fun x hx => (by have h9 : rb = x := (by simpa [Value.ownBlock] using hx); omega)⟩
          clear hE hEb hrb
          refine hK.out _ _ (Or.inr (show wa.cell? ⟨b, 4, none⟩ = some (.slice (some ⟨g, 0, none⟩) n tc) ∧ wa.heap[xb]? = some (.cells #[.int .i64 node, .int .i64 tag, .int .i64 T] 92) from ⟨(HA.out.1.cell H4.out.1.lt).trans HH.out.1, (HA.out.1.block xb (heap_lt HH.out.2)).trans HH.out.2⟩)) ?_
          clear hK K
          try simp only [List.getElem_toArray, List.getElem_cons_succ, List.getElem_cons_zero, Act.put, List.setIfInBounds_toArray, List.set_cons_zero, List.set_cons_succ]
          refine wpAnyX_two (i := 8) (j := 10) (by kernel_rfl) rfl rfl (by rfl) (by rfl) (fun K hK => ?_) (fun K hK => ?_)
          · have hB := HA.out.1
            refine elU.wp_appendG (.tmp 67) (.tmp 73) rfl 0 (.slice (some ⟨rb, 0, none⟩) 0 0) 0 [] rfl HA.out.2.1 (some ⟨g, 0, none⟩) k tc rfl (fun e => by cases e) ((tmL N.tm).take (k * 3)) (by rw [List.length_take, tmL_length]; have := HS.out.2.2.1; omega) (fun j u hu => by
              rw [List.getElem?_take] at hu
              split at hu
              · obtain ⟨g9, o9, e9, hc9⟩ := HS.out.2.2.2.1 j u hu
                have hc8 := (H4.out.2.cell (p := ⟨g9, o9 + j, none⟩) (cell_lt hc9)).trans hc9
                exact ⟨g9, o9, e9, (hB.cell (p := ⟨g9, o9 + j, none⟩) (cell_lt hc8)).trans hc8⟩
              · cases hu) (fun u hu => tmL_one N.tm u (List.mem_of_mem_take hu)) (by omega) (Nat.zero_le _) ?_
            intro v8 we ho8 hg8 ha8
            rw [List.nil_append, Nat.zero_add] at ho8
            obtain ⟨v8a, v8c, rfl⟩ := row_form ho8
            have hB8 : Below w4.heap.size w4 we := hB.grown hg8 hB.size (fun jj hjj => HA.out.2.2 jj hjj)
            have hfr : ∀ x, (Value.slice v8a k v8c).ownBlock = some x → w4.heap.size ≤ x := fun x hx => by
              rcases ha8 with e | e
              · rw [e] at hx
                exact HA.out.2.2 x hx
              · rw [e] at hx
                injection hx with hx
                have := hB.size
                skip
                omega
            have HA2 : Hid (Below w4.heap.size w4 we ∧ we.ownsRow 0 92 3 (.slice v8a k v8c) k ((tmL N.tm).take (k * 3)) ∧ (∀ x, (Value.slice v8a k v8c).ownBlock = some x → w4.heap.size ≤ x)) := ⟨hB8, ho8, hfr⟩
            clear HA hB ho8 hg8 ha8 hB8 hfr
            have HA := HA2
            clear HA2
            refine hK.out _ _ (Or.inr (show we.cell? ⟨b, 4, none⟩ = some (.slice (some ⟨g, 0, none⟩) n tc) ∧ we.heap[xb]? = some (.cells #[.int .i64 node, .int .i64 tag, .int .i64 T] 92) from ⟨(HA.out.1.cell H4.out.1.lt).trans HH.out.1, (HA.out.1.block xb (heap_lt HH.out.2)).trans HH.out.2⟩)) ?_
            clear hK K
            try simp only [List.getElem_toArray, List.getElem_cons_succ, List.getElem_cons_zero, Act.put, List.setIfInBounds_toArray, List.set_cons_zero, List.set_cons_succ]
            refine wpAnyX_one (i := 10) (by kernel_rfl) rfl (by rfl) (fun K hK => ?_)
            have hEb : Below we.heap.size we (we.alloc (.cells #[.int .i64 node, .int .i64 tag, .int .i64 T] 92)) := (Below.refl _ we).alloc (Nat.le_refl _) _
            have hEn : (we.alloc (.cells #[.int .i64 node, .int .i64 tag, .int .i64 T] 92)).heap[we.heap.size]? = some (.cells #[.int .i64 node, .int .i64 tag, .int .i64 T] 92) := heap_alloc_new _ _
            obtain ⟨sb, hsb⟩ : ∃ sb, sb = we.heap.size := ⟨_, rfl⟩
            go_simp
            rw [← hsb] at hEn ⊢
            generalize hnw : we.alloc (.cells #[.int .i64 node, .int .i64 tag, .int .i64 T] 92) = wf at hEn hEb ⊢
            clear hnw
            have HA2 : Hid (Below w4.heap.size w4 wf ∧ wf.ownsRow 0 92 3 (.slice v8a k v8c) k ((tmL N.tm).take (k * 3)) ∧ (∀ x, (.slice v8a k v8c : Value).ownBlock = some x → w4.heap.size ≤ x ∧ x ≠ sb) ∧ wf.heap[sb]? = some (.cells #[.int .i64 node, .int .i64 tag, .int .i64 T] 92)) := ⟨HA.out.1.trans (hEb.mono HA.out.1.size), ownsRow_heap HA.out.2.1 (fun x hx => hEb.block x (HA.out.2.1.lt x hx).2), fun x hx => ⟨HA.out.2.2 x hx, fun e => by have := (HA.out.2.1.lt x hx).2; omega⟩, hEn⟩
            clear HA
            have HA := HA2
            clear HA2
            clear hEn hEb hsb
            refine hK.out _ _ (Or.inr (show wf.cell? ⟨b, 4, none⟩ = some (.slice (some ⟨g, 0, none⟩) n tc) ∧ wf.heap[xb]? = some (.cells #[.int .i64 node, .int .i64 tag, .int .i64 T] 92) from ⟨(HA.out.1.cell H4.out.1.lt).trans HH.out.1, (HA.out.1.block xb (heap_lt HH.out.2)).trans HH.out.2⟩)) ?_
            clear hK K
            try simp only [List.getElem_toArray, List.getElem_cons_succ, List.getElem_cons_zero, Act.put, List.setIfInBounds_toArray, List.set_cons_zero, List.set_cons_succ]
            refine wpAnyX_one (i := 11) (by kernel_rfl) rfl (by rfl) (fun K hK => ?_)
            have hB := HA.out.1
            refine elU.wp_append (.tmp 74) (.tmp 76) rfl 0 (.slice v8a k v8c) k ((tmL N.tm).take (k * 3)) rfl HA.out.2.1 ⟨sb, 0, none⟩ 1 1 rfl (tmC ⟨node, tag, T⟩) rfl (fun j u hu => by
              rw [Addr.add_lit, Nat.zero_add, cell_of_block HA.out.2.2.2]
              simpa [tmC] using hu) (fun u hu => by simp only [tmC, List.mem_cons, List.not_mem_nil, or_false] at hu; rcases hu with rfl | rfl | rfl <;> rfl) (by omega) (Nat.zero_le _) ?_
            intro v9 wg ho9 hg9 ha9
            obtain ⟨v9a, v9c, rfl⟩ := row_form ho9
            have HD : Hid (Below w4.heap.size w4 wg ∧ wg.ownsRow 0 92 3 (.slice v9a (k + 1) v9c) (k + 1) ((tmL N.tm).take (k * 3) ++ tmC ⟨node, tag, T⟩) ∧ (∀ x, (Value.slice v9a (k + 1) v9c).ownBlock = some x → w4.heap.size ≤ x)) := ⟨hB.grown hg9 hB.size (fun jj hjj => (HA.out.2.2.1 jj hjj).1), ho9, fun x hx => by
              rcases ha9 with e | e
              · rw [e] at hx
                exact (HA.out.2.2.1 x hx).1
              · rw [e] at hx
                injection hx with hx
                have := hB.size
                omega⟩
            clear HA hB ho9 hg9 ha9
            refine hK.out _ _ (Or.inr (show wg.cell? ⟨b, 4, none⟩ = some (.slice (some ⟨g, 0, none⟩) n tc) ∧ wg.heap[xb]? = some (.cells #[.int .i64 node, .int .i64 tag, .int .i64 T] 92) from ⟨(HD.out.1.cell H4.out.1.lt).trans HH.out.1, (HD.out.1.block xb (heap_lt HH.out.2)).trans HH.out.2⟩)) ?_
            clear hK K
            try simp only [List.getElem_toArray, List.getElem_cons_succ, List.getElem_cons_zero, Act.put, List.setIfInBounds_toArray, List.set_cons_zero, List.set_cons_succ]
            refine wpAnyX_one (i := 18) (by kernel_rfl) rfl (by rfl) (fun K hK => ?_)
            have hB := HD.out.1
            have hxo := HX.out
            refine elU.wp_appendG (.tmp 77) (.tmp 83) rfl 0 (.slice v9a (k + 1) v9c) (k + 1) ((tmL N.tm).take (k * 3) ++ tmC ⟨node, tag, T⟩) rfl HD.out.2.1 (some ⟨g, xo, none⟩) (n - k) (tc - k) rfl (fun e => by cases e) ((tmL N.tm).drop (k * 3)) (by rw [List.length_drop, tmL_length]; have := HS.out.2.2.1; omega) (fun j u hu => by
              rw [List.getElem?_drop] at hu
              have hj := (List.getElem?_eq_some_iff.1 hu).1
              rw [tmL_length] at hj
              obtain ⟨g9, o9, e9, hc9⟩ := HS.out.2.2.2.1 _ u hu
              have hc8 := (H4.out.2.cell (p := ⟨g9, o9 + (k * 3 + j), none⟩) (cell_lt hc9)).trans hc9
              have hc7 := (hB.cell (p := ⟨g9, o9 + (k * 3 + j), none⟩) (cell_lt hc8)).trans hc8
              injection e9 with e9
              injection e9 with e9 e10
              subst e9 e10
              have hnl := HS.out.2.2.1
              rw [if_neg (by omega)] at hxo
              refine ⟨g, xo, rfl, ?_⟩
              rw [hxo]
              rw [Nat.zero_add] at hc7
              exact hc7) (fun u hu => tmL_one N.tm u (List.mem_of_mem_drop hu)) (by omega) (Nat.zero_le _) ?_
            intro v10 wh ho10 hg10 ha10
            have hsl := HT.out
            have hlen : (k + 1 + (n - k)) = (insT N.tm ⟨node, tag, T⟩).length := by rw [ins_length]; have := HS.out.2.2.1; omega
            have hrw : (tmL N.tm).take (k * 3) ++ tmC ⟨node, tag, T⟩ ++ (tmL N.tm).drop (k * 3) = tmL (insT N.tm ⟨node, tag, T⟩) := by
              unfold insT
              rw [hsl, tmL_append, tmL_append, tmL_take, tmL_drop]
              simp [tmL]
            rw [hrw, hlen] at ho10
            obtain ⟨v10a, v10c, rfl⟩ := row_form ho10
            have hB10 : Below w4.heap.size w4 wh := hB.grown hg10 hB.size (fun jj hjj => HD.out.2.2 jj hjj)
            have hend := rsetT_end (v := .slice v10a (insT N.tm ⟨node, tag, T⟩).length v10c) (l := insT N.tm ⟨node, tag, T⟩) H4.out.1 (gb_of_below hB10 _) ho10 (Or.inr (fun x hx => by
              rcases ha10 with e | e
              · rw [e] at hx
                exact HD.out.2.2 x hx
              · rw [e] at hx
                injection hx with hx
                have := hB.size
                omega))
            have z10 : wh.frozen? ⟨b, 4, none⟩ = false := unfrozen_of_block ((hB10.block b H4.out.1.lt).trans H4.out.1.net) 4
            have HE : Hid (RIs (wh.setCell ⟨b, 4, none⟩ (.slice v10a (insT N.tm ⟨node, tag, T⟩).length v10c)) b (rsetT N (.slice v10a (insT N.tm ⟨node, tag, T⟩).length v10c) (insT N.tm ⟨node, tag, T⟩)) ∧ RFr w (wh.setCell ⟨b, 4, none⟩ (.slice v10a (insT N.tm ⟨node, tag, T⟩).length v10c)) N (rsetT N (.slice v10a (insT N.tm ⟨node, tag, T⟩).length v10c) (insT N.tm ⟨node, tag, T⟩)) ∧ Below w4.heap.size w4 wh) := ⟨hend.1, (RFr.below H4.out.2).trans hend.2, hB10⟩
            clear hB ho10 hg10 ha10 hsl hrw hend hB10 HD hlen hxo
            generalize (insT N.tm ⟨node, tag, T⟩).length = q at *
            have c10 := (show wh.cell? ⟨b, 4, none⟩ = some (.slice (some ⟨g, 0, none⟩) n tc) ∧ wh.heap[xb]? = some (.cells #[.int .i64 node, .int .i64 tag, .int .i64 T] 92) from ⟨(HE.out.2.2.cell H4.out.1.lt).trans HH.out.1, (HE.out.2.2.block xb (heap_lt HH.out.2)).trans HH.out.2⟩)
            have cc := c10.1
            refine hK.out _ _ (Or.inr c10) ?_
            clear hK K
            try simp only [List.getElem_toArray, List.getElem_cons_succ, List.getElem_cons_zero, Act.put, List.setIfInBounds_toArray, List.set_cons_zero, List.set_cons_succ]
            refine wpAnyX_one (i := 19) (by kernel_rfl) rfl (by rfl) (fun K hK => ?_)
            go_wp2_with fail
            refine hK.out _ _ (Or.inr c10) ?_
            clear hK K
            try simp only [List.getElem_toArray, List.getElem_cons_succ, List.getElem_cons_zero, Act.put, List.setIfInBounds_toArray, List.set_cons_zero, List.set_cons_succ]
            refine wpAnyX_one (i := 20) (by kernel_rfl) rfl (by rfl) (fun K hK => ?_)
            go_wp2_with fail
            refine hK.out _ _ (Or.inr c10) ?_
            clear hK K
            try simp only [List.getElem_toArray, List.getElem_cons_succ, List.getElem_cons_zero, Act.put, List.setIfInBounds_toArray, List.set_cons_zero, List.set_cons_succ]
            refine wpAnyX_one (i := 21) (by kernel_rfl) rfl (by rfl) (fun K hK => ?_)
            go_wp2_with fail
            refine hK.out _ _ (Or.inl rfl) ?_
            clear hK K
            try simp only [List.getElem_toArray, List.getElem_cons_succ, List.getElem_cons_zero, Act.put, List.setIfInBounds_toArray, List.set_cons_zero, List.set_cons_succ]
            refine wpAnyX_done (by kernel_rfl) ?_ _
            clear c10 cc z10
            go_wp2_with fail
            go_ret
            refine ⟨rfl, _, HE.out.1, HE.out.2.1, ?_⟩
            have hA := HAB.out
            unfold absR rsetT
            rw [hA]
          · have hEb : Below wa.heap.size wa (wa.alloc (.cells #[.int .i64 node, .int .i64 tag, .int .i64 T] 92)) := (Below.refl _ wa).alloc (Nat.le_refl _) _
            have hEn : (wa.alloc (.cells #[.int .i64 node, .int .i64 tag, .int .i64 T] 92)).heap[wa.heap.size]? = some (.cells #[.int .i64 node, .int .i64 tag, .int .i64 T] 92) := heap_alloc_new _ _
            obtain ⟨sb, hsb⟩ : ∃ sb, sb = wa.heap.size := ⟨_, rfl⟩
            go_simp
            rw [← hsb] at hEn ⊢
            generalize hnw : wa.alloc (.cells #[.int .i64 node, .int .i64 tag, .int .i64 T] 92) = wab at hEn hEb ⊢
            clear hnw
            have HA2 : Hid (Below w4.heap.size w4 wab ∧ wab.ownsRow 0 92 3 (.slice (some ⟨rb, 0, none⟩) 0 0) 0 [] ∧ (∀ x, (.slice (some ⟨rb, 0, none⟩) 0 0 : Value).ownBlock = some x → w4.heap.size ≤ x ∧ x ≠ sb) ∧ wab.heap[sb]? = some (.cells #[.int .i64 node, .int .i64 tag, .int .i64 T] 92)) := ⟨HA.out.1.trans (hEb.mono HA.out.1.size), ownsRow_heap HA.out.2.1 (fun x hx => hEb.block x (HA.out.2.1.lt x hx).2), fun x hx => ⟨HA.out.2.2 x hx, fun e => by have := (HA.out.2.1.lt x hx).2; omega⟩, hEn⟩
            clear HA
            have HA := HA2
            clear HA2
            clear hEn hEb hsb
            refine hK.out _ _ (Or.inr (show wab.cell? ⟨b, 4, none⟩ = some (.slice (some ⟨g, 0, none⟩) n tc) ∧ wab.heap[xb]? = some (.cells #[.int .i64 node, .int .i64 tag, .int .i64 T] 92) from ⟨(HA.out.1.cell H4.out.1.lt).trans HH.out.1, (HA.out.1.block xb (heap_lt HH.out.2)).trans HH.out.2⟩)) ?_
            clear hK K
            try simp only [List.getElem_toArray, List.getElem_cons_succ, List.getElem_cons_zero, Act.put, List.setIfInBounds_toArray, List.set_cons_zero, List.set_cons_succ]
            refine wpAnyX_one (i := 8) (by kernel_rfl) rfl (by rfl) (fun K hK => ?_)
            have hB := HA.out.1
            refine elU.wp_appendG (.tmp 67) (.tmp 73) rfl 0 (.slice (some ⟨rb, 0, none⟩) 0 0) 0 [] rfl HA.out.2.1 (some ⟨g, 0, none⟩) k tc rfl (fun e => by cases e) ((tmL N.tm).take (k * 3)) (by rw [List.length_take, tmL_length]; have := HS.out.2.2.1; omega) (fun j u hu => by
              rw [List.getElem?_take] at hu
              split at hu
              · obtain ⟨g9, o9, e9, hc9⟩ := HS.out.2.2.2.1 j u hu
                have hc8 := (H4.out.2.cell (p := ⟨g9, o9 + j, none⟩) (cell_lt hc9)).trans hc9
                exact ⟨g9, o9, e9, (hB.cell (p := ⟨g9, o9 + j, none⟩) (cell_lt hc8)).trans hc8⟩
              · cases hu) (fun u hu => tmL_one N.tm u (List.mem_of_mem_take hu)) (by omega) (Nat.zero_le _) ?_
            intro v8 wf ho8 hg8 ha8
            rw [List.nil_append, Nat.zero_add] at ho8
            obtain ⟨v8a, v8c, rfl⟩ := row_form ho8
            have hB8 : Below w4.heap.size w4 wf := hB.grown hg8 hB.size (fun jj hjj => (HA.out.2.2.1 jj hjj).1)
            have hfr : ∀ x, (Value.slice v8a k v8c).ownBlock = some x → w4.heap.size ≤ x ∧ x ≠ sb := fun x hx => by
              rcases ha8 with e | e
              · rw [e] at hx
                exact HA.out.2.2.1 x hx
              · rw [e] at hx
                injection hx with hx
                have := hB.size
                have := heap_lt HA.out.2.2.2
                omega
            have HA2 : Hid (Below w4.heap.size w4 wf ∧ wf.ownsRow 0 92 3 (.slice v8a k v8c) k ((tmL N.tm).take (k * 3)) ∧ (∀ x, (Value.slice v8a k v8c).ownBlock = some x → w4.heap.size ≤ x ∧ x ≠ sb) ∧ wf.heap[sb]? = some (.cells #[.int .i64 node, .int .i64 tag, .int .i64 T] 92)) := ⟨hB8, ho8, hfr, (hg8.block sb (heap_lt HA.out.2.2.2) (fun e => (HA.out.2.2.1 sb e.symm).2 rfl)).trans HA.out.2.2.2⟩
            clear HA hB ho8 hg8 ha8 hB8 hfr
            have HA := HA2
            clear HA2
            refine hK.out _ _ (Or.inr (show wf.cell? ⟨b, 4, none⟩ = some (.slice (some ⟨g, 0, none⟩) n tc) ∧ wf.heap[xb]? = some (.cells #[.int .i64 node, .int .i64 tag, .int .i64 T] 92) from ⟨(HA.out.1.cell H4.out.1.lt).trans HH.out.1, (HA.out.1.block xb (heap_lt HH.out.2)).trans HH.out.2⟩)) ?_
            clear hK K
            try simp only [List.getElem_toArray, List.getElem_cons_succ, List.getElem_cons_zero, Act.put, List.setIfInBounds_toArray, List.set_cons_zero, List.set_cons_succ]
            refine wpAnyX_one (i := 11) (by kernel_rfl) rfl (by rfl) (fun K hK => ?_)
            have hB := HA.out.1
            refine elU.wp_append (.tmp 74) (.tmp 76) rfl 0 (.slice v8a k v8c) k ((tmL N.tm).take (k * 3)) rfl HA.out.2.1 ⟨sb, 0, none⟩ 1 1 rfl (tmC ⟨node, tag, T⟩) rfl (fun j u hu => by
              rw [Addr.add_lit, Nat.zero_add, cell_of_block HA.out.2.2.2]
              simpa [tmC] using hu) (fun u hu => by simp only [tmC, List.mem_cons, List.not_mem_nil, or_false] at hu; rcases hu with rfl | rfl | rfl <;> rfl) (by omega) (Nat.zero_le _) ?_
            intro v9 wg ho9 hg9 ha9
            obtain ⟨v9a, v9c, rfl⟩ := row_form ho9
            have HD : Hid (Below w4.heap.size w4 wg ∧ wg.ownsRow 0 92 3 (.slice v9a (k + 1) v9c) (k + 1) ((tmL N.tm).take (k * 3) ++ tmC ⟨node, tag, T⟩) ∧ (∀ x, (Value.slice v9a (k + 1) v9c).ownBlock = some x → w4.heap.size ≤ x)) := ⟨hB.grown hg9 hB.size (fun jj hjj => (HA.out.2.2.1 jj hjj).1), ho9, fun x hx => by
              rcases ha9 with e | e
              · rw [e] at hx
                exact (HA.out.2.2.1 x hx).1
              · rw [e] at hx
                injection hx with hx
                have := hB.size
                omega⟩
            clear HA hB ho9 hg9 ha9
            refine hK.out _ _ (Or.inr (show wg.cell? ⟨b, 4, none⟩ = some (.slice (some ⟨g, 0, none⟩) n tc) ∧ wg.heap[xb]? = some (.cells #[.int .i64 node, .int .i64 tag, .int .i64 T] 92) from ⟨(HD.out.1.cell H4.out.1.lt).trans HH.out.1, (HD.out.1.block xb (heap_lt HH.out.2)).trans HH.out.2⟩)) ?_
            clear hK K
            try simp only [List.getElem_toArray, List.getElem_cons_succ, List.getElem_cons_zero, Act.put, List.setIfInBounds_toArray, List.set_cons_zero, List.set_cons_succ]
            refine wpAnyX_one (i := 18) (by kernel_rfl) rfl (by rfl) (fun K hK => ?_)
            have hB := HD.out.1
            have hxo := HX.out
            refine elU.wp_appendG (.tmp 77) (.tmp 83) rfl 0 (.slice v9a (k + 1) v9c) (k + 1) ((tmL N.tm).take (k * 3) ++ tmC ⟨node, tag, T⟩) rfl HD.out.2.1 (some ⟨g, xo, none⟩) (n - k) (tc - k) rfl (fun e => by cases e) ((tmL N.tm).drop (k * 3)) (by rw [List.length_drop, tmL_length]; have := HS.out.2.2.1; omega) (fun j u hu => by
              rw [List.getElem?_drop] at hu
              have hj := (List.getElem?_eq_some_iff.1 hu).1
              rw [tmL_length] at hj
              obtain ⟨g9, o9, e9, hc9⟩ := HS.out.2.2.2.1 _ u hu
              have hc8 := (H4.out.2.cell (p := ⟨g9, o9 + (k * 3 + j), none⟩) (cell_lt hc9)).trans hc9
              have hc7 := (hB.cell (p := ⟨g9, o9 + (k * 3 + j), none⟩) (cell_lt hc8)).trans hc8
              injection e9 with e9
              injection e9 with e9 e10
              subst e9 e10
              have hnl := HS.out.2.2.1
              rw [if_neg (by omega)] at hxo
              refine ⟨g, xo, rfl, ?_⟩
              rw [hxo]
              rw [Nat.zero_add] at hc7
              exact hc7) (fun u hu => tmL_one N.tm u (List.mem_of_mem_drop hu)) (by omega) (Nat.zero_le _) ?_
            intro v10 wh ho10 hg10 ha10
            have hsl := HT.out
            have hlen : (k + 1 + (n - k)) = (insT N.tm ⟨node, tag, T⟩).length := by rw [ins_length]; have := HS.out.2.2.1; omega
            have hrw : (tmL N.tm).take (k * 3) ++ tmC ⟨node, tag, T⟩ ++ (tmL N.tm).drop (k * 3) = tmL (insT N.tm ⟨node, tag, T⟩) := by
              unfold insT
              rw [hsl, tmL_append, tmL_append, tmL_take, tmL_drop]
              simp [tmL]
            rw [hrw, hlen] at ho10
            obtain ⟨v10a, v10c, rfl⟩ := row_form ho10
            have hB10 : Below w4.heap.size w4 wh := hB.grown hg10 hB.size (fun jj hjj => HD.out.2.2 jj hjj)
            have hend := rsetT_end (v := .slice v10a (insT N.tm ⟨node, tag, T⟩).length v10c) (l := insT N.tm ⟨node, tag, T⟩) H4.out.1 (gb_of_below hB10 _) ho10 (Or.inr (fun x hx => by
              rcases ha10 with e | e
              · rw [e] at hx
                exact HD.out.2.2 x hx
              · rw [e] at hx
                injection hx with hx
                have := hB.size
                omega))
            have z10 : wh.frozen? ⟨b, 4, none⟩ = false := unfrozen_of_block ((hB10.block b H4.out.1.lt).trans H4.out.1.net) 4
            have HE : Hid (RIs (wh.setCell ⟨b, 4, none⟩ (.slice v10a (insT N.tm ⟨node, tag, T⟩).length v10c)) b (rsetT N (.slice v10a (insT N.tm ⟨node, tag, T⟩).length v10c) (insT N.tm ⟨node, tag, T⟩)) ∧ RFr w (wh.setCell ⟨b, 4, none⟩ (.slice v10a (insT N.tm ⟨node, tag, T⟩).length v10c)) N (rsetT N (.slice v10a (insT N.tm ⟨node, tag, T⟩).length v10c) (insT N.tm ⟨node, tag, T⟩)) ∧ Below w4.heap.size w4 wh) := ⟨hend.1, (RFr.below H4.out.2).trans hend.2, hB10⟩
            clear hB ho10 hg10 ha10 hsl hrw hend hB10 HD hlen hxo
            generalize (insT N.tm ⟨node, tag, T⟩).length = q at *
            have c10 := (show wh.cell? ⟨b, 4, none⟩ = some (.slice (some ⟨g, 0, none⟩) n tc) ∧ wh.heap[xb]? = some (.cells #[.int .i64 node, .int .i64 tag, .int .i64 T] 92) from ⟨(HE.out.2.2.cell H4.out.1.lt).trans HH.out.1, (HE.out.2.2.block xb (heap_lt HH.out.2)).trans HH.out.2⟩)
            have cc := c10.1
            refine hK.out _ _ (Or.inr c10) ?_
            clear hK K
            try simp only [List.getElem_toArray, List.getElem_cons_succ, List.getElem_cons_zero, Act.put, List.setIfInBounds_toArray, List.set_cons_zero, List.set_cons_succ]
            refine wpAnyX_one (i := 19) (by kernel_rfl) rfl (by rfl) (fun K hK => ?_)
            go_wp2_with fail
            refine hK.out _ _ (Or.inr c10) ?_
            clear hK K
            try simp only [List.getElem_toArray, List.getElem_cons_succ, List.getElem_cons_zero, Act.put, List.setIfInBounds_toArray, List.set_cons_zero, List.set_cons_succ]
            refine wpAnyX_one (i := 20) (by kernel_rfl) rfl (by rfl) (fun K hK => ?_)
            go_wp2_with fail
            refine hK.out _ _ (Or.inr c10) ?_
            clear hK K
            try simp only [List.getElem_toArray, List.getElem_cons_succ, List.getElem_cons_zero, Act.put, List.setIfInBounds_toArray, List.set_cons_zero, List.set_cons_succ]
            refine wpAnyX_one (i := 21) (by kernel_rfl) rfl (by rfl) (fun K hK => ?_)
            go_wp2_with fail
            refine hK.out _ _ (Or.inl rfl) ?_
            clear hK K
            try simp only [List.getElem_toArray, List.getElem_cons_succ, List.getElem_cons_zero, Act.put, List.setIfInBounds_toArray, List.set_cons_zero, List.set_cons_succ]
            refine wpAnyX_done (by kernel_rfl) ?_ _
            clear c10 cc z10
            go_wp2_with fail
            go_ret
            refine ⟨rfl, _, HE.out.1, HE.out.2.1, ?_⟩
            have hA := HAB.out
            unfold absR rsetT
            rw [hA]
        · have hEb : Below w4.heap.size w4 (w4.alloc (.cells #[.int .i64 node, .int .i64 tag, .int .i64 T] 92)) := (Below.refl _ w4).alloc (Nat.le_refl _) _
          have hEn : (w4.alloc (.cells #[.int .i64 node, .int .i64 tag, .int .i64 T] 92)).heap[w4.heap.size]? = some (.cells #[.int .i64 node, .int .i64 tag, .int .i64 T] 92) := heap_alloc_new _ _
          obtain ⟨sb, hsb⟩ : ∃ sb, sb = w4.heap.size := ⟨_, rfl⟩
          go_simp
          rw [← hsb] at hEn ⊢
          generalize hnw : w4.alloc (.cells #[.int .i64 node, .int .i64 tag, .int .i64 T] 92) = wb at hEn hEb ⊢
          clear hnw
          have HC : Hid (Below w4.heap.size w4 wb ∧ wb.heap[sb]? = some (.cells #[.int .i64 node, .int .i64 tag, .int .i64 T] 92)) := ⟨hEb, hEn⟩
          clear hEn hEb hsb
          refine hK.out _ _ (Or.inr (show wb.cell? ⟨b, 4, none⟩ = some (.slice (some ⟨g, 0, none⟩) n tc) ∧ wb.heap[xb]? = some (.cells #[.int .i64 node, .int .i64 tag, .int .i64 T] 92) from ⟨(HC.out.1.cell H4.out.1.lt).trans HH.out.1, (HC.out.1.block xb (heap_lt HH.out.2)).trans HH.out.2⟩)) ?_
          clear hK K
          try simp only [List.getElem_toArray, List.getElem_cons_succ, List.getElem_cons_zero, Act.put, List.setIfInBounds_toArray, List.set_cons_zero, List.set_cons_succ]
          refine wpAnyX_one (i := 1) (by kernel_rfl) rfl (by rfl) (fun K hK => ?_)
          have hE := empty92 wb
          have hEb : Below wb.heap.size wb (wb.alloc (.cells #[] 92)) := (Below.refl _ wb).alloc (Nat.le_refl _) _
          obtain ⟨rb, hrb⟩ : ∃ rb, rb = wb.heap.size := ⟨_, rfl⟩
          go_simp
          rw [← hrb] at hE ⊢
          generalize hnw : wb.alloc (.cells #[] 92) = wab at hE hEb ⊢
          clear hnw
          have HA : Hid (Below w4.heap.size w4 wab ∧ wab.ownsRow 0 92 3 (.slice (some ⟨rb, 0, none⟩) 0 0) 0 [] ∧ (∀ x, (Value.slice (some ⟨rb, 0, none⟩) 0 0).ownBlock = some x → w4.heap.size ≤ x ∧ x ≠ sb) ∧ wab.heap[sb]? = some (.cells #[.int .i64 node, .int .i64 tag, .int .i64 T] 92)) := ⟨HC.out.1.trans (hEb.mono HC.out.1.size), hE, fun x hx => (by have h9 : rb = x := (by simpa [Value.ownBlock] using hx); have := HC.out.1.size; have := heap_lt HC.out.2; omega), (hEb.block sb (heap_lt HC.out.2)).trans HC.out.2⟩
          clear hE hEb hrb
          refine hK.out _ _ (Or.inr (show wab.cell? ⟨b, 4, none⟩ = some (.slice (some ⟨g, 0, none⟩) n tc) ∧ wab.heap[xb]? = some (.cells #[.int .i64 node, .int .i64 tag, .int .i64 T] 92) from ⟨(HA.out.1.cell H4.out.1.lt).trans HH.out.1, (HA.out.1.block xb (heap_lt HH.out.2)).trans HH.out.2⟩)) ?_
          clear hK K
          try simp only [List.getElem_toArray, List.getElem_cons_succ, List.getElem_cons_zero, Act.put, List.setIfInBounds_toArray, List.set_cons_zero, List.set_cons_succ]
          refine wpAnyX_one (i := 8) (by kernel_rfl) rfl (by rfl) (fun K hK => ?_)
          have hB := HA.out.1
          refine elU.wp_appendG (.tmp 67) (.tmp 73) rfl 0 (.slice (some ⟨rb, 0, none⟩) 0 0) 0 [] rfl HA.out.2.1 (some ⟨g, 0, none⟩) k tc rfl (fun e => by cases e) ((tmL N.tm).take (k * 3)) (by rw [List.length_take, tmL_length]; have := HS.out.2.2.1; omega) (fun j u hu => by
            rw [List.getElem?_take] at hu
            split at hu
            · obtain ⟨g9, o9, e9, hc9⟩ := HS.out.2.2.2.1 j u hu
              have hc8 := (H4.out.2.cell (p := ⟨g9, o9 + j, none⟩) (cell_lt hc9)).trans hc9
              exact ⟨g9, o9, e9, (hB.cell (p := ⟨g9, o9 + j, none⟩) (cell_lt hc8)).trans hc8⟩
            · cases hu) (fun u hu => tmL_one N.tm u (List.mem_of_mem_take hu)) (by omega) (Nat.zero_le _) ?_
          intro v8 wf ho8 hg8 ha8
          rw [List.nil_append, Nat.zero_add] at ho8
          obtain ⟨v8a, v8c, rfl⟩ := row_form ho8
          have hB8 : Below w4.heap.size w4 wf := hB.grown hg8 hB.size (fun jj hjj => (HA.out.2.2.1 jj hjj).1)
          have hfr : ∀ x, (Value.slice v8a k v8c).ownBlock = some x → w4.heap.size ≤ x ∧ x ≠ sb := fun x hx => by
            rcases ha8 with e | e
            · rw [e] at hx
              exact HA.out.2.2.1 x hx
            · rw [e] at hx
              injection hx with hx
              have := hB.size
              have := heap_lt HA.out.2.2.2
              omega
          have HA2 : Hid (Below w4.heap.size w4 wf ∧ wf.ownsRow 0 92 3 (.slice v8a k v8c) k ((tmL N.tm).take (k * 3)) ∧ (∀ x, (Value.slice v8a k v8c).ownBlock = some x → w4.heap.size ≤ x ∧ x ≠ sb) ∧ wf.heap[sb]? = some (.cells #[.int .i64 node, .int .i64 tag, .int .i64 T] 92)) := ⟨hB8, ho8, hfr, (hg8.block sb (heap_lt HA.out.2.2.2) (fun e => (HA.out.2.2.1 sb e.symm).2 rfl)).trans HA.out.2.2.2⟩
          clear HA hB ho8 hg8 ha8 hB8 hfr
          have HA := HA2
          clear HA2
          refine hK.out _ _ (Or.inr (show wf.cell? ⟨b, 4, none⟩ = some (.slice (some ⟨g, 0, none⟩) n tc) ∧ wf.heap[xb]? = some (.cells #[.int .i64 node, .int .i64 tag, .int .i64 T] 92) from ⟨(HA.out.1.cell H4.out.1.lt).trans HH.out.1, (HA.out.1.block xb (heap_lt HH.out.2)).trans HH.out.2⟩)) ?_
          clear hK K
          try simp only [List.getElem_toArray, List.getElem_cons_succ, List.getElem_cons_zero, Act.put, List.setIfInBounds_toArray, List.set_cons_zero, List.set_cons_succ]
          refine wpAnyX_one (i := 11) (by kernel_rfl) rfl (by rfl) (fun K hK => ?_)
          have hB := HA.out.1
          refine elU.wp_append (.tmp 74) (.tmp 76) rfl 0 (.slice v8a k v8c) k ((tmL N.tm).take (k * 3)) rfl HA.out.2.1 ⟨sb, 0, none⟩ 1 1 rfl (tmC ⟨node, tag, T⟩) rfl (fun j u hu => by
            rw [Addr.add_lit, Nat.zero_add, cell_of_block HA.out.2.2.2]
            simpa [tmC] using hu) (fun u hu => by simp only [tmC, List.mem_cons, List.not_mem_nil, or_false] at hu; rcases hu with rfl | rfl | rfl <;> rfl) (by omega) (Nat.zero_le _) ?_
          intro v9 wg ho9 hg9 ha9
          obtain ⟨v9a, v9c, rfl⟩ := row_form ho9
          have HD : Hid (Below w4.heap.size w4 wg ∧ wg.ownsRow 0 92 3 (.slice v9a (k + 1) v9c) (k + 1) ((tmL N.tm).take (k * 3) ++ tmC ⟨node, tag, T⟩) ∧ (∀ x, (Value.slice v9a (k + 1) v9c).ownBlock = some x → w4.heap.size ≤ x)) := ⟨hB.grown hg9 hB.size (fun jj hjj => (HA.out.2.2.1 jj hjj).1), ho9, fun x hx => by
            rcases ha9 with e | e
            · rw [e] at hx
              exact (HA.out.2.2.1 x hx).1
            · rw [e] at hx
              injection hx with hx
              have := hB.size
              omega⟩
          clear HA hB ho9 hg9 ha9
          refine hK.out _ _ (Or.inr (show wg.cell? ⟨b, 4, none⟩ = some (.slice (some ⟨g, 0, none⟩) n tc) ∧ wg.heap[xb]? = some (.cells #[.int .i64 node, .int .i64 tag, .int .i64 T] 92) from ⟨(HD.out.1.cell H4.out.1.lt).trans HH.out.1, (HD.out.1.block xb (heap_lt HH.out.2)).trans HH.out.2⟩)) ?_
          clear hK K
          try simp only [List.getElem_toArray, List.getElem_cons_succ, List.getElem_cons_zero, Act.put, List.setIfInBounds_toArray, List.set_cons_zero, List.set_cons_succ]
          refine wpAnyX_one (i := 18) (by kernel_rfl) rfl (by rfl) (fun K hK => ?_)
          have hB := HD.out.1
          have hxo := HX.out
          refine elU.wp_appendG (.tmp 77) (.tmp 83) rfl 0 (.slice v9a (k + 1) v9c) (k + 1) ((tmL N.tm).take (k * 3) ++ tmC ⟨node, tag, T⟩) rfl HD.out.2.1 (some ⟨g, xo, none⟩) (n - k) (tc - k) rfl (fun e => by cases e) ((tmL N.tm).drop (k * 3)) (by rw [List.length_drop, tmL_length]; have := HS.out.2.2.1; omega) (fun j u hu => by
            rw [List.getElem?_drop] at hu
            have hj := (List.getElem?_eq_some_iff.1 hu).1
            rw [tmL_length] at hj
            obtain ⟨g9, o9, e9, hc9⟩ := HS.out.2.2.2.1 _ u hu
            have hc8 := (H4.out.2.cell (p := ⟨g9, o9 + (k * 3 + j), none⟩) (cell_lt hc9)).trans hc9
            have hc7 := (hB.cell (p := ⟨g9, o9 + (k * 3 + j), none⟩) (cell_lt hc8)).trans hc8
            injection e9 with e9
            injection e9 with e9 e10
            subst e9 e10
            have hnl := HS.out.2.2.1
            rw [if_neg (by omega)] at hxo
            refine ⟨g, xo, rfl, ?_⟩
            rw [hxo]
            rw [Nat.zero_add] at hc7
            exact hc7) (fun u hu => tmL_one N.tm u (List.mem_of_mem_drop hu)) (by omega) (Nat.zero_le _) ?_
          intro v10 wh ho10 hg10 ha10
          have hsl := HT.out
          have hlen : (k + 1 + (n - k)) = (insT N.tm ⟨node, tag, T⟩).length := by rw [ins_length]; have := HS.out.2.2.1; omega
          have hrw : (tmL N.tm).take (k * 3) ++ tmC ⟨node, tag, T⟩ ++ (tmL N.tm).drop (k * 3) = tmL (insT N.tm ⟨node, tag, T⟩) := by
            unfold insT
            rw [hsl, tmL_append, tmL_append, tmL_take, tmL_drop]
            simp [tmL]
          rw [hrw, hlen] at ho10
          obtain ⟨v10a, v10c, rfl⟩ := row_form ho10
          have hB10 : Below w4.heap.size w4 wh := hB.grown hg10 hB.size (fun jj hjj => HD.out.2.2 jj hjj)
          have hend := rsetT_end (v := .slice v10a (insT N.tm ⟨node, tag, T⟩).length v10c) (l := insT N.tm ⟨node, tag, T⟩) H4.out.1 (gb_of_below hB10 _) ho10 (Or.inr (fun x hx => by
            rcases ha10 with e | e
            · rw [e] at hx
              exact HD.out.2.2 x hx
            · rw [e] at hx
              injection hx with hx
              have := hB.size
              omega))
          have z10 : wh.frozen? ⟨b, 4, none⟩ = false := unfrozen_of_block ((hB10.block b H4.out.1.lt).trans H4.out.1.net) 4
          have HE : Hid (RIs (wh.setCell ⟨b, 4, none⟩ (.slice v10a (insT N.tm ⟨node, tag, T⟩).length v10c)) b (rsetT N (.slice v10a (insT N.tm ⟨node, tag, T⟩).length v10c) (insT N.tm ⟨node, tag, T⟩)) ∧ RFr w (wh.setCell ⟨b, 4, none⟩ (.slice v10a (insT N.tm ⟨node, tag, T⟩).length v10c)) N (rsetT N (.slice v10a (insT N.tm ⟨node, tag, T⟩).length v10c) (insT N.tm ⟨node, tag, T⟩)) ∧ Below w4.heap.size w4 wh) := ⟨hend.1, (RFr.below H4.out.2).trans hend.2, hB10⟩
          clear hB ho10 hg10 ha10 hsl hrw hend hB10 HD hlen hxo
          generalize (insT N.tm ⟨node, tag, T⟩).length = q at *
          have c10 := (show wh.cell? ⟨b, 4, none⟩ = some (.slice (some ⟨g, 0, none⟩) n tc) ∧ wh.heap[xb]? = some (.cells #[.int .i64 node, .int .i64 tag, .int .i64 T] 92) from ⟨(HE.out.2.2.cell H4.out.1.lt).trans HH.out.1, (HE.out.2.2.block xb (heap_lt HH.out.2)).trans HH.out.2⟩)
          have cc := c10.1
          refine hK.out _ _ (Or.inr c10) ?_
          clear hK K
          try simp only [List.getElem_toArray, List.getElem_cons_succ, List.getElem_cons_zero, Act.put, List.setIfInBounds_toArray, List.set_cons_zero, List.set_cons_succ]
          refine wpAnyX_one (i := 19) (by kernel_rfl) rfl (by rfl) (fun K hK => ?_)
          go_wp2_with fail
          refine hK.out _ _ (Or.inr c10) ?_
          clear hK K
          try simp only [List.getElem_toArray, List.getElem_cons_succ, List.getElem_cons_zero, Act.put, List.setIfInBounds_toArray, List.set_cons_zero, List.set_cons_succ]
          refine wpAnyX_one (i := 20) (by kernel_rfl) rfl (by rfl) (fun K hK => ?_)
          go_wp2_with fail
          refine hK.out _ _ (Or.inr c10) ?_
          clear hK K
          try simp only [List.getElem_toArray, List.getElem_cons_succ, List.getElem_cons_zero, Act.put, List.setIfInBounds_toArray, List.set_cons_zero, List.set_cons_succ]
          refine wpAnyX_one (i := 21) (by kernel_rfl) rfl (by rfl) (fun K hK => ?_)
          go_wp2_with fail
          refine hK.out _ _ (Or.inl rfl) ?_
          clear hK K
          try simp only [List.getElem_toArray, List.getElem_cons_succ, List.getElem_cons_zero, Act.put, List.setIfInBounds_toArray, List.set_cons_zero, List.set_cons_succ]
          refine wpAnyX_done (by kernel_rfl) ?_ _
          clear c10 cc z10
          go_wp2_with fail
          go_ret
          refine ⟨rfl, _, HE.out.1, HE.out.2.1, ?_⟩
          have hA := HAB.out
          unfold absR rsetT
          rw [hA]
end Go.Proofs.Ytemapnfbmhjlbaa
