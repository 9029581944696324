/- field.Sqrt. -/
import Derived.Test.YtojfcdjgcgnajaaGreatGCM
import Derived.Test.YtojfcdjgcgnajaaGreatGR4
namespace Go.Proofs.YtojfcdjgcgnajaaGreat
open Go.RowKit
set_option linter.unusedSimpArgs false
set_option linter.unusedVariables false
def SqIn (y0 y1 y2 y3 r0 r1 r2 r3 : Int) (z : Nat) (w wr : World) : Prop :=
 wr.heap[w.heap.size]? = some (.cells (C4 y0 y1 y2 y3) 51 (0, 0)) ∧ wr.heap[w.heap.size + 1]? = some (.cells (C4 0 0 0 0) 51 (0, 0)) ∧ wr.heap[z]? = some (.cells (C4 r0 r1 r2 r3) 51 (0, 0)) ∧ w.heap.size + 1 < z ∧ Below w.heap.size w wr
theorem SqIn.more {y0 y1 y2 y3 r0 r1 r2 r3 : Int} {z : Nat} {w u v : World} (h : SqIn y0 y1 y2 y3 r0 r1 r2 r3 z w u) (hb : Below u.heap.size u v) : SqIn y0 y1 y2 y3 r0 r1 r2 r3 z w v :=
 ⟨kept h.1 hb, kept h.2.1 hb, kept h.2.2.1 hb, h.2.2.2.1, h.2.2.2.2.trans (hb.mono h.2.2.2.2.size)⟩
theorem SqIn.put {y0 y1 y2 y3 r0 r1 r2 r3 : Int} {z : Nat} {w u : World} (h : SqIn y0 y1 y2 y3 r0 r1 r2 r3 z w u) (t0 t1 t2 t3 : Int) : SqIn y0 y1 y2 y3 t0 t1 t2 t3 z w (u.setRow z (C4 t0 t1 t2 t3)) :=
 ⟨(setRow_other _ _ _ _ (by have := h.2.2.2.1; omega)).trans h.1, (setRow_other _ _ _ _ (by have := h.2.2.2.1; omega)).trans h.2.1, setRow_heap _ _ _ _ _ _ h.2.2.1, h.2.2.2.1, below_setRow h.2.2.2.2 (by have := h.2.2.2.1; omega) _⟩
def rt1 (x : Int) : Int := (x % PP) ^ E8 % PP
def rt2 (x : Int) : Int := rt1 x * (2 ^ E4 % PP) % PP
def evenR (r : Int) : Int := if r % 2 = 1 then PP - r else r
def sqrtR (x : Int) : Int := if rt1 x * rt1 x % PP = x % PP then evenR (rt1 x) else if rt2 x * rt2 x % PP = x % PP then evenR (rt2 x) else 0
def sqrtB (x : Int) : Bool := decide (rt1 x * rt1 x % PP = x % PP) || decide (rt2 x * rt2 x % PP = x % PP)
theorem step_load_row {P : Program} {ops : Array Oper} {o : Oper} {a : Act} {w : World} {K : Act → World → Prop} {Q : Exit → Act → World → Prop} {E : Prop} (hw : Region.wanted o (yielded ops a.tmps) = true) (ty : TypeId) (x : Operand) (ho : o.op = .load ty x)
 (g : Nat) (c : Array Value) (hx : a.eval x = .pointer (some ⟨g, 0, none⟩)) (hrun : (loadVar ty ⟨g, 0, none⟩).run P w = .ok (.agg c) w)
 (h : K (a.put o.dst (.agg c)) w) : if Region.wanted o (yielded ops a.tmps) = true then Oper.wp P o a w K Q else E := by
 rw [if_pos hw]; unfold Oper.wp; rw [run_load_exec ty x ho _ hx hrun]; exact h
theorem evenR_odd {r : Int} (h : r % 2 = 1) : evenR r = PP - r := if_pos h
theorem evenR_even {r : Int} (h : ¬ r % 2 = 1) : evenR r = r := if_neg h
theorem mod_PP (x : Int) : 0 ≤ x % PP ∧ x % PP < PP := ⟨Int.emod_nonneg _ (by unfold PP; decide), Int.emod_lt_of_pos _ (by unfold PP; decide)⟩
theorem PP_T : PP < T256 := by unfold PP T256; decide
theorem sub_fit {r : Int} (h : 0 ≤ r ∧ r < PP) : (PP - r) % T256 = PP - r := Int.emod_eq_of_lt (by omega) (by have := PP_T; omega)
set_option maxRecDepth 20000 in
set_option maxHeartbeats 4000000 in
theorem g_sqrt {va : Value} {x : Int} (ha : IsW va x) (w : World) : Calls Tryz.prog 111 #[va] w fun e w' => ∃ v, e = .returned (.tuple #[v, .bool (sqrtB x)]) ∧ IsW v (sqrtR x) ∧ Below w.heap.size w w' := by
 have HX : Hid (IsW va x) := ha; obtain ⟨a0, a1, a2, a3, rfl, la, na⟩ := ha; clear la na; have HA : Hid (((w.alloc (.cells (C4 a0 a1 a2 a3) 51)).alloc (.cells (C4 0 0 0 0) 51)).heap[w.heap.size]? = some (.cells (C4 a0 a1 a2 a3) 51 (0, 0)) ∧ ((w.alloc (.cells (C4 a0 a1 a2 a3) 51)).alloc (.cells (C4 0 0 0 0) 51)).heap[w.heap.size + 1]? = some (.cells (C4 0 0 0 0) 51 (0, 0)) ∧ Below w.heap.size w ((w.alloc (.cells (C4 a0 a1 a2 a3) 51)).alloc (.cells (C4 0 0 0 0) 51))) := ⟨heap_old _ _ _ _ (heap_alloc_new _ _), heapAt _ _ _ (by simp), by go_grown⟩
 go_enter Tryz.func111, Tryz.ntmps111
 unfold W4; go_wp2_with (first | (refine wpList_load_row rfl 51 _ rfl w.heap.size rfl 51 _ (0, 0) _ HA.out.1 Tryz.underlying51 rfl (info24c _ _ _ _) ?_)); generalize (w.alloc (.cells (C4 a0 a1 a2 a3) 51)).alloc (.cells (C4 0 0 0 0) 51) = W0 at HA ⊢; refine Calls.mono (g_fbelow HX.out _) ?_; rintro e W ⟨vy, rfl, hy, b0⟩; have HY0 : Hid (IsW vy (x % PP)) := hy; obtain ⟨y0, y1, y2, y3, rfl, ly, ny⟩ := hy; have HY : Hid (IsW (W4 y0 y1 y2 y3) (x % PP) ∧ True) := ⟨HY0.out, trivial⟩
 have hW := kept HA.out.1 b0; have H1 : Hid ((W.setRow w.heap.size (C4 y0 y1 y2 y3)).heap[w.heap.size]? = some (.cells (C4 y0 y1 y2 y3) 51 (0, 0)) ∧ (W.setRow w.heap.size (C4 y0 y1 y2 y3)).heap[w.heap.size + 1]? = some (.cells (C4 0 0 0 0) 51 (0, 0)) ∧ Below w.heap.size w (W.setRow w.heap.size (C4 y0 y1 y2 y3))) :=
  ⟨setRow_heap _ _ _ _ _ _ hW, (setRow_other _ _ _ _ (by omega)).trans (kept HA.out.2.1 b0), below_setRow (HA.out.2.2.trans (b0.mono HA.out.2.2.size)) (Nat.le_refl _) _⟩
 clear ly ny HY0 b0 HA; go_wp2_with (first | (refine wpList_store_row rfl 51 _ _ rfl w.heap.size (C4 y0 y1 y2 y3) rfl rfl 51 _ hW (info24c _ _ _ _) rfl (fone4 _ _ _ _) ?_)); clear hW; generalize W.setRow w.heap.size (C4 y0 y1 y2 y3) = W1 at H1 ⊢; simp only [Act.put]; go_cut [4] (fun s4 wx => ∃ (z : Nat) (r0 r1 r2 r3 : Int), s4 = .pointer (some ⟨z, 0, none⟩) ∧ L4 r0 r1 r2 r3 ∧ num r0 r1 r2 r3 = (x % PP) ^ E8 % PP ∧ SqIn y0 y1 y2 y3 r0 r1 r2 r3 z w wx)
 case first =>
  refine wp_region_held_drew (S := fun w' => w'.heap[w.heap.size]? = some (.cells (C4 y0 y1 y2 y3) 51 (0, 0)) ∧ w'.heap[w.heap.size + 1]? = some (.cells (C4 0 0 0 0) 51 (0, 0)) ∧ Below w.heap.size w w') (by kernel_rfl) (⟨H1.out.1, H1.out.2.1, Below.drew H1.out.2.2⟩) (fun hHeld => ?_); refine tk 0 (W4 y0 y1 y2 y3) (fun w9 hSw => ?_) hHeld ?_
  · exact run_load_exec 51 _ rfl _ rfl (run_loadVar_row w9 _ 51 51 _ (0, 0) _ hSw.1 Tryz.underlying51 rfl (info24c _ _ _ _))
  simp only [sm]; refine wpAnyH_ready (rs := [1, 7]) (by kernel_rfl) (by simp) ?_; refine AllReadyH.cons rfl (fun K hK => ?_) (AllReadyH.cons rfl (fun K hK => ?_) AllReadyH.nil)
  · go_simp
    refine Calls.mono (g_of3 _) ?_; rintro e w1 ⟨v1, rfl, h1, b1⟩; go_wp2_with fail; refine hK.out _ _ ?_ (fun hHeld => ?_)
    · exact ⟨kept hHeld.1 b1, kept hHeld.2.1 b1, hHeld.2.2.trans (b1.mono hHeld.2.2.size)⟩
    clear hK K; try simp only [sm]
    refine wpAnyH_ready (rs := [2, 7]) (by kernel_rfl) (by simp) ?_; refine AllReadyH.cons rfl (fun K hK => ?_) (AllReadyH.cons rfl (fun K hK => ?_) AllReadyH.nil)
    · go_simp
      refine Calls.mono (g_p _) ?_; rintro e w2 ⟨v2, rfl, h2, b2⟩; go_wp2_with fail; refine hK.out _ _ ?_ (fun hHeld => ?_)
      · exact ⟨kept hHeld.1 b2, kept hHeld.2.1 b2, hHeld.2.2.trans (b2.mono hHeld.2.2.size)⟩
      clear hK K; try simp only [sm]
      refine wpAnyH_ready (rs := [3, 7]) (by kernel_rfl) (by simp) ?_; refine AllReadyH.cons rfl (fun K hK => ?_) (AllReadyH.cons rfl (fun K hK => ?_) AllReadyH.nil)
      · go_simp
        refine Calls.mono (g_of3 _) ?_; rintro e w3 ⟨v3, rfl, h3, b3⟩; go_wp2_with fail; refine hK.out _ _ ?_ (fun hHeld => ?_)
        · exact ⟨kept hHeld.1 b3, kept hHeld.2.1 b3, hHeld.2.2.trans (b3.mono hHeld.2.2.size)⟩
        clear hK K; try simp only [sm]
        refine wpAnyH_ready (rs := [4, 7]) (by kernel_rfl) (by simp) ?_; refine AllReadyH.cons rfl (fun K hK => ?_) (AllReadyH.cons rfl (fun K hK => ?_) AllReadyH.nil)
        · go_simp
          refine Calls.mono (g_add h2 h3 _) ?_; rintro e w4 ⟨v4, rfl, h4, b4⟩; go_wp2_with fail; refine hK.out _ _ ?_ (fun hHeld => ?_)
          · exact ⟨kept hHeld.1 b4, kept hHeld.2.1 b4, hHeld.2.2.trans (b4.mono hHeld.2.2.size)⟩
          clear hK K; try simp only [sm]
          refine wpAnyH_ready (rs := [5, 7]) (by kernel_rfl) (by simp) ?_; refine AllReadyH.cons rfl (fun K hK => ?_) (AllReadyH.cons rfl (fun K hK => ?_) AllReadyH.nil)
          · go_simp
            refine Calls.mono (g_shr h1 h4 _) ?_; rintro e w5 ⟨v5, rfl, h5, b5⟩; go_wp2_with fail; refine hK.out _ _ ?_ (fun hHeld => ?_)
            · exact ⟨kept hHeld.1 b5, kept hHeld.2.1 b5, hHeld.2.2.trans (b5.mono hHeld.2.2.size)⟩
            clear hK K; try simp only [sm]
            refine wpAnyH_ready (rs := [6, 7]) (by kernel_rfl) (by simp) ?_; refine AllReadyH.cons rfl (fun K hK => ?_) (AllReadyH.cons rfl (fun K hK => ?_) AllReadyH.nil)
            · go_simp
              refine Calls.mono (g_fpow E8 HY.out.1 (e8_val ▸ h5) _) ?_; rintro e w6 ⟨v6, rfl, h6, b6⟩; go_wp2_with fail; refine hK.out _ _ ?_ (fun hHeld => ?_)
              · exact ⟨kept hHeld.1 b6, kept hHeld.2.1 b6, hHeld.2.2.trans (b6.mono hHeld.2.2.size)⟩
              clear hK K; try simp only [sm]
              refine rd 7 (fun K hK => ?_); have hOLD := hHeld.2.1; go_simp; refine hK.out _ _ ?_ (fun hHeld => ?_)
              · exact ⟨heap_old _ _ _ _ hHeld.1, heap_old _ _ _ _ hHeld.2.1, hHeld.2.2.alloc hHeld.2.2.size _⟩
              clear hK K; try simp only [sm]
              have hz := heap_alloc_new w6 (.cells (C4 0 0 0 0) 51); have hzl : w.heap.size + 1 < w6.heap.size := flt_of_some hOLD; clear hOLD; generalize w6.heap.size = z at hz hzl ⊢; generalize w6.alloc (.cells (C4 0 0 0 0) 51) = wA at hz hHeld ⊢; obtain ⟨r0, r1, r2, r3, rfl, hL, hN⟩ := h6; refine rd 8 (fun K hK => ?_); refine step_store_row (by rfl) 51 _ _ rfl z (C4 r0 r1 r2 r3) rfl rfl (run_storeVar_row _ _ 51 51 _ _ hz (info24c _ _ _ _) rfl (fone4 _ _ _ _)) ?_; refine hK.out _ _ ?_ (fun hHeld => ?_)
              · exact ⟨(setRow_other _ _ _ _ (by omega)).trans hHeld.1, (setRow_other _ _ _ _ (by omega)).trans hHeld.2.1, below_setRow hHeld.2.2 (by omega) _⟩
              clear hK K; try simp only [sm]
              refine wpAnyH_done (by kernel_rfl) ?_ _; go_wp2_with fail; go_meet
              case rel => exact ⟨z, r0, r1, r2, r3, rfl, hL, hN, hHeld.1, hHeld.2.1, setRow_heap _ _ _ _ _ _ hz, hzl, hHeld.2.2⟩
            · have hOLD := hHeld.2.1
              go_simp; refine hK.out _ _ ?_ (fun hHeld => ?_)
              · exact ⟨heap_old _ _ _ _ hHeld.1, heap_old _ _ _ _ hHeld.2.1, hHeld.2.2.alloc hHeld.2.2.size _⟩
              clear hK K; try simp only [sm]
              have hz := heap_alloc_new w5 (.cells (C4 0 0 0 0) 51); have hzl : w.heap.size + 1 < w5.heap.size := flt_of_some hOLD; clear hOLD; generalize w5.heap.size = z at hz hzl ⊢; generalize w5.alloc (.cells (C4 0 0 0 0) 51) = wA at hz hHeld ⊢; refine rd 6 (fun K hK => ?_); go_simp; refine Calls.mono (g_fpow E8 HY.out.1 (e8_val ▸ h5) _) ?_; rintro e w6 ⟨v6, rfl, h6, b6⟩
              replace hz := kept hz b6
              go_wp2_with fail
              refine hK.out _ _ ?_ (fun hHeld => ?_)
              · exact ⟨kept hHeld.1 b6, kept hHeld.2.1 b6, hHeld.2.2.trans (b6.mono hHeld.2.2.size)⟩
              clear hK K; try simp only [sm]
              obtain ⟨r0, r1, r2, r3, rfl, hL, hN⟩ := h6; refine rd 8 (fun K hK => ?_); refine step_store_row (by rfl) 51 _ _ rfl z (C4 r0 r1 r2 r3) rfl rfl (run_storeVar_row _ _ 51 51 _ _ hz (info24c _ _ _ _) rfl (fone4 _ _ _ _)) ?_; refine hK.out _ _ ?_ (fun hHeld => ?_)
              · exact ⟨(setRow_other _ _ _ _ (by omega)).trans hHeld.1, (setRow_other _ _ _ _ (by omega)).trans hHeld.2.1, below_setRow hHeld.2.2 (by omega) _⟩
              clear hK K; try simp only [sm]
              refine wpAnyH_done (by kernel_rfl) ?_ _; go_wp2_with fail; go_meet
              case rel => exact ⟨z, r0, r1, r2, r3, rfl, hL, hN, hHeld.1, hHeld.2.1, setRow_heap _ _ _ _ _ _ hz, hzl, hHeld.2.2⟩
          · have hOLD := hHeld.2.1
            go_simp; refine hK.out _ _ ?_ (fun hHeld => ?_)
            · exact ⟨heap_old _ _ _ _ hHeld.1, heap_old _ _ _ _ hHeld.2.1, hHeld.2.2.alloc hHeld.2.2.size _⟩
            clear hK K; try simp only [sm]
            have hz := heap_alloc_new w4 (.cells (C4 0 0 0 0) 51); have hzl : w.heap.size + 1 < w4.heap.size := flt_of_some hOLD; clear hOLD; generalize w4.heap.size = z at hz hzl ⊢; generalize w4.alloc (.cells (C4 0 0 0 0) 51) = wA at hz hHeld ⊢; refine rd 5 (fun K hK => ?_); go_simp; refine Calls.mono (g_shr h1 h4 _) ?_; rintro e w5 ⟨v5, rfl, h5, b5⟩
            replace hz := kept hz b5
            go_wp2_with fail
            refine hK.out _ _ ?_ (fun hHeld => ?_)
            · exact ⟨kept hHeld.1 b5, kept hHeld.2.1 b5, hHeld.2.2.trans (b5.mono hHeld.2.2.size)⟩
            clear hK K; try simp only [sm]
            refine rd 6 (fun K hK => ?_); go_simp; refine Calls.mono (g_fpow E8 HY.out.1 (e8_val ▸ h5) _) ?_; rintro e w6 ⟨v6, rfl, h6, b6⟩
            replace hz := kept hz b6
            go_wp2_with fail
            refine hK.out _ _ ?_ (fun hHeld => ?_)
            · exact ⟨kept hHeld.1 b6, kept hHeld.2.1 b6, hHeld.2.2.trans (b6.mono hHeld.2.2.size)⟩
            clear hK K; try simp only [sm]
            obtain ⟨r0, r1, r2, r3, rfl, hL, hN⟩ := h6; refine rd 8 (fun K hK => ?_); refine step_store_row (by rfl) 51 _ _ rfl z (C4 r0 r1 r2 r3) rfl rfl (run_storeVar_row _ _ 51 51 _ _ hz (info24c _ _ _ _) rfl (fone4 _ _ _ _)) ?_; refine hK.out _ _ ?_ (fun hHeld => ?_)
            · exact ⟨(setRow_other _ _ _ _ (by omega)).trans hHeld.1, (setRow_other _ _ _ _ (by omega)).trans hHeld.2.1, below_setRow hHeld.2.2 (by omega) _⟩
            clear hK K; try simp only [sm]
            refine wpAnyH_done (by kernel_rfl) ?_ _; go_wp2_with fail; go_meet
            case rel => exact ⟨z, r0, r1, r2, r3, rfl, hL, hN, hHeld.1, hHeld.2.1, setRow_heap _ _ _ _ _ _ hz, hzl, hHeld.2.2⟩
        · have hOLD := hHeld.2.1
          go_simp; refine hK.out _ _ ?_ (fun hHeld => ?_)
          · exact ⟨heap_old _ _ _ _ hHeld.1, heap_old _ _ _ _ hHeld.2.1, hHeld.2.2.alloc hHeld.2.2.size _⟩
          clear hK K; try simp only [sm]
          have hz := heap_alloc_new w3 (.cells (C4 0 0 0 0) 51); have hzl : w.heap.size + 1 < w3.heap.size := flt_of_some hOLD; clear hOLD; generalize w3.heap.size = z at hz hzl ⊢; generalize w3.alloc (.cells (C4 0 0 0 0) 51) = wA at hz hHeld ⊢; refine rd 4 (fun K hK => ?_); go_simp; refine Calls.mono (g_add h2 h3 _) ?_; rintro e w4 ⟨v4, rfl, h4, b4⟩
          replace hz := kept hz b4
          go_wp2_with fail
          refine hK.out _ _ ?_ (fun hHeld => ?_)
          · exact ⟨kept hHeld.1 b4, kept hHeld.2.1 b4, hHeld.2.2.trans (b4.mono hHeld.2.2.size)⟩
          clear hK K; try simp only [sm]
          refine rd 5 (fun K hK => ?_); go_simp; refine Calls.mono (g_shr h1 h4 _) ?_; rintro e w5 ⟨v5, rfl, h5, b5⟩
          replace hz := kept hz b5
          go_wp2_with fail
          refine hK.out _ _ ?_ (fun hHeld => ?_)
          · exact ⟨kept hHeld.1 b5, kept hHeld.2.1 b5, hHeld.2.2.trans (b5.mono hHeld.2.2.size)⟩
          clear hK K; try simp only [sm]
          refine rd 6 (fun K hK => ?_); go_simp; refine Calls.mono (g_fpow E8 HY.out.1 (e8_val ▸ h5) _) ?_; rintro e w6 ⟨v6, rfl, h6, b6⟩
          replace hz := kept hz b6
          go_wp2_with fail
          refine hK.out _ _ ?_ (fun hHeld => ?_)
          · exact ⟨kept hHeld.1 b6, kept hHeld.2.1 b6, hHeld.2.2.trans (b6.mono hHeld.2.2.size)⟩
          clear hK K; try simp only [sm]
          obtain ⟨r0, r1, r2, r3, rfl, hL, hN⟩ := h6; refine rd 8 (fun K hK => ?_); refine step_store_row (by rfl) 51 _ _ rfl z (C4 r0 r1 r2 r3) rfl rfl (run_storeVar_row _ _ 51 51 _ _ hz (info24c _ _ _ _) rfl (fone4 _ _ _ _)) ?_; refine hK.out _ _ ?_ (fun hHeld => ?_)
          · exact ⟨(setRow_other _ _ _ _ (by omega)).trans hHeld.1, (setRow_other _ _ _ _ (by omega)).trans hHeld.2.1, below_setRow hHeld.2.2 (by omega) _⟩
          clear hK K; try simp only [sm]
          refine wpAnyH_done (by kernel_rfl) ?_ _; go_wp2_with fail; go_meet
          case rel => exact ⟨z, r0, r1, r2, r3, rfl, hL, hN, hHeld.1, hHeld.2.1, setRow_heap _ _ _ _ _ _ hz, hzl, hHeld.2.2⟩
      · have hOLD := hHeld.2.1
        go_simp; refine hK.out _ _ ?_ (fun hHeld => ?_)
        · exact ⟨heap_old _ _ _ _ hHeld.1, heap_old _ _ _ _ hHeld.2.1, hHeld.2.2.alloc hHeld.2.2.size _⟩
        clear hK K; try simp only [sm]
        have hz := heap_alloc_new w2 (.cells (C4 0 0 0 0) 51); have hzl : w.heap.size + 1 < w2.heap.size := flt_of_some hOLD; clear hOLD; generalize w2.heap.size = z at hz hzl ⊢; generalize w2.alloc (.cells (C4 0 0 0 0) 51) = wA at hz hHeld ⊢; refine rd 3 (fun K hK => ?_); go_simp; refine Calls.mono (g_of3 _) ?_; rintro e w3 ⟨v3, rfl, h3, b3⟩
        replace hz := kept hz b3
        go_wp2_with fail
        refine hK.out _ _ ?_ (fun hHeld => ?_)
        · exact ⟨kept hHeld.1 b3, kept hHeld.2.1 b3, hHeld.2.2.trans (b3.mono hHeld.2.2.size)⟩
        clear hK K; try simp only [sm]
        refine rd 4 (fun K hK => ?_); go_simp; refine Calls.mono (g_add h2 h3 _) ?_; rintro e w4 ⟨v4, rfl, h4, b4⟩
        replace hz := kept hz b4
        go_wp2_with fail
        refine hK.out _ _ ?_ (fun hHeld => ?_)
        · exact ⟨kept hHeld.1 b4, kept hHeld.2.1 b4, hHeld.2.2.trans (b4.mono hHeld.2.2.size)⟩
        clear hK K; try simp only [sm]
        refine rd 5 (fun K hK => ?_); go_simp; refine Calls.mono (g_shr h1 h4 _) ?_; rintro e w5 ⟨v5, rfl, h5, b5⟩
        replace hz := kept hz b5
        go_wp2_with fail
        refine hK.out _ _ ?_ (fun hHeld => ?_)
        · exact ⟨kept hHeld.1 b5, kept hHeld.2.1 b5, hHeld.2.2.trans (b5.mono hHeld.2.2.size)⟩
        clear hK K; try simp only [sm]
        refine rd 6 (fun K hK => ?_); go_simp; refine Calls.mono (g_fpow E8 HY.out.1 (e8_val ▸ h5) _) ?_; rintro e w6 ⟨v6, rfl, h6, b6⟩
        replace hz := kept hz b6
        go_wp2_with fail
        refine hK.out _ _ ?_ (fun hHeld => ?_)
        · exact ⟨kept hHeld.1 b6, kept hHeld.2.1 b6, hHeld.2.2.trans (b6.mono hHeld.2.2.size)⟩
        clear hK K; try simp only [sm]
        obtain ⟨r0, r1, r2, r3, rfl, hL, hN⟩ := h6; refine rd 8 (fun K hK => ?_); refine step_store_row (by rfl) 51 _ _ rfl z (C4 r0 r1 r2 r3) rfl rfl (run_storeVar_row _ _ 51 51 _ _ hz (info24c _ _ _ _) rfl (fone4 _ _ _ _)) ?_; refine hK.out _ _ ?_ (fun hHeld => ?_)
        · exact ⟨(setRow_other _ _ _ _ (by omega)).trans hHeld.1, (setRow_other _ _ _ _ (by omega)).trans hHeld.2.1, below_setRow hHeld.2.2 (by omega) _⟩
        clear hK K; try simp only [sm]
        refine wpAnyH_done (by kernel_rfl) ?_ _; go_wp2_with fail; go_meet
        case rel => exact ⟨z, r0, r1, r2, r3, rfl, hL, hN, hHeld.1, hHeld.2.1, setRow_heap _ _ _ _ _ _ hz, hzl, hHeld.2.2⟩
    · have hOLD := hHeld.2.1
      go_simp; refine hK.out _ _ ?_ (fun hHeld => ?_)
      · exact ⟨heap_old _ _ _ _ hHeld.1, heap_old _ _ _ _ hHeld.2.1, hHeld.2.2.alloc hHeld.2.2.size _⟩
      clear hK K; try simp only [sm]
      have hz := heap_alloc_new w1 (.cells (C4 0 0 0 0) 51); have hzl : w.heap.size + 1 < w1.heap.size := flt_of_some hOLD; clear hOLD; generalize w1.heap.size = z at hz hzl ⊢; generalize w1.alloc (.cells (C4 0 0 0 0) 51) = wA at hz hHeld ⊢; refine rd 2 (fun K hK => ?_); go_simp; refine Calls.mono (g_p _) ?_; rintro e w2 ⟨v2, rfl, h2, b2⟩
      replace hz := kept hz b2
      go_wp2_with fail
      refine hK.out _ _ ?_ (fun hHeld => ?_)
      · exact ⟨kept hHeld.1 b2, kept hHeld.2.1 b2, hHeld.2.2.trans (b2.mono hHeld.2.2.size)⟩
      clear hK K; try simp only [sm]
      refine rd 3 (fun K hK => ?_); go_simp; refine Calls.mono (g_of3 _) ?_; rintro e w3 ⟨v3, rfl, h3, b3⟩
      replace hz := kept hz b3
      go_wp2_with fail
      refine hK.out _ _ ?_ (fun hHeld => ?_)
      · exact ⟨kept hHeld.1 b3, kept hHeld.2.1 b3, hHeld.2.2.trans (b3.mono hHeld.2.2.size)⟩
      clear hK K; try simp only [sm]
      refine rd 4 (fun K hK => ?_); go_simp; refine Calls.mono (g_add h2 h3 _) ?_; rintro e w4 ⟨v4, rfl, h4, b4⟩
      replace hz := kept hz b4
      go_wp2_with fail
      refine hK.out _ _ ?_ (fun hHeld => ?_)
      · exact ⟨kept hHeld.1 b4, kept hHeld.2.1 b4, hHeld.2.2.trans (b4.mono hHeld.2.2.size)⟩
      clear hK K; try simp only [sm]
      refine rd 5 (fun K hK => ?_); go_simp; refine Calls.mono (g_shr h1 h4 _) ?_; rintro e w5 ⟨v5, rfl, h5, b5⟩
      replace hz := kept hz b5
      go_wp2_with fail
      refine hK.out _ _ ?_ (fun hHeld => ?_)
      · exact ⟨kept hHeld.1 b5, kept hHeld.2.1 b5, hHeld.2.2.trans (b5.mono hHeld.2.2.size)⟩
      clear hK K; try simp only [sm]
      refine rd 6 (fun K hK => ?_); go_simp; refine Calls.mono (g_fpow E8 HY.out.1 (e8_val ▸ h5) _) ?_; rintro e w6 ⟨v6, rfl, h6, b6⟩
      replace hz := kept hz b6
      go_wp2_with fail
      refine hK.out _ _ ?_ (fun hHeld => ?_)
      · exact ⟨kept hHeld.1 b6, kept hHeld.2.1 b6, hHeld.2.2.trans (b6.mono hHeld.2.2.size)⟩
      clear hK K; try simp only [sm]
      obtain ⟨r0, r1, r2, r3, rfl, hL, hN⟩ := h6; refine rd 8 (fun K hK => ?_); refine step_store_row (by rfl) 51 _ _ rfl z (C4 r0 r1 r2 r3) rfl rfl (run_storeVar_row _ _ 51 51 _ _ hz (info24c _ _ _ _) rfl (fone4 _ _ _ _)) ?_; refine hK.out _ _ ?_ (fun hHeld => ?_)
      · exact ⟨(setRow_other _ _ _ _ (by omega)).trans hHeld.1, (setRow_other _ _ _ _ (by omega)).trans hHeld.2.1, below_setRow hHeld.2.2 (by omega) _⟩
      clear hK K; try simp only [sm]
      refine wpAnyH_done (by kernel_rfl) ?_ _; go_wp2_with fail; go_meet
      case rel => exact ⟨z, r0, r1, r2, r3, rfl, hL, hN, hHeld.1, hHeld.2.1, setRow_heap _ _ _ _ _ _ hz, hzl, hHeld.2.2⟩
  · have hOLD := hHeld.2.1
    go_simp; refine hK.out _ _ ?_ (fun hHeld => ?_)
    · exact ⟨heap_old _ _ _ _ hHeld.1, heap_old _ _ _ _ hHeld.2.1, hHeld.2.2.alloc hHeld.2.2.size _⟩
    clear hK K; try simp only [sm]
    have hz : (W1.alloc (.cells (C4 0 0 0 0) 51)).drew.heap[W1.heap.size]? = some (.cells (C4 0 0 0 0) 51 (0, 0)) := heap_alloc_new W1 (.cells (C4 0 0 0 0) 51); have hzl : w.heap.size + 1 < W1.heap.size := flt_of_some hOLD; clear hOLD; generalize W1.heap.size = z at hz hzl ⊢; generalize (W1.alloc (.cells (C4 0 0 0 0) 51)).drew = wA at hz hHeld ⊢; refine rd 1 (fun K hK => ?_); go_simp; refine Calls.mono (g_of3 _) ?_; rintro e w1 ⟨v1, rfl, h1, b1⟩
    replace hz := kept hz b1
    go_wp2_with fail
    refine hK.out _ _ ?_ (fun hHeld => ?_)
    · exact ⟨kept hHeld.1 b1, kept hHeld.2.1 b1, hHeld.2.2.trans (b1.mono hHeld.2.2.size)⟩
    clear hK K; try simp only [sm]
    refine rd 2 (fun K hK => ?_); go_simp; refine Calls.mono (g_p _) ?_; rintro e w2 ⟨v2, rfl, h2, b2⟩
    replace hz := kept hz b2
    go_wp2_with fail
    refine hK.out _ _ ?_ (fun hHeld => ?_)
    · exact ⟨kept hHeld.1 b2, kept hHeld.2.1 b2, hHeld.2.2.trans (b2.mono hHeld.2.2.size)⟩
    clear hK K; try simp only [sm]
    refine rd 3 (fun K hK => ?_); go_simp; refine Calls.mono (g_of3 _) ?_; rintro e w3 ⟨v3, rfl, h3, b3⟩
    replace hz := kept hz b3
    go_wp2_with fail
    refine hK.out _ _ ?_ (fun hHeld => ?_)
    · exact ⟨kept hHeld.1 b3, kept hHeld.2.1 b3, hHeld.2.2.trans (b3.mono hHeld.2.2.size)⟩
    clear hK K; try simp only [sm]
    refine rd 4 (fun K hK => ?_); go_simp; refine Calls.mono (g_add h2 h3 _) ?_; rintro e w4 ⟨v4, rfl, h4, b4⟩
    replace hz := kept hz b4
    go_wp2_with fail
    refine hK.out _ _ ?_ (fun hHeld => ?_)
    · exact ⟨kept hHeld.1 b4, kept hHeld.2.1 b4, hHeld.2.2.trans (b4.mono hHeld.2.2.size)⟩
    clear hK K; try simp only [sm]
    refine rd 5 (fun K hK => ?_); go_simp; refine Calls.mono (g_shr h1 h4 _) ?_; rintro e w5 ⟨v5, rfl, h5, b5⟩
    replace hz := kept hz b5
    go_wp2_with fail
    refine hK.out _ _ ?_ (fun hHeld => ?_)
    · exact ⟨kept hHeld.1 b5, kept hHeld.2.1 b5, hHeld.2.2.trans (b5.mono hHeld.2.2.size)⟩
    clear hK K; try simp only [sm]
    refine rd 6 (fun K hK => ?_); go_simp; refine Calls.mono (g_fpow E8 HY.out.1 (e8_val ▸ h5) _) ?_; rintro e w6 ⟨v6, rfl, h6, b6⟩
    replace hz := kept hz b6
    go_wp2_with fail
    refine hK.out _ _ ?_ (fun hHeld => ?_)
    · exact ⟨kept hHeld.1 b6, kept hHeld.2.1 b6, hHeld.2.2.trans (b6.mono hHeld.2.2.size)⟩
    clear hK K; try simp only [sm]
    obtain ⟨r0, r1, r2, r3, rfl, hL, hN⟩ := h6; refine rd 8 (fun K hK => ?_); refine step_store_row (by rfl) 51 _ _ rfl z (C4 r0 r1 r2 r3) rfl rfl (run_storeVar_row _ _ 51 51 _ _ hz (info24c _ _ _ _) rfl (fone4 _ _ _ _)) ?_; refine hK.out _ _ ?_ (fun hHeld => ?_)
    · exact ⟨(setRow_other _ _ _ _ (by omega)).trans hHeld.1, (setRow_other _ _ _ _ (by omega)).trans hHeld.2.1, below_setRow hHeld.2.2 (by omega) _⟩
    clear hK K; try simp only [sm]
    refine wpAnyH_done (by kernel_rfl) ?_ _; go_wp2_with fail; go_meet
    case rel => exact ⟨z, r0, r1, r2, r3, rfl, hL, hN, hHeld.1, hHeld.2.1, setRow_heap _ _ _ _ _ _ hz, hzl, hHeld.2.2⟩
 case rest =>
  obtain ⟨z, r0, r1, r2, r3, rfl, hL, hN, hin⟩ := hcut; have H : Hid (SqIn y0 y1 y2 y3 r0 r1 r2 r3 z w wc) := hin; have HL : Hid (L4 r0 r1 r2 r3) := hL; have HN : Hid (num r0 r1 r2 r3 = rt1 x) := hN; clear hin hL hN H1; by_cases hB : rt1 x * rt1 x % PP = x % PP
  · have hEq : (rt1 x * rt1 x % PP == x % PP) = true := by rw [hB]; exact beq_self_eq_true _
    have HR : Hid (sqrtR x = evenR (rt1 x)) := if_pos hB; have HB : Hid (sqrtB x = true) := by show _ = _; unfold sqrtB; rw [decide_eq_true hB]; rfl
    go_wp2; refine wp_region_held_drew (S := fun w' => w'.heap[w.heap.size]? = some (.cells (C4 y0 y1 y2 y3) 51 (0, 0)) ∧ w'.heap[z]? = some (.cells (C4 r0 r1 r2 r3) 51 (0, 0))) (by kernel_rfl) (⟨H.out.1, H.out.2.2.1⟩) (fun hHeld => ?_)
    refine tk 0 (W4 r0 r1 r2 r3) (fun w9 hSw => ?_) hHeld ?_
    · exact run_load_exec 51 _ rfl _ rfl (run_loadVar_row w9 _ 51 51 _ (0, 0) _ hSw.2 Tryz.underlying51 rfl (info24c _ _ _ _))
    simp only [sm]; refine tk 1 (W4 r0 r1 r2 r3) (fun w9 hSw => ?_) hHeld ?_
    · exact run_load_exec 51 _ rfl _ rfl (run_loadVar_row w9 _ 51 51 _ (0, 0) _ hSw.2 Tryz.underlying51 rfl (info24c _ _ _ _))
    simp only [sm]; refine tk 3 (W4 y0 y1 y2 y3) (fun w9 hSw => ?_) hHeld ?_
    · exact run_load_exec 51 _ rfl _ rfl (run_loadVar_row w9 _ 51 51 _ (0, 0) _ hSw.1 Tryz.underlying51 rfl (info24c _ _ _ _))
    simp only [sm]; refine rd 2 (fun K hK => ?_); go_simp; refine Calls.mono (g_fmul (IsW.mk HL.out) (IsW.mk HL.out) _) ?_; rintro e wm ⟨vm, rfl, hm, bm⟩; obtain ⟨m0, m1, m2, m3, rfl, hLm, hNm⟩ := hm; go_wp2_with fail; refine hK.out _ _ ?_ (fun hHeld => ?_)
    · exact ⟨kept hHeld.1 bm, kept hHeld.2 bm⟩
    clear hK K; try simp only [sm]
    refine tk 4 (.bool false) (fun w9 hSw => ?_) hHeld ?_
    · have a := eqW (IsW.mk hLm) HY.out.1 w9
      rw [hNm, HN.out, hEq] at a; go_simp
    simp only [sm]; refine wpAnyH_done (by kernel_rfl) ?_ _; have Hn : Hid (SqIn y0 y1 y2 y3 r0 r1 r2 r3 z w wm) := (H.out.more (Below.drew (Below.refl _ _))).more bm; clear hHeld hLm hNm bm; go_wp2; have HnL : Hid (L4 r0 r1 r2 r3) := HL.out; have HnN : Hid (num r0 r1 r2 r3 = rt1 x) := HN.out; clear H HL HN; refine wp_region_held_drew (S := fun w' => w'.heap[w.heap.size]? = some (.cells (C4 y0 y1 y2 y3) 51 (0, 0)) ∧ w'.heap[z]? = some (.cells (C4 r0 r1 r2 r3) 51 (0, 0))) (by kernel_rfl) (⟨Hn.out.1, Hn.out.2.2.1⟩) (fun hHeld => ?_); refine tk 0 (W4 r0 r1 r2 r3) (fun w9 hSw => ?_) hHeld ?_
    · exact run_load_exec 51 _ rfl _ rfl (run_loadVar_row w9 _ 51 51 _ (0, 0) _ hSw.2 Tryz.underlying51 rfl (info24c _ _ _ _))
    simp only [sm]; refine tk 1 (W4 r0 r1 r2 r3) (fun w9 hSw => ?_) hHeld ?_
    · exact run_load_exec 51 _ rfl _ rfl (run_loadVar_row w9 _ 51 51 _ (0, 0) _ hSw.2 Tryz.underlying51 rfl (info24c _ _ _ _))
    simp only [sm]; refine tk 3 (W4 y0 y1 y2 y3) (fun w9 hSw => ?_) hHeld ?_
    · exact run_load_exec 51 _ rfl _ rfl (run_loadVar_row w9 _ 51 51 _ (0, 0) _ hSw.1 Tryz.underlying51 rfl (info24c _ _ _ _))
    simp only [sm]; refine rd 2 (fun K hK => ?_); go_simp; refine Calls.mono (g_fmul (IsW.mk HnL.out) (IsW.mk HnL.out) _) ?_; rintro e wm2 ⟨vm, rfl, hm, bm⟩; obtain ⟨m0, m1, m2, m3, rfl, hLm, hNm⟩ := hm; go_wp2_with fail; refine hK.out _ _ ?_ (fun hHeld => ?_)
    · exact ⟨kept hHeld.1 bm, kept hHeld.2 bm⟩
    clear hK K; try simp only [sm]
    refine tk 4 (.bool false) (fun w9 hSw => ?_) hHeld ?_
    · have a := eqW (IsW.mk hLm) HY.out.1 w9
      rw [hNm, HnN.out, hEq] at a; go_simp
    simp only [sm]; refine wpAnyH_done (by kernel_rfl) ?_ _; have Hnn : Hid (SqIn y0 y1 y2 y3 r0 r1 r2 r3 z w wm2) := (Hn.out.more (Below.drew (Below.refl _ _))).more bm; clear hHeld hLm hNm bm; have H : Hid (SqIn y0 y1 y2 y3 r0 r1 r2 r3 z w wm2) := Hnn.out; have HL := HnL; have HN := HnN; clear Hnn Hn HnL HnN hEq; go_wp2_with (first | (refine wpList_load_row rfl 51 _ rfl z rfl 51 _ (0, 0) _ H.out.2.2.1 Tryz.underlying51 rfl (info24c _ _ _ _) ?_)); refine Calls.mono (g_bit0 (IsW.mk HL.out) _) ?_; rintro e wb ⟨rfl, bb⟩; have G : Hid (SqIn y0 y1 y2 y3 r0 r1 r2 r3 z w wb) := H.out.more bb; have GL : Hid (L4 r0 r1 r2 r3) := HL.out; have GN : Hid (num r0 r1 r2 r3 = rt1 x) := HN.out; clear bb H HL HN; rw [GN.out]; by_cases hodd : (rt1 x) % 2 = 1
    · rw [decide_eq_true hodd]
      have HE : Hid (evenR (rt1 x) = PP - (rt1 x)) := evenR_odd hodd; clear hodd; go_wp2; refine wp_region_held_drew (S := fun _ => True) (by kernel_rfl) trivial (fun hHeld => ?_); have hzg : wb.drew.heap[z]? = some (.cells (C4 r0 r1 r2 r3) 51 (0, 0)) := G.out.2.2.1; refine wpAnyH_ready (rs := [0, 1]) (by kernel_rfl) (by simp) ?_; refine AllReadyH.cons rfl (fun K hK => ?_) (AllReadyH.cons rfl (fun K hK => ?_) AllReadyH.nil)
      · go_simp
        refine Calls.mono (g_p _) ?_; rintro e wp ⟨vp, rfl, hp, bp⟩; have hzp := kept hzg bp; go_wp2_with fail; refine hK.out _ _ trivial (fun hHeld => ?_); clear hK K; try simp only [sm]
        refine rd 1 (fun K hK => ?_); refine step_load_row (by rfl) 51 _ rfl z (C4 r0 r1 r2 r3) rfl (run_loadVar_row _ _ 51 51 _ (0, 0) _ hzp Tryz.underlying51 rfl (info24c _ _ _ _)) ?_; refine hK.out _ _ trivial (fun hHeld => ?_); clear hK K; try simp only [sm]
        refine rd 2 (fun K hK => ?_); go_simp; refine Calls.mono (g_sub hp (IsW.mk GL.out) _) ?_; rintro e wt ⟨vt, rfl, ht, bt⟩; obtain ⟨t0, t1, t2, t3, rfl, hLt, hNt⟩ := ht; go_wp2_with fail; refine hK.out _ _ trivial (fun hHeld => ?_); clear hK K; try simp only [sm]
        have G3 : SqIn y0 y1 y2 y3 r0 r1 r2 r3 z w wt := ((G.out.more (Below.drew (Below.refl _ _))).more bp).more bt; refine rd 3 (fun K hK => ?_); refine step_store_row (by rfl) 51 _ _ rfl z (C4 t0 t1 t2 t3) rfl rfl (run_storeVar_row _ _ 51 51 _ _ G3.2.2.1 (info24c _ _ _ _) rfl (fone4 _ _ _ _)) ?_; refine hK.out _ _ trivial (fun hHeld => ?_); clear hK K; try simp only [sm]
        refine wpAnyH_done (by kernel_rfl) ?_ _; have G4 : Hid (SqIn y0 y1 y2 y3 t0 t1 t2 t3 z w (wt.setRow z (C4 t0 t1 t2 t3))) := G3.put _ _ _ _; have G4L : Hid (L4 t0 t1 t2 t3) := hLt; have G4E : Hid (num t0 t1 t2 t3 = evenR (rt1 x)) := by
         show _ = _; rw [HE.out, hNt, GN.out, sub_fit (show 0 ≤ (rt1 x) ∧ (rt1 x) < PP from mod_PP _)]
        clear hHeld hLt hNt bt bp hp hzp G3 G GL GN HE; generalize wt.setRow z (C4 t0 t1 t2 t3) = w8 at G4 ⊢; go_wp2_with (first | (refine wpList_load_row rfl 51 _ rfl z rfl 51 _ (0, 0) _ G4.out.2.2.1 Tryz.underlying51 rfl (info24c _ _ _ _) ?_) | (refine wpList_store_row rfl 51 _ _ rfl (w.heap.size + 1) (C4 t0 t1 t2 t3) rfl rfl 51 _ G4.out.2.1 (info24c _ _ _ _) rfl (fone4 _ _ _ _) ?_)); have hl := run_loadVar_row (P := Tryz.prog) (w8.setRow (w.heap.size + 1) (C4 t0 t1 t2 t3)) (w.heap.size + 1) 51 51 _ (0, 0) _ (setRow_heap _ _ _ _ _ _ G4.out.2.1) Tryz.underlying51 rfl (info24c _ _ _ _); refine bodyPost_ret (v := .tuple #[W4 t0 t1 t2 t3, .bool true]) (by simp [results, Tryz.results111, asAddr, hl]) rfl ⟨_, by rw [HB.out], ⟨t0, t1, t2, t3, rfl, G4L.out, by rw [HR.out]; exact G4E.out⟩, below_setRow G4.out.2.2.2.2 (by omega) _⟩
      · refine step_load_row (by rfl) 51 _ rfl z (C4 r0 r1 r2 r3) rfl (run_loadVar_row _ _ 51 51 _ (0, 0) _ hzg Tryz.underlying51 rfl (info24c _ _ _ _)) ?_
        refine hK.out _ _ trivial (fun hHeld => ?_); clear hK K; try simp only [sm]
        refine rd 0 (fun K hK => ?_); go_simp; refine Calls.mono (g_p _) ?_; rintro e wp ⟨vp, rfl, hp, bp⟩; have hzp := kept hzg bp; go_wp2_with fail; refine hK.out _ _ trivial (fun hHeld => ?_); clear hK K; try simp only [sm]
        refine rd 2 (fun K hK => ?_); go_simp; refine Calls.mono (g_sub hp (IsW.mk GL.out) _) ?_; rintro e wt ⟨vt, rfl, ht, bt⟩; obtain ⟨t0, t1, t2, t3, rfl, hLt, hNt⟩ := ht; go_wp2_with fail; refine hK.out _ _ trivial (fun hHeld => ?_); clear hK K; try simp only [sm]
        have G3 : SqIn y0 y1 y2 y3 r0 r1 r2 r3 z w wt := ((G.out.more (Below.drew (Below.refl _ _))).more bp).more bt; refine rd 3 (fun K hK => ?_); refine step_store_row (by rfl) 51 _ _ rfl z (C4 t0 t1 t2 t3) rfl rfl (run_storeVar_row _ _ 51 51 _ _ G3.2.2.1 (info24c _ _ _ _) rfl (fone4 _ _ _ _)) ?_; refine hK.out _ _ trivial (fun hHeld => ?_); clear hK K; try simp only [sm]
        refine wpAnyH_done (by kernel_rfl) ?_ _; have G4 : Hid (SqIn y0 y1 y2 y3 t0 t1 t2 t3 z w (wt.setRow z (C4 t0 t1 t2 t3))) := G3.put _ _ _ _; have G4L : Hid (L4 t0 t1 t2 t3) := hLt; have G4E : Hid (num t0 t1 t2 t3 = evenR (rt1 x)) := by
         show _ = _; rw [HE.out, hNt, GN.out, sub_fit (show 0 ≤ (rt1 x) ∧ (rt1 x) < PP from mod_PP _)]
        clear hHeld hLt hNt bt bp hp hzp G3 G GL GN HE; generalize wt.setRow z (C4 t0 t1 t2 t3) = w8 at G4 ⊢; go_wp2_with (first | (refine wpList_load_row rfl 51 _ rfl z rfl 51 _ (0, 0) _ G4.out.2.2.1 Tryz.underlying51 rfl (info24c _ _ _ _) ?_) | (refine wpList_store_row rfl 51 _ _ rfl (w.heap.size + 1) (C4 t0 t1 t2 t3) rfl rfl 51 _ G4.out.2.1 (info24c _ _ _ _) rfl (fone4 _ _ _ _) ?_)); have hl := run_loadVar_row (P := Tryz.prog) (w8.setRow (w.heap.size + 1) (C4 t0 t1 t2 t3)) (w.heap.size + 1) 51 51 _ (0, 0) _ (setRow_heap _ _ _ _ _ _ G4.out.2.1) Tryz.underlying51 rfl (info24c _ _ _ _); refine bodyPost_ret (v := .tuple #[W4 t0 t1 t2 t3, .bool true]) (by simp [results, Tryz.results111, asAddr, hl]) rfl ⟨_, by rw [HB.out], ⟨t0, t1, t2, t3, rfl, G4L.out, by rw [HR.out]; exact G4E.out⟩, below_setRow G4.out.2.2.2.2 (by omega) _⟩
    · rw [decide_eq_false hodd]
      have GE : Hid (num r0 r1 r2 r3 = evenR (rt1 x)) := by
       show _ = _; rw [GN.out, evenR_even hodd]
      clear hodd GN; go_wp2_with (first | (refine wpList_load_row rfl 51 _ rfl z rfl 51 _ (0, 0) _ G.out.2.2.1 Tryz.underlying51 rfl (info24c _ _ _ _) ?_) | (refine wpList_store_row rfl 51 _ _ rfl (w.heap.size + 1) (C4 r0 r1 r2 r3) rfl rfl 51 _ G.out.2.1 (info24c _ _ _ _) rfl (fone4 _ _ _ _) ?_)); have hl := run_loadVar_row (P := Tryz.prog) (wb.setRow (w.heap.size + 1) (C4 r0 r1 r2 r3)) (w.heap.size + 1) 51 51 _ (0, 0) _ (setRow_heap _ _ _ _ _ _ G.out.2.1) Tryz.underlying51 rfl (info24c _ _ _ _); refine bodyPost_ret (v := .tuple #[W4 r0 r1 r2 r3, .bool true]) (by simp [results, Tryz.results111, asAddr, hl]) rfl ⟨_, by rw [HB.out], ⟨r0, r1, r2, r3, rfl, GL.out, by rw [HR.out]; exact GE.out⟩, below_setRow G.out.2.2.2.2 (by omega) _⟩
  · have hEq : (rt1 x * rt1 x % PP == x % PP) = false := beq_eq_false_iff_ne.2 hB
    have HR1 : Hid (sqrtR x = if rt2 x * rt2 x % PP = x % PP then evenR (rt2 x) else 0) := if_neg hB; have HB1 : Hid (sqrtB x = decide (rt2 x * rt2 x % PP = x % PP)) := by show _ = _; unfold sqrtB; rw [decide_eq_false hB]; rfl
    clear hB; go_wp2; refine wp_region_held_drew (S := fun w' => w'.heap[w.heap.size]? = some (.cells (C4 y0 y1 y2 y3) 51 (0, 0)) ∧ w'.heap[z]? = some (.cells (C4 r0 r1 r2 r3) 51 (0, 0))) (by kernel_rfl) (⟨H.out.1, H.out.2.2.1⟩) (fun hHeld => ?_); refine tk 0 (W4 r0 r1 r2 r3) (fun w9 hSw => ?_) hHeld ?_
    · exact run_load_exec 51 _ rfl _ rfl (run_loadVar_row w9 _ 51 51 _ (0, 0) _ hSw.2 Tryz.underlying51 rfl (info24c _ _ _ _))
    simp only [sm]; refine tk 1 (W4 r0 r1 r2 r3) (fun w9 hSw => ?_) hHeld ?_
    · exact run_load_exec 51 _ rfl _ rfl (run_loadVar_row w9 _ 51 51 _ (0, 0) _ hSw.2 Tryz.underlying51 rfl (info24c _ _ _ _))
    simp only [sm]; refine tk 3 (W4 y0 y1 y2 y3) (fun w9 hSw => ?_) hHeld ?_
    · exact run_load_exec 51 _ rfl _ rfl (run_loadVar_row w9 _ 51 51 _ (0, 0) _ hSw.1 Tryz.underlying51 rfl (info24c _ _ _ _))
    simp only [sm]; refine rd 2 (fun K hK => ?_); go_simp; refine Calls.mono (g_fmul (IsW.mk HL.out) (IsW.mk HL.out) _) ?_; rintro e wm ⟨vm, rfl, hm, bm⟩; obtain ⟨m0, m1, m2, m3, rfl, hLm, hNm⟩ := hm; go_wp2_with fail; refine hK.out _ _ ?_ (fun hHeld => ?_)
    · exact ⟨kept hHeld.1 bm, kept hHeld.2 bm⟩
    clear hK K; try simp only [sm]
    refine tk 4 (.bool true) (fun w9 hSw => ?_) hHeld ?_
    · have a := eqW (IsW.mk hLm) HY.out.1 w9
      rw [hNm, HN.out, hEq] at a; go_simp
    simp only [sm]; refine wpAnyH_done (by kernel_rfl) ?_ _; have Hn : Hid (SqIn y0 y1 y2 y3 r0 r1 r2 r3 z w wm) := (H.out.more (Below.drew (Below.refl _ _))).more bm; clear hHeld hLm hNm bm; go_wp2; have HnL : Hid (L4 r0 r1 r2 r3) := HL.out; have HnN : Hid (num r0 r1 r2 r3 = rt1 x) := HN.out; clear H HL HN hEq; try simp only [Act.put]
    go_cut [] (fun wx => ∃ (t0 t1 t2 t3 : Int), L4 t0 t1 t2 t3 ∧ num t0 t1 t2 t3 = rt2 x ∧ SqIn y0 y1 y2 y3 t0 t1 t2 t3 z w wx)
    case first =>
     refine wp_region_held_drew (S := fun _ => True) (by kernel_rfl) trivial (fun hHeld => ?_); have hzg : wm.drew.heap[z]? = some (.cells (C4 r0 r1 r2 r3) 51 (0, 0)) := Hn.out.2.2.1; refine wpAnyH_ready (rs := [0, 1]) (by kernel_rfl) (by simp) ?_; refine AllReadyH.cons rfl (fun K hK => ?_) (AllReadyH.cons rfl (fun K hK => ?_) AllReadyH.nil)
     · refine step_load_row (by rfl) 51 _ rfl z (C4 r0 r1 r2 r3) rfl (run_loadVar_row _ _ 51 51 _ (0, 0) _ hzg Tryz.underlying51 rfl (info24c _ _ _ _)) ?_
       refine hK.out _ _ trivial (fun hHeld => ?_); clear hK K; try simp only [sm]
       refine rd 1 (fun K hK => ?_); go_simp; refine Calls.mono (g_mroot _) ?_; rintro e wp ⟨vp, rfl, hp, bp⟩; have hzp := kept hzg bp; go_wp2_with fail; refine hK.out _ _ trivial (fun hHeld => ?_); clear hK K; try simp only [sm]
       refine rd 2 (fun K hK => ?_); go_simp; refine Calls.mono (g_fmul (IsW.mk HnL.out) hp _) ?_; rintro e wt ⟨vt, rfl, ht, bt⟩; obtain ⟨t0, t1, t2, t3, rfl, hLt, hNt⟩ := ht; go_wp2_with fail; refine hK.out _ _ trivial (fun hHeld => ?_); clear hK K; try simp only [sm]
       have G3 : SqIn y0 y1 y2 y3 r0 r1 r2 r3 z w wt := ((Hn.out.more (Below.drew (Below.refl _ _))).more bp).more bt; refine rd 3 (fun K hK => ?_); refine step_store_row (by rfl) 51 _ _ rfl z (C4 t0 t1 t2 t3) rfl rfl (run_storeVar_row _ _ 51 51 _ _ G3.2.2.1 (info24c _ _ _ _) rfl (fone4 _ _ _ _)) ?_; refine hK.out _ _ trivial (fun hHeld => ?_); clear hK K; try simp only [sm]
       refine wpAnyH_done (by kernel_rfl) ?_ _; go_wp2_with fail; go_meet
       case rel => exact ⟨t0, t1, t2, t3, hLt, by rw [hNt, HnN.out]; rfl, G3.put _ _ _ _⟩
     · go_simp
       refine Calls.mono (g_mroot _) ?_; rintro e wp ⟨vp, rfl, hp, bp⟩; have hzp := kept hzg bp; go_wp2_with fail; refine hK.out _ _ trivial (fun hHeld => ?_); clear hK K; try simp only [sm]
       refine rd 0 (fun K hK => ?_); refine step_load_row (by rfl) 51 _ rfl z (C4 r0 r1 r2 r3) rfl (run_loadVar_row _ _ 51 51 _ (0, 0) _ hzp Tryz.underlying51 rfl (info24c _ _ _ _)) ?_; refine hK.out _ _ trivial (fun hHeld => ?_); clear hK K; try simp only [sm]
       refine rd 2 (fun K hK => ?_); go_simp; refine Calls.mono (g_fmul (IsW.mk HnL.out) hp _) ?_; rintro e wt ⟨vt, rfl, ht, bt⟩; obtain ⟨t0, t1, t2, t3, rfl, hLt, hNt⟩ := ht; go_wp2_with fail; refine hK.out _ _ trivial (fun hHeld => ?_); clear hK K; try simp only [sm]
       have G3 : SqIn y0 y1 y2 y3 r0 r1 r2 r3 z w wt := ((Hn.out.more (Below.drew (Below.refl _ _))).more bp).more bt; refine rd 3 (fun K hK => ?_); refine step_store_row (by rfl) 51 _ _ rfl z (C4 t0 t1 t2 t3) rfl rfl (run_storeVar_row _ _ 51 51 _ _ G3.2.2.1 (info24c _ _ _ _) rfl (fone4 _ _ _ _)) ?_; refine hK.out _ _ trivial (fun hHeld => ?_); clear hK K; try simp only [sm]
       refine wpAnyH_done (by kernel_rfl) ?_ _; go_wp2_with fail; go_meet
       case rel => exact ⟨t0, t1, t2, t3, hLt, by rw [hNt, HnN.out]; rfl, G3.put _ _ _ _⟩
    case rest =>
     obtain ⟨t0, t1, t2, t3, hL, hN, hin⟩ := hcut; have H : Hid (SqIn y0 y1 y2 y3 t0 t1 t2 t3 z w wc) := hin; have HL : Hid (L4 t0 t1 t2 t3) := hL; have HN : Hid (num t0 t1 t2 t3 = rt2 x) := hN; clear hin hL hN Hn HnL HnN; by_cases hB : rt2 x * rt2 x % PP = x % PP
     · have hEq : (rt2 x * rt2 x % PP == x % PP) = true := by rw [hB]; exact beq_self_eq_true _
       have HR : Hid (sqrtR x = evenR (rt2 x)) := by show _ = _; rw [HR1.out, if_pos hB]
       have HB : Hid (sqrtB x = true) := by show _ = _; rw [HB1.out, decide_eq_true hB]
       clear HR1 HB1 hB; go_wp2; refine wp_region_held_drew (S := fun w' => w'.heap[w.heap.size]? = some (.cells (C4 y0 y1 y2 y3) 51 (0, 0)) ∧ w'.heap[z]? = some (.cells (C4 t0 t1 t2 t3) 51 (0, 0))) (by kernel_rfl) (⟨H.out.1, H.out.2.2.1⟩) (fun hHeld => ?_); refine tk 0 (W4 t0 t1 t2 t3) (fun w9 hSw => ?_) hHeld ?_
       · exact run_load_exec 51 _ rfl _ rfl (run_loadVar_row w9 _ 51 51 _ (0, 0) _ hSw.2 Tryz.underlying51 rfl (info24c _ _ _ _))
       simp only [sm]; refine tk 1 (W4 t0 t1 t2 t3) (fun w9 hSw => ?_) hHeld ?_
       · exact run_load_exec 51 _ rfl _ rfl (run_loadVar_row w9 _ 51 51 _ (0, 0) _ hSw.2 Tryz.underlying51 rfl (info24c _ _ _ _))
       simp only [sm]; refine tk 3 (W4 y0 y1 y2 y3) (fun w9 hSw => ?_) hHeld ?_
       · exact run_load_exec 51 _ rfl _ rfl (run_loadVar_row w9 _ 51 51 _ (0, 0) _ hSw.1 Tryz.underlying51 rfl (info24c _ _ _ _))
       simp only [sm]; refine rd 2 (fun K hK => ?_); go_simp; refine Calls.mono (g_fmul (IsW.mk HL.out) (IsW.mk HL.out) _) ?_; rintro e wm2 ⟨vm, rfl, hm, bm⟩; obtain ⟨m0, m1, m2, m3, rfl, hLm, hNm⟩ := hm; go_wp2_with fail; refine hK.out _ _ ?_ (fun hHeld => ?_)
       · exact ⟨kept hHeld.1 bm, kept hHeld.2 bm⟩
       clear hK K; try simp only [sm]
       refine tk 4 (.bool false) (fun w9 hSw => ?_) hHeld ?_
       · have a := eqW (IsW.mk hLm) HY.out.1 w9
         rw [hNm, HN.out, hEq] at a; go_simp
       simp only [sm]; refine wpAnyH_done (by kernel_rfl) ?_ _; have Hn : Hid (SqIn y0 y1 y2 y3 t0 t1 t2 t3 z w wm2) := (H.out.more (Below.drew (Below.refl _ _))).more bm; clear hHeld hLm hNm bm; have HL2 := HL; have HN2 := HN; clear H HL HN hEq; have H : Hid (SqIn y0 y1 y2 y3 t0 t1 t2 t3 z w wm2) := Hn.out; have HL := HL2; have HN := HN2; clear Hn HL2 HN2; go_wp2_with (first | (refine wpList_load_row rfl 51 _ rfl z rfl 51 _ (0, 0) _ H.out.2.2.1 Tryz.underlying51 rfl (info24c _ _ _ _) ?_)); refine Calls.mono (g_bit0 (IsW.mk HL.out) _) ?_; rintro e wb ⟨rfl, bb⟩; have G : Hid (SqIn y0 y1 y2 y3 t0 t1 t2 t3 z w wb) := H.out.more bb; have GL : Hid (L4 t0 t1 t2 t3) := HL.out; have GN : Hid (num t0 t1 t2 t3 = rt2 x) := HN.out; clear bb H HL HN; rw [GN.out]; by_cases hodd : (rt2 x) % 2 = 1
       · rw [decide_eq_true hodd]
         have HE : Hid (evenR (rt2 x) = PP - (rt2 x)) := evenR_odd hodd; clear hodd; go_wp2; refine wp_region_held_drew (S := fun _ => True) (by kernel_rfl) trivial (fun hHeld => ?_); have hzg : wb.drew.heap[z]? = some (.cells (C4 t0 t1 t2 t3) 51 (0, 0)) := G.out.2.2.1; refine wpAnyH_ready (rs := [0, 1]) (by kernel_rfl) (by simp) ?_; refine AllReadyH.cons rfl (fun K hK => ?_) (AllReadyH.cons rfl (fun K hK => ?_) AllReadyH.nil)
         · go_simp
           refine Calls.mono (g_p _) ?_; rintro e wp ⟨vp, rfl, hp, bp⟩; have hzp := kept hzg bp; go_wp2_with fail; refine hK.out _ _ trivial (fun hHeld => ?_); clear hK K; try simp only [sm]
           refine rd 1 (fun K hK => ?_); refine step_load_row (by rfl) 51 _ rfl z (C4 t0 t1 t2 t3) rfl (run_loadVar_row _ _ 51 51 _ (0, 0) _ hzp Tryz.underlying51 rfl (info24c _ _ _ _)) ?_; refine hK.out _ _ trivial (fun hHeld => ?_); clear hK K; try simp only [sm]
           refine rd 2 (fun K hK => ?_); go_simp; refine Calls.mono (g_sub hp (IsW.mk GL.out) _) ?_; rintro e wt ⟨vt, rfl, ht, bt⟩; obtain ⟨q0, q1, q2, q3, rfl, hLt, hNt⟩ := ht; go_wp2_with fail; refine hK.out _ _ trivial (fun hHeld => ?_); clear hK K; try simp only [sm]
           have G3 : SqIn y0 y1 y2 y3 t0 t1 t2 t3 z w wt := ((G.out.more (Below.drew (Below.refl _ _))).more bp).more bt; refine rd 3 (fun K hK => ?_); refine step_store_row (by rfl) 51 _ _ rfl z (C4 q0 q1 q2 q3) rfl rfl (run_storeVar_row _ _ 51 51 _ _ G3.2.2.1 (info24c _ _ _ _) rfl (fone4 _ _ _ _)) ?_; refine hK.out _ _ trivial (fun hHeld => ?_); clear hK K; try simp only [sm]
           refine wpAnyH_done (by kernel_rfl) ?_ _; have G4 : Hid (SqIn y0 y1 y2 y3 q0 q1 q2 q3 z w (wt.setRow z (C4 q0 q1 q2 q3))) := G3.put _ _ _ _; have G4L : Hid (L4 q0 q1 q2 q3) := hLt; have G4E : Hid (num q0 q1 q2 q3 = evenR (rt2 x)) := by
            show _ = _; rw [HE.out, hNt, GN.out, sub_fit (show 0 ≤ (rt2 x) ∧ (rt2 x) < PP from mod_PP _)]
           clear hHeld hLt hNt bt bp hp hzp G3 G GL GN HE; generalize wt.setRow z (C4 q0 q1 q2 q3) = w8 at G4 ⊢; go_wp2_with (first | (refine wpList_load_row rfl 51 _ rfl z rfl 51 _ (0, 0) _ G4.out.2.2.1 Tryz.underlying51 rfl (info24c _ _ _ _) ?_) | (refine wpList_store_row rfl 51 _ _ rfl (w.heap.size + 1) (C4 q0 q1 q2 q3) rfl rfl 51 _ G4.out.2.1 (info24c _ _ _ _) rfl (fone4 _ _ _ _) ?_)); have hl := run_loadVar_row (P := Tryz.prog) (w8.setRow (w.heap.size + 1) (C4 q0 q1 q2 q3)) (w.heap.size + 1) 51 51 _ (0, 0) _ (setRow_heap _ _ _ _ _ _ G4.out.2.1) Tryz.underlying51 rfl (info24c _ _ _ _); refine bodyPost_ret (v := .tuple #[W4 q0 q1 q2 q3, .bool true]) (by simp [results, Tryz.results111, asAddr, hl]) rfl ⟨_, by rw [HB.out], ⟨q0, q1, q2, q3, rfl, G4L.out, by rw [HR.out]; exact G4E.out⟩, below_setRow G4.out.2.2.2.2 (by omega) _⟩
         · refine step_load_row (by rfl) 51 _ rfl z (C4 t0 t1 t2 t3) rfl (run_loadVar_row _ _ 51 51 _ (0, 0) _ hzg Tryz.underlying51 rfl (info24c _ _ _ _)) ?_
           refine hK.out _ _ trivial (fun hHeld => ?_); clear hK K; try simp only [sm]
           refine rd 0 (fun K hK => ?_); go_simp; refine Calls.mono (g_p _) ?_; rintro e wp ⟨vp, rfl, hp, bp⟩; have hzp := kept hzg bp; go_wp2_with fail; refine hK.out _ _ trivial (fun hHeld => ?_); clear hK K; try simp only [sm]
           refine rd 2 (fun K hK => ?_); go_simp; refine Calls.mono (g_sub hp (IsW.mk GL.out) _) ?_; rintro e wt ⟨vt, rfl, ht, bt⟩; obtain ⟨q0, q1, q2, q3, rfl, hLt, hNt⟩ := ht; go_wp2_with fail; refine hK.out _ _ trivial (fun hHeld => ?_); clear hK K; try simp only [sm]
           have G3 : SqIn y0 y1 y2 y3 t0 t1 t2 t3 z w wt := ((G.out.more (Below.drew (Below.refl _ _))).more bp).more bt; refine rd 3 (fun K hK => ?_); refine step_store_row (by rfl) 51 _ _ rfl z (C4 q0 q1 q2 q3) rfl rfl (run_storeVar_row _ _ 51 51 _ _ G3.2.2.1 (info24c _ _ _ _) rfl (fone4 _ _ _ _)) ?_; refine hK.out _ _ trivial (fun hHeld => ?_); clear hK K; try simp only [sm]
           refine wpAnyH_done (by kernel_rfl) ?_ _; have G4 : Hid (SqIn y0 y1 y2 y3 q0 q1 q2 q3 z w (wt.setRow z (C4 q0 q1 q2 q3))) := G3.put _ _ _ _; have G4L : Hid (L4 q0 q1 q2 q3) := hLt; have G4E : Hid (num q0 q1 q2 q3 = evenR (rt2 x)) := by
            show _ = _; rw [HE.out, hNt, GN.out, sub_fit (show 0 ≤ (rt2 x) ∧ (rt2 x) < PP from mod_PP _)]
           clear hHeld hLt hNt bt bp hp hzp G3 G GL GN HE; generalize wt.setRow z (C4 q0 q1 q2 q3) = w8 at G4 ⊢; go_wp2_with (first | (refine wpList_load_row rfl 51 _ rfl z rfl 51 _ (0, 0) _ G4.out.2.2.1 Tryz.underlying51 rfl (info24c _ _ _ _) ?_) | (refine wpList_store_row rfl 51 _ _ rfl (w.heap.size + 1) (C4 q0 q1 q2 q3) rfl rfl 51 _ G4.out.2.1 (info24c _ _ _ _) rfl (fone4 _ _ _ _) ?_)); have hl := run_loadVar_row (P := Tryz.prog) (w8.setRow (w.heap.size + 1) (C4 q0 q1 q2 q3)) (w.heap.size + 1) 51 51 _ (0, 0) _ (setRow_heap _ _ _ _ _ _ G4.out.2.1) Tryz.underlying51 rfl (info24c _ _ _ _); refine bodyPost_ret (v := .tuple #[W4 q0 q1 q2 q3, .bool true]) (by simp [results, Tryz.results111, asAddr, hl]) rfl ⟨_, by rw [HB.out], ⟨q0, q1, q2, q3, rfl, G4L.out, by rw [HR.out]; exact G4E.out⟩, below_setRow G4.out.2.2.2.2 (by omega) _⟩
       · rw [decide_eq_false hodd]
         have GE : Hid (num t0 t1 t2 t3 = evenR (rt2 x)) := by
          show _ = _; rw [GN.out, evenR_even hodd]
         clear hodd GN; go_wp2_with (first | (refine wpList_load_row rfl 51 _ rfl z rfl 51 _ (0, 0) _ G.out.2.2.1 Tryz.underlying51 rfl (info24c _ _ _ _) ?_) | (refine wpList_store_row rfl 51 _ _ rfl (w.heap.size + 1) (C4 t0 t1 t2 t3) rfl rfl 51 _ G.out.2.1 (info24c _ _ _ _) rfl (fone4 _ _ _ _) ?_)); have hl := run_loadVar_row (P := Tryz.prog) (wb.setRow (w.heap.size + 1) (C4 t0 t1 t2 t3)) (w.heap.size + 1) 51 51 _ (0, 0) _ (setRow_heap _ _ _ _ _ _ G.out.2.1) Tryz.underlying51 rfl (info24c _ _ _ _); refine bodyPost_ret (v := .tuple #[W4 t0 t1 t2 t3, .bool true]) (by simp [results, Tryz.results111, asAddr, hl]) rfl ⟨_, by rw [HB.out], ⟨t0, t1, t2, t3, rfl, GL.out, by rw [HR.out]; exact GE.out⟩, below_setRow G.out.2.2.2.2 (by omega) _⟩
     · have hEq : (rt2 x * rt2 x % PP == x % PP) = false := beq_eq_false_iff_ne.2 hB
       have HR : Hid (sqrtR x = 0) := by show _ = _; rw [HR1.out, if_neg hB]
       have HB : Hid (sqrtB x = false) := by show _ = _; rw [HB1.out, decide_eq_false hB]
       clear HR1 HB1 hB; go_wp2; refine wp_region_held_drew (S := fun w' => w'.heap[w.heap.size]? = some (.cells (C4 y0 y1 y2 y3) 51 (0, 0)) ∧ w'.heap[z]? = some (.cells (C4 t0 t1 t2 t3) 51 (0, 0))) (by kernel_rfl) (⟨H.out.1, H.out.2.2.1⟩) (fun hHeld => ?_); refine tk 0 (W4 t0 t1 t2 t3) (fun w9 hSw => ?_) hHeld ?_
       · exact run_load_exec 51 _ rfl _ rfl (run_loadVar_row w9 _ 51 51 _ (0, 0) _ hSw.2 Tryz.underlying51 rfl (info24c _ _ _ _))
       simp only [sm]; refine tk 1 (W4 t0 t1 t2 t3) (fun w9 hSw => ?_) hHeld ?_
       · exact run_load_exec 51 _ rfl _ rfl (run_loadVar_row w9 _ 51 51 _ (0, 0) _ hSw.2 Tryz.underlying51 rfl (info24c _ _ _ _))
       simp only [sm]; refine tk 3 (W4 y0 y1 y2 y3) (fun w9 hSw => ?_) hHeld ?_
       · exact run_load_exec 51 _ rfl _ rfl (run_loadVar_row w9 _ 51 51 _ (0, 0) _ hSw.1 Tryz.underlying51 rfl (info24c _ _ _ _))
       simp only [sm]; refine rd 2 (fun K hK => ?_); go_simp; refine Calls.mono (g_fmul (IsW.mk HL.out) (IsW.mk HL.out) _) ?_; rintro e wm2 ⟨vm, rfl, hm, bm⟩; obtain ⟨m0, m1, m2, m3, rfl, hLm, hNm⟩ := hm; go_wp2_with fail; refine hK.out _ _ ?_ (fun hHeld => ?_)
       · exact ⟨kept hHeld.1 bm, kept hHeld.2 bm⟩
       clear hK K; try simp only [sm]
       refine tk 4 (.bool true) (fun w9 hSw => ?_) hHeld ?_
       · have a := eqW (IsW.mk hLm) HY.out.1 w9
         rw [hNm, HN.out, hEq] at a; go_simp
       simp only [sm]; refine wpAnyH_done (by kernel_rfl) ?_ _; have Hn : Hid (SqIn y0 y1 y2 y3 t0 t1 t2 t3 z w wm2) := (H.out.more (Below.drew (Below.refl _ _))).more bm; clear hHeld hLm hNm bm; clear H HL HN hEq; go_wp2_with (first | (refine wpList_build rfl 51 _ rfl (by kernel_rfl) ?_; generalize hG : (Program.built _ _ _).getD #[] = G; obtain rfl : G = C4 0 0 0 0 := by rw [← hG]; kernel_rfl) | (refine wpList_store_row rfl 51 _ _ rfl (w.heap.size + 1) (C4 0 0 0 0) rfl rfl 51 _ Hn.out.2.1 (info24c _ _ _ _) rfl (fone4 _ _ _ _) ?_)); try clear hG
       have hl := run_loadVar_row (P := Tryz.prog) (wm2.setRow (w.heap.size + 1) (C4 0 0 0 0)) (w.heap.size + 1) 51 51 _ (0, 0) _ (setRow_heap _ _ _ _ _ _ Hn.out.2.1) Tryz.underlying51 rfl (info24c _ _ _ _); refine bodyPost_ret (v := .tuple #[W4 0 0 0 0, .bool false]) (by simp [results, Tryz.results111, asAddr, hl]) rfl ⟨_, by rw [HB.out], ⟨0, 0, 0, 0, rfl, ⟨⟨by decide, by decide⟩, ⟨by decide, by decide⟩, ⟨by decide, by decide⟩, ⟨by decide, by decide⟩⟩, by rw [HR.out]; decide⟩, below_setRow Hn.out.2.2.2.2 (by omega) _⟩
end Go.Proofs.YtojfcdjgcgnajaaGreat
