/- FI, FZ, R0, R2, R3, R4 -/
import Derived.Test.YtojfcdjgcgnajaaGreatGCM
import Derived.Test.YtojfcdjgcgnajaaGreatGFR
import Derived.Test.YtojfcdjgcgnajaaGreatX3
import Derived.Deep.OwnRows
namespace Go.Proofs.YtojfcdjgcgnajaaGreat
open Go.RowKit
set_option linter.unusedSimpArgs false
set_option linter.unusedVariables false
theorem heap_old (u : World) (o : Obj) (n : Nat) (x : Obj) (h : u.heap[n]? = some x) : (u.alloc o).heap[n]? = some x := (heap_alloc_old u o (flt_of_some h)).trans h
def LL : Int := 7237005577332262213973186563042994240857116359379907606001950938285454250989
theorem l_any (w : World) : Calls Tryz.prog 38 #[] w fun e w' => e = .returned (W4 6346243789798364141 1503914060200516822 0 1152921504606846976) ∧ Below w.heap.size w w' := by
 go_enter Tryz.func38, Tryz.ntmps38
 go_wp2; go_returns
 exact ⟨rfl, by go_grown⟩
theorem g_l : GivesW 38 #[] LL := fun w => (l_any w).mono (by rintro e w' ⟨rfl, hb⟩; exact ⟨_, rfl, ⟨_, _, _, _, rfl, ⟨⟨by decide, by decide⟩, ⟨by decide, by decide⟩, ⟨by decide, by decide⟩, ⟨by decide, by decide⟩⟩, by decide⟩, hb⟩)
theorem g_addmod {va vb vc : Value} {x y z : Int} (ha : IsW va x) (hb : IsW vb y) (hc : IsW vc z) (h0 : 6277101735386680763835789423207666416102355444464034512896 ≤ z) : GivesW 37 #[va, vb, vc] ((x + y) % z) := fun w => by
 obtain ⟨a0, a1, a2, a3, rfl, la, rfl⟩ := ha; obtain ⟨b0, b1, b2, b3, rfl, lb, rfl⟩ := hb; obtain ⟨c0, c1, c2, c3, rfl, lc, rfl⟩ := hc; have h3 : 0 < c3 := by have := lc.1.1; have := lc.1.2; have := lc.2.1.1; have := lc.2.1.2; have := lc.2.2.1.1; have := lc.2.2.1.2; unfold num at h0; omega
 refine (addmod_any a0 a1 a2 a3 b0 b1 b2 b3 c0 c1 c2 c3 la lb lc h3 w).mono ?_; rintro e w' ⟨s0, s1, s2, s3, rfl, hL, hN, hw⟩; exact ⟨_, rfl, ⟨s0, s1, s2, s3, rfl, hL, by rw [hN.out]; unfold remN; rw [if_neg (by omega)]⟩, hw⟩
theorem g_mulmod {va vb vc : Value} {x y z : Int} (ha : IsW va x) (hb : IsW vb y) (hc : IsW vc z) (h0 : 6277101735386680763835789423207666416102355444464034512896 ≤ z) : GivesW 39 #[va, vb, vc] ((x * y) % z) := fun w => by
 obtain ⟨a0, a1, a2, a3, rfl, la, rfl⟩ := ha; obtain ⟨b0, b1, b2, b3, rfl, lb, rfl⟩ := hb; obtain ⟨c0, c1, c2, c3, rfl, lc, rfl⟩ := hc; have h3 : 0 < c3 := by have := lc.1.1; have := lc.1.2; have := lc.2.1.1; have := lc.2.1.2; have := lc.2.2.1.1; have := lc.2.2.1.2; unfold num at h0; omega
 refine (mulmod_any a0 a1 a2 a3 b0 b1 b2 b3 c0 c1 c2 c3 la lb lc h3 w).mono ?_; rintro e w' ⟨s0, s1, s2, s3, rfl, hL, hN, hw⟩; exact ⟨_, rfl, ⟨s0, s1, s2, s3, rfl, hL, by rw [hN.out]; unfold remN; rw [if_neg (by omega)]⟩, hw⟩
set_option maxRecDepth 20000 in
set_option maxHeartbeats 1000000 in
theorem g_ladd {va : Value} {a : Int} {vb : Value} {b : Int} (ha : IsW va a) (hb : IsW vb b) : GivesW 21 #[va, vb] ((a + b) % LL) := fun w => by
 have Ha : Hid _ := ha; obtain ⟨a0, a1, a2, a3, rfl, la, na⟩ := ha; clear la na; have Hb : Hid _ := hb; obtain ⟨b0, b1, b2, b3, rfl, lb, nb⟩ := hb; clear lb nb; have HA : Hid ((((w.alloc (.cells (C4 a0 a1 a2 a3) 51)).alloc (.cells (C4 b0 b1 b2 b3) 51)).alloc (.cells (C4 0 0 0 0) 51)).heap[w.heap.size]? = some (.cells (C4 a0 a1 a2 a3) 51 (0, 0)) ∧ (((w.alloc (.cells (C4 a0 a1 a2 a3) 51)).alloc (.cells (C4 b0 b1 b2 b3) 51)).alloc (.cells (C4 0 0 0 0) 51)).heap[w.heap.size + 1]? = some (.cells (C4 b0 b1 b2 b3) 51 (0, 0)) ∧ (((w.alloc (.cells (C4 a0 a1 a2 a3) 51)).alloc (.cells (C4 b0 b1 b2 b3) 51)).alloc (.cells (C4 0 0 0 0) 51)).heap[w.heap.size + 2]? = some (.cells (C4 0 0 0 0) 51 (0, 0)) ∧ Below w.heap.size w (((w.alloc (.cells (C4 a0 a1 a2 a3) 51)).alloc (.cells (C4 b0 b1 b2 b3) 51)).alloc (.cells (C4 0 0 0 0) 51))) := ⟨heap_old _ _ _ _ (heap_old _ _ _ _ (heap_alloc_new _ _)), heap_old _ _ _ _ (heapAt _ _ _ (by simp)), heapAt _ _ _ (by simp), by go_grown⟩
 go_enter Tryz.func21, Tryz.ntmps21
 unfold W4; go_wp2; generalize (((w.alloc (.cells (C4 a0 a1 a2 a3) 51)).alloc (.cells (C4 b0 b1 b2 b3) 51)).alloc (.cells (C4 0 0 0 0) 51)) = W at HA ⊢; refine wp_region_held_drew (S := fun w' => w'.heap[w.heap.size]? = some (.cells (C4 a0 a1 a2 a3) 51 (0, 0)) ∧ w'.heap[w.heap.size + 1]? = some (.cells (C4 b0 b1 b2 b3) 51 (0, 0)) ∧ True) (by kernel_rfl) (⟨HA.out.1, HA.out.2.1, trivial⟩) (fun hHeld => ?_); refine tk 0 (W4 a0 a1 a2 a3) (fun w9 hSw => ?_) hHeld ?_
 · exact run_load_exec 51 _ rfl _ rfl (run_loadVar_row w9 _ 51 51 _ (0, 0) _ hSw.1 Tryz.underlying51 rfl (info24c _ _ _ _))
 simp only [sm]; refine tk 1 (W4 b0 b1 b2 b3) (fun w9 hSw => ?_) hHeld ?_
 · exact run_load_exec 51 _ rfl _ rfl (run_loadVar_row w9 _ 51 51 _ (0, 0) _ hSw.2.1 Tryz.underlying51 rfl (info24c _ _ _ _))
 simp only [sm]; refine rd 2 (fun K hK => ?_); go_simp; refine Calls.mono (g_l _) ?_; rintro e w0 ⟨v7, rfl, h7, b0⟩; go_wp2_with fail; refine hK.out _ _ ?_ (fun hHeld => ?_)
 · exact ⟨kept hHeld.1 b0, kept hHeld.2.1 b0, trivial⟩
 clear hK K; try simp only [sm]
 refine rd 3 (fun K hK => ?_); go_simp; refine Calls.mono (g_addmod Ha.out Hb.out h7 (by decide) _) ?_; rintro e w1 ⟨v8, rfl, h8, b1⟩; go_wp2_with fail; refine hK.out _ _ ?_ (fun hHeld => ?_)
 · exact ⟨kept hHeld.1 b1, kept hHeld.2.1 b1, trivial⟩
 clear hK K; try simp only [sm]
 have k0 : Below W.heap.size W w0 := (Below.drew (Below.refl _ W)).trans b0; have k1 := k0.trans (b1.mono k0.size); have hh := kept HA.out.2.2.1 k1; have hB : Below w.heap.size w w1 := HA.out.2.2.2.trans (k1.mono HA.out.2.2.2.size); obtain ⟨s0, s1, s2, s3, rfl, hL, hN⟩ := h8; refine rd 4 (fun K hK => ?_); refine step_store_row (by rfl) 51 _ _ rfl (w.heap.size + 2) (C4 s0 s1 s2 s3) rfl rfl (run_storeVar_row _ _ 51 51 _ _ hh (info24c _ _ _ _) rfl (fone4 _ _ _ _)) ?_; refine hK.out _ _ ?_ (fun hHeld => ?_)
 · exact ⟨(setRow_other _ _ _ _ (by omega)).trans hHeld.1, (setRow_other _ _ _ _ (by omega)).trans hHeld.2.1, trivial⟩
 clear hK K; try simp only [sm]
 refine wpAnyH_done (by kernel_rfl) ?_ _; clear hHeld; go_wp2; exact bodyPost_ret (results_cell_row rfl _ _ _ _ _ _ _ rfl (setRow_heap _ _ _ _ _ _ hh) Tryz.underlying51 rfl (info24c _ _ _ _)) rfl ⟨_, rfl, ⟨s0, s1, s2, s3, rfl, hL, hN⟩, below_setRow hB (by omega) _⟩
set_option maxRecDepth 20000 in
set_option maxHeartbeats 1000000 in
theorem g_lmul {va : Value} {a : Int} {vb : Value} {b : Int} (ha : IsW va a) (hb : IsW vb b) : GivesW 22 #[va, vb] ((a * b) % LL) := fun w => by
 have Ha : Hid _ := ha; obtain ⟨a0, a1, a2, a3, rfl, la, na⟩ := ha; clear la na; have Hb : Hid _ := hb; obtain ⟨b0, b1, b2, b3, rfl, lb, nb⟩ := hb; clear lb nb; have HA : Hid ((((w.alloc (.cells (C4 a0 a1 a2 a3) 51)).alloc (.cells (C4 b0 b1 b2 b3) 51)).alloc (.cells (C4 0 0 0 0) 51)).heap[w.heap.size]? = some (.cells (C4 a0 a1 a2 a3) 51 (0, 0)) ∧ (((w.alloc (.cells (C4 a0 a1 a2 a3) 51)).alloc (.cells (C4 b0 b1 b2 b3) 51)).alloc (.cells (C4 0 0 0 0) 51)).heap[w.heap.size + 1]? = some (.cells (C4 b0 b1 b2 b3) 51 (0, 0)) ∧ (((w.alloc (.cells (C4 a0 a1 a2 a3) 51)).alloc (.cells (C4 b0 b1 b2 b3) 51)).alloc (.cells (C4 0 0 0 0) 51)).heap[w.heap.size + 2]? = some (.cells (C4 0 0 0 0) 51 (0, 0)) ∧ Below w.heap.size w (((w.alloc (.cells (C4 a0 a1 a2 a3) 51)).alloc (.cells (C4 b0 b1 b2 b3) 51)).alloc (.cells (C4 0 0 0 0) 51))) := ⟨heap_old _ _ _ _ (heap_old _ _ _ _ (heap_alloc_new _ _)), heap_old _ _ _ _ (heapAt _ _ _ (by simp)), heapAt _ _ _ (by simp), by go_grown⟩
 go_enter Tryz.func22, Tryz.ntmps22
 unfold W4; go_wp2; generalize (((w.alloc (.cells (C4 a0 a1 a2 a3) 51)).alloc (.cells (C4 b0 b1 b2 b3) 51)).alloc (.cells (C4 0 0 0 0) 51)) = W at HA ⊢; refine wp_region_held_drew (S := fun w' => w'.heap[w.heap.size]? = some (.cells (C4 a0 a1 a2 a3) 51 (0, 0)) ∧ w'.heap[w.heap.size + 1]? = some (.cells (C4 b0 b1 b2 b3) 51 (0, 0)) ∧ True) (by kernel_rfl) (⟨HA.out.1, HA.out.2.1, trivial⟩) (fun hHeld => ?_); refine tk 0 (W4 a0 a1 a2 a3) (fun w9 hSw => ?_) hHeld ?_
 · exact run_load_exec 51 _ rfl _ rfl (run_loadVar_row w9 _ 51 51 _ (0, 0) _ hSw.1 Tryz.underlying51 rfl (info24c _ _ _ _))
 simp only [sm]; refine tk 1 (W4 b0 b1 b2 b3) (fun w9 hSw => ?_) hHeld ?_
 · exact run_load_exec 51 _ rfl _ rfl (run_loadVar_row w9 _ 51 51 _ (0, 0) _ hSw.2.1 Tryz.underlying51 rfl (info24c _ _ _ _))
 simp only [sm]; refine rd 2 (fun K hK => ?_); go_simp; refine Calls.mono (g_l _) ?_; rintro e w0 ⟨v7, rfl, h7, b0⟩; go_wp2_with fail; refine hK.out _ _ ?_ (fun hHeld => ?_)
 · exact ⟨kept hHeld.1 b0, kept hHeld.2.1 b0, trivial⟩
 clear hK K; try simp only [sm]
 refine rd 3 (fun K hK => ?_); go_simp; refine Calls.mono (g_mulmod Ha.out Hb.out h7 (by decide) _) ?_; rintro e w1 ⟨v8, rfl, h8, b1⟩; go_wp2_with fail; refine hK.out _ _ ?_ (fun hHeld => ?_)
 · exact ⟨kept hHeld.1 b1, kept hHeld.2.1 b1, trivial⟩
 clear hK K; try simp only [sm]
 have k0 : Below W.heap.size W w0 := (Below.drew (Below.refl _ W)).trans b0; have k1 := k0.trans (b1.mono k0.size); have hh := kept HA.out.2.2.1 k1; have hB : Below w.heap.size w w1 := HA.out.2.2.2.trans (k1.mono HA.out.2.2.2.size); obtain ⟨s0, s1, s2, s3, rfl, hL, hN⟩ := h8; refine rd 4 (fun K hK => ?_); refine step_store_row (by rfl) 51 _ _ rfl (w.heap.size + 2) (C4 s0 s1 s2 s3) rfl rfl (run_storeVar_row _ _ 51 51 _ _ hh (info24c _ _ _ _) rfl (fone4 _ _ _ _)) ?_; refine hK.out _ _ ?_ (fun hHeld => ?_)
 · exact ⟨(setRow_other _ _ _ _ (by omega)).trans hHeld.1, (setRow_other _ _ _ _ (by omega)).trans hHeld.2.1, trivial⟩
 clear hK K; try simp only [sm]
 refine wpAnyH_done (by kernel_rfl) ?_ _; clear hHeld; go_wp2; exact bodyPost_ret (results_cell_row rfl _ _ _ _ _ _ _ rfl (setRow_heap _ _ _ _ _ _ hh) Tryz.underlying51 rfl (info24c _ _ _ _)) rfl ⟨_, rfl, ⟨s0, s1, s2, s3, rfl, hL, hN⟩, below_setRow hB (by omega) _⟩
set_option maxRecDepth 20000 in
set_option maxHeartbeats 1000000 in
theorem g_inv {va : Value} {a : Int} (ha : IsW va a) : GivesW 128 #[va] (a ^ E2 % PP) := fun w => by
 have Ha : Hid _ := ha; obtain ⟨a0, a1, a2, a3, rfl, la, na⟩ := ha; clear la na; have HA : Hid (((w.alloc (.cells (C4 a0 a1 a2 a3) 51)).alloc (.cells (C4 0 0 0 0) 51)).heap[w.heap.size]? = some (.cells (C4 a0 a1 a2 a3) 51 (0, 0)) ∧ ((w.alloc (.cells (C4 a0 a1 a2 a3) 51)).alloc (.cells (C4 0 0 0 0) 51)).heap[w.heap.size + 1]? = some (.cells (C4 0 0 0 0) 51 (0, 0)) ∧ Below w.heap.size w ((w.alloc (.cells (C4 a0 a1 a2 a3) 51)).alloc (.cells (C4 0 0 0 0) 51))) := ⟨heap_old _ _ _ _ (heap_alloc_new _ _), heapAt _ _ _ (by simp), by go_grown⟩
 go_enter Tryz.func128, Tryz.ntmps128
 unfold W4; go_wp2; generalize ((w.alloc (.cells (C4 a0 a1 a2 a3) 51)).alloc (.cells (C4 0 0 0 0) 51)) = W at HA ⊢; refine wp_region_held_drew (S := fun w' => w'.heap[w.heap.size]? = some (.cells (C4 a0 a1 a2 a3) 51 (0, 0)) ∧ True) (by kernel_rfl) (⟨HA.out.1, trivial⟩) (fun hHeld => ?_); refine tk 0 (W4 a0 a1 a2 a3) (fun w9 hSw => ?_) hHeld ?_
 · exact run_load_exec 51 _ rfl _ rfl (run_loadVar_row w9 _ 51 51 _ (0, 0) _ hSw.1 Tryz.underlying51 rfl (info24c _ _ _ _))
 simp only [sm]; refine rd 1 (fun K hK => ?_); go_simp; refine Calls.mono (g_p _) ?_; rintro e w0 ⟨v4, rfl, h4, b0⟩; go_wp2_with fail; refine hK.out _ _ ?_ (fun hHeld => ?_)
 · exact ⟨kept hHeld.1 b0, trivial⟩
 clear hK K; try simp only [sm]
 refine rd 2 (fun K hK => ?_); go_simp; refine Calls.mono (g_of2 _) ?_; rintro e w1 ⟨v5, rfl, h5, b1⟩; go_wp2_with fail; refine hK.out _ _ ?_ (fun hHeld => ?_)
 · exact ⟨kept hHeld.1 b1, trivial⟩
 clear hK K; try simp only [sm]
 refine rd 3 (fun K hK => ?_); go_simp; refine Calls.mono (g_sub h4 h5 _) ?_; rintro e w2 ⟨v6, rfl, h6, b2⟩; go_wp2_with fail; refine hK.out _ _ ?_ (fun hHeld => ?_)
 · exact ⟨kept hHeld.1 b2, trivial⟩
 clear hK K; try simp only [sm]
 refine rd 4 (fun K hK => ?_); go_simp; refine Calls.mono (g_fpow E2 Ha.out (e2_val ▸ h6) _) ?_; rintro e w3 ⟨v7, rfl, h7, b3⟩; go_wp2_with fail; refine hK.out _ _ ?_ (fun hHeld => ?_)
 · exact ⟨kept hHeld.1 b3, trivial⟩
 clear hK K; try simp only [sm]
 have k0 : Below W.heap.size W w0 := (Below.drew (Below.refl _ W)).trans b0; have k1 := k0.trans (b1.mono k0.size); have k2 := k1.trans (b2.mono k1.size); have k3 := k2.trans (b3.mono k2.size); have hh := kept HA.out.2.1 k3; have hB : Below w.heap.size w w3 := HA.out.2.2.trans (k3.mono HA.out.2.2.size); obtain ⟨s0, s1, s2, s3, rfl, hL, hN⟩ := h7; refine rd 5 (fun K hK => ?_); refine step_store_row (by rfl) 51 _ _ rfl (w.heap.size + 1) (C4 s0 s1 s2 s3) rfl rfl (run_storeVar_row _ _ 51 51 _ _ hh (info24c _ _ _ _) rfl (fone4 _ _ _ _)) ?_; refine hK.out _ _ ?_ (fun hHeld => ?_)
 · exact ⟨(setRow_other _ _ _ _ (by omega)).trans hHeld.1, trivial⟩
 clear hK K; try simp only [sm]
 refine wpAnyH_done (by kernel_rfl) ?_ _; clear hHeld; go_wp2; exact bodyPost_ret (results_cell_row rfl _ _ _ _ _ _ _ rfl (setRow_heap _ _ _ _ _ _ hh) Tryz.underlying51 rfl (info24c _ _ _ _)) rfl ⟨_, rfl, ⟨s0, s1, s2, s3, rfl, hL, hN⟩, below_setRow hB (by omega) _⟩
end Go.Proofs.YtojfcdjgcgnajaaGreat
namespace Go.Proofs.YtojfcdjgcgnajaaGreat
open Go.RowKit
set_option linter.unusedSimpArgs false
set_option linter.unusedVariables false
def cw (v : Value) : Array Value := match v with | .agg c => c | _ => #[]
theorem IsW.agg {v : Value} {x : Int} (h : IsW v x) : v = .agg (cw v) ∧ (cw v).size = 4 ∧ (cw v).all (·.oneCell') = true := by
 obtain ⟨s0, s1, s2, s3, rfl, _, _⟩ := h; exact ⟨rfl, rfl, fone4 s0 s1 s2 s3⟩
def VarW (w : World) (z : Nat) (v : Value) : Prop := (∃ x, IsW v x) ∧ w.heap[z]? = some (.cells (cw v) 51 (0, 0))
theorem VarW.lt {w : World} {z : Nat} {v : Value} (h : VarW w z v) : z < w.heap.size := flt_of_some h.2
theorem VarW.kept {w w' : World} {z : Nat} {v : Value} (h : VarW w z v) (hb : Below w.heap.size w w') : VarW w' z v := ⟨h.1, Go.Proofs.YtojfcdjgcgnajaaGreat.kept h.2 hb⟩
theorem VarW.drew {w : World} {z : Nat} {v : Value} (h : VarW w z v) : VarW w.drew z v := h
theorem cw_info {v : Value} {x : Int} (h : IsW v x) : (Tryz.prog.info? 51).map (·.size) = some (cw v).size := by rw [h.agg.2.1]; kernel_rfl
theorem VarW.load {w : World} {z : Nat} {v : Value} (h : VarW w z v) : (loadVar 51 ⟨z, 0, none⟩).run Tryz.prog w = .ok v w := by
 obtain ⟨⟨x, hx⟩, hh⟩ := h; have := run_loadVar_row (P := Tryz.prog) w z 51 51 (cw v) (0, 0) _ hh Tryz.underlying51 rfl (cw_info hx); rw [← hx.agg.1] at this; exact this
theorem VarW.other {w : World} {z y : Nat} {v : Value} (h : VarW w z v) (hn : z ≠ y) (c : Array Value) : VarW (w.setRow y c) z v := ⟨h.1, (setRow_other _ _ _ _ hn).trans h.2⟩
theorem VarW.put {w : World} {z : Nat} {v u : Value} {y : Int} (h : VarW w z v) (hu : IsW u y) : VarW (w.setRow z (cw u)) z u := ⟨⟨y, hu⟩, setRow_heap _ _ _ _ _ _ h.2⟩
theorem VarW.store {w : World} {z : Nat} {v u : Value} {y : Int} (h : VarW w z v) (hu : IsW u y) : (storeVar 51 ⟨z, 0, none⟩ u).run Tryz.prog w = .ok () (w.setRow z (cw u)) := by
 obtain ⟨⟨x, hx⟩, hh⟩ := h; have := run_storeVar_row (P := Tryz.prog) w z 51 51 _ (cw u) hh (cw_info hu) (by rw [hx.agg.2.1, hu.agg.2.1]) hu.agg.2.2; rw [← hu.agg.1] at this; exact this
theorem isw0 : IsW (W4 0 0 0 0) 0 := isw_small 0 (by decide)
theorem VarW.mk {w : World} {z : Nat} {a0 a1 a2 a3 : Int} (ha : L4 a0 a1 a2 a3) (h : w.heap[z]? = some (.cells (C4 a0 a1 a2 a3) 51 (0, 0))) : VarW w z (W4 a0 a1 a2 a3) := ⟨⟨_, IsW.mk ha⟩, h⟩
theorem VarW.new (w : World) : VarW (w.alloc (.cells (C4 0 0 0 0) 51)) w.heap.size (W4 0 0 0 0) := ⟨⟨0, isw0⟩, heap_alloc_new w _⟩
theorem VarW.new1 {a0 a1 a2 a3 : Int} (ha : L4 a0 a1 a2 a3) (w : World) : VarW (w.alloc (.cells (C4 a0 a1 a2 a3) 51)) w.heap.size (W4 a0 a1 a2 a3) := ⟨⟨_, IsW.mk ha⟩, heap_alloc_new w _⟩
theorem VarW.old {w : World} {z : Nat} {v : Value} (h : VarW w z v) (o : Obj) : VarW (w.alloc o) z v := ⟨h.1, heap_old _ _ _ _ h.2⟩
theorem wpList_load_varW {ops : Array Oper} {rest : List Oper} {o : Oper} {a : Act} {w : World} {Q : Exit → Act → World → Prop} (hgd : o.guard = none) (x : Operand) (ho : o.op = .load 51 x)
 (z : Nat) (hx : a.eval x = .pointer (some ⟨z, 0, none⟩)) {v : Value} (hz : VarW w z v) (h : wpList Tryz.prog ops Q rest (a.put o.dst v) w) : wpList Tryz.prog ops Q (o :: rest) a w := by
 obtain ⟨⟨y, hy⟩, hh⟩ := hz; refine wpList_load_row hgd 51 x ho z hx 51 (cw v) (0, 0) _ hh Tryz.underlying51 rfl (cw_info hy) ?_; rw [← hy.agg.1]; exact h
theorem wpList_store_varW {ops : Array Oper} {rest : List Oper} {o : Oper} {a : Act} {w : World} {Q : Exit → Act → World → Prop} (hgd : o.guard = none) (x y : Operand) (ho : o.op = .store 51 x y)
 (z : Nat) (hx : a.eval x = .pointer (some ⟨z, 0, none⟩)) {u : Value} {n : Int} (hy : a.eval y = u) (hu : IsW u n) {v : Value} (hz : VarW w z v) (h : wpList Tryz.prog ops Q rest (a.put o.dst undef) (w.setRow z (cw u))) : wpList Tryz.prog ops Q (o :: rest) a w := by
 obtain ⟨⟨m, hm⟩, hh⟩ := hz; exact wpList_store_row hgd 51 x y ho z (cw u) hx (hy.trans hu.agg.1) 51 _ hh (cw_info hu) (by rw [hm.agg.2.1, hu.agg.2.1]) hu.agg.2.2 h
theorem step_store_varW {ops : Array Oper} {o : Oper} {a : Act} {w : World} {K : Act → World → Prop} {Q : Exit → Act → World → Prop} {E : Prop} (hw : Region.wanted o (yielded ops a.tmps) = true) (x y : Operand) (ho : o.op = .store 51 x y)
 (z : Nat) (hx : a.eval x = .pointer (some ⟨z, 0, none⟩)) {u : Value} {n : Int} (hy : a.eval y = u) (hu : IsW u n) {v : Value} (hz : VarW w z v)
 (h : K (a.put o.dst undef) (w.setRow z (cw u))) : if Region.wanted o (yielded ops a.tmps) = true then Oper.wp Tryz.prog o a w K Q else E :=
 step_store_row hw 51 x y ho z (cw u) hx (hy.trans hu.agg.1) (by have := hz.store hu; rw [hu.agg.1] at this; exact this) h
theorem eqW' {va vb : Value} {x y : Int} {b : Bool} (ha : IsW va x) (hb : IsW vb y) (hxy : (x == y) = b) (w : World) : (Op.equalIn 10000 51 va vb).run Tryz.prog w = .ok b w := by
 rw [eqW ha hb w, hxy]
end Go.Proofs.YtojfcdjgcgnajaaGreat
namespace Go.Proofs.YtojfcdjgcgnajaaGreat
open Go.RowKit
set_option linter.unusedSimpArgs false
set_option linter.unusedVariables false
def valB : List Int → Int
 | [] => 0
 | x :: r => x + 256 * valB r
def Byt (d : List Int) : Prop := ∀ k, 0 ≤ d.getD k 0 ∧ d.getD k 0 < 256
theorem getD_cons_zero' (x : Int) (r : List Int) : (x :: r).getD 0 0 = x := rfl
theorem getD_cons_succ' (x : Int) (r : List Int) (k : Nat) : (x :: r).getD (k + 1) 0 = r.getD k 0 := by simp [List.getD]
theorem Byt.take {d : List Int} (h : Byt d) (k : Nat) : Byt (d.take k) := fun j => by
 rcases Nat.lt_or_ge j k with g | g
 · have : (d.take k).getD j 0 = d.getD j 0 := by simp [List.getD, List.getElem?_take_of_lt g]
   rw [this]; exact h j
 · have : (d.take k).getD j 0 = 0 := by
    simp only [List.getD]; rw [List.getElem?_eq_none (by simp; omega)]; rfl
   rw [this]; exact ⟨by decide, by decide⟩
theorem valB_bd : ∀ (d : List Int), Byt d → 0 ≤ valB d ∧ valB d < 256 ^ d.length
 | [], _ => ⟨Int.le_refl _, by decide⟩
 | x :: r, h => by
   have h0 := h 0; rw [getD_cons_zero'] at h0; obtain ⟨a, b⟩ := valB_bd r (fun k => by have := h (k + 1); rwa [getD_cons_succ'] at this); rw [valB, List.length_cons, Int.pow_succ]; exact ⟨by omega, by omega⟩
end Go.Proofs.YtojfcdjgcgnajaaGreat
namespace Go.Proofs.YtojfcdjgcgnajaaGreat
open Go.RowKit
set_option linter.unusedSimpArgs false
set_option linter.unusedVariables false
def cmpN (x y : Int) : Int := if x < y then -1 else if y < x then 1 else 0
theorem cmpN_lt {x y : Int} (h : x < y) : cmpN x y = -1 := if_pos h
theorem cmpN_gt {x y : Int} (h : y < x) : cmpN x y = 1 := by unfold cmpN; rw [if_neg (by omega), if_pos h]
theorem cmpN_eq {x y : Int} (h : x = y) : cmpN x y = 0 := by unfold cmpN; rw [if_neg (by omega), if_neg (by omega)]
end Go.Proofs.YtojfcdjgcgnajaaGreat
namespace Go.Proofs.YtojfcdjgcgnajaaGreat
open Go.RowKit
set_option linter.unusedSimpArgs false
set_option maxRecDepth 20000
set_option linter.unusedVariables false
theorem valB_take_succ : ∀ (d : List Int) (k : Nat), valB (d.take (k + 1)) = valB (d.take k) + 256 ^ k * d.getD k 0
 | [], k => by simp [valB]
 | x :: r, 0 => by simp [valB]
 | x :: r, k + 1 => by
   rw [List.take_succ_cons, List.take_succ_cons, valB, valB, valB_take_succ r k, getD_cons_succ', Int.pow_succ, Int.mul_add, Int.mul_comm (256 ^ k) 256, Int.mul_assoc]; omega
theorem valB_take_all (d : List Int) (k : Nat) (h : d.length ≤ k) : valB (d.take k) = valB d := by rw [List.take_of_length_le h]
end Go.Proofs.YtojfcdjgcgnajaaGreat
namespace Go.Proofs.YtojfcdjgcgnajaaGreat
open Go.RowKit
set_option linter.unusedSimpArgs false
set_option maxRecDepth 20000
set_option linter.unusedVariables false
theorem pow8_bd (r : Nat) (h : r < 8) : (1 : Int) ≤ 2 ^ (8 * r) ∧ (2 : Int) ^ (8 * r) ≤ 72057594037927936 := by
 rcases (by omega : r = 0 ∨ r = 1 ∨ r = 2 ∨ r = 3 ∨ r = 4 ∨ r = 5 ∨ r = 6 ∨ r = 7) with rfl | rfl | rfl | rfl | rfl | rfl | rfl | rfl <;> decide
theorem or_add (x y : Int) (r : Nat) (hr : r < 8) (hx0 : 0 ≤ x) (hx : x < 2 ^ (8 * r)) (hy0 : 0 ≤ y) (hy : y < 256) :
 bits .or .u64 x (IntKind.u64.wrap (y * 2 ^ (8 * r))) = x + y * 2 ^ (8 * r) ∧ Limb (x + y * 2 ^ (8 * r)) := by
 have hP := pow8_bd r hr; obtain ⟨x, rfl⟩ := Int.eq_ofNat_of_zero_le hx0; obtain ⟨y, rfl⟩ := Int.eq_ofNat_of_zero_le hy0; have hk : (2 : Int) ^ (8 * r) = ((2 ^ (8 * r) : Nat) : Int) := by simp
 rw [hk] at hP hx ⊢; have hlt : x < 2 ^ (8 * r) := Int.ofNat_lt.1 hx; have hsh : y * 2 ^ (8 * r) ||| x = y * 2 ^ (8 * r) + x := by rw [← Nat.shiftLeft_eq, ← Nat.shiftLeft_add_eq_or_of_lt hlt]
 generalize (2 ^ (8 * r) : Nat) = P at *; have h1 : y * P ≤ 255 * 72057594037927936 := Nat.mul_le_mul (by omega) (by omega); have h2 : (y : Int) * (P : Int) = ((y * P : Nat) : Int) := by simp
 rw [h2]; generalize y * P = z at *; have h3 : IntKind.u64.wrap (z : Int) = z := by
  rw [IntKind.wrap_u64]; exact Int.emod_eq_of_lt (by omega) (by omega)
 refine ⟨?_, by omega, by omega⟩; rw [h3, bits_or_u64_nat _ _ (by omega) (by omega), Nat.or_comm, hsh]; simp; omega
theorem valB_split : ∀ (d : List Int) (k : Nat), valB d = valB (d.take k) + 256 ^ k * valB (d.drop k)
 | d, 0 => by simp [valB]
 | [], k + 1 => by simp [valB]
 | x :: r, k + 1 => by
   rw [List.take_succ_cons, List.drop_succ_cons, valB, valB, valB_split r k, Int.pow_succ, Int.mul_add, Int.mul_comm (256 ^ k) 256, Int.mul_assoc]; have := valB_split r k; omega
theorem below_drew {w w' : World} (h : Below w.heap.size w w') (n : Nat) : Below w.heap.size w (w'.drewN n) := h.trans ⟨rfl, rfl, rfl, Nat.le_refl _, fun _ _ => rfl⟩
theorem set_drew (w : World) (n : Nat) (a : Addr) (v : Value) : (w.drewN n).setCell a v = (w.setCell a v).drewN n := by
 cases w; rfl
theorem set_new2 (w : World) (o : Obj) (c : Array Value) (t : TypeId) (i n : Nat) (v : Value) : (((w.alloc o).alloc (.cells c t)).drewN n).setCell ⟨w.heap.size + 1, i, none⟩ v = ((w.alloc o).alloc (.cells (c.setIfInBounds i v) t)).drewN n := by
 rw [set_drew, World.setCell_alloc_at _ _ _ _ _ (by simp)]
end Go.Proofs.YtojfcdjgcgnajaaGreat
