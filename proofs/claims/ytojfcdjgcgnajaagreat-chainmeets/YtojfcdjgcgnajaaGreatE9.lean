/- ed.On -/
import Derived.Test.YtojfcdjgcgnajaaGreatGCM
import Derived.Test.YtojfcdjgcgnajaaGreatE7
import Derived.Test.YtojfcdjgcgnajaaGreatGRB
namespace Go.Proofs.YtojfcdjgcgnajaaGreat
open Go.RowKit
set_option linter.unusedSimpArgs false
set_option linter.unusedVariables false
theorem isP : IsW (W4 18446744073709551597 18446744073709551615 18446744073709551615 9223372036854775807) PP := ⟨_, _, _, _, rfl, ⟨⟨by decide, by decide⟩, ⟨by decide, by decide⟩, ⟨by decide, by decide⟩, ⟨by decide, by decide⟩⟩, by decide⟩
theorem valEq (a b : K) : ((a.val : Int) == (b.val : Int)) = decide (a = b) := by
 by_cases h : a = b
 · subst h; simp
 · have : ¬ (a.val : Int) = (b.val : Int) := fun e => h (Fin.ext (by exact_mod_cast e))
   simp [h, this]
set_option maxRecDepth 20000 in
set_option maxHeartbeats 4000000 in
theorem on_a0 {p0 p1 : Value} {x y : Int} (hp : IsW p0 x) (hq : IsW p1 y) (hx : cmpN x PP = 0) (w : World) : Calls Tryz.prog 59 #[.agg (catW [p0, p1])] w fun e w' => e = .returned (.bool false) ∧ Below w.heap.size w w' := by
 have H0 : Hid (IsW p0 x) := hp; have H1 : Hid (IsW p1 y) := hq; obtain ⟨l00_0, l00_1, l00_2, l00_3, rfl, L0, _⟩ := hp; obtain ⟨l01_0, l01_1, l01_2, l01_3, rfl, L1, _⟩ := hq; clear L0 L1; have C0 : Hid (∀ w, Calls Tryz.prog 82 #[W4 l00_0 l00_1 l00_2 l00_3, W4 18446744073709551597 18446744073709551615 18446744073709551615 9223372036854775807] w fun e w' => e = .returned (.int .i64 (0)) ∧ Below w.heap.size w w') := fun w => (g_cmp H0.out isP w).mono (by rintro e w' ⟨rfl, hb⟩; exact ⟨by rw [hx], hb⟩)
 clear hx; have V0 : Hid (VarS (w.alloc (.cells (catW [W4 l00_0 l00_1 l00_2 l00_3, W4 l01_0 l01_1 l01_2 l01_3]) 77)) w.heap.size 77 [W4 l00_0 l00_1 l00_2 l00_3, W4 l01_0 l01_1 l01_2 l01_3] ∧ Below w.heap.size w (w.alloc (.cells (catW [W4 l00_0 l00_1 l00_2 l00_3, W4 l01_0 l01_1 l01_2 l01_3]) 77))) := ⟨⟨words2 H0.out H1.out, heap_alloc_new _ _⟩, by go_grown⟩
 go_enter Tryz.func59, Tryz.ntmps59
 unfold W4; go_wp2; generalize (w.alloc (.cells (catW [W4 l00_0 l00_1 l00_2 l00_3, W4 l01_0 l01_1 l01_2 l01_3]) 77)) = W0 at V0 ⊢; refine wp_region_held_drew (S := fun w' => Below (W0.heap.size) W0 w') (by kernel_rfl) (Below.drew (Below.refl _ _)) (fun hHeld => ?_); generalize W0.drew = wd at hHeld  ⊢; refine tk 0 (.pointer (some ⟨w.heap.size, 0, none⟩)) (fun w9 hSw => ?_) hHeld ?_
 · go_simp
 simp only [sm]; refine tk 1 (W4 l00_0 l00_1 l00_2 l00_3) (fun w9 hSw => ?_) hHeld ?_
 · exact run_load_exec 51 _ rfl _ rfl ((V0.out.1.kept hSw).part 0 rfl)
 simp only [sm]; refine rd 2 (fun K hK => ?_); go_simp; refine Calls.mono (p_any _) ?_; rintro e w7 ⟨rfl, b7⟩; go_wp2_with fail; refine hK.out _ _ (hHeld.trans (b7.mono (Nat.le_trans (Nat.le_refl _) hHeld.size))) (fun hHeld => ?_); clear hK K; try simp only [sm]
 refine rd 3 (fun K hK => ?_); go_simp; refine Calls.mono (C0.out _) ?_; rintro e w8 ⟨rfl, b8⟩; go_wp2_with fail; refine hK.out _ _ (hHeld.trans (b8.mono (Nat.le_trans (Nat.le_refl _) hHeld.size))) (fun hHeld => ?_); clear hK K; try simp only [sm]
 refine tk 4 (.bool true) (fun w9 hSw => ?_) hHeld ?_
 · go_simp
 simp only [sm]; refine tk 5 (.bool true) (fun w9 hSw => ?_) hHeld ?_
 · go_simp
 simp only [sm]; refine wpAnyH_take (i := 6) (v := undef) rfl (by kernel_rfl) (by kernel_rfl) (by kernel_rfl) (fun _ _ _ h => h) (Or.inr ⟨by rfl, rfl⟩) hHeld ?_; simp only [sm]; refine wpAnyH_take (i := 7) (v := undef) rfl (by kernel_rfl) (by kernel_rfl) (by kernel_rfl) (fun _ _ _ h => h) (Or.inr ⟨by rfl, rfl⟩) hHeld ?_; simp only [sm]; refine rd 8 (fun K hK => ?_); go_simp; refine hK.out _ _ hHeld (fun hHeld => ?_); clear hK K; try simp only [sm]
 refine rd 9 (fun K hK => ?_); go_simp; refine hK.out _ _ hHeld (fun hHeld => ?_); clear hK K; try simp only [sm]
 refine wpAnyH_take (i := 10) (v := undef) rfl (by kernel_rfl) (by kernel_rfl) (by kernel_rfl) (fun _ _ _ h => h) (Or.inr ⟨by rfl, rfl⟩) hHeld ?_; simp only [sm]; refine tk 11 (.bool true) (fun w9 hSw => ?_) hHeld ?_
 · go_simp
 simp only [sm]; refine wpAnyH_done (by kernel_rfl) ?_ _; have hB := V0.out.2.trans (hHeld.mono V0.out.2.size); clear hHeld V0; go_wp2; go_ret; exact ⟨rfl, hB⟩
set_option maxRecDepth 20000 in
set_option maxHeartbeats 4000000 in
theorem on_a1 {p0 p1 : Value} {x y : Int} (hp : IsW p0 x) (hq : IsW p1 y) (hx : cmpN x PP = 1) (w : World) : Calls Tryz.prog 59 #[.agg (catW [p0, p1])] w fun e w' => e = .returned (.bool false) ∧ Below w.heap.size w w' := by
 have H0 : Hid (IsW p0 x) := hp; have H1 : Hid (IsW p1 y) := hq; obtain ⟨l00_0, l00_1, l00_2, l00_3, rfl, L0, _⟩ := hp; obtain ⟨l01_0, l01_1, l01_2, l01_3, rfl, L1, _⟩ := hq; clear L0 L1; have C0 : Hid (∀ w, Calls Tryz.prog 82 #[W4 l00_0 l00_1 l00_2 l00_3, W4 18446744073709551597 18446744073709551615 18446744073709551615 9223372036854775807] w fun e w' => e = .returned (.int .i64 (1)) ∧ Below w.heap.size w w') := fun w => (g_cmp H0.out isP w).mono (by rintro e w' ⟨rfl, hb⟩; exact ⟨by rw [hx], hb⟩)
 clear hx; have V0 : Hid (VarS (w.alloc (.cells (catW [W4 l00_0 l00_1 l00_2 l00_3, W4 l01_0 l01_1 l01_2 l01_3]) 77)) w.heap.size 77 [W4 l00_0 l00_1 l00_2 l00_3, W4 l01_0 l01_1 l01_2 l01_3] ∧ Below w.heap.size w (w.alloc (.cells (catW [W4 l00_0 l00_1 l00_2 l00_3, W4 l01_0 l01_1 l01_2 l01_3]) 77))) := ⟨⟨words2 H0.out H1.out, heap_alloc_new _ _⟩, by go_grown⟩
 go_enter Tryz.func59, Tryz.ntmps59
 unfold W4; go_wp2; generalize (w.alloc (.cells (catW [W4 l00_0 l00_1 l00_2 l00_3, W4 l01_0 l01_1 l01_2 l01_3]) 77)) = W0 at V0 ⊢; refine wp_region_held_drew (S := fun w' => Below (W0.heap.size) W0 w') (by kernel_rfl) (Below.drew (Below.refl _ _)) (fun hHeld => ?_); generalize W0.drew = wd at hHeld  ⊢; refine tk 0 (.pointer (some ⟨w.heap.size, 0, none⟩)) (fun w9 hSw => ?_) hHeld ?_
 · go_simp
 simp only [sm]; refine tk 1 (W4 l00_0 l00_1 l00_2 l00_3) (fun w9 hSw => ?_) hHeld ?_
 · exact run_load_exec 51 _ rfl _ rfl ((V0.out.1.kept hSw).part 0 rfl)
 simp only [sm]; refine rd 2 (fun K hK => ?_); go_simp; refine Calls.mono (p_any _) ?_; rintro e w7 ⟨rfl, b7⟩; go_wp2_with fail; refine hK.out _ _ (hHeld.trans (b7.mono (Nat.le_trans (Nat.le_refl _) hHeld.size))) (fun hHeld => ?_); clear hK K; try simp only [sm]
 refine rd 3 (fun K hK => ?_); go_simp; refine Calls.mono (C0.out _) ?_; rintro e w8 ⟨rfl, b8⟩; go_wp2_with fail; refine hK.out _ _ (hHeld.trans (b8.mono (Nat.le_trans (Nat.le_refl _) hHeld.size))) (fun hHeld => ?_); clear hK K; try simp only [sm]
 refine tk 4 (.bool true) (fun w9 hSw => ?_) hHeld ?_
 · go_simp
 simp only [sm]; refine tk 5 (.bool true) (fun w9 hSw => ?_) hHeld ?_
 · go_simp
 simp only [sm]; refine wpAnyH_take (i := 6) (v := undef) rfl (by kernel_rfl) (by kernel_rfl) (by kernel_rfl) (fun _ _ _ h => h) (Or.inr ⟨by rfl, rfl⟩) hHeld ?_; simp only [sm]; refine wpAnyH_take (i := 7) (v := undef) rfl (by kernel_rfl) (by kernel_rfl) (by kernel_rfl) (fun _ _ _ h => h) (Or.inr ⟨by rfl, rfl⟩) hHeld ?_; simp only [sm]; refine rd 8 (fun K hK => ?_); go_simp; refine hK.out _ _ hHeld (fun hHeld => ?_); clear hK K; try simp only [sm]
 refine rd 9 (fun K hK => ?_); go_simp; refine hK.out _ _ hHeld (fun hHeld => ?_); clear hK K; try simp only [sm]
 refine wpAnyH_take (i := 10) (v := undef) rfl (by kernel_rfl) (by kernel_rfl) (by kernel_rfl) (fun _ _ _ h => h) (Or.inr ⟨by rfl, rfl⟩) hHeld ?_; simp only [sm]; refine tk 11 (.bool true) (fun w9 hSw => ?_) hHeld ?_
 · go_simp
 simp only [sm]; refine wpAnyH_done (by kernel_rfl) ?_ _; have hB := V0.out.2.trans (hHeld.mono V0.out.2.size); clear hHeld V0; go_wp2; go_ret; exact ⟨rfl, hB⟩
set_option maxRecDepth 20000 in
set_option maxHeartbeats 4000000 in
theorem on_b0 {p0 p1 : Value} {x y : Int} (hp : IsW p0 x) (hq : IsW p1 y) (hx : cmpN x PP = -1) (hy : cmpN y PP = 0) (w : World) : Calls Tryz.prog 59 #[.agg (catW [p0, p1])] w fun e w' => e = .returned (.bool false) ∧ Below w.heap.size w w' := by
 have H0 : Hid (IsW p0 x) := hp; have H1 : Hid (IsW p1 y) := hq; obtain ⟨l00_0, l00_1, l00_2, l00_3, rfl, L0, _⟩ := hp; obtain ⟨l01_0, l01_1, l01_2, l01_3, rfl, L1, _⟩ := hq; clear L0 L1; have C0 : Hid (∀ w, Calls Tryz.prog 82 #[W4 l00_0 l00_1 l00_2 l00_3, W4 18446744073709551597 18446744073709551615 18446744073709551615 9223372036854775807] w fun e w' => e = .returned (.int .i64 (-1)) ∧ Below w.heap.size w w') := fun w => (g_cmp H0.out isP w).mono (by rintro e w' ⟨rfl, hb⟩; exact ⟨by rw [hx], hb⟩)
 clear hx; have C1 : Hid (∀ w, Calls Tryz.prog 82 #[W4 l01_0 l01_1 l01_2 l01_3, W4 18446744073709551597 18446744073709551615 18446744073709551615 9223372036854775807] w fun e w' => e = .returned (.int .i64 (0)) ∧ Below w.heap.size w w') := fun w => (g_cmp H1.out isP w).mono (by rintro e w' ⟨rfl, hb⟩; exact ⟨by rw [hy], hb⟩)
 clear hy; have V0 : Hid (VarS (w.alloc (.cells (catW [W4 l00_0 l00_1 l00_2 l00_3, W4 l01_0 l01_1 l01_2 l01_3]) 77)) w.heap.size 77 [W4 l00_0 l00_1 l00_2 l00_3, W4 l01_0 l01_1 l01_2 l01_3] ∧ Below w.heap.size w (w.alloc (.cells (catW [W4 l00_0 l00_1 l00_2 l00_3, W4 l01_0 l01_1 l01_2 l01_3]) 77))) := ⟨⟨words2 H0.out H1.out, heap_alloc_new _ _⟩, by go_grown⟩
 go_enter Tryz.func59, Tryz.ntmps59
 unfold W4; go_wp2; generalize (w.alloc (.cells (catW [W4 l00_0 l00_1 l00_2 l00_3, W4 l01_0 l01_1 l01_2 l01_3]) 77)) = W0 at V0 ⊢; refine wp_region_held_drew (S := fun w' => Below (W0.heap.size) W0 w') (by kernel_rfl) (Below.drew (Below.refl _ _)) (fun hHeld => ?_); generalize W0.drew = wd at hHeld  ⊢; refine tk 0 (.pointer (some ⟨w.heap.size, 0, none⟩)) (fun w9 hSw => ?_) hHeld ?_
 · go_simp
 simp only [sm]; refine tk 1 (W4 l00_0 l00_1 l00_2 l00_3) (fun w9 hSw => ?_) hHeld ?_
 · exact run_load_exec 51 _ rfl _ rfl ((V0.out.1.kept hSw).part 0 rfl)
 simp only [sm]; refine rd 2 (fun K hK => ?_); go_simp; refine Calls.mono (p_any _) ?_; rintro e w7 ⟨rfl, b7⟩; go_wp2_with fail; refine hK.out _ _ (hHeld.trans (b7.mono (Nat.le_trans (Nat.le_refl _) hHeld.size))) (fun hHeld => ?_); clear hK K; try simp only [sm]
 refine rd 3 (fun K hK => ?_); go_simp; refine Calls.mono (C0.out _) ?_; rintro e w8 ⟨rfl, b8⟩; go_wp2_with fail; refine hK.out _ _ (hHeld.trans (b8.mono (Nat.le_trans (Nat.le_refl _) hHeld.size))) (fun hHeld => ?_); clear hK K; try simp only [sm]
 refine tk 4 (.bool false) (fun w9 hSw => ?_) hHeld ?_
 · go_simp
 simp only [sm]; refine tk 5 (.bool false) (fun w9 hSw => ?_) hHeld ?_
 · go_simp
 simp only [sm]; refine tk 6 (.pointer (some ⟨w.heap.size, 4, none⟩)) (fun w9 hSw => ?_) hHeld ?_
 · go_simp
 simp only [sm]; refine tk 7 (W4 l01_0 l01_1 l01_2 l01_3) (fun w9 hSw => ?_) hHeld ?_
 · exact run_load_exec 51 _ rfl _ rfl ((V0.out.1.kept hSw).part 1 rfl)
 simp only [sm]; refine rd 8 (fun K hK => ?_); go_simp; refine Calls.mono (p_any _) ?_; rintro e w13 ⟨rfl, b13⟩; go_wp2_with fail; refine hK.out _ _ (hHeld.trans (b13.mono (Nat.le_trans (Nat.le_refl _) hHeld.size))) (fun hHeld => ?_); clear hK K; try simp only [sm]
 refine rd 9 (fun K hK => ?_); go_simp; refine Calls.mono (C1.out _) ?_; rintro e w14 ⟨rfl, b14⟩; go_wp2_with fail; refine hK.out _ _ (hHeld.trans (b14.mono (Nat.le_trans (Nat.le_refl _) hHeld.size))) (fun hHeld => ?_); clear hK K; try simp only [sm]
 refine tk 10 (.bool true) (fun w9 hSw => ?_) hHeld ?_
 · go_simp
 simp only [sm]; refine tk 11 (.bool true) (fun w9 hSw => ?_) hHeld ?_
 · go_simp
 simp only [sm]; refine wpAnyH_done (by kernel_rfl) ?_ _; have hB := V0.out.2.trans (hHeld.mono V0.out.2.size); clear hHeld V0; go_wp2; go_ret; exact ⟨rfl, hB⟩
set_option maxRecDepth 20000 in
set_option maxHeartbeats 4000000 in
theorem on_b1 {p0 p1 : Value} {x y : Int} (hp : IsW p0 x) (hq : IsW p1 y) (hx : cmpN x PP = -1) (hy : cmpN y PP = 1) (w : World) : Calls Tryz.prog 59 #[.agg (catW [p0, p1])] w fun e w' => e = .returned (.bool false) ∧ Below w.heap.size w w' := by
 have H0 : Hid (IsW p0 x) := hp; have H1 : Hid (IsW p1 y) := hq; obtain ⟨l00_0, l00_1, l00_2, l00_3, rfl, L0, _⟩ := hp; obtain ⟨l01_0, l01_1, l01_2, l01_3, rfl, L1, _⟩ := hq; clear L0 L1; have C0 : Hid (∀ w, Calls Tryz.prog 82 #[W4 l00_0 l00_1 l00_2 l00_3, W4 18446744073709551597 18446744073709551615 18446744073709551615 9223372036854775807] w fun e w' => e = .returned (.int .i64 (-1)) ∧ Below w.heap.size w w') := fun w => (g_cmp H0.out isP w).mono (by rintro e w' ⟨rfl, hb⟩; exact ⟨by rw [hx], hb⟩)
 clear hx; have C1 : Hid (∀ w, Calls Tryz.prog 82 #[W4 l01_0 l01_1 l01_2 l01_3, W4 18446744073709551597 18446744073709551615 18446744073709551615 9223372036854775807] w fun e w' => e = .returned (.int .i64 (1)) ∧ Below w.heap.size w w') := fun w => (g_cmp H1.out isP w).mono (by rintro e w' ⟨rfl, hb⟩; exact ⟨by rw [hy], hb⟩)
 clear hy; have V0 : Hid (VarS (w.alloc (.cells (catW [W4 l00_0 l00_1 l00_2 l00_3, W4 l01_0 l01_1 l01_2 l01_3]) 77)) w.heap.size 77 [W4 l00_0 l00_1 l00_2 l00_3, W4 l01_0 l01_1 l01_2 l01_3] ∧ Below w.heap.size w (w.alloc (.cells (catW [W4 l00_0 l00_1 l00_2 l00_3, W4 l01_0 l01_1 l01_2 l01_3]) 77))) := ⟨⟨words2 H0.out H1.out, heap_alloc_new _ _⟩, by go_grown⟩
 go_enter Tryz.func59, Tryz.ntmps59
 unfold W4; go_wp2; generalize (w.alloc (.cells (catW [W4 l00_0 l00_1 l00_2 l00_3, W4 l01_0 l01_1 l01_2 l01_3]) 77)) = W0 at V0 ⊢; refine wp_region_held_drew (S := fun w' => Below (W0.heap.size) W0 w') (by kernel_rfl) (Below.drew (Below.refl _ _)) (fun hHeld => ?_); generalize W0.drew = wd at hHeld  ⊢; refine tk 0 (.pointer (some ⟨w.heap.size, 0, none⟩)) (fun w9 hSw => ?_) hHeld ?_
 · go_simp
 simp only [sm]; refine tk 1 (W4 l00_0 l00_1 l00_2 l00_3) (fun w9 hSw => ?_) hHeld ?_
 · exact run_load_exec 51 _ rfl _ rfl ((V0.out.1.kept hSw).part 0 rfl)
 simp only [sm]; refine rd 2 (fun K hK => ?_); go_simp; refine Calls.mono (p_any _) ?_; rintro e w7 ⟨rfl, b7⟩; go_wp2_with fail; refine hK.out _ _ (hHeld.trans (b7.mono (Nat.le_trans (Nat.le_refl _) hHeld.size))) (fun hHeld => ?_); clear hK K; try simp only [sm]
 refine rd 3 (fun K hK => ?_); go_simp; refine Calls.mono (C0.out _) ?_; rintro e w8 ⟨rfl, b8⟩; go_wp2_with fail; refine hK.out _ _ (hHeld.trans (b8.mono (Nat.le_trans (Nat.le_refl _) hHeld.size))) (fun hHeld => ?_); clear hK K; try simp only [sm]
 refine tk 4 (.bool false) (fun w9 hSw => ?_) hHeld ?_
 · go_simp
 simp only [sm]; refine tk 5 (.bool false) (fun w9 hSw => ?_) hHeld ?_
 · go_simp
 simp only [sm]; refine tk 6 (.pointer (some ⟨w.heap.size, 4, none⟩)) (fun w9 hSw => ?_) hHeld ?_
 · go_simp
 simp only [sm]; refine tk 7 (W4 l01_0 l01_1 l01_2 l01_3) (fun w9 hSw => ?_) hHeld ?_
 · exact run_load_exec 51 _ rfl _ rfl ((V0.out.1.kept hSw).part 1 rfl)
 simp only [sm]; refine rd 8 (fun K hK => ?_); go_simp; refine Calls.mono (p_any _) ?_; rintro e w13 ⟨rfl, b13⟩; go_wp2_with fail; refine hK.out _ _ (hHeld.trans (b13.mono (Nat.le_trans (Nat.le_refl _) hHeld.size))) (fun hHeld => ?_); clear hK K; try simp only [sm]
 refine rd 9 (fun K hK => ?_); go_simp; refine Calls.mono (C1.out _) ?_; rintro e w14 ⟨rfl, b14⟩; go_wp2_with fail; refine hK.out _ _ (hHeld.trans (b14.mono (Nat.le_trans (Nat.le_refl _) hHeld.size))) (fun hHeld => ?_); clear hK K; try simp only [sm]
 refine tk 10 (.bool true) (fun w9 hSw => ?_) hHeld ?_
 · go_simp
 simp only [sm]; refine tk 11 (.bool true) (fun w9 hSw => ?_) hHeld ?_
 · go_simp
 simp only [sm]; refine wpAnyH_done (by kernel_rfl) ?_ _; have hB := V0.out.2.trans (hHeld.mono V0.out.2.size); clear hHeld V0; go_wp2; go_ret; exact ⟨rfl, hB⟩
set_option maxRecDepth 20000 in
set_option maxHeartbeats 4000000 in
theorem on_c {p0 p1 : Value} {x y : Int} (hp : IsW p0 x) (hq : IsW p1 y) (hx : cmpN x PP = -1) (hy : cmpN y PP = -1) (h0 : 0 ≤ x) (lx : x < PP) (h1 : 0 ≤ y) (ly : y < PP) (w : World) : Calls Tryz.prog 59 #[.agg (catW [p0, p1])] w fun e w' => e = .returned (.bool (decide (toF y * toF y - toF x * toF x = 1 + toF DD * (toF x * toF x * (toF y * toF y))))) ∧ Below w.heap.size w w' := by
 have H0 : Hid (IsW p0 x) := hp; have H1 : Hid (IsW p1 y) := hq; have F0 : Hid (IsF p0 (toF x)) := isF_of (by rw [Int.emod_eq_of_lt h0 lx]; exact hp); have F1 : Hid (IsF p1 (toF y)) := isF_of (by rw [Int.emod_eq_of_lt h1 ly]; exact hq); clear h0 lx h1 ly; obtain ⟨l00_0, l00_1, l00_2, l00_3, rfl, L0, _⟩ := hp; obtain ⟨l01_0, l01_1, l01_2, l01_3, rfl, L1, _⟩ := hq; clear L0 L1; have C0 : Hid (∀ w, Calls Tryz.prog 82 #[W4 l00_0 l00_1 l00_2 l00_3, W4 18446744073709551597 18446744073709551615 18446744073709551615 9223372036854775807] w fun e w' => e = .returned (.int .i64 (-1)) ∧ Below w.heap.size w w') := fun w => (g_cmp H0.out isP w).mono (by rintro e w' ⟨rfl, hb⟩; exact ⟨by rw [hx], hb⟩)
 clear hx; have C1 : Hid (∀ w, Calls Tryz.prog 82 #[W4 l01_0 l01_1 l01_2 l01_3, W4 18446744073709551597 18446744073709551615 18446744073709551615 9223372036854775807] w fun e w' => e = .returned (.int .i64 (-1)) ∧ Below w.heap.size w w') := fun w => (g_cmp H1.out isP w).mono (by rintro e w' ⟨rfl, hb⟩; exact ⟨by rw [hy], hb⟩)
 clear hy; have V0 : Hid (VarS (w.alloc (.cells (catW [W4 l00_0 l00_1 l00_2 l00_3, W4 l01_0 l01_1 l01_2 l01_3]) 77)) w.heap.size 77 [W4 l00_0 l00_1 l00_2 l00_3, W4 l01_0 l01_1 l01_2 l01_3] ∧ Below w.heap.size w (w.alloc (.cells (catW [W4 l00_0 l00_1 l00_2 l00_3, W4 l01_0 l01_1 l01_2 l01_3]) 77))) := ⟨⟨words2 H0.out H1.out, heap_alloc_new _ _⟩, by go_grown⟩
 go_enter Tryz.func59, Tryz.ntmps59
 unfold W4; go_wp2; generalize (w.alloc (.cells (catW [W4 l00_0 l00_1 l00_2 l00_3, W4 l01_0 l01_1 l01_2 l01_3]) 77)) = W0 at V0 ⊢; refine wp_region_held_drew (S := fun w' => Below (W0.heap.size) W0 w') (by kernel_rfl) (Below.drew (Below.refl _ _)) (fun hHeld => ?_); generalize W0.drew = wd at hHeld  ⊢; refine tk 0 (.pointer (some ⟨w.heap.size, 0, none⟩)) (fun w9 hSw => ?_) hHeld ?_
 · go_simp
 simp only [sm]; refine tk 1 (W4 l00_0 l00_1 l00_2 l00_3) (fun w9 hSw => ?_) hHeld ?_
 · exact run_load_exec 51 _ rfl _ rfl ((V0.out.1.kept hSw).part 0 rfl)
 simp only [sm]; refine rd 2 (fun K hK => ?_); go_simp; refine Calls.mono (p_any _) ?_; rintro e w7 ⟨rfl, b7⟩; go_wp2_with fail; refine hK.out _ _ (hHeld.trans (b7.mono (Nat.le_trans (Nat.le_refl _) hHeld.size))) (fun hHeld => ?_); clear hK K; try simp only [sm]
 refine rd 3 (fun K hK => ?_); go_simp; refine Calls.mono (C0.out _) ?_; rintro e w8 ⟨rfl, b8⟩; go_wp2_with fail; refine hK.out _ _ (hHeld.trans (b8.mono (Nat.le_trans (Nat.le_refl _) hHeld.size))) (fun hHeld => ?_); clear hK K; try simp only [sm]
 refine tk 4 (.bool false) (fun w9 hSw => ?_) hHeld ?_
 · go_simp
 simp only [sm]; refine tk 5 (.bool false) (fun w9 hSw => ?_) hHeld ?_
 · go_simp
 simp only [sm]; refine tk 6 (.pointer (some ⟨w.heap.size, 4, none⟩)) (fun w9 hSw => ?_) hHeld ?_
 · go_simp
 simp only [sm]; refine tk 7 (W4 l01_0 l01_1 l01_2 l01_3) (fun w9 hSw => ?_) hHeld ?_
 · exact run_load_exec 51 _ rfl _ rfl ((V0.out.1.kept hSw).part 1 rfl)
 simp only [sm]; refine rd 8 (fun K hK => ?_); go_simp; refine Calls.mono (p_any _) ?_; rintro e w13 ⟨rfl, b13⟩; go_wp2_with fail; refine hK.out _ _ (hHeld.trans (b13.mono (Nat.le_trans (Nat.le_refl _) hHeld.size))) (fun hHeld => ?_); clear hK K; try simp only [sm]
 refine rd 9 (fun K hK => ?_); go_simp; refine Calls.mono (C1.out _) ?_; rintro e w14 ⟨rfl, b14⟩; go_wp2_with fail; refine hK.out _ _ (hHeld.trans (b14.mono (Nat.le_trans (Nat.le_refl _) hHeld.size))) (fun hHeld => ?_); clear hK K; try simp only [sm]
 refine tk 10 (.bool false) (fun w9 hSw => ?_) hHeld ?_
 · go_simp
 simp only [sm]; refine tk 11 (.bool false) (fun w9 hSw => ?_) hHeld ?_
 · go_simp
 simp only [sm]; refine wpAnyH_done (by kernel_rfl) ?_ _; have hB := V0.out.2.trans (hHeld.mono V0.out.2.size); have g0 := V0.out.1.kept hHeld; clear hHeld V0 C0 C1; go_wp2; generalize w14 = W1 at *; have hw := hB.size; have lt0 := g0.lt; have hB0 := hB; clear hB; refine wp_region_inv (by kernel_rfl) 14 rfl (fun l a w' => ∃ (β0 β1 β2 β3 β4 β5 β6 β7 β8 β9 β10 β11 β12 β13 : Bool) (x3_4 x3_9 : Value) (z3_10 z3_11 : Nat), l = #[β0, β1, β2, β3, β4, β5, β6, β7, β8, β9, β10, β11, β12, β13] ∧ a = ⟨#[.agg (catW [W4 l00_0 l00_1 l00_2 l00_3, W4 l01_0 l01_1 l01_2 l01_3]), .pointer (some ⟨w.heap.size, 0, none⟩), .bool false, bif β10 then .pointer (some ⟨z3_10, 0, none⟩) else undef, bif β11 then .pointer (some ⟨z3_11, 0, none⟩) else undef, .pointer (some ⟨w.heap.size, 0, none⟩), W4 l00_0 l00_1 l00_2 l00_3, W4 18446744073709551597 18446744073709551615 18446744073709551615 9223372036854775807, .int .i64 (-1), .bool false, .bool false, .pointer (some ⟨w.heap.size, 4, none⟩), W4 l01_0 l01_1 l01_2 l01_3, W4 18446744073709551597 18446744073709551615 18446744073709551615 9223372036854775807, .int .i64 (-1), .bool false, .bool false, bif β0 then .pointer (some ⟨w.heap.size, 0, none⟩) else undef, bif β1 then W4 l00_0 l00_1 l00_2 l00_3 else undef, bif β2 then .pointer (some ⟨w.heap.size, 0, none⟩) else undef, bif β3 then W4 l00_0 l00_1 l00_2 l00_3 else undef, bif β4 then x3_4 else undef, bif β5 then .pointer (some ⟨w.heap.size, 4, none⟩) else undef, bif β6 then W4 l01_0 l01_1 l01_2 l01_3 else undef, bif β7 then .pointer (some ⟨w.heap.size, 4, none⟩) else undef, bif β8 then W4 l01_0 l01_1 l01_2 l01_3 else undef, bif β9 then x3_9 else undef, undef, undef, undef, undef, undef, undef, undef, undef, undef, undef, undef], []⟩ ∧ Below (w.heap.size) W1 w' ∧ Hid (β4 = true → IsF x3_4 ((toF x) * (toF x))) ∧ Hid (β9 = true → IsF x3_9 ((toF y) * (toF y))) ∧ Hid (β10 = true → W1.heap.size ≤ z3_10 ∧ VarS w' z3_10 51 (bif β12 then [x3_4] else [W4 0 0 0 0])) ∧ Hid (β11 = true → W1.heap.size ≤ z3_11 ∧ VarS w' z3_11 51 (bif β13 then [x3_9] else [W4 0 0 0 0])) ∧ Hid (β10 = true → β11 = true → z3_10 ≠ z3_11) ∧ Hid (β12 = true → β4 = true) ∧ Hid (β12 = true → β10 = true) ∧ Hid (β13 = true → β9 = true) ∧ Hid (β13 = true → β11 = true) ∧ VarS w' (w.heap.size) 77 [W4 l00_0 l00_1 l00_2 l00_3, W4 l01_0 l01_1 l01_2 l01_3]) ?h03 ?hend3 ?hstep3
 case h03 => exact ⟨false, false, false, false, false, false, false, false, false, false, false, false, false, false, undef, undef, 0, 0, rfl, rfl, Below.drew (Below.refl _ _), (fun h => by cases h), (fun h => by cases h), (fun h => by cases h), (fun h => by cases h), (fun h => by cases h), (fun h => by cases h), (fun h => by cases h), (fun h => by cases h), (fun h => by cases h), g0.drew⟩
 case hend3 =>
  intro l a w' hs hI hr0; obtain ⟨β0, β1, β2, β3, β4, β5, β6, β7, β8, β9, β10, β11, β12, β13, x3_4, x3_9, z3_10, z3_11, rfl, rfl, hB, hc3_4, hc3_9, ha3_10, ha3_11, hd3_10_11, hm3_12_4, hm3_12_10, hm3_13_9, hm3_13_11, g0⟩ := hI; have hall := ready_none (by rfl) (depsLow_spec (by kernel_rfl)) hr0; obtain rfl : β0 = true := hall 0 (by decide); obtain rfl : β1 = true := hall 1 (by decide); obtain rfl : β2 = true := hall 2 (by decide); obtain rfl : β3 = true := hall 3 (by decide); obtain rfl : β4 = true := hall 4 (by decide); obtain rfl : β5 = true := hall 5 (by decide); obtain rfl : β6 = true := hall 6 (by decide); obtain rfl : β7 = true := hall 7 (by decide); obtain rfl : β8 = true := hall 8 (by decide); obtain rfl : β9 = true := hall 9 (by decide); obtain rfl : β10 = true := hall 10 (by decide); obtain rfl : β11 = true := hall 11 (by decide); obtain rfl : β12 = true := hall 12 (by decide); obtain rfl : β13 = true := hall 13 (by decide); clear hall hr0 hs
  replace hc3_4 := hc3_4.out rfl
  replace hc3_9 := hc3_9.out rfl
  replace ha3_10 := ha3_10.out rfl
  replace ha3_11 := ha3_11.out rfl
  simp only [cond_true] at ha3_10 ha3_11 ⊢; have hB0 := hB0.trans (hB.mono (Nat.le_refl _)); have gz10 := ha3_10.2; have gl10 := ha3_10.1; have gz11 := ha3_11.2; have gl11 := ha3_11.1; clear ha3_10 ha3_11; generalize w' = W2 at *; go_wp2; have hw2 : w.heap.size ≤ W2.heap.size := hB0.size; refine wp_region_inv (by kernel_rfl) 12 rfl (fun l a w' => ∃ (β0 β1 β2 β3 β4 β5 β6 β7 β8 β9 β10 β11 : Bool) (x4_2 x4_3 x4_4 x4_7 x4_8 x4_9 : Value), l = #[β0, β1, β2, β3, β4, β5, β6, β7, β8, β9, β10, β11] ∧ a = ⟨#[.agg (catW [W4 l00_0 l00_1 l00_2 l00_3, W4 l01_0 l01_1 l01_2 l01_3]), .pointer (some ⟨w.heap.size, 0, none⟩), bif β11 then .bool (decide (((toF y) * (toF y)) - ((toF x) * (toF x)) = (1) + ((toF DD) * (((toF x) * (toF x)) * ((toF y) * (toF y)))))) else .bool false, .pointer (some ⟨z3_10, 0, none⟩), .pointer (some ⟨z3_11, 0, none⟩), .pointer (some ⟨w.heap.size, 0, none⟩), W4 l00_0 l00_1 l00_2 l00_3, W4 18446744073709551597 18446744073709551615 18446744073709551615 9223372036854775807, .int .i64 (-1), .bool false, .bool false, .pointer (some ⟨w.heap.size, 4, none⟩), W4 l01_0 l01_1 l01_2 l01_3, W4 18446744073709551597 18446744073709551615 18446744073709551615 9223372036854775807, .int .i64 (-1), .bool false, .bool false, .pointer (some ⟨w.heap.size, 0, none⟩), W4 l00_0 l00_1 l00_2 l00_3, .pointer (some ⟨w.heap.size, 0, none⟩), W4 l00_0 l00_1 l00_2 l00_3, x3_4, .pointer (some ⟨w.heap.size, 4, none⟩), W4 l01_0 l01_1 l01_2 l01_3, .pointer (some ⟨w.heap.size, 4, none⟩), W4 l01_0 l01_1 l01_2 l01_3, x3_9, bif β0 then x3_9 else undef, bif β1 then x3_4 else undef, bif β2 then x4_2 else undef, bif β3 then x4_3 else undef, bif β4 then x4_4 else undef, bif β5 then x3_4 else undef, bif β6 then x3_9 else undef, bif β7 then x4_7 else undef, bif β8 then x4_8 else undef, bif β9 then x4_9 else undef, bif β10 then .bool (decide (((toF y) * (toF y)) - ((toF x) * (toF x)) = (1) + ((toF DD) * (((toF x) * (toF x)) * ((toF y) * (toF y)))))) else undef], []⟩ ∧ Below (w.heap.size) W2 w' ∧ Hid (β2 = true → IsF x4_2 (((toF y) * (toF y)) - ((toF x) * (toF x)))) ∧ Hid (β3 = true → IsF x4_3 (1)) ∧ Hid (β4 = true → IsF x4_4 (toF DD)) ∧ Hid (β7 = true → IsF x4_7 (((toF x) * (toF x)) * ((toF y) * (toF y)))) ∧ Hid (β8 = true → IsF x4_8 ((toF DD) * (((toF x) * (toF x)) * ((toF y) * (toF y))))) ∧ Hid (β9 = true → IsF x4_9 ((1) + ((toF DD) * (((toF x) * (toF x)) * ((toF y) * (toF y)))))) ∧ VarS w' (z3_10) 51 [x3_4] ∧ VarS w' (z3_11) 51 [x3_9]) ?h04 ?hend4 ?hstep4
  case h04 => exact ⟨false, false, false, false, false, false, false, false, false, false, false, false, undef, undef, undef, undef, undef, undef, rfl, rfl, Below.drew (Below.refl _ _), (fun h => by cases h), (fun h => by cases h), (fun h => by cases h), (fun h => by cases h), (fun h => by cases h), (fun h => by cases h), gz10.drew, gz11.drew⟩
  case hend4 =>
   intro l a w' hs hI hr0; obtain ⟨β0, β1, β2, β3, β4, β5, β6, β7, β8, β9, β10, β11, x4_2, x4_3, x4_4, x4_7, x4_8, x4_9, rfl, rfl, hB, hc4_2, hc4_3, hc4_4, hc4_7, hc4_8, hc4_9, gz10, gz11⟩ := hI; have hall := ready_none (by rfl) (depsLow_spec (by kernel_rfl)) hr0; obtain rfl : β0 = true := hall 0 (by decide); obtain rfl : β1 = true := hall 1 (by decide); obtain rfl : β2 = true := hall 2 (by decide); obtain rfl : β3 = true := hall 3 (by decide); obtain rfl : β4 = true := hall 4 (by decide); obtain rfl : β5 = true := hall 5 (by decide); obtain rfl : β6 = true := hall 6 (by decide); obtain rfl : β7 = true := hall 7 (by decide); obtain rfl : β8 = true := hall 8 (by decide); obtain rfl : β9 = true := hall 9 (by decide); obtain rfl : β10 = true := hall 10 (by decide); obtain rfl : β11 = true := hall 11 (by decide); clear hall hr0 hs
   replace hc4_2 := hc4_2.out rfl
   replace hc4_3 := hc4_3.out rfl
   replace hc4_4 := hc4_4.out rfl
   replace hc4_7 := hc4_7.out rfl
   replace hc4_8 := hc4_8.out rfl
   replace hc4_9 := hc4_9.out rfl
   simp only [cond_true] at  ⊢; have hB0 := hB0.trans (hB.mono (Nat.le_refl _)); go_wp2; go_ret; exact ⟨rfl, hB0⟩
  case hstep4 =>
   intro i l a w' hs hI hi; obtain ⟨β0, β1, β2, β3, β4, β5, β6, β7, β8, β9, β10, β11, x4_2, x4_3, x4_4, x4_7, x4_8, x4_9, rfl, rfl, hB, hc4_2, hc4_3, hc4_4, hc4_7, hc4_8, hc4_9, gz10, gz11⟩ := hI; obtain ⟨hlt, hun, _⟩ := ready_mem hi; have hlt' : i < 12 := hlt; clear hlt hs; have hcs : i = 0 ∨ i = 1 ∨ i = 2 ∨ i = 3 ∨ i = 4 ∨ i = 5 ∨ i = 6 ∨ i = 7 ∨ i = 8 ∨ i = 9 ∨ i = 10 ∨ i = 11 := by omega
   clear hlt'; rcases hcs with rfl | rfl | rfl | rfl | rfl | rfl | rfl | rfl | rfl | rfl | rfl | rfl
   · obtain rfl : β0 = false := hun
     clear hi; try simp only [cond_true, cond_false]
     refine ws (fun Kx hK => ?_); refine step_yield (v := x3_9) (by rfl) ?_ ?_
     · exact run_load_exec 51 _ rfl _ rfl (gz11.part 0 rfl)
     · exact hK.out _ _ ⟨true, β1, β2, β3, β4, β5, β6, β7, β8, β9, β10, β11, x4_2, x4_3, x4_4, x4_7, x4_8, x4_9, rfl, rfl, hB, hc4_2, hc4_3, hc4_4, hc4_7, hc4_8, hc4_9, gz10, gz11⟩
   · obtain rfl : β1 = false := hun
     clear hi; try simp only [cond_true, cond_false]
     refine ws (fun Kx hK => ?_); refine step_yield (v := x3_4) (by rfl) ?_ ?_
     · exact run_load_exec 51 _ rfl _ rfl (gz10.part 0 rfl)
     · exact hK.out _ _ ⟨β0, true, β2, β3, β4, β5, β6, β7, β8, β9, β10, β11, x4_2, x4_3, x4_4, x4_7, x4_8, x4_9, rfl, rfl, hB, hc4_2, hc4_3, hc4_4, hc4_7, hc4_8, hc4_9, gz10, gz11⟩
   · obtain rfl : β2 = false := hun
     obtain rfl : β0 = true := ready_dep (k := 0) hi rfl rfl rfl; obtain rfl : β1 = true := ready_dep (k := 1) hi rfl rfl rfl; clear hi; try simp only [cond_true, cond_false]
     refine ws (fun Kx hK => ?_); go_simp; refine Calls.mono (f_sub hc3_9 hc3_4 _) ?_; rintro e w2 ⟨v, rfl, hv, hb2⟩; go_wp2_with fail; exact hK.out _ _ ⟨true, true, true, β3, β4, β5, β6, β7, β8, β9, β10, β11, v, x4_3, x4_4, x4_7, x4_8, x4_9, rfl, rfl, (hB.trans (hb2.mono (Nat.le_trans hw2 hB.size))), (fun _ => hv), hc4_3, hc4_4, hc4_7, hc4_8, hc4_9, (gz10.kept hb2), (gz11.kept hb2)⟩
   · obtain rfl : β3 = false := hun
     clear hi; try simp only [cond_true, cond_false]
     refine ws (fun Kx hK => ?_); go_simp; refine Calls.mono (f_one _) ?_; rintro e w2 ⟨v, rfl, hv, hb2⟩; go_wp2_with fail; exact hK.out _ _ ⟨β0, β1, β2, true, β4, β5, β6, β7, β8, β9, β10, β11, x4_2, v, x4_4, x4_7, x4_8, x4_9, rfl, rfl, (hB.trans (hb2.mono (Nat.le_trans hw2 hB.size))), hc4_2, (fun _ => hv), hc4_4, hc4_7, hc4_8, hc4_9, (gz10.kept hb2), (gz11.kept hb2)⟩
   · obtain rfl : β4 = false := hun
     clear hi; try simp only [cond_true, cond_false]
     refine ws (fun Kx hK => ?_); go_simp; refine Calls.mono (f_curve _) ?_; rintro e w2 ⟨v, rfl, hv, hb2⟩; go_wp2_with fail; exact hK.out _ _ ⟨β0, β1, β2, β3, true, β5, β6, β7, β8, β9, β10, β11, x4_2, x4_3, v, x4_7, x4_8, x4_9, rfl, rfl, (hB.trans (hb2.mono (Nat.le_trans hw2 hB.size))), hc4_2, hc4_3, (fun _ => hv), hc4_7, hc4_8, hc4_9, (gz10.kept hb2), (gz11.kept hb2)⟩
   · obtain rfl : β5 = false := hun
     clear hi; try simp only [cond_true, cond_false]
     refine ws (fun Kx hK => ?_); refine step_yield (v := x3_4) (by rfl) ?_ ?_
     · exact run_load_exec 51 _ rfl _ rfl (gz10.part 0 rfl)
     · exact hK.out _ _ ⟨β0, β1, β2, β3, β4, true, β6, β7, β8, β9, β10, β11, x4_2, x4_3, x4_4, x4_7, x4_8, x4_9, rfl, rfl, hB, hc4_2, hc4_3, hc4_4, hc4_7, hc4_8, hc4_9, gz10, gz11⟩
   · obtain rfl : β6 = false := hun
     clear hi; try simp only [cond_true, cond_false]
     refine ws (fun Kx hK => ?_); refine step_yield (v := x3_9) (by rfl) ?_ ?_
     · exact run_load_exec 51 _ rfl _ rfl (gz11.part 0 rfl)
     · exact hK.out _ _ ⟨β0, β1, β2, β3, β4, β5, true, β7, β8, β9, β10, β11, x4_2, x4_3, x4_4, x4_7, x4_8, x4_9, rfl, rfl, hB, hc4_2, hc4_3, hc4_4, hc4_7, hc4_8, hc4_9, gz10, gz11⟩
   · obtain rfl : β7 = false := hun
     obtain rfl : β5 = true := ready_dep (k := 0) hi rfl rfl rfl; obtain rfl : β6 = true := ready_dep (k := 1) hi rfl rfl rfl; clear hi; try simp only [cond_true, cond_false]
     refine ws (fun Kx hK => ?_); go_simp; refine Calls.mono (f_mul hc3_4 hc3_9 _) ?_; rintro e w2 ⟨v, rfl, hv, hb2⟩; go_wp2_with fail; exact hK.out _ _ ⟨β0, β1, β2, β3, β4, true, true, true, β8, β9, β10, β11, x4_2, x4_3, x4_4, v, x4_8, x4_9, rfl, rfl, (hB.trans (hb2.mono (Nat.le_trans hw2 hB.size))), hc4_2, hc4_3, hc4_4, (fun _ => hv), hc4_8, hc4_9, (gz10.kept hb2), (gz11.kept hb2)⟩
   · obtain rfl : β8 = false := hun
     obtain rfl : β4 = true := ready_dep (k := 0) hi rfl rfl rfl; obtain rfl : β7 = true := ready_dep (k := 1) hi rfl rfl rfl; clear hi; try simp only [cond_true, cond_false]
     refine ws (fun Kx hK => ?_)
     replace hc4_4 := hc4_4.out rfl
     replace hc4_7 := hc4_7.out rfl
     go_simp; refine Calls.mono (f_mul hc4_4 hc4_7 _) ?_
     rintro e w2 ⟨v, rfl, hv, hb2⟩; go_wp2_with fail; exact hK.out _ _ ⟨β0, β1, β2, β3, true, β5, β6, true, true, β9, β10, β11, x4_2, x4_3, x4_4, x4_7, v, x4_9, rfl, rfl, (hB.trans (hb2.mono (Nat.le_trans hw2 hB.size))), hc4_2, hc4_3, (fun _ => hc4_4), (fun _ => hc4_7), (fun _ => hv), hc4_9, (gz10.kept hb2), (gz11.kept hb2)⟩
   · obtain rfl : β9 = false := hun
     obtain rfl : β3 = true := ready_dep (k := 0) hi rfl rfl rfl; obtain rfl : β8 = true := ready_dep (k := 1) hi rfl rfl rfl; clear hi; try simp only [cond_true, cond_false]
     refine ws (fun Kx hK => ?_)
     replace hc4_8 := hc4_8.out rfl
     replace hc4_3 := hc4_3.out rfl
     go_simp; refine Calls.mono (f_add hc4_3 hc4_8 _) ?_
     rintro e w2 ⟨v, rfl, hv, hb2⟩; go_wp2_with fail; exact hK.out _ _ ⟨β0, β1, β2, true, β4, β5, β6, β7, true, true, β10, β11, x4_2, x4_3, x4_4, x4_7, x4_8, v, rfl, rfl, (hB.trans (hb2.mono (Nat.le_trans hw2 hB.size))), hc4_2, (fun _ => hc4_3), hc4_4, hc4_7, (fun _ => hc4_8), (fun _ => hv), (gz10.kept hb2), (gz11.kept hb2)⟩
   · obtain rfl : β10 = false := hun
     obtain rfl : β2 = true := ready_dep (k := 0) hi rfl rfl rfl; obtain rfl : β9 = true := ready_dep (k := 1) hi rfl rfl rfl; clear hi; try simp only [cond_true, cond_false]
     refine ws (fun Kx hK => ?_); refine step_yield (v := .bool (decide (((toF y) * (toF y)) - ((toF x) * (toF x)) = (1) + ((toF DD) * (((toF x) * (toF x)) * ((toF y) * (toF y))))))) (by rfl) ?_ ?_
     · have q := eqW' (b := decide (((toF y) * (toF y)) - ((toF x) * (toF x)) = (1) + ((toF DD) * (((toF x) * (toF x)) * ((toF y) * (toF y)))))) (hc4_2.out rfl) (hc4_9.out rfl) (valEq _ _) w'
       obtain ⟨p0, p1, p2, p3, rfl, _, _⟩ := (hc4_2.out rfl)
       obtain ⟨q0, q1, q2, q3, rfl, _, _⟩ := (hc4_9.out rfl)
       unfold W4 at q ⊢; go_simp
     · exact hK.out _ _ ⟨β0, β1, true, β3, β4, β5, β6, β7, β8, true, true, β11, x4_2, x4_3, x4_4, x4_7, x4_8, x4_9, rfl, rfl, hB, hc4_2, hc4_3, hc4_4, hc4_7, hc4_8, hc4_9, gz10, gz11⟩
   · obtain rfl : β11 = false := hun
     obtain rfl : β10 = true := ready_dep (k := 0) hi rfl rfl rfl; clear hi; try simp only [cond_true, cond_false]
     refine ws (fun Kx hK => ?_); refine step_yield (v := .bool (decide (((toF y) * (toF y)) - ((toF x) * (toF x)) = (1) + ((toF DD) * (((toF x) * (toF x)) * ((toF y) * (toF y))))))) (by rfl) ?_ ?_
     · go_simp
     · exact hK.out _ _ ⟨β0, β1, β2, β3, β4, β5, β6, β7, β8, β9, true, true, x4_2, x4_3, x4_4, x4_7, x4_8, x4_9, rfl, rfl, hB, hc4_2, hc4_3, hc4_4, hc4_7, hc4_8, hc4_9, gz10, gz11⟩
 case hstep3 =>
  intro i l a w' hs hI hi; obtain ⟨β0, β1, β2, β3, β4, β5, β6, β7, β8, β9, β10, β11, β12, β13, x3_4, x3_9, z3_10, z3_11, rfl, rfl, hB, hc3_4, hc3_9, ha3_10, ha3_11, hd3_10_11, hm3_12_4, hm3_12_10, hm3_13_9, hm3_13_11, g0⟩ := hI; obtain ⟨hlt, hun, _⟩ := ready_mem hi; have hlt' : i < 14 := hlt; clear hlt hs; have hcs : i = 0 ∨ i = 1 ∨ i = 2 ∨ i = 3 ∨ i = 4 ∨ i = 5 ∨ i = 6 ∨ i = 7 ∨ i = 8 ∨ i = 9 ∨ i = 10 ∨ i = 11 ∨ i = 12 ∨ i = 13 := by omega
  clear hlt'; rcases hcs with rfl | rfl | rfl | rfl | rfl | rfl | rfl | rfl | rfl | rfl | rfl | rfl | rfl | rfl
  · obtain rfl : β0 = false := hun
    clear hi; try simp only [cond_true, cond_false]
    refine ws (fun Kx hK => ?_); refine step_yield (v := .pointer (some ⟨w.heap.size, 0, none⟩)) (by rfl) ?_ ?_
    · go_simp
    · exact hK.out _ _ ⟨true, β1, β2, β3, β4, β5, β6, β7, β8, β9, β10, β11, β12, β13, x3_4, x3_9, z3_10, z3_11, rfl, rfl, hB, hc3_4, hc3_9, ha3_10, ha3_11, hd3_10_11, hm3_12_4, hm3_12_10, hm3_13_9, hm3_13_11, g0⟩
  · obtain rfl : β1 = false := hun
    obtain rfl : β0 = true := ready_dep (k := 0) hi rfl rfl rfl; clear hi; try simp only [cond_true, cond_false]
    refine ws (fun Kx hK => ?_); refine step_yield (v := W4 l00_0 l00_1 l00_2 l00_3) (by rfl) ?_ ?_
    · exact run_load_exec 51 _ rfl _ rfl (g0.part 0 rfl)
    · exact hK.out _ _ ⟨true, true, β2, β3, β4, β5, β6, β7, β8, β9, β10, β11, β12, β13, x3_4, x3_9, z3_10, z3_11, rfl, rfl, hB, hc3_4, hc3_9, ha3_10, ha3_11, hd3_10_11, hm3_12_4, hm3_12_10, hm3_13_9, hm3_13_11, g0⟩
  · obtain rfl : β2 = false := hun
    clear hi; try simp only [cond_true, cond_false]
    refine ws (fun Kx hK => ?_); refine step_yield (v := .pointer (some ⟨w.heap.size, 0, none⟩)) (by rfl) ?_ ?_
    · go_simp
    · exact hK.out _ _ ⟨β0, β1, true, β3, β4, β5, β6, β7, β8, β9, β10, β11, β12, β13, x3_4, x3_9, z3_10, z3_11, rfl, rfl, hB, hc3_4, hc3_9, ha3_10, ha3_11, hd3_10_11, hm3_12_4, hm3_12_10, hm3_13_9, hm3_13_11, g0⟩
  · obtain rfl : β3 = false := hun
    obtain rfl : β2 = true := ready_dep (k := 0) hi rfl rfl rfl; clear hi; try simp only [cond_true, cond_false]
    refine ws (fun Kx hK => ?_); refine step_yield (v := W4 l00_0 l00_1 l00_2 l00_3) (by rfl) ?_ ?_
    · exact run_load_exec 51 _ rfl _ rfl (g0.part 0 rfl)
    · exact hK.out _ _ ⟨β0, β1, true, true, β4, β5, β6, β7, β8, β9, β10, β11, β12, β13, x3_4, x3_9, z3_10, z3_11, rfl, rfl, hB, hc3_4, hc3_9, ha3_10, ha3_11, hd3_10_11, hm3_12_4, hm3_12_10, hm3_13_9, hm3_13_11, g0⟩
  · obtain rfl : β4 = false := hun
    obtain rfl : β1 = true := ready_dep (k := 0) hi rfl rfl rfl; obtain rfl : β3 = true := ready_dep (k := 1) hi rfl rfl rfl; obtain rfl : β12 = false := Bool.eq_false_iff.2 (fun h => by have := hm3_12_4.out h; cases this); clear hi; try simp only [cond_true, cond_false]
    refine ws (fun Kx hK => ?_); go_simp; refine Calls.mono (f_mul F0.out F0.out _) ?_; rintro e w2 ⟨v, rfl, hv, hb2⟩; go_wp2_with fail; exact hK.out _ _ ⟨β0, true, β2, true, true, β5, β6, β7, β8, β9, β10, β11, false, β13, v, x3_9, z3_10, z3_11, rfl, rfl, (hB.trans (hb2.mono (Nat.le_trans hw hB.size))), (fun _ => hv), hc3_9, (fun h => ⟨(ha3_10.out h).1, (ha3_10.out h).2.kept hb2⟩), (fun h => ⟨(ha3_11.out h).1, (ha3_11.out h).2.kept hb2⟩), hd3_10_11, (fun _ => rfl), hm3_12_10, hm3_13_9, hm3_13_11, (g0.kept hb2)⟩
  · obtain rfl : β5 = false := hun
    clear hi; try simp only [cond_true, cond_false]
    refine ws (fun Kx hK => ?_); refine step_yield (v := .pointer (some ⟨w.heap.size, 4, none⟩)) (by rfl) ?_ ?_
    · go_simp
    · exact hK.out _ _ ⟨β0, β1, β2, β3, β4, true, β6, β7, β8, β9, β10, β11, β12, β13, x3_4, x3_9, z3_10, z3_11, rfl, rfl, hB, hc3_4, hc3_9, ha3_10, ha3_11, hd3_10_11, hm3_12_4, hm3_12_10, hm3_13_9, hm3_13_11, g0⟩
  · obtain rfl : β6 = false := hun
    obtain rfl : β5 = true := ready_dep (k := 0) hi rfl rfl rfl; clear hi; try simp only [cond_true, cond_false]
    refine ws (fun Kx hK => ?_); refine step_yield (v := W4 l01_0 l01_1 l01_2 l01_3) (by rfl) ?_ ?_
    · exact run_load_exec 51 _ rfl _ rfl (g0.part 1 rfl)
    · exact hK.out _ _ ⟨β0, β1, β2, β3, β4, true, true, β7, β8, β9, β10, β11, β12, β13, x3_4, x3_9, z3_10, z3_11, rfl, rfl, hB, hc3_4, hc3_9, ha3_10, ha3_11, hd3_10_11, hm3_12_4, hm3_12_10, hm3_13_9, hm3_13_11, g0⟩
  · obtain rfl : β7 = false := hun
    clear hi; try simp only [cond_true, cond_false]
    refine ws (fun Kx hK => ?_); refine step_yield (v := .pointer (some ⟨w.heap.size, 4, none⟩)) (by rfl) ?_ ?_
    · go_simp
    · exact hK.out _ _ ⟨β0, β1, β2, β3, β4, β5, β6, true, β8, β9, β10, β11, β12, β13, x3_4, x3_9, z3_10, z3_11, rfl, rfl, hB, hc3_4, hc3_9, ha3_10, ha3_11, hd3_10_11, hm3_12_4, hm3_12_10, hm3_13_9, hm3_13_11, g0⟩
  · obtain rfl : β8 = false := hun
    obtain rfl : β7 = true := ready_dep (k := 0) hi rfl rfl rfl; clear hi; try simp only [cond_true, cond_false]
    refine ws (fun Kx hK => ?_); refine step_yield (v := W4 l01_0 l01_1 l01_2 l01_3) (by rfl) ?_ ?_
    · exact run_load_exec 51 _ rfl _ rfl (g0.part 1 rfl)
    · exact hK.out _ _ ⟨β0, β1, β2, β3, β4, β5, β6, true, true, β9, β10, β11, β12, β13, x3_4, x3_9, z3_10, z3_11, rfl, rfl, hB, hc3_4, hc3_9, ha3_10, ha3_11, hd3_10_11, hm3_12_4, hm3_12_10, hm3_13_9, hm3_13_11, g0⟩
  · obtain rfl : β9 = false := hun
    obtain rfl : β6 = true := ready_dep (k := 0) hi rfl rfl rfl; obtain rfl : β8 = true := ready_dep (k := 1) hi rfl rfl rfl; obtain rfl : β13 = false := Bool.eq_false_iff.2 (fun h => by have := hm3_13_9.out h; cases this); clear hi; try simp only [cond_true, cond_false]
    refine ws (fun Kx hK => ?_); go_simp; refine Calls.mono (f_mul F1.out F1.out _) ?_; rintro e w2 ⟨v, rfl, hv, hb2⟩; go_wp2_with fail; exact hK.out _ _ ⟨β0, β1, β2, β3, β4, β5, true, β7, true, true, β10, β11, β12, false, x3_4, v, z3_10, z3_11, rfl, rfl, (hB.trans (hb2.mono (Nat.le_trans hw hB.size))), hc3_4, (fun _ => hv), (fun h => ⟨(ha3_10.out h).1, (ha3_10.out h).2.kept hb2⟩), (fun h => ⟨(ha3_11.out h).1, (ha3_11.out h).2.kept hb2⟩), hd3_10_11, hm3_12_4, hm3_12_10, (fun _ => rfl), hm3_13_11, (g0.kept hb2)⟩
  · obtain rfl : β10 = false := hun
    obtain rfl : β12 = false := Bool.eq_false_iff.2 (fun h => by have := hm3_12_10.out h; cases this); clear hi; try simp only [cond_true, cond_false]
    refine ws (fun Kx hK => ?_); go_simp; exact hK.out _ _ ⟨β0, β1, β2, β3, β4, β5, β6, β7, β8, β9, true, β11, false, β13, x3_4, x3_9, w'.heap.size, z3_11, rfl, rfl, (hB.alloc (Nat.le_trans hw hB.size) _), hc3_4, hc3_9, (fun _ => ⟨hB.size, VarS.new24 _⟩), (fun h => ⟨(ha3_11.out h).1, (ha3_11.out h).2.old _⟩), (fun _ h => Nat.ne_of_gt (ha3_11.out h).2.lt), hm3_12_4, (fun _ => rfl), hm3_13_9, hm3_13_11, (g0.old _)⟩
  · obtain rfl : β11 = false := hun
    obtain rfl : β13 = false := Bool.eq_false_iff.2 (fun h => by have := hm3_13_11.out h; cases this); clear hi; try simp only [cond_true, cond_false]
    refine ws (fun Kx hK => ?_); go_simp; exact hK.out _ _ ⟨β0, β1, β2, β3, β4, β5, β6, β7, β8, β9, β10, true, β12, false, x3_4, x3_9, z3_10, w'.heap.size, rfl, rfl, (hB.alloc (Nat.le_trans hw hB.size) _), hc3_4, hc3_9, (fun h => ⟨(ha3_10.out h).1, (ha3_10.out h).2.old _⟩), (fun _ => ⟨hB.size, VarS.new24 _⟩), (fun h _ => Nat.ne_of_lt (ha3_10.out h).2.lt), hm3_12_4, hm3_12_10, hm3_13_9, (fun _ => rfl), (g0.old _)⟩
  · obtain rfl : β12 = false := hun
    obtain rfl : β4 = true := ready_dep (k := 1) hi rfl rfl rfl; obtain rfl : β10 = true := ready_dep (k := 0) hi rfl rfl rfl; clear hi; try simp only [cond_true, cond_false]
    refine ws (fun Kx hK => ?_); refine step_store_wordS (u := x3_4) (v := W4 0 0 0 0) (by rfl) _ _ rfl z3_10 rfl rfl (hc3_4.out rfl) (ha3_10.out rfl).2 ?_; exact hK.out _ _ ⟨β0, β1, β2, β3, true, β5, β6, β7, β8, β9, true, β11, true, β13, x3_4, x3_9, z3_10, z3_11, rfl, rfl, (below_setRow hB (Nat.le_trans hw (ha3_10.out rfl).1) _), hc3_4, hc3_9, (fun _ => ⟨(ha3_10.out rfl).1, ((ha3_10.out rfl).2.put (words1 (hc3_4.out rfl)))⟩), (fun h => ⟨(ha3_11.out h).1, (ha3_11.out h).2.other (Ne.symm (hd3_10_11.out rfl h)) _⟩), hd3_10_11, (fun _ => rfl), (fun _ => rfl), hm3_13_9, hm3_13_11, (g0.other (Nat.ne_of_lt (Nat.lt_of_lt_of_le lt0 (ha3_10.out rfl).1)) _)⟩
  · obtain rfl : β13 = false := hun
    obtain rfl : β9 = true := ready_dep (k := 1) hi rfl rfl rfl; obtain rfl : β11 = true := ready_dep (k := 0) hi rfl rfl rfl; clear hi; try simp only [cond_true, cond_false]
    refine ws (fun Kx hK => ?_); refine step_store_wordS (u := x3_9) (v := W4 0 0 0 0) (by rfl) _ _ rfl z3_11 rfl rfl (hc3_9.out rfl) (ha3_11.out rfl).2 ?_; exact hK.out _ _ ⟨β0, β1, β2, β3, β4, β5, β6, β7, β8, true, β10, true, β12, true, x3_4, x3_9, z3_10, z3_11, rfl, rfl, (below_setRow hB (Nat.le_trans hw (ha3_11.out rfl).1) _), hc3_4, hc3_9, (fun h => ⟨(ha3_10.out h).1, (ha3_10.out h).2.other (hd3_10_11.out h rfl) _⟩), (fun _ => ⟨(ha3_11.out rfl).1, ((ha3_11.out rfl).2.put (words1 (hc3_9.out rfl)))⟩), hd3_10_11, hm3_12_4, hm3_12_10, (fun _ => rfl), (fun _ => rfl), (g0.other (Nat.ne_of_lt (Nat.lt_of_lt_of_le lt0 (ha3_11.out rfl).1)) _)⟩
end Go.Proofs.YtojfcdjgcgnajaaGreat
