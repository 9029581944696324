/- FieldLaws: the walk. -/
import Derived.Test.YtmflilgppllebaaFY
import Derived.Test.YtmflilgppllebaaFZ
namespace Go.Proofs.Ytmflilgppllebaa
open Go.RowKit
set_option linter.unusedSimpArgs false
set_option linter.unusedVariables false

theorem add0 (a : Int) : (a + 0) % PP = a % PP := by rw [Int.add_zero]
theorem law_dist (a b c m : Int) : (a * ((b + c) % m)) % m = ((a * b % m) + (a * c % m)) % m := by
  rw [imul_r, Int.mul_add, Int.add_emod]
theorem law_back (a b m : Int) : ((a + b) % m - b) % m = (a + 0) % m := by
  rw [Int.emod_sub_emod, Int.add_sub_cancel, Int.add_zero]
theorem beq_t {x y : Int} (h : x = y) : (x == y) = true := by rw [h]; exact beq_self_eq_true _
theorem beq_f {x y : Int} (h : x ≠ y) : (x == y) = false := beq_eq_false_iff_ne.2 h
theorem s_sq {v : Value} {a : Int} (h : IsW v (a * a % PP)) (w : World) : Calls Try.prog 18 #[v] w fun e w' => ∃ u, e = .returned (.tuple #[u, .bool true]) ∧ IsW u (sqrtR (a * a % PP)) ∧ Below w.heap.size w w' := by
  refine (g_sqrt h w).mono ?_
  rw [(sqrt_sq a).1]
  exact fun e w' h => h
theorem even_limb {r0 r1 r2 r3 x : Int} (hL : L4 r0 r1 r2 r3) (h : num r0 r1 r2 r3 = x) (he : x % 2 = 0) : bits .and .u64 r0 1 = 0 := by
  rw [fand_1 r0 hL.1.1 hL.1.2]
  unfold num at h
  omega
set_option maxRecDepth 20000 in
set_option maxHeartbeats 4000000 in
theorem laws_any (a0 a1 a2 a3 b0 b1 b2 b3 c0 c1 c2 c3 : Int) (la : L4 a0 a1 a2 a3) (lb : L4 b0 b1 b2 b3) (lc : L4 c0 c1 c2 c3) (w : World) :
    Calls Try.prog 7 #[W4 a0 a1 a2 a3, W4 b0 b1 b2 b3, W4 c0 c1 c2 c3] w fun e w' => e = .returned (.bool true) ∧ Below w.heap.size w w' := by
  have HA : Hid (IsW (W4 a0 a1 a2 a3) (num a0 a1 a2 a3)) := IsW.mk la
  have HB : Hid (IsW (W4 b0 b1 b2 b3) (num b0 b1 b2 b3)) := IsW.mk lb
  have HC : Hid (IsW (W4 c0 c1 c2 c3) (num c0 c1 c2 c3)) := IsW.mk lc
  have V0 : Hid (VarW ((((w.alloc (.cells (C4 a0 a1 a2 a3) 24)).alloc (.cells (C4 b0 b1 b2 b3) 24)).alloc (.cells (C4 c0 c1 c2 c3) 24)).alloc (.cells (C4 1 0 0 0) 24)) w.heap.size (W4 a0 a1 a2 a3)
     ∧ VarW ((((w.alloc (.cells (C4 a0 a1 a2 a3) 24)).alloc (.cells (C4 b0 b1 b2 b3) 24)).alloc (.cells (C4 c0 c1 c2 c3) 24)).alloc (.cells (C4 1 0 0 0) 24)) (w.heap.size + 1) (W4 b0 b1 b2 b3)
     ∧ VarW ((((w.alloc (.cells (C4 a0 a1 a2 a3) 24)).alloc (.cells (C4 b0 b1 b2 b3) 24)).alloc (.cells (C4 c0 c1 c2 c3) 24)).alloc (.cells (C4 1 0 0 0) 24)) (w.heap.size + 2) (W4 c0 c1 c2 c3)
     ∧ VarW ((((w.alloc (.cells (C4 a0 a1 a2 a3) 24)).alloc (.cells (C4 b0 b1 b2 b3) 24)).alloc (.cells (C4 c0 c1 c2 c3) 24)).alloc (.cells (C4 1 0 0 0) 24)) (w.heap.size + 3) (W4 1 0 0 0)
     ∧ Below w.heap.size w ((((w.alloc (.cells (C4 a0 a1 a2 a3) 24)).alloc (.cells (C4 b0 b1 b2 b3) 24)).alloc (.cells (C4 c0 c1 c2 c3) 24)).alloc (.cells (C4 1 0 0 0) 24))) := by
    refine ⟨VarW.mk la (heap_old _ _ _ _ (heap_old _ _ _ _ (heap_old _ _ _ _ (heap_alloc_new _ _)))), VarW.mk lb (heap_old _ _ _ _ (heap_old _ _ _ _ (heapAt _ _ _ (by simp)))), VarW.mk lc (heap_old _ _ _ _ (heapAt _ _ _ (by simp))), VarW.mk ⟨limb_lit 1 (by decide), limb_lit 0 (by decide), limb_lit 0 (by decide), limb_lit 0 (by decide)⟩ (heapAt _ _ _ (by simp)), by go_grown⟩
  clear la lb lc
  generalize num a0 a1 a2 a3 = a at HA
  generalize num b0 b1 b2 b3 = b at HB
  generalize num c0 c1 c2 c3 = c at HC
  go_enter Try.func7, Try.ntmps7
  unfold W4
  go_wp2_with fail
  generalize (((w.alloc (.cells (C4 a0 a1 a2 a3) 24)).alloc (.cells (C4 b0 b1 b2 b3) 24)).alloc (.cells (C4 c0 c1 c2 c3) 24)).alloc (.cells (C4 1 0 0 0) 24) = W0 at V0 ⊢
  refine Calls.mono (g_fadd HA.out isw0 _) ?_
  rintro e w16 ⟨v16, rfl, h16, b16⟩
  have V1 : Hid (VarW w16 w.heap.size (W4 a0 a1 a2 a3) ∧ VarW w16 (w.heap.size + 1) (W4 b0 b1 b2 b3) ∧ VarW w16 (w.heap.size + 2) (W4 c0 c1 c2 c3) ∧ VarW w16 (w.heap.size + 3) (W4 1 0 0 0) ∧ Below w.heap.size w w16) :=
    ⟨V0.out.1.kept b16, V0.out.2.1.kept b16, V0.out.2.2.1.kept b16, V0.out.2.2.2.1.kept b16, V0.out.2.2.2.2.trans (b16.mono V0.out.2.2.2.2.size)⟩
  clear V0 b16
  by_cases hzero : a % PP = 0
  · have q := eqW' (b := true) h16 isw0 (beq_t ((add0 a).trans hzero)) w16
    obtain ⟨s0, s1, s2, s3, rfl, ls, ns⟩ := h16
    clear ls ns
    unfold W4 at q ⊢
    go_wp2_with fail
    clear q
    try simp only [Act.put]
    go_cut [9] (fun s9 wx => ∃ (z : Nat) (v : Value), s9 = .pointer (some ⟨z, 0, none⟩) ∧ IsW v (a * (a ^ E2 % PP) % PP) ∧ VarW wx z v ∧ Below w16.heap.size w16 wx)
    case first =>
      refine wp_region_held_drew (S := fun w' => Below w16.heap.size w16 w') (by kernel_rfl) (Below.drew (Below.refl _ _)) (fun hHeld => ?_)
      generalize w16.drew = wd at hHeld ⊢
      refine wpAnyH_take (i := 0) (v := W4 a0 a1 a2 a3) rfl (by kernel_rfl) (by kernel_rfl) (by kernel_rfl) (fun _ _ _ h => h) (Or.inl ⟨by rfl, fun w9 hSw => ?_⟩) hHeld ?_
      · exact run_load_exec 24 _ rfl _ rfl (V1.out.1.kept hSw).load
      simp only [List.getElem_toArray, List.getElem_cons_succ, List.getElem_cons_zero, Act.put, List.setIfInBounds_toArray, List.set_cons_zero, List.set_cons_succ]
      refine wpAnyH_take (i := 1) (v := W4 a0 a1 a2 a3) rfl (by kernel_rfl) (by kernel_rfl) (by kernel_rfl) (fun _ _ _ h => h) (Or.inl ⟨by rfl, fun w9 hSw => ?_⟩) hHeld ?_
      · exact run_load_exec 24 _ rfl _ rfl (V1.out.1.kept hSw).load
      simp only [List.getElem_toArray, List.getElem_cons_succ, List.getElem_cons_zero, Act.put, List.setIfInBounds_toArray, List.set_cons_zero, List.set_cons_succ]
      refine wpAnyH_ready (rs := [2, 4]) (by kernel_rfl) (by simp) ?_
      refine AllReadyH.cons rfl (fun K hK => ?_) (AllReadyH.cons rfl (fun K hK => ?_) AllReadyH.nil)
      · go_simp
        refine Calls.mono (g_inv HA.out _) ?_
        rintro e w21 ⟨v21, rfl, h21, b21⟩
        go_wp2_with fail
        refine hK.out _ _ (hHeld.trans (b21.mono hHeld.size)) (fun hHeld => ?_)
        clear hK K
        try simp only [List.getElem_toArray, List.getElem_cons_succ, List.getElem_cons_zero, Act.put, List.setIfInBounds_toArray, List.set_cons_zero, List.set_cons_succ]
        refine wpAnyH_ready (rs := [3, 4]) (by kernel_rfl) (by simp) ?_
        refine AllReadyH.cons rfl (fun K hK => ?_) (AllReadyH.cons rfl (fun K hK => ?_) AllReadyH.nil)
        · go_simp
          refine Calls.mono (g_fmul HA.out h21 _) ?_
          rintro e w22 ⟨v22, rfl, h22, b22⟩
          go_wp2_with fail
          refine hK.out _ _ (hHeld.trans (b22.mono hHeld.size)) (fun hHeld => ?_)
          clear hK K
          try simp only [List.getElem_toArray, List.getElem_cons_succ, List.getElem_cons_zero, Act.put, List.setIfInBounds_toArray, List.set_cons_zero, List.set_cons_succ]
          refine wpAnyH_ready (rs := [4]) (by kernel_rfl) (by simp) ?_
          refine AllReadyH.cons rfl (fun K hK => ?_) AllReadyH.nil
          go_simp
          have hz9 := VarW.new w22
          have hl9 : w16.heap.size ≤ w22.heap.size := hHeld.size
          refine hK.out _ _ (hHeld.alloc hHeld.size _) (fun hHeld => ?_)
          clear hK K
          try simp only [List.getElem_toArray, List.getElem_cons_succ, List.getElem_cons_zero, Act.put, List.setIfInBounds_toArray, List.set_cons_zero, List.set_cons_succ]
          generalize w22.heap.size = z9 at hz9 hl9 ⊢
          generalize w22.alloc (.cells (C4 0 0 0 0) 24) = wa9 at hz9 hHeld ⊢
          refine wpAnyH_ready (rs := [5]) (by kernel_rfl) (by simp) ?_
          refine AllReadyH.cons rfl (fun K hK => ?_) AllReadyH.nil
          refine step_store_varW (u := v22) (by rfl) _ _ rfl z9 rfl rfl h22 hz9 ?_
          refine hK.out _ _ (below_setRow hHeld hl9 _) (fun hHeld => ?_)
          clear hK K
          try simp only [List.getElem_toArray, List.getElem_cons_succ, List.getElem_cons_zero, Act.put, List.setIfInBounds_toArray, List.set_cons_zero, List.set_cons_succ]
          replace hz9 := hz9.put h22
          generalize wa9.setRow z9 (cw v22) = wsz9 at hz9 hHeld ⊢
          refine wpAnyH_done (by kernel_rfl) ?_ _
          go_wp2_with fail
          go_meet
          case rel => exact ⟨_, _, rfl, h22, hz9, hHeld⟩
        · go_simp
          have hz9 := VarW.new w21
          have hl9 : w16.heap.size ≤ w21.heap.size := hHeld.size
          refine hK.out _ _ (hHeld.alloc hHeld.size _) (fun hHeld => ?_)
          clear hK K
          try simp only [List.getElem_toArray, List.getElem_cons_succ, List.getElem_cons_zero, Act.put, List.setIfInBounds_toArray, List.set_cons_zero, List.set_cons_succ]
          generalize w21.heap.size = z9 at hz9 hl9 ⊢
          generalize w21.alloc (.cells (C4 0 0 0 0) 24) = wa9 at hz9 hHeld ⊢
          refine wpAnyH_ready (rs := [3]) (by kernel_rfl) (by simp) ?_
          refine AllReadyH.cons rfl (fun K hK => ?_) AllReadyH.nil
          go_simp
          refine Calls.mono (g_fmul HA.out h21 _) ?_
          rintro e w22 ⟨v22, rfl, h22, b22⟩
          replace hz9 := hz9.kept b22
          go_wp2_with fail
          refine hK.out _ _ (hHeld.trans (b22.mono hHeld.size)) (fun hHeld => ?_)
          clear hK K
          try simp only [List.getElem_toArray, List.getElem_cons_succ, List.getElem_cons_zero, Act.put, List.setIfInBounds_toArray, List.set_cons_zero, List.set_cons_succ]
          refine wpAnyH_ready (rs := [5]) (by kernel_rfl) (by simp) ?_
          refine AllReadyH.cons rfl (fun K hK => ?_) AllReadyH.nil
          refine step_store_varW (u := v22) (by rfl) _ _ rfl z9 rfl rfl h22 hz9 ?_
          refine hK.out _ _ (below_setRow hHeld hl9 _) (fun hHeld => ?_)
          clear hK K
          try simp only [List.getElem_toArray, List.getElem_cons_succ, List.getElem_cons_zero, Act.put, List.setIfInBounds_toArray, List.set_cons_zero, List.set_cons_succ]
          replace hz9 := hz9.put h22
          generalize w22.setRow z9 (cw v22) = wsz9 at hz9 hHeld ⊢
          refine wpAnyH_done (by kernel_rfl) ?_ _
          go_wp2_with fail
          go_meet
          case rel => exact ⟨_, _, rfl, h22, hz9, hHeld⟩
      · go_simp
        have hz9 := VarW.new wd
        have hl9 : w16.heap.size ≤ wd.heap.size := hHeld.size
        refine hK.out _ _ (hHeld.alloc hHeld.size _) (fun hHeld => ?_)
        clear hK K
        try simp only [List.getElem_toArray, List.getElem_cons_succ, List.getElem_cons_zero, Act.put, List.setIfInBounds_toArray, List.set_cons_zero, List.set_cons_succ]
        generalize wd.heap.size = z9 at hz9 hl9 ⊢
        generalize wd.alloc (.cells (C4 0 0 0 0) 24) = wa9 at hz9 hHeld ⊢
        refine wpAnyH_ready (rs := [2]) (by kernel_rfl) (by simp) ?_
        refine AllReadyH.cons rfl (fun K hK => ?_) AllReadyH.nil
        go_simp
        refine Calls.mono (g_inv HA.out _) ?_
        rintro e w21 ⟨v21, rfl, h21, b21⟩
        replace hz9 := hz9.kept b21
        go_wp2_with fail
        refine hK.out _ _ (hHeld.trans (b21.mono hHeld.size)) (fun hHeld => ?_)
        clear hK K
        try simp only [List.getElem_toArray, List.getElem_cons_succ, List.getElem_cons_zero, Act.put, List.setIfInBounds_toArray, List.set_cons_zero, List.set_cons_succ]
        refine wpAnyH_ready (rs := [3]) (by kernel_rfl) (by simp) ?_
        refine AllReadyH.cons rfl (fun K hK => ?_) AllReadyH.nil
        go_simp
        refine Calls.mono (g_fmul HA.out h21 _) ?_
        rintro e w22 ⟨v22, rfl, h22, b22⟩
        replace hz9 := hz9.kept b22
        go_wp2_with fail
        refine hK.out _ _ (hHeld.trans (b22.mono hHeld.size)) (fun hHeld => ?_)
        clear hK K
        try simp only [List.getElem_toArray, List.getElem_cons_succ, List.getElem_cons_zero, Act.put, List.setIfInBounds_toArray, List.set_cons_zero, List.set_cons_succ]
        refine wpAnyH_ready (rs := [5]) (by kernel_rfl) (by simp) ?_
        refine AllReadyH.cons rfl (fun K hK => ?_) AllReadyH.nil
        refine step_store_varW (u := v22) (by rfl) _ _ rfl z9 rfl rfl h22 hz9 ?_
        refine hK.out _ _ (below_setRow hHeld hl9 _) (fun hHeld => ?_)
        clear hK K
        try simp only [List.getElem_toArray, List.getElem_cons_succ, List.getElem_cons_zero, Act.put, List.setIfInBounds_toArray, List.set_cons_zero, List.set_cons_succ]
        replace hz9 := hz9.put h22
        generalize w22.setRow z9 (cw v22) = wsz9 at hz9 hHeld ⊢
        refine wpAnyH_done (by kernel_rfl) ?_ _
        go_wp2_with fail
        go_meet
        case rel => exact ⟨_, _, rfl, h22, hz9, hHeld⟩
    case rest =>
      obtain ⟨z9, v9, rfl, h9, hz9, b9⟩ := hcut
      have H9 : Hid (IsW v9 (a * (a ^ E2 % PP) % PP)) := h9
      have V2 : Hid (VarW wc w.heap.size (W4 a0 a1 a2 a3) ∧ VarW wc (w.heap.size + 1) (W4 b0 b1 b2 b3) ∧ VarW wc (w.heap.size + 2) (W4 c0 c1 c2 c3) ∧ VarW wc (w.heap.size + 3) (W4 1 0 0 0) ∧ VarW wc z9 v9 ∧ Below w.heap.size w wc) :=
        ⟨V1.out.1.kept b9, V1.out.2.1.kept b9, V1.out.2.2.1.kept b9, V1.out.2.2.2.1.kept b9, hz9, V1.out.2.2.2.2.trans (b9.mono V1.out.2.2.2.2.size)⟩
      clear V1 h9 hz9 b9
      go_wp2_with (first | (refine wpList_load_varW rfl _ rfl w.heap.size rfl V2.out.1 ?_))
      refine Calls.mono (g_fmul HA.out HA.out _) ?_
      rintro e w25 ⟨v25, rfl, h25, b25⟩
      have H10 : Hid (IsW v25 (a * a % PP)) := h25
      have hn := VarW.new w25
      have hs : Hid (w.heap.size + 3 < w25.heap.size ∧ z9 < w25.heap.size ∧ w.heap.size ≤ w25.heap.size) := by
        have := (V2.out.2.2.2.1.kept b25).lt
        have := (V2.out.2.2.2.2.1.kept b25).lt
        exact ⟨by omega, by omega, by omega⟩
      have V3 : Hid (VarW ((w25.alloc (.cells (C4 0 0 0 0) 24)).setRow w25.heap.size (cw v25)) w.heap.size (W4 a0 a1 a2 a3) ∧ VarW ((w25.alloc (.cells (C4 0 0 0 0) 24)).setRow w25.heap.size (cw v25)) (w.heap.size + 1) (W4 b0 b1 b2 b3) ∧ VarW ((w25.alloc (.cells (C4 0 0 0 0) 24)).setRow w25.heap.size (cw v25)) (w.heap.size + 2) (W4 c0 c1 c2 c3) ∧ VarW ((w25.alloc (.cells (C4 0 0 0 0) 24)).setRow w25.heap.size (cw v25)) (w.heap.size + 3) (W4 1 0 0 0) ∧ VarW ((w25.alloc (.cells (C4 0 0 0 0) 24)).setRow w25.heap.size (cw v25)) z9 v9 ∧ VarW ((w25.alloc (.cells (C4 0 0 0 0) 24)).setRow w25.heap.size (cw v25)) w25.heap.size v25 ∧ Below w.heap.size w ((w25.alloc (.cells (C4 0 0 0 0) 24)).setRow w25.heap.size (cw v25))) :=
        ⟨((V2.out.1.kept b25).old _).other (by have := hs.out; omega) _, ((V2.out.2.1.kept b25).old _).other (by have := hs.out; omega) _, ((V2.out.2.2.1.kept b25).old _).other (by have := hs.out; omega) _, ((V2.out.2.2.2.1.kept b25).old _).other (by have := hs.out; omega) _, ((V2.out.2.2.2.2.1.kept b25).old _).other (by have := hs.out; omega) _, hn.put h25, below_setRow ((V2.out.2.2.2.2.2.trans (b25.mono V2.out.2.2.2.2.2.size)).alloc hs.out.2.2 _) hs.out.2.2 _⟩
      clear V2 b25
      go_wp2_with (first | (refine wpList_store_varW rfl _ _ rfl w25.heap.size rfl rfl h25 hn ?_) | (refine wpList_load_varW rfl _ rfl w25.heap.size rfl V3.out.2.2.2.2.2.1 ?_))
      clear hn hs
      generalize w25.heap.size = z10 at V3 ⊢
      generalize (w25.alloc (.cells (C4 0 0 0 0) 24)).setRow z10 (cw v25) = W3 at V3 ⊢
      refine Calls.mono (s_sq H10.out _) ?_
      rintro e w28 ⟨v28, rfl, h28, b28⟩
      clear h25
      have hn := VarW.new w28
      have hs : Hid (w.heap.size + 3 < w28.heap.size ∧ z9 < w28.heap.size ∧ z10 < w28.heap.size ∧ w.heap.size ≤ w28.heap.size) := by
        have := (V3.out.2.2.2.1.kept b28).lt
        have := (V3.out.2.2.2.2.1.kept b28).lt
        have := (V3.out.2.2.2.2.2.1.kept b28).lt
        exact ⟨by omega, by omega, by omega, by omega⟩
      have H11 : Hid (IsW v28 (sqrtR (a * a % PP))) := h28
      have V4 : Hid (VarW ((w28.alloc (.cells (C4 0 0 0 0) 24)).setRow w28.heap.size (cw v28)) w.heap.size (W4 a0 a1 a2 a3) ∧ VarW ((w28.alloc (.cells (C4 0 0 0 0) 24)).setRow w28.heap.size (cw v28)) (w.heap.size + 1) (W4 b0 b1 b2 b3) ∧ VarW ((w28.alloc (.cells (C4 0 0 0 0) 24)).setRow w28.heap.size (cw v28)) (w.heap.size + 2) (W4 c0 c1 c2 c3) ∧ VarW ((w28.alloc (.cells (C4 0 0 0 0) 24)).setRow w28.heap.size (cw v28)) (w.heap.size + 3) (W4 1 0 0 0) ∧ VarW ((w28.alloc (.cells (C4 0 0 0 0) 24)).setRow w28.heap.size (cw v28)) z9 v9 ∧ VarW ((w28.alloc (.cells (C4 0 0 0 0) 24)).setRow w28.heap.size (cw v28)) z10 v25 ∧ VarW ((w28.alloc (.cells (C4 0 0 0 0) 24)).setRow w28.heap.size (cw v28)) w28.heap.size v28 ∧ Below w.heap.size w ((w28.alloc (.cells (C4 0 0 0 0) 24)).setRow w28.heap.size (cw v28))) :=
        ⟨((V3.out.1.kept b28).old _).other (by have := hs.out; omega) _, ((V3.out.2.1.kept b28).old _).other (by have := hs.out; omega) _, ((V3.out.2.2.1.kept b28).old _).other (by have := hs.out; omega) _, ((V3.out.2.2.2.1.kept b28).old _).other (by have := hs.out; omega) _, ((V3.out.2.2.2.2.1.kept b28).old _).other (by have := hs.out; omega) _, ((V3.out.2.2.2.2.2.1.kept b28).old _).other (by have := hs.out; omega) _, hn.put h28, below_setRow ((V3.out.2.2.2.2.2.2.trans (b28.mono V3.out.2.2.2.2.2.2.size)).alloc hs.out.2.2.2 _) hs.out.2.2.2 _⟩
      clear V3 b28
      go_wp2_with (first | (refine wpList_store_varW rfl _ _ rfl w28.heap.size rfl rfl h28 hn ?_))
      clear hn hs
      generalize w28.heap.size = z11 at V4 ⊢
      generalize (w28.alloc (.cells (C4 0 0 0 0) 24)).setRow z11 (cw v28) = W4' at V4 ⊢
      obtain ⟨r0, r1, r2, r3, rfl, lr, nr⟩ := h28
      have hand := even_limb lr nr (sqrtR_sq a).2
      clear lr nr
      refine wp_region_held_drew (S := fun w' => Below W4'.heap.size W4' w') (by kernel_rfl) (Below.drew (Below.refl _ _)) (fun hHeld => ?_)
      generalize W4'.drew = wd at hHeld ⊢
      refine wpAnyH_take (i := 0) (v := .bool true) rfl (by kernel_rfl) (by kernel_rfl) (by kernel_rfl) (fun _ _ _ h => h) (Or.inl ⟨by rfl, fun w9 hSw => ?_⟩) hHeld ?_
      · go_simp
      simp only [List.getElem_toArray, List.getElem_cons_succ, List.getElem_cons_zero, Act.put, List.setIfInBounds_toArray, List.set_cons_zero, List.set_cons_succ]
      refine wpAnyH_take (i := 1) (v := v9) rfl (by kernel_rfl) (by kernel_rfl) (by kernel_rfl) (fun _ _ _ h => h) (Or.inl ⟨by rfl, fun w9 hSw => ?_⟩) hHeld ?_
      · exact run_load_exec 24 _ rfl _ rfl (V4.out.2.2.2.2.1.kept hSw).load
      simp only [List.getElem_toArray, List.getElem_cons_succ, List.getElem_cons_zero, Act.put, List.setIfInBounds_toArray, List.set_cons_zero, List.set_cons_succ]
      refine wpAnyH_take (i := 2) (v := W4 0 0 0 0) rfl (by kernel_rfl) (by kernel_rfl) (by kernel_rfl) (fun _ _ _ h => h) (Or.inl ⟨by rfl, fun w9 hSw => ?_⟩) hHeld ?_
      · go_simp
      simp only [List.getElem_toArray, List.getElem_cons_succ, List.getElem_cons_zero, Act.put, List.setIfInBounds_toArray, List.set_cons_zero, List.set_cons_succ]
      refine wpAnyH_take (i := 3) (v := .bool true) rfl (by kernel_rfl) (by kernel_rfl) (by kernel_rfl) (fun _ _ _ h => h) (Or.inl ⟨by rfl, fun w9 hSw => ?_⟩) hHeld ?_
      · have q := eqW' (b := true) H9.out isw0 (beq_t (inv_nil a hzero)) w9
        obtain ⟨p0, p1, p2, p3, rfl, _, _⟩ := H9.out
        unfold W4 at q ⊢
        go_simp
      simp only [List.getElem_toArray, List.getElem_cons_succ, List.getElem_cons_zero, Act.put, List.setIfInBounds_toArray, List.set_cons_zero, List.set_cons_succ]
      refine wpAnyH_take (i := 4) (v := .bool false) rfl (by kernel_rfl) (by kernel_rfl) (by kernel_rfl) (fun _ _ _ h => h) (Or.inl ⟨by rfl, fun w9 hSw => ?_⟩) hHeld ?_
      · go_simp
      simp only [List.getElem_toArray, List.getElem_cons_succ, List.getElem_cons_zero, Act.put, List.setIfInBounds_toArray, List.set_cons_zero, List.set_cons_succ]
      refine wpAnyH_take (i := 5) (v := .bool false) rfl (by kernel_rfl) (by kernel_rfl) (by kernel_rfl) (fun _ _ _ h => h) (Or.inl ⟨by rfl, fun w9 hSw => ?_⟩) hHeld ?_
      · go_simp
      simp only [List.getElem_toArray, List.getElem_cons_succ, List.getElem_cons_zero, Act.put, List.setIfInBounds_toArray, List.set_cons_zero, List.set_cons_succ]
      refine wpAnyH_take (i := 6) (v := .bool true) rfl (by kernel_rfl) (by kernel_rfl) (by kernel_rfl) (fun _ _ _ h => h) (Or.inl ⟨by rfl, fun w9 hSw => ?_⟩) hHeld ?_
      · go_simp
      simp only [List.getElem_toArray, List.getElem_cons_succ, List.getElem_cons_zero, Act.put, List.setIfInBounds_toArray, List.set_cons_zero, List.set_cons_succ]
      refine wpAnyH_take (i := 7) (v := .bool false) rfl (by kernel_rfl) (by kernel_rfl) (by kernel_rfl) (fun _ _ _ h => h) (Or.inl ⟨by rfl, fun w9 hSw => ?_⟩) hHeld ?_
      · go_simp
      simp only [List.getElem_toArray, List.getElem_cons_succ, List.getElem_cons_zero, Act.put, List.setIfInBounds_toArray, List.set_cons_zero, List.set_cons_succ]
      refine wpAnyH_take (i := 8) (v := .bool false) rfl (by kernel_rfl) (by kernel_rfl) (by kernel_rfl) (fun _ _ _ h => h) (Or.inl ⟨by rfl, fun w9 hSw => ?_⟩) hHeld ?_
      · go_simp
      simp only [List.getElem_toArray, List.getElem_cons_succ, List.getElem_cons_zero, Act.put, List.setIfInBounds_toArray, List.set_cons_zero, List.set_cons_succ]
      refine wpAnyH_take (i := 9) (v := undef) rfl (by kernel_rfl) (by kernel_rfl) (by kernel_rfl) (fun _ _ _ h => h) (Or.inr ⟨by rfl, rfl⟩) hHeld ?_
      simp only [List.getElem_toArray, List.getElem_cons_succ, List.getElem_cons_zero, Act.put, List.setIfInBounds_toArray, List.set_cons_zero, List.set_cons_succ]
      refine wpAnyH_take (i := 10) (v := undef) rfl (by kernel_rfl) (by kernel_rfl) (by kernel_rfl) (fun _ _ _ h => h) (Or.inr ⟨by rfl, rfl⟩) hHeld ?_
      simp only [List.getElem_toArray, List.getElem_cons_succ, List.getElem_cons_zero, Act.put, List.setIfInBounds_toArray, List.set_cons_zero, List.set_cons_succ]
      refine wpAnyH_take (i := 11) (v := undef) rfl (by kernel_rfl) (by kernel_rfl) (by kernel_rfl) (fun _ _ _ h => h) (Or.inr ⟨by rfl, rfl⟩) hHeld ?_
      simp only [List.getElem_toArray, List.getElem_cons_succ, List.getElem_cons_zero, Act.put, List.setIfInBounds_toArray, List.set_cons_zero, List.set_cons_succ]
      refine wpAnyH_take (i := 12) (v := .bool false) rfl (by kernel_rfl) (by kernel_rfl) (by kernel_rfl) (fun _ _ _ h => h) (Or.inl ⟨by rfl, fun w9 hSw => ?_⟩) hHeld ?_
      · go_simp
      simp only [List.getElem_toArray, List.getElem_cons_succ, List.getElem_cons_zero, Act.put, List.setIfInBounds_toArray, List.set_cons_zero, List.set_cons_succ]
      refine wpAnyH_take (i := 13) (v := .bool false) rfl (by kernel_rfl) (by kernel_rfl) (by kernel_rfl) (fun _ _ _ h => h) (Or.inl ⟨by rfl, fun w9 hSw => ?_⟩) hHeld ?_
      · go_simp
      simp only [List.getElem_toArray, List.getElem_cons_succ, List.getElem_cons_zero, Act.put, List.setIfInBounds_toArray, List.set_cons_zero, List.set_cons_succ]
      refine wpAnyH_take (i := 14) (v := .bool false) rfl (by kernel_rfl) (by kernel_rfl) (by kernel_rfl) (fun _ _ _ h => h) (Or.inl ⟨by rfl, fun w9 hSw => ?_⟩) hHeld ?_
      · go_simp
      simp only [List.getElem_toArray, List.getElem_cons_succ, List.getElem_cons_zero, Act.put, List.setIfInBounds_toArray, List.set_cons_zero, List.set_cons_succ]
      refine wpAnyH_take (i := 15) (v := .bool true) rfl (by kernel_rfl) (by kernel_rfl) (by kernel_rfl) (fun _ _ _ h => h) (Or.inl ⟨by rfl, fun w9 hSw => ?_⟩) hHeld ?_
      · go_simp
      simp only [List.getElem_toArray, List.getElem_cons_succ, List.getElem_cons_zero, Act.put, List.setIfInBounds_toArray, List.set_cons_zero, List.set_cons_succ]
      refine wpAnyH_take (i := 16) (v := .bool false) rfl (by kernel_rfl) (by kernel_rfl) (by kernel_rfl) (fun _ _ _ h => h) (Or.inl ⟨by rfl, fun w9 hSw => ?_⟩) hHeld ?_
      · go_simp
      simp only [List.getElem_toArray, List.getElem_cons_succ, List.getElem_cons_zero, Act.put, List.setIfInBounds_toArray, List.set_cons_zero, List.set_cons_succ]
      refine wpAnyH_take (i := 17) (v := .bool false) rfl (by kernel_rfl) (by kernel_rfl) (by kernel_rfl) (fun _ _ _ h => h) (Or.inl ⟨by rfl, fun w9 hSw => ?_⟩) hHeld ?_
      · go_simp
      simp only [List.getElem_toArray, List.getElem_cons_succ, List.getElem_cons_zero, Act.put, List.setIfInBounds_toArray, List.set_cons_zero, List.set_cons_succ]
      refine wpAnyH_take (i := 18) (v := .bool false) rfl (by kernel_rfl) (by kernel_rfl) (by kernel_rfl) (fun _ _ _ h => h) (Or.inl ⟨by rfl, fun w9 hSw => ?_⟩) hHeld ?_
      · go_simp
      simp only [List.getElem_toArray, List.getElem_cons_succ, List.getElem_cons_zero, Act.put, List.setIfInBounds_toArray, List.set_cons_zero, List.set_cons_succ]
      refine wpAnyH_take (i := 19) (v := W4 r0 r1 r2 r3) rfl (by kernel_rfl) (by kernel_rfl) (by kernel_rfl) (fun _ _ _ h => h) (Or.inl ⟨by rfl, fun w9 hSw => ?_⟩) hHeld ?_
      · exact run_load_exec 24 _ rfl _ rfl (V4.out.2.2.2.2.2.2.1.kept hSw).load
      simp only [List.getElem_toArray, List.getElem_cons_succ, List.getElem_cons_zero, Act.put, List.setIfInBounds_toArray, List.set_cons_zero, List.set_cons_succ]
      refine wpAnyH_take (i := 20) (v := W4 r0 r1 r2 r3) rfl (by kernel_rfl) (by kernel_rfl) (by kernel_rfl) (fun _ _ _ h => h) (Or.inl ⟨by rfl, fun w9 hSw => ?_⟩) hHeld ?_
      · exact run_load_exec 24 _ rfl _ rfl (V4.out.2.2.2.2.2.2.1.kept hSw).load
      simp only [List.getElem_toArray, List.getElem_cons_succ, List.getElem_cons_zero, Act.put, List.setIfInBounds_toArray, List.set_cons_zero, List.set_cons_succ]
      refine wpAnyH_take (i := 22) (v := v25) rfl (by kernel_rfl) (by kernel_rfl) (by kernel_rfl) (fun _ _ _ h => h) (Or.inl ⟨by rfl, fun w9 hSw => ?_⟩) hHeld ?_
      · exact run_load_exec 24 _ rfl _ rfl (V4.out.2.2.2.2.2.1.kept hSw).load
      simp only [List.getElem_toArray, List.getElem_cons_succ, List.getElem_cons_zero, Act.put, List.setIfInBounds_toArray, List.set_cons_zero, List.set_cons_succ]
      refine wpAnyH_ready (rs := [21]) (by kernel_rfl) (by simp) ?_
      refine AllReadyH.cons rfl (fun K hK => ?_) AllReadyH.nil
      go_simp
      refine Calls.mono (g_fmul H11.out H11.out _) ?_
      rintro e w52 ⟨v52, rfl, h52, b52⟩
      go_wp2_with fail
      refine hK.out _ _ (hHeld.trans (b52.mono hHeld.size)) (fun hHeld => ?_)
      clear hK K
      try simp only [List.getElem_toArray, List.getElem_cons_succ, List.getElem_cons_zero, Act.put, List.setIfInBounds_toArray, List.set_cons_zero, List.set_cons_succ]
      refine wpAnyH_take (i := 23) (v := .bool false) rfl (by kernel_rfl) (by kernel_rfl) (by kernel_rfl) (fun _ _ _ h => h) (Or.inl ⟨by rfl, fun w9 hSw => ?_⟩) hHeld ?_
      · have q := eqW' (b := true) h52 H10.out (beq_t (sqrtR_sq a).1) w9
        obtain ⟨p0, p1, p2, p3, rfl, _, _⟩ := h52
        obtain ⟨q0, q1, q2, q3, rfl, _, _⟩ := H10.out
        unfold W4 at q ⊢
        go_simp
      simp only [List.getElem_toArray, List.getElem_cons_succ, List.getElem_cons_zero, Act.put, List.setIfInBounds_toArray, List.set_cons_zero, List.set_cons_succ]
      refine wpAnyH_take (i := 24) (v := .bool false) rfl (by kernel_rfl) (by kernel_rfl) (by kernel_rfl) (fun _ _ _ h => h) (Or.inl ⟨by rfl, fun w9 hSw => ?_⟩) hHeld ?_
      · go_simp
      simp only [List.getElem_toArray, List.getElem_cons_succ, List.getElem_cons_zero, Act.put, List.setIfInBounds_toArray, List.set_cons_zero, List.set_cons_succ]
      refine wpAnyH_take (i := 25) (v := .bool false) rfl (by kernel_rfl) (by kernel_rfl) (by kernel_rfl) (fun _ _ _ h => h) (Or.inl ⟨by rfl, fun w9 hSw => ?_⟩) hHeld ?_
      · go_simp
      simp only [List.getElem_toArray, List.getElem_cons_succ, List.getElem_cons_zero, Act.put, List.setIfInBounds_toArray, List.set_cons_zero, List.set_cons_succ]
      refine wpAnyH_take (i := 26) (v := .pointer (some ⟨z11, 0, none⟩)) rfl (by kernel_rfl) (by kernel_rfl) (by kernel_rfl) (fun _ _ _ h => h) (Or.inl ⟨by rfl, fun w9 hSw => ?_⟩) hHeld ?_
      · go_simp
      simp only [List.getElem_toArray, List.getElem_cons_succ, List.getElem_cons_zero, Act.put, List.setIfInBounds_toArray, List.set_cons_zero, List.set_cons_succ]
      refine wpAnyH_take (i := 27) (v := .int .u64 r0) rfl (by kernel_rfl) (by kernel_rfl) (by kernel_rfl) (fun _ _ _ h => h) (Or.inl ⟨by rfl, fun w9 hSw => ?_⟩) hHeld ?_
      · have c0 : w9.cell? ⟨z11, 0, none⟩ = some (.int .u64 r0) := by rw [cell_of_row w9 z11 0 _ 24 (0, 0) ((V4.out.2.2.2.2.2.2.1.kept hSw).2)]; rfl
        go_simp
      simp only [List.getElem_toArray, List.getElem_cons_succ, List.getElem_cons_zero, Act.put, List.setIfInBounds_toArray, List.set_cons_zero, List.set_cons_succ]
      refine wpAnyH_take (i := 28) (v := .int .u64 0) rfl (by kernel_rfl) (by kernel_rfl) (by kernel_rfl) (fun _ _ _ h => h) (Or.inl ⟨by rfl, fun w9 hSw => ?_⟩) hHeld ?_
      · go_simp
      simp only [List.getElem_toArray, List.getElem_cons_succ, List.getElem_cons_zero, Act.put, List.setIfInBounds_toArray, List.set_cons_zero, List.set_cons_succ]
      refine wpAnyH_take (i := 29) (v := .bool false) rfl (by kernel_rfl) (by kernel_rfl) (by kernel_rfl) (fun _ _ _ h => h) (Or.inl ⟨by rfl, fun w9 hSw => ?_⟩) hHeld ?_
      · go_simp
      simp only [List.getElem_toArray, List.getElem_cons_succ, List.getElem_cons_zero, Act.put, List.setIfInBounds_toArray, List.set_cons_zero, List.set_cons_succ]
      refine wpAnyH_take (i := 30) (v := .bool false) rfl (by kernel_rfl) (by kernel_rfl) (by kernel_rfl) (fun _ _ _ h => h) (Or.inl ⟨by rfl, fun w9 hSw => ?_⟩) hHeld ?_
      · go_simp
      simp only [List.getElem_toArray, List.getElem_cons_succ, List.getElem_cons_zero, Act.put, List.setIfInBounds_toArray, List.set_cons_zero, List.set_cons_succ]
      refine wpAnyH_done (by kernel_rfl) ?_ _
      have V5 : Hid (VarW w52 w.heap.size (W4 a0 a1 a2 a3) ∧ VarW w52 (w.heap.size + 1) (W4 b0 b1 b2 b3) ∧ VarW w52 (w.heap.size + 2) (W4 c0 c1 c2 c3) ∧ Below w.heap.size w w52) :=
        ⟨V4.out.1.kept hHeld, V4.out.2.1.kept hHeld, V4.out.2.2.1.kept hHeld, V4.out.2.2.2.2.2.2.2.trans (hHeld.mono V4.out.2.2.2.2.2.2.2.size)⟩
      clear hHeld V4 hand H9 H10 H11
      go_wp2_with fail
      refine wp_region_held_drew (S := fun w' => Below w52.heap.size w52 w') (by kernel_rfl) (Below.drew (Below.refl _ _)) (fun hHeld => ?_)
      generalize w52.drew = wd at hHeld ⊢
      refine wpAnyH_take (i := 0) (v := W4 a0 a1 a2 a3) rfl (by kernel_rfl) (by kernel_rfl) (by kernel_rfl) (fun _ _ _ h => h) (Or.inl ⟨by rfl, fun w9 hSw => ?_⟩) hHeld ?_
      · exact run_load_exec 24 _ rfl _ rfl (V5.out.1.kept hSw).load
      simp only [List.getElem_toArray, List.getElem_cons_succ, List.getElem_cons_zero, Act.put, List.setIfInBounds_toArray, List.set_cons_zero, List.set_cons_succ]
      refine wpAnyH_take (i := 1) (v := W4 b0 b1 b2 b3) rfl (by kernel_rfl) (by kernel_rfl) (by kernel_rfl) (fun _ _ _ h => h) (Or.inl ⟨by rfl, fun w9 hSw => ?_⟩) hHeld ?_
      · exact run_load_exec 24 _ rfl _ rfl (V5.out.2.1.kept hSw).load
      simp only [List.getElem_toArray, List.getElem_cons_succ, List.getElem_cons_zero, Act.put, List.setIfInBounds_toArray, List.set_cons_zero, List.set_cons_succ]
      refine wpAnyH_take (i := 2) (v := W4 c0 c1 c2 c3) rfl (by kernel_rfl) (by kernel_rfl) (by kernel_rfl) (fun _ _ _ h => h) (Or.inl ⟨by rfl, fun w9 hSw => ?_⟩) hHeld ?_
      · exact run_load_exec 24 _ rfl _ rfl (V5.out.2.2.1.kept hSw).load
      simp only [List.getElem_toArray, List.getElem_cons_succ, List.getElem_cons_zero, Act.put, List.setIfInBounds_toArray, List.set_cons_zero, List.set_cons_succ]
      refine wpAnyH_take (i := 5) (v := W4 a0 a1 a2 a3) rfl (by kernel_rfl) (by kernel_rfl) (by kernel_rfl) (fun _ _ _ h => h) (Or.inl ⟨by rfl, fun w9 hSw => ?_⟩) hHeld ?_
      · exact run_load_exec 24 _ rfl _ rfl (V5.out.1.kept hSw).load
      simp only [List.getElem_toArray, List.getElem_cons_succ, List.getElem_cons_zero, Act.put, List.setIfInBounds_toArray, List.set_cons_zero, List.set_cons_succ]
      refine wpAnyH_take (i := 6) (v := W4 b0 b1 b2 b3) rfl (by kernel_rfl) (by kernel_rfl) (by kernel_rfl) (fun _ _ _ h => h) (Or.inl ⟨by rfl, fun w9 hSw => ?_⟩) hHeld ?_
      · exact run_load_exec 24 _ rfl _ rfl (V5.out.2.1.kept hSw).load
      simp only [List.getElem_toArray, List.getElem_cons_succ, List.getElem_cons_zero, Act.put, List.setIfInBounds_toArray, List.set_cons_zero, List.set_cons_succ]
      refine wpAnyH_take (i := 8) (v := W4 a0 a1 a2 a3) rfl (by kernel_rfl) (by kernel_rfl) (by kernel_rfl) (fun _ _ _ h => h) (Or.inl ⟨by rfl, fun w9 hSw => ?_⟩) hHeld ?_
      · exact run_load_exec 24 _ rfl _ rfl (V5.out.1.kept hSw).load
      simp only [List.getElem_toArray, List.getElem_cons_succ, List.getElem_cons_zero, Act.put, List.setIfInBounds_toArray, List.set_cons_zero, List.set_cons_succ]
      refine wpAnyH_take (i := 9) (v := W4 c0 c1 c2 c3) rfl (by kernel_rfl) (by kernel_rfl) (by kernel_rfl) (fun _ _ _ h => h) (Or.inl ⟨by rfl, fun w9 hSw => ?_⟩) hHeld ?_
      · exact run_load_exec 24 _ rfl _ rfl (V5.out.2.2.1.kept hSw).load
      simp only [List.getElem_toArray, List.getElem_cons_succ, List.getElem_cons_zero, Act.put, List.setIfInBounds_toArray, List.set_cons_zero, List.set_cons_succ]
      refine wpAnyH_ready (rs := [3]) (by kernel_rfl) (by simp) ?_
      refine AllReadyH.cons rfl (fun K hK => ?_) AllReadyH.nil
      go_simp
      refine Calls.mono (g_fadd HB.out HC.out _) ?_
      rintro e w65 ⟨v65, rfl, h65, b65⟩
      go_wp2_with fail
      refine hK.out _ _ (hHeld.trans (b65.mono hHeld.size)) (fun hHeld => ?_)
      clear hK K
      try simp only [List.getElem_toArray, List.getElem_cons_succ, List.getElem_cons_zero, Act.put, List.setIfInBounds_toArray, List.set_cons_zero, List.set_cons_succ]
      refine wpAnyH_ready (rs := [4]) (by kernel_rfl) (by simp) ?_
      refine AllReadyH.cons rfl (fun K hK => ?_) AllReadyH.nil
      go_simp
      refine Calls.mono (g_fmul HA.out h65 _) ?_
      rintro e w66 ⟨v66, rfl, h66, b66⟩
      go_wp2_with fail
      refine hK.out _ _ (hHeld.trans (b66.mono hHeld.size)) (fun hHeld => ?_)
      clear hK K
      try simp only [List.getElem_toArray, List.getElem_cons_succ, List.getElem_cons_zero, Act.put, List.setIfInBounds_toArray, List.set_cons_zero, List.set_cons_succ]
      refine wpAnyH_ready (rs := [7]) (by kernel_rfl) (by simp) ?_
      refine AllReadyH.cons rfl (fun K hK => ?_) AllReadyH.nil
      go_simp
      refine Calls.mono (g_fmul HA.out HB.out _) ?_
      rintro e w69 ⟨v69, rfl, h69, b69⟩
      go_wp2_with fail
      refine hK.out _ _ (hHeld.trans (b69.mono hHeld.size)) (fun hHeld => ?_)
      clear hK K
      try simp only [List.getElem_toArray, List.getElem_cons_succ, List.getElem_cons_zero, Act.put, List.setIfInBounds_toArray, List.set_cons_zero, List.set_cons_succ]
      refine wpAnyH_ready (rs := [10]) (by kernel_rfl) (by simp) ?_
      refine AllReadyH.cons rfl (fun K hK => ?_) AllReadyH.nil
      go_simp
      refine Calls.mono (g_fmul HA.out HC.out _) ?_
      rintro e w72 ⟨v72, rfl, h72, b72⟩
      go_wp2_with fail
      refine hK.out _ _ (hHeld.trans (b72.mono hHeld.size)) (fun hHeld => ?_)
      clear hK K
      try simp only [List.getElem_toArray, List.getElem_cons_succ, List.getElem_cons_zero, Act.put, List.setIfInBounds_toArray, List.set_cons_zero, List.set_cons_succ]
      refine wpAnyH_ready (rs := [11]) (by kernel_rfl) (by simp) ?_
      refine AllReadyH.cons rfl (fun K hK => ?_) AllReadyH.nil
      go_simp
      refine Calls.mono (g_fadd h69 h72 _) ?_
      rintro e w73 ⟨v73, rfl, h73, b73⟩
      go_wp2_with fail
      refine hK.out _ _ (hHeld.trans (b73.mono hHeld.size)) (fun hHeld => ?_)
      clear hK K
      try simp only [List.getElem_toArray, List.getElem_cons_succ, List.getElem_cons_zero, Act.put, List.setIfInBounds_toArray, List.set_cons_zero, List.set_cons_succ]
      refine wpAnyH_take (i := 12) (v := .bool true) rfl (by kernel_rfl) (by kernel_rfl) (by kernel_rfl) (fun _ _ _ h => h) (Or.inl ⟨by rfl, fun w9 hSw => ?_⟩) hHeld ?_
      · have q := eqW' (b := true) h66 h73 (beq_t (law_dist _ _ _ _)) w9
        obtain ⟨p0, p1, p2, p3, rfl, _, _⟩ := h66
        obtain ⟨q0, q1, q2, q3, rfl, _, _⟩ := h73
        unfold W4 at q ⊢
        go_simp
      simp only [List.getElem_toArray, List.getElem_cons_succ, List.getElem_cons_zero, Act.put, List.setIfInBounds_toArray, List.set_cons_zero, List.set_cons_succ]
      refine wpAnyH_take (i := 13) (v := .bool true) rfl (by kernel_rfl) (by kernel_rfl) (by kernel_rfl) (fun _ _ _ h => h) (Or.inl ⟨by rfl, fun w9 hSw => ?_⟩) hHeld ?_
      · go_simp
      simp only [List.getElem_toArray, List.getElem_cons_succ, List.getElem_cons_zero, Act.put, List.setIfInBounds_toArray, List.set_cons_zero, List.set_cons_succ]
      refine wpAnyH_take (i := 14) (v := W4 a0 a1 a2 a3) rfl (by kernel_rfl) (by kernel_rfl) (by kernel_rfl) (fun _ _ _ h => h) (Or.inl ⟨by rfl, fun w9 hSw => ?_⟩) hHeld ?_
      · exact run_load_exec 24 _ rfl _ rfl (V5.out.1.kept hSw).load
      simp only [List.getElem_toArray, List.getElem_cons_succ, List.getElem_cons_zero, Act.put, List.setIfInBounds_toArray, List.set_cons_zero, List.set_cons_succ]
      refine wpAnyH_take (i := 15) (v := W4 b0 b1 b2 b3) rfl (by kernel_rfl) (by kernel_rfl) (by kernel_rfl) (fun _ _ _ h => h) (Or.inl ⟨by rfl, fun w9 hSw => ?_⟩) hHeld ?_
      · exact run_load_exec 24 _ rfl _ rfl (V5.out.2.1.kept hSw).load
      simp only [List.getElem_toArray, List.getElem_cons_succ, List.getElem_cons_zero, Act.put, List.setIfInBounds_toArray, List.set_cons_zero, List.set_cons_succ]
      refine wpAnyH_take (i := 17) (v := W4 b0 b1 b2 b3) rfl (by kernel_rfl) (by kernel_rfl) (by kernel_rfl) (fun _ _ _ h => h) (Or.inl ⟨by rfl, fun w9 hSw => ?_⟩) hHeld ?_
      · exact run_load_exec 24 _ rfl _ rfl (V5.out.2.1.kept hSw).load
      simp only [List.getElem_toArray, List.getElem_cons_succ, List.getElem_cons_zero, Act.put, List.setIfInBounds_toArray, List.set_cons_zero, List.set_cons_succ]
      refine wpAnyH_take (i := 19) (v := W4 a0 a1 a2 a3) rfl (by kernel_rfl) (by kernel_rfl) (by kernel_rfl) (fun _ _ _ h => h) (Or.inl ⟨by rfl, fun w9 hSw => ?_⟩) hHeld ?_
      · exact run_load_exec 24 _ rfl _ rfl (V5.out.1.kept hSw).load
      simp only [List.getElem_toArray, List.getElem_cons_succ, List.getElem_cons_zero, Act.put, List.setIfInBounds_toArray, List.set_cons_zero, List.set_cons_succ]
      refine wpAnyH_take (i := 20) (v := W4 0 0 0 0) rfl (by kernel_rfl) (by kernel_rfl) (by kernel_rfl) (fun _ _ _ h => h) (Or.inl ⟨by rfl, fun w9 hSw => ?_⟩) hHeld ?_
      · go_simp
      simp only [List.getElem_toArray, List.getElem_cons_succ, List.getElem_cons_zero, Act.put, List.setIfInBounds_toArray, List.set_cons_zero, List.set_cons_succ]
      refine wpAnyH_ready (rs := [16]) (by kernel_rfl) (by simp) ?_
      refine AllReadyH.cons rfl (fun K hK => ?_) AllReadyH.nil
      go_simp
      refine Calls.mono (g_fadd HA.out HB.out _) ?_
      rintro e w78 ⟨v78, rfl, h78, b78⟩
      go_wp2_with fail
      refine hK.out _ _ (hHeld.trans (b78.mono hHeld.size)) (fun hHeld => ?_)
      clear hK K
      try simp only [List.getElem_toArray, List.getElem_cons_succ, List.getElem_cons_zero, Act.put, List.setIfInBounds_toArray, List.set_cons_zero, List.set_cons_succ]
      refine wpAnyH_ready (rs := [18]) (by kernel_rfl) (by simp) ?_
      refine AllReadyH.cons rfl (fun K hK => ?_) AllReadyH.nil
      go_simp
      refine Calls.mono (g_fsub h78 HB.out _) ?_
      rintro e w80 ⟨v80, rfl, h80, b80⟩
      go_wp2_with fail
      refine hK.out _ _ (hHeld.trans (b80.mono hHeld.size)) (fun hHeld => ?_)
      clear hK K
      try simp only [List.getElem_toArray, List.getElem_cons_succ, List.getElem_cons_zero, Act.put, List.setIfInBounds_toArray, List.set_cons_zero, List.set_cons_succ]
      refine wpAnyH_ready (rs := [21]) (by kernel_rfl) (by simp) ?_
      refine AllReadyH.cons rfl (fun K hK => ?_) AllReadyH.nil
      go_simp
      refine Calls.mono (g_fadd HA.out isw0 _) ?_
      rintro e w83 ⟨v83, rfl, h83, b83⟩
      go_wp2_with fail
      refine hK.out _ _ (hHeld.trans (b83.mono hHeld.size)) (fun hHeld => ?_)
      clear hK K
      try simp only [List.getElem_toArray, List.getElem_cons_succ, List.getElem_cons_zero, Act.put, List.setIfInBounds_toArray, List.set_cons_zero, List.set_cons_succ]
      refine wpAnyH_take (i := 22) (v := .bool true) rfl (by kernel_rfl) (by kernel_rfl) (by kernel_rfl) (fun _ _ _ h => h) (Or.inl ⟨by rfl, fun w9 hSw => ?_⟩) hHeld ?_
      · have q := eqW' (b := true) h80 h83 (beq_t (law_back _ _ _)) w9
        obtain ⟨p0, p1, p2, p3, rfl, _, _⟩ := h80
        obtain ⟨q0, q1, q2, q3, rfl, _, _⟩ := h83
        unfold W4 at q ⊢
        go_simp
      simp only [List.getElem_toArray, List.getElem_cons_succ, List.getElem_cons_zero, Act.put, List.setIfInBounds_toArray, List.set_cons_zero, List.set_cons_succ]
      refine wpAnyH_take (i := 23) (v := .bool true) rfl (by kernel_rfl) (by kernel_rfl) (by kernel_rfl) (fun _ _ _ h => h) (Or.inl ⟨by rfl, fun w9 hSw => ?_⟩) hHeld ?_
      · go_simp
      simp only [List.getElem_toArray, List.getElem_cons_succ, List.getElem_cons_zero, Act.put, List.setIfInBounds_toArray, List.set_cons_zero, List.set_cons_succ]
      refine wpAnyH_take (i := 24) (v := .bool true) rfl (by kernel_rfl) (by kernel_rfl) (by kernel_rfl) (fun _ _ _ h => h) (Or.inl ⟨by rfl, fun w9 hSw => ?_⟩) hHeld ?_
      · go_simp
      simp only [List.getElem_toArray, List.getElem_cons_succ, List.getElem_cons_zero, Act.put, List.setIfInBounds_toArray, List.set_cons_zero, List.set_cons_succ]
      refine wpAnyH_take (i := 25) (v := W4 a0 a1 a2 a3) rfl (by kernel_rfl) (by kernel_rfl) (by kernel_rfl) (fun _ _ _ h => h) (Or.inl ⟨by rfl, fun w9 hSw => ?_⟩) hHeld ?_
      · exact run_load_exec 24 _ rfl _ rfl (V5.out.1.kept hSw).load
      simp only [List.getElem_toArray, List.getElem_cons_succ, List.getElem_cons_zero, Act.put, List.setIfInBounds_toArray, List.set_cons_zero, List.set_cons_succ]
      refine wpAnyH_take (i := 26) (v := W4 b0 b1 b2 b3) rfl (by kernel_rfl) (by kernel_rfl) (by kernel_rfl) (fun _ _ _ h => h) (Or.inl ⟨by rfl, fun w9 hSw => ?_⟩) hHeld ?_
      · exact run_load_exec 24 _ rfl _ rfl (V5.out.2.1.kept hSw).load
      simp only [List.getElem_toArray, List.getElem_cons_succ, List.getElem_cons_zero, Act.put, List.setIfInBounds_toArray, List.set_cons_zero, List.set_cons_succ]
      refine wpAnyH_take (i := 27) (v := W4 c0 c1 c2 c3) rfl (by kernel_rfl) (by kernel_rfl) (by kernel_rfl) (fun _ _ _ h => h) (Or.inl ⟨by rfl, fun w9 hSw => ?_⟩) hHeld ?_
      · exact run_load_exec 24 _ rfl _ rfl (V5.out.2.2.1.kept hSw).load
      simp only [List.getElem_toArray, List.getElem_cons_succ, List.getElem_cons_zero, Act.put, List.setIfInBounds_toArray, List.set_cons_zero, List.set_cons_succ]
      refine wpAnyH_take (i := 30) (v := W4 a0 a1 a2 a3) rfl (by kernel_rfl) (by kernel_rfl) (by kernel_rfl) (fun _ _ _ h => h) (Or.inl ⟨by rfl, fun w9 hSw => ?_⟩) hHeld ?_
      · exact run_load_exec 24 _ rfl _ rfl (V5.out.1.kept hSw).load
      simp only [List.getElem_toArray, List.getElem_cons_succ, List.getElem_cons_zero, Act.put, List.setIfInBounds_toArray, List.set_cons_zero, List.set_cons_succ]
      refine wpAnyH_take (i := 31) (v := W4 b0 b1 b2 b3) rfl (by kernel_rfl) (by kernel_rfl) (by kernel_rfl) (fun _ _ _ h => h) (Or.inl ⟨by rfl, fun w9 hSw => ?_⟩) hHeld ?_
      · exact run_load_exec 24 _ rfl _ rfl (V5.out.2.1.kept hSw).load
      simp only [List.getElem_toArray, List.getElem_cons_succ, List.getElem_cons_zero, Act.put, List.setIfInBounds_toArray, List.set_cons_zero, List.set_cons_succ]
      refine wpAnyH_take (i := 33) (v := W4 a0 a1 a2 a3) rfl (by kernel_rfl) (by kernel_rfl) (by kernel_rfl) (fun _ _ _ h => h) (Or.inl ⟨by rfl, fun w9 hSw => ?_⟩) hHeld ?_
      · exact run_load_exec 24 _ rfl _ rfl (V5.out.1.kept hSw).load
      simp only [List.getElem_toArray, List.getElem_cons_succ, List.getElem_cons_zero, Act.put, List.setIfInBounds_toArray, List.set_cons_zero, List.set_cons_succ]
      refine wpAnyH_take (i := 34) (v := W4 c0 c1 c2 c3) rfl (by kernel_rfl) (by kernel_rfl) (by kernel_rfl) (fun _ _ _ h => h) (Or.inl ⟨by rfl, fun w9 hSw => ?_⟩) hHeld ?_
      · exact run_load_exec 24 _ rfl _ rfl (V5.out.2.2.1.kept hSw).load
      simp only [List.getElem_toArray, List.getElem_cons_succ, List.getElem_cons_zero, Act.put, List.setIfInBounds_toArray, List.set_cons_zero, List.set_cons_succ]
      refine wpAnyH_ready (rs := [28]) (by kernel_rfl) (by simp) ?_
      refine AllReadyH.cons rfl (fun K hK => ?_) AllReadyH.nil
      go_simp
      refine Calls.mono (g_ladd HB.out HC.out _) ?_
      rintro e w90 ⟨v90, rfl, h90, b90⟩
      go_wp2_with fail
      refine hK.out _ _ (hHeld.trans (b90.mono hHeld.size)) (fun hHeld => ?_)
      clear hK K
      try simp only [List.getElem_toArray, List.getElem_cons_succ, List.getElem_cons_zero, Act.put, List.setIfInBounds_toArray, List.set_cons_zero, List.set_cons_succ]
      refine wpAnyH_ready (rs := [29]) (by kernel_rfl) (by simp) ?_
      refine AllReadyH.cons rfl (fun K hK => ?_) AllReadyH.nil
      go_simp
      refine Calls.mono (g_lmul HA.out h90 _) ?_
      rintro e w91 ⟨v91, rfl, h91, b91⟩
      go_wp2_with fail
      refine hK.out _ _ (hHeld.trans (b91.mono hHeld.size)) (fun hHeld => ?_)
      clear hK K
      try simp only [List.getElem_toArray, List.getElem_cons_succ, List.getElem_cons_zero, Act.put, List.setIfInBounds_toArray, List.set_cons_zero, List.set_cons_succ]
      refine wpAnyH_ready (rs := [32]) (by kernel_rfl) (by simp) ?_
      refine AllReadyH.cons rfl (fun K hK => ?_) AllReadyH.nil
      go_simp
      refine Calls.mono (g_lmul HA.out HB.out _) ?_
      rintro e w94 ⟨v94, rfl, h94, b94⟩
      go_wp2_with fail
      refine hK.out _ _ (hHeld.trans (b94.mono hHeld.size)) (fun hHeld => ?_)
      clear hK K
      try simp only [List.getElem_toArray, List.getElem_cons_succ, List.getElem_cons_zero, Act.put, List.setIfInBounds_toArray, List.set_cons_zero, List.set_cons_succ]
      refine wpAnyH_ready (rs := [35]) (by kernel_rfl) (by simp) ?_
      refine AllReadyH.cons rfl (fun K hK => ?_) AllReadyH.nil
      go_simp
      refine Calls.mono (g_lmul HA.out HC.out _) ?_
      rintro e w97 ⟨v97, rfl, h97, b97⟩
      go_wp2_with fail
      refine hK.out _ _ (hHeld.trans (b97.mono hHeld.size)) (fun hHeld => ?_)
      clear hK K
      try simp only [List.getElem_toArray, List.getElem_cons_succ, List.getElem_cons_zero, Act.put, List.setIfInBounds_toArray, List.set_cons_zero, List.set_cons_succ]
      refine wpAnyH_ready (rs := [36]) (by kernel_rfl) (by simp) ?_
      refine AllReadyH.cons rfl (fun K hK => ?_) AllReadyH.nil
      go_simp
      refine Calls.mono (g_ladd h94 h97 _) ?_
      rintro e w98 ⟨v98, rfl, h98, b98⟩
      go_wp2_with fail
      refine hK.out _ _ (hHeld.trans (b98.mono hHeld.size)) (fun hHeld => ?_)
      clear hK K
      try simp only [List.getElem_toArray, List.getElem_cons_succ, List.getElem_cons_zero, Act.put, List.setIfInBounds_toArray, List.set_cons_zero, List.set_cons_succ]
      refine wpAnyH_take (i := 37) (v := .bool true) rfl (by kernel_rfl) (by kernel_rfl) (by kernel_rfl) (fun _ _ _ h => h) (Or.inl ⟨by rfl, fun w9 hSw => ?_⟩) hHeld ?_
      · have q := eqW' (b := true) h91 h98 (beq_t (law_dist _ _ _ _)) w9
        obtain ⟨p0, p1, p2, p3, rfl, _, _⟩ := h91
        obtain ⟨q0, q1, q2, q3, rfl, _, _⟩ := h98
        unfold W4 at q ⊢
        go_simp
      simp only [List.getElem_toArray, List.getElem_cons_succ, List.getElem_cons_zero, Act.put, List.setIfInBounds_toArray, List.set_cons_zero, List.set_cons_succ]
      refine wpAnyH_take (i := 38) (v := .bool true) rfl (by kernel_rfl) (by kernel_rfl) (by kernel_rfl) (fun _ _ _ h => h) (Or.inl ⟨by rfl, fun w9 hSw => ?_⟩) hHeld ?_
      · go_simp
      simp only [List.getElem_toArray, List.getElem_cons_succ, List.getElem_cons_zero, Act.put, List.setIfInBounds_toArray, List.set_cons_zero, List.set_cons_succ]
      refine wpAnyH_take (i := 39) (v := .bool true) rfl (by kernel_rfl) (by kernel_rfl) (by kernel_rfl) (fun _ _ _ h => h) (Or.inl ⟨by rfl, fun w9 hSw => ?_⟩) hHeld ?_
      · go_simp
      simp only [List.getElem_toArray, List.getElem_cons_succ, List.getElem_cons_zero, Act.put, List.setIfInBounds_toArray, List.set_cons_zero, List.set_cons_succ]
      refine wpAnyH_ready (rs := [40]) (by kernel_rfl) (by simp) ?_
      refine AllReadyH.cons rfl (fun K hK => ?_) AllReadyH.nil
      go_simp
      refine Calls.mono (alive_any _) ?_
      rintro e w102 ⟨rfl, b102⟩
      go_wp2_with fail
      refine hK.out _ _ (hHeld.trans (b102.mono hHeld.size)) (fun hHeld => ?_)
      clear hK K
      try simp only [List.getElem_toArray, List.getElem_cons_succ, List.getElem_cons_zero, Act.put, List.setIfInBounds_toArray, List.set_cons_zero, List.set_cons_succ]
      refine wpAnyH_take (i := 41) (v := .bool true) rfl (by kernel_rfl) (by kernel_rfl) (by kernel_rfl) (fun _ _ _ h => h) (Or.inl ⟨by rfl, fun w9 hSw => ?_⟩) hHeld ?_
      · go_simp
      simp only [List.getElem_toArray, List.getElem_cons_succ, List.getElem_cons_zero, Act.put, List.setIfInBounds_toArray, List.set_cons_zero, List.set_cons_succ]
      refine wpAnyH_take (i := 42) (v := .bool true) rfl (by kernel_rfl) (by kernel_rfl) (by kernel_rfl) (fun _ _ _ h => h) (Or.inl ⟨by rfl, fun w9 hSw => ?_⟩) hHeld ?_
      · go_simp
      simp only [List.getElem_toArray, List.getElem_cons_succ, List.getElem_cons_zero, Act.put, List.setIfInBounds_toArray, List.set_cons_zero, List.set_cons_succ]
      refine wpAnyH_done (by kernel_rfl) ?_ _
      have hB := V5.out.2.2.2.trans (hHeld.mono V5.out.2.2.2.size)
      clear hHeld V5
      go_wp2
      go_ret
      exact ⟨rfl, hB⟩
  · have q := eqW' (b := false) h16 isw0 (beq_f (fun h => hzero ((add0 a).symm.trans h))) w16
    obtain ⟨s0, s1, s2, s3, rfl, ls, ns⟩ := h16
    clear ls ns
    unfold W4 at q ⊢
    go_wp2_with fail
    clear q
    try simp only [Act.put]
    go_cut [9] (fun s9 wx => ∃ (z : Nat) (v : Value), s9 = .pointer (some ⟨z, 0, none⟩) ∧ IsW v (a * (a ^ E2 % PP) % PP) ∧ VarW wx z v ∧ Below w16.heap.size w16 wx)
    case first =>
      refine wp_region_held_drew (S := fun w' => Below w16.heap.size w16 w') (by kernel_rfl) (Below.drew (Below.refl _ _)) (fun hHeld => ?_)
      generalize w16.drew = wd at hHeld ⊢
      refine wpAnyH_take (i := 0) (v := W4 a0 a1 a2 a3) rfl (by kernel_rfl) (by kernel_rfl) (by kernel_rfl) (fun _ _ _ h => h) (Or.inl ⟨by rfl, fun w9 hSw => ?_⟩) hHeld ?_
      · exact run_load_exec 24 _ rfl _ rfl (V1.out.1.kept hSw).load
      simp only [List.getElem_toArray, List.getElem_cons_succ, List.getElem_cons_zero, Act.put, List.setIfInBounds_toArray, List.set_cons_zero, List.set_cons_succ]
      refine wpAnyH_take (i := 1) (v := W4 a0 a1 a2 a3) rfl (by kernel_rfl) (by kernel_rfl) (by kernel_rfl) (fun _ _ _ h => h) (Or.inl ⟨by rfl, fun w9 hSw => ?_⟩) hHeld ?_
      · exact run_load_exec 24 _ rfl _ rfl (V1.out.1.kept hSw).load
      simp only [List.getElem_toArray, List.getElem_cons_succ, List.getElem_cons_zero, Act.put, List.setIfInBounds_toArray, List.set_cons_zero, List.set_cons_succ]
      refine wpAnyH_ready (rs := [2, 4]) (by kernel_rfl) (by simp) ?_
      refine AllReadyH.cons rfl (fun K hK => ?_) (AllReadyH.cons rfl (fun K hK => ?_) AllReadyH.nil)
      · go_simp
        refine Calls.mono (g_inv HA.out _) ?_
        rintro e w21 ⟨v21, rfl, h21, b21⟩
        go_wp2_with fail
        refine hK.out _ _ (hHeld.trans (b21.mono hHeld.size)) (fun hHeld => ?_)
        clear hK K
        try simp only [List.getElem_toArray, List.getElem_cons_succ, List.getElem_cons_zero, Act.put, List.setIfInBounds_toArray, List.set_cons_zero, List.set_cons_succ]
        refine wpAnyH_ready (rs := [3, 4]) (by kernel_rfl) (by simp) ?_
        refine AllReadyH.cons rfl (fun K hK => ?_) (AllReadyH.cons rfl (fun K hK => ?_) AllReadyH.nil)
        · go_simp
          refine Calls.mono (g_fmul HA.out h21 _) ?_
          rintro e w22 ⟨v22, rfl, h22, b22⟩
          go_wp2_with fail
          refine hK.out _ _ (hHeld.trans (b22.mono hHeld.size)) (fun hHeld => ?_)
          clear hK K
          try simp only [List.getElem_toArray, List.getElem_cons_succ, List.getElem_cons_zero, Act.put, List.setIfInBounds_toArray, List.set_cons_zero, List.set_cons_succ]
          refine wpAnyH_ready (rs := [4]) (by kernel_rfl) (by simp) ?_
          refine AllReadyH.cons rfl (fun K hK => ?_) AllReadyH.nil
          go_simp
          have hz9 := VarW.new w22
          have hl9 : w16.heap.size ≤ w22.heap.size := hHeld.size
          refine hK.out _ _ (hHeld.alloc hHeld.size _) (fun hHeld => ?_)
          clear hK K
          try simp only [List.getElem_toArray, List.getElem_cons_succ, List.getElem_cons_zero, Act.put, List.setIfInBounds_toArray, List.set_cons_zero, List.set_cons_succ]
          generalize w22.heap.size = z9 at hz9 hl9 ⊢
          generalize w22.alloc (.cells (C4 0 0 0 0) 24) = wa9 at hz9 hHeld ⊢
          refine wpAnyH_ready (rs := [5]) (by kernel_rfl) (by simp) ?_
          refine AllReadyH.cons rfl (fun K hK => ?_) AllReadyH.nil
          refine step_store_varW (u := v22) (by rfl) _ _ rfl z9 rfl rfl h22 hz9 ?_
          refine hK.out _ _ (below_setRow hHeld hl9 _) (fun hHeld => ?_)
          clear hK K
          try simp only [List.getElem_toArray, List.getElem_cons_succ, List.getElem_cons_zero, Act.put, List.setIfInBounds_toArray, List.set_cons_zero, List.set_cons_succ]
          replace hz9 := hz9.put h22
          generalize wa9.setRow z9 (cw v22) = wsz9 at hz9 hHeld ⊢
          refine wpAnyH_done (by kernel_rfl) ?_ _
          go_wp2_with fail
          go_meet
          case rel => exact ⟨_, _, rfl, h22, hz9, hHeld⟩
        · go_simp
          have hz9 := VarW.new w21
          have hl9 : w16.heap.size ≤ w21.heap.size := hHeld.size
          refine hK.out _ _ (hHeld.alloc hHeld.size _) (fun hHeld => ?_)
          clear hK K
          try simp only [List.getElem_toArray, List.getElem_cons_succ, List.getElem_cons_zero, Act.put, List.setIfInBounds_toArray, List.set_cons_zero, List.set_cons_succ]
          generalize w21.heap.size = z9 at hz9 hl9 ⊢
          generalize w21.alloc (.cells (C4 0 0 0 0) 24) = wa9 at hz9 hHeld ⊢
          refine wpAnyH_ready (rs := [3]) (by kernel_rfl) (by simp) ?_
          refine AllReadyH.cons rfl (fun K hK => ?_) AllReadyH.nil
          go_simp
          refine Calls.mono (g_fmul HA.out h21 _) ?_
          rintro e w22 ⟨v22, rfl, h22, b22⟩
          replace hz9 := hz9.kept b22
          go_wp2_with fail
          refine hK.out _ _ (hHeld.trans (b22.mono hHeld.size)) (fun hHeld => ?_)
          clear hK K
          try simp only [List.getElem_toArray, List.getElem_cons_succ, List.getElem_cons_zero, Act.put, List.setIfInBounds_toArray, List.set_cons_zero, List.set_cons_succ]
          refine wpAnyH_ready (rs := [5]) (by kernel_rfl) (by simp) ?_
          refine AllReadyH.cons rfl (fun K hK => ?_) AllReadyH.nil
          refine step_store_varW (u := v22) (by rfl) _ _ rfl z9 rfl rfl h22 hz9 ?_
          refine hK.out _ _ (below_setRow hHeld hl9 _) (fun hHeld => ?_)
          clear hK K
          try simp only [List.getElem_toArray, List.getElem_cons_succ, List.getElem_cons_zero, Act.put, List.setIfInBounds_toArray, List.set_cons_zero, List.set_cons_succ]
          replace hz9 := hz9.put h22
          generalize w22.setRow z9 (cw v22) = wsz9 at hz9 hHeld ⊢
          refine wpAnyH_done (by kernel_rfl) ?_ _
          go_wp2_with fail
          go_meet
          case rel => exact ⟨_, _, rfl, h22, hz9, hHeld⟩
      · go_simp
        have hz9 := VarW.new wd
        have hl9 : w16.heap.size ≤ wd.heap.size := hHeld.size
        refine hK.out _ _ (hHeld.alloc hHeld.size _) (fun hHeld => ?_)
        clear hK K
        try simp only [List.getElem_toArray, List.getElem_cons_succ, List.getElem_cons_zero, Act.put, List.setIfInBounds_toArray, List.set_cons_zero, List.set_cons_succ]
        generalize wd.heap.size = z9 at hz9 hl9 ⊢
        generalize wd.alloc (.cells (C4 0 0 0 0) 24) = wa9 at hz9 hHeld ⊢
        refine wpAnyH_ready (rs := [2]) (by kernel_rfl) (by simp) ?_
        refine AllReadyH.cons rfl (fun K hK => ?_) AllReadyH.nil
        go_simp
        refine Calls.mono (g_inv HA.out _) ?_
        rintro e w21 ⟨v21, rfl, h21, b21⟩
        replace hz9 := hz9.kept b21
        go_wp2_with fail
        refine hK.out _ _ (hHeld.trans (b21.mono hHeld.size)) (fun hHeld => ?_)
        clear hK K
        try simp only [List.getElem_toArray, List.getElem_cons_succ, List.getElem_cons_zero, Act.put, List.setIfInBounds_toArray, List.set_cons_zero, List.set_cons_succ]
        refine wpAnyH_ready (rs := [3]) (by kernel_rfl) (by simp) ?_
        refine AllReadyH.cons rfl (fun K hK => ?_) AllReadyH.nil
        go_simp
        refine Calls.mono (g_fmul HA.out h21 _) ?_
        rintro e w22 ⟨v22, rfl, h22, b22⟩
        replace hz9 := hz9.kept b22
        go_wp2_with fail
        refine hK.out _ _ (hHeld.trans (b22.mono hHeld.size)) (fun hHeld => ?_)
        clear hK K
        try simp only [List.getElem_toArray, List.getElem_cons_succ, List.getElem_cons_zero, Act.put, List.setIfInBounds_toArray, List.set_cons_zero, List.set_cons_succ]
        refine wpAnyH_ready (rs := [5]) (by kernel_rfl) (by simp) ?_
        refine AllReadyH.cons rfl (fun K hK => ?_) AllReadyH.nil
        refine step_store_varW (u := v22) (by rfl) _ _ rfl z9 rfl rfl h22 hz9 ?_
        refine hK.out _ _ (below_setRow hHeld hl9 _) (fun hHeld => ?_)
        clear hK K
        try simp only [List.getElem_toArray, List.getElem_cons_succ, List.getElem_cons_zero, Act.put, List.setIfInBounds_toArray, List.set_cons_zero, List.set_cons_succ]
        replace hz9 := hz9.put h22
        generalize w22.setRow z9 (cw v22) = wsz9 at hz9 hHeld ⊢
        refine wpAnyH_done (by kernel_rfl) ?_ _
        go_wp2_with fail
        go_meet
        case rel => exact ⟨_, _, rfl, h22, hz9, hHeld⟩
    case rest =>
      obtain ⟨z9, v9, rfl, h9, hz9, b9⟩ := hcut
      have H9 : Hid (IsW v9 (a * (a ^ E2 % PP) % PP)) := h9
      have V2 : Hid (VarW wc w.heap.size (W4 a0 a1 a2 a3) ∧ VarW wc (w.heap.size + 1) (W4 b0 b1 b2 b3) ∧ VarW wc (w.heap.size + 2) (W4 c0 c1 c2 c3) ∧ VarW wc (w.heap.size + 3) (W4 1 0 0 0) ∧ VarW wc z9 v9 ∧ Below w.heap.size w wc) :=
        ⟨V1.out.1.kept b9, V1.out.2.1.kept b9, V1.out.2.2.1.kept b9, V1.out.2.2.2.1.kept b9, hz9, V1.out.2.2.2.2.trans (b9.mono V1.out.2.2.2.2.size)⟩
      clear V1 h9 hz9 b9
      go_wp2_with (first | (refine wpList_load_varW rfl _ rfl w.heap.size rfl V2.out.1 ?_))
      refine Calls.mono (g_fmul HA.out HA.out _) ?_
      rintro e w25 ⟨v25, rfl, h25, b25⟩
      have H10 : Hid (IsW v25 (a * a % PP)) := h25
      have hn := VarW.new w25
      have hs : Hid (w.heap.size + 3 < w25.heap.size ∧ z9 < w25.heap.size ∧ w.heap.size ≤ w25.heap.size) := by
        have := (V2.out.2.2.2.1.kept b25).lt
        have := (V2.out.2.2.2.2.1.kept b25).lt
        exact ⟨by omega, by omega, by omega⟩
      have V3 : Hid (VarW ((w25.alloc (.cells (C4 0 0 0 0) 24)).setRow w25.heap.size (cw v25)) w.heap.size (W4 a0 a1 a2 a3) ∧ VarW ((w25.alloc (.cells (C4 0 0 0 0) 24)).setRow w25.heap.size (cw v25)) (w.heap.size + 1) (W4 b0 b1 b2 b3) ∧ VarW ((w25.alloc (.cells (C4 0 0 0 0) 24)).setRow w25.heap.size (cw v25)) (w.heap.size + 2) (W4 c0 c1 c2 c3) ∧ VarW ((w25.alloc (.cells (C4 0 0 0 0) 24)).setRow w25.heap.size (cw v25)) (w.heap.size + 3) (W4 1 0 0 0) ∧ VarW ((w25.alloc (.cells (C4 0 0 0 0) 24)).setRow w25.heap.size (cw v25)) z9 v9 ∧ VarW ((w25.alloc (.cells (C4 0 0 0 0) 24)).setRow w25.heap.size (cw v25)) w25.heap.size v25 ∧ Below w.heap.size w ((w25.alloc (.cells (C4 0 0 0 0) 24)).setRow w25.heap.size (cw v25))) :=
        ⟨((V2.out.1.kept b25).old _).other (by have := hs.out; omega) _, ((V2.out.2.1.kept b25).old _).other (by have := hs.out; omega) _, ((V2.out.2.2.1.kept b25).old _).other (by have := hs.out; omega) _, ((V2.out.2.2.2.1.kept b25).old _).other (by have := hs.out; omega) _, ((V2.out.2.2.2.2.1.kept b25).old _).other (by have := hs.out; omega) _, hn.put h25, below_setRow ((V2.out.2.2.2.2.2.trans (b25.mono V2.out.2.2.2.2.2.size)).alloc hs.out.2.2 _) hs.out.2.2 _⟩
      clear V2 b25
      go_wp2_with (first | (refine wpList_store_varW rfl _ _ rfl w25.heap.size rfl rfl h25 hn ?_) | (refine wpList_load_varW rfl _ rfl w25.heap.size rfl V3.out.2.2.2.2.2.1 ?_))
      clear hn hs
      generalize w25.heap.size = z10 at V3 ⊢
      generalize (w25.alloc (.cells (C4 0 0 0 0) 24)).setRow z10 (cw v25) = W3 at V3 ⊢
      refine Calls.mono (s_sq H10.out _) ?_
      rintro e w28 ⟨v28, rfl, h28, b28⟩
      clear h25
      have hn := VarW.new w28
      have hs : Hid (w.heap.size + 3 < w28.heap.size ∧ z9 < w28.heap.size ∧ z10 < w28.heap.size ∧ w.heap.size ≤ w28.heap.size) := by
        have := (V3.out.2.2.2.1.kept b28).lt
        have := (V3.out.2.2.2.2.1.kept b28).lt
        have := (V3.out.2.2.2.2.2.1.kept b28).lt
        exact ⟨by omega, by omega, by omega, by omega⟩
      have H11 : Hid (IsW v28 (sqrtR (a * a % PP))) := h28
      have V4 : Hid (VarW ((w28.alloc (.cells (C4 0 0 0 0) 24)).setRow w28.heap.size (cw v28)) w.heap.size (W4 a0 a1 a2 a3) ∧ VarW ((w28.alloc (.cells (C4 0 0 0 0) 24)).setRow w28.heap.size (cw v28)) (w.heap.size + 1) (W4 b0 b1 b2 b3) ∧ VarW ((w28.alloc (.cells (C4 0 0 0 0) 24)).setRow w28.heap.size (cw v28)) (w.heap.size + 2) (W4 c0 c1 c2 c3) ∧ VarW ((w28.alloc (.cells (C4 0 0 0 0) 24)).setRow w28.heap.size (cw v28)) (w.heap.size + 3) (W4 1 0 0 0) ∧ VarW ((w28.alloc (.cells (C4 0 0 0 0) 24)).setRow w28.heap.size (cw v28)) z9 v9 ∧ VarW ((w28.alloc (.cells (C4 0 0 0 0) 24)).setRow w28.heap.size (cw v28)) z10 v25 ∧ VarW ((w28.alloc (.cells (C4 0 0 0 0) 24)).setRow w28.heap.size (cw v28)) w28.heap.size v28 ∧ Below w.heap.size w ((w28.alloc (.cells (C4 0 0 0 0) 24)).setRow w28.heap.size (cw v28))) :=
        ⟨((V3.out.1.kept b28).old _).other (by have := hs.out; omega) _, ((V3.out.2.1.kept b28).old _).other (by have := hs.out; omega) _, ((V3.out.2.2.1.kept b28).old _).other (by have := hs.out; omega) _, ((V3.out.2.2.2.1.kept b28).old _).other (by have := hs.out; omega) _, ((V3.out.2.2.2.2.1.kept b28).old _).other (by have := hs.out; omega) _, ((V3.out.2.2.2.2.2.1.kept b28).old _).other (by have := hs.out; omega) _, hn.put h28, below_setRow ((V3.out.2.2.2.2.2.2.trans (b28.mono V3.out.2.2.2.2.2.2.size)).alloc hs.out.2.2.2 _) hs.out.2.2.2 _⟩
      clear V3 b28
      go_wp2_with (first | (refine wpList_store_varW rfl _ _ rfl w28.heap.size rfl rfl h28 hn ?_))
      clear hn hs
      generalize w28.heap.size = z11 at V4 ⊢
      generalize (w28.alloc (.cells (C4 0 0 0 0) 24)).setRow z11 (cw v28) = W4' at V4 ⊢
      obtain ⟨r0, r1, r2, r3, rfl, lr, nr⟩ := h28
      have hand := even_limb lr nr (sqrtR_sq a).2
      clear lr nr
      refine wp_region_held_drew (S := fun w' => Below W4'.heap.size W4' w') (by kernel_rfl) (Below.drew (Below.refl _ _)) (fun hHeld => ?_)
      generalize W4'.drew = wd at hHeld ⊢
      refine wpAnyH_take (i := 0) (v := .bool false) rfl (by kernel_rfl) (by kernel_rfl) (by kernel_rfl) (fun _ _ _ h => h) (Or.inl ⟨by rfl, fun w9 hSw => ?_⟩) hHeld ?_
      · go_simp
      simp only [List.getElem_toArray, List.getElem_cons_succ, List.getElem_cons_zero, Act.put, List.setIfInBounds_toArray, List.set_cons_zero, List.set_cons_succ]
      refine wpAnyH_take (i := 1) (v := v9) rfl (by kernel_rfl) (by kernel_rfl) (by kernel_rfl) (fun _ _ _ h => h) (Or.inl ⟨by rfl, fun w9 hSw => ?_⟩) hHeld ?_
      · exact run_load_exec 24 _ rfl _ rfl (V4.out.2.2.2.2.1.kept hSw).load
      simp only [List.getElem_toArray, List.getElem_cons_succ, List.getElem_cons_zero, Act.put, List.setIfInBounds_toArray, List.set_cons_zero, List.set_cons_succ]
      refine wpAnyH_take (i := 2) (v := W4 0 0 0 0) rfl (by kernel_rfl) (by kernel_rfl) (by kernel_rfl) (fun _ _ _ h => h) (Or.inl ⟨by rfl, fun w9 hSw => ?_⟩) hHeld ?_
      · go_simp
      simp only [List.getElem_toArray, List.getElem_cons_succ, List.getElem_cons_zero, Act.put, List.setIfInBounds_toArray, List.set_cons_zero, List.set_cons_succ]
      refine wpAnyH_take (i := 3) (v := .bool false) rfl (by kernel_rfl) (by kernel_rfl) (by kernel_rfl) (fun _ _ _ h => h) (Or.inl ⟨by rfl, fun w9 hSw => ?_⟩) hHeld ?_
      · have q := eqW' (b := false) H9.out isw0 (beq_f (by rw [inv_one a hzero]; decide)) w9
        obtain ⟨p0, p1, p2, p3, rfl, _, _⟩ := H9.out
        unfold W4 at q ⊢
        go_simp
      simp only [List.getElem_toArray, List.getElem_cons_succ, List.getElem_cons_zero, Act.put, List.setIfInBounds_toArray, List.set_cons_zero, List.set_cons_succ]
      refine wpAnyH_take (i := 4) (v := .bool false) rfl (by kernel_rfl) (by kernel_rfl) (by kernel_rfl) (fun _ _ _ h => h) (Or.inl ⟨by rfl, fun w9 hSw => ?_⟩) hHeld ?_
      · go_simp
      simp only [List.getElem_toArray, List.getElem_cons_succ, List.getElem_cons_zero, Act.put, List.setIfInBounds_toArray, List.set_cons_zero, List.set_cons_succ]
      refine wpAnyH_take (i := 5) (v := .bool false) rfl (by kernel_rfl) (by kernel_rfl) (by kernel_rfl) (fun _ _ _ h => h) (Or.inl ⟨by rfl, fun w9 hSw => ?_⟩) hHeld ?_
      · go_simp
      simp only [List.getElem_toArray, List.getElem_cons_succ, List.getElem_cons_zero, Act.put, List.setIfInBounds_toArray, List.set_cons_zero, List.set_cons_succ]
      refine wpAnyH_take (i := 6) (v := .bool false) rfl (by kernel_rfl) (by kernel_rfl) (by kernel_rfl) (fun _ _ _ h => h) (Or.inl ⟨by rfl, fun w9 hSw => ?_⟩) hHeld ?_
      · go_simp
      simp only [List.getElem_toArray, List.getElem_cons_succ, List.getElem_cons_zero, Act.put, List.setIfInBounds_toArray, List.set_cons_zero, List.set_cons_succ]
      refine wpAnyH_take (i := 7) (v := .bool true) rfl (by kernel_rfl) (by kernel_rfl) (by kernel_rfl) (fun _ _ _ h => h) (Or.inl ⟨by rfl, fun w9 hSw => ?_⟩) hHeld ?_
      · go_simp
      simp only [List.getElem_toArray, List.getElem_cons_succ, List.getElem_cons_zero, Act.put, List.setIfInBounds_toArray, List.set_cons_zero, List.set_cons_succ]
      refine wpAnyH_take (i := 8) (v := .bool true) rfl (by kernel_rfl) (by kernel_rfl) (by kernel_rfl) (fun _ _ _ h => h) (Or.inl ⟨by rfl, fun w9 hSw => ?_⟩) hHeld ?_
      · go_simp
      simp only [List.getElem_toArray, List.getElem_cons_succ, List.getElem_cons_zero, Act.put, List.setIfInBounds_toArray, List.set_cons_zero, List.set_cons_succ]
      refine wpAnyH_take (i := 9) (v := v9) rfl (by kernel_rfl) (by kernel_rfl) (by kernel_rfl) (fun _ _ _ h => h) (Or.inl ⟨by rfl, fun w9 hSw => ?_⟩) hHeld ?_
      · exact run_load_exec 24 _ rfl _ rfl (V4.out.2.2.2.2.1.kept hSw).load
      simp only [List.getElem_toArray, List.getElem_cons_succ, List.getElem_cons_zero, Act.put, List.setIfInBounds_toArray, List.set_cons_zero, List.set_cons_succ]
      refine wpAnyH_take (i := 10) (v := W4 1 0 0 0) rfl (by kernel_rfl) (by kernel_rfl) (by kernel_rfl) (fun _ _ _ h => h) (Or.inl ⟨by rfl, fun w9 hSw => ?_⟩) hHeld ?_
      · exact run_load_exec 24 _ rfl _ rfl (V4.out.2.2.2.1.kept hSw).load
      simp only [List.getElem_toArray, List.getElem_cons_succ, List.getElem_cons_zero, Act.put, List.setIfInBounds_toArray, List.set_cons_zero, List.set_cons_succ]
      refine wpAnyH_take (i := 11) (v := .bool false) rfl (by kernel_rfl) (by kernel_rfl) (by kernel_rfl) (fun _ _ _ h => h) (Or.inl ⟨by rfl, fun w9 hSw => ?_⟩) hHeld ?_
      · have q := eqW' (b := true) H9.out isw1 (beq_t (inv_one a hzero)) w9
        obtain ⟨p0, p1, p2, p3, rfl, _, _⟩ := H9.out
        unfold W4 at q ⊢
        go_simp
      simp only [List.getElem_toArray, List.getElem_cons_succ, List.getElem_cons_zero, Act.put, List.setIfInBounds_toArray, List.set_cons_zero, List.set_cons_succ]
      refine wpAnyH_take (i := 12) (v := .bool false) rfl (by kernel_rfl) (by kernel_rfl) (by kernel_rfl) (fun _ _ _ h => h) (Or.inl ⟨by rfl, fun w9 hSw => ?_⟩) hHeld ?_
      · go_simp
      simp only [List.getElem_toArray, List.getElem_cons_succ, List.getElem_cons_zero, Act.put, List.setIfInBounds_toArray, List.set_cons_zero, List.set_cons_succ]
      refine wpAnyH_take (i := 13) (v := .bool false) rfl (by kernel_rfl) (by kernel_rfl) (by kernel_rfl) (fun _ _ _ h => h) (Or.inl ⟨by rfl, fun w9 hSw => ?_⟩) hHeld ?_
      · go_simp
      simp only [List.getElem_toArray, List.getElem_cons_succ, List.getElem_cons_zero, Act.put, List.setIfInBounds_toArray, List.set_cons_zero, List.set_cons_succ]
      refine wpAnyH_take (i := 14) (v := .bool false) rfl (by kernel_rfl) (by kernel_rfl) (by kernel_rfl) (fun _ _ _ h => h) (Or.inl ⟨by rfl, fun w9 hSw => ?_⟩) hHeld ?_
      · go_simp
      simp only [List.getElem_toArray, List.getElem_cons_succ, List.getElem_cons_zero, Act.put, List.setIfInBounds_toArray, List.set_cons_zero, List.set_cons_succ]
      refine wpAnyH_take (i := 15) (v := .bool true) rfl (by kernel_rfl) (by kernel_rfl) (by kernel_rfl) (fun _ _ _ h => h) (Or.inl ⟨by rfl, fun w9 hSw => ?_⟩) hHeld ?_
      · go_simp
      simp only [List.getElem_toArray, List.getElem_cons_succ, List.getElem_cons_zero, Act.put, List.setIfInBounds_toArray, List.set_cons_zero, List.set_cons_succ]
      refine wpAnyH_take (i := 16) (v := .bool false) rfl (by kernel_rfl) (by kernel_rfl) (by kernel_rfl) (fun _ _ _ h => h) (Or.inl ⟨by rfl, fun w9 hSw => ?_⟩) hHeld ?_
      · go_simp
      simp only [List.getElem_toArray, List.getElem_cons_succ, List.getElem_cons_zero, Act.put, List.setIfInBounds_toArray, List.set_cons_zero, List.set_cons_succ]
      refine wpAnyH_take (i := 17) (v := .bool false) rfl (by kernel_rfl) (by kernel_rfl) (by kernel_rfl) (fun _ _ _ h => h) (Or.inl ⟨by rfl, fun w9 hSw => ?_⟩) hHeld ?_
      · go_simp
      simp only [List.getElem_toArray, List.getElem_cons_succ, List.getElem_cons_zero, Act.put, List.setIfInBounds_toArray, List.set_cons_zero, List.set_cons_succ]
      refine wpAnyH_take (i := 18) (v := .bool false) rfl (by kernel_rfl) (by kernel_rfl) (by kernel_rfl) (fun _ _ _ h => h) (Or.inl ⟨by rfl, fun w9 hSw => ?_⟩) hHeld ?_
      · go_simp
      simp only [List.getElem_toArray, List.getElem_cons_succ, List.getElem_cons_zero, Act.put, List.setIfInBounds_toArray, List.set_cons_zero, List.set_cons_succ]
      refine wpAnyH_take (i := 19) (v := W4 r0 r1 r2 r3) rfl (by kernel_rfl) (by kernel_rfl) (by kernel_rfl) (fun _ _ _ h => h) (Or.inl ⟨by rfl, fun w9 hSw => ?_⟩) hHeld ?_
      · exact run_load_exec 24 _ rfl _ rfl (V4.out.2.2.2.2.2.2.1.kept hSw).load
      simp only [List.getElem_toArray, List.getElem_cons_succ, List.getElem_cons_zero, Act.put, List.setIfInBounds_toArray, List.set_cons_zero, List.set_cons_succ]
      refine wpAnyH_take (i := 20) (v := W4 r0 r1 r2 r3) rfl (by kernel_rfl) (by kernel_rfl) (by kernel_rfl) (fun _ _ _ h => h) (Or.inl ⟨by rfl, fun w9 hSw => ?_⟩) hHeld ?_
      · exact run_load_exec 24 _ rfl _ rfl (V4.out.2.2.2.2.2.2.1.kept hSw).load
      simp only [List.getElem_toArray, List.getElem_cons_succ, List.getElem_cons_zero, Act.put, List.setIfInBounds_toArray, List.set_cons_zero, List.set_cons_succ]
      refine wpAnyH_take (i := 22) (v := v25) rfl (by kernel_rfl) (by kernel_rfl) (by kernel_rfl) (fun _ _ _ h => h) (Or.inl ⟨by rfl, fun w9 hSw => ?_⟩) hHeld ?_
      · exact run_load_exec 24 _ rfl _ rfl (V4.out.2.2.2.2.2.1.kept hSw).load
      simp only [List.getElem_toArray, List.getElem_cons_succ, List.getElem_cons_zero, Act.put, List.setIfInBounds_toArray, List.set_cons_zero, List.set_cons_succ]
      refine wpAnyH_ready (rs := [21]) (by kernel_rfl) (by simp) ?_
      refine AllReadyH.cons rfl (fun K hK => ?_) AllReadyH.nil
      go_simp
      refine Calls.mono (g_fmul H11.out H11.out _) ?_
      rintro e w52 ⟨v52, rfl, h52, b52⟩
      go_wp2_with fail
      refine hK.out _ _ (hHeld.trans (b52.mono hHeld.size)) (fun hHeld => ?_)
      clear hK K
      try simp only [List.getElem_toArray, List.getElem_cons_succ, List.getElem_cons_zero, Act.put, List.setIfInBounds_toArray, List.set_cons_zero, List.set_cons_succ]
      refine wpAnyH_take (i := 23) (v := .bool false) rfl (by kernel_rfl) (by kernel_rfl) (by kernel_rfl) (fun _ _ _ h => h) (Or.inl ⟨by rfl, fun w9 hSw => ?_⟩) hHeld ?_
      · have q := eqW' (b := true) h52 H10.out (beq_t (sqrtR_sq a).1) w9
        obtain ⟨p0, p1, p2, p3, rfl, _, _⟩ := h52
        obtain ⟨q0, q1, q2, q3, rfl, _, _⟩ := H10.out
        unfold W4 at q ⊢
        go_simp
      simp only [List.getElem_toArray, List.getElem_cons_succ, List.getElem_cons_zero, Act.put, List.setIfInBounds_toArray, List.set_cons_zero, List.set_cons_succ]
      refine wpAnyH_take (i := 24) (v := .bool false) rfl (by kernel_rfl) (by kernel_rfl) (by kernel_rfl) (fun _ _ _ h => h) (Or.inl ⟨by rfl, fun w9 hSw => ?_⟩) hHeld ?_
      · go_simp
      simp only [List.getElem_toArray, List.getElem_cons_succ, List.getElem_cons_zero, Act.put, List.setIfInBounds_toArray, List.set_cons_zero, List.set_cons_succ]
      refine wpAnyH_take (i := 25) (v := .bool false) rfl (by kernel_rfl) (by kernel_rfl) (by kernel_rfl) (fun _ _ _ h => h) (Or.inl ⟨by rfl, fun w9 hSw => ?_⟩) hHeld ?_
      · go_simp
      simp only [List.getElem_toArray, List.getElem_cons_succ, List.getElem_cons_zero, Act.put, List.setIfInBounds_toArray, List.set_cons_zero, List.set_cons_succ]
      refine wpAnyH_take (i := 26) (v := .pointer (some ⟨z11, 0, none⟩)) rfl (by kernel_rfl) (by kernel_rfl) (by kernel_rfl) (fun _ _ _ h => h) (Or.inl ⟨by rfl, fun w9 hSw => ?_⟩) hHeld ?_
      · go_simp
      simp only [List.getElem_toArray, List.getElem_cons_succ, List.getElem_cons_zero, Act.put, List.setIfInBounds_toArray, List.set_cons_zero, List.set_cons_succ]
      refine wpAnyH_take (i := 27) (v := .int .u64 r0) rfl (by kernel_rfl) (by kernel_rfl) (by kernel_rfl) (fun _ _ _ h => h) (Or.inl ⟨by rfl, fun w9 hSw => ?_⟩) hHeld ?_
      · have c0 : w9.cell? ⟨z11, 0, none⟩ = some (.int .u64 r0) := by rw [cell_of_row w9 z11 0 _ 24 (0, 0) ((V4.out.2.2.2.2.2.2.1.kept hSw).2)]; rfl
        go_simp
      simp only [List.getElem_toArray, List.getElem_cons_succ, List.getElem_cons_zero, Act.put, List.setIfInBounds_toArray, List.set_cons_zero, List.set_cons_succ]
      refine wpAnyH_take (i := 28) (v := .int .u64 0) rfl (by kernel_rfl) (by kernel_rfl) (by kernel_rfl) (fun _ _ _ h => h) (Or.inl ⟨by rfl, fun w9 hSw => ?_⟩) hHeld ?_
      · go_simp
      simp only [List.getElem_toArray, List.getElem_cons_succ, List.getElem_cons_zero, Act.put, List.setIfInBounds_toArray, List.set_cons_zero, List.set_cons_succ]
      refine wpAnyH_take (i := 29) (v := .bool false) rfl (by kernel_rfl) (by kernel_rfl) (by kernel_rfl) (fun _ _ _ h => h) (Or.inl ⟨by rfl, fun w9 hSw => ?_⟩) hHeld ?_
      · go_simp
      simp only [List.getElem_toArray, List.getElem_cons_succ, List.getElem_cons_zero, Act.put, List.setIfInBounds_toArray, List.set_cons_zero, List.set_cons_succ]
      refine wpAnyH_take (i := 30) (v := .bool false) rfl (by kernel_rfl) (by kernel_rfl) (by kernel_rfl) (fun _ _ _ h => h) (Or.inl ⟨by rfl, fun w9 hSw => ?_⟩) hHeld ?_
      · go_simp
      simp only [List.getElem_toArray, List.getElem_cons_succ, List.getElem_cons_zero, Act.put, List.setIfInBounds_toArray, List.set_cons_zero, List.set_cons_succ]
      refine wpAnyH_done (by kernel_rfl) ?_ _
      have V5 : Hid (VarW w52 w.heap.size (W4 a0 a1 a2 a3) ∧ VarW w52 (w.heap.size + 1) (W4 b0 b1 b2 b3) ∧ VarW w52 (w.heap.size + 2) (W4 c0 c1 c2 c3) ∧ Below w.heap.size w w52) :=
        ⟨V4.out.1.kept hHeld, V4.out.2.1.kept hHeld, V4.out.2.2.1.kept hHeld, V4.out.2.2.2.2.2.2.2.trans (hHeld.mono V4.out.2.2.2.2.2.2.2.size)⟩
      clear hHeld V4 hand H9 H10 H11
      go_wp2_with fail
      refine wp_region_held_drew (S := fun w' => Below w52.heap.size w52 w') (by kernel_rfl) (Below.drew (Below.refl _ _)) (fun hHeld => ?_)
      generalize w52.drew = wd at hHeld ⊢
      refine wpAnyH_take (i := 0) (v := W4 a0 a1 a2 a3) rfl (by kernel_rfl) (by kernel_rfl) (by kernel_rfl) (fun _ _ _ h => h) (Or.inl ⟨by rfl, fun w9 hSw => ?_⟩) hHeld ?_
      · exact run_load_exec 24 _ rfl _ rfl (V5.out.1.kept hSw).load
      simp only [List.getElem_toArray, List.getElem_cons_succ, List.getElem_cons_zero, Act.put, List.setIfInBounds_toArray, List.set_cons_zero, List.set_cons_succ]
      refine wpAnyH_take (i := 1) (v := W4 b0 b1 b2 b3) rfl (by kernel_rfl) (by kernel_rfl) (by kernel_rfl) (fun _ _ _ h => h) (Or.inl ⟨by rfl, fun w9 hSw => ?_⟩) hHeld ?_
      · exact run_load_exec 24 _ rfl _ rfl (V5.out.2.1.kept hSw).load
      simp only [List.getElem_toArray, List.getElem_cons_succ, List.getElem_cons_zero, Act.put, List.setIfInBounds_toArray, List.set_cons_zero, List.set_cons_succ]
      refine wpAnyH_take (i := 2) (v := W4 c0 c1 c2 c3) rfl (by kernel_rfl) (by kernel_rfl) (by kernel_rfl) (fun _ _ _ h => h) (Or.inl ⟨by rfl, fun w9 hSw => ?_⟩) hHeld ?_
      · exact run_load_exec 24 _ rfl _ rfl (V5.out.2.2.1.kept hSw).load
      simp only [List.getElem_toArray, List.getElem_cons_succ, List.getElem_cons_zero, Act.put, List.setIfInBounds_toArray, List.set_cons_zero, List.set_cons_succ]
      refine wpAnyH_take (i := 5) (v := W4 a0 a1 a2 a3) rfl (by kernel_rfl) (by kernel_rfl) (by kernel_rfl) (fun _ _ _ h => h) (Or.inl ⟨by rfl, fun w9 hSw => ?_⟩) hHeld ?_
      · exact run_load_exec 24 _ rfl _ rfl (V5.out.1.kept hSw).load
      simp only [List.getElem_toArray, List.getElem_cons_succ, List.getElem_cons_zero, Act.put, List.setIfInBounds_toArray, List.set_cons_zero, List.set_cons_succ]
      refine wpAnyH_take (i := 6) (v := W4 b0 b1 b2 b3) rfl (by kernel_rfl) (by kernel_rfl) (by kernel_rfl) (fun _ _ _ h => h) (Or.inl ⟨by rfl, fun w9 hSw => ?_⟩) hHeld ?_
      · exact run_load_exec 24 _ rfl _ rfl (V5.out.2.1.kept hSw).load
      simp only [List.getElem_toArray, List.getElem_cons_succ, List.getElem_cons_zero, Act.put, List.setIfInBounds_toArray, List.set_cons_zero, List.set_cons_succ]
      refine wpAnyH_take (i := 8) (v := W4 a0 a1 a2 a3) rfl (by kernel_rfl) (by kernel_rfl) (by kernel_rfl) (fun _ _ _ h => h) (Or.inl ⟨by rfl, fun w9 hSw => ?_⟩) hHeld ?_
      · exact run_load_exec 24 _ rfl _ rfl (V5.out.1.kept hSw).load
      simp only [List.getElem_toArray, List.getElem_cons_succ, List.getElem_cons_zero, Act.put, List.setIfInBounds_toArray, List.set_cons_zero, List.set_cons_succ]
      refine wpAnyH_take (i := 9) (v := W4 c0 c1 c2 c3) rfl (by kernel_rfl) (by kernel_rfl) (by kernel_rfl) (fun _ _ _ h => h) (Or.inl ⟨by rfl, fun w9 hSw => ?_⟩) hHeld ?_
      · exact run_load_exec 24 _ rfl _ rfl (V5.out.2.2.1.kept hSw).load
      simp only [List.getElem_toArray, List.getElem_cons_succ, List.getElem_cons_zero, Act.put, List.setIfInBounds_toArray, List.set_cons_zero, List.set_cons_succ]
      refine wpAnyH_ready (rs := [3]) (by kernel_rfl) (by simp) ?_
      refine AllReadyH.cons rfl (fun K hK => ?_) AllReadyH.nil
      go_simp
      refine Calls.mono (g_fadd HB.out HC.out _) ?_
      rintro e w65 ⟨v65, rfl, h65, b65⟩
      go_wp2_with fail
      refine hK.out _ _ (hHeld.trans (b65.mono hHeld.size)) (fun hHeld => ?_)
      clear hK K
      try simp only [List.getElem_toArray, List.getElem_cons_succ, List.getElem_cons_zero, Act.put, List.setIfInBounds_toArray, List.set_cons_zero, List.set_cons_succ]
      refine wpAnyH_ready (rs := [4]) (by kernel_rfl) (by simp) ?_
      refine AllReadyH.cons rfl (fun K hK => ?_) AllReadyH.nil
      go_simp
      refine Calls.mono (g_fmul HA.out h65 _) ?_
      rintro e w66 ⟨v66, rfl, h66, b66⟩
      go_wp2_with fail
      refine hK.out _ _ (hHeld.trans (b66.mono hHeld.size)) (fun hHeld => ?_)
      clear hK K
      try simp only [List.getElem_toArray, List.getElem_cons_succ, List.getElem_cons_zero, Act.put, List.setIfInBounds_toArray, List.set_cons_zero, List.set_cons_succ]
      refine wpAnyH_ready (rs := [7]) (by kernel_rfl) (by simp) ?_
      refine AllReadyH.cons rfl (fun K hK => ?_) AllReadyH.nil
      go_simp
      refine Calls.mono (g_fmul HA.out HB.out _) ?_
      rintro e w69 ⟨v69, rfl, h69, b69⟩
      go_wp2_with fail
      refine hK.out _ _ (hHeld.trans (b69.mono hHeld.size)) (fun hHeld => ?_)
      clear hK K
      try simp only [List.getElem_toArray, List.getElem_cons_succ, List.getElem_cons_zero, Act.put, List.setIfInBounds_toArray, List.set_cons_zero, List.set_cons_succ]
      refine wpAnyH_ready (rs := [10]) (by kernel_rfl) (by simp) ?_
      refine AllReadyH.cons rfl (fun K hK => ?_) AllReadyH.nil
      go_simp
      refine Calls.mono (g_fmul HA.out HC.out _) ?_
      rintro e w72 ⟨v72, rfl, h72, b72⟩
      go_wp2_with fail
      refine hK.out _ _ (hHeld.trans (b72.mono hHeld.size)) (fun hHeld => ?_)
      clear hK K
      try simp only [List.getElem_toArray, List.getElem_cons_succ, List.getElem_cons_zero, Act.put, List.setIfInBounds_toArray, List.set_cons_zero, List.set_cons_succ]
      refine wpAnyH_ready (rs := [11]) (by kernel_rfl) (by simp) ?_
      refine AllReadyH.cons rfl (fun K hK => ?_) AllReadyH.nil
      go_simp
      refine Calls.mono (g_fadd h69 h72 _) ?_
      rintro e w73 ⟨v73, rfl, h73, b73⟩
      go_wp2_with fail
      refine hK.out _ _ (hHeld.trans (b73.mono hHeld.size)) (fun hHeld => ?_)
      clear hK K
      try simp only [List.getElem_toArray, List.getElem_cons_succ, List.getElem_cons_zero, Act.put, List.setIfInBounds_toArray, List.set_cons_zero, List.set_cons_succ]
      refine wpAnyH_take (i := 12) (v := .bool true) rfl (by kernel_rfl) (by kernel_rfl) (by kernel_rfl) (fun _ _ _ h => h) (Or.inl ⟨by rfl, fun w9 hSw => ?_⟩) hHeld ?_
      · have q := eqW' (b := true) h66 h73 (beq_t (law_dist _ _ _ _)) w9
        obtain ⟨p0, p1, p2, p3, rfl, _, _⟩ := h66
        obtain ⟨q0, q1, q2, q3, rfl, _, _⟩ := h73
        unfold W4 at q ⊢
        go_simp
      simp only [List.getElem_toArray, List.getElem_cons_succ, List.getElem_cons_zero, Act.put, List.setIfInBounds_toArray, List.set_cons_zero, List.set_cons_succ]
      refine wpAnyH_take (i := 13) (v := .bool true) rfl (by kernel_rfl) (by kernel_rfl) (by kernel_rfl) (fun _ _ _ h => h) (Or.inl ⟨by rfl, fun w9 hSw => ?_⟩) hHeld ?_
      · go_simp
      simp only [List.getElem_toArray, List.getElem_cons_succ, List.getElem_cons_zero, Act.put, List.setIfInBounds_toArray, List.set_cons_zero, List.set_cons_succ]
      refine wpAnyH_take (i := 14) (v := W4 a0 a1 a2 a3) rfl (by kernel_rfl) (by kernel_rfl) (by kernel_rfl) (fun _ _ _ h => h) (Or.inl ⟨by rfl, fun w9 hSw => ?_⟩) hHeld ?_
      · exact run_load_exec 24 _ rfl _ rfl (V5.out.1.kept hSw).load
      simp only [List.getElem_toArray, List.getElem_cons_succ, List.getElem_cons_zero, Act.put, List.setIfInBounds_toArray, List.set_cons_zero, List.set_cons_succ]
      refine wpAnyH_take (i := 15) (v := W4 b0 b1 b2 b3) rfl (by kernel_rfl) (by kernel_rfl) (by kernel_rfl) (fun _ _ _ h => h) (Or.inl ⟨by rfl, fun w9 hSw => ?_⟩) hHeld ?_
      · exact run_load_exec 24 _ rfl _ rfl (V5.out.2.1.kept hSw).load
      simp only [List.getElem_toArray, List.getElem_cons_succ, List.getElem_cons_zero, Act.put, List.setIfInBounds_toArray, List.set_cons_zero, List.set_cons_succ]
      refine wpAnyH_take (i := 17) (v := W4 b0 b1 b2 b3) rfl (by kernel_rfl) (by kernel_rfl) (by kernel_rfl) (fun _ _ _ h => h) (Or.inl ⟨by rfl, fun w9 hSw => ?_⟩) hHeld ?_
      · exact run_load_exec 24 _ rfl _ rfl (V5.out.2.1.kept hSw).load
      simp only [List.getElem_toArray, List.getElem_cons_succ, List.getElem_cons_zero, Act.put, List.setIfInBounds_toArray, List.set_cons_zero, List.set_cons_succ]
      refine wpAnyH_take (i := 19) (v := W4 a0 a1 a2 a3) rfl (by kernel_rfl) (by kernel_rfl) (by kernel_rfl) (fun _ _ _ h => h) (Or.inl ⟨by rfl, fun w9 hSw => ?_⟩) hHeld ?_
      · exact run_load_exec 24 _ rfl _ rfl (V5.out.1.kept hSw).load
      simp only [List.getElem_toArray, List.getElem_cons_succ, List.getElem_cons_zero, Act.put, List.setIfInBounds_toArray, List.set_cons_zero, List.set_cons_succ]
      refine wpAnyH_take (i := 20) (v := W4 0 0 0 0) rfl (by kernel_rfl) (by kernel_rfl) (by kernel_rfl) (fun _ _ _ h => h) (Or.inl ⟨by rfl, fun w9 hSw => ?_⟩) hHeld ?_
      · go_simp
      simp only [List.getElem_toArray, List.getElem_cons_succ, List.getElem_cons_zero, Act.put, List.setIfInBounds_toArray, List.set_cons_zero, List.set_cons_succ]
      refine wpAnyH_ready (rs := [16]) (by kernel_rfl) (by simp) ?_
      refine AllReadyH.cons rfl (fun K hK => ?_) AllReadyH.nil
      go_simp
      refine Calls.mono (g_fadd HA.out HB.out _) ?_
      rintro e w78 ⟨v78, rfl, h78, b78⟩
      go_wp2_with fail
      refine hK.out _ _ (hHeld.trans (b78.mono hHeld.size)) (fun hHeld => ?_)
      clear hK K
      try simp only [List.getElem_toArray, List.getElem_cons_succ, List.getElem_cons_zero, Act.put, List.setIfInBounds_toArray, List.set_cons_zero, List.set_cons_succ]
      refine wpAnyH_ready (rs := [18]) (by kernel_rfl) (by simp) ?_
      refine AllReadyH.cons rfl (fun K hK => ?_) AllReadyH.nil
      go_simp
      refine Calls.mono (g_fsub h78 HB.out _) ?_
      rintro e w80 ⟨v80, rfl, h80, b80⟩
      go_wp2_with fail
      refine hK.out _ _ (hHeld.trans (b80.mono hHeld.size)) (fun hHeld => ?_)
      clear hK K
      try simp only [List.getElem_toArray, List.getElem_cons_succ, List.getElem_cons_zero, Act.put, List.setIfInBounds_toArray, List.set_cons_zero, List.set_cons_succ]
      refine wpAnyH_ready (rs := [21]) (by kernel_rfl) (by simp) ?_
      refine AllReadyH.cons rfl (fun K hK => ?_) AllReadyH.nil
      go_simp
      refine Calls.mono (g_fadd HA.out isw0 _) ?_
      rintro e w83 ⟨v83, rfl, h83, b83⟩
      go_wp2_with fail
      refine hK.out _ _ (hHeld.trans (b83.mono hHeld.size)) (fun hHeld => ?_)
      clear hK K
      try simp only [List.getElem_toArray, List.getElem_cons_succ, List.getElem_cons_zero, Act.put, List.setIfInBounds_toArray, List.set_cons_zero, List.set_cons_succ]
      refine wpAnyH_take (i := 22) (v := .bool true) rfl (by kernel_rfl) (by kernel_rfl) (by kernel_rfl) (fun _ _ _ h => h) (Or.inl ⟨by rfl, fun w9 hSw => ?_⟩) hHeld ?_
      · have q := eqW' (b := true) h80 h83 (beq_t (law_back _ _ _)) w9
        obtain ⟨p0, p1, p2, p3, rfl, _, _⟩ := h80
        obtain ⟨q0, q1, q2, q3, rfl, _, _⟩ := h83
        unfold W4 at q ⊢
        go_simp
      simp only [List.getElem_toArray, List.getElem_cons_succ, List.getElem_cons_zero, Act.put, List.setIfInBounds_toArray, List.set_cons_zero, List.set_cons_succ]
      refine wpAnyH_take (i := 23) (v := .bool true) rfl (by kernel_rfl) (by kernel_rfl) (by kernel_rfl) (fun _ _ _ h => h) (Or.inl ⟨by rfl, fun w9 hSw => ?_⟩) hHeld ?_
      · go_simp
      simp only [List.getElem_toArray, List.getElem_cons_succ, List.getElem_cons_zero, Act.put, List.setIfInBounds_toArray, List.set_cons_zero, List.set_cons_succ]
      refine wpAnyH_take (i := 24) (v := .bool true) rfl (by kernel_rfl) (by kernel_rfl) (by kernel_rfl) (fun _ _ _ h => h) (Or.inl ⟨by rfl, fun w9 hSw => ?_⟩) hHeld ?_
      · go_simp
      simp only [List.getElem_toArray, List.getElem_cons_succ, List.getElem_cons_zero, Act.put, List.setIfInBounds_toArray, List.set_cons_zero, List.set_cons_succ]
      refine wpAnyH_take (i := 25) (v := W4 a0 a1 a2 a3) rfl (by kernel_rfl) (by kernel_rfl) (by kernel_rfl) (fun _ _ _ h => h) (Or.inl ⟨by rfl, fun w9 hSw => ?_⟩) hHeld ?_
      · exact run_load_exec 24 _ rfl _ rfl (V5.out.1.kept hSw).load
      simp only [List.getElem_toArray, List.getElem_cons_succ, List.getElem_cons_zero, Act.put, List.setIfInBounds_toArray, List.set_cons_zero, List.set_cons_succ]
      refine wpAnyH_take (i := 26) (v := W4 b0 b1 b2 b3) rfl (by kernel_rfl) (by kernel_rfl) (by kernel_rfl) (fun _ _ _ h => h) (Or.inl ⟨by rfl, fun w9 hSw => ?_⟩) hHeld ?_
      · exact run_load_exec 24 _ rfl _ rfl (V5.out.2.1.kept hSw).load
      simp only [List.getElem_toArray, List.getElem_cons_succ, List.getElem_cons_zero, Act.put, List.setIfInBounds_toArray, List.set_cons_zero, List.set_cons_succ]
      refine wpAnyH_take (i := 27) (v := W4 c0 c1 c2 c3) rfl (by kernel_rfl) (by kernel_rfl) (by kernel_rfl) (fun _ _ _ h => h) (Or.inl ⟨by rfl, fun w9 hSw => ?_⟩) hHeld ?_
      · exact run_load_exec 24 _ rfl _ rfl (V5.out.2.2.1.kept hSw).load
      simp only [List.getElem_toArray, List.getElem_cons_succ, List.getElem_cons_zero, Act.put, List.setIfInBounds_toArray, List.set_cons_zero, List.set_cons_succ]
      refine wpAnyH_take (i := 30) (v := W4 a0 a1 a2 a3) rfl (by kernel_rfl) (by kernel_rfl) (by kernel_rfl) (fun _ _ _ h => h) (Or.inl ⟨by rfl, fun w9 hSw => ?_⟩) hHeld ?_
      · exact run_load_exec 24 _ rfl _ rfl (V5.out.1.kept hSw).load
      simp only [List.getElem_toArray, List.getElem_cons_succ, List.getElem_cons_zero, Act.put, List.setIfInBounds_toArray, List.set_cons_zero, List.set_cons_succ]
      refine wpAnyH_take (i := 31) (v := W4 b0 b1 b2 b3) rfl (by kernel_rfl) (by kernel_rfl) (by kernel_rfl) (fun _ _ _ h => h) (Or.inl ⟨by rfl, fun w9 hSw => ?_⟩) hHeld ?_
      · exact run_load_exec 24 _ rfl _ rfl (V5.out.2.1.kept hSw).load
      simp only [List.getElem_toArray, List.getElem_cons_succ, List.getElem_cons_zero, Act.put, List.setIfInBounds_toArray, List.set_cons_zero, List.set_cons_succ]
      refine wpAnyH_take (i := 33) (v := W4 a0 a1 a2 a3) rfl (by kernel_rfl) (by kernel_rfl) (by kernel_rfl) (fun _ _ _ h => h) (Or.inl ⟨by rfl, fun w9 hSw => ?_⟩) hHeld ?_
      · exact run_load_exec 24 _ rfl _ rfl (V5.out.1.kept hSw).load
      simp only [List.getElem_toArray, List.getElem_cons_succ, List.getElem_cons_zero, Act.put, List.setIfInBounds_toArray, List.set_cons_zero, List.set_cons_succ]
      refine wpAnyH_take (i := 34) (v := W4 c0 c1 c2 c3) rfl (by kernel_rfl) (by kernel_rfl) (by kernel_rfl) (fun _ _ _ h => h) (Or.inl ⟨by rfl, fun w9 hSw => ?_⟩) hHeld ?_
      · exact run_load_exec 24 _ rfl _ rfl (V5.out.2.2.1.kept hSw).load
      simp only [List.getElem_toArray, List.getElem_cons_succ, List.getElem_cons_zero, Act.put, List.setIfInBounds_toArray, List.set_cons_zero, List.set_cons_succ]
      refine wpAnyH_ready (rs := [28]) (by kernel_rfl) (by simp) ?_
      refine AllReadyH.cons rfl (fun K hK => ?_) AllReadyH.nil
      go_simp
      refine Calls.mono (g_ladd HB.out HC.out _) ?_
      rintro e w90 ⟨v90, rfl, h90, b90⟩
      go_wp2_with fail
      refine hK.out _ _ (hHeld.trans (b90.mono hHeld.size)) (fun hHeld => ?_)
      clear hK K
      try simp only [List.getElem_toArray, List.getElem_cons_succ, List.getElem_cons_zero, Act.put, List.setIfInBounds_toArray, List.set_cons_zero, List.set_cons_succ]
      refine wpAnyH_ready (rs := [29]) (by kernel_rfl) (by simp) ?_
      refine AllReadyH.cons rfl (fun K hK => ?_) AllReadyH.nil
      go_simp
      refine Calls.mono (g_lmul HA.out h90 _) ?_
      rintro e w91 ⟨v91, rfl, h91, b91⟩
      go_wp2_with fail
      refine hK.out _ _ (hHeld.trans (b91.mono hHeld.size)) (fun hHeld => ?_)
      clear hK K
      try simp only [List.getElem_toArray, List.getElem_cons_succ, List.getElem_cons_zero, Act.put, List.setIfInBounds_toArray, List.set_cons_zero, List.set_cons_succ]
      refine wpAnyH_ready (rs := [32]) (by kernel_rfl) (by simp) ?_
      refine AllReadyH.cons rfl (fun K hK => ?_) AllReadyH.nil
      go_simp
      refine Calls.mono (g_lmul HA.out HB.out _) ?_
      rintro e w94 ⟨v94, rfl, h94, b94⟩
      go_wp2_with fail
      refine hK.out _ _ (hHeld.trans (b94.mono hHeld.size)) (fun hHeld => ?_)
      clear hK K
      try simp only [List.getElem_toArray, List.getElem_cons_succ, List.getElem_cons_zero, Act.put, List.setIfInBounds_toArray, List.set_cons_zero, List.set_cons_succ]
      refine wpAnyH_ready (rs := [35]) (by kernel_rfl) (by simp) ?_
      refine AllReadyH.cons rfl (fun K hK => ?_) AllReadyH.nil
      go_simp
      refine Calls.mono (g_lmul HA.out HC.out _) ?_
      rintro e w97 ⟨v97, rfl, h97, b97⟩
      go_wp2_with fail
      refine hK.out _ _ (hHeld.trans (b97.mono hHeld.size)) (fun hHeld => ?_)
      clear hK K
      try simp only [List.getElem_toArray, List.getElem_cons_succ, List.getElem_cons_zero, Act.put, List.setIfInBounds_toArray, List.set_cons_zero, List.set_cons_succ]
      refine wpAnyH_ready (rs := [36]) (by kernel_rfl) (by simp) ?_
      refine AllReadyH.cons rfl (fun K hK => ?_) AllReadyH.nil
      go_simp
      refine Calls.mono (g_ladd h94 h97 _) ?_
      rintro e w98 ⟨v98, rfl, h98, b98⟩
      go_wp2_with fail
      refine hK.out _ _ (hHeld.trans (b98.mono hHeld.size)) (fun hHeld => ?_)
      clear hK K
      try simp only [List.getElem_toArray, List.getElem_cons_succ, List.getElem_cons_zero, Act.put, List.setIfInBounds_toArray, List.set_cons_zero, List.set_cons_succ]
      refine wpAnyH_take (i := 37) (v := .bool true) rfl (by kernel_rfl) (by kernel_rfl) (by kernel_rfl) (fun _ _ _ h => h) (Or.inl ⟨by rfl, fun w9 hSw => ?_⟩) hHeld ?_
      · have q := eqW' (b := true) h91 h98 (beq_t (law_dist _ _ _ _)) w9
        obtain ⟨p0, p1, p2, p3, rfl, _, _⟩ := h91
        obtain ⟨q0, q1, q2, q3, rfl, _, _⟩ := h98
        unfold W4 at q ⊢
        go_simp
      simp only [List.getElem_toArray, List.getElem_cons_succ, List.getElem_cons_zero, Act.put, List.setIfInBounds_toArray, List.set_cons_zero, List.set_cons_succ]
      refine wpAnyH_take (i := 38) (v := .bool true) rfl (by kernel_rfl) (by kernel_rfl) (by kernel_rfl) (fun _ _ _ h => h) (Or.inl ⟨by rfl, fun w9 hSw => ?_⟩) hHeld ?_
      · go_simp
      simp only [List.getElem_toArray, List.getElem_cons_succ, List.getElem_cons_zero, Act.put, List.setIfInBounds_toArray, List.set_cons_zero, List.set_cons_succ]
      refine wpAnyH_take (i := 39) (v := .bool true) rfl (by kernel_rfl) (by kernel_rfl) (by kernel_rfl) (fun _ _ _ h => h) (Or.inl ⟨by rfl, fun w9 hSw => ?_⟩) hHeld ?_
      · go_simp
      simp only [List.getElem_toArray, List.getElem_cons_succ, List.getElem_cons_zero, Act.put, List.setIfInBounds_toArray, List.set_cons_zero, List.set_cons_succ]
      refine wpAnyH_ready (rs := [40]) (by kernel_rfl) (by simp) ?_
      refine AllReadyH.cons rfl (fun K hK => ?_) AllReadyH.nil
      go_simp
      refine Calls.mono (alive_any _) ?_
      rintro e w102 ⟨rfl, b102⟩
      go_wp2_with fail
      refine hK.out _ _ (hHeld.trans (b102.mono hHeld.size)) (fun hHeld => ?_)
      clear hK K
      try simp only [List.getElem_toArray, List.getElem_cons_succ, List.getElem_cons_zero, Act.put, List.setIfInBounds_toArray, List.set_cons_zero, List.set_cons_succ]
      refine wpAnyH_take (i := 41) (v := .bool true) rfl (by kernel_rfl) (by kernel_rfl) (by kernel_rfl) (fun _ _ _ h => h) (Or.inl ⟨by rfl, fun w9 hSw => ?_⟩) hHeld ?_
      · go_simp
      simp only [List.getElem_toArray, List.getElem_cons_succ, List.getElem_cons_zero, Act.put, List.setIfInBounds_toArray, List.set_cons_zero, List.set_cons_succ]
      refine wpAnyH_take (i := 42) (v := .bool true) rfl (by kernel_rfl) (by kernel_rfl) (by kernel_rfl) (fun _ _ _ h => h) (Or.inl ⟨by rfl, fun w9 hSw => ?_⟩) hHeld ?_
      · go_simp
      simp only [List.getElem_toArray, List.getElem_cons_succ, List.getElem_cons_zero, Act.put, List.setIfInBounds_toArray, List.set_cons_zero, List.set_cons_succ]
      refine wpAnyH_done (by kernel_rfl) ?_ _
      have hB := V5.out.2.2.2.trans (hHeld.mono V5.out.2.2.2.size)
      clear hHeld V5
      go_wp2
      go_ret
      exact ⟨rfl, hB⟩
end Go.Proofs.Ytmflilgppllebaa
