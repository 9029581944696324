/- FieldBack: the walk. -/
import Derived.Test.YtmflilgppllebaaFH
import Derived.Test.YtmflilgppllebaaRB
namespace Go.Proofs.Ytmflilgppllebaa
open Go.RowKit
set_option linter.unusedSimpArgs false
set_option linter.unusedVariables false

theorem beq_t' {x y : Int} (h : x = y) : (x == y) = true := by rw [h]; exact beq_self_eq_true _
theorem rd_dL {x : Int} (h : 0 ≤ x ∧ x < PP) : rdE PP (dL x) = 0 ∧ rdV PP (dL x) = x := by
  have hv := valB_dL x h.1 (Int.lt_trans h.2 PP_T)
  unfold rdE rdV
  rw [dL_len, if_pos rfl, if_pos rfl, hv, if_neg (by omega), if_neg (by omega)]
  exact ⟨rfl, rfl⟩
theorem read_back {w : World} {v : Value} {x : Int} (h : 0 ≤ x ∧ x < PP) (hd : IsD w v (dL x)) :
    Calls Try.prog 22 #[v] w fun e w' => ∃ u, e = .returned (.tuple #[u, .int .i64 0]) ∧ IsW u x ∧ Below w.heap.size w w' := by
  have := read_any w v (dL x) hd (dL_byt x) (by rw [dL_len]; decide)
  rw [(rd_dL h).1, (rd_dL h).2] at this
  exact this
theorem rd_cases (d : List Int) : (rdE PP d ≠ 0 ∧ rdV PP d = 0) ∨ (rdE PP d = 0 ∧ rdV PP d = valB d ∧ d.length = 32 ∧ valB d < PP) := by
  unfold rdE rdV
  by_cases h : d.length = 32
  · rw [if_pos h, if_pos h]
    by_cases h2 : PP ≤ valB d
    · rw [if_pos h2, if_pos h2]; exact Or.inl ⟨by decide, rfl⟩
    · rw [if_neg h2, if_neg h2]; exact Or.inr ⟨rfl, rfl, h, by omega⟩
  · rw [if_neg h, if_neg h]; exact Or.inl ⟨by decide, rfl⟩
theorem cells4 {w : World} {z : Nat} {s0 s1 s2 s3 : Int} (h : VarW w z (W4 s0 s1 s2 s3)) : w.cell? ⟨z, 0, none⟩ = some (.int .u64 s0) ∧ w.cell? ⟨z, 1, none⟩ = some (.int .u64 s1) ∧ w.cell? ⟨z, 2, none⟩ = some (.int .u64 s2) ∧ w.cell? ⟨z, 3, none⟩ = some (.int .u64 s3) := by
  refine ⟨?_, ?_, ?_, ?_⟩
  · rw [cell_of_row w z 0 _ 24 (0, 0) h.2]; rfl
  · rw [cell_of_row w z 1 _ 24 (0, 0) h.2]; rfl
  · rw [cell_of_row w z 2 _ 24 (0, 0) h.2]; rfl
  · rw [cell_of_row w z 3 _ 24 (0, 0) h.2]; rfl
set_option maxRecDepth 20000 in
set_option maxHeartbeats 4000000 in
theorem back_any (a0 a1 a2 a3 : Int) (la : L4 a0 a1 a2 a3) (v : Value) (d : List Int) (w : World) (hd : IsD w v d) (B : Byt d) (hm : d.length ≤ 9223372036854775807) :
    Calls Try.prog 8 #[W4 a0 a1 a2 a3, v] w fun e w' => e = .returned (.bool true) ∧ Below w.heap.size w w' := by
  have HA : Hid (IsW (W4 a0 a1 a2 a3) (num a0 a1 a2 a3)) := IsW.mk la
  have HD : Hid (IsD w v d) := hd
  have HB : Hid (Byt d) := B
  have V0 : Hid (VarW (w.alloc (.cells (C4 a0 a1 a2 a3) 24)) w.heap.size (W4 a0 a1 a2 a3) ∧ Below w.heap.size w (w.alloc (.cells (C4 a0 a1 a2 a3) 24))) := ⟨VarW.new1 la w, by go_grown⟩
  clear la hd B
  generalize num a0 a1 a2 a3 = a at HA
  go_enter Try.func8, Try.ntmps8
  unfold W4
  go_wp2_with fail
  generalize w.alloc (.cells (C4 a0 a1 a2 a3) 24) = W0 at V0 ⊢
  refine Calls.mono (fbytes_any HA.out _) ?_
  rintro e w11 ⟨bb, rfl, hbl, hrow, b11⟩
  have V1 : Hid (VarW w11 w.heap.size (W4 a0 a1 a2 a3) ∧ Below w.heap.size w w11) := ⟨V0.out.1.kept b11, V0.out.2.trans (b11.mono V0.out.2.size)⟩
  have HR : Hid (IsD w11 (.slice (some ⟨bb, 0, none⟩) 32 32) (dL (a % PP))) := isD_row hrow
  clear V0 b11 hrow hbl
  go_wp2_with fail
  refine Calls.mono (read_back (mod_PP a) HR.out) ?_
  rintro e w12 ⟨v12, rfl, h12, b12⟩
  have H12 : Hid (IsW v12 (a % PP)) := h12
  have hn := VarW.new w12
  have hs : Hid (w.heap.size < w12.heap.size) := (V1.out.1.kept b12).lt
  have V2 : Hid (VarW ((w12.alloc (.cells (C4 0 0 0 0) 24)).setRow w12.heap.size (cw v12)) w.heap.size (W4 a0 a1 a2 a3) ∧ VarW ((w12.alloc (.cells (C4 0 0 0 0) 24)).setRow w12.heap.size (cw v12)) w12.heap.size v12 ∧ Below w.heap.size w ((w12.alloc (.cells (C4 0 0 0 0) 24)).setRow w12.heap.size (cw v12))) :=
    ⟨((V1.out.1.kept b12).old _).other (by have := hs.out; omega) _, hn.put h12, below_setRow ((V1.out.2.trans (b12.mono V1.out.2.size)).alloc (Nat.le_of_lt hs.out) _) (Nat.le_of_lt hs.out) _⟩
  clear V1 b12 HR
  go_wp2_with (first | (refine wpList_store_varW rfl _ _ rfl w12.heap.size rfl rfl h12 hn ?_))
  clear hn h12 hs
  generalize (w12.alloc (.cells (C4 0 0 0 0) 24)).setRow w12.heap.size (cw v12) = W2 at V2 ⊢
  generalize w12.heap.size = z5 at V2 ⊢
  refine wp_region_held_drew (S := fun w' => Below W2.heap.size W2 w') (by kernel_rfl) (Below.drew (Below.refl _ _)) (fun hHeld => ?_)
  generalize W2.drew = wd at hHeld ⊢
  refine wpAnyH_take (i := 0) (v := .int .i64 0) rfl (by kernel_rfl) (by kernel_rfl) (by kernel_rfl) (fun _ _ _ h => h) (Or.inl ⟨by rfl, fun w9 hSw => ?_⟩) hHeld ?_
  · go_simp
  simp only [List.getElem_toArray, List.getElem_cons_succ, List.getElem_cons_zero, Act.put, List.setIfInBounds_toArray, List.set_cons_zero, List.set_cons_succ]
  refine wpAnyH_take (i := 1) (v := .bool false) rfl (by kernel_rfl) (by kernel_rfl) (by kernel_rfl) (fun _ _ _ h => h) (Or.inl ⟨by rfl, fun w9 hSw => ?_⟩) hHeld ?_
  · go_simp
  simp only [List.getElem_toArray, List.getElem_cons_succ, List.getElem_cons_zero, Act.put, List.setIfInBounds_toArray, List.set_cons_zero, List.set_cons_succ]
  refine wpAnyH_take (i := 2) (v := .bool false) rfl (by kernel_rfl) (by kernel_rfl) (by kernel_rfl) (fun _ _ _ h => h) (Or.inl ⟨by rfl, fun w9 hSw => ?_⟩) hHeld ?_
  · go_simp
  simp only [List.getElem_toArray, List.getElem_cons_succ, List.getElem_cons_zero, Act.put, List.setIfInBounds_toArray, List.set_cons_zero, List.set_cons_succ]
  refine wpAnyH_take (i := 3) (v := v12) rfl (by kernel_rfl) (by kernel_rfl) (by kernel_rfl) (fun _ _ _ h => h) (Or.inl ⟨by rfl, fun w9 hSw => ?_⟩) hHeld ?_
  · exact run_load_exec 24 _ rfl _ rfl (V2.out.2.1.kept hSw).load
  simp only [List.getElem_toArray, List.getElem_cons_succ, List.getElem_cons_zero, Act.put, List.setIfInBounds_toArray, List.set_cons_zero, List.set_cons_succ]
  refine wpAnyH_take (i := 4) (v := W4 a0 a1 a2 a3) rfl (by kernel_rfl) (by kernel_rfl) (by kernel_rfl) (fun _ _ _ h => h) (Or.inl ⟨by rfl, fun w9 hSw => ?_⟩) hHeld ?_
  · exact run_load_exec 24 _ rfl _ rfl (V2.out.1.kept hSw).load
  simp only [List.getElem_toArray, List.getElem_cons_succ, List.getElem_cons_zero, Act.put, List.setIfInBounds_toArray, List.set_cons_zero, List.set_cons_succ]
  refine wpAnyH_take (i := 5) (v := W4 0 0 0 0) rfl (by kernel_rfl) (by kernel_rfl) (by kernel_rfl) (fun _ _ _ h => h) (Or.inl ⟨by rfl, fun w9 hSw => ?_⟩) hHeld ?_
  · go_simp
  simp only [List.getElem_toArray, List.getElem_cons_succ, List.getElem_cons_zero, Act.put, List.setIfInBounds_toArray, List.set_cons_zero, List.set_cons_succ]
  refine wpAnyH_ready (rs := [6]) (by kernel_rfl) (by simp) ?_
  refine AllReadyH.cons rfl (fun K hK => ?_) AllReadyH.nil
  go_simp
  refine Calls.mono (g_fadd HA.out isw0 _) ?_
  rintro e w21 ⟨v21, rfl, h21, b21⟩
  go_wp2_with fail
  refine hK.out _ _ (hHeld.trans (b21.mono hHeld.size)) (fun hHeld => ?_)
  clear hK K
  try simp only [List.getElem_toArray, List.getElem_cons_succ, List.getElem_cons_zero, Act.put, List.setIfInBounds_toArray, List.set_cons_zero, List.set_cons_succ]
  refine wpAnyH_take (i := 7) (v := .bool false) rfl (by kernel_rfl) (by kernel_rfl) (by kernel_rfl) (fun _ _ _ h => h) (Or.inl ⟨by rfl, fun w9 hSw => ?_⟩) hHeld ?_
  · have q := eqW' (b := true) H12.out h21 (beq_t' (by rw [Int.add_zero])) w9
    obtain ⟨p0, p1, p2, p3, rfl, _, _⟩ := H12.out
    obtain ⟨q0, q1, q2, q3, rfl, _, _⟩ := h21
    unfold W4 at q ⊢
    go_simp
  simp only [List.getElem_toArray, List.getElem_cons_succ, List.getElem_cons_zero, Act.put, List.setIfInBounds_toArray, List.set_cons_zero, List.set_cons_succ]
  refine wpAnyH_take (i := 8) (v := .bool false) rfl (by kernel_rfl) (by kernel_rfl) (by kernel_rfl) (fun _ _ _ h => h) (Or.inl ⟨by rfl, fun w9 hSw => ?_⟩) hHeld ?_
  · go_simp
  simp only [List.getElem_toArray, List.getElem_cons_succ, List.getElem_cons_zero, Act.put, List.setIfInBounds_toArray, List.set_cons_zero, List.set_cons_succ]
  refine wpAnyH_take (i := 9) (v := .bool false) rfl (by kernel_rfl) (by kernel_rfl) (by kernel_rfl) (fun _ _ _ h => h) (Or.inl ⟨by rfl, fun w9 hSw => ?_⟩) hHeld ?_
  · go_simp
  simp only [List.getElem_toArray, List.getElem_cons_succ, List.getElem_cons_zero, Act.put, List.setIfInBounds_toArray, List.set_cons_zero, List.set_cons_succ]
  refine wpAnyH_ready (rs := [10]) (by kernel_rfl) (by simp) ?_
  refine AllReadyH.cons rfl (fun K hK => ?_) AllReadyH.nil
  go_simp
  refine Calls.mono (alive_any _) ?_
  rintro e w25 ⟨rfl, b25⟩
  go_wp2_with fail
  refine hK.out _ _ (hHeld.trans (b25.mono hHeld.size)) (fun hHeld => ?_)
  clear hK K
  try simp only [List.getElem_toArray, List.getElem_cons_succ, List.getElem_cons_zero, Act.put, List.setIfInBounds_toArray, List.set_cons_zero, List.set_cons_succ]
  refine wpAnyH_take (i := 11) (v := .bool false) rfl (by kernel_rfl) (by kernel_rfl) (by kernel_rfl) (fun _ _ _ h => h) (Or.inl ⟨by rfl, fun w9 hSw => ?_⟩) hHeld ?_
  · go_simp
  simp only [List.getElem_toArray, List.getElem_cons_succ, List.getElem_cons_zero, Act.put, List.setIfInBounds_toArray, List.set_cons_zero, List.set_cons_succ]
  refine wpAnyH_take (i := 12) (v := .bool false) rfl (by kernel_rfl) (by kernel_rfl) (by kernel_rfl) (fun _ _ _ h => h) (Or.inl ⟨by rfl, fun w9 hSw => ?_⟩) hHeld ?_
  · go_simp
  simp only [List.getElem_toArray, List.getElem_cons_succ, List.getElem_cons_zero, Act.put, List.setIfInBounds_toArray, List.set_cons_zero, List.set_cons_succ]
  refine wpAnyH_done (by kernel_rfl) ?_ _
  have V3 : Hid (Below w.heap.size w w25) := V2.out.2.2.trans (hHeld.mono V2.out.2.2.size)
  have HD3 : Hid (IsD w25 v d) := HD.out.below V3.out
  clear hHeld V2 H12 HA HD
  go_wp2_with fail
  refine Calls.mono (read_any _ v d HD3.out HB.out hm) ?_
  rintro e w30 ⟨v30, rfl, h30, b30⟩
  have hn := VarW.new w30
  have hs : Hid (w.heap.size ≤ w30.heap.size) := Nat.le_trans V3.out.size b30.size
  have V4 : Hid (VarW ((w30.alloc (.cells (C4 0 0 0 0) 24)).setRow w30.heap.size (cw v30)) w30.heap.size v30 ∧ Below w.heap.size w ((w30.alloc (.cells (C4 0 0 0 0) 24)).setRow w30.heap.size (cw v30)) ∧ IsD ((w30.alloc (.cells (C4 0 0 0 0) 24)).setRow w30.heap.size (cw v30)) v d) :=
    ⟨hn.put h30, below_setRow ((V3.out.trans (b30.mono V3.out.size)).alloc hs.out _) hs.out _, HD3.out.below (below_setRow (b30.alloc b30.size _) b30.size _)⟩
  have HV : Hid (IsW v30 (rdV PP d)) := h30
  clear V3 HD3 b30 hs
  rcases rd_cases d with ⟨he, hv⟩ | ⟨he, hv, hl, hlt⟩
  · obtain rfl : v30 = W4 0 0 0 0 := by rw [hv] at h30; exact h30.uniq isw0
    have cs := cells4 V4.out.1
    have q := eq24_same 0 0 0 0
    unfold W4 at q cs ⊢
    have h30' : IsW (.agg #[.int .u64 0, .int .u64 0, .int .u64 0, .int .u64 0]) (rdV PP d) := h30
    generalize rdE PP d = E at *
    go_wp2_with (first | (refine wpList_store_varW rfl _ _ rfl w30.heap.size rfl rfl h30' hn ?_))
    go_ret
    exact ⟨rfl, V4.out.2.1⟩
  · rw [he]
    have HL : Hid (d.length = 32 ∧ valB d < PP) := ⟨hl, hlt⟩
    rw [hv] at HV
    obtain ⟨s0, s1, s2, s3, rfl, ls, ns⟩ := h30
    have cs := cells4 V4.out.1
    have h30' : IsW (.agg #[.int .u64 s0, .int .u64 s1, .int .u64 s2, .int .u64 s3]) (rdV PP d) := ⟨s0, s1, s2, s3, rfl, ls, ns⟩
    clear ls ns hl hlt he hv
    unfold W4 at cs ⊢
    go_wp2_with (first | (refine wpList_store_varW rfl _ _ rfl w30.heap.size rfl rfl h30' hn ?_))
    clear cs hn h30'
    refine Calls.mono (fbytes_any HV.out _) ?_
    rintro e w45 ⟨b2, rfl, _, hrow, b45⟩
    rw [Int.emod_eq_of_lt (valB_bd d HB.out).1 HL.out.2] at hrow
    have hI := isD_row hrow
    rw [dL_valB HB.out HL.out.1] at hI
    have hI2 := V4.out.2.2.below b45
    have hBB := V4.out.2.1.trans (b45.mono V4.out.2.1.size)
    have hS := sameD_any _ _ _ d HB.out (by rw [HL.out.1]; decide) hI hI2
    have HS : Hid _ := hS
    clear hS hI hI2 hrow b45 V4 HV
    go_wp2_with fail
    refine Calls.mono HS.out ?_
    rintro e w47 ⟨rfl, hw⟩
    subst hw
    go_wp2
    go_ret
    exact ⟨rfl, hBB⟩
end Go.Proofs.Ytmflilgppllebaa
