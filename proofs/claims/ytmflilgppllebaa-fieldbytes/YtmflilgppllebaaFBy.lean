/- FieldBytes: the walk. -/
import Derived.Test.YtmflilgppllebaaBL
import Derived.Test.YtmflilgppllebaaFV
namespace Go.Proofs.Ytmflilgppllebaa
open Go.RowKit
set_option linter.unusedSimpArgs false
set_option linter.unusedVariables false
theorem fbytesD {va : Value} {x : Int} (ha : IsW va x) (w : World) : Calls Try.prog 29 #[va] w fun e w' => ∃ v, e = .returned v ∧ IsD w' v (dL (x % PP)) ∧ Below w.heap.size w w' := by
  refine (fbytes_any ha w).mono ?_
  rintro e w' ⟨b, rfl, _, hrow, hb⟩
  exact ⟨_, rfl, isD_row hrow, hb⟩
theorem sameB {w : World} {va vb : Value} {x : Int} (ha : IsD w va (dL x)) (hb : IsD w vb (dL x)) : Calls Try.prog 28 #[va, vb] w fun e w' => e = .returned (.bool true) ∧ Below w.heap.size w w' := by
  refine (sameD_any w va vb (dL x) (dL_byt x) (by rw [dL_len]; decide) ha hb).mono ?_
  rintro e w' ⟨rfl, rfl⟩
  exact ⟨rfl, Below.refl _ _⟩
set_option maxRecDepth 20000 in
set_option maxHeartbeats 4000000 in
theorem bytes_walk (a0 a1 a2 a3 : Int) (la : L4 a0 a1 a2 a3) (v : Value) (d : List Int) (w : World) (hd : IsD w v d) (B : Byt d) (hm : d.length ≤ 9223372036854775807) :
    Calls Try.prog 5 #[v, W4 a0 a1 a2 a3] w fun e w' => e = .returned (.bool true) ∧ Below w.heap.size w w' := by
  have HA : Hid (IsW (W4 a0 a1 a2 a3) (num a0 a1 a2 a3)) := IsW.mk la
  have V0 : Hid (VarW (w.alloc (.cells (C4 a0 a1 a2 a3) 24)) w.heap.size (W4 a0 a1 a2 a3) ∧ Below w.heap.size w (w.alloc (.cells (C4 a0 a1 a2 a3) 24))) := ⟨VarW.new1 la w, by go_grown⟩
  have HG1 : Hid (∀ W, Below w.heap.size w W → Calls Try.prog 22 #[v] W fun e w' => ∃ u, e = .returned (.tuple #[u, .int .i64 (rdE PP d)]) ∧ IsW u (rdV PP d) ∧ Below W.heap.size W w') := fun W hW => read_any W v d (hd.below hW) B hm
  have HN1 : Hid (∀ W, Below w.heap.size w W → Calls Try.prog 23 #[v] W fun e w' => ∃ u, e = .returned (.tuple #[u, .int .i64 (rdE PP d)]) ∧ IsW u (rdV PP d) ∧ Below W.heap.size W w') := fun W hW => rRead_any W v d (hd.below hW) B hm
  have HG2 : Hid (∀ W, Below w.heap.size w W → Calls Try.prog 24 #[v] W fun e w' => ∃ u, e = .returned (.tuple #[u, .int .i64 (rdE LL d)]) ∧ IsW u (rdV LL d) ∧ Below W.heap.size W w') := fun W hW => lread_any W v d (hd.below hW) B hm
  have HN2 : Hid (∀ W, Below w.heap.size w W → Calls Try.prog 25 #[v] W fun e w' => ∃ u, e = .returned (.tuple #[u, .int .i64 (rdE LL d)]) ∧ IsW u (rdV LL d) ∧ Below W.heap.size W w') := fun W hW => rLread_any W v d (hd.below hW) B hm
  have HG3 : Hid (∀ W, Below w.heap.size w W → Calls Try.prog 26 #[v] W fun e w' => ∃ u, e = .returned (.tuple #[u, .int .i64 (lfE d)]) ∧ IsW u (lfV d) ∧ Below W.heap.size W w') := fun W hW => lfold_any W v d (hd.below hW) B hm
  have HN3 : Hid (∀ W, Below w.heap.size w W → Calls Try.prog 27 #[v] W fun e w' => ∃ u, e = .returned (.tuple #[u, .int .i64 (lfE d)]) ∧ IsW u (lfV d) ∧ Below W.heap.size W w') := fun W hW => rlfold_any W v d (hd.below hW) B hm
  clear la hd B hm
  generalize num a0 a1 a2 a3 = a at HA
  generalize rdE PP d = E1 at HG1 HN1
  generalize rdV PP d = X1 at HG1 HN1
  generalize rdE LL d = E2 at HG2 HN2
  generalize rdV LL d = X2 at HG2 HN2
  generalize lfE d = E3 at HG3 HN3
  generalize lfV d = X3 at HG3 HN3
  go_enter Try.func5, Try.ntmps5
  unfold W4
  go_wp2_with fail
  generalize (w.alloc (.cells (C4 a0 a1 a2 a3) 24)) = W0 at V0 ⊢
  refine Calls.mono (HG1.out _ V0.out.2) ?_
  rintro e w19 ⟨v19, rfl, h19, b19⟩
  have H5 : Hid (IsW v19 X1) := h19
  have hn := VarW.new w19
  have hs : Hid (w.heap.size < w19.heap.size) := (V0.out.1.kept b19).lt
  have V1 : Hid (VarW ((w19.alloc (.cells (C4 0 0 0 0) 24)).setRow w19.heap.size (cw v19)) (w.heap.size) (W4 a0 a1 a2 a3) ∧ VarW ((w19.alloc (.cells (C4 0 0 0 0) 24)).setRow w19.heap.size (cw v19)) w19.heap.size v19 ∧ Below w.heap.size w ((w19.alloc (.cells (C4 0 0 0 0) 24)).setRow w19.heap.size (cw v19))) :=
    ⟨((V0.out.1.kept b19).old _).other (by have := hs.out; omega) _, hn.put h19, below_setRow ((V0.out.2.trans (b19.mono V0.out.2.size)).alloc (Nat.le_of_lt hs.out) _) (Nat.le_of_lt hs.out) _⟩
  clear V0 b19
  go_wp2_with (first | (refine wpList_store_varW (u := v19) rfl _ _ rfl w19.heap.size rfl rfl h19 hn ?_))
  clear hn h19 hs
  generalize (w19.alloc (.cells (C4 0 0 0 0) 24)).setRow w19.heap.size (cw v19) = WX1 at V1 ⊢
  generalize w19.heap.size = z5 at V1 ⊢
  refine Calls.mono (HN1.out _ V1.out.2.2) ?_
  rintro e w24 ⟨v24, rfl, h24, b24⟩
  have H7 : Hid (IsW v24 X1) := h24
  have hn := VarW.new w24
  have hs : Hid (w.heap.size < w24.heap.size ∧ z5 < w24.heap.size) := ⟨(V1.out.1.kept b24).lt, (V1.out.2.1.kept b24).lt⟩
  have V2 : Hid (VarW ((w24.alloc (.cells (C4 0 0 0 0) 24)).setRow w24.heap.size (cw v24)) (w.heap.size) (W4 a0 a1 a2 a3) ∧ VarW ((w24.alloc (.cells (C4 0 0 0 0) 24)).setRow w24.heap.size (cw v24)) z5 (v19) ∧ VarW ((w24.alloc (.cells (C4 0 0 0 0) 24)).setRow w24.heap.size (cw v24)) w24.heap.size v24 ∧ Below w.heap.size w ((w24.alloc (.cells (C4 0 0 0 0) 24)).setRow w24.heap.size (cw v24))) :=
    ⟨((V1.out.1.kept b24).old _).other (by have := hs.out; omega) _, ((V1.out.2.1.kept b24).old _).other (by have := hs.out; omega) _, hn.put h24, below_setRow ((V1.out.2.2.trans (b24.mono V1.out.2.2.size)).alloc (Nat.le_of_lt hs.out.1) _) (Nat.le_of_lt hs.out.1) _⟩
  clear V1 b24
  go_wp2_with (first | (refine wpList_store_varW (u := v24) rfl _ _ rfl w24.heap.size rfl rfl h24 hn ?_))
  clear hn h24 hs
  generalize (w24.alloc (.cells (C4 0 0 0 0) 24)).setRow w24.heap.size (cw v24) = WX2 at V2 ⊢
  generalize w24.heap.size = z7 at V2 ⊢
  refine Calls.mono (HG2.out _ V2.out.2.2.2) ?_
  rintro e w29 ⟨v29, rfl, h29, b29⟩
  have H9 : Hid (IsW v29 X2) := h29
  have hn := VarW.new w29
  have hs : Hid (w.heap.size < w29.heap.size ∧ z5 < w29.heap.size ∧ z7 < w29.heap.size) := ⟨(V2.out.1.kept b29).lt, (V2.out.2.1.kept b29).lt, (V2.out.2.2.1.kept b29).lt⟩
  have V3 : Hid (VarW ((w29.alloc (.cells (C4 0 0 0 0) 24)).setRow w29.heap.size (cw v29)) (w.heap.size) (W4 a0 a1 a2 a3) ∧ VarW ((w29.alloc (.cells (C4 0 0 0 0) 24)).setRow w29.heap.size (cw v29)) z5 (v19) ∧ VarW ((w29.alloc (.cells (C4 0 0 0 0) 24)).setRow w29.heap.size (cw v29)) z7 (v24) ∧ VarW ((w29.alloc (.cells (C4 0 0 0 0) 24)).setRow w29.heap.size (cw v29)) w29.heap.size v29 ∧ Below w.heap.size w ((w29.alloc (.cells (C4 0 0 0 0) 24)).setRow w29.heap.size (cw v29))) :=
    ⟨((V2.out.1.kept b29).old _).other (by have := hs.out; omega) _, ((V2.out.2.1.kept b29).old _).other (by have := hs.out; omega) _, ((V2.out.2.2.1.kept b29).old _).other (by have := hs.out; omega) _, hn.put h29, below_setRow ((V2.out.2.2.2.trans (b29.mono V2.out.2.2.2.size)).alloc (Nat.le_of_lt hs.out.1) _) (Nat.le_of_lt hs.out.1) _⟩
  clear V2 b29
  go_wp2_with (first | (refine wpList_store_varW (u := v29) rfl _ _ rfl w29.heap.size rfl rfl h29 hn ?_))
  clear hn h29 hs
  generalize (w29.alloc (.cells (C4 0 0 0 0) 24)).setRow w29.heap.size (cw v29) = WX3 at V3 ⊢
  generalize w29.heap.size = z9 at V3 ⊢
  refine Calls.mono (HN2.out _ V3.out.2.2.2.2) ?_
  rintro e w34 ⟨v34, rfl, h34, b34⟩
  have H11 : Hid (IsW v34 X2) := h34
  have hn := VarW.new w34
  have hs : Hid (w.heap.size < w34.heap.size ∧ z5 < w34.heap.size ∧ z7 < w34.heap.size ∧ z9 < w34.heap.size) := ⟨(V3.out.1.kept b34).lt, (V3.out.2.1.kept b34).lt, (V3.out.2.2.1.kept b34).lt, (V3.out.2.2.2.1.kept b34).lt⟩
  have V4 : Hid (VarW ((w34.alloc (.cells (C4 0 0 0 0) 24)).setRow w34.heap.size (cw v34)) (w.heap.size) (W4 a0 a1 a2 a3) ∧ VarW ((w34.alloc (.cells (C4 0 0 0 0) 24)).setRow w34.heap.size (cw v34)) z5 (v19) ∧ VarW ((w34.alloc (.cells (C4 0 0 0 0) 24)).setRow w34.heap.size (cw v34)) z7 (v24) ∧ VarW ((w34.alloc (.cells (C4 0 0 0 0) 24)).setRow w34.heap.size (cw v34)) z9 (v29) ∧ VarW ((w34.alloc (.cells (C4 0 0 0 0) 24)).setRow w34.heap.size (cw v34)) w34.heap.size v34 ∧ Below w.heap.size w ((w34.alloc (.cells (C4 0 0 0 0) 24)).setRow w34.heap.size (cw v34))) :=
    ⟨((V3.out.1.kept b34).old _).other (by have := hs.out; omega) _, ((V3.out.2.1.kept b34).old _).other (by have := hs.out; omega) _, ((V3.out.2.2.1.kept b34).old _).other (by have := hs.out; omega) _, ((V3.out.2.2.2.1.kept b34).old _).other (by have := hs.out; omega) _, hn.put h34, below_setRow ((V3.out.2.2.2.2.trans (b34.mono V3.out.2.2.2.2.size)).alloc (Nat.le_of_lt hs.out.1) _) (Nat.le_of_lt hs.out.1) _⟩
  clear V3 b34
  go_wp2_with (first | (refine wpList_store_varW (u := v34) rfl _ _ rfl w34.heap.size rfl rfl h34 hn ?_))
  clear hn h34 hs
  generalize (w34.alloc (.cells (C4 0 0 0 0) 24)).setRow w34.heap.size (cw v34) = WX4 at V4 ⊢
  generalize w34.heap.size = z11 at V4 ⊢
  refine Calls.mono (HG3.out _ V4.out.2.2.2.2.2) ?_
  rintro e w39 ⟨v39, rfl, h39, b39⟩
  have H13 : Hid (IsW v39 X3) := h39
  have hn := VarW.new w39
  have hs : Hid (w.heap.size < w39.heap.size ∧ z5 < w39.heap.size ∧ z7 < w39.heap.size ∧ z9 < w39.heap.size ∧ z11 < w39.heap.size) := ⟨(V4.out.1.kept b39).lt, (V4.out.2.1.kept b39).lt, (V4.out.2.2.1.kept b39).lt, (V4.out.2.2.2.1.kept b39).lt, (V4.out.2.2.2.2.1.kept b39).lt⟩
  have V5 : Hid (VarW ((w39.alloc (.cells (C4 0 0 0 0) 24)).setRow w39.heap.size (cw v39)) (w.heap.size) (W4 a0 a1 a2 a3) ∧ VarW ((w39.alloc (.cells (C4 0 0 0 0) 24)).setRow w39.heap.size (cw v39)) z5 (v19) ∧ VarW ((w39.alloc (.cells (C4 0 0 0 0) 24)).setRow w39.heap.size (cw v39)) z7 (v24) ∧ VarW ((w39.alloc (.cells (C4 0 0 0 0) 24)).setRow w39.heap.size (cw v39)) z9 (v29) ∧ VarW ((w39.alloc (.cells (C4 0 0 0 0) 24)).setRow w39.heap.size (cw v39)) z11 (v34) ∧ VarW ((w39.alloc (.cells (C4 0 0 0 0) 24)).setRow w39.heap.size (cw v39)) w39.heap.size v39 ∧ Below w.heap.size w ((w39.alloc (.cells (C4 0 0 0 0) 24)).setRow w39.heap.size (cw v39))) :=
    ⟨((V4.out.1.kept b39).old _).other (by have := hs.out; omega) _, ((V4.out.2.1.kept b39).old _).other (by have := hs.out; omega) _, ((V4.out.2.2.1.kept b39).old _).other (by have := hs.out; omega) _, ((V4.out.2.2.2.1.kept b39).old _).other (by have := hs.out; omega) _, ((V4.out.2.2.2.2.1.kept b39).old _).other (by have := hs.out; omega) _, hn.put h39, below_setRow ((V4.out.2.2.2.2.2.trans (b39.mono V4.out.2.2.2.2.2.size)).alloc (Nat.le_of_lt hs.out.1) _) (Nat.le_of_lt hs.out.1) _⟩
  clear V4 b39
  go_wp2_with (first | (refine wpList_store_varW (u := v39) rfl _ _ rfl w39.heap.size rfl rfl h39 hn ?_))
  clear hn h39 hs
  generalize (w39.alloc (.cells (C4 0 0 0 0) 24)).setRow w39.heap.size (cw v39) = WX5 at V5 ⊢
  generalize w39.heap.size = z13 at V5 ⊢
  refine Calls.mono (HN3.out _ V5.out.2.2.2.2.2.2) ?_
  rintro e w44 ⟨v44, rfl, h44, b44⟩
  have H15 : Hid (IsW v44 X3) := h44
  have hn := VarW.new w44
  have hs : Hid (w.heap.size < w44.heap.size ∧ z5 < w44.heap.size ∧ z7 < w44.heap.size ∧ z9 < w44.heap.size ∧ z11 < w44.heap.size ∧ z13 < w44.heap.size) := ⟨(V5.out.1.kept b44).lt, (V5.out.2.1.kept b44).lt, (V5.out.2.2.1.kept b44).lt, (V5.out.2.2.2.1.kept b44).lt, (V5.out.2.2.2.2.1.kept b44).lt, (V5.out.2.2.2.2.2.1.kept b44).lt⟩
  have V6 : Hid (VarW ((w44.alloc (.cells (C4 0 0 0 0) 24)).setRow w44.heap.size (cw v44)) (w.heap.size) (W4 a0 a1 a2 a3) ∧ VarW ((w44.alloc (.cells (C4 0 0 0 0) 24)).setRow w44.heap.size (cw v44)) z5 (v19) ∧ VarW ((w44.alloc (.cells (C4 0 0 0 0) 24)).setRow w44.heap.size (cw v44)) z7 (v24) ∧ VarW ((w44.alloc (.cells (C4 0 0 0 0) 24)).setRow w44.heap.size (cw v44)) z9 (v29) ∧ VarW ((w44.alloc (.cells (C4 0 0 0 0) 24)).setRow w44.heap.size (cw v44)) z11 (v34) ∧ VarW ((w44.alloc (.cells (C4 0 0 0 0) 24)).setRow w44.heap.size (cw v44)) z13 (v39) ∧ VarW ((w44.alloc (.cells (C4 0 0 0 0) 24)).setRow w44.heap.size (cw v44)) w44.heap.size v44 ∧ Below w.heap.size w ((w44.alloc (.cells (C4 0 0 0 0) 24)).setRow w44.heap.size (cw v44))) :=
    ⟨((V5.out.1.kept b44).old _).other (by have := hs.out; omega) _, ((V5.out.2.1.kept b44).old _).other (by have := hs.out; omega) _, ((V5.out.2.2.1.kept b44).old _).other (by have := hs.out; omega) _, ((V5.out.2.2.2.1.kept b44).old _).other (by have := hs.out; omega) _, ((V5.out.2.2.2.2.1.kept b44).old _).other (by have := hs.out; omega) _, ((V5.out.2.2.2.2.2.1.kept b44).old _).other (by have := hs.out; omega) _, hn.put h44, below_setRow ((V5.out.2.2.2.2.2.2.trans (b44.mono V5.out.2.2.2.2.2.2.size)).alloc (Nat.le_of_lt hs.out.1) _) (Nat.le_of_lt hs.out.1) _⟩
  clear V5 b44
  go_wp2_with (first | (refine wpList_store_varW (u := v44) rfl _ _ rfl w44.heap.size rfl rfl h44 hn ?_))
  clear hn h44 hs
  generalize (w44.alloc (.cells (C4 0 0 0 0) 24)).setRow w44.heap.size (cw v44) = WX6 at V6 ⊢
  generalize w44.heap.size = z15 at V6 ⊢
  clear HG1 HN1 HG2 HN2 HG3 HN3
  refine wp_region_held_drew (S := fun w' => Below (WX6.heap.size) WX6 w') (by kernel_rfl) (Below.drew (Below.refl _ _)) (fun hHeld => ?_)
  generalize WX6.drew = wd at hHeld  ⊢
  refine wpAnyH_take (i := 0) (v := v19) rfl (by kernel_rfl) (by kernel_rfl) (by kernel_rfl) (fun _ _ _ h => h) (Or.inl ⟨by rfl, fun w9 hSw => ?_⟩) hHeld ?_
  · exact run_load_exec 24 _ rfl _ rfl (V6.out.2.1.kept hSw).load
  simp only [List.getElem_toArray, List.getElem_cons_succ, List.getElem_cons_zero, Act.put, List.setIfInBounds_toArray, List.set_cons_zero, List.set_cons_succ]
  refine wpAnyH_take (i := 1) (v := v24) rfl (by kernel_rfl) (by kernel_rfl) (by kernel_rfl) (fun _ _ _ h => h) (Or.inl ⟨by rfl, fun w9 hSw => ?_⟩) hHeld ?_
  · exact run_load_exec 24 _ rfl _ rfl (V6.out.2.2.1.kept hSw).load
  simp only [List.getElem_toArray, List.getElem_cons_succ, List.getElem_cons_zero, Act.put, List.setIfInBounds_toArray, List.set_cons_zero, List.set_cons_succ]
  refine wpAnyH_take (i := 2) (v := .bool true) rfl (by kernel_rfl) (by kernel_rfl) (by kernel_rfl) (fun _ _ _ h => h) (Or.inl ⟨by rfl, fun w9 hSw => ?_⟩) hHeld ?_
  · have q := eqW' (b := true) H5.out H7.out (beq_self_eq_true _) w9
    obtain ⟨p0, p1, p2, p3, rfl, _, _⟩ := H5.out
    obtain ⟨q0, q1, q2, q3, rfl, _, _⟩ := H7.out
    unfold W4 at q ⊢
    go_simp
  simp only [List.getElem_toArray, List.getElem_cons_succ, List.getElem_cons_zero, Act.put, List.setIfInBounds_toArray, List.set_cons_zero, List.set_cons_succ]
  refine wpAnyH_take (i := 3) (v := .bool true) rfl (by kernel_rfl) (by kernel_rfl) (by kernel_rfl) (fun _ _ _ h => h) (Or.inl ⟨by rfl, fun w9 hSw => ?_⟩) hHeld ?_
  · go_simp
  simp only [List.getElem_toArray, List.getElem_cons_succ, List.getElem_cons_zero, Act.put, List.setIfInBounds_toArray, List.set_cons_zero, List.set_cons_succ]
  refine wpAnyH_take (i := 4) (v := .int .i64 E1) rfl (by kernel_rfl) (by kernel_rfl) (by kernel_rfl) (fun _ _ _ h => h) (Or.inl ⟨by rfl, fun w9 hSw => ?_⟩) hHeld ?_
  · go_simp
  simp only [List.getElem_toArray, List.getElem_cons_succ, List.getElem_cons_zero, Act.put, List.setIfInBounds_toArray, List.set_cons_zero, List.set_cons_succ]
  refine wpAnyH_take (i := 5) (v := .int .i64 E1) rfl (by kernel_rfl) (by kernel_rfl) (by kernel_rfl) (fun _ _ _ h => h) (Or.inl ⟨by rfl, fun w9 hSw => ?_⟩) hHeld ?_
  · go_simp
  simp only [List.getElem_toArray, List.getElem_cons_succ, List.getElem_cons_zero, Act.put, List.setIfInBounds_toArray, List.set_cons_zero, List.set_cons_succ]
  refine wpAnyH_take (i := 6) (v := .bool true) rfl (by kernel_rfl) (by kernel_rfl) (by kernel_rfl) (fun _ _ _ h => h) (Or.inl ⟨by rfl, fun w9 hSw => ?_⟩) hHeld ?_
  · go_simp
  simp only [List.getElem_toArray, List.getElem_cons_succ, List.getElem_cons_zero, Act.put, List.setIfInBounds_toArray, List.set_cons_zero, List.set_cons_succ]
  refine wpAnyH_take (i := 7) (v := .bool true) rfl (by kernel_rfl) (by kernel_rfl) (by kernel_rfl) (fun _ _ _ h => h) (Or.inl ⟨by rfl, fun w9 hSw => ?_⟩) hHeld ?_
  · go_simp
  simp only [List.getElem_toArray, List.getElem_cons_succ, List.getElem_cons_zero, Act.put, List.setIfInBounds_toArray, List.set_cons_zero, List.set_cons_succ]
  refine wpAnyH_take (i := 8) (v := .bool true) rfl (by kernel_rfl) (by kernel_rfl) (by kernel_rfl) (fun _ _ _ h => h) (Or.inl ⟨by rfl, fun w9 hSw => ?_⟩) hHeld ?_
  · go_simp
  simp only [List.getElem_toArray, List.getElem_cons_succ, List.getElem_cons_zero, Act.put, List.setIfInBounds_toArray, List.set_cons_zero, List.set_cons_succ]
  refine wpAnyH_take (i := 9) (v := v29) rfl (by kernel_rfl) (by kernel_rfl) (by kernel_rfl) (fun _ _ _ h => h) (Or.inl ⟨by rfl, fun w9 hSw => ?_⟩) hHeld ?_
  · exact run_load_exec 24 _ rfl _ rfl (V6.out.2.2.2.1.kept hSw).load
  simp only [List.getElem_toArray, List.getElem_cons_succ, List.getElem_cons_zero, Act.put, List.setIfInBounds_toArray, List.set_cons_zero, List.set_cons_succ]
  refine wpAnyH_take (i := 10) (v := v34) rfl (by kernel_rfl) (by kernel_rfl) (by kernel_rfl) (fun _ _ _ h => h) (Or.inl ⟨by rfl, fun w9 hSw => ?_⟩) hHeld ?_
  · exact run_load_exec 24 _ rfl _ rfl (V6.out.2.2.2.2.1.kept hSw).load
  simp only [List.getElem_toArray, List.getElem_cons_succ, List.getElem_cons_zero, Act.put, List.setIfInBounds_toArray, List.set_cons_zero, List.set_cons_succ]
  refine wpAnyH_take (i := 11) (v := .bool true) rfl (by kernel_rfl) (by kernel_rfl) (by kernel_rfl) (fun _ _ _ h => h) (Or.inl ⟨by rfl, fun w9 hSw => ?_⟩) hHeld ?_
  · have q := eqW' (b := true) H9.out H11.out (beq_self_eq_true _) w9
    obtain ⟨p0, p1, p2, p3, rfl, _, _⟩ := H9.out
    obtain ⟨q0, q1, q2, q3, rfl, _, _⟩ := H11.out
    unfold W4 at q ⊢
    go_simp
  simp only [List.getElem_toArray, List.getElem_cons_succ, List.getElem_cons_zero, Act.put, List.setIfInBounds_toArray, List.set_cons_zero, List.set_cons_succ]
  refine wpAnyH_take (i := 12) (v := .bool true) rfl (by kernel_rfl) (by kernel_rfl) (by kernel_rfl) (fun _ _ _ h => h) (Or.inl ⟨by rfl, fun w9 hSw => ?_⟩) hHeld ?_
  · go_simp
  simp only [List.getElem_toArray, List.getElem_cons_succ, List.getElem_cons_zero, Act.put, List.setIfInBounds_toArray, List.set_cons_zero, List.set_cons_succ]
  refine wpAnyH_take (i := 13) (v := .bool true) rfl (by kernel_rfl) (by kernel_rfl) (by kernel_rfl) (fun _ _ _ h => h) (Or.inl ⟨by rfl, fun w9 hSw => ?_⟩) hHeld ?_
  · go_simp
  simp only [List.getElem_toArray, List.getElem_cons_succ, List.getElem_cons_zero, Act.put, List.setIfInBounds_toArray, List.set_cons_zero, List.set_cons_succ]
  refine wpAnyH_take (i := 14) (v := .int .i64 E2) rfl (by kernel_rfl) (by kernel_rfl) (by kernel_rfl) (fun _ _ _ h => h) (Or.inl ⟨by rfl, fun w9 hSw => ?_⟩) hHeld ?_
  · go_simp
  simp only [List.getElem_toArray, List.getElem_cons_succ, List.getElem_cons_zero, Act.put, List.setIfInBounds_toArray, List.set_cons_zero, List.set_cons_succ]
  refine wpAnyH_take (i := 15) (v := .int .i64 E2) rfl (by kernel_rfl) (by kernel_rfl) (by kernel_rfl) (fun _ _ _ h => h) (Or.inl ⟨by rfl, fun w9 hSw => ?_⟩) hHeld ?_
  · go_simp
  simp only [List.getElem_toArray, List.getElem_cons_succ, List.getElem_cons_zero, Act.put, List.setIfInBounds_toArray, List.set_cons_zero, List.set_cons_succ]
  refine wpAnyH_take (i := 16) (v := .bool true) rfl (by kernel_rfl) (by kernel_rfl) (by kernel_rfl) (fun _ _ _ h => h) (Or.inl ⟨by rfl, fun w9 hSw => ?_⟩) hHeld ?_
  · go_simp
  simp only [List.getElem_toArray, List.getElem_cons_succ, List.getElem_cons_zero, Act.put, List.setIfInBounds_toArray, List.set_cons_zero, List.set_cons_succ]
  refine wpAnyH_take (i := 17) (v := .bool true) rfl (by kernel_rfl) (by kernel_rfl) (by kernel_rfl) (fun _ _ _ h => h) (Or.inl ⟨by rfl, fun w9 hSw => ?_⟩) hHeld ?_
  · go_simp
  simp only [List.getElem_toArray, List.getElem_cons_succ, List.getElem_cons_zero, Act.put, List.setIfInBounds_toArray, List.set_cons_zero, List.set_cons_succ]
  refine wpAnyH_take (i := 18) (v := .bool true) rfl (by kernel_rfl) (by kernel_rfl) (by kernel_rfl) (fun _ _ _ h => h) (Or.inl ⟨by rfl, fun w9 hSw => ?_⟩) hHeld ?_
  · go_simp
  simp only [List.getElem_toArray, List.getElem_cons_succ, List.getElem_cons_zero, Act.put, List.setIfInBounds_toArray, List.set_cons_zero, List.set_cons_succ]
  refine wpAnyH_take (i := 19) (v := v39) rfl (by kernel_rfl) (by kernel_rfl) (by kernel_rfl) (fun _ _ _ h => h) (Or.inl ⟨by rfl, fun w9 hSw => ?_⟩) hHeld ?_
  · exact run_load_exec 24 _ rfl _ rfl (V6.out.2.2.2.2.2.1.kept hSw).load
  simp only [List.getElem_toArray, List.getElem_cons_succ, List.getElem_cons_zero, Act.put, List.setIfInBounds_toArray, List.set_cons_zero, List.set_cons_succ]
  refine wpAnyH_take (i := 20) (v := v44) rfl (by kernel_rfl) (by kernel_rfl) (by kernel_rfl) (fun _ _ _ h => h) (Or.inl ⟨by rfl, fun w9 hSw => ?_⟩) hHeld ?_
  · exact run_load_exec 24 _ rfl _ rfl (V6.out.2.2.2.2.2.2.1.kept hSw).load
  simp only [List.getElem_toArray, List.getElem_cons_succ, List.getElem_cons_zero, Act.put, List.setIfInBounds_toArray, List.set_cons_zero, List.set_cons_succ]
  refine wpAnyH_take (i := 21) (v := .bool true) rfl (by kernel_rfl) (by kernel_rfl) (by kernel_rfl) (fun _ _ _ h => h) (Or.inl ⟨by rfl, fun w9 hSw => ?_⟩) hHeld ?_
  · have q := eqW' (b := true) H13.out H15.out (beq_self_eq_true _) w9
    obtain ⟨p0, p1, p2, p3, rfl, _, _⟩ := H13.out
    obtain ⟨q0, q1, q2, q3, rfl, _, _⟩ := H15.out
    unfold W4 at q ⊢
    go_simp
  simp only [List.getElem_toArray, List.getElem_cons_succ, List.getElem_cons_zero, Act.put, List.setIfInBounds_toArray, List.set_cons_zero, List.set_cons_succ]
  refine wpAnyH_take (i := 22) (v := .bool true) rfl (by kernel_rfl) (by kernel_rfl) (by kernel_rfl) (fun _ _ _ h => h) (Or.inl ⟨by rfl, fun w9 hSw => ?_⟩) hHeld ?_
  · go_simp
  simp only [List.getElem_toArray, List.getElem_cons_succ, List.getElem_cons_zero, Act.put, List.setIfInBounds_toArray, List.set_cons_zero, List.set_cons_succ]
  refine wpAnyH_take (i := 23) (v := .bool true) rfl (by kernel_rfl) (by kernel_rfl) (by kernel_rfl) (fun _ _ _ h => h) (Or.inl ⟨by rfl, fun w9 hSw => ?_⟩) hHeld ?_
  · go_simp
  simp only [List.getElem_toArray, List.getElem_cons_succ, List.getElem_cons_zero, Act.put, List.setIfInBounds_toArray, List.set_cons_zero, List.set_cons_succ]
  refine wpAnyH_take (i := 24) (v := .int .i64 E3) rfl (by kernel_rfl) (by kernel_rfl) (by kernel_rfl) (fun _ _ _ h => h) (Or.inl ⟨by rfl, fun w9 hSw => ?_⟩) hHeld ?_
  · go_simp
  simp only [List.getElem_toArray, List.getElem_cons_succ, List.getElem_cons_zero, Act.put, List.setIfInBounds_toArray, List.set_cons_zero, List.set_cons_succ]
  refine wpAnyH_take (i := 25) (v := .int .i64 E3) rfl (by kernel_rfl) (by kernel_rfl) (by kernel_rfl) (fun _ _ _ h => h) (Or.inl ⟨by rfl, fun w9 hSw => ?_⟩) hHeld ?_
  · go_simp
  simp only [List.getElem_toArray, List.getElem_cons_succ, List.getElem_cons_zero, Act.put, List.setIfInBounds_toArray, List.set_cons_zero, List.set_cons_succ]
  refine wpAnyH_take (i := 26) (v := .bool true) rfl (by kernel_rfl) (by kernel_rfl) (by kernel_rfl) (fun _ _ _ h => h) (Or.inl ⟨by rfl, fun w9 hSw => ?_⟩) hHeld ?_
  · go_simp
  simp only [List.getElem_toArray, List.getElem_cons_succ, List.getElem_cons_zero, Act.put, List.setIfInBounds_toArray, List.set_cons_zero, List.set_cons_succ]
  refine wpAnyH_take (i := 27) (v := .bool true) rfl (by kernel_rfl) (by kernel_rfl) (by kernel_rfl) (fun _ _ _ h => h) (Or.inl ⟨by rfl, fun w9 hSw => ?_⟩) hHeld ?_
  · go_simp
  simp only [List.getElem_toArray, List.getElem_cons_succ, List.getElem_cons_zero, Act.put, List.setIfInBounds_toArray, List.set_cons_zero, List.set_cons_succ]
  refine wpAnyH_take (i := 28) (v := .bool true) rfl (by kernel_rfl) (by kernel_rfl) (by kernel_rfl) (fun _ _ _ h => h) (Or.inl ⟨by rfl, fun w9 hSw => ?_⟩) hHeld ?_
  · go_simp
  simp only [List.getElem_toArray, List.getElem_cons_succ, List.getElem_cons_zero, Act.put, List.setIfInBounds_toArray, List.set_cons_zero, List.set_cons_succ]
  refine wpAnyH_take (i := 29) (v := W4 a0 a1 a2 a3) rfl (by kernel_rfl) (by kernel_rfl) (by kernel_rfl) (fun _ _ _ h => h) (Or.inl ⟨by rfl, fun w9 hSw => ?_⟩) hHeld ?_
  · exact run_load_exec 24 _ rfl _ rfl (V6.out.1.kept hSw).load
  simp only [List.getElem_toArray, List.getElem_cons_succ, List.getElem_cons_zero, Act.put, List.setIfInBounds_toArray, List.set_cons_zero, List.set_cons_succ]
  refine wpAnyH_take (i := 31) (v := W4 a0 a1 a2 a3) rfl (by kernel_rfl) (by kernel_rfl) (by kernel_rfl) (fun _ _ _ h => h) (Or.inl ⟨by rfl, fun w9 hSw => ?_⟩) hHeld ?_
  · exact run_load_exec 24 _ rfl _ rfl (V6.out.1.kept hSw).load
  simp only [List.getElem_toArray, List.getElem_cons_succ, List.getElem_cons_zero, Act.put, List.setIfInBounds_toArray, List.set_cons_zero, List.set_cons_succ]
  refine wpAnyH_ready (rs := [30]) (by kernel_rfl) (by simp) ?_
  refine AllReadyH.cons rfl (fun K hK => ?_) AllReadyH.nil
  go_simp
  refine Calls.mono (fbytesD HA.out _) ?_
  rintro e w77 ⟨v77, rfl, h77, b77⟩
  go_wp2_with fail
  refine hK.out _ _ (hHeld.trans (b77.mono (Nat.le_trans (Nat.le_refl _) hHeld.size))) (fun hHeld => ?_)
  clear hK K
  try simp only [List.getElem_toArray, List.getElem_cons_succ, List.getElem_cons_zero, Act.put, List.setIfInBounds_toArray, List.set_cons_zero, List.set_cons_succ]
  refine wpAnyH_ready (rs := [32]) (by kernel_rfl) (by simp) ?_
  refine AllReadyH.cons rfl (fun K hK => ?_) AllReadyH.nil
  go_simp
  refine Calls.mono (rbytes_any HA.out _) ?_
  rintro e w79 ⟨v79, rfl, h79, b79⟩
  replace h77 := h77.below b79
  go_wp2_with fail
  refine hK.out _ _ (hHeld.trans (b79.mono (Nat.le_trans (Nat.le_refl _) hHeld.size))) (fun hHeld => ?_)
  clear hK K
  try simp only [List.getElem_toArray, List.getElem_cons_succ, List.getElem_cons_zero, Act.put, List.setIfInBounds_toArray, List.set_cons_zero, List.set_cons_succ]
  refine wpAnyH_ready (rs := [33]) (by kernel_rfl) (by simp) ?_
  refine AllReadyH.cons rfl (fun K hK => ?_) AllReadyH.nil
  go_simp
  refine Calls.mono (sameB h77 h79) ?_
  rintro e w80 ⟨rfl, b80⟩
  replace h77 := h77.below b80
  replace h79 := h79.below b80
  go_wp2_with fail
  refine hK.out _ _ (hHeld.trans (b80.mono (Nat.le_trans (Nat.le_refl _) hHeld.size))) (fun hHeld => ?_)
  clear hK K
  try simp only [List.getElem_toArray, List.getElem_cons_succ, List.getElem_cons_zero, Act.put, List.setIfInBounds_toArray, List.set_cons_zero, List.set_cons_succ]
  refine wpAnyH_take (i := 34) (v := .bool true) rfl (by kernel_rfl) (by kernel_rfl) (by kernel_rfl) (fun _ _ _ h => h) (Or.inl ⟨by rfl, fun w9 hSw => ?_⟩) hHeld ?_
  · go_simp
  simp only [List.getElem_toArray, List.getElem_cons_succ, List.getElem_cons_zero, Act.put, List.setIfInBounds_toArray, List.set_cons_zero, List.set_cons_succ]
  refine wpAnyH_take (i := 35) (v := .bool true) rfl (by kernel_rfl) (by kernel_rfl) (by kernel_rfl) (fun _ _ _ h => h) (Or.inl ⟨by rfl, fun w9 hSw => ?_⟩) hHeld ?_
  · go_simp
  simp only [List.getElem_toArray, List.getElem_cons_succ, List.getElem_cons_zero, Act.put, List.setIfInBounds_toArray, List.set_cons_zero, List.set_cons_succ]
  refine wpAnyH_ready (rs := [36]) (by kernel_rfl) (by simp) ?_
  refine AllReadyH.cons rfl (fun K hK => ?_) AllReadyH.nil
  go_simp
  refine Calls.mono (alive_any _) ?_
  rintro e w83 ⟨rfl, b83⟩
  replace h77 := h77.below b83
  replace h79 := h79.below b83
  go_wp2_with fail
  refine hK.out _ _ (hHeld.trans (b83.mono (Nat.le_trans (Nat.le_refl _) hHeld.size))) (fun hHeld => ?_)
  clear hK K
  try simp only [List.getElem_toArray, List.getElem_cons_succ, List.getElem_cons_zero, Act.put, List.setIfInBounds_toArray, List.set_cons_zero, List.set_cons_succ]
  refine wpAnyH_take (i := 37) (v := .bool true) rfl (by kernel_rfl) (by kernel_rfl) (by kernel_rfl) (fun _ _ _ h => h) (Or.inl ⟨by rfl, fun w9 hSw => ?_⟩) hHeld ?_
  · go_simp
  simp only [List.getElem_toArray, List.getElem_cons_succ, List.getElem_cons_zero, Act.put, List.setIfInBounds_toArray, List.set_cons_zero, List.set_cons_succ]
  refine wpAnyH_take (i := 38) (v := .bool true) rfl (by kernel_rfl) (by kernel_rfl) (by kernel_rfl) (fun _ _ _ h => h) (Or.inl ⟨by rfl, fun w9 hSw => ?_⟩) hHeld ?_
  · go_simp
  simp only [List.getElem_toArray, List.getElem_cons_succ, List.getElem_cons_zero, Act.put, List.setIfInBounds_toArray, List.set_cons_zero, List.set_cons_succ]
  refine wpAnyH_done (by kernel_rfl) ?_ _
  have hB := V6.out.2.2.2.2.2.2.2.trans (hHeld.mono V6.out.2.2.2.2.2.2.2.size)
  clear hHeld V6
  go_wp2
  go_ret
  exact ⟨rfl, hB⟩
end Go.Proofs.Ytmflilgppllebaa
