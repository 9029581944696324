/- disk: Append without room; looks. -/
import Derived.Test.YtllkpnlgemjgfaaDR
namespace Go.Proofs.Ytllkpnlgemjgfaa
open Go.RowKit Go.Maps Go.Joins
set_option linter.unusedSimpArgs false
set_option linter.unusedVariables false
set_option maxRecDepth 100000 in
set_option maxHeartbeats 4000000 in
theorem append_full_old {w : World} {bd : Nat} {S : DS} (h : DiskIs w bd S) (hc : Cnt S) (s : ByteArray) (hs : s.size ≤ 9223372036854775807) (va : Option Addr) (vc : Nat) (bs : List Int) (hb63 : bs.length ≤ 4611686018427387904) (hE : stepE S [s] = 0) {g : Nat} (hl : look S.fs s.data.toList = some g)
    (hroom : S.room < (total S : Int) + bs.length) (hrm : S.room ≤ 1073741824) (hr0 : 0 ≤ S.room) (hT0 : total S ≤ 1073741824) :
    Calls Try.prog 14 #[.pointer (some ⟨bd, 0, none⟩), .string s, .slice va bs.length vc] w fun e w' => e = .returned (.int .i64 30) ∧ DiskIs w' bd (stepS S [s]) ∧ Fr w w' S (stepS S [s]) := by
  have HD : Hid (DiskIs w bd S ∧ Cnt S) := ⟨h, hc⟩
  have HX : Hid (DiskIs (w.alloc (.cells #[.string s] 9)) bd S ∧ Names (w.alloc (.cells #[.string s] 9)) w.heap.size [s]) := ⟨h.below (by go_grown), names_one w s hs⟩
  have hlt := h.lt
  obtain ⟨e1, e2, e3, e4, e5⟩ := stepS_fields S [s]
  have eT := total_stepS S [s]
  generalize hS1 : stepS S [s] = S1 at *
  rw [← e3] at hl
  rw [← e1, ← eT] at hroom
  rw [← e1] at hrm hr0
  rw [← eT] at hT0
  clear h hc e1 e2 e3 e4 e5 eT
  have HR : Hid (S1.room < (total S1 : Int) + bs.length ∧ S1.room ≤ 1073741824 ∧ 0 ≤ S1.room ∧ total S1 ≤ 1073741824) := ⟨hroom, hrm, hr0, hT0⟩

  clear hroom hrm hr0 hT0
  go_enter Try.func14, Try.ntmps14
  go_wp2_with (first
    | (go_at_call 37
       refine (step_any HX.out.1 HD.out.2 w.heap.size 1 [s] HX.out.2 (by simp) (by omega)).mono ?_
       rw [hE, hS1]
       rintro e w1 ⟨rfl, hD1, hG1, hZ1⟩
       have HDD : Hid (DiskIs w1 bd S1 ∧ (w.alloc (.cells #[.string s] 9)).grownBy w1 (some bd)) := ⟨hD1, hG1⟩
       have c1 : w1.cell? ⟨bd, 1, none⟩ = some (.map (some S1.bm)) := by rw [cell_of_block hD1.disk]; rfl
       have hlk := hD1.look_ok hs
       rw [hl] at hlk
       simp only [pv, Option.isSome_some, Option.isSome_none] at hlk
       have hln := fun ty => hD1.files.len Try.underlying56 ty
       rw [size_toD] at hln

       clear hD1 hG1)
    | go_in)
  have hF1 : Fr w w1 S S1 := by
    have e1 : Fr w (w.alloc (.cells #[.string s] 9)) S S := Fr.below (by go_grown)
    have e2 := HX.out.1.frG HDD.out.2 [s]
    rw [hS1] at e2
    exact e1.trans e2
  have HF : Hid (Fr w w1 S S1) := hF1
  have HD1 : Hid (DiskIs w1 bd S1) := HDD.out.1
  clear hF1 HDD c1 hlk HX hln
  refine wp_region_held_drew (S := fun w' => DiskIs w' bd S1 ∧ Below w1.heap.size w1 w') (by kernel_rfl) ⟨HD1.out.kept (fun _ _ => rfl) (Nat.le_refl _), ⟨rfl, rfl, rfl, Nat.le_refl _, fun _ _ => rfl⟩⟩ (fun hHeld => ?_)
  refine wpAnyH_take (i := 0) (v := .slice va bs.length vc) rfl (by kernel_rfl) (by kernel_rfl) (by kernel_rfl) (fun _ _ _ h => h) (Or.inl ⟨by rfl, fun w9 hSw => ?_⟩) hHeld ?_
  · go_simp
  simp only [List.getElem_toArray, List.getElem_cons_succ, List.getElem_cons_zero, Act.put, List.setIfInBounds_toArray, List.set_cons_zero, List.set_cons_succ]
  refine wpAnyH_take (i := 1) (v := .int .i64 (bs.length : Int)) rfl (by kernel_rfl) (by kernel_rfl) (by kernel_rfl) (fun _ _ _ h => h) (Or.inl ⟨by rfl, fun w9 hSw => ?_⟩) hHeld ?_
  · go_simp
  simp only [List.getElem_toArray, List.getElem_cons_succ, List.getElem_cons_zero, Act.put, List.setIfInBounds_toArray, List.set_cons_zero, List.set_cons_succ]
  refine wpAnyH_take (i := 2) (v := .pointer (some ⟨bd, 0, none⟩)) rfl (by kernel_rfl) (by kernel_rfl) (by kernel_rfl) (fun _ _ _ h => h) (Or.inl ⟨by rfl, fun w9 hSw => ?_⟩) hHeld ?_
  · go_simp
  simp only [List.getElem_toArray, List.getElem_cons_succ, List.getElem_cons_zero, Act.put, List.setIfInBounds_toArray, List.set_cons_zero, List.set_cons_succ]
  refine wpAnyH_take (i := 3) (v := .pointer (some ⟨bd, 0, none⟩)) rfl (by kernel_rfl) (by kernel_rfl) (by kernel_rfl) (fun _ _ _ h => h) (Or.inl ⟨by rfl, fun w9 hSw => ?_⟩) hHeld ?_
  · go_simp
  simp only [List.getElem_toArray, List.getElem_cons_succ, List.getElem_cons_zero, Act.put, List.setIfInBounds_toArray, List.set_cons_zero, List.set_cons_succ]
  refine wpAnyH_take (i := 4) (v := .pointer (some ⟨bd, 0, none⟩)) rfl (by kernel_rfl) (by kernel_rfl) (by kernel_rfl) (fun _ _ _ h => h) (Or.inl ⟨by rfl, fun w9 hSw => ?_⟩) hHeld ?_
  · go_simp
  simp only [List.getElem_toArray, List.getElem_cons_succ, List.getElem_cons_zero, Act.put, List.setIfInBounds_toArray, List.set_cons_zero, List.set_cons_succ]
  refine wpAnyH_take (i := 5) (v := .int .i64 S1.room) rfl (by kernel_rfl) (by kernel_rfl) (by kernel_rfl) (fun _ _ _ h => h) (Or.inl ⟨by rfl, fun w9 hSw => ?_⟩) hHeld ?_
  · have hc : w9.cell? ⟨bd, 0, none⟩ = some (.int .i64 S1.room) := (cell_of_block hSw.1.disk 0).trans rfl
    go_simp
  simp only [List.getElem_toArray, List.getElem_cons_succ, List.getElem_cons_zero, Act.put, List.setIfInBounds_toArray, List.set_cons_zero, List.set_cons_succ]
  refine wpAnyH_take (i := 6) (v := .pointer (some ⟨bd, 0, none⟩)) rfl (by kernel_rfl) (by kernel_rfl) (by kernel_rfl) (fun _ _ _ h => h) (Or.inl ⟨by rfl, fun w9 hSw => ?_⟩) hHeld ?_
  · go_simp
  simp only [List.getElem_toArray, List.getElem_cons_succ, List.getElem_cons_zero, Act.put, List.setIfInBounds_toArray, List.set_cons_zero, List.set_cons_succ]
  refine wpAnyH_ready (rs := [7]) (by kernel_rfl) (by simp) ?_
  refine AllReadyH.cons rfl (fun K hK => ?_) AllReadyH.nil
  generalize w1.drew = w2 at hHeld ⊢
  go_simp
  have hT : total S1 ≤ 4611686018427387904 := by have := HR.out; omega
  refine (used_any hHeld.1 hT).mono ?_
  rintro e w3 ⟨rfl, hb3⟩
  have hD3 : DiskIs w3 bd S1 ∧ Below w1.heap.size w1 w3 := ⟨hHeld.1.below hb3, hHeld.2.trans (hb3.mono hHeld.2.size)⟩
  clear hHeld hb3
  go_wp2_with fail
  refine hK.out _ _ hD3 (fun hHeld => ?_)
  clear hK K
  try simp only [List.getElem_toArray, List.getElem_cons_succ, List.getElem_cons_zero, Act.put, List.setIfInBounds_toArray, List.set_cons_zero, List.set_cons_succ]
  have hsub : IntKind.i64.wrap (S1.room - (total S1 : Int)) = S1.room - (total S1 : Int) := by
    have := HR.out
    rw [IntKind.wrap_i64]; omega
  have hgt : S1.room - (total S1 : Int) < (bs.length : Int) := by
    have := HR.out
    omega
  refine wpAnyH_take (i := 8) (v := .int .i64 (S1.room - (total S1 : Int))) rfl (by kernel_rfl) (by kernel_rfl) (by kernel_rfl) (fun _ _ _ h => h) (Or.inl ⟨by rfl, fun w9 hSw => ?_⟩) hHeld ?_
  · go_simp
  simp only [List.getElem_toArray, List.getElem_cons_succ, List.getElem_cons_zero, Act.put, List.setIfInBounds_toArray, List.set_cons_zero, List.set_cons_succ]
  refine wpAnyH_take (i := 9) (v := .bool true) rfl (by kernel_rfl) (by kernel_rfl) (by kernel_rfl) (fun _ _ _ h => h) (Or.inl ⟨by rfl, fun w9 hSw => ?_⟩) hHeld ?_
  · go_simp
  simp only [List.getElem_toArray, List.getElem_cons_succ, List.getElem_cons_zero, Act.put, List.setIfInBounds_toArray, List.set_cons_zero, List.set_cons_succ]
  refine wpAnyH_done (by kernel_rfl) ?_ _
  go_wp2
  go_ret
  exact ⟨rfl, hD3.1, HF.out.trans (Fr.below hD3.2)⟩
set_option maxRecDepth 100000 in
set_option maxHeartbeats 4000000 in
theorem append_full_new {w : World} {bd : Nat} {S : DS} (h : DiskIs w bd S) (hc : Cnt S) (s : ByteArray) (hs : s.size ≤ 9223372036854775807) (va : Option Addr) (vc : Nat) (bs : List Int) (hb63 : bs.length ≤ 4611686018427387904) (hE : stepE S [s] = 0) (hl : look S.fs s.data.toList = none) (hf16 : S.fs.length < 16)
    (hroom : S.room < (total S : Int) + bs.length) (hrm : S.room ≤ 1073741824) (hr0 : 0 ≤ S.room) (hT0 : total S ≤ 1073741824) :
    Calls Try.prog 14 #[.pointer (some ⟨bd, 0, none⟩), .string s, .slice va bs.length vc] w fun e w' => e = .returned (.int .i64 30) ∧ DiskIs w' bd (stepS S [s]) ∧ Fr w w' S (stepS S [s]) := by
  have HD : Hid (DiskIs w bd S ∧ Cnt S) := ⟨h, hc⟩
  have HX : Hid (DiskIs (w.alloc (.cells #[.string s] 9)) bd S ∧ Names (w.alloc (.cells #[.string s] 9)) w.heap.size [s]) := ⟨h.below (by go_grown), names_one w s hs⟩
  have hlt := h.lt
  obtain ⟨e1, e2, e3, e4, e5⟩ := stepS_fields S [s]
  have eT := total_stepS S [s]
  generalize hS1 : stepS S [s] = S1 at *
  rw [← e3] at hl hf16
  rw [← e1, ← eT] at hroom
  rw [← e1] at hrm hr0
  rw [← eT] at hT0
  clear h hc e1 e2 e3 e4 e5 eT
  have HR : Hid (S1.room < (total S1 : Int) + bs.length ∧ S1.room ≤ 1073741824 ∧ 0 ≤ S1.room ∧ total S1 ≤ 1073741824) := ⟨hroom, hrm, hr0, hT0⟩
  have hf16i : (S1.fs.length : Int) < 16 := by omega
  clear hroom hrm hr0 hT0
  go_enter Try.func14, Try.ntmps14
  go_wp2_with (first
    | (go_at_call 37
       refine (step_any HX.out.1 HD.out.2 w.heap.size 1 [s] HX.out.2 (by simp) (by omega)).mono ?_
       rw [hE, hS1]
       rintro e w1 ⟨rfl, hD1, hG1, hZ1⟩
       have HDD : Hid (DiskIs w1 bd S1 ∧ (w.alloc (.cells #[.string s] 9)).grownBy w1 (some bd)) := ⟨hD1, hG1⟩
       have c1 : w1.cell? ⟨bd, 1, none⟩ = some (.map (some S1.bm)) := by rw [cell_of_block hD1.disk]; rfl
       have hlk := hD1.look_ok hs
       rw [hl] at hlk
       simp only [pv, Option.isSome_some, Option.isSome_none] at hlk
       have hln := fun ty => hD1.files.len Try.underlying56 ty
       rw [size_toD] at hln
       have hge : decide ((16 : Int) ≤ (S1.fs.length : Int)) = false := by simp; omega
       clear hD1 hG1)
    | go_in)
  have hF1 : Fr w w1 S S1 := by
    have e1 : Fr w (w.alloc (.cells #[.string s] 9)) S S := Fr.below (by go_grown)
    have e2 := HX.out.1.frG HDD.out.2 [s]
    rw [hS1] at e2
    exact e1.trans e2
  have HF : Hid (Fr w w1 S S1) := hF1
  have HD1 : Hid (DiskIs w1 bd S1) := HDD.out.1
  clear hF1 HDD c1 hlk HX hln
  refine wp_region_held_drew (S := fun w' => DiskIs w' bd S1 ∧ Below w1.heap.size w1 w') (by kernel_rfl) ⟨HD1.out.kept (fun _ _ => rfl) (Nat.le_refl _), ⟨rfl, rfl, rfl, Nat.le_refl _, fun _ _ => rfl⟩⟩ (fun hHeld => ?_)
  refine wpAnyH_take (i := 0) (v := .slice va bs.length vc) rfl (by kernel_rfl) (by kernel_rfl) (by kernel_rfl) (fun _ _ _ h => h) (Or.inl ⟨by rfl, fun w9 hSw => ?_⟩) hHeld ?_
  · go_simp
  simp only [List.getElem_toArray, List.getElem_cons_succ, List.getElem_cons_zero, Act.put, List.setIfInBounds_toArray, List.set_cons_zero, List.set_cons_succ]
  refine wpAnyH_take (i := 1) (v := .int .i64 (bs.length : Int)) rfl (by kernel_rfl) (by kernel_rfl) (by kernel_rfl) (fun _ _ _ h => h) (Or.inl ⟨by rfl, fun w9 hSw => ?_⟩) hHeld ?_
  · go_simp
  simp only [List.getElem_toArray, List.getElem_cons_succ, List.getElem_cons_zero, Act.put, List.setIfInBounds_toArray, List.set_cons_zero, List.set_cons_succ]
  refine wpAnyH_take (i := 2) (v := .pointer (some ⟨bd, 0, none⟩)) rfl (by kernel_rfl) (by kernel_rfl) (by kernel_rfl) (fun _ _ _ h => h) (Or.inl ⟨by rfl, fun w9 hSw => ?_⟩) hHeld ?_
  · go_simp
  simp only [List.getElem_toArray, List.getElem_cons_succ, List.getElem_cons_zero, Act.put, List.setIfInBounds_toArray, List.set_cons_zero, List.set_cons_succ]
  refine wpAnyH_take (i := 3) (v := .pointer (some ⟨bd, 0, none⟩)) rfl (by kernel_rfl) (by kernel_rfl) (by kernel_rfl) (fun _ _ _ h => h) (Or.inl ⟨by rfl, fun w9 hSw => ?_⟩) hHeld ?_
  · go_simp
  simp only [List.getElem_toArray, List.getElem_cons_succ, List.getElem_cons_zero, Act.put, List.setIfInBounds_toArray, List.set_cons_zero, List.set_cons_succ]
  refine wpAnyH_take (i := 4) (v := .pointer (some ⟨bd, 0, none⟩)) rfl (by kernel_rfl) (by kernel_rfl) (by kernel_rfl) (fun _ _ _ h => h) (Or.inl ⟨by rfl, fun w9 hSw => ?_⟩) hHeld ?_
  · go_simp
  simp only [List.getElem_toArray, List.getElem_cons_succ, List.getElem_cons_zero, Act.put, List.setIfInBounds_toArray, List.set_cons_zero, List.set_cons_succ]
  refine wpAnyH_take (i := 5) (v := .int .i64 S1.room) rfl (by kernel_rfl) (by kernel_rfl) (by kernel_rfl) (fun _ _ _ h => h) (Or.inl ⟨by rfl, fun w9 hSw => ?_⟩) hHeld ?_
  · have hc : w9.cell? ⟨bd, 0, none⟩ = some (.int .i64 S1.room) := (cell_of_block hSw.1.disk 0).trans rfl
    go_simp
  simp only [List.getElem_toArray, List.getElem_cons_succ, List.getElem_cons_zero, Act.put, List.setIfInBounds_toArray, List.set_cons_zero, List.set_cons_succ]
  refine wpAnyH_take (i := 6) (v := .pointer (some ⟨bd, 0, none⟩)) rfl (by kernel_rfl) (by kernel_rfl) (by kernel_rfl) (fun _ _ _ h => h) (Or.inl ⟨by rfl, fun w9 hSw => ?_⟩) hHeld ?_
  · go_simp
  simp only [List.getElem_toArray, List.getElem_cons_succ, List.getElem_cons_zero, Act.put, List.setIfInBounds_toArray, List.set_cons_zero, List.set_cons_succ]
  refine wpAnyH_ready (rs := [7]) (by kernel_rfl) (by simp) ?_
  refine AllReadyH.cons rfl (fun K hK => ?_) AllReadyH.nil
  generalize w1.drew = w2 at hHeld ⊢
  go_simp
  have hT : total S1 ≤ 4611686018427387904 := by have := HR.out; omega
  refine (used_any hHeld.1 hT).mono ?_
  rintro e w3 ⟨rfl, hb3⟩
  have hD3 : DiskIs w3 bd S1 ∧ Below w1.heap.size w1 w3 := ⟨hHeld.1.below hb3, hHeld.2.trans (hb3.mono hHeld.2.size)⟩
  clear hHeld hb3
  go_wp2_with fail
  refine hK.out _ _ hD3 (fun hHeld => ?_)
  clear hK K
  try simp only [List.getElem_toArray, List.getElem_cons_succ, List.getElem_cons_zero, Act.put, List.setIfInBounds_toArray, List.set_cons_zero, List.set_cons_succ]
  have hsub : IntKind.i64.wrap (S1.room - (total S1 : Int)) = S1.room - (total S1 : Int) := by
    have := HR.out
    rw [IntKind.wrap_i64]; omega
  have hgt : S1.room - (total S1 : Int) < (bs.length : Int) := by
    have := HR.out
    omega
  refine wpAnyH_take (i := 8) (v := .int .i64 (S1.room - (total S1 : Int))) rfl (by kernel_rfl) (by kernel_rfl) (by kernel_rfl) (fun _ _ _ h => h) (Or.inl ⟨by rfl, fun w9 hSw => ?_⟩) hHeld ?_
  · go_simp
  simp only [List.getElem_toArray, List.getElem_cons_succ, List.getElem_cons_zero, Act.put, List.setIfInBounds_toArray, List.set_cons_zero, List.set_cons_succ]
  refine wpAnyH_take (i := 9) (v := .bool true) rfl (by kernel_rfl) (by kernel_rfl) (by kernel_rfl) (fun _ _ _ h => h) (Or.inl ⟨by rfl, fun w9 hSw => ?_⟩) hHeld ?_
  · go_simp
  simp only [List.getElem_toArray, List.getElem_cons_succ, List.getElem_cons_zero, Act.put, List.setIfInBounds_toArray, List.set_cons_zero, List.set_cons_succ]
  refine wpAnyH_done (by kernel_rfl) ?_ _
  go_wp2
  go_ret
  exact ⟨rfl, hD3.1, HF.out.trans (Fr.below hD3.2)⟩
set_option maxHeartbeats 1000000 in
/-- Down -/
theorem down_any {w : World} {bd : Nat} {S : DS} (h : DiskIs w bd S) : Calls Try.prog 12 #[.pointer (some ⟨bd, 0, none⟩)] w fun e w' => e = .returned (.bool S.down) ∧ w' = w := by
  have c2 : w.cell? ⟨bd, 2, none⟩ = some (.bool S.down) := by rw [cell_of_block h.disk]; rfl
  clear h
  go_enter Try.func12, Try.ntmps12
  go_wp2
  go_ret
  exact ⟨rfl, rfl⟩
set_option maxHeartbeats 1000000 in
/-- Steps -/
theorem steps_any {w : World} {bd : Nat} {S : DS} (h : DiskIs w bd S) : Calls Try.prog 13 #[.pointer (some ⟨bd, 0, none⟩)] w fun e w' => e = .returned (.int .i64 S.steps) ∧ w' = w := by
  have c3 : w.cell? ⟨bd, 3, none⟩ = some (.int .i64 S.steps) := by rw [cell_of_block h.disk]; rfl
  clear h
  go_enter Try.func13, Try.ntmps13
  go_wp2
  go_ret
  exact ⟨rfl, rfl⟩
set_option maxHeartbeats 1000000 in
/-- List -/
theorem list_down {w : World} {bd : Nat} {S : DS} (h : DiskIs w bd S) (hd : S.down = true) : Calls Try.prog 10 #[.pointer (some ⟨bd, 0, none⟩)] w fun e w' => e = .returned (.slice none 0 0) ∧ w' = w := by
  have c2 : w.cell? ⟨bd, 2, none⟩ = some (.bool true) := by rw [cell_of_block h.disk]; simp [dC, hd]
  clear h
  go_enter Try.func10, Try.ntmps10
  go_wp2
  go_ret
  exact ⟨rfl, rfl⟩
set_option maxHeartbeats 1000000 in
theorem list_up {w : World} {bd : Nat} {S : DS} (h : DiskIs w bd S) (hd : S.down = false) (hl : S.fs.length ≤ 1000) : Calls Try.prog 10 #[.pointer (some ⟨bd, 0, none⟩)] w fun e w' => ∃ (v : Value) (ss : List (List UInt8)), e = .returned v ∧ ss.Perm (S.fs.map (·.1)) ∧ w'.ownsRow w.heap.size 9 1 v ss.length ((ss.mergeSort (fun x y => decide (x ≤ y))).map encStr) ∧ (v = .slice none 0 0 ↔ ss = []) ∧ Below w.heap.size w w' := by
  have c2 : w.cell? ⟨bd, 2, none⟩ = some (.bool false) := by rw [cell_of_block h.disk]; simp [dC, hd]
  have HH : Hid (DiskIs w bd S) := h
  clear h
  go_enter Try.func10, Try.ntmps10
  go_wp2_with (first
    | (go_at_call 36; refine (names_any HH.out hl).mono ?_; rintro e w1 ⟨v, ss, rfl, hp, hr, hn, hb⟩)
    | go_in)
  go_ret
  exact ⟨v, ss, rfl, hp, hr, hn, hb⟩
end Go.Proofs.Ytllkpnlgemjgfaa
