/- DS, RA, RB, RC, RD, RE, laid into one text. -/
import Derived.Test.YtconkienlcegaaaGreatDoorM9
import Derived.BigQuiet
import Derived.WalkLawsBesides
/- disk: Append without room; looks. -/
namespace Go.Proofs.YtconkienlcegaaaGreatDoor
open Go.RowKit Go.Maps Go.Joins
set_option linter.unusedSimpArgs false
set_option linter.unusedVariables false
set_option maxRecDepth 100000 in
set_option maxHeartbeats 4000000 in
theorem append_full_old {w : World} {bd : Nat} {S : DS} (h : DiskIs w bd S) (hc : Cnt S) (s : ByteArray) (hs : s.size ≤ 9223372036854775807) (va : Option Addr) (vc : Nat) (bs : List Int) (hb63 : bs.length ≤ 4611686018427387904) (hE : stepE S [s] = 0) {g : Nat} (hl : look S.fs s.data.toList = some g)
    (hroom : S.room < (total S : Int) + bs.length) (hrm : S.room ≤ 1073741824) (hr0 : 0 ≤ S.room) (hT0 : total S ≤ 1073741824) :
    Calls Tryz.prog 35 #[.pointer (some ⟨bd, 0, none⟩), .string s, .slice va bs.length vc] w fun e w' => e = .returned (.int .i64 30) ∧ DiskIs w' bd (stepS S [s]) ∧ Fr w w' S (stepS S [s]) := by
  have HD : Hid (DiskIs w bd S ∧ Cnt S) := ⟨h, hc⟩
  have HX : Hid (DiskIs (w.alloc (.cells #[.string s] 9)) bd S ∧ Names (w.alloc (.cells #[.string s] 9)) w.heap.size [s]) := ⟨h.below (by go_grown), names_one w s hs⟩
  have hlt := h.lt
  obtain ⟨e1, e2, e3, e4, e5⟩ := stepS_fields S [s]
  have eT := total_stepS S [s]
  generalize hS1 : stepS S [s] = S1 at *
  rw [← e3] at hl
  rw [← e1, ← eT] at hroom
  rw [← e1] at hrm hr0
  rw [← eT] at hT0
  clear h hc e1 e2 e3 e4 e5 eT
  have HR : Hid (S1.room < (total S1 : Int) + bs.length ∧ S1.room ≤ 1073741824 ∧ 0 ≤ S1.room ∧ total S1 ≤ 1073741824) := ⟨hroom, hrm, hr0, hT0⟩

  clear hroom hrm hr0 hT0
  go_enter Tryz.func35, Tryz.ntmps35
  go_wp2_with (first
    | (go_at_call 63
       refine (step_any HX.out.1 HD.out.2 w.heap.size 1 [s] HX.out.2 (by simp) (by omega)).mono ?_
       rw [hE, hS1]
       rintro e w1 ⟨rfl, hD1, hG1, hZ1⟩
       have HDD : Hid (DiskIs w1 bd S1 ∧ (w.alloc (.cells #[.string s] 9)).grownBy w1 (some bd)) := ⟨hD1, hG1⟩
       have c1 : w1.cell? ⟨bd, 1, none⟩ = some (.map (some S1.bm)) := by rw [cell_of_block hD1.disk]; rfl
       have hlk := hD1.look_ok hs
       rw [hl] at hlk
       simp only [pv, Option.isSome_some, Option.isSome_none] at hlk
       have hln := fun ty => hD1.files.len Tryz.underlying86 ty
       rw [size_toD] at hln

       clear hD1 hG1)
    | go_in)
  have hF1 : Fr w w1 S S1 := by
    have e1 : Fr w (w.alloc (.cells #[.string s] 9)) S S := Fr.below (by go_grown)
    have e2 := HX.out.1.frG HDD.out.2 [s]
    rw [hS1] at e2
    exact e1.trans e2
  have HF : Hid (Fr w w1 S S1) := hF1
  have HD1 : Hid (DiskIs w1 bd S1) := HDD.out.1
  clear hF1 HDD c1 hlk HX hln
  refine wp_region_held_drew (S := fun w' => DiskIs w' bd S1 ∧ Below w1.heap.size w1 w') (by kernel_rfl) ⟨HD1.out.kept (fun _ _ => rfl) (Nat.le_refl _), ⟨rfl, rfl, rfl, Nat.le_refl _, fun _ _ => rfl⟩⟩ (fun hHeld => ?_)
  refine wpAnyH_take (i := 0) (v := .slice va bs.length vc) rfl (by kernel_rfl) (by kernel_rfl) (by kernel_rfl) (fun _ _ _ h => h) (Or.inl ⟨by rfl, fun w9 hSw => ?_⟩) hHeld ?_
  · go_simp
  simp only [List.getElem_toArray, List.getElem_cons_succ, List.getElem_cons_zero, Act.put, List.setIfInBounds_toArray, List.set_cons_zero, List.set_cons_succ]
  refine wpAnyH_take (i := 1) (v := .int .i64 (bs.length : Int)) rfl (by kernel_rfl) (by kernel_rfl) (by kernel_rfl) (fun _ _ _ h => h) (Or.inl ⟨by rfl, fun w9 hSw => ?_⟩) hHeld ?_
  · go_simp
  simp only [List.getElem_toArray, List.getElem_cons_succ, List.getElem_cons_zero, Act.put, List.setIfInBounds_toArray, List.set_cons_zero, List.set_cons_succ]
  refine wpAnyH_take (i := 2) (v := .pointer (some ⟨bd, 0, none⟩)) rfl (by kernel_rfl) (by kernel_rfl) (by kernel_rfl) (fun _ _ _ h => h) (Or.inl ⟨by rfl, fun w9 hSw => ?_⟩) hHeld ?_
  · go_simp
  simp only [List.getElem_toArray, List.getElem_cons_succ, List.getElem_cons_zero, Act.put, List.setIfInBounds_toArray, List.set_cons_zero, List.set_cons_succ]
  refine wpAnyH_take (i := 3) (v := .pointer (some ⟨bd, 0, none⟩)) rfl (by kernel_rfl) (by kernel_rfl) (by kernel_rfl) (fun _ _ _ h => h) (Or.inl ⟨by rfl, fun w9 hSw => ?_⟩) hHeld ?_
  · go_simp
  simp only [List.getElem_toArray, List.getElem_cons_succ, List.getElem_cons_zero, Act.put, List.setIfInBounds_toArray, List.set_cons_zero, List.set_cons_succ]
  refine wpAnyH_take (i := 4) (v := .pointer (some ⟨bd, 0, none⟩)) rfl (by kernel_rfl) (by kernel_rfl) (by kernel_rfl) (fun _ _ _ h => h) (Or.inl ⟨by rfl, fun w9 hSw => ?_⟩) hHeld ?_
  · go_simp
  simp only [List.getElem_toArray, List.getElem_cons_succ, List.getElem_cons_zero, Act.put, List.setIfInBounds_toArray, List.set_cons_zero, List.set_cons_succ]
  refine wpAnyH_take (i := 5) (v := .int .i64 S1.room) rfl (by kernel_rfl) (by kernel_rfl) (by kernel_rfl) (fun _ _ _ h => h) (Or.inl ⟨by rfl, fun w9 hSw => ?_⟩) hHeld ?_
  · have hc : w9.cell? ⟨bd, 0, none⟩ = some (.int .i64 S1.room) := (cell_of_block hSw.1.disk 0).trans rfl
    go_simp
  simp only [List.getElem_toArray, List.getElem_cons_succ, List.getElem_cons_zero, Act.put, List.setIfInBounds_toArray, List.set_cons_zero, List.set_cons_succ]
  refine wpAnyH_take (i := 6) (v := .pointer (some ⟨bd, 0, none⟩)) rfl (by kernel_rfl) (by kernel_rfl) (by kernel_rfl) (fun _ _ _ h => h) (Or.inl ⟨by rfl, fun w9 hSw => ?_⟩) hHeld ?_
  · go_simp
  simp only [List.getElem_toArray, List.getElem_cons_succ, List.getElem_cons_zero, Act.put, List.setIfInBounds_toArray, List.set_cons_zero, List.set_cons_succ]
  refine wpAnyH_ready (rs := [7]) (by kernel_rfl) (by simp) ?_
  refine AllReadyH.cons rfl (fun K hK => ?_) AllReadyH.nil
  generalize w1.drew = w2 at hHeld ⊢
  go_simp
  have hT : total S1 ≤ 4611686018427387904 := by have := HR.out; omega
  refine (used_any hHeld.1 hT).mono ?_
  rintro e w3 ⟨rfl, hb3⟩
  have hD3 : DiskIs w3 bd S1 ∧ Below w1.heap.size w1 w3 := ⟨hHeld.1.below hb3, hHeld.2.trans (hb3.mono hHeld.2.size)⟩
  clear hHeld hb3
  go_wp2_with fail
  refine hK.out _ _ hD3 (fun hHeld => ?_)
  clear hK K
  try simp only [List.getElem_toArray, List.getElem_cons_succ, List.getElem_cons_zero, Act.put, List.setIfInBounds_toArray, List.set_cons_zero, List.set_cons_succ]
  have hsub : IntKind.i64.wrap (S1.room - (total S1 : Int)) = S1.room - (total S1 : Int) := by
    have := HR.out
    rw [IntKind.wrap_i64]; omega
  have hgt : S1.room - (total S1 : Int) < (bs.length : Int) := by
    have := HR.out
    omega
  refine wpAnyH_take (i := 8) (v := .int .i64 (S1.room - (total S1 : Int))) rfl (by kernel_rfl) (by kernel_rfl) (by kernel_rfl) (fun _ _ _ h => h) (Or.inl ⟨by rfl, fun w9 hSw => ?_⟩) hHeld ?_
  · go_simp
  simp only [List.getElem_toArray, List.getElem_cons_succ, List.getElem_cons_zero, Act.put, List.setIfInBounds_toArray, List.set_cons_zero, List.set_cons_succ]
  refine wpAnyH_take (i := 9) (v := .bool true) rfl (by kernel_rfl) (by kernel_rfl) (by kernel_rfl) (fun _ _ _ h => h) (Or.inl ⟨by rfl, fun w9 hSw => ?_⟩) hHeld ?_
  · go_simp
  simp only [List.getElem_toArray, List.getElem_cons_succ, List.getElem_cons_zero, Act.put, List.setIfInBounds_toArray, List.set_cons_zero, List.set_cons_succ]
  refine wpAnyH_done (by kernel_rfl) ?_ _
  go_wp2
  go_ret
  exact ⟨rfl, hD3.1, HF.out.trans (Fr.below hD3.2)⟩
set_option maxRecDepth 100000 in
set_option maxHeartbeats 4000000 in
theorem append_full_new {w : World} {bd : Nat} {S : DS} (h : DiskIs w bd S) (hc : Cnt S) (s : ByteArray) (hs : s.size ≤ 9223372036854775807) (va : Option Addr) (vc : Nat) (bs : List Int) (hb63 : bs.length ≤ 4611686018427387904) (hE : stepE S [s] = 0) (hl : look S.fs s.data.toList = none) (hf16 : S.fs.length < 16)
    (hroom : S.room < (total S : Int) + bs.length) (hrm : S.room ≤ 1073741824) (hr0 : 0 ≤ S.room) (hT0 : total S ≤ 1073741824) :
    Calls Tryz.prog 35 #[.pointer (some ⟨bd, 0, none⟩), .string s, .slice va bs.length vc] w fun e w' => e = .returned (.int .i64 30) ∧ DiskIs w' bd (stepS S [s]) ∧ Fr w w' S (stepS S [s]) := by
  have HD : Hid (DiskIs w bd S ∧ Cnt S) := ⟨h, hc⟩
  have HX : Hid (DiskIs (w.alloc (.cells #[.string s] 9)) bd S ∧ Names (w.alloc (.cells #[.string s] 9)) w.heap.size [s]) := ⟨h.below (by go_grown), names_one w s hs⟩
  have hlt := h.lt
  obtain ⟨e1, e2, e3, e4, e5⟩ := stepS_fields S [s]
  have eT := total_stepS S [s]
  generalize hS1 : stepS S [s] = S1 at *
  rw [← e3] at hl hf16
  rw [← e1, ← eT] at hroom
  rw [← e1] at hrm hr0
  rw [← eT] at hT0
  clear h hc e1 e2 e3 e4 e5 eT
  have HR : Hid (S1.room < (total S1 : Int) + bs.length ∧ S1.room ≤ 1073741824 ∧ 0 ≤ S1.room ∧ total S1 ≤ 1073741824) := ⟨hroom, hrm, hr0, hT0⟩
  have hf16i : (S1.fs.length : Int) < 16 := by omega
  clear hroom hrm hr0 hT0
  go_enter Tryz.func35, Tryz.ntmps35
  go_wp2_with (first
    | (go_at_call 63
       refine (step_any HX.out.1 HD.out.2 w.heap.size 1 [s] HX.out.2 (by simp) (by omega)).mono ?_
       rw [hE, hS1]
       rintro e w1 ⟨rfl, hD1, hG1, hZ1⟩
       have HDD : Hid (DiskIs w1 bd S1 ∧ (w.alloc (.cells #[.string s] 9)).grownBy w1 (some bd)) := ⟨hD1, hG1⟩
       have c1 : w1.cell? ⟨bd, 1, none⟩ = some (.map (some S1.bm)) := by rw [cell_of_block hD1.disk]; rfl
       have hlk := hD1.look_ok hs
       rw [hl] at hlk
       simp only [pv, Option.isSome_some, Option.isSome_none] at hlk
       have hln := fun ty => hD1.files.len Tryz.underlying86 ty
       rw [size_toD] at hln
       have hge : decide ((16 : Int) ≤ (S1.fs.length : Int)) = false := by simp; omega
       clear hD1 hG1)
    | go_in)
  have hF1 : Fr w w1 S S1 := by
    have e1 : Fr w (w.alloc (.cells #[.string s] 9)) S S := Fr.below (by go_grown)
    have e2 := HX.out.1.frG HDD.out.2 [s]
    rw [hS1] at e2
    exact e1.trans e2
  have HF : Hid (Fr w w1 S S1) := hF1
  have HD1 : Hid (DiskIs w1 bd S1) := HDD.out.1
  clear hF1 HDD c1 hlk HX hln
  refine wp_region_held_drew (S := fun w' => DiskIs w' bd S1 ∧ Below w1.heap.size w1 w') (by kernel_rfl) ⟨HD1.out.kept (fun _ _ => rfl) (Nat.le_refl _), ⟨rfl, rfl, rfl, Nat.le_refl _, fun _ _ => rfl⟩⟩ (fun hHeld => ?_)
  refine wpAnyH_take (i := 0) (v := .slice va bs.length vc) rfl (by kernel_rfl) (by kernel_rfl) (by kernel_rfl) (fun _ _ _ h => h) (Or.inl ⟨by rfl, fun w9 hSw => ?_⟩) hHeld ?_
  · go_simp
  simp only [List.getElem_toArray, List.getElem_cons_succ, List.getElem_cons_zero, Act.put, List.setIfInBounds_toArray, List.set_cons_zero, List.set_cons_succ]
  refine wpAnyH_take (i := 1) (v := .int .i64 (bs.length : Int)) rfl (by kernel_rfl) (by kernel_rfl) (by kernel_rfl) (fun _ _ _ h => h) (Or.inl ⟨by rfl, fun w9 hSw => ?_⟩) hHeld ?_
  · go_simp
  simp only [List.getElem_toArray, List.getElem_cons_succ, List.getElem_cons_zero, Act.put, List.setIfInBounds_toArray, List.set_cons_zero, List.set_cons_succ]
  refine wpAnyH_take (i := 2) (v := .pointer (some ⟨bd, 0, none⟩)) rfl (by kernel_rfl) (by kernel_rfl) (by kernel_rfl) (fun _ _ _ h => h) (Or.inl ⟨by rfl, fun w9 hSw => ?_⟩) hHeld ?_
  · go_simp
  simp only [List.getElem_toArray, List.getElem_cons_succ, List.getElem_cons_zero, Act.put, List.setIfInBounds_toArray, List.set_cons_zero, List.set_cons_succ]
  refine wpAnyH_take (i := 3) (v := .pointer (some ⟨bd, 0, none⟩)) rfl (by kernel_rfl) (by kernel_rfl) (by kernel_rfl) (fun _ _ _ h => h) (Or.inl ⟨by rfl, fun w9 hSw => ?_⟩) hHeld ?_
  · go_simp
  simp only [List.getElem_toArray, List.getElem_cons_succ, List.getElem_cons_zero, Act.put, List.setIfInBounds_toArray, List.set_cons_zero, List.set_cons_succ]
  refine wpAnyH_take (i := 4) (v := .pointer (some ⟨bd, 0, none⟩)) rfl (by kernel_rfl) (by kernel_rfl) (by kernel_rfl) (fun _ _ _ h => h) (Or.inl ⟨by rfl, fun w9 hSw => ?_⟩) hHeld ?_
  · go_simp
  simp only [List.getElem_toArray, List.getElem_cons_succ, List.getElem_cons_zero, Act.put, List.setIfInBounds_toArray, List.set_cons_zero, List.set_cons_succ]
  refine wpAnyH_take (i := 5) (v := .int .i64 S1.room) rfl (by kernel_rfl) (by kernel_rfl) (by kernel_rfl) (fun _ _ _ h => h) (Or.inl ⟨by rfl, fun w9 hSw => ?_⟩) hHeld ?_
  · have hc : w9.cell? ⟨bd, 0, none⟩ = some (.int .i64 S1.room) := (cell_of_block hSw.1.disk 0).trans rfl
    go_simp
  simp only [List.getElem_toArray, List.getElem_cons_succ, List.getElem_cons_zero, Act.put, List.setIfInBounds_toArray, List.set_cons_zero, List.set_cons_succ]
  refine wpAnyH_take (i := 6) (v := .pointer (some ⟨bd, 0, none⟩)) rfl (by kernel_rfl) (by kernel_rfl) (by kernel_rfl) (fun _ _ _ h => h) (Or.inl ⟨by rfl, fun w9 hSw => ?_⟩) hHeld ?_
  · go_simp
  simp only [List.getElem_toArray, List.getElem_cons_succ, List.getElem_cons_zero, Act.put, List.setIfInBounds_toArray, List.set_cons_zero, List.set_cons_succ]
  refine wpAnyH_ready (rs := [7]) (by kernel_rfl) (by simp) ?_
  refine AllReadyH.cons rfl (fun K hK => ?_) AllReadyH.nil
  generalize w1.drew = w2 at hHeld ⊢
  go_simp
  have hT : total S1 ≤ 4611686018427387904 := by have := HR.out; omega
  refine (used_any hHeld.1 hT).mono ?_
  rintro e w3 ⟨rfl, hb3⟩
  have hD3 : DiskIs w3 bd S1 ∧ Below w1.heap.size w1 w3 := ⟨hHeld.1.below hb3, hHeld.2.trans (hb3.mono hHeld.2.size)⟩
  clear hHeld hb3
  go_wp2_with fail
  refine hK.out _ _ hD3 (fun hHeld => ?_)
  clear hK K
  try simp only [List.getElem_toArray, List.getElem_cons_succ, List.getElem_cons_zero, Act.put, List.setIfInBounds_toArray, List.set_cons_zero, List.set_cons_succ]
  have hsub : IntKind.i64.wrap (S1.room - (total S1 : Int)) = S1.room - (total S1 : Int) := by
    have := HR.out
    rw [IntKind.wrap_i64]; omega
  have hgt : S1.room - (total S1 : Int) < (bs.length : Int) := by
    have := HR.out
    omega
  refine wpAnyH_take (i := 8) (v := .int .i64 (S1.room - (total S1 : Int))) rfl (by kernel_rfl) (by kernel_rfl) (by kernel_rfl) (fun _ _ _ h => h) (Or.inl ⟨by rfl, fun w9 hSw => ?_⟩) hHeld ?_
  · go_simp
  simp only [List.getElem_toArray, List.getElem_cons_succ, List.getElem_cons_zero, Act.put, List.setIfInBounds_toArray, List.set_cons_zero, List.set_cons_succ]
  refine wpAnyH_take (i := 9) (v := .bool true) rfl (by kernel_rfl) (by kernel_rfl) (by kernel_rfl) (fun _ _ _ h => h) (Or.inl ⟨by rfl, fun w9 hSw => ?_⟩) hHeld ?_
  · go_simp
  simp only [List.getElem_toArray, List.getElem_cons_succ, List.getElem_cons_zero, Act.put, List.setIfInBounds_toArray, List.set_cons_zero, List.set_cons_succ]
  refine wpAnyH_done (by kernel_rfl) ?_ _
  go_wp2
  go_ret
  exact ⟨rfl, hD3.1, HF.out.trans (Fr.below hD3.2)⟩
set_option maxHeartbeats 1000000 in
/-- Down -/
theorem down_any {w : World} {bd : Nat} {S : DS} (h : DiskIs w bd S) : Calls Tryz.prog 71 #[.pointer (some ⟨bd, 0, none⟩)] w fun e w' => e = .returned (.bool S.down) ∧ w' = w := by
  have c2 : w.cell? ⟨bd, 2, none⟩ = some (.bool S.down) := by rw [cell_of_block h.disk]; rfl
  clear h
  go_enter Tryz.func71, Tryz.ntmps71
  go_wp2
  go_ret
  exact ⟨rfl, rfl⟩
set_option maxHeartbeats 1000000 in
theorem list_up {w : World} {bd : Nat} {S : DS} (h : DiskIs w bd S) (hd : S.down = false) (hl : S.fs.length ≤ 1000) : Calls Tryz.prog 73 #[.pointer (some ⟨bd, 0, none⟩)] w fun e w' => ∃ (v : Value) (ss : List (List UInt8)), e = .returned v ∧ ss.Perm (S.fs.map (·.1)) ∧ w'.ownsRow w.heap.size 9 1 v ss.length ((ss.mergeSort (fun x y => decide (x ≤ y))).map encStr) ∧ (v = .slice none 0 0 ↔ ss = []) ∧ Below w.heap.size w w' := by
  have c2 : w.cell? ⟨bd, 2, none⟩ = some (.bool false) := by rw [cell_of_block h.disk]; simp [dC, hd]
  have HH : Hid (DiskIs w bd S) := h
  clear h
  go_enter Tryz.func73, Tryz.ntmps73
  go_wp2_with (first
    | (go_at_call 55; refine (names_any HH.out hl).mono ?_; rintro e w1 ⟨v, ss, rfl, hp, hr, hn, hb⟩)
    | go_in)
  go_ret
  exact ⟨v, ss, rfl, hp, hr, hn, hb⟩
end Go.Proofs.YtconkienlcegaaaGreatDoor
/- disk: how the document's disk lies in memory; at. -/
namespace Go.Proofs.YtconkienlcegaaaGreatDoor
open Go.RowKit Go.Maps Go.Joins
set_option linter.unusedSimpArgs false
set_option linter.unusedVariables false
theorem eqS (a b : ByteArray) : (a.toList == b.toList) = decide (a = b) := by
  rw [Lib.toList_data, Lib.toList_data]
  rw [Bool.eq_iff_iff]
  simp only [beq_iff_eq, decide_eq_true_eq]
  constructor
  · intro h
    cases a; cases b
    simp at h
    rw [h]
  · intro h
    rw [h]
/-- A file of the document's disk. -/
structure RF where
  nm : ByteArray
  bv : Value
  bs : List Int
  sf : Int
def rfC (f : RF) : List Value := [.string f.nm, f.bv, .int .i64 f.sf]
def rfL (A : List RF) : List Value := A.flatMap rfC
structure RS where
  room : Int
  frm : Int
  n : Int
  lv : Value
  A : List RF
  pv : Value
  plan : List (Int × Int)
  down : Bool
  own : Nat → Nat
def plL (l : List (Int × Int)) : List Value := l.flatMap fun p => [.int .i64 p.1, .int .i64 p.2]
def rC (R : RS) : Array Value := #[.int .i64 R.room, .int .i64 R.frm, .int .i64 R.n, R.lv, R.pv, .bool R.down]
/-- Block br is the document's disk. -/
structure RefIs (w : World) (br : Nat) (R : RS) : Prop where
  disk : w.heap[br]? = some (.cells (rC R) 55)
  rd : R.own br = 1
  list : w.ownsRow 0 119 3 R.lv R.A.length (rfL R.A)
  rl : ∀ b, R.lv.ownBlock = some b → R.own b = 2
  row : ∀ f ∈ R.A, w.ownsRow 0 5 1 f.bv f.bs.length (vB f.bs)
  rr : ∀ f ∈ R.A, ∀ b, f.bv.ownBlock = some b → R.own b = 3
  nm : ∀ f ∈ R.A, f.nm.size ≤ 9223372036854775807
  plan : w.ownsRow 0 123 2 R.pv R.plan.length (plL R.plan)
  rp : ∀ b, R.pv.ownBlock = some b → R.own b = 4
  fresh : ∀ b, w.heap.size ≤ b → R.own b = 0
theorem RefIs.kept {w w' : World} {br : Nat} {R : RS} (h : RefIs w br R) (hk : ∀ b, R.own b ≠ 0 → w'.heap[b]? = w.heap[b]?) (hs : w.heap.size ≤ w'.heap.size) : RefIs w' br R where
  disk := (hk br (by rw [h.rd]; simp)).trans h.disk
  rd := h.rd
  list := ownsRow_heap h.list (fun b hb => hk b (by rw [h.rl b hb]; simp))
  rl := h.rl
  row := fun f hf => ownsRow_heap (h.row f hf) (fun b hb => hk b (by rw [h.rr f hf b hb]; simp))
  rr := h.rr
  nm := h.nm
  plan := ownsRow_heap h.plan (fun b hb => hk b (by rw [h.rp b hb]; simp))
  rp := h.rp
  fresh := fun b hb => h.fresh b (by omega)
theorem RefIs.own_lt {w : World} {br b : Nat} {R : RS} (h : RefIs w br R) (hb : R.own b ≠ 0) : b < w.heap.size := by
  rcases Nat.lt_or_ge b w.heap.size with h1 | h1
  · exact h1
  · exact absurd (h.fresh b h1) hb
theorem RefIs.below {w w' : World} {br : Nat} {R : RS} (h : RefIs w br R) (hb : Below w.heap.size w w') : RefIs w' br R :=
  h.kept (fun b hr => hb.block b (h.own_lt hr)) hb.size
/-- What lies beside the document's disk stays. -/
structure RFr (w w' : World) (R R' : RS) : Prop where
  os : w'.os = w.os
  tape : w'.tape = w.tape
  output : w'.output = w.output
  size : w.heap.size ≤ w'.heap.size
  block : ∀ b, b < w.heap.size → R.own b = 0 → w'.heap[b]? = w.heap[b]?
  own : ∀ b, b < w.heap.size → R.own b = 0 → R'.own b = 0
theorem RFr.refl (w : World) (R : RS) : RFr w w R R := ⟨rfl, rfl, rfl, Nat.le_refl _, fun _ _ _ => rfl, fun _ _ h => h⟩
theorem RFr.trans {w w' w'' : World} {R R' R'' : RS} (h : RFr w w' R R') (k : RFr w' w'' R' R'') : RFr w w'' R R'' :=
  ⟨k.os.trans h.os, k.tape.trans h.tape, k.output.trans h.output, Nat.le_trans h.size k.size,
   fun b hb hr => (k.block b (Nat.lt_of_lt_of_le hb h.size) (h.own b hb hr)).trans (h.block b hb hr),
   fun b hb hr => k.own b (Nat.lt_of_lt_of_le hb h.size) (h.own b hb hr)⟩
theorem RFr.below {w w' : World} {R : RS} (h : Below w.heap.size w w') : RFr w w' R R :=
  ⟨h.os, h.tape, h.output, h.size, fun b hb _ => h.block b hb, fun _ _ hr => hr⟩
theorem rfL_get (A : List RF) : ∀ (k : Nat) (f : RF) (j : Nat), A[k]? = some f → j < 3 → (rfL A)[3 * k + j]? = (rfC f)[j]? := by
  induction A with
  | nil => intro k f j h; simp at h
  | cons a r ih =>
    intro k f j h hj
    have e : rfL (a :: r) = rfC a ++ rfL r := by simp [rfL]
    cases k with
    | zero =>
      simp at h
      subst h
      rw [e, List.getElem?_append_left (by simp [rfC]; omega)]
      simp
    | succ k =>
      simp at h
      rw [e, List.getElem?_append_right (by simp [rfC]; omega)]
      have := ih k f j h hj
      rw [← this]
      congr 1
      simp [rfC]
      omega
/-- A file's cells in the list. -/
theorem RefIs.cell {w : World} {br : Nat} {R : RS} (h : RefIs w br R) {k : Nat} {f : RF} (hk : R.A[k]? = some f) : ∃ g cap, R.lv = .slice (some ⟨g, 0, none⟩) R.A.length cap ∧ R.own g = 2 ∧ g < w.heap.size ∧ R.A.length ≤ cap ∧
    ∀ j v, (rfC f)[j]? = some v → w.cell? ⟨g, k * 3 + j, none⟩ = some v := by
  have hkl := (List.getElem?_eq_some_iff.1 hk).1
  rcases h.list.2 with ⟨_, h0⟩ | ⟨g, cap, cur, hv, _, hg, hc, _⟩
  · omega
  · refine ⟨g, cap, hv, h.rl g (by rw [hv]; rfl), heap_lt hg, hc, fun j v hj => ?_⟩
    have hj3 : j < 3 := by
      have := (List.getElem?_eq_some_iff.1 hj).1
      simpa [rfC] using this
    have := h.list.cells (g := g) (by rw [hv]; rfl) (3 * k + j) v (by rw [rfL_get R.A k f j hk hj3]; exact hj)
    rw [Addr.add_lit, Nat.zero_add, Nat.mul_comm] at this
    exact this
end Go.Proofs.YtconkienlcegaaaGreatDoor
/- disk: the document's step without a plan; there. -/
namespace Go.Proofs.YtconkienlcegaaaGreatDoor
open Go.RowKit Go.Maps Go.Joins
set_option linter.unusedSimpArgs false
set_option linter.unusedVariables false
/-- Only the disk's own block has turned. -/
theorem RefIs.setD {w w' : World} {br : Nat} {R : RS} (h : RefIs w br R) (n : Int) (dn : Bool) (hk : ∀ b, b ≠ br → w'.heap[b]? = w.heap[b]?) (hs : w.heap.size ≤ w'.heap.size)
    (hd : w'.heap[br]? = some (.cells (rC { R with n := n, down := dn }) 55)) : RefIs w' br { R with n := n, down := dn } where
  disk := hd
  rd := h.rd
  list := ownsRow_heap h.list (fun b hb => hk b (fun e => by have := h.rl b hb; rw [e, h.rd] at this; cases this))
  rl := h.rl
  row := fun f hf => ownsRow_heap (h.row f hf) (fun b hb => hk b (fun e => by have := h.rr f hf b hb; rw [e, h.rd] at this; cases this))
  rr := h.rr
  nm := h.nm
  plan := ownsRow_heap h.plan (fun b hb => hk b (fun e => by have := h.rp b hb; rw [e, h.rd] at this; cases this))
  rp := h.rp
  fresh := fun b hb => h.fresh b (by omega)
theorem RefIs.lt {w : World} {br : Nat} {R : RS} (h : RefIs w br R) : br < w.heap.size := heap_lt h.disk
/-- The kind of the fault that the next step meets. -/
def rplK (R : RS) : Int := match R.plan.find? (fun p => p.1 == R.n + 1 - R.frm) with
  | some p => p.2
  | none => 0
/-- A plan as Arm takes it. -/
structure PlanR (R : RS) : Prop where
  len : R.plan.length ≤ 64
  kind : ∀ p ∈ R.plan, 1 ≤ p.2 ∧ p.2 ≤ 3
  frm : R.plan ≠ [] → 0 ≤ R.frm ∧ R.frm ≤ R.n
theorem PlanR.nil {R : RS} (h : R.plan = []) : PlanR R := ⟨by rw [h]; simp, by rw [h]; simp, fun h' => absurd h h'⟩
def rstE (R : RS) (a b : ByteArray) : Int := if R.down then 32 else if nameB a && nameB b then faultE (rplK R) else 1
def rstS (R : RS) (a b : ByteArray) : RS := if R.down then R else if nameB a && nameB b then { R with n := R.n + 1, down := decide (rplK R = 3) } else R
end Go.Proofs.YtconkienlcegaaaGreatDoor
/- disk: the document's drop. -/
namespace Go.Proofs.YtconkienlcegaaaGreatDoor
open Go.RowKit Go.Maps Go.Joins
set_option linter.unusedSimpArgs false
set_option linter.unusedVariables false
/-- The document's disk with another list. -/
def setA (R : RS) (ov : Value) (A : List RF) (ex : Option Nat) : RS := { R with lv := ov, A := A, own := fun b => if ov.ownBlock = some b then 2 else if ex = some b then 3 else R.own b }
theorem RefIs.setL {w w' : World} {br : Nat} {R : RS} (h : RefIs w br R) (ov : Value) (A : List RF) (ex : Option Nat) (hk : ∀ b, b < w.heap.size → b ≠ br → w'.heap[b]? = w.heap[b]?) (hs : w.heap.size ≤ w'.heap.size)
    (hd : w'.heap[br]? = some (.cells (rC (setA R ov A ex)) 55)) (hl : w'.ownsRow w.heap.size 119 3 ov A.length (rfL A)) (hex : ∀ b, ex = some b → b < w.heap.size ∧ (R.own b = 0 ∨ R.own b = 3))
    (hrow : ∀ f ∈ A, f ∈ R.A ∨ (w'.ownsRow 0 5 1 f.bv f.bs.length (vB f.bs) ∧ f.bv.ownBlock = ex ∧ f.nm.size ≤ 9223372036854775807)) : RefIs w' br (setA R ov A ex) := by
  have hlt := hl.lt
  have hold : ∀ b, R.own b ≠ 0 → R.own b ≠ 3 → (setA R ov A ex).own b = R.own b := fun b h0 h3 => by
    show (if _ then _ else if _ then _ else _) = _
    have := h.own_lt h0
    rw [if_neg (fun e => by have := (hlt b e).1; omega), if_neg (fun e => by rcases (hex b e).2 with h1 | h1 <;> contradiction)]
  have h3 : ∀ b, R.own b = 3 → (setA R ov A ex).own b = 3 := fun b h3 => by
    show (if _ then _ else if _ then _ else _) = _
    have := h.own_lt (b := b) (by rw [h3]; simp)
    rw [if_neg (fun e => by have := (hlt b e).1; omega)]
    split
    · rfl
    · exact h3
  have hk' : ∀ b, R.own b ≠ 0 → R.own b ≠ 1 → w'.heap[b]? = w.heap[b]? := fun b h0 h1 => hk b (h.own_lt h0) (fun e => h1 (by rw [e]; exact h.rd))
  refine ⟨hd, ?_, ownsRow_le hl (Nat.zero_le _), fun b hb => ?_, fun f hf => ?_, fun f hf b hb => ?_, fun f hf => ?_, ?_, fun b hb => ?_, fun b hb => ?_⟩
  · rw [hold br (by rw [h.rd]; simp) (by rw [h.rd]; simp)]; exact h.rd
  · have hb' : ov.ownBlock = some b := hb
    show (if _ then _ else _) = _
    rw [if_pos hb']
  · rcases hrow f hf with h1 | h1
    · exact ownsRow_heap (h.row f h1) (fun b hb => hk' b (by rw [h.rr f h1 b hb]; simp) (by rw [h.rr f h1 b hb]; simp))
    · exact h1.1
  · rcases hrow f hf with h1 | h1
    · exact h3 b (h.rr f h1 b hb)
    · rw [h1.2.1] at hb
      show (if _ then _ else if _ then _ else _) = _
      have := (hex b hb).1
      rw [if_neg (fun e => by have := (hlt b e).1; omega), if_pos hb]
  · rcases hrow f hf with h1 | h1
    · exact h.nm f h1
    · exact h1.2.2
  · exact ownsRow_heap h.plan (fun b hb => hk' b (by rw [h.rp b hb]; simp) (by rw [h.rp b hb]; simp))
  · have := h.rp b hb
    rw [hold _ (by rw [this]; simp) (by rw [this]; simp)]; exact this
  · show (if _ then _ else if _ then _ else _) = _
    rw [if_neg (fun e => by have := (hlt b e).2; omega), if_neg (fun e => by have := (hex b e).1; omega)]
    exact h.fresh b (by omega)
end Go.Proofs.YtconkienlcegaaaGreatDoor
/- disk: the document's put. -/
namespace Go.Proofs.YtconkienlcegaaaGreatDoor
open Go.RowKit Go.Maps Go.Joins
set_option linter.unusedSimpArgs false
set_option linter.unusedVariables false
def ltR (a f : RF) : Bool := Op.bytesLess a.nm.toList f.nm.toList
/-- One round of put: what is out, and is f among it? -/
def putSt (f : RF) (s : List RF × Bool) (a : RF) : List RF × Bool :=
  ((if !s.2 && !ltR a f then s.1 ++ [f] else s.1) ++ (if a.nm = f.nm then [] else [a]), s.2 || !ltR a f)
def putTo (f : RF) (l : List RF) : List RF × Bool := l.foldl (putSt f) ([], false)
def putR (f : RF) (A : List RF) : List RF := if (putTo f A).2 then (putTo f A).1 else (putTo f A).1 ++ [f]
theorem putTo_mem (f : RF) : ∀ (l : List RF) (s : List RF × Bool) (P : RF → Prop), (∀ x ∈ s.1, P x) → P f → (∀ x ∈ l, P x) → ∀ x ∈ (l.foldl (putSt f) s).1, P x
  | [], s, P, h1, _, _ => h1
  | a :: r, s, P, h1, h2, h3 => by
    refine putTo_mem f r (putSt f s a) P ?_ h2 (fun x hx => h3 x (List.mem_cons_of_mem _ hx))
    intro x hx
    unfold putSt at hx
    rcases List.mem_append.1 hx with hx | hx
    · split at hx
      · rcases List.mem_append.1 hx with hx | hx
        · exact h1 x hx
        · rw [List.mem_singleton.1 hx]; exact h2
      · exact h1 x hx
    · split at hx
      · cases hx
      · rw [List.mem_singleton.1 hx]; exact h3 a (List.mem_cons_self ..)
theorem putR_mem {f : RF} {A : List RF} {x : RF} (h : x ∈ putR f A) : x ∈ A ∨ x = f := by
  have key := putTo_mem f A ([], false) (fun x => x ∈ A ∨ x = f) (fun _ h => by cases h) (Or.inr rfl) (fun x hx => Or.inl hx)
  unfold putR at h
  split at h
  · exact key x h
  · rcases List.mem_append.1 h with h | h
    · exact key x h
    · exact Or.inr (List.mem_singleton.1 h)
/-- What put has in hand. -/
def PK (w : World) (f : RF) (o : Value) (L : List RF) (X : World) : Prop := X.ownsRow (w.heap.size + 1) 119 3 o L.length (rfL L) ∧ Below (w.heap.size + 1) (w.alloc (.cells #[.string f.nm, f.bv, .int .i64 f.sf] 119)) X
theorem PK.app {w X Y : World} {f x : RF} {o v' : Value} {L : List RF} (h : PK w f o L X) (hx : ∃ a l c, x.bv = .slice a l c) (c : Obj) (ho : Y.ownsRow (w.heap.size + 1) 119 3 v' (L ++ [x]).length (rfL (L ++ [x]))) (hg : (X.alloc c).grownBy Y o.ownBlock) : PK w f v' (L ++ [x]) Y := by
  have hs : (w.alloc (.cells #[.string f.nm, f.bv, .int .i64 f.sf] 119)).heap.size = w.heap.size + 1 := by simp
  have h1 := h.2.size
  rw [hs] at h1
  have hA : Below (w.heap.size + 1) (w.alloc (.cells #[.string f.nm, f.bv, .int .i64 f.sf] 119)) (X.alloc c) := h.2.alloc h1 c
  have h2 : w.heap.size + 1 ≤ (X.alloc c).heap.size := by simp; omega
  exact ⟨ho, hA.grown hg h2 (fun j hj => (h.1.lt j hj).1)⟩
theorem PK.drew {w X : World} {f : RF} {o : Value} {L : List RF} (h : PK w f o L X) : PK w f o L X.drew := ⟨h.1, ⟨h.2.os, h.2.tape, h.2.output, h.2.size, h.2.block⟩⟩
theorem PK.size {w X : World} {f : RF} {o : Value} {L : List RF} (h : PK w f o L X) : w.heap.size + 1 ≤ X.heap.size := by
  have h1 := h.2.size
  have hs : (w.alloc (.cells #[.string f.nm, f.bv, .int .i64 f.sf] 119)).heap.size = w.heap.size + 1 := by simp
  rw [hs] at h1
  exact h1
end Go.Proofs.YtconkienlcegaaaGreatDoor
/- disk: the document's New, Remove, Read, Sync, Truncate. -/
namespace Go.Proofs.YtconkienlcegaaaGreatDoor
open Go.RowKit Go.Maps Go.Joins
set_option linter.unusedSimpArgs false
set_option linter.unusedVariables false
def Rn (R : RS) : Prop := 0 ≤ R.n ∧ R.n < 4611686018427387904
end Go.Proofs.YtconkienlcegaaaGreatDoor
