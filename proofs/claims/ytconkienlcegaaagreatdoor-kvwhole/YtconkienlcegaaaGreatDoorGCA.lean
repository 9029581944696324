/- DS, RA, RB, RE, CA -/
import Derived.Test.YtconkienlcegaaaGreatDoorGDQ
import Derived.BigQuiet
import Derived.WalkLawsBesides
namespace Go.Proofs.YtconkienlcegaaaGreatDoor
open Go.RowKit Go.Maps Go.Joins
set_option linter.unusedSimpArgs false
set_option linter.unusedVariables false
set_option maxRecDepth 100000 in
set_option maxHeartbeats 4000000 in
theorem append_full_old {w : World} {bd : Nat} {S : DS} (h : DiskIs w bd S) (hc : Cnt S) (s : ByteArray) (hs : s.size ≤ 9223372036854775807) (va : Option Addr) (vc : Nat) (bs : List Int) (hb63 : bs.length ≤ 4611686018427387904) (hE : stepE S [s] = 0) {g : Nat} (hl : look S.fs s.data.toList = some g)
 (hroom : S.room < (total S : Int) + bs.length) (hrm : S.room ≤ 1073741824) (hr0 : 0 ≤ S.room) (hT0 : total S ≤ 1073741824) :
 Calls Tryz.prog 35 #[.pointer (some ⟨bd, 0, none⟩), .string s, .slice va bs.length vc] w fun e w' => e = .returned (.int .i64 30) ∧ DiskIs w' bd (stepS S [s]) ∧ Fr w w' S (stepS S [s]) := by
 have HD : Hid (DiskIs w bd S ∧ Cnt S) := ⟨h, hc⟩
 have HX : Hid (DiskIs (w.alloc (.cells #[.string s] 9)) bd S ∧ Names (w.alloc (.cells #[.string s] 9)) w.heap.size [s]) := ⟨h.below (by go_grown), names_one w s hs⟩
 have hlt := h.lt; obtain ⟨e1, e2, e3, e4, e5⟩ := stepS_fields S [s]; have eT := total_stepS S [s]; generalize hS1 : stepS S [s] = S1 at *; rw [← e3] at hl; rw [← e1, ← eT] at hroom; rw [← e1] at hrm hr0; rw [← eT] at hT0; clear h hc e1 e2 e3 e4 e5 eT; have HR : Hid (S1.room < (total S1 : Int) + bs.length ∧ S1.room ≤ 1073741824 ∧ 0 ≤ S1.room ∧ total S1 ≤ 1073741824) := ⟨hroom, hrm, hr0, hT0⟩
 clear hroom hrm hr0 hT0; go_enter Tryz.func35, Tryz.ntmps35; go_wp2_with (first
  | (go_at_call 63
     refine (step_any HX.out.1 HD.out.2 w.heap.size 1 [s] HX.out.2 (by simp) (by omega)).mono ?_; rw [hE, hS1]; rintro e w1 ⟨rfl, hD1, hG1, hZ1⟩; have HDD : Hid (DiskIs w1 bd S1 ∧ (w.alloc (.cells #[.string s] 9)).grownBy w1 (some bd)) := ⟨hD1, hG1⟩
     have c1 : w1.cell? ⟨bd, 1, none⟩ = some (.map (some S1.bm)) := by rw [cell_of_block hD1.disk]; rfl
     have hlk := hD1.look_ok hs; rw [hl] at hlk; simp only [pv, Option.isSome_some, Option.isSome_none] at hlk; have hln := fun ty => hD1.files.len Tryz.underlying86 ty
     rw [size_toD] at hln; clear hD1 hG1)
  | go_in)
 have hF1 : Fr w w1 S S1 := by
  have e1 : Fr w (w.alloc (.cells #[.string s] 9)) S S := Fr.below (by go_grown); have e2 := HX.out.1.frG HDD.out.2 [s]; rw [hS1] at e2; exact e1.trans e2
 have HF : Hid (Fr w w1 S S1) := hF1; have HD1 : Hid (DiskIs w1 bd S1) := HDD.out.1; clear hF1 HDD c1 hlk HX hln; refine wp_region_held_drew (S := fun w' => DiskIs w' bd S1 ∧ Below w1.heap.size w1 w') (by kernel_rfl) ⟨HD1.out.kept (fun _ _ => rfl) (Nat.le_refl _), ⟨rfl, rfl, rfl, Nat.le_refl _, fun _ _ => rfl⟩⟩ (fun hHeld => ?_); refine wpAnyH_take (i := 0) (v := .slice va bs.length vc) rfl (by kernel_rfl) (by kernel_rfl) (by kernel_rfl) (fun _ _ _ h => h) (Or.inl ⟨by rfl, fun w9 hSw => ?_⟩) hHeld ?_
 · go_simp
 simp only [List.getElem_toArray, List.getElem_cons_succ, List.getElem_cons_zero, Act.put, List.setIfInBounds_toArray, List.set_cons_zero, List.set_cons_succ]; refine wpAnyH_take (i := 1) (v := .int .i64 (bs.length : Int)) rfl (by kernel_rfl) (by kernel_rfl) (by kernel_rfl) (fun _ _ _ h => h) (Or.inl ⟨by rfl, fun w9 hSw => ?_⟩) hHeld ?_
 · go_simp
 simp only [List.getElem_toArray, List.getElem_cons_succ, List.getElem_cons_zero, Act.put, List.setIfInBounds_toArray, List.set_cons_zero, List.set_cons_succ]; refine wpAnyH_take (i := 2) (v := .pointer (some ⟨bd, 0, none⟩)) rfl (by kernel_rfl) (by kernel_rfl) (by kernel_rfl) (fun _ _ _ h => h) (Or.inl ⟨by rfl, fun w9 hSw => ?_⟩) hHeld ?_
 · go_simp
 simp only [List.getElem_toArray, List.getElem_cons_succ, List.getElem_cons_zero, Act.put, List.setIfInBounds_toArray, List.set_cons_zero, List.set_cons_succ]; refine wpAnyH_take (i := 3) (v := .pointer (some ⟨bd, 0, none⟩)) rfl (by kernel_rfl) (by kernel_rfl) (by kernel_rfl) (fun _ _ _ h => h) (Or.inl ⟨by rfl, fun w9 hSw => ?_⟩) hHeld ?_
 · go_simp
 simp only [List.getElem_toArray, List.getElem_cons_succ, List.getElem_cons_zero, Act.put, List.setIfInBounds_toArray, List.set_cons_zero, List.set_cons_succ]; refine wpAnyH_take (i := 4) (v := .pointer (some ⟨bd, 0, none⟩)) rfl (by kernel_rfl) (by kernel_rfl) (by kernel_rfl) (fun _ _ _ h => h) (Or.inl ⟨by rfl, fun w9 hSw => ?_⟩) hHeld ?_
 · go_simp
 simp only [List.getElem_toArray, List.getElem_cons_succ, List.getElem_cons_zero, Act.put, List.setIfInBounds_toArray, List.set_cons_zero, List.set_cons_succ]; refine wpAnyH_take (i := 5) (v := .int .i64 S1.room) rfl (by kernel_rfl) (by kernel_rfl) (by kernel_rfl) (fun _ _ _ h => h) (Or.inl ⟨by rfl, fun w9 hSw => ?_⟩) hHeld ?_
 · have hc : w9.cell? ⟨bd, 0, none⟩ = some (.int .i64 S1.room) := (cell_of_block hSw.1.disk 0).trans rfl
   go_simp
 simp only [List.getElem_toArray, List.getElem_cons_succ, List.getElem_cons_zero, Act.put, List.setIfInBounds_toArray, List.set_cons_zero, List.set_cons_succ]; refine wpAnyH_take (i := 6) (v := .pointer (some ⟨bd, 0, none⟩)) rfl (by kernel_rfl) (by kernel_rfl) (by kernel_rfl) (fun _ _ _ h => h) (Or.inl ⟨by rfl, fun w9 hSw => ?_⟩) hHeld ?_
 · go_simp
 simp only [List.getElem_toArray, List.getElem_cons_succ, List.getElem_cons_zero, Act.put, List.setIfInBounds_toArray, List.set_cons_zero, List.set_cons_succ]; refine wpAnyH_ready (rs := [7]) (by kernel_rfl) (by simp) ?_; refine AllReadyH.cons rfl (fun K hK => ?_) AllReadyH.nil; generalize w1.drew = w2 at hHeld ⊢; go_simp; have hT : total S1 ≤ 4611686018427387904 := by have := HR.out; omega
 refine (used_any hHeld.1 hT).mono ?_; rintro e w3 ⟨rfl, hb3⟩; have hD3 : DiskIs w3 bd S1 ∧ Below w1.heap.size w1 w3 := ⟨hHeld.1.below hb3, hHeld.2.trans (hb3.mono hHeld.2.size)⟩
 clear hHeld hb3; go_wp2_with fail; refine hK.out _ _ hD3 (fun hHeld => ?_); clear hK K; try simp only [List.getElem_toArray, List.getElem_cons_succ, List.getElem_cons_zero, Act.put, List.setIfInBounds_toArray, List.set_cons_zero, List.set_cons_succ]
 have hsub : IntKind.i64.wrap (S1.room - (total S1 : Int)) = S1.room - (total S1 : Int) := by
  have := HR.out; rw [IntKind.wrap_i64]; omega
 have hgt : S1.room - (total S1 : Int) < (bs.length : Int) := by
  have := HR.out; omega
 refine wpAnyH_take (i := 8) (v := .int .i64 (S1.room - (total S1 : Int))) rfl (by kernel_rfl) (by kernel_rfl) (by kernel_rfl) (fun _ _ _ h => h) (Or.inl ⟨by rfl, fun w9 hSw => ?_⟩) hHeld ?_
 · go_simp
 simp only [List.getElem_toArray, List.getElem_cons_succ, List.getElem_cons_zero, Act.put, List.setIfInBounds_toArray, List.set_cons_zero, List.set_cons_succ]; refine wpAnyH_take (i := 9) (v := .bool true) rfl (by kernel_rfl) (by kernel_rfl) (by kernel_rfl) (fun _ _ _ h => h) (Or.inl ⟨by rfl, fun w9 hSw => ?_⟩) hHeld ?_
 · go_simp
 simp only [List.getElem_toArray, List.getElem_cons_succ, List.getElem_cons_zero, Act.put, List.setIfInBounds_toArray, List.set_cons_zero, List.set_cons_succ]; refine wpAnyH_done (by kernel_rfl) ?_ _; go_wp2; go_ret; exact ⟨rfl, hD3.1, HF.out.trans (Fr.below hD3.2)⟩
set_option maxRecDepth 100000 in
set_option maxHeartbeats 4000000 in
theorem append_full_new {w : World} {bd : Nat} {S : DS} (h : DiskIs w bd S) (hc : Cnt S) (s : ByteArray) (hs : s.size ≤ 9223372036854775807) (va : Option Addr) (vc : Nat) (bs : List Int) (hb63 : bs.length ≤ 4611686018427387904) (hE : stepE S [s] = 0) (hl : look S.fs s.data.toList = none) (hf16 : S.fs.length < 16)
 (hroom : S.room < (total S : Int) + bs.length) (hrm : S.room ≤ 1073741824) (hr0 : 0 ≤ S.room) (hT0 : total S ≤ 1073741824) :
 Calls Tryz.prog 35 #[.pointer (some ⟨bd, 0, none⟩), .string s, .slice va bs.length vc] w fun e w' => e = .returned (.int .i64 30) ∧ DiskIs w' bd (stepS S [s]) ∧ Fr w w' S (stepS S [s]) := by
 have HD : Hid (DiskIs w bd S ∧ Cnt S) := ⟨h, hc⟩
 have HX : Hid (DiskIs (w.alloc (.cells #[.string s] 9)) bd S ∧ Names (w.alloc (.cells #[.string s] 9)) w.heap.size [s]) := ⟨h.below (by go_grown), names_one w s hs⟩
 have hlt := h.lt; obtain ⟨e1, e2, e3, e4, e5⟩ := stepS_fields S [s]; have eT := total_stepS S [s]; generalize hS1 : stepS S [s] = S1 at *; rw [← e3] at hl hf16; rw [← e1, ← eT] at hroom; rw [← e1] at hrm hr0; rw [← eT] at hT0; clear h hc e1 e2 e3 e4 e5 eT; have HR : Hid (S1.room < (total S1 : Int) + bs.length ∧ S1.room ≤ 1073741824 ∧ 0 ≤ S1.room ∧ total S1 ≤ 1073741824) := ⟨hroom, hrm, hr0, hT0⟩
 have hf16i : (S1.fs.length : Int) < 16 := by omega
 clear hroom hrm hr0 hT0; go_enter Tryz.func35, Tryz.ntmps35; go_wp2_with (first
  | (go_at_call 63
     refine (step_any HX.out.1 HD.out.2 w.heap.size 1 [s] HX.out.2 (by simp) (by omega)).mono ?_; rw [hE, hS1]; rintro e w1 ⟨rfl, hD1, hG1, hZ1⟩; have HDD : Hid (DiskIs w1 bd S1 ∧ (w.alloc (.cells #[.string s] 9)).grownBy w1 (some bd)) := ⟨hD1, hG1⟩
     have c1 : w1.cell? ⟨bd, 1, none⟩ = some (.map (some S1.bm)) := by rw [cell_of_block hD1.disk]; rfl
     have hlk := hD1.look_ok hs; rw [hl] at hlk; simp only [pv, Option.isSome_some, Option.isSome_none] at hlk; have hln := fun ty => hD1.files.len Tryz.underlying86 ty
     rw [size_toD] at hln; have hge : decide ((16 : Int) ≤ (S1.fs.length : Int)) = false := by simp; omega
     clear hD1 hG1)
  | go_in)
 have hF1 : Fr w w1 S S1 := by
  have e1 : Fr w (w.alloc (.cells #[.string s] 9)) S S := Fr.below (by go_grown); have e2 := HX.out.1.frG HDD.out.2 [s]; rw [hS1] at e2; exact e1.trans e2
 have HF : Hid (Fr w w1 S S1) := hF1; have HD1 : Hid (DiskIs w1 bd S1) := HDD.out.1; clear hF1 HDD c1 hlk HX hln; refine wp_region_held_drew (S := fun w' => DiskIs w' bd S1 ∧ Below w1.heap.size w1 w') (by kernel_rfl) ⟨HD1.out.kept (fun _ _ => rfl) (Nat.le_refl _), ⟨rfl, rfl, rfl, Nat.le_refl _, fun _ _ => rfl⟩⟩ (fun hHeld => ?_); refine wpAnyH_take (i := 0) (v := .slice va bs.length vc) rfl (by kernel_rfl) (by kernel_rfl) (by kernel_rfl) (fun _ _ _ h => h) (Or.inl ⟨by rfl, fun w9 hSw => ?_⟩) hHeld ?_
 · go_simp
 simp only [List.getElem_toArray, List.getElem_cons_succ, List.getElem_cons_zero, Act.put, List.setIfInBounds_toArray, List.set_cons_zero, List.set_cons_succ]; refine wpAnyH_take (i := 1) (v := .int .i64 (bs.length : Int)) rfl (by kernel_rfl) (by kernel_rfl) (by kernel_rfl) (fun _ _ _ h => h) (Or.inl ⟨by rfl, fun w9 hSw => ?_⟩) hHeld ?_
 · go_simp
 simp only [List.getElem_toArray, List.getElem_cons_succ, List.getElem_cons_zero, Act.put, List.setIfInBounds_toArray, List.set_cons_zero, List.set_cons_succ]; refine wpAnyH_take (i := 2) (v := .pointer (some ⟨bd, 0, none⟩)) rfl (by kernel_rfl) (by kernel_rfl) (by kernel_rfl) (fun _ _ _ h => h) (Or.inl ⟨by rfl, fun w9 hSw => ?_⟩) hHeld ?_
 · go_simp
 simp only [List.getElem_toArray, List.getElem_cons_succ, List.getElem_cons_zero, Act.put, List.setIfInBounds_toArray, List.set_cons_zero, List.set_cons_succ]; refine wpAnyH_take (i := 3) (v := .pointer (some ⟨bd, 0, none⟩)) rfl (by kernel_rfl) (by kernel_rfl) (by kernel_rfl) (fun _ _ _ h => h) (Or.inl ⟨by rfl, fun w9 hSw => ?_⟩) hHeld ?_
 · go_simp
 simp only [List.getElem_toArray, List.getElem_cons_succ, List.getElem_cons_zero, Act.put, List.setIfInBounds_toArray, List.set_cons_zero, List.set_cons_succ]; refine wpAnyH_take (i := 4) (v := .pointer (some ⟨bd, 0, none⟩)) rfl (by kernel_rfl) (by kernel_rfl) (by kernel_rfl) (fun _ _ _ h => h) (Or.inl ⟨by rfl, fun w9 hSw => ?_⟩) hHeld ?_
 · go_simp
 simp only [List.getElem_toArray, List.getElem_cons_succ, List.getElem_cons_zero, Act.put, List.setIfInBounds_toArray, List.set_cons_zero, List.set_cons_succ]; refine wpAnyH_take (i := 5) (v := .int .i64 S1.room) rfl (by kernel_rfl) (by kernel_rfl) (by kernel_rfl) (fun _ _ _ h => h) (Or.inl ⟨by rfl, fun w9 hSw => ?_⟩) hHeld ?_
 · have hc : w9.cell? ⟨bd, 0, none⟩ = some (.int .i64 S1.room) := (cell_of_block hSw.1.disk 0).trans rfl
   go_simp
 simp only [List.getElem_toArray, List.getElem_cons_succ, List.getElem_cons_zero, Act.put, List.setIfInBounds_toArray, List.set_cons_zero, List.set_cons_succ]; refine wpAnyH_take (i := 6) (v := .pointer (some ⟨bd, 0, none⟩)) rfl (by kernel_rfl) (by kernel_rfl) (by kernel_rfl) (fun _ _ _ h => h) (Or.inl ⟨by rfl, fun w9 hSw => ?_⟩) hHeld ?_
 · go_simp
 simp only [List.getElem_toArray, List.getElem_cons_succ, List.getElem_cons_zero, Act.put, List.setIfInBounds_toArray, List.set_cons_zero, List.set_cons_succ]; refine wpAnyH_ready (rs := [7]) (by kernel_rfl) (by simp) ?_; refine AllReadyH.cons rfl (fun K hK => ?_) AllReadyH.nil; generalize w1.drew = w2 at hHeld ⊢; go_simp; have hT : total S1 ≤ 4611686018427387904 := by have := HR.out; omega
 refine (used_any hHeld.1 hT).mono ?_; rintro e w3 ⟨rfl, hb3⟩; have hD3 : DiskIs w3 bd S1 ∧ Below w1.heap.size w1 w3 := ⟨hHeld.1.below hb3, hHeld.2.trans (hb3.mono hHeld.2.size)⟩
 clear hHeld hb3; go_wp2_with fail; refine hK.out _ _ hD3 (fun hHeld => ?_); clear hK K; try simp only [List.getElem_toArray, List.getElem_cons_succ, List.getElem_cons_zero, Act.put, List.setIfInBounds_toArray, List.set_cons_zero, List.set_cons_succ]
 have hsub : IntKind.i64.wrap (S1.room - (total S1 : Int)) = S1.room - (total S1 : Int) := by
  have := HR.out; rw [IntKind.wrap_i64]; omega
 have hgt : S1.room - (total S1 : Int) < (bs.length : Int) := by
  have := HR.out; omega
 refine wpAnyH_take (i := 8) (v := .int .i64 (S1.room - (total S1 : Int))) rfl (by kernel_rfl) (by kernel_rfl) (by kernel_rfl) (fun _ _ _ h => h) (Or.inl ⟨by rfl, fun w9 hSw => ?_⟩) hHeld ?_
 · go_simp
 simp only [List.getElem_toArray, List.getElem_cons_succ, List.getElem_cons_zero, Act.put, List.setIfInBounds_toArray, List.set_cons_zero, List.set_cons_succ]; refine wpAnyH_take (i := 9) (v := .bool true) rfl (by kernel_rfl) (by kernel_rfl) (by kernel_rfl) (fun _ _ _ h => h) (Or.inl ⟨by rfl, fun w9 hSw => ?_⟩) hHeld ?_
 · go_simp
 simp only [List.getElem_toArray, List.getElem_cons_succ, List.getElem_cons_zero, Act.put, List.setIfInBounds_toArray, List.set_cons_zero, List.set_cons_succ]; refine wpAnyH_done (by kernel_rfl) ?_ _; go_wp2; go_ret; exact ⟨rfl, hD3.1, HF.out.trans (Fr.below hD3.2)⟩
set_option maxHeartbeats 1000000 in
/-- Down -/
theorem down_any {w : World} {bd : Nat} {S : DS} (h : DiskIs w bd S) : Calls Tryz.prog 71 #[.pointer (some ⟨bd, 0, none⟩)] w fun e w' => e = .returned (.bool S.down) ∧ w' = w := by
 have c2 : w.cell? ⟨bd, 2, none⟩ = some (.bool S.down) := by rw [cell_of_block h.disk]; rfl
 clear h; go_enter Tryz.func71, Tryz.ntmps71; go_wp2; go_ret; exact ⟨rfl, rfl⟩
set_option maxHeartbeats 1000000 in
theorem list_up {w : World} {bd : Nat} {S : DS} (h : DiskIs w bd S) (hd : S.down = false) (hl : S.fs.length ≤ 1000) : Calls Tryz.prog 73 #[.pointer (some ⟨bd, 0, none⟩)] w fun e w' => ∃ (v : Value) (ss : List (List UInt8)), e = .returned v ∧ ss.Perm (S.fs.map (·.1)) ∧ w'.ownsRow w.heap.size 9 1 v ss.length ((ss.mergeSort (fun x y => decide (x ≤ y))).map encStr) ∧ (v = .slice none 0 0 ↔ ss = []) ∧ Below w.heap.size w w' := by
 have c2 : w.cell? ⟨bd, 2, none⟩ = some (.bool false) := by rw [cell_of_block h.disk]; simp [dC, hd]
 have HH : Hid (DiskIs w bd S) := h; clear h; go_enter Tryz.func73, Tryz.ntmps73; go_wp2_with (first
  | (go_at_call 55; refine (names_any HH.out hl).mono ?_; rintro e w1 ⟨v, ss, rfl, hp, hr, hn, hb⟩)
  | go_in)
 go_ret; exact ⟨v, ss, rfl, hp, hr, hn, hb⟩
theorem eqS (a b : ByteArray) : (a.toList == b.toList) = decide (a = b) := by
 rw [Lib.toList_data, Lib.toList_data]; rw [Bool.eq_iff_iff]; simp only [beq_iff_eq, decide_eq_true_eq]; constructor
 · intro h
   cases a; cases b
   simp at h; rw [h]
 · intro h
   rw [h]
/-- A file of the document's disk. -/
structure RF where
 nm : ByteArray
 bv : Value
 bs : List Int
 sf : Int
structure RS where
 room : Int
 frm : Int
 n : Int
 lv : Value
 A : List RF
 pv : Value
 plan : List (Int × Int)
 down : Bool
 own : Nat → Nat
def plL (l : List (Int × Int)) : List Value := l.flatMap fun p => [.int .i64 p.1, .int .i64 p.2]
/-- A plan as Arm takes it. -/
structure PlanR (R : RS) : Prop where
 len : R.plan.length ≤ 64
 kind : ∀ p ∈ R.plan, 1 ≤ p.2 ∧ p.2 ≤ 3
 frm : R.plan ≠ [] → 0 ≤ R.frm ∧ R.frm ≤ R.n
theorem plL_get {l : List (Int × Int)} {k : Nat} {p : Int × Int} (h : l[k]? = some p) : (plL l)[k * 2]? = some (.int .i64 p.1) ∧ (plL l)[k * 2 + 1]? = some (.int .i64 p.2) := by
 induction l generalizing k with
 | nil => simp at h
 | cons q l ih =>
   cases k with
   | zero =>
     simp at h; subst h; simp [plL]
   | succ k =>
     simp at h; have := ih h; have e : plL (q :: l) = .int .i64 q.1 :: .int .i64 q.2 :: plL l := rfl; rw [e, show (k + 1) * 2 = k * 2 + 2 by omega, show k * 2 + 2 + 1 = (k * 2 + 1) + 2 by omega]; exact this
def Rn (R : RS) : Prop := 0 ≤ R.n ∧ R.n < 4611686018427387904
/-- A file, told: its name, its bytes, how many are safe. -/
abbrev Tf := List UInt8 × List Int × Int
def absP (S : DS) : List Tf := S.fs.map fun p => (p.1, (S.fl p.1).bs, (S.fl p.1).safe)
def tR (f : RF) : Tf := (f.nm.data.toList, f.bs, f.sf)
def absR (A : List RF) : List Tf := A.map tR
def insT (x : Tf) : List Tf → List Tf
 | [] => [x]
 | y :: r => if bytesBefore x.1 y.1 then x :: y :: r else y :: insT x r
def delT (l : List Tf) (n : List UInt8) : List Tf := l.filter fun p => !(p.1 == n)
def putT (l : List Tf) (x : Tf) : List Tf := insT x (delT l x.1)
def setT (l : List Tf) (n : List UInt8) (b : List Int) (s : Int) : List Tf := l.map fun p => if p.1 = n then (n, b, s) else p
def Srt (l : List Tf) : Prop := l.Pairwise fun p q => bytesBefore p.1 q.1 = true
def sumT : List Tf → Nat
 | [] => 0
 | p :: r => p.2.1.length + sumT r
theorem less_before : ∀ (x y : List UInt8), Op.bytesLess x y = bytesBefore x y
 | [], [] => rfl
 | [], _ :: _ => rfl
 | _ :: _, [] => rfl
 | a :: x, b :: y => by simp only [Op.bytesLess, bytesBefore, less_before x y]
theorem nm_eq {a b : ByteArray} : a = b ↔ a.data.toList = b.data.toList := by
 constructor
 · intro h; rw [h]
 · intro h
   cases a; cases b
   simp at h; rw [h]
/-! the program's -/
theorem absP_del (S : DS) (n : List UInt8) : absP (delFs S n) = delT (absP S) n := by
 unfold absP delFs delT delL; simp only [List.filter_map]; rfl
theorem map_insL {S' : DS} (x : List UInt8 × Nat) : ∀ l : List (List UInt8 × Nat), (insL x l).map (fun p => ((p.1, (S'.fl p.1).bs, (S'.fl p.1).safe) : Tf)) = insT (x.1, (S'.fl x.1).bs, (S'.fl x.1).safe) (l.map fun p => (p.1, (S'.fl p.1).bs, (S'.fl p.1).safe))
 | [] => rfl
 | y :: r => by
   simp only [insL, List.map_cons, insT]; split
   · rfl
   · rw [List.map_cons, map_insL x r]
theorem absP_put (S S' : DS) (n : List UInt8) (g : Nat) (l : List (List UInt8 × Nat)) (hfs : S'.fs = putL l n g) (hfl : ∀ m, m ≠ n → S'.fl m = S.fl m) : absP S' = putT (l.map fun p => (p.1, (S.fl p.1).bs, (S.fl p.1).safe)) (n, (S'.fl n).bs, (S'.fl n).safe) := by
 unfold absP putT; rw [hfs]; unfold putL; rw [map_insL]; congr 1; unfold delT delL; rw [List.filter_map]; apply List.map_congr_left; intro p hp; have h1 : p.1 ≠ n := by simpa using (List.mem_filter.1 hp).2
 rw [hfl _ h1]
theorem absP_set (S : DS) (n : List UInt8) (f : FileC) (z : Nat) : absP (setFl S n f z) = setT (absP S) n f.bs f.safe := by
 unfold absP setT; rw [List.map_map]; apply List.map_congr_left; intro p _; show (p.1, (if p.1 = n then f else S.fl p.1).bs, (if p.1 = n then f else S.fl p.1).safe) = if p.1 = n then (n, f.bs, f.safe) else _
 by_cases e : p.1 = n
 · rw [if_pos e, if_pos e, e]
 · rw [if_neg e, if_neg e]
theorem DiskIs.srt {w : World} {bd : Nat} {S : DS} (h : DiskIs w bd S) : Srt (absP S) := by
 obtain ⟨es, he, hp, _⟩ := h.files.canon law9; have : S.fs.map toE = es := by
  unfold toD at he; injection he
 rw [← this, List.pairwise_map] at hp; unfold Srt absP; rw [List.pairwise_map]; exact hp
theorem total_sumT (S : DS) : total S = sumT (absP S) := by
 unfold total absP; generalize S.fs = l; induction l with
 | nil => rfl
 | cons p r ih =>
   have : sumL (fun n => (S.fl n).bs.length) (fun _ => false) (p :: r) = (S.fl p.1).bs.length + sumL (fun n => (S.fl n).bs.length) (fun _ => false) r := by simp [sumL]
   rw [this, ih]; rfl
/-! the document's -/
theorem insT_front {x : Tf} : ∀ {l : List Tf}, (∀ p ∈ l, bytesBefore x.1 p.1 = true) → insT x l = x :: l
 | [], _ => rfl
 | y :: r, h => by simp only [insT, h y (List.mem_cons_self ..), if_true]
theorem map_same {l : List Tf} {f : Tf → Tf} (h : ∀ p ∈ l, f p = p) : l.map f = l := by
 have := List.map_congr_left (g := id) h; rw [this, List.map_id]
theorem putT_here {n : List UInt8} {b : List Int} {s : Int} : ∀ {l : List Tf}, Srt l → (∃ p ∈ l, p.1 = n) → putT l (n, b, s) = setT l n b s
 | [], _, h => by obtain ⟨p, hp, _⟩ := h; cases hp
 | a :: r, hs, h => by
   have hs' := hs; unfold Srt at hs'; rw [List.pairwise_cons] at hs'; unfold putT; by_cases e : a.1 = n
   · have hno : ∀ p ∈ r, p.1 ≠ n := fun p hp e2 => by
      have := hs'.1 p hp; rw [e, e2, WideAt.bytes_irrefl] at this; cases this
     have e1 : delT (a :: r) n = r := by
      unfold delT; rw [List.filter_cons_of_neg (by simpa using e), List.filter_eq_self.2 (fun p hp => by simpa using hno p hp)]
     have e2 : setT (a :: r) n b s = (n, b, s) :: r := by
      unfold setT; rw [List.map_cons, if_pos e]; congr 1; exact map_same (fun p hp => if_neg (hno p hp))
     show insT _ (delT (a :: r) n) = _; rw [e1, e2]; exact insT_front (fun p hp => by rw [← e]; exact hs'.1 p hp)
   · have h' : ∃ p ∈ r, p.1 = n := by
      obtain ⟨p, hp, hpn⟩ := h; rcases List.mem_cons.1 hp with rfl | hp
      · exact absurd hpn e
      · exact ⟨p, hp, hpn⟩
     have ih := putT_here (b := b) (s := s) hs'.2 h'; unfold putT at ih; have hb : bytesBefore n a.1 = false := by
      obtain ⟨p, hp, hpn⟩ := h'; have h1 := hs'.1 p hp; rw [hpn] at h1; cases h2 : bytesBefore n a.1 with
      | false => rfl
      | true => exact absurd (WideShapes.bytes_trans _ _ _ h1 h2) (by rw [WideAt.bytes_irrefl]; simp)
     have e1 : delT (a :: r) n = a :: delT r n := by
      unfold delT; rw [List.filter_cons_of_pos (by simpa using e)]
     show insT _ (delT (a :: r) n) = _; rw [e1]; simp only [insT, hb]; unfold setT; rw [List.map_cons, if_neg e]; show a :: insT (n, b, s) (delT r n) = _; rw [ih]; rfl
end Go.Proofs.YtconkienlcegaaaGreatDoor
