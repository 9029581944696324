/- disk: the document's Truncate, Rename. -/
import Derived.Test.YtoplejbmgpgkhaaGreatDoorGRG
namespace Go.Proofs.YtoplejbmgpgkhaaGreatDoor
open Go.RowKit Go.Maps Go.Joins
set_option linter.unusedSimpArgs false
set_option linter.unusedVariables false
set_option maxRecDepth 100000 in
set_option maxHeartbeats 4000000 in
theorem rtrunc_arg {w : World} {br : Nat} {R : RS} (h : RefIs w br R) (hp : PlanR R) (hn : Rn R) (hl : R.A.length ≤ 100) (s : ByteArray) (hs : s.size ≤ 9223372036854775807) (n : Int) (he : rthE R s s = 0) {k : Nat} {f : RF} (hi : idxR s R.A = (k : Nat)) (hkf : R.A[k]? = some f) (hnn : n < 0 ∨ (f.bs.length : Int) < n) :
    Calls Tryz.prog 54 #[.pointer (some ⟨br, 0, none⟩), .string s, .int .i64 n] w fun e w' => e = .returned (.int .i64 1) ∧ RefIs w' br (rstS R s s) ∧ RFr w w' R (rstS R s s) := by
  have HR : Hid (RefIs w br R) := h
  have hI : rthI R s s = (k : Nat) := by rw [(rth_zero he).2.2, hi]
  have hA := A_rstS R s s
  clear h
  generalize hS1 : rstS R s s = R1 at *
  have hkf1 : R1.A[k]? = some f := by rw [hA]; exact hkf
  have hkl : k < R1.A.length := (List.getElem?_eq_some_iff.1 hkf1).1
  have hki : (k : Int) < R1.A.length := by omega
  have hl1 : R1.A.length ≤ 100 := by rw [hA]; exact hl
  clear hA
  by_cases h0 : n < 0
  · clear hnn
    go_enter Tryz.func54, Tryz.ntmps54
    go_wp2_with (first
      | (go_at_call 86
         refine (rthere0 HR.out hp s s hs hs hn (by omega)).mono ?_
         rw [he, hI, hS1]
         rintro e w1 ⟨rfl, hR1, hF1⟩
         have H1 : Hid (RefIs w1 br R1 ∧ RFr w w1 R R1) := ⟨hR1, hF1⟩
         obtain ⟨g, cap, hlv, hog, hgl, hlc, hcc⟩ := hR1.cell hkf1
         have c3 : w1.cell? ⟨br, 3, none⟩ = some (.slice (some ⟨g, 0, none⟩) R1.A.length cap) := by rw [cell_of_block hR1.disk]; simp [rC, hlv]
         have hc0 := hcc 0 _ rfl
         rw [Nat.add_zero] at hc0
         have hc1 := hcc 1 _ rfl
         have hc2 := hcc 2 _ rfl
         obtain ⟨ba, bc, hbv⟩ := row_form (hR1.row f (List.mem_of_getElem? hkf1))
         rw [hbv] at hc1
         have hby := BytesV.of_own (hR1.row f (List.mem_of_getElem? hkf1))
         rw [hbv] at hby
         have HBY : Hid (BytesV w1 (.slice ba f.bs.length bc) f.bs) := hby
         clear hR1 hF1 hcc hby)
      | go_in)
    go_ret
    exact ⟨rfl, H1.out⟩
  · have d0 : decide (n < 0) = false := by simp; omega
    have d1 : (f.bs.length : Int) < n := by omega
    clear hnn h0
    go_enter Tryz.func54, Tryz.ntmps54
    go_wp2_with (first
      | (go_at_call 86
         refine (rthere0 HR.out hp s s hs hs hn (by omega)).mono ?_
         rw [he, hI, hS1]
         rintro e w1 ⟨rfl, hR1, hF1⟩
         have H1 : Hid (RefIs w1 br R1 ∧ RFr w w1 R R1) := ⟨hR1, hF1⟩
         obtain ⟨g, cap, hlv, hog, hgl, hlc, hcc⟩ := hR1.cell hkf1
         have c3 : w1.cell? ⟨br, 3, none⟩ = some (.slice (some ⟨g, 0, none⟩) R1.A.length cap) := by rw [cell_of_block hR1.disk]; simp [rC, hlv]
         have hc0 := hcc 0 _ rfl
         rw [Nat.add_zero] at hc0
         have hc1 := hcc 1 _ rfl
         have hc2 := hcc 2 _ rfl
         obtain ⟨ba, bc, hbv⟩ := row_form (hR1.row f (List.mem_of_getElem? hkf1))
         rw [hbv] at hc1
         have hby := BytesV.of_own (hR1.row f (List.mem_of_getElem? hkf1))
         rw [hbv] at hby
         have HBY : Hid (BytesV w1 (.slice ba f.bs.length bc) f.bs) := hby
         clear hR1 hF1 hcc hby)
      | go_in)
    go_ret
    exact ⟨rfl, H1.out⟩
set_option maxRecDepth 100000 in
set_option maxHeartbeats 4000000 in
theorem rtrunc_ok {w : World} {br : Nat} {R : RS} (h : RefIs w br R) (hp : PlanR R) (hn : Rn R) (hl : R.A.length ≤ 100) (s : ByteArray) (hs : s.size ≤ 9223372036854775807) (n : Int) (he : rthE R s s = 0) {k : Nat} {f : RF} (hi : idxR s R.A = (k : Nat)) (hkf : R.A[k]? = some f) (h0 : 0 ≤ n) (h1 : n ≤ (f.bs.length : Int)) :
    Calls Tryz.prog 54 #[.pointer (some ⟨br, 0, none⟩), .string s, .int .i64 n] w fun e w' => e = .returned (.int .i64 0) ∧ ∃ ba bc, RefIs w' br { rstS R s s with A := (rstS R s s).A.set k { f with bv := .slice ba n.toNat bc, bs := f.bs.take n.toNat, sf := n } } ∧ RFr w w' R { rstS R s s with A := (rstS R s s).A.set k { f with bv := .slice ba n.toNat bc, bs := f.bs.take n.toNat, sf := n } } := by
  have HR : Hid (RefIs w br R) := h
  have hI : rthI R s s = (k : Nat) := by rw [(rth_zero he).2.2, hi]
  have hA := A_rstS R s s
  clear h
  generalize hS1 : rstS R s s = R1 at *
  have hkf1 : R1.A[k]? = some f := by rw [hA]; exact hkf
  have hkl : k < R1.A.length := (List.getElem?_eq_some_iff.1 hkf1).1
  have hki : (k : Int) < R1.A.length := by omega
  have hl1 : R1.A.length ≤ 100 := by rw [hA]; exact hl
  clear hA
  have d0 : decide (n < 0) = false := by simp; omega
  have d1 : decide ((f.bs.length : Int) < n) = false := by simp; omega
  go_enter Tryz.func54, Tryz.ntmps54
  go_wp2_with (first
    | (go_at_call 86
       refine (rthere0 HR.out hp s s hs hs hn (by omega)).mono ?_
       rw [he, hI, hS1]
       rintro e w1 ⟨rfl, hR1, hF1⟩
       have H1 : Hid (RefIs w1 br R1 ∧ RFr w w1 R R1) := ⟨hR1, hF1⟩
       obtain ⟨g, cap, hlv, hog, hgl, hlc, hcc⟩ := hR1.cell hkf1
       have c3 : w1.cell? ⟨br, 3, none⟩ = some (.slice (some ⟨g, 0, none⟩) R1.A.length cap) := by rw [cell_of_block hR1.disk]; simp [rC, hlv]
       have hc0 := hcc 0 _ rfl
       rw [Nat.add_zero] at hc0
       have hc1 := hcc 1 _ rfl
       have hc2 := hcc 2 _ rfl
       obtain ⟨ba, bc, hbv⟩ := row_form (hR1.row f (List.mem_of_getElem? hkf1))
       rw [hbv] at hc1
       have hby := BytesV.of_own (hR1.row f (List.mem_of_getElem? hkf1))
       rw [hbv] at hby
       have HBY : Hid (BytesV w1 (.slice ba f.bs.length bc) f.bs) := hby
       clear hR1 hF1 hcc hby)
    | go_in)
  have hgo : R1.lv.ownBlock = some g := by rw [hlv]; rfl
  have hfz : w1.frozen? ⟨g, k * 3 + 2, none⟩ = false ∧ w1.frozen? ⟨g, k * 3 + 1, none⟩ = false := by
    rcases H1.out.1.list.2 with ⟨h0, _⟩ | ⟨g', cap', cur, h0, _, hc, _⟩
    · rw [h0] at hgo; cases hgo
    · rw [h0] at hgo
      have e1 : g' = g := by simpa [Value.ownBlock] using hgo
      subst e1
      exact ⟨unfrozen_of_block hc _, unfrozen_of_block hc _⟩
  have HC : Hid (w1.cell? ⟨br, 3, none⟩ = some (.slice (some ⟨g, 0, none⟩) R1.A.length cap) ∧ w1.cell? ⟨g, k * 3 + 1, none⟩ = some (.slice ba f.bs.length bc) ∧ w1.cell? ⟨g, k * 3 + 2, none⟩ = some (.int .i64 f.sf) ∧ w1.frozen? ⟨g, k * 3 + 2, none⟩ = false ∧ w1.frozen? ⟨g, k * 3 + 1, none⟩ = false) := ⟨c3, hc1, hc2, hfz⟩
  have hbrg : br ≠ g := fun e => by have := H1.out.1.rd; rw [e, hog] at this; cases this
  clear hfz c3 hc0 hc1 hc2
  have hrw := H1.out.1.row f (List.mem_of_getElem? hkf1)
  rw [hbv] at hrw
  have hcap := row_cap hrw
  have hnc : (n : Int) ≤ bc := by omega
  clear hrw
  obtain ⟨m, hmn⟩ := Int.eq_ofNat_of_zero_le h0
  subst hmn
  refine wp_region_held_drew (S := fun w' => w'.cell? ⟨br, 3, none⟩ = some (.slice (some ⟨g, 0, none⟩) R1.A.length cap)) (by kernel_rfl) HC.out.1 (fun hHeld => ?_)
  refine wpAnyH_take (i := 0) (v := .pointer (some ⟨br, 0, none⟩)) rfl (by kernel_rfl) (by kernel_rfl) (by kernel_rfl) (fun _ _ _ h => h) (Or.inl ⟨by rfl, fun w9 hSw => ?_⟩) hHeld ?_
  · go_simp
  simp only [List.getElem_toArray, List.getElem_cons_succ, List.getElem_cons_zero, Act.put, List.setIfInBounds_toArray, List.set_cons_zero, List.set_cons_succ]
  refine wpAnyH_take (i := 1) (v := .pointer (some ⟨br, 0, none⟩)) rfl (by kernel_rfl) (by kernel_rfl) (by kernel_rfl) (fun _ _ _ h => h) (Or.inl ⟨by rfl, fun w9 hSw => ?_⟩) hHeld ?_
  · go_simp
  simp only [List.getElem_toArray, List.getElem_cons_succ, List.getElem_cons_zero, Act.put, List.setIfInBounds_toArray, List.set_cons_zero, List.set_cons_succ]
  refine wpAnyH_take (i := 2) (v := .pointer (some ⟨br, 3, none⟩)) rfl (by kernel_rfl) (by kernel_rfl) (by kernel_rfl) (fun _ _ _ h => h) (Or.inl ⟨by rfl, fun w9 hSw => ?_⟩) hHeld ?_
  · go_simp
  simp only [List.getElem_toArray, List.getElem_cons_succ, List.getElem_cons_zero, Act.put, List.setIfInBounds_toArray, List.set_cons_zero, List.set_cons_succ]
  refine wpAnyH_take (i := 3) (v := .slice (some ⟨g, 0, none⟩) R1.A.length cap) rfl (by kernel_rfl) (by kernel_rfl) (by kernel_rfl) (fun _ _ _ h => h) (Or.inl ⟨by rfl, fun w9 hSw => ?_⟩) hHeld ?_
  · have hc : w9.cell? ⟨br, 3, none⟩ = some (.slice (some ⟨g, 0, none⟩) R1.A.length cap) := hSw
    go_simp
  simp only [List.getElem_toArray, List.getElem_cons_succ, List.getElem_cons_zero, Act.put, List.setIfInBounds_toArray, List.set_cons_zero, List.set_cons_succ]
  refine wpAnyH_take (i := 4) (v := .int .i64 (k : Int)) rfl (by kernel_rfl) (by kernel_rfl) (by kernel_rfl) (fun _ _ _ h => h) (Or.inl ⟨by rfl, fun w9 hSw => ?_⟩) hHeld ?_
  · go_simp
  simp only [List.getElem_toArray, List.getElem_cons_succ, List.getElem_cons_zero, Act.put, List.setIfInBounds_toArray, List.set_cons_zero, List.set_cons_succ]
  refine wpAnyH_take (i := 5) (v := .pointer (some ⟨br, 0, none⟩)) rfl (by kernel_rfl) (by kernel_rfl) (by kernel_rfl) (fun _ _ _ h => h) (Or.inl ⟨by rfl, fun w9 hSw => ?_⟩) hHeld ?_
  · go_simp
  simp only [List.getElem_toArray, List.getElem_cons_succ, List.getElem_cons_zero, Act.put, List.setIfInBounds_toArray, List.set_cons_zero, List.set_cons_succ]
  refine wpAnyH_take (i := 6) (v := .pointer (some ⟨br, 0, none⟩)) rfl (by kernel_rfl) (by kernel_rfl) (by kernel_rfl) (fun _ _ _ h => h) (Or.inl ⟨by rfl, fun w9 hSw => ?_⟩) hHeld ?_
  · go_simp
  simp only [List.getElem_toArray, List.getElem_cons_succ, List.getElem_cons_zero, Act.put, List.setIfInBounds_toArray, List.set_cons_zero, List.set_cons_succ]
  refine wpAnyH_take (i := 7) (v := .pointer (some ⟨br, 3, none⟩)) rfl (by kernel_rfl) (by kernel_rfl) (by kernel_rfl) (fun _ _ _ h => h) (Or.inl ⟨by rfl, fun w9 hSw => ?_⟩) hHeld ?_
  · go_simp
  simp only [List.getElem_toArray, List.getElem_cons_succ, List.getElem_cons_zero, Act.put, List.setIfInBounds_toArray, List.set_cons_zero, List.set_cons_succ]
  refine wpAnyH_take (i := 8) (v := .slice (some ⟨g, 0, none⟩) R1.A.length cap) rfl (by kernel_rfl) (by kernel_rfl) (by kernel_rfl) (fun _ _ _ h => h) (Or.inl ⟨by rfl, fun w9 hSw => ?_⟩) hHeld ?_
  · have hc : w9.cell? ⟨br, 3, none⟩ = some (.slice (some ⟨g, 0, none⟩) R1.A.length cap) := hSw
    go_simp
  simp only [List.getElem_toArray, List.getElem_cons_succ, List.getElem_cons_zero, Act.put, List.setIfInBounds_toArray, List.set_cons_zero, List.set_cons_succ]
  refine wpAnyH_take (i := 9) (v := .int .i64 (k : Int)) rfl (by kernel_rfl) (by kernel_rfl) (by kernel_rfl) (fun _ _ _ h => h) (Or.inl ⟨by rfl, fun w9 hSw => ?_⟩) hHeld ?_
  · go_simp
  simp only [List.getElem_toArray, List.getElem_cons_succ, List.getElem_cons_zero, Act.put, List.setIfInBounds_toArray, List.set_cons_zero, List.set_cons_succ]
  refine wpAnyH_take (i := 10) (v := .pointer (some ⟨g, k * 3, none⟩)) rfl (by kernel_rfl) (by kernel_rfl) (by kernel_rfl) (fun _ _ _ h => h) (Or.inl ⟨by rfl, fun w9 hSw => ?_⟩) hHeld ?_
  · go_simp
  simp only [List.getElem_toArray, List.getElem_cons_succ, List.getElem_cons_zero, Act.put, List.setIfInBounds_toArray, List.set_cons_zero, List.set_cons_succ]
  refine wpAnyH_take (i := 11) (v := .pointer (some ⟨g, k * 3 + 1, none⟩)) rfl (by kernel_rfl) (by kernel_rfl) (by kernel_rfl) (fun _ _ _ h => h) (Or.inl ⟨by rfl, fun w9 hSw => ?_⟩) hHeld ?_
  · go_simp
  simp only [List.getElem_toArray, List.getElem_cons_succ, List.getElem_cons_zero, Act.put, List.setIfInBounds_toArray, List.set_cons_zero, List.set_cons_succ]
  refine wpAnyH_take (i := 13) (v := .int .i64 (m : Int)) rfl (by kernel_rfl) (by kernel_rfl) (by kernel_rfl) (fun _ _ _ h => h) (Or.inl ⟨by rfl, fun w9 hSw => ?_⟩) hHeld ?_
  · go_simp
  simp only [List.getElem_toArray, List.getElem_cons_succ, List.getElem_cons_zero, Act.put, List.setIfInBounds_toArray, List.set_cons_zero, List.set_cons_succ]
  refine wpAnyH_ready (rs := [12]) (by kernel_rfl) (by simp) ?_
  refine AllReadyH.cons rfl (fun K hK => ?_) AllReadyH.nil
  have hc1' : w1.drew.cell? ⟨g, k * 3 + 1, none⟩ = some (.slice ba f.bs.length bc) := HC.out.2.1
  have hf1' : w1.drew.frozen? ⟨g, k * 3 + 1, none⟩ = false := HC.out.2.2.2.2
  have hc2' : w1.drew.cell? ⟨g, k * 3 + 2, none⟩ = some (.int .i64 f.sf) := HC.out.2.2.1
  have hf2' : w1.drew.frozen? ⟨g, k * 3 + 2, none⟩ = false := HC.out.2.2.2.1
  have HD2 : Hid (RefIs w1.drew br R1 ∧ RFr w w1.drew R R1) := ⟨H1.out.1.kept (fun _ _ => rfl) (Nat.le_refl _), ⟨H1.out.2.os, H1.out.2.tape, H1.out.2.output, H1.out.2.size, H1.out.2.block, H1.out.2.own⟩⟩
  generalize w1.drew = w2 at hHeld hc1' hf1' hc2' hf2' HD2 ⊢
  go_simp
  refine hK.out _ _ hHeld (fun hHeld => ?_)
  clear hK K
  try simp only [List.getElem_toArray, List.getElem_cons_succ, List.getElem_cons_zero, Act.put, List.setIfInBounds_toArray, List.set_cons_zero, List.set_cons_succ]
  refine wpAnyH_take (i := 14) (v := .slice ba m bc) rfl (by kernel_rfl) (by kernel_rfl) (by kernel_rfl) (fun _ _ _ h => h) (Or.inl ⟨by rfl, fun w9 hSw => ?_⟩) hHeld ?_
  · have h63 : bc ≤ 9223372036854775807 := hcap.2.1
    go_simp
  simp only [List.getElem_toArray, List.getElem_cons_succ, List.getElem_cons_zero, Act.put, List.setIfInBounds_toArray, List.set_cons_zero, List.set_cons_succ]
  refine wpAnyH_take (i := 15) (v := .pointer (some ⟨g, k * 3, none⟩)) rfl (by kernel_rfl) (by kernel_rfl) (by kernel_rfl) (fun _ _ _ h => h) (Or.inl ⟨by rfl, fun w9 hSw => ?_⟩) hHeld ?_
  · go_simp
  simp only [List.getElem_toArray, List.getElem_cons_succ, List.getElem_cons_zero, Act.put, List.setIfInBounds_toArray, List.set_cons_zero, List.set_cons_succ]
  refine wpAnyH_take (i := 16) (v := .pointer (some ⟨g, k * 3 + 1, none⟩)) rfl (by kernel_rfl) (by kernel_rfl) (by kernel_rfl) (fun _ _ _ h => h) (Or.inl ⟨by rfl, fun w9 hSw => ?_⟩) hHeld ?_
  · go_simp
  simp only [List.getElem_toArray, List.getElem_cons_succ, List.getElem_cons_zero, Act.put, List.setIfInBounds_toArray, List.set_cons_zero, List.set_cons_succ]
  refine wpAnyH_ready (rs := [17]) (by kernel_rfl) (by simp) ?_
  refine AllReadyH.cons rfl (fun K hK => ?_) AllReadyH.nil
  go_simp
  have hH2 : (w2.setCell ⟨g, k * 3 + 1, none⟩ (.slice ba m bc)).cell? ⟨br, 3, none⟩ = some (.slice (some ⟨g, 0, none⟩) R1.A.length cap) := by
    rw [World.cell?_of_block (Below.heap_setCell _ _ _ _ hbrg)]
    exact hHeld
  have hC2 : (w2.setCell ⟨g, k * 3 + 1, none⟩ (.slice ba m bc)).cell? ⟨g, k * 3 + 2, none⟩ = some (.int .i64 f.sf) := (World.cell?_setCell_other _ ⟨g, k * 3 + 1, none⟩ ⟨g, k * 3 + 2, none⟩ _ (fun e => by injection e with _ e _; omega)).trans hc2'
  have hF2 : (w2.setCell ⟨g, k * 3 + 1, none⟩ (.slice ba m bc)).frozen? ⟨g, k * 3 + 2, none⟩ = false := by
    rw [World.frozen?_setCell]; exact hf2'
  refine hK.out _ _ hH2 (fun hHeld => ?_)
  clear hK K
  try simp only [List.getElem_toArray, List.getElem_cons_succ, List.getElem_cons_zero, Act.put, List.setIfInBounds_toArray, List.set_cons_zero, List.set_cons_succ]
  refine wpAnyH_done (by kernel_rfl) ?_ _
  clear hHeld hc1' hf1' hc2' hf2'
  go_wp2
  go_ret
  have hrow := HD2.out.1.row f (List.mem_of_getElem? hkf1)
  rw [hbv] at hrow
  have hl2 := ownsRow_set HD2.out.1.list hgo (k * 3 + 1) (.slice ba m bc)
  rw [rfL_set1 R1.A k f _ (f.bs.take m) hkf1] at hl2
  have hl3 := ownsRow_set hl2 hgo (k * 3 + 2) (.int .i64 (m : Int))
  rw [rfL_set2 _ k { f with bv := .slice ba m bc, bs := f.bs.take m } _ (by rw [List.getElem?_set_self hkl]), List.set_set] at hl3
  have hk : ∀ b, b ≠ g → ((w2.setCell ⟨g, k * 3 + 1, none⟩ (.slice ba m bc)).setCell ⟨g, k * 3 + 2, none⟩ (.int .i64 (m : Int))).heap[b]? = w2.heap[b]? := fun b hb => (Below.heap_setCell _ _ _ _ hb).trans (Below.heap_setCell _ _ _ _ hb)
  have hr2 := take_row hrow (m := m) (by omega)
  refine ⟨rfl, ba, bc, HD2.out.1.setF hgo { f with bv := .slice ba m bc, bs := f.bs.take m, sf := m } hk (by simp) ?_ hr2 (fun b hb => HD2.out.1.rr f (List.mem_of_getElem? hkf1) b (by rw [hbv]; cases ba <;> exact hb)) (HD2.out.1.nm f (List.mem_of_getElem? hkf1)), HD2.out.2.trans (HD2.out.1.frF hgo _ hk (by simp) ⟨rfl, rfl, rfl⟩)⟩
  rw [List.length_set]
  exact hl3
end Go.Proofs.YtoplejbmgpgkhaaGreatDoor
