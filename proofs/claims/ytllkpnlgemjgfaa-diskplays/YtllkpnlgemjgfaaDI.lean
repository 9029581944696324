/- disk: Append, where it is done. -/
import Derived.Test.YtllkpnlgemjgfaaDH
namespace Go.Proofs.Ytllkpnlgemjgfaa
open Go.RowKit Go.Maps Go.Joins
set_option linter.unusedSimpArgs false
set_option linter.unusedVariables false
theorem stepS_fields (S : DS) (ns : List ByteArray) : (stepS S ns).room = S.room ∧ (stepS S ns).bm = S.bm ∧ (stepS S ns).fs = S.fs ∧ (stepS S ns).fl = S.fl ∧ (stepS S ns).role = S.role := by
  unfold stepS
  split
  · exact ⟨rfl, rfl, rfl, rfl, rfl⟩
  · split <;> exact ⟨rfl, rfl, rfl, rfl, rfl⟩
theorem BytesV.fr {w w' : World} {S S' : DS} {v : Value} {bs : List Int} (h : BytesV w v bs) (hr : ∀ b, dBlock v bs = some b → S.role b = .none) (hF : Fr w w' S S') : BytesV w' v bs := by
  rcases h with h | ⟨ad, cap, rfl, hc⟩
  · exact Or.inl h
  · refine Or.inr ⟨ad, cap, rfl, fun j u hu => ?_⟩
    have h1 := hc j u hu
    have h2 := cell_lt h1
    have h3 : (ad.add j).block = ad.block := by unfold Addr.add; split <;> rfl
    rw [World.cell?_of_block (hF.block _ h2 (by rw [h3]; exact hr _ (by rw [dBlock_vB hu]; rfl)))]
    exact h1
theorem total_stepS (S : DS) (ns : List ByteArray) : total (stepS S ns) = total S := by
  unfold total
  obtain ⟨_, _, h1, h2, _⟩ := stepS_fields S ns
  rw [h1, h2]
set_option maxRecDepth 100000 in
set_option maxHeartbeats 4000000 in
/-- (*Disk).Append to a file that is there, where there is room -/
theorem append_old {w : World} {bd : Nat} {S : DS} (h : DiskIs w bd S) (hc : Cnt S) (s : ByteArray) (hs : s.size ≤ 9223372036854775807) (v : Value) (bs : List Int) (hv : BytesV w v bs) (hvr : ∀ b, dBlock v bs = some b → S.role b = .none) (hE : stepE S [s] = 0) {g : Nat} (hl : look S.fs s.data.toList = some g)
    (hroom : (total S : Int) + bs.length ≤ S.room) (hrm : S.room ≤ 1073741824) (hlen : ((stepS S [s]).fl s.data.toList).bs.length ≤ 1073741824) :
    Calls Try.prog 14 #[.pointer (some ⟨bd, 0, none⟩), .string s, v] w fun e w' => e = .returned (.int .i64 0) ∧ ∃ sl z, DiskIs w' bd (setFl (stepS S [s]) s.data.toList { (stepS S [s]).fl s.data.toList with sl := sl, bs := ((stepS S [s]).fl s.data.toList).bs ++ bs } z) ∧ Fr w w' S (setFl (stepS S [s]) s.data.toList { (stepS S [s]).fl s.data.toList with sl := sl, bs := ((stepS S [s]).fl s.data.toList).bs ++ bs } z) := by
  obtain ⟨va, vc, hvf⟩ : ∃ va vc, v = .slice va bs.length vc := by
    rcases hv with ⟨rfl, rfl⟩ | ⟨ad, cap, rfl, _⟩
    · exact ⟨_, _, rfl⟩
    · exact ⟨_, _, rfl⟩
  have HV : Hid (BytesV w v bs ∧ ∀ b, dBlock v bs = some b → S.role b = .none) := ⟨hv, hvr⟩
  have HD : Hid (DiskIs w bd S ∧ Cnt S) := ⟨h, hc⟩
  have HX : Hid (DiskIs (w.alloc (.cells #[.string s] 9)) bd S ∧ Names (w.alloc (.cells #[.string s] 9)) w.heap.size [s]) := ⟨h.below (by go_grown), names_one w s hs⟩
  have hlt := h.lt
  obtain ⟨e1, e2, e3, e4, e5⟩ := stepS_fields S [s]
  have eT := total_stepS S [s]
  generalize hS1 : stepS S [s] = S1 at *
  rw [← e3] at hl
  rw [← e1, ← eT] at hroom
  rw [← e1] at hrm
  clear h hc hv hvr e1 e2 e3 e4 e5 eT
  have hm := look_mem hl
  have HR : Hid ((total S1 : Int) + bs.length ≤ S1.room ∧ S1.room ≤ 1073741824 ∧ (S1.fl s.data.toList).bs.length ≤ 1073741824) := ⟨hroom, hrm, hlen⟩
  have hbl : (bs.length : Int) ≤ 1073741824 := by omega
  clear hroom hrm hlen
  subst hvf
  go_enter Try.func14, Try.ntmps14
  go_wp2_with (first
    | (go_at_call 37
       refine (step_any HX.out.1 HD.out.2 w.heap.size 1 [s] HX.out.2 (by simp) (by omega)).mono ?_
       rw [hE, hS1]
       rintro e w1 ⟨rfl, hD1, hG1, hZ1⟩
       have HDD : Hid (DiskIs w1 bd S1 ∧ (w.alloc (.cells #[.string s] 9)).grownBy w1 (some bd)) := ⟨hD1, hG1⟩
       have c1 : w1.cell? ⟨bd, 1, none⟩ = some (.map (some S1.bm)) := by rw [cell_of_block hD1.disk]; rfl
       have hlk := hD1.look_ok hs
       rw [hl] at hlk
       simp only [pv, Option.isSome_some] at hlk
       clear hD1 hG1)
    | go_in)
  have hF1 : Fr w w1 S S1 := by
    have e1 : Fr w (w.alloc (.cells #[.string s] 9)) S S := Fr.below (by go_grown)
    have e2 := HX.out.1.frG HDD.out.2 [s]
    rw [hS1] at e2
    exact e1.trans e2
  have HF : Hid (Fr w w1 S S1) := hF1
  have HD1 : Hid (DiskIs w1 bd S1) := HDD.out.1
  clear hF1 HDD c1 hlk HX
  refine wp_region_held_drew (S := fun w' => DiskIs w' bd S1 ∧ Below w1.heap.size w1 w') (by kernel_rfl) ⟨HD1.out.kept (fun _ _ => rfl) (Nat.le_refl _), ⟨rfl, rfl, rfl, Nat.le_refl _, fun _ _ => rfl⟩⟩ (fun hHeld => ?_)
  refine wpAnyH_take (i := 0) (v := .slice va bs.length vc) rfl (by kernel_rfl) (by kernel_rfl) (by kernel_rfl) (fun _ _ _ h => h) (Or.inl ⟨by rfl, fun w9 hSw => ?_⟩) hHeld ?_
  · go_simp
  simp only [List.getElem_toArray, List.getElem_cons_succ, List.getElem_cons_zero, Act.put, List.setIfInBounds_toArray, List.set_cons_zero, List.set_cons_succ]
  refine wpAnyH_take (i := 1) (v := .int .i64 (bs.length : Int)) rfl (by kernel_rfl) (by kernel_rfl) (by kernel_rfl) (fun _ _ _ h => h) (Or.inl ⟨by rfl, fun w9 hSw => ?_⟩) hHeld ?_
  · go_simp
  simp only [List.getElem_toArray, List.getElem_cons_succ, List.getElem_cons_zero, Act.put, List.setIfInBounds_toArray, List.set_cons_zero, List.set_cons_succ]
  refine wpAnyH_take (i := 2) (v := .pointer (some ⟨bd, 0, none⟩)) rfl (by kernel_rfl) (by kernel_rfl) (by kernel_rfl) (fun _ _ _ h => h) (Or.inl ⟨by rfl, fun w9 hSw => ?_⟩) hHeld ?_
  · go_simp
  simp only [List.getElem_toArray, List.getElem_cons_succ, List.getElem_cons_zero, Act.put, List.setIfInBounds_toArray, List.set_cons_zero, List.set_cons_succ]
  refine wpAnyH_take (i := 3) (v := .pointer (some ⟨bd, 0, none⟩)) rfl (by kernel_rfl) (by kernel_rfl) (by kernel_rfl) (fun _ _ _ h => h) (Or.inl ⟨by rfl, fun w9 hSw => ?_⟩) hHeld ?_
  · go_simp
  simp only [List.getElem_toArray, List.getElem_cons_succ, List.getElem_cons_zero, Act.put, List.setIfInBounds_toArray, List.set_cons_zero, List.set_cons_succ]
  refine wpAnyH_take (i := 4) (v := .pointer (some ⟨bd, 0, none⟩)) rfl (by kernel_rfl) (by kernel_rfl) (by kernel_rfl) (fun _ _ _ h => h) (Or.inl ⟨by rfl, fun w9 hSw => ?_⟩) hHeld ?_
  · go_simp
  simp only [List.getElem_toArray, List.getElem_cons_succ, List.getElem_cons_zero, Act.put, List.setIfInBounds_toArray, List.set_cons_zero, List.set_cons_succ]
  refine wpAnyH_take (i := 5) (v := .int .i64 S1.room) rfl (by kernel_rfl) (by kernel_rfl) (by kernel_rfl) (fun _ _ _ h => h) (Or.inl ⟨by rfl, fun w9 hSw => ?_⟩) hHeld ?_
  · have hc : w9.cell? ⟨bd, 0, none⟩ = some (.int .i64 S1.room) := (cell_of_block hSw.1.disk 0).trans rfl
    go_simp
  simp only [List.getElem_toArray, List.getElem_cons_succ, List.getElem_cons_zero, Act.put, List.setIfInBounds_toArray, List.set_cons_zero, List.set_cons_succ]
  refine wpAnyH_take (i := 6) (v := .pointer (some ⟨bd, 0, none⟩)) rfl (by kernel_rfl) (by kernel_rfl) (by kernel_rfl) (fun _ _ _ h => h) (Or.inl ⟨by rfl, fun w9 hSw => ?_⟩) hHeld ?_
  · go_simp
  simp only [List.getElem_toArray, List.getElem_cons_succ, List.getElem_cons_zero, Act.put, List.setIfInBounds_toArray, List.set_cons_zero, List.set_cons_succ]
  refine wpAnyH_ready (rs := [7]) (by kernel_rfl) (by simp) ?_
  refine AllReadyH.cons rfl (fun K hK => ?_) AllReadyH.nil
  generalize w1.drew = w2 at hHeld ⊢
  go_simp
  have hT : total S1 ≤ 4611686018427387904 := by have := HR.out; omega
  refine (used_any hHeld.1 hT).mono ?_
  rintro e w3 ⟨rfl, hb3⟩
  have hD3 : DiskIs w3 bd S1 ∧ Below w1.heap.size w1 w3 := ⟨hHeld.1.below hb3, hHeld.2.trans (hb3.mono hHeld.2.size)⟩
  clear hHeld hb3
  go_wp2_with fail
  refine hK.out _ _ hD3 (fun hHeld => ?_)
  clear hK K
  try simp only [List.getElem_toArray, List.getElem_cons_succ, List.getElem_cons_zero, Act.put, List.setIfInBounds_toArray, List.set_cons_zero, List.set_cons_succ]
  have hsub : IntKind.i64.wrap (S1.room - (total S1 : Int)) = S1.room - (total S1 : Int) := by
    have := HR.out
    rw [IntKind.wrap_i64]; omega
  have hgt : decide (S1.room - (total S1 : Int) < (bs.length : Int)) = false := by
    have := HR.out
    simp; omega
  refine wpAnyH_take (i := 8) (v := .int .i64 (S1.room - (total S1 : Int))) rfl (by kernel_rfl) (by kernel_rfl) (by kernel_rfl) (fun _ _ _ h => h) (Or.inl ⟨by rfl, fun w9 hSw => ?_⟩) hHeld ?_
  · go_simp
  simp only [List.getElem_toArray, List.getElem_cons_succ, List.getElem_cons_zero, Act.put, List.setIfInBounds_toArray, List.set_cons_zero, List.set_cons_succ]
  refine wpAnyH_take (i := 9) (v := .bool false) rfl (by kernel_rfl) (by kernel_rfl) (by kernel_rfl) (fun _ _ _ h => h) (Or.inl ⟨by rfl, fun w9 hSw => ?_⟩) hHeld ?_
  · go_simp
  simp only [List.getElem_toArray, List.getElem_cons_succ, List.getElem_cons_zero, Act.put, List.setIfInBounds_toArray, List.set_cons_zero, List.set_cons_succ]
  refine wpAnyH_done (by kernel_rfl) ?_ _
  have hfile := hD3.1.file _ hm
  have hF3 : Fr w w3 S S1 := HF.out.trans (Fr.below hD3.2)
  have c0 : w3.cell? ⟨g, 0, none⟩ = some (S1.fl s.data.toList).sl := by rw [cell_of_block hfile]; rfl
  have HD3 : Hid (DiskIs w3 bd S1 ∧ Fr w w3 S S1 ∧ BytesV w3 (.slice va bs.length vc) bs) := ⟨hD3.1, hF3, HV.out.1.fr HV.out.2 hF3⟩
  clear hD3 hF3 hfile hsub hgt HF HD1
  go_wp2_with (first
    | (at_builtin
       refine wpList_append_b rfl _ _ rfl 0 (S1.fl s.data.toList).sl (.slice va bs.length vc) (S1.fl s.data.toList).bs bs rfl (HD3.out.1.row _ hm) rfl HD3.out.2.2 (by have := HR.out; omega) (Nat.zero_le _) ?_
       intro v' w4 ho hg4 ha
       obtain ⟨a', cap', hv'⟩ := row_form ho
       subst hv'
       have hne : (S1.fl s.data.toList).sl.ownBlock ≠ some g := fun e => by
         have h1 := HD3.out.1.rr _ hm g e
         rw [HD3.out.1.rf _ hm] at h1
         cases h1
       have hfile4 := (hg4.block g (heap_lt (HD3.out.1.file _ hm)) (fun e => hne e.symm)).trans (HD3.out.1.file _ hm)
       have c4 : w4.cell? ⟨g, 0, none⟩ = some (S1.fl s.data.toList).sl := by rw [cell_of_block hfile4]; rfl
       have f4 : w4.frozen? ⟨g, 0, none⟩ = false := unfrozen_of_block hfile4 0
       have H4 : Hid (w4.ownsRow 0 5 1 (.slice a' ((S1.fl s.data.toList).bs ++ bs).length cap') ((S1.fl s.data.toList).bs ++ bs).length (vB ((S1.fl s.data.toList).bs ++ bs)) ∧ w3.grownBy w4 (S1.fl s.data.toList).sl.ownBlock ∧ ((Value.slice a' ((S1.fl s.data.toList).bs ++ bs).length cap').ownBlock = (S1.fl s.data.toList).sl.ownBlock ∨ (Value.slice a' ((S1.fl s.data.toList).bs ++ bs).length cap').ownBlock = some w3.heap.size) ∧ w4.heap[g]? = some (.cells #[(S1.fl s.data.toList).sl, .int .i64 (S1.fl s.data.toList).safe] 69)) := ⟨ho, hg4, ha, hfile4⟩
       clear ho hg4 ha hfile4 hne)
    | go_in)
  go_ret
  obtain ⟨ho, hg4, ha, hf4⟩ := H4.out
  generalize hvv : Value.slice a' ((S1.fl s.data.toList).bs ++ bs).length cap' = v' at ho ha
  rw [List.length_append] at hvv
  simp only [hvv]
  have hk : ∀ b, b < w3.heap.size → b ≠ g → (S1.fl s.data.toList).sl.ownBlock ≠ some b → (w4.setCell ⟨g, 0, none⟩ v').heap[b]? = w3.heap[b]? := fun b h1 h2 h3 => (Below.heap_setCell _ _ _ _ h2).trans (hg4.block b h1 (fun e => h3 e.symm))
  have hs4 : w3.heap.size ≤ (w4.setCell ⟨g, 0, none⟩ v').heap.size := by simpa using hg4.size
  refine ⟨rfl, v', w3.heap.size, ?_, HD3.out.2.1.trans (HD3.out.1.frF hm _ hk hs4 ⟨hg4.os, hg4.tape, hg4.output⟩)⟩
  refine HD3.out.1.setF hm _ hk hs4 ?_ ?_ (fun b hb => ?_)
  · rw [block_setCell hf4]
    simp
  · refine ownsRow_heap ho (fun b hb => Below.heap_setCell _ _ _ _ (fun e => ?_))
    rcases ha with ha | ha
    · rw [ha] at hb
      have h1 := HD3.out.1.rr _ hm b hb
      rw [e, HD3.out.1.rf _ hm] at h1
      cases h1
    · rw [ha] at hb
      injection hb with hb
      have := heap_lt (HD3.out.1.file _ hm)
      simp at e this
      omega
  · rcases ha with ha | ha
    · exact Or.inl (by rw [← ha]; exact hb)
    · rw [show ({ sl := v', bs := (S1.fl s.data.toList).bs ++ bs, safe := (S1.fl s.data.toList).safe } : FileC).sl = v' from rfl, ha] at hb
      injection hb with hb
      exact Or.inr (by omega)
end Go.Proofs.Ytllkpnlgemjgfaa
