/- disk: find, Sync, cut. -/
import Derived.Test.YtoplejbmgpgkhaaGreatDoorDD
import Derived.StringKeys
namespace Go.Proofs.YtoplejbmgpgkhaaGreatDoor
open Go.RowKit Go.Maps Go.Joins
set_option linter.unusedSimpArgs false
set_option linter.unusedVariables false
theorem DiskIs.lookV {w : World} {bd : Nat} {S : DS} (h : DiskIs w bd S) {v : Value} {ps : List MemPlace} {n : List UInt8} (hv : Rp v = some ((toD S.fs).atKey (.string n) .nil, ps)) : v = pv (look S.fs n) := by
  rw [at_toD] at hv
  cases hl : look S.fs n with
  | none => rw [hl] at hv; exact Rp_nil hv
  | some g => rw [hl] at hv; exact Rp_lit hv
theorem DiskIs.look_ok {w : World} {bd : Nat} {S : DS} (h : DiskIs w bd S) {s : ByteArray} (hs : s.size ≤ 9223372036854775807) :
    (Instr.lookup 77 (.map (some S.bm)) (.string s) true).run Tryz.prog w = .ok (.tuple #[pv (look S.fs s.data.toList), .bool (look S.fs s.data.toList).isSome]) w := by
  obtain ⟨v, ps, hrun, hv⟩ := h.files.look_ok law9 Tryz.underlying77 (zero66 _) (zd := .nil) (zp := []) rfl (WideMaps.keyOf_string_mk Tryz.underlying9 (s := s) hs)
  rw [h.lookV hv, has_toD] at hrun
  exact hrun
theorem DiskIs.look_no {w : World} {bd : Nat} {S : DS} (h : DiskIs w bd S) {s : ByteArray} (hs : s.size ≤ 9223372036854775807) :
    (Instr.lookup 77 (.map (some S.bm)) (.string s) false).run Tryz.prog w = .ok (pv (look S.fs s.data.toList)) w := by
  obtain ⟨v, ps, hrun, hv⟩ := h.files.lookup law9 Tryz.underlying77 (zero66 _) (zd := .nil) (zp := []) rfl (WideMaps.keyOf_string_mk Tryz.underlying9 (s := s) hs)
  rw [h.lookV hv] at hrun
  exact hrun
def findV (S : DS) (ns : List ByteArray) : Option Nat := if stepE S ns = 0 then look S.fs (ns.headD ByteArray.empty).data.toList else none
def findE (S : DS) (ns : List ByteArray) : Int := if stepE S ns = 0 then (if (findV S ns).isSome then 0 else 33) else stepE S ns
theorem step_any {w : World} {bd : Nat} {S : DS} (h : DiskIs w bd S) (hc : Cnt S) (gn c : Nat) (ns : List ByteArray) (hn : Names w gn ns) (hl : ns.length ≤ 100) (hg : gn ≠ bd) :
    Calls Tryz.prog 76 #[.pointer (some ⟨bd, 0, none⟩), .slice (some ⟨gn, 0, none⟩) ns.length c] w fun e w' => e = .returned (.int .i64 (stepE S ns)) ∧ DiskIs w' bd (stepS S ns) ∧ w.grownBy w' (some bd) ∧ w'.heap.size = w.heap.size := by
  cases hd : S.down
  · exact step_up h hd hc gn c ns hn hl hg
  · refine (step_down h hd _).mono ?_
    rintro e w' ⟨rfl, rfl⟩
    rw [show stepE S ns = 32 from by simp [stepE, hd], show stepS S ns = S from by simp [stepS, hd]]
    exact ⟨rfl, h, World.grownBy.refl _ _, rfl⟩
theorem fs_stepS (S : DS) (ns : List ByteArray) : (stepS S ns).fs = S.fs := by
  unfold stepS
  split
  · rfl
  · split <;> rfl
set_option maxHeartbeats 4000000 in
/-- (*Disk).find -/
theorem find_any {w : World} {bd : Nat} {S : DS} (h : DiskIs w bd S) (hc : Cnt S) (gn c : Nat) (n0 : ByteArray) (nr : List ByteArray) (hn : Names w gn (n0 :: nr)) (hl : (n0 :: nr).length ≤ 100) (hg : gn ≠ bd) (hlt : gn < w.heap.size) :
    Calls Tryz.prog 87 #[.pointer (some ⟨bd, 0, none⟩), .slice (some ⟨gn, 0, none⟩) (nr.length + 1) c] w fun e w' => e = .returned (.tuple #[pv (findV S (n0 :: nr)), .int .i64 (findE S (n0 :: nr))]) ∧ DiskIs w' bd (stepS S (n0 :: nr)) ∧ w.grownBy w' (some bd) ∧ w'.heap.size = w.heap.size := by
  have HN : Hid (Names w gn (n0 :: nr)) := hn
  have HD : Hid (DiskIs w bd S ∧ Cnt S) := ⟨h, hc⟩
  clear hn h hc
  go_enter Tryz.func87, Tryz.ntmps87
  have hl' : nr.length + 1 ≤ 100 := hl
  go_wp2_with (first
    | (go_at_call 76; refine (step_any HD.out.1 HD.out.2 gn c (n0 :: nr) HN.out hl hg).mono ?_; rintro e w1 ⟨rfl, hD1⟩)
    | go_in)
  all_goals generalize hE : stepE S (n0 :: nr) = E at *
  · have h0 : ¬ E = 0 := by
      have : (E != 0) = true := by assumption
      simpa using this
    go_returns
    rw [show findV S (n0 :: nr) = none from by simp [findV, hE, h0], show findE S (n0 :: nr) = E from by simp [findE, hE, h0]]
    exact ⟨rfl, hD1⟩
  have h0 : E = 0 := by
    have : (E != 0) = false := by assumption
    simpa using this
  subst h0
  have hcell : w1.cell? ⟨gn, 0, none⟩ = some (.string n0) := by
    rw [World.cell?_of_block (hD1.2.1.block gn hlt (by simpa using hg))]
    exact (HN.out 0 n0 rfl).1
  have hsz := (HN.out 0 n0 rfl).2
  have hlook := fun (w9 : World) (h9 : DiskIs w9 bd (stepS S (n0 :: nr))) => h9.look_ok hsz
  rw [fs_stepS] at hlook
  obtain ⟨S1, hS1⟩ : ∃ S1, S1 = stepS S (n0 :: nr) := ⟨_, rfl⟩
  rw [← hS1] at hD1 hlook
  have hfv : findV S (n0 :: nr) = look S.fs n0.data.toList := by simp [findV, hE]
  have hfe : findE S (n0 :: nr) = if (findV S (n0 :: nr)).isSome then 0 else 33 := by simp [findE, hE]
  rw [hfv] at hfe
  generalize look S.fs n0.data.toList = L at hlook hfv hfe
  have HF : Hid (findV S (n0 :: nr) = L ∧ findE S (n0 :: nr) = (if L.isSome then 0 else 33) ∧ S1 = stepS S (n0 :: nr)) := ⟨hfv, hfe, hS1⟩
  clear HN HD hE hS1 hfv hfe
  refine wp_region_held_drew (S := fun w' => DiskIs w' bd S1 ∧ w'.cell? ⟨gn, 0, none⟩ = some (.string n0)) (by kernel_rfl) ⟨hD1.1.kept (fun _ _ => rfl) (Nat.le_refl _), hcell⟩ (fun hHeld => ?_)
  refine wpAnyH_take (i := 0) (v := .pointer (some ⟨bd, 0, none⟩)) rfl (by kernel_rfl) (by kernel_rfl) (by kernel_rfl) (fun _ _ _ h => h) (Or.inl ⟨by rfl, fun w9 hSw => ?_⟩) hHeld ?_
  · go_simp
  simp only [List.getElem_toArray, List.getElem_cons_succ, List.getElem_cons_zero, Act.put, List.setIfInBounds_toArray, List.set_cons_zero, List.set_cons_succ]
  refine wpAnyH_take (i := 1) (v := .pointer (some ⟨bd, 0, none⟩)) rfl (by kernel_rfl) (by kernel_rfl) (by kernel_rfl) (fun _ _ _ h => h) (Or.inl ⟨by rfl, fun w9 hSw => ?_⟩) hHeld ?_
  · go_simp
  simp only [List.getElem_toArray, List.getElem_cons_succ, List.getElem_cons_zero, Act.put, List.setIfInBounds_toArray, List.set_cons_zero, List.set_cons_succ]
  refine wpAnyH_take (i := 2) (v := .pointer (some ⟨bd, 1, none⟩)) rfl (by kernel_rfl) (by kernel_rfl) (by kernel_rfl) (fun _ _ _ h => h) (Or.inl ⟨by rfl, fun w9 hSw => ?_⟩) hHeld ?_
  · go_simp
  simp only [List.getElem_toArray, List.getElem_cons_succ, List.getElem_cons_zero, Act.put, List.setIfInBounds_toArray, List.set_cons_zero, List.set_cons_succ]
  refine wpAnyH_take (i := 3) (v := .map (some S1.bm)) rfl (by kernel_rfl) (by kernel_rfl) (by kernel_rfl) (fun _ _ _ h => h) (Or.inl ⟨by rfl, fun w9 hSw => ?_⟩) hHeld ?_
  · have hc : w9.cell? ⟨bd, 1, none⟩ = some (.map (some S1.bm)) := (cell_of_block hSw.1.disk 1).trans rfl
    go_simp
  simp only [List.getElem_toArray, List.getElem_cons_succ, List.getElem_cons_zero, Act.put, List.setIfInBounds_toArray, List.set_cons_zero, List.set_cons_succ]
  refine wpAnyH_take (i := 4) (v := .slice (some ⟨gn, 0, none⟩) (nr.length + 1) c) rfl (by kernel_rfl) (by kernel_rfl) (by kernel_rfl) (fun _ _ _ h => h) (Or.inl ⟨by rfl, fun w9 hSw => ?_⟩) hHeld ?_
  · go_simp
  simp only [List.getElem_toArray, List.getElem_cons_succ, List.getElem_cons_zero, Act.put, List.setIfInBounds_toArray, List.set_cons_zero, List.set_cons_succ]
  refine wpAnyH_take (i := 5) (v := .pointer (some ⟨gn, 0, none⟩)) rfl (by kernel_rfl) (by kernel_rfl) (by kernel_rfl) (fun _ _ _ h => h) (Or.inl ⟨by rfl, fun w9 hSw => ?_⟩) hHeld ?_
  · have i0 : (0 : Int) < (nr.length : Int) + 1 := by omega
    go_simp
  simp only [List.getElem_toArray, List.getElem_cons_succ, List.getElem_cons_zero, Act.put, List.setIfInBounds_toArray, List.set_cons_zero, List.set_cons_succ]
  refine wpAnyH_take (i := 6) (v := .string n0) rfl (by kernel_rfl) (by kernel_rfl) (by kernel_rfl) (fun _ _ _ h => h) (Or.inl ⟨by rfl, fun w9 hSw => ?_⟩) hHeld ?_
  · have hc := hSw.2
    go_simp
  simp only [List.getElem_toArray, List.getElem_cons_succ, List.getElem_cons_zero, Act.put, List.setIfInBounds_toArray, List.set_cons_zero, List.set_cons_succ]
  refine wpAnyH_take (i := 7) (v := .tuple #[pv L, .bool L.isSome]) rfl (by kernel_rfl) (by kernel_rfl) (by kernel_rfl) (fun _ _ _ h => h) (Or.inl ⟨by rfl, fun w9 hSw => ?_⟩) hHeld ?_
  · have hl := hlook w9 hSw.1
    go_simp
  simp only [List.getElem_toArray, List.getElem_cons_succ, List.getElem_cons_zero, Act.put, List.setIfInBounds_toArray, List.set_cons_zero, List.set_cons_succ]
  refine wpAnyH_take (i := 8) (v := .tuple #[pv L, .bool L.isSome]) rfl (by kernel_rfl) (by kernel_rfl) (by kernel_rfl) (fun _ _ _ h => h) (Or.inl ⟨by rfl, fun w9 hSw => ?_⟩) hHeld ?_
  · go_simp
  simp only [List.getElem_toArray, List.getElem_cons_succ, List.getElem_cons_zero, Act.put, List.setIfInBounds_toArray, List.set_cons_zero, List.set_cons_succ]
  refine wpAnyH_take (i := 9) (v := pv L) rfl (by kernel_rfl) (by kernel_rfl) (by kernel_rfl) (fun _ _ _ h => h) (Or.inl ⟨by rfl, fun w9 hSw => ?_⟩) hHeld ?_
  · go_simp
  simp only [List.getElem_toArray, List.getElem_cons_succ, List.getElem_cons_zero, Act.put, List.setIfInBounds_toArray, List.set_cons_zero, List.set_cons_succ]
  refine wpAnyH_take (i := 10) (v := .bool L.isSome) rfl (by kernel_rfl) (by kernel_rfl) (by kernel_rfl) (fun _ _ _ h => h) (Or.inl ⟨by rfl, fun w9 hSw => ?_⟩) hHeld ?_
  · go_simp
  simp only [List.getElem_toArray, List.getElem_cons_succ, List.getElem_cons_zero, Act.put, List.setIfInBounds_toArray, List.set_cons_zero, List.set_cons_succ]
  refine wpAnyH_take (i := 11) (v := pv L) rfl (by kernel_rfl) (by kernel_rfl) (by kernel_rfl) (fun _ _ _ h => h) (Or.inl ⟨by rfl, fun w9 hSw => ?_⟩) hHeld ?_
  · go_simp
  simp only [List.getElem_toArray, List.getElem_cons_succ, List.getElem_cons_zero, Act.put, List.setIfInBounds_toArray, List.set_cons_zero, List.set_cons_succ]
  refine wpAnyH_take (i := 12) (v := .bool L.isSome) rfl (by kernel_rfl) (by kernel_rfl) (by kernel_rfl) (fun _ _ _ h => h) (Or.inl ⟨by rfl, fun w9 hSw => ?_⟩) hHeld ?_
  · go_simp
  simp only [List.getElem_toArray, List.getElem_cons_succ, List.getElem_cons_zero, Act.put, List.setIfInBounds_toArray, List.set_cons_zero, List.set_cons_succ]
  refine wpAnyH_done (by kernel_rfl) ?_ _
  have D2 : DiskIs w1.drew bd S1 := hHeld.1
  have G2 : w.grownBy w1.drew (some bd) := ⟨hD1.2.1.os, hD1.2.1.tape, hD1.2.1.output, hD1.2.1.size, hD1.2.1.block⟩
  have Z2 : w1.drew.heap.size = w.heap.size := hD1.2.2
  generalize w1.drew = w2 at D2 G2 Z2
  cases L with
  | none =>
    simp only [Option.isSome_none, pv]
    go_wp2
    go_returns
    rw [HF.out.1, HF.out.2.1, ← HF.out.2.2]
    exact ⟨rfl, D2, G2, Z2⟩
  | some g =>
    simp only [Option.isSome_some, pv]
    go_wp2
    go_returns
    rw [HF.out.1, HF.out.2.1, ← HF.out.2.2]
    exact ⟨rfl, D2, G2, Z2⟩
end Go.Proofs.YtoplejbmgpgkhaaGreatDoor
