/- DD, DE -/
import Derived.Test.YtconkienlcegaaaGreatDoorGDC
import Derived.StringKeys
namespace Go.Proofs.YtconkienlcegaaaGreatDoor
open Go.RowKit Go.Maps Go.Joins
set_option linter.unusedSimpArgs false
set_option linter.unusedVariables false
set_option maxHeartbeats 1000000 in
/-- disk.New -/
theorem new_any (r : Int) (h0 : 0 ≤ r) (h1 : r ≤ 1073741824) (w : World) :
 Calls Tryz.prog 8 #[.int .i64 r] w fun e w' => ∃ bd S, e = .returned (.tuple #[.pointer (some ⟨bd, 0, none⟩), .int .i64 0]) ∧ DiskIs w' bd S ∧ Below w.heap.size w w' ∧ S = { room := r, bm := w.heap.size, down := false, steps := 0, armed := 0, pl := none, plan := fun _ => 0, fs := [], fl := S.fl, role := S.role } ∧ (∀ b, b < w.heap.size → S.role b = .none) := by
 have d1 : decide (r < 0) = false := by simp; omega
 have d2 : decide (1073741824 < r) = false := by simp; omega
 have hm := fun w => run_makeMap (P := Tryz.prog) 86 w
 go_enter Tryz.func8, Tryz.ntmps8
 go_wp2; go_returns
 refine ⟨w.heap.size + 1, { room := r, bm := w.heap.size, down := false, steps := 0, armed := 0, pl := none, plan := fun _ => 0, fs := [], fl := fun _ => ⟨.slice none 0 0, [], 0⟩, role := fun b => if b = w.heap.size then .map else if b = w.heap.size + 1 then .disk else .none }, rfl, ?_, by go_grown, rfl, ?_⟩
 · have hz : ((w.alloc (.map #[] 0)).alloc (.cells #[.int .i64 r, .map (some w.heap.size), .bool false, .int .i64 0, .int .i64 0, .map none] 89)).heap.size = w.heap.size + 2 := by simp
   refine ⟨?_, by simp, ?_, by simp, fun _ => rfl, fun b hb => (by cases hb), fun p hp => (by cases hp), fun p hp => (by cases hp), fun p hp => (by cases hp), fun p hp => (by cases hp), fun b hb => ?_⟩
   · have := heap_alloc_new (w.alloc (.map #[] 0)) (.cells #[.int .i64 r, .map (some w.heap.size), .bool false, .int .i64 0, .int .i64 0, .map none] 89)
     simpa [dC] using this
   · exact (World.ownsMap_made w Tryz.prog 9 Rp).alloc _
   · have : w.heap.size + 2 ≤ b := by simpa using hb
     simp
     rw [if_neg (by omega), if_neg (by omega)]
 · intro b hb
   simp
   rw [if_neg (by omega), if_neg (by omega)]
def faultE (k : Int) : Int := if k = 1 then 31 else if k = 2 then 30 else if k = 3 then 32 else 0
set_option maxHeartbeats 1000000 in
/-- (*Disk).fault -/
theorem fault_any {w : World} {bd : Nat} {cs : Array Value} (k : Int) (hb : w.heap[bd]? = some (.cells cs 89)) (hc : 2 < cs.size) :
 Calls Tryz.prog 100 #[.pointer (some ⟨bd, 0, none⟩), .int .i64 k] w fun e w' => e = .returned (.int .i64 (faultE k)) ∧ w' = if k = 3 then w.setCell ⟨bd, 2, none⟩ (.bool true) else w := by
 have c2 : w.cell? ⟨bd, 2, none⟩ = some cs[2] := by rw [cell_of_block hb, Array.getElem?_eq_getElem hc]
 have f2 : w.frozen? ⟨bd, 2, none⟩ = false := unfrozen_of_block hb 2; clear hb; by_cases k1 : k = 1
 · subst k1
   go_enter Tryz.func100, Tryz.ntmps100
   go_wp2; go_ret
   exact ⟨rfl, rfl⟩
 · by_cases k2 : k = 2
   · subst k2
     go_enter Tryz.func100, Tryz.ntmps100
     go_wp2; go_ret
     exact ⟨rfl, rfl⟩
   · by_cases k3 : k = 3
     · subst k3
       go_enter Tryz.func100, Tryz.ntmps100
       go_wp2; go_ret
       exact ⟨rfl, rfl⟩
     · have e1 : (k == 1) = false := by simpa using k1
       have e2 : (k == 2) = false := by simpa using k2
       have e3 : (k == 3) = false := by simpa using k3
       have ef : faultE k = 0 := by simp [faultE, k1, k2, k3]
       rw [if_neg k3, ef]; go_enter Tryz.func100, Tryz.ntmps100; go_wp2; go_ret; exact ⟨rfl, rfl⟩
theorem wf64 {x : Int} (h0 : -9223372036854775808 ≤ x) (h1 : x ≤ 9223372036854775807) : (Lit.int .i64 x).wf = true := by
 show (decide (IntKind.i64.min ≤ x) && decide (x ≤ IntKind.i64.max)) = true; rw [show IntKind.i64.min = -9223372036854775808 from rfl, show IntKind.i64.max = 9223372036854775807 from rfl, decide_eq_true h0, decide_eq_true h1]; rfl
def okN (ns : List ByteArray) : Bool := ns.all nameB
def stK (S : DS) : Int := S.plan (S.steps + 1 - S.armed)
def stepE (S : DS) (ns : List ByteArray) : Int := if S.down then 32 else if okN ns then faultE (stK S) else 1
def stepS (S : DS) (ns : List ByteArray) : DS := if S.down then S else if okN ns then { S with down := decide (stK S = 3), steps := S.steps + 1 } else S
/-- A row of names. -/
def Names (w : World) (gn : Nat) (ns : List ByteArray) : Prop := ∀ k s, ns[k]? = some s → w.cell? ⟨gn, k, none⟩ = some (.string s) ∧ s.size ≤ 9223372036854775807
/-- Counted as it may be. -/
def Cnt (S : DS) : Prop := 0 ≤ S.armed ∧ S.armed ≤ S.steps ∧ S.steps < 4611686018427387904
set_option maxHeartbeats 4000000 in
theorem step_down {w : World} {bd : Nat} {S : DS} (h : DiskIs w bd S) (hd : S.down = true) (v : Value) :
 Calls Tryz.prog 63 #[.pointer (some ⟨bd, 0, none⟩), v] w fun e w' => e = .returned (.int .i64 32) ∧ w' = w := by
 have c2 : w.cell? ⟨bd, 2, none⟩ = some (.bool true) := by rw [cell_of_block h.disk]; simp [dC, hd]
 clear h; go_enter Tryz.func63, Tryz.ntmps63; go_wp2; go_ret; exact ⟨rfl, rfl⟩
set_option maxHeartbeats 4000000 in
theorem step_up {w : World} {bd : Nat} {S : DS} (h : DiskIs w bd S) (hd : S.down = false) (hc : Cnt S) (gn c : Nat) (ns : List ByteArray) (hn : Names w gn ns) (hl : ns.length ≤ 100) (hg : gn ≠ bd) :
 Calls Tryz.prog 63 #[.pointer (some ⟨bd, 0, none⟩), .slice (some ⟨gn, 0, none⟩) ns.length c] w fun e w' => e = .returned (.int .i64 (stepE S ns)) ∧ DiskIs w' bd (stepS S ns) ∧ w.grownBy w' (some bd) ∧ w'.heap.size = w.heap.size := by
 have c2 : w.cell? ⟨bd, 2, none⟩ = some (.bool false) := by rw [cell_of_block h.disk]; simp [dC, hd]
 have HN : Hid (Names w gn ns) := hn; clear hn; have HD : Hid (DiskIs w bd S ∧ Cnt S) := ⟨h, hc⟩
 clear h hc; go_enter Tryz.func63, Tryz.ntmps63; go_wp2; go_loop [15] (fun i => ∃ k : Nat, k ≤ ns.length ∧ i = .int .i64 k ∧ okN (ns.take k) = true) (fun i => ns.length - (intOf i).toNat)
 case atStart => exact ⟨0, Nat.zero_le _, rfl, rfl⟩
 case round =>
  obtain ⟨k, hk, rfl, hall⟩ := hrel; by_cases hkl : k < ns.length
  · have hcell := (HN.out k ns[k] (List.getElem?_eq_getElem hkl)).1
    have hsz := (HN.out k ns[k] (List.getElem?_eq_getElem hkl)).2; have hki : (k : Int) < ns.length := by omega
    generalize hs : ns[k] = s at hcell hsz; cases hb : nameB s
    · go_wp2_with (first
       | (go_at_call 99; refine (name_any s hsz _).mono ?_; rintro e w' ⟨rfl, rfl⟩; rw [hb])
       | go_in)
      go_ret; have hno : okN ns = false := by
       unfold okN; rw [List.all_eq_false]; exact ⟨ns[k], List.getElem_mem hkl, by rw [hs, hb]; simp⟩
      have hd' := HD.out.1; rw [show stepE S ns = 1 from by simp [stepE, hd, hno], show stepS S ns = S from by simp [stepS, hd, hno]]; exact ⟨rfl, hd', World.grownBy.refl _ _, rfl⟩
    · go_wp2_with (first
       | (go_at_call 99; refine (name_any s hsz _).mono ?_; rintro e w' ⟨rfl, rfl⟩; rw [hb])
       | go_in)
      go_round
      case rel =>
       refine ⟨k + 1, by omega, by go_num, ?_⟩; unfold okN at hall ⊢; rw [List.take_add_one, List.all_append, hall, List.getElem?_eq_getElem hkl, hs]; simp [hb]
      case measure => simp [intOf]; omega
  · have hki : decide ((k : Int) < ns.length) = false := by simp; omega
    have hyes : okN ns = true := by
     rw [List.take_of_length_le (by omega)] at hall; exact hall
    have c3 : w.cell? ⟨bd, 3, none⟩ = some (.int .i64 S.steps) := by rw [cell_of_block HD.out.1.disk]; simp [dC]
    have f3 : w.frozen? ⟨bd, 3, none⟩ = false := unfrozen_of_block HD.out.1.disk 3; have b3 : 0 ≤ S.steps ∧ S.steps < 4611686018427387904 := ⟨by have := HD.out.2; unfold Cnt at this; omega, HD.out.2.2.2⟩
    clear hall HN c2 hki; go_wp2; have D1 : DiskIs (w.setCell ⟨bd, 3, none⟩ (.int .i64 (S.steps + 1))) bd { S with down := false, steps := S.steps + 1 } := by
     have hb := HD.out.1; refine hb.setD false (S.steps + 1) (fun b hb' => Below.heap_setCell _ _ _ _ hb') (by simp) ?_; rw [block_setCell hb.disk]; simp [dC, hd]
    have G1 : w.grownBy (w.setCell ⟨bd, 3, none⟩ (.int .i64 (S.steps + 1))) (some bd) := ⟨rfl, rfl, rfl, by simp, fun k _ hk => Below.heap_setCell _ _ _ _ (fun e => hk (by rw [e]))⟩
    have Z1 : (w.setCell ⟨bd, 3, none⟩ (.int .i64 (S.steps + 1))).heap.size = w.heap.size := by simp
    have hA : 0 ≤ S.armed ∧ S.armed ≤ S.steps := ⟨HD.out.2.1, HD.out.2.2.1⟩
    have hwf : (Lit.int .i64 (S.steps + 1 - S.armed)).wf = true := wf64 (by omega) (by omega); clear HD c3 f3; generalize w.setCell ⟨bd, 3, none⟩ (.int .i64 (S.steps + 1)) = w1 at D1 G1 Z1 ⊢; refine wp_region_held_drew (S := fun w' => ∃ dn, DiskIs w' bd { S with down := dn, steps := S.steps + 1 } ∧ w.grownBy w' (some bd) ∧ w'.heap.size = w.heap.size) (by kernel_rfl) ⟨false, D1.kept (fun _ _ => rfl) (Nat.le_refl _), ⟨G1.os, G1.tape, G1.output, G1.size, G1.block⟩, Z1⟩ (fun hHeld => ?_); refine wpAnyH_take (i := 0) (v := .pointer (some ⟨bd, 0, none⟩)) rfl (by kernel_rfl) (by kernel_rfl) (by kernel_rfl) (fun _ _ _ h => h) (Or.inl ⟨by rfl, fun w9 hSw => ?_⟩) hHeld ?_
    · go_simp
    simp only [List.getElem_toArray, List.getElem_cons_succ, List.getElem_cons_zero, Act.put, List.setIfInBounds_toArray, List.set_cons_zero, List.set_cons_succ]; refine wpAnyH_take (i := 1) (v := .pointer (some ⟨bd, 0, none⟩)) rfl (by kernel_rfl) (by kernel_rfl) (by kernel_rfl) (fun _ _ _ h => h) (Or.inl ⟨by rfl, fun w9 hSw => ?_⟩) hHeld ?_
    · go_simp
    simp only [List.getElem_toArray, List.getElem_cons_succ, List.getElem_cons_zero, Act.put, List.setIfInBounds_toArray, List.set_cons_zero, List.set_cons_succ]; refine wpAnyH_take (i := 2) (v := .pointer (some ⟨bd, 0, none⟩)) rfl (by kernel_rfl) (by kernel_rfl) (by kernel_rfl) (fun _ _ _ h => h) (Or.inl ⟨by rfl, fun w9 hSw => ?_⟩) hHeld ?_
    · go_simp
    simp only [List.getElem_toArray, List.getElem_cons_succ, List.getElem_cons_zero, Act.put, List.setIfInBounds_toArray, List.set_cons_zero, List.set_cons_succ]; refine wpAnyH_take (i := 3) (v := .pointer (some ⟨bd, 5, none⟩)) rfl (by kernel_rfl) (by kernel_rfl) (by kernel_rfl) (fun _ _ _ h => h) (Or.inl ⟨by rfl, fun w9 hSw => ?_⟩) hHeld ?_
    · go_simp
    simp only [List.getElem_toArray, List.getElem_cons_succ, List.getElem_cons_zero, Act.put, List.setIfInBounds_toArray, List.set_cons_zero, List.set_cons_succ]; refine wpAnyH_take (i := 4) (v := .map S.pl) rfl (by kernel_rfl) (by kernel_rfl) (by kernel_rfl) (fun _ _ _ h => h) (Or.inl ⟨by rfl, fun w9 hSw => ?_⟩) hHeld ?_
    · have hc : w9.cell? ⟨bd, 5, none⟩ = some (.map S.pl) := (cell_of_block hSw.choose_spec.1.disk 5).trans rfl
      go_simp
    simp only [List.getElem_toArray, List.getElem_cons_succ, List.getElem_cons_zero, Act.put, List.setIfInBounds_toArray, List.set_cons_zero, List.set_cons_succ]; refine wpAnyH_take (i := 5) (v := .pointer (some ⟨bd, 0, none⟩)) rfl (by kernel_rfl) (by kernel_rfl) (by kernel_rfl) (fun _ _ _ h => h) (Or.inl ⟨by rfl, fun w9 hSw => ?_⟩) hHeld ?_
    · go_simp
    simp only [List.getElem_toArray, List.getElem_cons_succ, List.getElem_cons_zero, Act.put, List.setIfInBounds_toArray, List.set_cons_zero, List.set_cons_succ]; refine wpAnyH_take (i := 6) (v := .pointer (some ⟨bd, 0, none⟩)) rfl (by kernel_rfl) (by kernel_rfl) (by kernel_rfl) (fun _ _ _ h => h) (Or.inl ⟨by rfl, fun w9 hSw => ?_⟩) hHeld ?_
    · go_simp
    simp only [List.getElem_toArray, List.getElem_cons_succ, List.getElem_cons_zero, Act.put, List.setIfInBounds_toArray, List.set_cons_zero, List.set_cons_succ]; refine wpAnyH_take (i := 7) (v := .pointer (some ⟨bd, 3, none⟩)) rfl (by kernel_rfl) (by kernel_rfl) (by kernel_rfl) (fun _ _ _ h => h) (Or.inl ⟨by rfl, fun w9 hSw => ?_⟩) hHeld ?_
    · go_simp
    simp only [List.getElem_toArray, List.getElem_cons_succ, List.getElem_cons_zero, Act.put, List.setIfInBounds_toArray, List.set_cons_zero, List.set_cons_succ]; refine wpAnyH_take (i := 8) (v := .int .i64 (S.steps + 1)) rfl (by kernel_rfl) (by kernel_rfl) (by kernel_rfl) (fun _ _ _ h => h) (Or.inl ⟨by rfl, fun w9 hSw => ?_⟩) hHeld ?_
    · have hc : w9.cell? ⟨bd, 3, none⟩ = some (.int .i64 (S.steps + 1)) := (cell_of_block hSw.choose_spec.1.disk 3).trans rfl
      go_simp
    simp only [List.getElem_toArray, List.getElem_cons_succ, List.getElem_cons_zero, Act.put, List.setIfInBounds_toArray, List.set_cons_zero, List.set_cons_succ]; refine wpAnyH_take (i := 9) (v := .pointer (some ⟨bd, 0, none⟩)) rfl (by kernel_rfl) (by kernel_rfl) (by kernel_rfl) (fun _ _ _ h => h) (Or.inl ⟨by rfl, fun w9 hSw => ?_⟩) hHeld ?_
    · go_simp
    simp only [List.getElem_toArray, List.getElem_cons_succ, List.getElem_cons_zero, Act.put, List.setIfInBounds_toArray, List.set_cons_zero, List.set_cons_succ]; refine wpAnyH_take (i := 10) (v := .pointer (some ⟨bd, 0, none⟩)) rfl (by kernel_rfl) (by kernel_rfl) (by kernel_rfl) (fun _ _ _ h => h) (Or.inl ⟨by rfl, fun w9 hSw => ?_⟩) hHeld ?_
    · go_simp
    simp only [List.getElem_toArray, List.getElem_cons_succ, List.getElem_cons_zero, Act.put, List.setIfInBounds_toArray, List.set_cons_zero, List.set_cons_succ]; refine wpAnyH_take (i := 11) (v := .pointer (some ⟨bd, 4, none⟩)) rfl (by kernel_rfl) (by kernel_rfl) (by kernel_rfl) (fun _ _ _ h => h) (Or.inl ⟨by rfl, fun w9 hSw => ?_⟩) hHeld ?_
    · go_simp
    simp only [List.getElem_toArray, List.getElem_cons_succ, List.getElem_cons_zero, Act.put, List.setIfInBounds_toArray, List.set_cons_zero, List.set_cons_succ]; refine wpAnyH_take (i := 12) (v := .int .i64 S.armed) rfl (by kernel_rfl) (by kernel_rfl) (by kernel_rfl) (fun _ _ _ h => h) (Or.inl ⟨by rfl, fun w9 hSw => ?_⟩) hHeld ?_
    · have hc : w9.cell? ⟨bd, 4, none⟩ = some (.int .i64 S.armed) := (cell_of_block hSw.choose_spec.1.disk 4).trans rfl
      go_simp
    simp only [List.getElem_toArray, List.getElem_cons_succ, List.getElem_cons_zero, Act.put, List.setIfInBounds_toArray, List.set_cons_zero, List.set_cons_succ]; refine wpAnyH_take (i := 13) (v := .int .i64 (S.steps + 1 - S.armed)) rfl (by kernel_rfl) (by kernel_rfl) (by kernel_rfl) (fun _ _ _ h => h) (Or.inl ⟨by rfl, fun w9 hSw => ?_⟩) hHeld ?_
    · have hsub : IntKind.i64.wrap (S.steps + 1 - S.armed) = S.steps + 1 - S.armed := by rw [IntKind.wrap_i64]; omega
      go_simp
    simp only [List.getElem_toArray, List.getElem_cons_succ, List.getElem_cons_zero, Act.put, List.setIfInBounds_toArray, List.set_cons_zero, List.set_cons_succ]; refine wpAnyH_take (i := 14) (v := .int .i64 (stK S)) rfl (by kernel_rfl) (by kernel_rfl) (by kernel_rfl) (fun _ _ _ h => h) (Or.inl ⟨by rfl, fun w9 hSw => ?_⟩) hHeld ?_
    · have hl := hSw.choose_spec.1.plan.look hwf
      unfold stK; go_simp
    simp only [List.getElem_toArray, List.getElem_cons_succ, List.getElem_cons_zero, Act.put, List.setIfInBounds_toArray, List.set_cons_zero, List.set_cons_succ]; refine wpAnyH_ready (rs := [15]) (by kernel_rfl) (by simp) ?_; refine AllReadyH.cons rfl (fun K hK => ?_) AllReadyH.nil; have D2 : DiskIs w1.drew bd { S with down := false, steps := S.steps + 1 } := D1.kept (fun _ _ => rfl) (Nat.le_refl _); have G2 : w.grownBy w1.drew (some bd) := ⟨G1.os, G1.tape, G1.output, G1.size, G1.block⟩
    have Z2 : w1.drew.heap.size = w.heap.size := Z1; generalize w1.drew = w2 at D2 G2 Z2 hHeld ⊢; go_simp; refine (fault_any (stK S) D2.disk (by simp [dC])).mono ?_; rintro e w3 ⟨rfl, hw3⟩; have D3 : DiskIs w3 bd { S with down := decide (stK S = 3), steps := S.steps + 1 } ∧ w.grownBy w3 (some bd) ∧ w3.heap.size = w.heap.size := by
     by_cases h3 : stK S = 3
     · rw [if_pos h3] at hw3
       subst hw3; refine ⟨?_, ?_, by simpa using Z2⟩
       · rw [decide_eq_true h3]
         refine D2.setD true (S.steps + 1) (fun b hb' => Below.heap_setCell _ _ _ _ hb') (by simp) ?_; rw [block_setCell D2.disk]; simp [dC]
       · exact ⟨G2.os, G2.tape, G2.output, by simpa using G2.size, fun k hk hk' => (Below.heap_setCell _ _ _ _ (fun e => hk' (by rw [e]))).trans (G2.block k hk hk')⟩
     · rw [if_neg h3] at hw3
       subst hw3; rw [decide_eq_false h3]; exact ⟨D2, G2, Z2⟩
    clear D1 D2 G1 G2 Z1 Z2 hw3; go_wp2_with fail; refine hK.out _ _ ⟨_, D3⟩ (fun hHeld => ?_); clear hK K; try simp only [List.getElem_toArray, List.getElem_cons_succ, List.getElem_cons_zero, Act.put, List.setIfInBounds_toArray, List.set_cons_zero, List.set_cons_succ]
    refine wpAnyH_take (i := 16) (v := .int .i64 (faultE (stK S))) rfl (by kernel_rfl) (by kernel_rfl) (by kernel_rfl) (fun _ _ _ h => h) (Or.inl ⟨by rfl, fun w9 hSw => ?_⟩) hHeld ?_
    · go_simp
    simp only [List.getElem_toArray, List.getElem_cons_succ, List.getElem_cons_zero, Act.put, List.setIfInBounds_toArray, List.set_cons_zero, List.set_cons_succ]; refine wpAnyH_done (by kernel_rfl) ?_ _; go_wp2; go_ret; rw [show stepE S ns = faultE (stK S) from by simp [stepE, hd, hyes], show stepS S ns = { S with down := decide (stK S = 3), steps := S.steps + 1 } from by simp [stepS, hd, hyes]]; exact ⟨rfl, D3⟩
theorem DiskIs.lookV {w : World} {bd : Nat} {S : DS} (h : DiskIs w bd S) {v : Value} {ps : List MemPlace} {n : List UInt8} (hv : Rp v = some ((toD S.fs).atKey (.string n) .nil, ps)) : v = pv (look S.fs n) := by
 rw [at_toD] at hv; cases hl : look S.fs n with
 | none => rw [hl] at hv; exact Rp_nil hv
 | some g => rw [hl] at hv; exact Rp_lit hv
theorem DiskIs.look_ok {w : World} {bd : Nat} {S : DS} (h : DiskIs w bd S) {s : ByteArray} (hs : s.size ≤ 9223372036854775807) :
 (Instr.lookup 86 (.map (some S.bm)) (.string s) true).run Tryz.prog w = .ok (.tuple #[pv (look S.fs s.data.toList), .bool (look S.fs s.data.toList).isSome]) w := by
 obtain ⟨v, ps, hrun, hv⟩ := h.files.look_ok law9 Tryz.underlying86 (zero66 _) (zd := .nil) (zp := []) rfl (WideMaps.keyOf_string_mk Tryz.underlying9 (s := s) hs); rw [h.lookV hv, has_toD] at hrun; exact hrun
theorem DiskIs.look_no {w : World} {bd : Nat} {S : DS} (h : DiskIs w bd S) {s : ByteArray} (hs : s.size ≤ 9223372036854775807) :
 (Instr.lookup 86 (.map (some S.bm)) (.string s) false).run Tryz.prog w = .ok (pv (look S.fs s.data.toList)) w := by
 obtain ⟨v, ps, hrun, hv⟩ := h.files.lookup law9 Tryz.underlying86 (zero66 _) (zd := .nil) (zp := []) rfl (WideMaps.keyOf_string_mk Tryz.underlying9 (s := s) hs); rw [h.lookV hv] at hrun; exact hrun
def findV (S : DS) (ns : List ByteArray) : Option Nat := if stepE S ns = 0 then look S.fs (ns.headD ByteArray.empty).data.toList else none
def findE (S : DS) (ns : List ByteArray) : Int := if stepE S ns = 0 then (if (findV S ns).isSome then 0 else 33) else stepE S ns
theorem step_any {w : World} {bd : Nat} {S : DS} (h : DiskIs w bd S) (hc : Cnt S) (gn c : Nat) (ns : List ByteArray) (hn : Names w gn ns) (hl : ns.length ≤ 100) (hg : gn ≠ bd) :
 Calls Tryz.prog 63 #[.pointer (some ⟨bd, 0, none⟩), .slice (some ⟨gn, 0, none⟩) ns.length c] w fun e w' => e = .returned (.int .i64 (stepE S ns)) ∧ DiskIs w' bd (stepS S ns) ∧ w.grownBy w' (some bd) ∧ w'.heap.size = w.heap.size := by
 cases hd : S.down
 · exact step_up h hd hc gn c ns hn hl hg
 · refine (step_down h hd _).mono ?_
   rintro e w' ⟨rfl, rfl⟩; rw [show stepE S ns = 32 from by simp [stepE, hd], show stepS S ns = S from by simp [stepS, hd]]; exact ⟨rfl, h, World.grownBy.refl _ _, rfl⟩
theorem fs_stepS (S : DS) (ns : List ByteArray) : (stepS S ns).fs = S.fs := by
 unfold stepS; split
 · rfl
 · split <;> rfl
set_option maxHeartbeats 4000000 in
/-- (*Disk).find -/
theorem find_any {w : World} {bd : Nat} {S : DS} (h : DiskIs w bd S) (hc : Cnt S) (gn c : Nat) (n0 : ByteArray) (nr : List ByteArray) (hn : Names w gn (n0 :: nr)) (hl : (n0 :: nr).length ≤ 100) (hg : gn ≠ bd) (hlt : gn < w.heap.size) :
 Calls Tryz.prog 120 #[.pointer (some ⟨bd, 0, none⟩), .slice (some ⟨gn, 0, none⟩) (nr.length + 1) c] w fun e w' => e = .returned (.tuple #[pv (findV S (n0 :: nr)), .int .i64 (findE S (n0 :: nr))]) ∧ DiskIs w' bd (stepS S (n0 :: nr)) ∧ w.grownBy w' (some bd) ∧ w'.heap.size = w.heap.size := by
 have HN : Hid (Names w gn (n0 :: nr)) := hn; have HD : Hid (DiskIs w bd S ∧ Cnt S) := ⟨h, hc⟩
 clear hn h hc; go_enter Tryz.func120, Tryz.ntmps120; have hl' : nr.length + 1 ≤ 100 := hl; go_wp2_with (first
  | (go_at_call 63; refine (step_any HD.out.1 HD.out.2 gn c (n0 :: nr) HN.out hl hg).mono ?_; rintro e w1 ⟨rfl, hD1⟩)
  | go_in)
 all_goals generalize hE : stepE S (n0 :: nr) = E at *
 · have h0 : ¬ E = 0 := by
    have : (E != 0) = true := by assumption
    simpa using this
   go_returns
   rw [show findV S (n0 :: nr) = none from by simp [findV, hE, h0], show findE S (n0 :: nr) = E from by simp [findE, hE, h0]]; exact ⟨rfl, hD1⟩
 have h0 : E = 0 := by
  have : (E != 0) = false := by assumption
  simpa using this
 subst h0; have hcell : w1.cell? ⟨gn, 0, none⟩ = some (.string n0) := by
  rw [World.cell?_of_block (hD1.2.1.block gn hlt (by simpa using hg))]; exact (HN.out 0 n0 rfl).1
 have hsz := (HN.out 0 n0 rfl).2; have hlook := fun (w9 : World) (h9 : DiskIs w9 bd (stepS S (n0 :: nr))) => h9.look_ok hsz
 rw [fs_stepS] at hlook; obtain ⟨S1, hS1⟩ : ∃ S1, S1 = stepS S (n0 :: nr) := ⟨_, rfl⟩
 rw [← hS1] at hD1 hlook; have hfv : findV S (n0 :: nr) = look S.fs n0.data.toList := by simp [findV, hE]
 have hfe : findE S (n0 :: nr) = if (findV S (n0 :: nr)).isSome then 0 else 33 := by simp [findE, hE]
 rw [hfv] at hfe; generalize look S.fs n0.data.toList = L at hlook hfv hfe; have HF : Hid (findV S (n0 :: nr) = L ∧ findE S (n0 :: nr) = (if L.isSome then 0 else 33) ∧ S1 = stepS S (n0 :: nr)) := ⟨hfv, hfe, hS1⟩
 clear HN HD hE hS1 hfv hfe; refine wp_region_held_drew (S := fun w' => DiskIs w' bd S1 ∧ w'.cell? ⟨gn, 0, none⟩ = some (.string n0)) (by kernel_rfl) ⟨hD1.1.kept (fun _ _ => rfl) (Nat.le_refl _), hcell⟩ (fun hHeld => ?_); refine wpAnyH_take (i := 0) (v := .pointer (some ⟨bd, 0, none⟩)) rfl (by kernel_rfl) (by kernel_rfl) (by kernel_rfl) (fun _ _ _ h => h) (Or.inl ⟨by rfl, fun w9 hSw => ?_⟩) hHeld ?_
 · go_simp
 simp only [List.getElem_toArray, List.getElem_cons_succ, List.getElem_cons_zero, Act.put, List.setIfInBounds_toArray, List.set_cons_zero, List.set_cons_succ]; refine wpAnyH_take (i := 1) (v := .pointer (some ⟨bd, 0, none⟩)) rfl (by kernel_rfl) (by kernel_rfl) (by kernel_rfl) (fun _ _ _ h => h) (Or.inl ⟨by rfl, fun w9 hSw => ?_⟩) hHeld ?_
 · go_simp
 simp only [List.getElem_toArray, List.getElem_cons_succ, List.getElem_cons_zero, Act.put, List.setIfInBounds_toArray, List.set_cons_zero, List.set_cons_succ]; refine wpAnyH_take (i := 2) (v := .pointer (some ⟨bd, 1, none⟩)) rfl (by kernel_rfl) (by kernel_rfl) (by kernel_rfl) (fun _ _ _ h => h) (Or.inl ⟨by rfl, fun w9 hSw => ?_⟩) hHeld ?_
 · go_simp
 simp only [List.getElem_toArray, List.getElem_cons_succ, List.getElem_cons_zero, Act.put, List.setIfInBounds_toArray, List.set_cons_zero, List.set_cons_succ]; refine wpAnyH_take (i := 3) (v := .map (some S1.bm)) rfl (by kernel_rfl) (by kernel_rfl) (by kernel_rfl) (fun _ _ _ h => h) (Or.inl ⟨by rfl, fun w9 hSw => ?_⟩) hHeld ?_
 · have hc : w9.cell? ⟨bd, 1, none⟩ = some (.map (some S1.bm)) := (cell_of_block hSw.1.disk 1).trans rfl
   go_simp
 simp only [List.getElem_toArray, List.getElem_cons_succ, List.getElem_cons_zero, Act.put, List.setIfInBounds_toArray, List.set_cons_zero, List.set_cons_succ]; refine wpAnyH_take (i := 4) (v := .slice (some ⟨gn, 0, none⟩) (nr.length + 1) c) rfl (by kernel_rfl) (by kernel_rfl) (by kernel_rfl) (fun _ _ _ h => h) (Or.inl ⟨by rfl, fun w9 hSw => ?_⟩) hHeld ?_
 · go_simp
 simp only [List.getElem_toArray, List.getElem_cons_succ, List.getElem_cons_zero, Act.put, List.setIfInBounds_toArray, List.set_cons_zero, List.set_cons_succ]; refine wpAnyH_take (i := 5) (v := .pointer (some ⟨gn, 0, none⟩)) rfl (by kernel_rfl) (by kernel_rfl) (by kernel_rfl) (fun _ _ _ h => h) (Or.inl ⟨by rfl, fun w9 hSw => ?_⟩) hHeld ?_
 · have i0 : (0 : Int) < (nr.length : Int) + 1 := by omega
   go_simp
 simp only [List.getElem_toArray, List.getElem_cons_succ, List.getElem_cons_zero, Act.put, List.setIfInBounds_toArray, List.set_cons_zero, List.set_cons_succ]; refine wpAnyH_take (i := 6) (v := .string n0) rfl (by kernel_rfl) (by kernel_rfl) (by kernel_rfl) (fun _ _ _ h => h) (Or.inl ⟨by rfl, fun w9 hSw => ?_⟩) hHeld ?_
 · have hc := hSw.2
   go_simp
 simp only [List.getElem_toArray, List.getElem_cons_succ, List.getElem_cons_zero, Act.put, List.setIfInBounds_toArray, List.set_cons_zero, List.set_cons_succ]; refine wpAnyH_take (i := 7) (v := .tuple #[pv L, .bool L.isSome]) rfl (by kernel_rfl) (by kernel_rfl) (by kernel_rfl) (fun _ _ _ h => h) (Or.inl ⟨by rfl, fun w9 hSw => ?_⟩) hHeld ?_
 · have hl := hlook w9 hSw.1
   go_simp
 simp only [List.getElem_toArray, List.getElem_cons_succ, List.getElem_cons_zero, Act.put, List.setIfInBounds_toArray, List.set_cons_zero, List.set_cons_succ]; refine wpAnyH_take (i := 8) (v := .tuple #[pv L, .bool L.isSome]) rfl (by kernel_rfl) (by kernel_rfl) (by kernel_rfl) (fun _ _ _ h => h) (Or.inl ⟨by rfl, fun w9 hSw => ?_⟩) hHeld ?_
 · go_simp
 simp only [List.getElem_toArray, List.getElem_cons_succ, List.getElem_cons_zero, Act.put, List.setIfInBounds_toArray, List.set_cons_zero, List.set_cons_succ]; refine wpAnyH_take (i := 9) (v := pv L) rfl (by kernel_rfl) (by kernel_rfl) (by kernel_rfl) (fun _ _ _ h => h) (Or.inl ⟨by rfl, fun w9 hSw => ?_⟩) hHeld ?_
 · go_simp
 simp only [List.getElem_toArray, List.getElem_cons_succ, List.getElem_cons_zero, Act.put, List.setIfInBounds_toArray, List.set_cons_zero, List.set_cons_succ]; refine wpAnyH_take (i := 10) (v := .bool L.isSome) rfl (by kernel_rfl) (by kernel_rfl) (by kernel_rfl) (fun _ _ _ h => h) (Or.inl ⟨by rfl, fun w9 hSw => ?_⟩) hHeld ?_
 · go_simp
 simp only [List.getElem_toArray, List.getElem_cons_succ, List.getElem_cons_zero, Act.put, List.setIfInBounds_toArray, List.set_cons_zero, List.set_cons_succ]; refine wpAnyH_take (i := 11) (v := pv L) rfl (by kernel_rfl) (by kernel_rfl) (by kernel_rfl) (fun _ _ _ h => h) (Or.inl ⟨by rfl, fun w9 hSw => ?_⟩) hHeld ?_
 · go_simp
 simp only [List.getElem_toArray, List.getElem_cons_succ, List.getElem_cons_zero, Act.put, List.setIfInBounds_toArray, List.set_cons_zero, List.set_cons_succ]; refine wpAnyH_take (i := 12) (v := .bool L.isSome) rfl (by kernel_rfl) (by kernel_rfl) (by kernel_rfl) (fun _ _ _ h => h) (Or.inl ⟨by rfl, fun w9 hSw => ?_⟩) hHeld ?_
 · go_simp
 simp only [List.getElem_toArray, List.getElem_cons_succ, List.getElem_cons_zero, Act.put, List.setIfInBounds_toArray, List.set_cons_zero, List.set_cons_succ]; refine wpAnyH_done (by kernel_rfl) ?_ _; have D2 : DiskIs w1.drew bd S1 := hHeld.1; have G2 : w.grownBy w1.drew (some bd) := ⟨hD1.2.1.os, hD1.2.1.tape, hD1.2.1.output, hD1.2.1.size, hD1.2.1.block⟩
 have Z2 : w1.drew.heap.size = w.heap.size := hD1.2.2; generalize w1.drew = w2 at D2 G2 Z2; cases L with
 | none =>
   simp only [Option.isSome_none, pv]; go_wp2; go_returns; rw [HF.out.1, HF.out.2.1, ← HF.out.2.2]; exact ⟨rfl, D2, G2, Z2⟩
 | some g =>
   simp only [Option.isSome_some, pv]; go_wp2; go_returns; rw [HF.out.1, HF.out.2.1, ← HF.out.2.2]; exact ⟨rfl, D2, G2, Z2⟩
end Go.Proofs.YtconkienlcegaaaGreatDoor
