/- UA, UB, UC, UD, laid into one text. -/
import Derived.Test.YtboeokmaepchgaaGreatDoorM22
import Derived.Test.YtboeokmaepchgaaGreatDoorM41
import Derived.Test.YtboeokmaepchgaaGreatDoorM21
/- state: a nil state's err; noCode, newAccount, account of a nil state. -/
namespace Go.Proofs.YtboeokmaepchgaaGreatDoor
open Go.RowKit Go.Maps Go.Joins Go.Shelf
set_option linter.unusedSimpArgs false
set_option linter.unusedVariables false
set_option maxRecDepth 100000 in
theorem serr_nil {w : World} : Calls Tryz.prog 24 #[.pointer none] w fun e w' => e = .returned (.int .i64 2) ∧ w' = w := by
  go_enter Tryz.func24, Tryz.ntmps24
  go_wp2
  go_ret
  exact ⟨rfl, rfl⟩
set_option maxRecDepth 100000 in
theorem broken_nil {w : World} : Calls Tryz.prog 57 #[.pointer none] w fun e w' => e = .returned (.bool true) ∧ w' = w := by
  go_enter Tryz.func57, Tryz.ntmps57
  go_wp2_with (first | (refine Calls.mono serr_nil ?_; rintro e w1 ⟨rfl, h⟩; obtain rfl := h.symm))
  go_ret
  exact ⟨rfl, rfl⟩
/-- The two roots of an account that was never set. -/
structure Two (D E : Nat → BitVec 8) : Prop where
  d : D = Kc.digest (Kc.mB Kc.eM) 1
  e : E = Kc.digest (Kc.mB Kc.nM) 0
set_option maxRecDepth 100000 in
set_option maxHeartbeats 4000000 in
/-- state.noCode -/
theorem noCode_any {w : World} (E : Nat → BitVec 8) (hE : E = Kc.digest (Kc.mB Kc.nM) 0) (hp : Kc.PathIn w) : Calls Tryz.prog 68 #[] w fun e w' => e = .returned (.agg (Kc.vec 32 (Kc.byt E))) ∧ Below w.heap.size w w' := by
  have hB0 : Below w.heap.size w (w.alloc (.cells (Kc.vec 32 (Kc.byt fun _ => 0#8)) 33)) := by go_grown
  have HS : Hid _ := sum_b (w := w.alloc (.cells (Kc.vec 32 (Kc.byt fun _ => 0#8)) 33)) (a := none) (cap := 0) (bs := []) (hp.below hB0 (Kc.pathIn_pos hp)) (Or.inl ⟨rfl, rfl⟩) (fun c hc => by cases hc) (by decide) (by decide) (by decide)
  have hR0 : (w.alloc (.cells (Kc.vec 32 (Kc.byt fun _ => 0#8)) 33)).rowIs w.heap.size 33 32 (Kc.byt fun _ => 0#8) := Kc.heap_row (heap_alloc_new _ _)
  have H0 : Hid _ := And.intro hB0 hR0
  rw [show Kc.digest (Kc.mB []) ([] : List Int).length = E from hE.symm] at HS
  clear hp hB0 hR0 hE
  go_enter Tryz.func68, Tryz.ntmps68
  go_wp2_with fail
  rw [Kc.zero32']
  generalize w.alloc (.cells (Kc.vec 32 (Kc.byt fun _ => 0#8)) 33) = W0 at H0 HS ⊢
  refine Calls.mono HS.out ?_
  rintro e W3 ⟨rfl, hb3⟩
  have hr3 : W3.rowIs w.heap.size 33 32 (Kc.byt fun _ => 0#8) := H0.out.2.of_block (hb3.block _ H0.out.2.lt)
  go_wp2_with (refine wpList_store_row rfl 33 _ _ rfl w.heap.size _ rfl rfl 33 _ (Kc.row_heap hr3) (Kc.info29v _) (by simp) (Kc.one_byt _ _) ?_)
  refine bodyPost_ret (results_cell_row rfl _ _ _ _ _ _ _ rfl (setRow_heap _ _ _ _ _ _ (Kc.row_heap hr3)) Tryz.underlying33 rfl (Kc.info29v _)) rfl ⟨rfl, ?_⟩
  exact ((Kc.Only.refl _ _).setRow _).below (H0.out.1.trans (hb3.mono H0.out.1.size)) (Nat.le_refl _)
/-- An account's cells: nonce, balance, storage, codeHash, code. -/
def acF (n b0 b1 b2 b3 : Int) (S C : Nat → BitVec 8) (code : Value) (j : Nat) : Value :=
  if j = 0 then .int .u64 n else if j = 1 then .int .u64 b0 else if j = 2 then .int .u64 b1 else if j = 3 then .int .u64 b2 else if j = 4 then .int .u64 b3
  else if j < 37 then .int .u8 (Kc.I8 (S (j - 5))) else if j < 69 then .int .u8 (Kc.I8 (C (j - 37))) else code
theorem info86v (f : Nat → Value) : (Tryz.prog.info? 86).map (·.size) = some (Kc.vec 70 f).size := by rw [Kc.size_vec]; kernel_rfl
theorem one_ac (n b0 b1 b2 b3 : Int) (S C : Nat → BitVec 8) (a : Option Addr) (m c : Nat) : (Kc.vec 70 (acF n b0 b1 b2 b3 S C (.slice a m c))).all (·.oneCell') = true := by
  rw [Array.all_eq_true]
  intro i hi
  have h := Kc.get_vec 70 (acF n b0 b1 b2 b3 S C (.slice a m c)) i (by rw [Kc.size_vec] at hi; exact hi)
  rw [Array.getElem?_eq_getElem hi] at h
  rw [Option.some.inj h]
  unfold acF
  repeat' split
  all_goals rfl
abbrev newAc (D E : Nat → BitVec 8) : Array Value := Kc.vec 70 (acF 0 0 0 0 0 D E (.slice none 0 0))
abbrev zAc : Array Value := Kc.vec 70 (acF 0 0 0 0 0 (fun _ => 0#8) (fun _ => 0#8) (.slice none 0 0))
theorem z86 : Tryz.zeroCells86 = zAc := by kernel_rfl
theorem load86 {w : World} {b : Nat} {f : Nat → Value} (h : w.heap[b]? = some (.cells (Kc.vec 70 f) 86)) : (loadVar 86 ⟨b, 0, none⟩).run Tryz.prog w = .ok (.agg (Kc.vec 70 f)) w :=
  run_loadVar_row w b 86 86 (Kc.vec 70 f) (0, 0) _ h Tryz.underlying86 rfl (info86v _)
set_option maxRecDepth 100000 in
set_option maxHeartbeats 4000000 in
/-- state.newAccount -/
theorem newAcc_any {w : World} (D E : Nat → BitVec 8) (h : Two D E) (hp : Kc.PathIn w) : Calls Tryz.prog 60 #[] w fun e w' => e = .returned (.agg (newAc D E)) ∧ Below w.heap.size w w' := by
  have HP : Hid (Kc.PathIn w ∧ 1 < w.heap.size ∧ Two D E) := ⟨hp, Kc.pathIn_pos hp, h⟩
  clear hp h
  go_enter Tryz.func60, Tryz.ntmps60
  go_wp2_with fail
  rw [z86]
  have hB0 : Below w.heap.size w (w.alloc (.cells zAc 86)) := by go_grown
  have hR0 : (w.alloc (.cells zAc 86)).rowIs w.heap.size 86 70 (acF 0 0 0 0 0 (fun _ => 0#8) (fun _ => 0#8) (.slice none 0 0)) := Kc.heap_row (heap_alloc_new _ _)
  have H0 : Hid _ := And.intro hB0 hR0
  clear hB0 hR0
  generalize w.alloc (.cells zAc 86) = W0 at H0 ⊢
  refine Calls.mono (empty_d D HP.out.2.2.d (HP.out.1.below H0.out.1 HP.out.2.1)) ?_
  rintro e W1 ⟨rfl, hb1⟩
  have H1 : Hid (Below w.heap.size w W1 ∧ W1.rowIs w.heap.size 86 70 (acF 0 0 0 0 0 (fun _ => 0#8) (fun _ => 0#8) (.slice none 0 0))) := ⟨H0.out.1.trans (hb1.mono H0.out.1.size), H0.out.2.of_block (hb1.block _ H0.out.2.lt)⟩
  clear hb1 H0
  go_wp2_with fail
  refine Calls.mono (noCode_any E HP.out.2.2.e (HP.out.1.below H1.out.1 HP.out.2.1)) ?_
  rintro e W2 ⟨rfl, hb2⟩
  have hb : Below w.heap.size w W2 := H1.out.1.trans (hb2.mono H1.out.1.size)
  have hr : W2.rowIs w.heap.size 86 70 (acF 0 0 0 0 0 (fun _ => 0#8) (fun _ => 0#8) (.slice none 0 0)) := H1.out.2.of_block (hb2.block _ H1.out.2.lt)
  clear hb2 H1
  go_wp2_with (first | (refine wpList_store_row rfl 86 _ _ rfl w.heap.size (newAc D E) rfl rfl 86 _ (Kc.row_heap hr) (info86v _) (by simp) (one_ac _ _ _ _ _ _ _ _ _ _) ?_) | (refine wpList_build rfl 86 _ rfl (by kernel_rfl) ?_; generalize hG : (Program.built _ _ _).getD #[] = G; obtain rfl : G = newAc D E := by rw [← hG]; kernel_rfl))
  clear hG
  refine bodyPost_ret (results_cell_row rfl _ _ _ _ _ _ _ rfl (setRow_heap _ _ _ _ _ _ (Kc.row_heap hr)) Tryz.underlying86 rfl (info86v _)) rfl ⟨rfl, ?_⟩
  exact ((Kc.Only.refl _ _).setRow _).below hb (Nat.le_refl _)
end Go.Proofs.YtboeokmaepchgaaGreatDoor
/- state: account of a nil state, and the looks that need it. -/
namespace Go.Proofs.YtboeokmaepchgaaGreatDoor
open Go.RowKit Go.Maps Go.Joins Go.Shelf
set_option linter.unusedSimpArgs false
set_option linter.unusedVariables false
/-- An address. -/
abbrev adV (A : Nat → BitVec 8) : Array Value := Kc.vec 20 (Kc.byt A)
theorem info43v (f : Nat → Value) : (Tryz.prog.info? 43).map (·.size) = some (Kc.vec 20 f).size := by rw [Kc.size_vec]; kernel_rfl
theorem load43 {w : World} {b : Nat} {f : Nat → Value} (h : w.heap[b]? = some (.cells (Kc.vec 20 f) 43)) : (loadVar 43 ⟨b, 0, none⟩).run Tryz.prog w = .ok (.agg (Kc.vec 20 f)) w :=
  run_loadVar_row w b 43 43 (Kc.vec 20 f) (0, 0) _ h Tryz.underlying43 rfl (info43v _)
set_option maxRecDepth 100000 in
set_option maxHeartbeats 4000000 in
/-- account of a nil state -/
theorem account_nil {w : World} (A D E : Nat → BitVec 8) (h : Two D E) (hp : Kc.PathIn w) : Calls Tryz.prog 67 #[.pointer none, .agg (adV A)] w fun e w' => e = .returned (.agg (newAc D E)) ∧ Below w.heap.size w w' := by
  have HP : Hid (Kc.PathIn w ∧ 1 < w.heap.size ∧ Two D E) := ⟨hp, Kc.pathIn_pos hp, h⟩
  clear hp h
  go_enter Tryz.func67, Tryz.ntmps67
  go_wp2_with (first | (go_at_call 57; refine Calls.mono broken_nil ?_; rintro e w1 ⟨rfl, h⟩; obtain rfl := h.symm; clear h))
  rw [z86]
  have hB0 : Below w.heap.size w ((w.alloc (.cells (adV A) 43)).alloc (.cells zAc 86)) := by go_grown
  have hR0 : ((w.alloc (.cells (adV A) 43)).alloc (.cells zAc 86)).rowIs (w.heap.size + 1) 86 70 (acF 0 0 0 0 0 (fun _ => 0#8) (fun _ => 0#8) (.slice none 0 0)) := Kc.heap_row (allocs_heap [.cells (adV A) 43, .cells zAc 86] w 1 _ rfl)
  have H0 : Hid _ := And.intro hB0 hR0
  clear hB0 hR0
  generalize (w.alloc (.cells (adV A) 43)).alloc (.cells zAc 86) = W0 at H0 ⊢
  refine Calls.mono (newAcc_any D E HP.out.2.2 (HP.out.1.below H0.out.1 HP.out.2.1)) ?_
  rintro e W1 ⟨rfl, hb1⟩
  have hb : Below w.heap.size w W1 := H0.out.1.trans (hb1.mono H0.out.1.size)
  have hr : W1.rowIs (w.heap.size + 1) 86 70 (acF 0 0 0 0 0 (fun _ => 0#8) (fun _ => 0#8) (.slice none 0 0)) := H0.out.2.of_block (hb1.block _ H0.out.2.lt)
  clear hb1 H0
  go_wp2_with (first | (refine wpList_store_row rfl 86 _ _ rfl (w.heap.size + 1) (newAc D E) rfl rfl 86 _ (Kc.row_heap hr) (info86v _) (by simp) (one_ac _ _ _ _ _ _ _ _ _ _) ?_))
  refine bodyPost_ret (results_cell_row rfl _ _ _ _ _ _ _ rfl (setRow_heap _ _ _ _ _ _ (Kc.row_heap hr)) Tryz.underlying86 rfl (info86v _)) rfl ⟨rfl, ?_⟩
  exact ((Kc.Only.refl _ _).setRow _).below hb (by omega)
set_option maxRecDepth 100000 in
set_option maxHeartbeats 4000000 in
/-- Nonce of a nil state -/
theorem nonce_nil {w : World} (A D E : Nat → BitVec 8) (h : Two D E) (hp : Kc.PathIn w) : Calls Tryz.prog 27 #[.pointer none, .agg (adV A)] w fun e w' => e = .returned (.int .u64 0) ∧ Below w.heap.size w w' := by
  have hB0 : Below w.heap.size w (w.alloc (.cells (adV A) 43)) := by go_grown
  have HC : Hid _ := account_nil (w := w.alloc (.cells (adV A) 43)) A D E h (hp.below hB0 (Kc.pathIn_pos hp))
  have HB : Hid (Below w.heap.size w (w.alloc (.cells (adV A) 43)) ∧ (w.alloc (.cells (adV A) 43)).heap[w.heap.size]? = some (.cells (adV A) 43)) := ⟨hB0, heap_alloc_new _ _⟩
  have hfd : ∀ W : World, (Instr.field 86 (.agg (newAc D E)) 0).run Tryz.prog W = .ok (.int .u64 0) W := fun W => by kernel_rfl
  clear hp h hB0
  go_enter Tryz.func27, Tryz.ntmps27
  go_wp2_with (first | (refine wpList_load_row rfl 43 _ rfl w.heap.size rfl 43 _ (0, 0) _ HB.out.2 Tryz.underlying43 rfl (info43v _) ?_) | (go_at_call 67; refine Calls.mono HC.out ?_; rintro e w1 ⟨rfl, hb1⟩))
  go_ret
  exact ⟨rfl, HB.out.1.trans (hb1.mono HB.out.1.size)⟩
end Go.Proofs.YtboeokmaepchgaaGreatDoor
/- state: empty of an account that was never set; Balance, Exists, CodeHash, Code of a nil state. -/
namespace Go.Proofs.YtboeokmaepchgaaGreatDoor
open Go.RowKit Go.Maps Go.Joins Go.Shelf
set_option linter.unusedSimpArgs false
set_option linter.unusedVariables false
abbrev w0V : Value := .agg #[.int .u64 0, .int .u64 0, .int .u64 0, .int .u64 0]
set_option maxRecDepth 100000 in
set_option maxHeartbeats 4000000 in
/-- word.Zero of nought -/
theorem zero_t {w : World} : Calls Tryz.prog 98 #[w0V] w fun e w' => e = .returned (.bool true) ∧ Below w.heap.size w w' := by
  have he : ∀ W : World, (binOp .eql 46 w0V w0V : Sem Value).run Tryz.prog W = .ok (.bool true) W := fun W => by kernel_rfl
  have he2 : ∀ W : World, (Op.equalIn 10000 46 w0V w0V).run Tryz.prog W = .ok true W := fun W => by kernel_rfl
  have hB0 : Below w.heap.size w (w.alloc (.cells #[.int .u64 0, .int .u64 0, .int .u64 0, .int .u64 0] 46)) := by go_grown
  go_enter Tryz.func98, Tryz.ntmps98
  go_wp2
  go_ret
  exact ⟨rfl, hB0⟩
theorem acF_lo (n b0 b1 b2 b3 : Int) (S C : Nat → BitVec 8) (v : Value) : acF n b0 b1 b2 b3 S C v 0 = .int .u64 n ∧ acF n b0 b1 b2 b3 S C v 1 = .int .u64 b0 ∧ acF n b0 b1 b2 b3 S C v 2 = .int .u64 b1 ∧ acF n b0 b1 b2 b3 S C v 3 = .int .u64 b2 ∧ acF n b0 b1 b2 b3 S C v 4 = .int .u64 b3 ∧ acF n b0 b1 b2 b3 S C v 69 = v := ⟨rfl, rfl, rfl, rfl, rfl, rfl⟩
theorem acF_code (n b0 b1 b2 b3 : Int) (S C : Nat → BitVec 8) (v : Value) (j : Nat) (h : j < 32) : acF n b0 b1 b2 b3 S C v (37 + j) = .int .u8 (Kc.I8 (C j)) := by
  unfold acF
  rw [if_neg (by omega), if_neg (by omega), if_neg (by omega), if_neg (by omega), if_neg (by omega), if_neg (by omega), if_pos (by omega), Nat.add_sub_cancel_left]
theorem ac_cell {w : World} {b : Nat} {f : Nat → Value} (h : w.heap[b]? = some (.cells (Kc.vec 70 f) 86)) (j : Nat) (hj : j < 70) : w.cell? ⟨b, j, none⟩ = some (f j) := (cell_of_block h j).trans (Kc.get_vec 70 f j hj)
/-- The code's hash of an account in memory. -/
theorem ac_code {w : World} {b : Nat} {n b0 b1 b2 b3 : Int} {S C : Nat → BitVec 8} {v : Value} (h : w.heap[b]? = some (.cells (Kc.vec 70 (acF n b0 b1 b2 b3 S C v)) 86)) : (loadVar 33 ⟨b, 37, none⟩).run Tryz.prog w = .ok (.agg (Kc.vec 32 (Kc.byt C))) w :=
  Kc.run_loadVar_mid w b 37 32 33 5 (Kc.byt C) (fun j hj => (ac_cell h (37 + j) (by omega)).trans (by rw [acF_code _ _ _ _ _ _ _ _ _ hj])) Tryz.underlying33 (by kernel_rfl)
set_option maxRecDepth 100000 in
set_option maxHeartbeats 8000000 in
/-- empty of an account that was never set -/
theorem empty_new {w : World} (D E : Nat → BitVec 8) (h : Two D E) (hp : Kc.PathIn w) : Calls Tryz.prog 59 #[.agg (newAc D E)] w fun e w' => e = .returned (.bool true) ∧ Below w.heap.size w w' := by
  have HP : Hid (Kc.PathIn w ∧ 1 < w.heap.size ∧ Two D E) := ⟨hp, Kc.pathIn_pos hp, h⟩
  have H0 : Hid (Below w.heap.size w (w.alloc (.cells (newAc D E) 86)) ∧ (w.alloc (.cells (newAc D E) 86)).heap[w.heap.size]? = some (.cells (newAc D E) 86)) := ⟨by go_grown, heap_alloc_new _ _⟩
  clear hp h
  go_enter Tryz.func59, Tryz.ntmps59
  go_wp2_with fail
  generalize w.alloc (.cells (newAc D E) 86) = W0 at H0 ⊢
  refine wp_noP ?_
  refine wp_region_held_drew (S := (fun w' : World => w'.heap[w.heap.size]? = some (.cells (newAc D E) 86))) (by kernel_rfl) H0.out.2 (fun hHeld => ?_)
  have G0 : Hid (Below w.heap.size w W0.drew) := ⟨H0.out.1.os, H0.out.1.tape, H0.out.1.output, H0.out.1.size, H0.out.1.block⟩
  clear H0
  generalize W0.drew = U0 at G0 hHeld ⊢
  refine wpAnyH_take (i := 0) (v := .pointer (some ⟨w.heap.size, 0, none⟩)) rfl (by kernel_rfl) (by kernel_rfl) (by kernel_rfl) (fun _ _ _ h => h) (Or.inl ⟨by rfl, fun w9 hSw => ?_⟩) hHeld ?_
  · go_simp
  simp only [List.getElem_toArray, List.getElem_cons_succ, List.getElem_cons_zero, Act.put, List.setIfInBounds_toArray, List.set_cons_zero, List.set_cons_succ]
  refine wpAnyH_take (i := 1) (v := .int .u64 0) rfl (by kernel_rfl) (by kernel_rfl) (by kernel_rfl) (fun _ _ _ h => h) (Or.inl ⟨by rfl, fun w9 hSw => ?_⟩) hHeld ?_
  · have k0 : w9.cell? ⟨w.heap.size, 0, none⟩ = some (.int .u64 0) := ac_cell hSw 0 (by decide)
    go_simp
  simp only [List.getElem_toArray, List.getElem_cons_succ, List.getElem_cons_zero, Act.put, List.setIfInBounds_toArray, List.set_cons_zero, List.set_cons_succ]
  refine wpAnyH_take (i := 2) (v := .bool true) rfl (by kernel_rfl) (by kernel_rfl) (by kernel_rfl) (fun _ _ _ h => h) (Or.inl ⟨by rfl, fun w9 hSw => ?_⟩) hHeld ?_
  · go_simp
  simp only [List.getElem_toArray, List.getElem_cons_succ, List.getElem_cons_zero, Act.put, List.setIfInBounds_toArray, List.set_cons_zero, List.set_cons_succ]
  refine wpAnyH_take (i := 3) (v := .bool true) rfl (by kernel_rfl) (by kernel_rfl) (by kernel_rfl) (fun _ _ _ h => h) (Or.inl ⟨by rfl, fun w9 hSw => ?_⟩) hHeld ?_
  · go_simp
  simp only [List.getElem_toArray, List.getElem_cons_succ, List.getElem_cons_zero, Act.put, List.setIfInBounds_toArray, List.set_cons_zero, List.set_cons_succ]
  refine wpAnyH_take (i := 4) (v := .pointer (some ⟨w.heap.size, 1, none⟩)) rfl (by kernel_rfl) (by kernel_rfl) (by kernel_rfl) (fun _ _ _ h => h) (Or.inl ⟨by rfl, fun w9 hSw => ?_⟩) hHeld ?_
  · go_simp
  simp only [List.getElem_toArray, List.getElem_cons_succ, List.getElem_cons_zero, Act.put, List.setIfInBounds_toArray, List.set_cons_zero, List.set_cons_succ]
  refine wpAnyH_take (i := 5) (v := w0V) rfl (by kernel_rfl) (by kernel_rfl) (by kernel_rfl) (fun _ _ _ h => h) (Or.inl ⟨by rfl, fun w9 hSw => ?_⟩) hHeld ?_
  · have k1 : w9.cell? ⟨w.heap.size, 1, none⟩ = some (.int .u64 0) := ac_cell hSw 1 (by decide)
    have k2 : w9.cell? ⟨w.heap.size, 2, none⟩ = some (.int .u64 0) := ac_cell hSw 2 (by decide)
    have k3 : w9.cell? ⟨w.heap.size, 3, none⟩ = some (.int .u64 0) := ac_cell hSw 3 (by decide)
    have k4 : w9.cell? ⟨w.heap.size, 4, none⟩ = some (.int .u64 0) := ac_cell hSw 4 (by decide)
    go_simp
  simp only [List.getElem_toArray, List.getElem_cons_succ, List.getElem_cons_zero, Act.put, List.setIfInBounds_toArray, List.set_cons_zero, List.set_cons_succ]
  refine wpAnyH_ready (rs := [6]) (by kernel_rfl) (by simp) ?_
  refine AllReadyH.cons rfl (fun K hK => ?_) AllReadyH.nil
  have hC := zero_t (w := U0)
  go_simp
  refine Calls.mono hC ?_
  clear hC
  rintro e U1 ⟨rfl, hb1⟩
  have G1 : Hid (Below w.heap.size w U1) := G0.out.trans (hb1.mono G0.out.size)
  have hx1 : (fun w' : World => w'.heap[w.heap.size]? = some (.cells (newAc D E) 86)) U1 := (hb1.block _ (heap_lt hHeld)).trans hHeld
  clear hb1 G0
  refine hK.out _ _ hx1 (fun hHeld => ?_)
  clear hK K
  try simp only [List.getElem_toArray, List.getElem_cons_succ, List.getElem_cons_zero, Act.put, List.setIfInBounds_toArray, List.set_cons_zero, List.set_cons_succ]
  refine wpAnyH_take (i := 7) (v := .bool true) rfl (by kernel_rfl) (by kernel_rfl) (by kernel_rfl) (fun _ _ _ h => h) (Or.inl ⟨by rfl, fun w9 hSw => ?_⟩) hHeld ?_
  · go_simp
  simp only [List.getElem_toArray, List.getElem_cons_succ, List.getElem_cons_zero, Act.put, List.setIfInBounds_toArray, List.set_cons_zero, List.set_cons_succ]
  refine wpAnyH_take (i := 8) (v := .bool true) rfl (by kernel_rfl) (by kernel_rfl) (by kernel_rfl) (fun _ _ _ h => h) (Or.inl ⟨by rfl, fun w9 hSw => ?_⟩) hHeld ?_
  · go_simp
  simp only [List.getElem_toArray, List.getElem_cons_succ, List.getElem_cons_zero, Act.put, List.setIfInBounds_toArray, List.set_cons_zero, List.set_cons_succ]
  refine wpAnyH_take (i := 9) (v := .pointer (some ⟨w.heap.size, 37, none⟩)) rfl (by kernel_rfl) (by kernel_rfl) (by kernel_rfl) (fun _ _ _ h => h) (Or.inl ⟨by rfl, fun w9 hSw => ?_⟩) hHeld ?_
  · go_simp
  simp only [List.getElem_toArray, List.getElem_cons_succ, List.getElem_cons_zero, Act.put, List.setIfInBounds_toArray, List.set_cons_zero, List.set_cons_succ]
  refine wpAnyH_take (i := 10) (v := .agg (Kc.vec 32 (Kc.byt E))) rfl (by kernel_rfl) (by kernel_rfl) (by kernel_rfl) (fun _ _ _ h => h) (Or.inl ⟨by rfl, fun w9 hSw => ?_⟩) hHeld ?_
  · exact Kc.run_load_exec 33 _ rfl _ rfl (ac_code hSw)
  simp only [List.getElem_toArray, List.getElem_cons_succ, List.getElem_cons_zero, Act.put, List.setIfInBounds_toArray, List.set_cons_zero, List.set_cons_succ]
  refine wpAnyH_ready (rs := [11]) (by kernel_rfl) (by simp) ?_
  refine AllReadyH.cons rfl (fun K hK => ?_) AllReadyH.nil
  have hC := noCode_any (w := U1) E HP.out.2.2.e (HP.out.1.below G1.out HP.out.2.1)
  go_simp
  refine Calls.mono hC ?_
  clear hC
  rintro e U2 ⟨rfl, hb2⟩
  have G2 : Hid (Below w.heap.size w U2) := G1.out.trans (hb2.mono G1.out.size)
  have hx2 : (fun w' : World => w'.heap[w.heap.size]? = some (.cells (newAc D E) 86)) U2 := (hb2.block _ (heap_lt hHeld)).trans hHeld
  clear hb2 G1 hx1
  refine hK.out _ _ hx2 (fun hHeld => ?_)
  clear hK K
  try simp only [List.getElem_toArray, List.getElem_cons_succ, List.getElem_cons_zero, Act.put, List.setIfInBounds_toArray, List.set_cons_zero, List.set_cons_succ]
  refine wpAnyH_take (i := 12) (v := .bool true) rfl (by kernel_rfl) (by kernel_rfl) (by kernel_rfl) (fun _ _ _ h => h) (Or.inl ⟨by rfl, fun w9 hSw => ?_⟩) hHeld ?_
  · have he := eq33 E w9
    go_simp
  simp only [List.getElem_toArray, List.getElem_cons_succ, List.getElem_cons_zero, Act.put, List.setIfInBounds_toArray, List.set_cons_zero, List.set_cons_succ]
  refine wpAnyH_take (i := 13) (v := .bool true) rfl (by kernel_rfl) (by kernel_rfl) (by kernel_rfl) (fun _ _ _ h => h) (Or.inl ⟨by rfl, fun w9 hSw => ?_⟩) hHeld ?_
  · go_simp
  simp only [List.getElem_toArray, List.getElem_cons_succ, List.getElem_cons_zero, Act.put, List.setIfInBounds_toArray, List.set_cons_zero, List.set_cons_succ]
  refine wpAnyH_take (i := 14) (v := .bool true) rfl (by kernel_rfl) (by kernel_rfl) (by kernel_rfl) (fun _ _ _ h => h) (Or.inl ⟨by rfl, fun w9 hSw => ?_⟩) hHeld ?_
  · go_simp
  simp only [List.getElem_toArray, List.getElem_cons_succ, List.getElem_cons_zero, Act.put, List.setIfInBounds_toArray, List.set_cons_zero, List.set_cons_succ]
  refine wpAnyH_done (by kernel_rfl) ?_ _
  simp only [noP]
  clear hHeld hx2
  go_wp2
  go_ret
  exact ⟨rfl, G2.out⟩
set_option maxRecDepth 100000 in
set_option maxHeartbeats 4000000 in
/-- Balance of a nil state -/
theorem balance_nil {w : World} (A D E : Nat → BitVec 8) (h : Two D E) (hp : Kc.PathIn w) : Calls Tryz.prog 26 #[.pointer none, .agg (adV A)] w fun e w' => e = .returned w0V ∧ Below w.heap.size w w' := by
  have hB0 : Below w.heap.size w ((w.alloc (.cells (adV A) 43)).alloc (.cells #[.int .u64 0, .int .u64 0, .int .u64 0, .int .u64 0] 46)) := by go_grown
  have HC : Hid _ := account_nil (w := (w.alloc (.cells (adV A) 43)).alloc (.cells #[.int .u64 0, .int .u64 0, .int .u64 0, .int .u64 0] 46)) A D E h (hp.below hB0 (Kc.pathIn_pos hp))
  have HB : Hid (Below w.heap.size w ((w.alloc (.cells (adV A) 43)).alloc (.cells #[.int .u64 0, .int .u64 0, .int .u64 0, .int .u64 0] 46)) ∧ ((w.alloc (.cells (adV A) 43)).alloc (.cells #[.int .u64 0, .int .u64 0, .int .u64 0, .int .u64 0] 46)).heap[w.heap.size]? = some (.cells (adV A) 43) ∧ ((w.alloc (.cells (adV A) 43)).alloc (.cells #[.int .u64 0, .int .u64 0, .int .u64 0, .int .u64 0] 46)).heap[w.heap.size + 1]? = some (.cells #[.int .u64 0, .int .u64 0, .int .u64 0, .int .u64 0] 46)) := ⟨hB0, allocs_heap [.cells (adV A) 43, .cells #[.int .u64 0, .int .u64 0, .int .u64 0, .int .u64 0] 46] w 0 _ rfl, allocs_heap [.cells (adV A) 43, .cells #[.int .u64 0, .int .u64 0, .int .u64 0, .int .u64 0] 46] w 1 _ rfl⟩
  have hfd : ∀ W : World, (Instr.field 86 (.agg (newAc D E)) 1).run Tryz.prog W = .ok w0V W := fun W => by kernel_rfl
  clear hp h hB0
  go_enter Tryz.func26, Tryz.ntmps26
  go_wp2_with (first | (refine wpList_load_row rfl 43 _ rfl w.heap.size rfl 43 _ (0, 0) _ HB.out.2.1 Tryz.underlying43 rfl (info43v _) ?_))
  generalize (w.alloc (.cells (adV A) 43)).alloc (.cells #[.int .u64 0, .int .u64 0, .int .u64 0, .int .u64 0] 46) = W0 at HB HC ⊢
  refine Calls.mono HC.out ?_
  rintro e W1 ⟨rfl, hb1⟩
  have hr : W1.heap[w.heap.size + 1]? = some (.cells #[.int .u64 0, .int .u64 0, .int .u64 0, .int .u64 0] 46) := (hb1.block _ (heap_lt HB.out.2.2)).trans HB.out.2.2
  have hb : Below w.heap.size w W1 := HB.out.1.trans (hb1.mono HB.out.1.size)
  have HR : Hid _ := And.intro hb hr
  clear hb hb1 HB HC
  go_wp2_with (first | (refine wpList_store_row rfl 46 _ _ rfl (w.heap.size + 1) #[.int .u64 0, .int .u64 0, .int .u64 0, .int .u64 0] rfl rfl 46 _ hr (by kernel_rfl) rfl (by simp [Value.oneCell']) ?_))
  refine bodyPost_ret (results_cell_row rfl _ _ _ _ _ _ _ rfl (setRow_heap _ _ _ _ _ _ hr) Tryz.underlying46 rfl (by kernel_rfl)) rfl ⟨rfl, ?_⟩
  exact ((Kc.Only.refl _ _).setRow _).below HR.out.1 (by omega)
set_option maxRecDepth 100000 in
set_option maxHeartbeats 4000000 in
/-- Exists of a nil state -/
theorem exists_nil {w : World} (A D E : Nat → BitVec 8) (h : Two D E) (hp : Kc.PathIn w) : Calls Tryz.prog 25 #[.pointer none, .agg (adV A)] w fun e w' => e = .returned (.bool false) ∧ Below w.heap.size w w' := by
  have hB0 : Below w.heap.size w (w.alloc (.cells (adV A) 43)) := by go_grown
  have HC : Hid _ := account_nil (w := w.alloc (.cells (adV A) 43)) A D E h (hp.below hB0 (Kc.pathIn_pos hp))
  have HB : Hid (Below w.heap.size w (w.alloc (.cells (adV A) 43)) ∧ (w.alloc (.cells (adV A) 43)).heap[w.heap.size]? = some (.cells (adV A) 43)) := ⟨hB0, heap_alloc_new _ _⟩
  have HP : Hid (Kc.PathIn w ∧ 1 < w.heap.size ∧ Two D E) := ⟨hp, Kc.pathIn_pos hp, h⟩
  clear hp h hB0
  go_enter Tryz.func25, Tryz.ntmps25
  go_wp2_with (first | (refine wpList_load_row rfl 43 _ rfl w.heap.size rfl 43 _ (0, 0) _ HB.out.2 Tryz.underlying43 rfl (info43v _) ?_) | (go_at_call 67; refine Calls.mono HC.out ?_; rintro e w1 ⟨rfl, hb1⟩; have HB1 : Hid (Below w.heap.size w w1) := HB.out.1.trans (hb1.mono HB.out.1.size); have HC1 : Hid _ := empty_new D E HP.out.2.2 (HP.out.1.below HB1.out HP.out.2.1); clear hb1) | (go_at_call 59; refine Calls.mono HC1.out ?_; rintro e w2 ⟨rfl, hb2⟩))
  go_ret
  exact ⟨rfl, HB1.out.trans (hb2.mono HB1.out.size)⟩
end Go.Proofs.YtboeokmaepchgaaGreatDoor
/- state: what a nil state answers without looking. -/
namespace Go.Proofs.YtboeokmaepchgaaGreatDoor
open Go.RowKit Go.Maps Go.Joins Go.Shelf
set_option linter.unusedSimpArgs false
set_option linter.unusedVariables false
/-- A word. -/
abbrev W4a (x0 x1 x2 x3 : Int) : Array Value := #[.int .u64 x0, .int .u64 x1, .int .u64 x2, .int .u64 x3]
set_option maxRecDepth 100000 in
set_option maxHeartbeats 4000000 in
theorem snap_nil {w : World}  : Calls Tryz.prog 32 #[.pointer none] w fun e w' => e = .returned (.int .i64 0) ∧ Below w.heap.size w w' := by
  go_enter Tryz.func32, Tryz.ntmps32
  go_wp2_with (first | (go_at_call 57; refine Calls.mono broken_nil ?_; rintro e w1 ⟨rfl, h⟩; obtain rfl := h.symm; clear h))
  go_ret
  exact ⟨rfl, Below.refl _ _⟩
set_option maxRecDepth 100000 in
set_option maxHeartbeats 4000000 in
theorem revert_nil {w : World} (n : Int) : Calls Tryz.prog 33 #[.pointer none, .int .i64 n] w fun e w' => e = .returned (.int .i64 2) ∧ Below w.heap.size w w' := by
  go_enter Tryz.func33, Tryz.ntmps33
  go_wp2
  go_ret
  exact ⟨rfl, Below.refl _ _⟩
set_option maxRecDepth 100000 in
set_option maxHeartbeats 4000000 in
theorem warm_nil {w : World} (A : Nat → BitVec 8) : Calls Tryz.prog 34 #[.pointer none, .agg (adV A)] w fun e w' => e = .returned (.bool false) ∧ Below w.heap.size w w' := by
  go_enter Tryz.func34, Tryz.ntmps34
  go_wp2_with (first | (go_at_call 57; refine Calls.mono broken_nil ?_; rintro e w1 ⟨rfl, h⟩; obtain rfl := h.symm; clear h))
  go_ret
  exact ⟨rfl, by go_grown⟩
set_option maxRecDepth 100000 in
set_option maxHeartbeats 4000000 in
theorem warmSlot_nil {w : World} (A : Nat → BitVec 8) (x0 x1 x2 x3 : Int) : Calls Tryz.prog 35 #[.pointer none, .agg (adV A), .agg (W4a x0 x1 x2 x3)] w fun e w' => e = .returned (.bool false) ∧ Below w.heap.size w w' := by
  go_enter Tryz.func35, Tryz.ntmps35
  go_wp2_with (first | (go_at_call 57; refine Calls.mono broken_nil ?_; rintro e w1 ⟨rfl, h⟩; obtain rfl := h.symm; clear h))
  go_ret
  exact ⟨rfl, by go_grown⟩
set_option maxRecDepth 100000 in
set_option maxHeartbeats 4000000 in
theorem refund_nil {w : World}  : Calls Tryz.prog 36 #[.pointer none] w fun e w' => e = .returned (.int .i64 0) ∧ Below w.heap.size w w' := by
  go_enter Tryz.func36, Tryz.ntmps36
  go_wp2_with (first | (go_at_call 57; refine Calls.mono broken_nil ?_; rintro e w1 ⟨rfl, h⟩; obtain rfl := h.symm; clear h))
  go_ret
  exact ⟨rfl, Below.refl _ _⟩
set_option maxRecDepth 100000 in
set_option maxHeartbeats 4000000 in
theorem logs_nil {w : World}  : Calls Tryz.prog 37 #[.pointer none] w fun e w' => e = .returned (.slice none 0 0) ∧ Below w.heap.size w w' := by
  go_enter Tryz.func37, Tryz.ntmps37
  go_wp2_with (first | (go_at_call 57; refine Calls.mono broken_nil ?_; rintro e w1 ⟨rfl, h⟩; obtain rfl := h.symm; clear h))
  go_ret
  exact ⟨rfl, Below.refl _ _⟩
set_option maxRecDepth 100000 in
set_option maxHeartbeats 4000000 in
theorem begin_nil {w : World}  : Calls Tryz.prog 20 #[.pointer none] w fun e w' => e = .returned (.tuple #[]) ∧ Below w.heap.size w w' := by
  go_enter Tryz.func20, Tryz.ntmps20
  go_wp2_with (first | (go_at_call 57; refine Calls.mono broken_nil ?_; rintro e w1 ⟨rfl, h⟩; obtain rfl := h.symm; clear h))
  refine bodyPost_ret (results_none rfl _ _ _) rfl ?_
  exact ⟨rfl, Below.refl _ _⟩
set_option maxRecDepth 100000 in
set_option maxHeartbeats 4000000 in
theorem addRefund_nil {w : World} (n : Int) : Calls Tryz.prog 21 #[.pointer none, .int .i64 n] w fun e w' => e = .returned (.tuple #[]) ∧ Below w.heap.size w w' := by
  go_enter Tryz.func21, Tryz.ntmps21
  go_wp2_with (first | (go_at_call 57; refine Calls.mono broken_nil ?_; rintro e w1 ⟨rfl, h⟩; obtain rfl := h.symm; clear h))
  refine bodyPost_ret (results_none rfl _ _ _) rfl ?_
  exact ⟨rfl, Below.refl _ _⟩
set_option maxRecDepth 100000 in
set_option maxHeartbeats 4000000 in
theorem slot_nil {w : World} (A : Nat → BitVec 8) (x0 x1 x2 x3 : Int) : Calls Tryz.prog 30 #[.pointer none, .agg (adV A), .agg (W4a x0 x1 x2 x3)] w fun e w' => e = .returned w0V ∧ Below w.heap.size w w' := by
  have hr : (((w.alloc (.cells (adV A) 43)).alloc (.cells (W4a x0 x1 x2 x3) 46)).alloc (.cells (W4a 0 0 0 0) 46)).heap[w.heap.size + 1 + 1]? = some (.cells (W4a 0 0 0 0) 46) := allocs_heap [.cells (adV A) 43, .cells (W4a x0 x1 x2 x3) 46, .cells (W4a 0 0 0 0) 46] w 2 _ rfl
  have HB : Hid (Below w.heap.size w (((w.alloc (.cells (adV A) 43)).alloc (.cells (W4a x0 x1 x2 x3) 46)).alloc (.cells (W4a 0 0 0 0) 46))) := by show Below _ _ _; go_grown
  go_enter Tryz.func30, Tryz.ntmps30
  go_wp2_with (first | (go_at_call 57; refine Calls.mono broken_nil ?_; rintro e w1 ⟨rfl, h⟩; obtain rfl := h.symm; clear h) | (refine wpList_store_row rfl 46 _ _ rfl (w.heap.size + 1 + 1) (W4a 0 0 0 0) rfl rfl 46 _ hr (by kernel_rfl) rfl (by simp [Value.oneCell']) ?_))
  refine bodyPost_ret (results_cell_row rfl _ _ _ _ _ _ _ rfl (setRow_heap _ _ _ _ _ _ hr) Tryz.underlying46 rfl (by kernel_rfl)) rfl ⟨rfl, ?_⟩
  exact ((Kc.Only.refl _ _).setRow _).below HB.out (by omega)
set_option maxRecDepth 100000 in
set_option maxHeartbeats 4000000 in
theorem original_nil {w : World} (A : Nat → BitVec 8) (x0 x1 x2 x3 : Int) : Calls Tryz.prog 31 #[.pointer none, .agg (adV A), .agg (W4a x0 x1 x2 x3)] w fun e w' => e = .returned w0V ∧ Below w.heap.size w w' := by
  have hr : (((w.alloc (.cells (adV A) 43)).alloc (.cells (W4a x0 x1 x2 x3) 46)).alloc (.cells (W4a 0 0 0 0) 46)).heap[w.heap.size + 1 + 1]? = some (.cells (W4a 0 0 0 0) 46) := allocs_heap [.cells (adV A) 43, .cells (W4a x0 x1 x2 x3) 46, .cells (W4a 0 0 0 0) 46] w 2 _ rfl
  have HB : Hid (Below w.heap.size w (((w.alloc (.cells (adV A) 43)).alloc (.cells (W4a x0 x1 x2 x3) 46)).alloc (.cells (W4a 0 0 0 0) 46))) := by show Below _ _ _; go_grown
  go_enter Tryz.func31, Tryz.ntmps31
  go_wp2_with (first | (go_at_call 57; refine Calls.mono broken_nil ?_; rintro e w1 ⟨rfl, h⟩; obtain rfl := h.symm; clear h) | (refine wpList_store_row rfl 46 _ _ rfl (w.heap.size + 1 + 1) (W4a 0 0 0 0) rfl rfl 46 _ hr (by kernel_rfl) rfl (by simp [Value.oneCell']) ?_))
  refine bodyPost_ret (results_cell_row rfl _ _ _ _ _ _ _ rfl (setRow_heap _ _ _ _ _ _ hr) Tryz.underlying46 rfl (by kernel_rfl)) rfl ⟨rfl, ?_⟩
  exact ((Kc.Only.refl _ _).setRow _).below HB.out (by omega)
set_option maxRecDepth 100000 in
set_option maxHeartbeats 4000000 in
/-- Root of a nil state -/
theorem sroot_nil {w : World} : Calls Tryz.prog 23 #[.pointer none] w fun e w' => e = .returned (.tuple #[.agg z32, .slice none 0 0]) ∧ Below w.heap.size w w' := by
  go_enter Tryz.func23, Tryz.ntmps23
  go_wp2_with (first | (go_at_call 57; refine Calls.mono broken_nil ?_; rintro e w1 ⟨rfl, h⟩; obtain rfl := h.symm; clear h) | (refine wpList_store_row rfl 33 _ _ rfl w.heap.size z32 rfl rfl 33 _ (heap_alloc_new _ _) (Kc.info29v _) rfl (Kc.one_byt _ _) ?_; rw [World.setRow_alloc_new]) | (refine wpList_build rfl 33 _ rfl (by kernel_rfl) ?_; generalize hG : (Program.built _ _ _).getD #[] = G; obtain rfl : G = z32 := by rw [← hG]; kernel_rfl))
  clear hG
  refine bodyPost_ret (results_cell_row2 rfl _ _ _ _ _ rfl rfl (load33 (heap_alloc_new _ _))) rfl ⟨rfl, by go_grown⟩
end Go.Proofs.YtboeokmaepchgaaGreatDoor
