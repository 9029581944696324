/- field.Inv, field.minusRoot. -/
import Derived.Test.YtmflilgppllebaaFQ
import Derived.Deep.RegionHeld3
namespace Go.Proofs.Ytmflilgppllebaa
open Go.RowKit
set_option linter.unusedSimpArgs false
set_option linter.unusedVariables false

theorem run_load_exec {P : Program} {a : Act} {o : Oper} {w : World} {v : Value} (ty : TypeId) (x : Operand) (ho : o.op = .load ty x) (g : Addr) (hx : a.eval x = .pointer (some g)) (h : (loadVar ty g).run P w = .ok v w) : (execOp a.eval o).run P w = .ok (.value v) w := by
  unfold execOp
  simp only [ho, hx, Instr.loadAt, Instr.sureAddr, Sem.run_bind, Sem.run_pure, Result.andThen_ok, h]
theorem step_store_row {P : Program} {ops : Array Oper} {o : Oper} {a : Act} {w : World} {K : Act → World → Prop} {Q : Exit → Act → World → Prop} {E : Prop} (hw : Region.wanted o (yielded ops a.tmps) = true) (ty : TypeId) (x y : Operand) (ho : o.op = .store ty x y)
    (g : Nat) (c : Array Value) (hx : a.eval x = .pointer (some ⟨g, 0, none⟩)) (hy : a.eval y = .agg c) (hrun : (storeVar ty ⟨g, 0, none⟩ (.agg c)).run P w = .ok () (w.setRow g c))
    (h : K (a.put o.dst undef) (w.setRow g c)) : if Region.wanted o (yielded ops a.tmps) = true then Oper.wp P o a w K Q else E := by
  rw [if_pos hw]
  unfold Oper.wp execOp
  simp only [ho, hx, hy, Instr.storeAt, Instr.sureAddr, Sem.run_bind, Sem.run_pure, Result.andThen_ok, hrun]
  exact h
/-- (P - 1) / 4, P - 2, (P + 3) / 8. -/
def E4 : Nat := 14474011154664524427946373126085988481658748083205070504932198000989141204987
def E2 : Nat := 57896044618658097711785492504343953926634992332820282019728792003956564819947
def E8 : Nat := 7237005577332262213973186563042994240829374041602535252466099000494570602494
theorem e4_val : shrN 2 ((PP - 1) % T256) = (E4 : Int) := by decide +kernel
theorem e2_val : (PP - 2) % T256 = (E2 : Int) := by decide +kernel
theorem e8_val : shrN 3 ((PP + 3) % T256) = (E8 : Int) := by decide +kernel
/-- The answer's place stays. -/
theorem kept {w u : World} {b : Nat} {o : Obj} (h : w.heap[b]? = some o) (hb : Below w.heap.size w u) : u.heap[b]? = some o := (hb.block _ (flt_of_some h)).trans h
theorem g_of1 : GivesW 45 #[.int .u64 1] 1 := g_of 1 (by decide)
theorem g_of2 : GivesW 45 #[.int .u64 2] 2 := g_of 2 (by decide)
theorem g_of3 : GivesW 45 #[.int .u64 3] 3 := g_of 3 (by decide)
set_option maxRecDepth 20000 in
set_option maxHeartbeats 1000000 in
/-- field.minusRoot -/
theorem g_mroot : GivesW 57 #[] (2 ^ E4 % PP) := fun w => by
  have hA : (w.alloc (.cells (C4 0 0 0 0) 24)).heap[w.heap.size]? = some (.cells (C4 0 0 0 0) 24 (0, 0)) := heap_alloc_new _ _
  have bA : Below w.heap.size w (w.alloc (.cells (C4 0 0 0 0) 24)) := by go_grown
  have HA : Hid (_ ∧ _) := ⟨hA, bA⟩
  clear hA bA
  go_enter Try.func57, Try.ntmps57
  go_wp2_with fail
  refine Calls.mono (g_of2 _) ?_
  rintro e w1 ⟨v1, rfl, h1, b1⟩
  go_wp2_with fail
  refine Calls.mono (g_of2 _) ?_
  rintro e w2 ⟨v2, rfl, h2, b2⟩
  go_wp2_with fail
  refine Calls.mono (g_p _) ?_
  rintro e w3 ⟨v3, rfl, h3, b3⟩
  go_wp2_with fail
  refine Calls.mono (g_of1 _) ?_
  rintro e w4 ⟨v4, rfl, h4, b4⟩
  go_wp2_with fail
  refine Calls.mono (g_sub h3 h4 _) ?_
  rintro e w5 ⟨v5, rfl, h5, b5⟩
  go_wp2_with fail
  refine Calls.mono (g_shr h2 h5 _) ?_
  rintro e w6 ⟨v6, rfl, h6, b6⟩
  rw [e4_val] at h6
  have HG := g_fpow E4 h1 h6
  have HG1 : Hid _ := HG
  clear HG
  go_wp2_with fail
  refine Calls.mono (HG1.out _) ?_
  rintro e w7 ⟨v7, rfl, h7, b7⟩
  have k1 := b1.trans (b2.mono b1.size)
  have k2 := k1.trans (b3.mono k1.size)
  have k3 := k2.trans (b4.mono k2.size)
  have k4 := k3.trans (b5.mono k3.size)
  have k5 := k4.trans (b6.mono k4.size)
  have k6 := k5.trans (b7.mono k5.size)
  have hh := kept HA.out.1 k6
  have hB : Below w.heap.size w w7 := HA.out.2.trans (k6.mono HA.out.2.size)
  have H7 : Hid _ := h7
  clear k1 k2 k3 k4 k5 k6 b1 b2 b3 b4 b5 b6 b7 h1 h2 h3 h4 h5 h6 h7 HG1 HA
  obtain ⟨s0, s1, s2, s3, rfl, hL, hN⟩ := H7.out
  go_wp2_with (first | (refine wpList_store_row rfl 24 _ _ rfl w.heap.size (C4 s0 s1 s2 s3) rfl rfl 24 _ hh (info24c _ _ _ _) rfl (fone4 _ _ _ _) ?_))
  exact bodyPost_ret (results_cell_row rfl _ _ _ _ _ _ _ rfl (setRow_heap _ _ _ _ _ _ hh) Try.underlying24 rfl (info24c _ _ _ _)) rfl ⟨_, rfl, ⟨s0, s1, s2, s3, rfl, hL, hN⟩, below_setRow hB (Nat.le_refl _) _⟩
end Go.Proofs.Ytmflilgppllebaa
