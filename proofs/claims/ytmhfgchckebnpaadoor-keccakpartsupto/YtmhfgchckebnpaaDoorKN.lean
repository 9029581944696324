/- alive: the chapter's examples. -/
import Derived.Test.YtmhfgchckebnpaaDoorKL
import Derived.Lib.SlBytesConst
namespace Go.Proofs.YtmhfgchckebnpaaDoor
open Go.RowKit Go.Shelf
set_option linter.unusedSimpArgs false
set_option linter.unusedVariables false

theorem zero25z : (#[.int .u64 0, .int .u64 0, .int .u64 0, .int .u64 0, .int .u64 0, .int .u64 0, .int .u64 0, .int .u64 0, .int .u64 0, .int .u64 0, .int .u64 0, .int .u64 0, .int .u64 0, .int .u64 0, .int .u64 0, .int .u64 0, .int .u64 0, .int .u64 0, .int .u64 0, .int .u64 0, .int .u64 0, .int .u64 0, .int .u64 0, .int .u64 0, .int .u64 0] : Array Value) = vec 25 (lan zS) := by kernel_rfl
theorem big_eq : I 0xf1258f7940e1dde7#64 = 17376452488221285863 := by decide
theorem nil_bytes (w : World) : Bytes w none 0 0 (fun _ => 0) := ⟨0, 0, fun h => absurd h (by decide), fun j hj => absurd hj (by omega), by decide, by decide, by decide⟩
theorem abc_bytes (w : World) (n : Nat) (fr : Nat × Nat) (h : w.heap[n]? = some (.cells #[.int .u8 97, .int .u8 98, .int .u8 99] 5 fr)) : Bytes w (some ⟨n, 0, none⟩) 3 3 abc := by
  refine ⟨n, 0, fun _ => rfl, fun j hj => ?_, by decide, by decide, by decide⟩
  rw [Nat.zero_add, cell_of_row w n j _ 5 fr h]
  match j, hj with
  | 0, _ => rfl
  | 1, _ => rfl
  | 2, _ => rfl
theorem wpList_val {P : Program} {ops : Array Oper} {rest : List Oper} {o : Oper} {a : Act} {w : World} {v : Value} {Q : Exit → Act → World → Prop} (hw : Region.wanted o (yielded ops a.tmps) = true) (hrun : (execOp a.eval o).run P w = .ok (.value v) w)
    (h : wpList P ops Q rest (a.put o.dst v) w) : wpList P ops Q (o :: rest) a w := by
  refine wpList_step fun K hK => ?_
  rw [if_pos hw]
  unfold Oper.wp
  rw [hrun]
  exact hK _ _ h
theorem eq_big {ρ : Operand → Value} {o : Oper} (x y : Operand) (ho : o.op = .binOp .eql 22 x y 22) (c d : Int) (hx : ρ x = .int .u64 c) (hy : ρ y = .int .u64 d) (h : (c == d) = true) (w : World) : (execOp ρ o).run Tryd.prog w = .ok (.value (.bool true)) w := by
  unfold execOp
  simp [ho, hx, hy, go_sem, h]
theorem build23 {ρ : Operand → Value} {o : Oper} (ho : o.op = .build 23 #[]) (w : World) : (execOp ρ o).run Tryd.prog w = .ok (.value (.agg (vec 25 (lan zS)))) w := by
  unfold execOp
  simp only [ho]
  kernel_rfl
theorem two_rows (w : World) (dA dB : Nat → BitVec 8) : ∃ wa wb w3, (w.alloc (.cells #[.int .u8 0, .int .u8 0, .int .u8 0, .int .u8 0, .int .u8 0, .int .u8 0, .int .u8 0, .int .u8 0, .int .u8 0, .int .u8 0, .int .u8 0, .int .u8 0, .int .u8 0, .int .u8 0, .int .u8 0, .int .u8 0, .int .u8 0, .int .u8 0, .int .u8 0, .int .u8 0, .int .u8 0, .int .u8 0, .int .u8 0, .int .u8 0, .int .u8 0, .int .u8 0, .int .u8 0, .int .u8 0, .int .u8 0, .int .u8 0, .int .u8 0, .int .u8 0] 29)).alloc (.cells #[.int .u8 0, .int .u8 0, .int .u8 0, .int .u8 0, .int .u8 0, .int .u8 0, .int .u8 0, .int .u8 0, .int .u8 0, .int .u8 0, .int .u8 0, .int .u8 0, .int .u8 0, .int .u8 0, .int .u8 0, .int .u8 0, .int .u8 0, .int .u8 0, .int .u8 0, .int .u8 0, .int .u8 0, .int .u8 0, .int .u8 0, .int .u8 0, .int .u8 0, .int .u8 0, .int .u8 0, .int .u8 0, .int .u8 0, .int .u8 0, .int .u8 0, .int .u8 0] 29) = wa ∧ wa.setRow w.heap.size (vec 32 (byt dA)) = wb ∧ wb.setRow (w.heap.size + 1) (vec 32 (byt dB)) = w3 ∧ wa.rowIs w.heap.size 29 32 (byt fun _ => 0#8) ∧ wb.rowIs (w.heap.size + 1) 29 32 (byt fun _ => 0#8) ∧
    w3.rowIs w.heap.size 29 32 (byt dA) ∧ w3.rowIs (w.heap.size + 1) 29 32 (byt dB) ∧ Below w.heap.size w w3 := by
  rw [zero32']
  have h0 : ((w.alloc (.cells (vec 32 (byt fun _ => 0#8)) 29)).alloc (.cells (vec 32 (byt fun _ => 0#8)) 29)).heap[w.heap.size]? = some (.cells (vec 32 (byt fun _ => 0#8)) 29 (0, 0)) := heap_alloc2_old _ _ _
  have h1 : ((w.alloc (.cells (vec 32 (byt fun _ => 0#8)) 29)).alloc (.cells (vec 32 (byt fun _ => 0#8)) 29)).heap[w.heap.size + 1]? = some (.cells (vec 32 (byt fun _ => 0#8)) 29 (0, 0)) := heap_alloc2_new _ _ _
  refine ⟨_, _, _, rfl, rfl, rfl, heap_row h0, heap_row ((setRow_other _ _ _ _ (by omega)).trans h1), ?_, ?_, ?_⟩
  · exact heap_row ((setRow_other _ _ _ _ (by omega)).trans (setRow_heap _ _ _ _ _ _ h0))
  · exact heap_row (setRow_heap _ _ _ _ _ _ ((setRow_other _ _ _ _ (by omega)).trans h1))
  · exact ((Only.refl _ _).setRow _).below (((Only.refl _ _).setRow _).below (((Below.refl _ _).alloc (Nat.le_refl _) _).alloc (by simp) _) (Nat.le_refl _)) (by omega)
set_option maxRecDepth 100000 in
set_option maxHeartbeats 2000000 in
theorem alive_any (w : World) (hp : PathIn w) : Calls Tryd.prog 9 #[] w fun e w' => e = .returned (.bool true) ∧ Below w.heap.size w w' := by
  have hbs : ∀ w, (Instr.buildSlice 27 3 #[(0, .int .u8 97), (1, .int .u8 98), (2, .int .u8 99)]).run Tryd.prog w = .ok (.slice (some ⟨w.heap.size, 0, none⟩) 3 3) (w.alloc (.cells #[.int .u8 97, .int .u8 98, .int .u8 99] 5)) := fun _ => by kernel_rfl
  have hcv := fun (w : World) (C : Array Value) (n c : Nat) => Lib.run_convert_bytes_const (P := Tryd.prog) w 27 5 C n c Tryd.underlying27 Tryd.underlying5
  have a0 := nil_0
  have a1 := nil_1
  have a31 := nil_31
  have b0 := abc_0
  have b31 := abc_31
  have p0 := perm_zero
  have HS1 : Hid (∀ w, PathIn w → Calls Tryd.prog 11 #[.slice none 0 0] w fun e w' => e = .returned (.agg (vec 32 (byt (digest (fun _ => 0) 0)))) ∧ Below w.heap.size w w') := fun w hp => sum_any none 0 0 (fun _ => 0) w hp (nil_bytes w)
  have HS2 : Hid (∀ w ad, PathIn w → Bytes w ad 3 3 abc → Calls Tryd.prog 11 #[.slice ad 3 3] w fun e w' => e = .returned (.agg (vec 32 (byt (digest abc 3)))) ∧ Below w.heap.size w w') := fun w ad hp hb => sum_any ad 3 3 abc w hp hb
  have HS3 : Hid (∀ w, PathIn w → Calls Tryd.prog 7 #[.agg (vec 25 (lan zS))] w fun e w' => e = .returned (.agg (vec 25 (lan (permute RCs zS)))) ∧ Below w.heap.size w w') := fun w hp => permute_any zS w hp
  generalize digest (fun _ => 0) 0 = dA at a0 a1 a31 HS1
  generalize digest abc 3 = dB at b0 b31 HS2
  generalize permute RCs zS = pz at p0 HS3
  obtain ⟨c, hc⟩ : ∃ c : Int, c = I (pz 0) := ⟨_, rfl⟩
  have hi0 : ∀ w, (Instr.index 23 (.agg (vec 25 (lan pz))) (.int .i64 0)).run Tryd.prog w = .ok (.int .u64 c) w := fun w => by
    rw [hc]; exact run_index_vec (P := Tryd.prog) 23 22 25 (fun w => run_underlying Tryd.underlying23 w) Tryd.sizeOf22 Tryd.isAgg22 (lan pz) 0 (by decide) w
  have hceq : (c == 17376452488221285863) = true := by rw [hc, p0, big_eq]; exact beq_self_eq_true _
  have HCE : Hid _ := hceq
  clear hc hceq
  have H0 : Hid (PathIn w ∧ 0 < w.heap.size) := ⟨hp, pathIn_pos hp⟩
  have HA : Hid (dA 0 = 0xc5#8 ∧ dA 1 = 0xd2#8 ∧ dA 31 = 0x70#8 ∧ dB 0 = 0x4e#8 ∧ dB 31 = 0x45#8) := ⟨a0, a1, a31, b0, b31⟩
  clear hp a0 a1 a31 b0 b31 p0
  go_enter Tryd.func9, Tryd.ntmps9
  go_wp2_with fail
  refine (HS1.out w H0.out.1).mono ?_
  rintro e w1 ⟨rfl, hb1⟩
  go_wp2_with fail
  have hp2 : PathIn (w1.alloc (.cells #[.int .u8 97, .int .u8 98, .int .u8 99] 5 (3, 4))) := (H0.out.1.below hb1 H0.out.2).below ((Below.refl _ _).alloc (Nat.le_refl _) _) (Nat.lt_of_lt_of_le H0.out.2 hb1.size)
  refine (HS2.out (w1.alloc (.cells #[.int .u8 97, .int .u8 98, .int .u8 99] 5 (3, 4))) _ hp2 (abc_bytes _ _ (3, 4) (heap_alloc_new _ _))).mono ?_
  rintro e w2 ⟨rfl, hb2⟩
  have hB2 : Below w.heap.size w w2 := (hb1.trans (((Below.refl _ _).alloc (Nat.le_refl _) _).mono hb1.size)).trans (hb2.mono (by have := hb1.size; simp; omega))
  have H2 : Hid (Below w.heap.size w w2) := hB2
  clear hb1 hb2 hp2 hB2 hbs hcv
  obtain ⟨wa, wb, w3, hwa, hwb, hw3, hA0, hB0, hA, hB, hBl⟩ := two_rows w2 dA dB
  have cA0 : w3.cell? ⟨w2.heap.size, 0, none⟩ = some (.int .u8 197) := by rw [hA.cell (by decide)]; simp only [byt]; rw [HA.out.1]; rfl
  have cA1 : w3.cell? ⟨w2.heap.size, 1, none⟩ = some (.int .u8 210) := by rw [hA.cell (by decide)]; simp only [byt]; rw [HA.out.2.1]; rfl
  have cA31 : w3.cell? ⟨w2.heap.size, 31, none⟩ = some (.int .u8 112) := by rw [hA.cell (by decide)]; simp only [byt]; rw [HA.out.2.2.1]; rfl
  have cB0 : w3.cell? ⟨w2.heap.size + 1, 0, none⟩ = some (.int .u8 78) := by rw [hB.cell (by decide)]; simp only [byt]; rw [HA.out.2.2.2.1]; rfl
  have cB31 : w3.cell? ⟨w2.heap.size + 1, 31, none⟩ = some (.int .u8 69) := by rw [hB.cell (by decide)]; simp only [byt]; rw [HA.out.2.2.2.2]; rfl
  have HWa : Hid _ := hwa
  have HWb : Hid _ := hwb
  have HW : Hid _ := hw3
  have HR : Hid (wa.rowIs w2.heap.size 29 32 (byt fun _ => 0#8) ∧ wb.rowIs (w2.heap.size + 1) 29 32 (byt fun _ => 0#8)) := ⟨hA0, hB0⟩
  have H3 : Hid (Below w.heap.size w w3 ∧ PathIn w3) := ⟨H2.out.trans (hBl.mono H2.out.size), H0.out.1.below (H2.out.trans (hBl.mono H2.out.size)) H0.out.2⟩
  clear hwa hwb hw3 hA hB hA0 hB0 hBl HA
  go_wp2_with (first | (rw [HWa.out]; refine wpList_store_row rfl 29 _ _ rfl w2.heap.size (vec 32 (byt dA)) rfl rfl 29 _ (row_heap HR.out.1) (info29v _) (by simp) (one_byt _ _) ?_; rw [HWb.out]) | (refine wpList_store_row rfl 29 _ _ rfl (w2.heap.size + 1) (vec 32 (byt dB)) rfl rfl 29 _ (row_heap HR.out.2) (info29v _) (by simp) (one_byt _ _) ?_; rw [HW.out]) | (refine wpList_val (by rfl) (build23 rfl _) ?_) | (refine wpList_val (by rfl) (eq_big (.tmp 33) (.const (.int .u64 17376452488221285863)) rfl c 17376452488221285863 rfl rfl HCE.out _) ?_) | (go_at_call 7; refine (HS3.out w3 H3.out.2).mono ?_; rintro e w4 ⟨rfl, hb4⟩))
  go_ret
  exact ⟨rfl, H3.out.1.trans (hb4.mono H3.out.1.size)⟩
end Go.Proofs.YtmhfgchckebnpaaDoor
