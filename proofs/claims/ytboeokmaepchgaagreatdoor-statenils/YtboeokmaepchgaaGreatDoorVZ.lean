/- StateNils' walk. -/
import Derived.Test.YtboeokmaepchgaaGreatDoorM43
import Derived.Test.YtboeokmaepchgaaGreatDoorUS
namespace Go.Proofs.YtboeokmaepchgaaGreatDoor
open Go.RowKit Go.Maps Go.Joins Go.Shelf
set_option linter.unusedSimpArgs false
set_option linter.unusedVariables false
theorem load46 {w : World} {b : Nat} {x0 x1 x2 x3 : Int} (h : w.heap[b]? = some (.cells (W4a x0 x1 x2 x3) 46)) : (loadVar 46 ⟨b, 0, none⟩).run Tryz.prog w = .ok (.agg (W4a x0 x1 x2 x3)) w :=
  run_loadVar_row w b 46 46 (W4a x0 x1 x2 x3) (0, 0) _ h Tryz.underlying46 rfl (by kernel_rfl)
theorem wpList_load_w {P : Program} {ops : Array Oper} {rest : List Oper} {o : Oper} {a : Act} {w : World} {Q : Exit → Act → World → Prop} (ty : TypeId) (x : Operand) (ho : o.op = .load ty x)
    (g : Addr) (hx : a.eval x = .pointer (some g)) (v : Value) (hl : (loadVar ty g).run P w = .ok v w) (hw : Region.wanted o (yielded ops a.tmps) = true) (h : wpList P ops Q rest (a.put o.dst v) w) : wpList P ops Q (o :: rest) a w := by
  refine wpList_step fun K hK' => ?_
  rw [if_pos hw]
  unfold Oper.wp
  rw [Kc.run_load_exec ty x ho g hx hl]
  exact hK' _ _ h
theorem wpList_build_w {P : Program} {ops : Array Oper} {rest : List Oper} {o : Oper} {a : Act} {w : World} {Q : Exit → Act → World → Prop} {v : Value} (ty : TypeId) (parts : Array (Nat × Operand)) (ho : o.op = .build ty parts) (hl : (Instr.build ty (parts.map fun (i, x) => (i, a.eval x))).run P w = .ok v w) (hw : Region.wanted o (yielded ops a.tmps) = true) (h : wpList P ops Q rest (a.put o.dst v) w) : wpList P ops Q (o :: rest) a w := by
  refine wpList_step fun K hK' => ?_
  rw [if_pos hw]
  unfold Oper.wp
  rw [exec_build ty parts ho _ rfl hl]
  exact hK' _ _ h
theorem build46z (w : World) : (Instr.build 46 #[]).run Tryz.prog w = .ok w0V w := by kernel_rfl
theorem build33z (w : World) : (Instr.build 33 #[]).run Tryz.prog w = .ok (.agg z32) w := by kernel_rfl
theorem lit20 (A : Nat → BitVec 8) : (#[.int .u8 (Kc.I8 (A 0)), .int .u8 (Kc.I8 (A 1)), .int .u8 (Kc.I8 (A 2)), .int .u8 (Kc.I8 (A 3)), .int .u8 (Kc.I8 (A 4)), .int .u8 (Kc.I8 (A 5)), .int .u8 (Kc.I8 (A 6)), .int .u8 (Kc.I8 (A 7)), .int .u8 (Kc.I8 (A 8)), .int .u8 (Kc.I8 (A 9)), .int .u8 (Kc.I8 (A 10)), .int .u8 (Kc.I8 (A 11)), .int .u8 (Kc.I8 (A 12)), .int .u8 (Kc.I8 (A 13)), .int .u8 (Kc.I8 (A 14)), .int .u8 (Kc.I8 (A 15)), .int .u8 (Kc.I8 (A 16)), .int .u8 (Kc.I8 (A 17)), .int .u8 (Kc.I8 (A 18)), .int .u8 (Kc.I8 (A 19))] : Array Value) = adV A := by kernel_rfl
theorem cellA {w : World} {b : Nat} {A : Nat → BitVec 8} (h : w.heap[b]? = some (.cells (adV A) 43)) (j : Nat) (hj : j < 20) : w.cell? ⟨b, j, none⟩ = some (.int .u8 (Kc.I8 (A j))) := by rw [cell_of_block h]; exact Kc.get_vec 20 (Kc.byt A) j hj
theorem eq46z (w : World) : (Op.equalIn 10000 46 w0V w0V).run Tryz.prog w = .ok true w := by kernel_rfl
theorem eq33z (w : World) : (Op.equalIn 10000 33 (.agg z32) (.agg z32)).run Tryz.prog w = .ok true w := eq33 (fun _ => 0) w
set_option maxRecDepth 100000 in
set_option maxHeartbeats 64000000 in
theorem nils_any {w : World} (A D E Y : Nat → BitVec 8) (x0 x1 x2 x3 : Int) (hT : Two D E) (hY : Y = Kc.digest (Kc.mB Kc.lfM) 108) (hp : Kc.PathIn w) :
    Calls Tryz.prog 4 #[.agg (adV A), .agg (W4a x0 x1 x2 x3)] w fun e w' => e = .returned (.bool true) ∧ Below w.heap.size w w' := by
  have HP : Hid (Kc.PathIn w ∧ 1 < w.heap.size ∧ Two D E ∧ Y = Kc.digest (Kc.mB Kc.lfM) 108) := ⟨hp, Kc.pathIn_pos hp, hT, hY⟩
  have hB0 : Below w.heap.size w ((w.alloc (.cells (adV A) 43)).alloc (.cells (W4a x0 x1 x2 x3) 46)) := by go_grown
  have H0 : Hid (Below w.heap.size w ((w.alloc (.cells (adV A) 43)).alloc (.cells (W4a x0 x1 x2 x3) 46)) ∧ ((w.alloc (.cells (adV A) 43)).alloc (.cells (W4a x0 x1 x2 x3) 46)).heap[w.heap.size]? = some (.cells (adV A) 43) ∧ ((w.alloc (.cells (adV A) 43)).alloc (.cells (W4a x0 x1 x2 x3) 46)).heap[w.heap.size + 1]? = some (.cells (W4a x0 x1 x2 x3) 46)) := ⟨hB0, allocs_heap [.cells (adV A) 43, .cells (W4a x0 x1 x2 x3) 46] w 0 _ rfl, allocs_heap [.cells (adV A) 43, .cells (W4a x0 x1 x2 x3) 46] w 1 _ rfl⟩
  clear hp hT hY hB0
  go_enter Tryz.func4, Tryz.ntmps4
  simp only [List.append_eq, List.cons_append, List.nil_append]
  go_wp2_with (first | (refine wpList_load_row rfl 43 _ rfl w.heap.size rfl 43 _ (0, 0) _ H0.out.2.1 Tryz.underlying43 rfl (info43v _) ?_) | (refine wpList_load_row rfl 46 _ rfl (w.heap.size + 1) rfl 46 _ (0, 0) _ H0.out.2.2 Tryz.underlying46 rfl (by kernel_rfl) ?_) | (refine wpList_build rfl 56 _ rfl (by kernel_rfl) ?_; generalize (Program.built _ _ _).getD #[] = G56))
  generalize (w.alloc (.cells (adV A) 43)).alloc (.cells (W4a x0 x1 x2 x3) 46) = W0 at H0 ⊢
  refine Calls.mono (setBalance_nil A D E x0 x1 x2 x3 HP.out.2.2.1 (HP.out.1.below H0.out.1 HP.out.2.1)) ?_
  rintro e W1 ⟨rfl, hb⟩
  have H1 : Hid (Below w.heap.size w W1 ∧ W1.heap[w.heap.size]? = some (.cells (adV A) 43) ∧ W1.heap[w.heap.size + 1]? = some (.cells (W4a x0 x1 x2 x3) 46)) := ⟨H0.out.1.trans (hb.mono H0.out.1.size), (hb.block _ (heap_lt H0.out.2.1)).trans H0.out.2.1, (hb.block _ (heap_lt H0.out.2.2)).trans H0.out.2.2⟩
  clear hb H0
  go_wp2_with (first | (refine wpList_load_row rfl 43 _ rfl w.heap.size rfl 43 _ (0, 0) _ H1.out.2.1 Tryz.underlying43 rfl (info43v _) ?_) | (refine wpList_load_row rfl 46 _ rfl (w.heap.size + 1) rfl 46 _ (0, 0) _ H1.out.2.2 Tryz.underlying46 rfl (by kernel_rfl) ?_) | (refine wpList_build rfl 56 _ rfl (by kernel_rfl) ?_; generalize (Program.built _ _ _).getD #[] = G56))
  refine Calls.mono (setNonce_nil A D E 1 HP.out.2.2.1 (HP.out.1.below H1.out.1 HP.out.2.1)) ?_
  rintro e W2 ⟨rfl, hb⟩
  have H2 : Hid (Below w.heap.size w W2 ∧ W2.heap[w.heap.size]? = some (.cells (adV A) 43) ∧ W2.heap[w.heap.size + 1]? = some (.cells (W4a x0 x1 x2 x3) 46)) := ⟨H1.out.1.trans (hb.mono H1.out.1.size), (hb.block _ (heap_lt H1.out.2.1)).trans H1.out.2.1, (hb.block _ (heap_lt H1.out.2.2)).trans H1.out.2.2⟩
  clear hb H1
  go_wp2_with (first | (refine wpList_load_row rfl 43 _ rfl w.heap.size rfl 43 _ (0, 0) _ H2.out.2.1 Tryz.underlying43 rfl (info43v _) ?_) | (refine wpList_load_row rfl 46 _ rfl (w.heap.size + 1) rfl 46 _ (0, 0) _ H2.out.2.2 Tryz.underlying46 rfl (by kernel_rfl) ?_) | (refine wpList_build rfl 56 _ rfl (by kernel_rfl) ?_; generalize (Program.built _ _ _).getD #[] = G56))
  refine Calls.mono (setCode_nil A D E HP.out.2.2.1 (HP.out.1.below H2.out.1 HP.out.2.1)) ?_
  rintro e W3 ⟨rfl, hb⟩
  have H3 : Hid (Below w.heap.size w W3 ∧ W3.heap[w.heap.size]? = some (.cells (adV A) 43) ∧ W3.heap[w.heap.size + 1]? = some (.cells (W4a x0 x1 x2 x3) 46)) := ⟨H2.out.1.trans (hb.mono H2.out.1.size), (hb.block _ (heap_lt H2.out.2.1)).trans H2.out.2.1, (hb.block _ (heap_lt H2.out.2.2)).trans H2.out.2.2⟩
  clear hb H2
  go_wp2_with (first | (refine wpList_load_row rfl 43 _ rfl w.heap.size rfl 43 _ (0, 0) _ H3.out.2.1 Tryz.underlying43 rfl (info43v _) ?_) | (refine wpList_load_row rfl 46 _ rfl (w.heap.size + 1) rfl 46 _ (0, 0) _ H3.out.2.2 Tryz.underlying46 rfl (by kernel_rfl) ?_) | (refine wpList_build rfl 56 _ rfl (by kernel_rfl) ?_; generalize (Program.built _ _ _).getD #[] = G56))
  refine Calls.mono (setSlot_nil A D E x0 x1 x2 x3 x0 x1 x2 x3 HP.out.2.2.1 (HP.out.1.below H3.out.1 HP.out.2.1)) ?_
  rintro e W4 ⟨rfl, hb⟩
  have H4 : Hid (Below w.heap.size w W4 ∧ W4.heap[w.heap.size]? = some (.cells (adV A) 43) ∧ W4.heap[w.heap.size + 1]? = some (.cells (W4a x0 x1 x2 x3) 46)) := ⟨H3.out.1.trans (hb.mono H3.out.1.size), (hb.block _ (heap_lt H3.out.2.1)).trans H3.out.2.1, (hb.block _ (heap_lt H3.out.2.2)).trans H3.out.2.2⟩
  clear hb H3
  go_wp2_with (first | (refine wpList_load_row rfl 43 _ rfl w.heap.size rfl 43 _ (0, 0) _ H4.out.2.1 Tryz.underlying43 rfl (info43v _) ?_) | (refine wpList_load_row rfl 46 _ rfl (w.heap.size + 1) rfl 46 _ (0, 0) _ H4.out.2.2 Tryz.underlying46 rfl (by kernel_rfl) ?_) | (refine wpList_build rfl 56 _ rfl (by kernel_rfl) ?_; generalize (Program.built _ _ _).getD #[] = G56))
  refine Calls.mono (begin_nil) ?_
  rintro e W5 ⟨rfl, hb⟩
  have H5 : Hid (Below w.heap.size w W5 ∧ W5.heap[w.heap.size]? = some (.cells (adV A) 43) ∧ W5.heap[w.heap.size + 1]? = some (.cells (W4a x0 x1 x2 x3) 46)) := ⟨H4.out.1.trans (hb.mono H4.out.1.size), (hb.block _ (heap_lt H4.out.2.1)).trans H4.out.2.1, (hb.block _ (heap_lt H4.out.2.2)).trans H4.out.2.2⟩
  clear hb H4
  go_wp2_with (first | (refine wpList_load_row rfl 43 _ rfl w.heap.size rfl 43 _ (0, 0) _ H5.out.2.1 Tryz.underlying43 rfl (info43v _) ?_) | (refine wpList_load_row rfl 46 _ rfl (w.heap.size + 1) rfl 46 _ (0, 0) _ H5.out.2.2 Tryz.underlying46 rfl (by kernel_rfl) ?_) | (refine wpList_build rfl 56 _ rfl (by kernel_rfl) ?_; generalize (Program.built _ _ _).getD #[] = G56))
  refine Calls.mono (addRefund_nil 1) ?_
  rintro e W6 ⟨rfl, hb⟩
  have H6 : Hid (Below w.heap.size w W6 ∧ W6.heap[w.heap.size]? = some (.cells (adV A) 43) ∧ W6.heap[w.heap.size + 1]? = some (.cells (W4a x0 x1 x2 x3) 46)) := ⟨H5.out.1.trans (hb.mono H5.out.1.size), (hb.block _ (heap_lt H5.out.2.1)).trans H5.out.2.1, (hb.block _ (heap_lt H5.out.2.2)).trans H5.out.2.2⟩
  clear hb H5
  go_wp2_with (first | (refine wpList_load_row rfl 43 _ rfl w.heap.size rfl 43 _ (0, 0) _ H6.out.2.1 Tryz.underlying43 rfl (info43v _) ?_) | (refine wpList_load_row rfl 46 _ rfl (w.heap.size + 1) rfl 46 _ (0, 0) _ H6.out.2.2 Tryz.underlying46 rfl (by kernel_rfl) ?_) | (refine wpList_build rfl 56 _ rfl (by kernel_rfl) ?_; generalize (Program.built _ _ _).getD #[] = G56))
  refine Calls.mono (log_nil _) ?_
  rintro e W7 ⟨rfl, hb⟩
  have H7 : Hid (Below w.heap.size w W7 ∧ W7.heap[w.heap.size]? = some (.cells (adV A) 43) ∧ W7.heap[w.heap.size + 1]? = some (.cells (W4a x0 x1 x2 x3) 46)) := ⟨H6.out.1.trans (hb.mono H6.out.1.size), (hb.block _ (heap_lt H6.out.2.1)).trans H6.out.2.1, (hb.block _ (heap_lt H6.out.2.2)).trans H6.out.2.2⟩
  clear hb H6
  go_wp2_with (first | (refine wpList_load_row rfl 43 _ rfl w.heap.size rfl 43 _ (0, 0) _ H7.out.2.1 Tryz.underlying43 rfl (info43v _) ?_) | (refine wpList_load_row rfl 46 _ rfl (w.heap.size + 1) rfl 46 _ (0, 0) _ H7.out.2.2 Tryz.underlying46 rfl (by kernel_rfl) ?_) | (refine wpList_build rfl 56 _ rfl (by kernel_rfl) ?_; generalize (Program.built _ _ _).getD #[] = G56))
  refine Calls.mono (sroot_nil) ?_
  rintro e W8 ⟨rfl, hb⟩
  have H8 : Hid (Below w.heap.size w W8 ∧ W8.heap[w.heap.size]? = some (.cells (adV A) 43) ∧ W8.heap[w.heap.size + 1]? = some (.cells (W4a x0 x1 x2 x3) 46)) := ⟨H7.out.1.trans (hb.mono H7.out.1.size), (hb.block _ (heap_lt H7.out.2.1)).trans H7.out.2.1, (hb.block _ (heap_lt H7.out.2.2)).trans H7.out.2.2⟩
  clear hb H7
  go_wp2_with (first | (refine wpList_store_row rfl 33 _ _ rfl W8.heap.size z32 rfl rfl 33 _ (heap_alloc_new _ _) (Kc.info29v _) (by simp) (Kc.one_byt _ _) ?_; rw [World.setRow_alloc_new]))
  have hb : Below W8.heap.size W8 (W8.alloc (.cells z32 33)) := by go_grown
  have H9 : Hid (Below w.heap.size w (W8.alloc (.cells z32 33)) ∧ (W8.alloc (.cells z32 33)).heap[w.heap.size]? = some (.cells (adV A) 43) ∧ (W8.alloc (.cells z32 33)).heap[w.heap.size + 1]? = some (.cells (W4a x0 x1 x2 x3) 46) ∧ (W8.alloc (.cells z32 33)).heap[W8.heap.size]? = some (.cells z32 33)) := ⟨H8.out.1.trans (hb.mono H8.out.1.size), (hb.block _ (heap_lt H8.out.2.1)).trans H8.out.2.1, (hb.block _ (heap_lt H8.out.2.2)).trans H8.out.2.2, heap_alloc_new _ _⟩
  clear hb H8
  obtain ⟨r, hr⟩ : ∃ r, r = W8.heap.size := ⟨_, rfl⟩
  rw [← hr] at H9 ⊢
  clear hr
  generalize W8.alloc (.cells z32 33) = W9 at H9 ⊢
  have he46 : ∀ w : World, (Op.equalIn 10000 46 w0V w0V).run Tryz.prog w = .ok true w := eq46z
  have he33 : ∀ w : World, (Op.equalIn 10000 33 (.agg z32) (.agg z32)).run Tryz.prog w = .ok true w := eq33z
  have he33b : ∀ w : World, (Op.equalIn 10000 33 (.agg z32) (.agg #[.int .u8 0, .int .u8 0, .int .u8 0, .int .u8 0, .int .u8 0, .int .u8 0, .int .u8 0, .int .u8 0, .int .u8 0, .int .u8 0, .int .u8 0, .int .u8 0, .int .u8 0, .int .u8 0, .int .u8 0, .int .u8 0, .int .u8 0, .int .u8 0, .int .u8 0, .int .u8 0, .int .u8 0, .int .u8 0, .int .u8 0, .int .u8 0, .int .u8 0, .int .u8 0, .int .u8 0, .int .u8 0, .int .u8 0, .int .u8 0, .int .u8 0, .int .u8 0])).run Tryz.prog w = .ok true w := fun w => by rw [lit32]; exact eq33z w
  refine Calls.mono (serr_nil) ?_
  rintro e W10 ⟨rfl, hu⟩
  have hb : Below W9.heap.size W9 W10 := by rw [hu]; exact Below.refl _ _
  clear hu
  have H10 : Hid (Below w.heap.size w W10 ∧ W10.heap[w.heap.size]? = some (.cells (adV A) 43) ∧ W10.heap[w.heap.size + 1]? = some (.cells (W4a x0 x1 x2 x3) 46) ∧ W10.heap[r]? = some (.cells z32 33)) := ⟨H9.out.1.trans (hb.mono H9.out.1.size), (hb.block _ (heap_lt H9.out.2.1)).trans H9.out.2.1, (hb.block _ (heap_lt H9.out.2.2.1)).trans H9.out.2.2.1, (hb.block _ (heap_lt H9.out.2.2.2)).trans H9.out.2.2.2⟩
  clear hb H9
  go_wp2_with (first | (refine wpList_load_w 43 _ rfl ⟨w.heap.size, 0, none⟩ rfl (.agg (adV A)) (by exact load43 H10.out.2.1) (by rfl) ?_) | (refine wpList_load_w 46 _ rfl ⟨w.heap.size + 1, 0, none⟩ rfl (.agg (W4a x0 x1 x2 x3)) (by exact load46 H10.out.2.2.1) (by rfl) ?_) | (refine wpList_load_w 33 _ rfl ⟨r, 0, none⟩ rfl (.agg z32) (by exact load33 H10.out.2.2.2) (by rfl) ?_) | (refine wpList_build_w 46 #[] rfl (v := w0V) (by exact build46z _) (by rfl) ?_) | (refine wpList_build_w 33 #[] rfl (v := .agg z32) (by exact build33z _) (by rfl) ?_))
  refine Calls.mono (exists_nil A D E HP.out.2.2.1 (HP.out.1.below H10.out.1 HP.out.2.1)) ?_
  rintro e W11 ⟨rfl, hb⟩
  have H11 : Hid (Below w.heap.size w W11 ∧ W11.heap[w.heap.size]? = some (.cells (adV A) 43) ∧ W11.heap[w.heap.size + 1]? = some (.cells (W4a x0 x1 x2 x3) 46) ∧ W11.heap[r]? = some (.cells z32 33)) := ⟨H10.out.1.trans (hb.mono H10.out.1.size), (hb.block _ (heap_lt H10.out.2.1)).trans H10.out.2.1, (hb.block _ (heap_lt H10.out.2.2.1)).trans H10.out.2.2.1, (hb.block _ (heap_lt H10.out.2.2.2)).trans H10.out.2.2.2⟩
  clear hb H10
  go_wp2_with (first | (refine wpList_load_w 43 _ rfl ⟨w.heap.size, 0, none⟩ rfl (.agg (adV A)) (by exact load43 H11.out.2.1) (by rfl) ?_) | (refine wpList_load_w 46 _ rfl ⟨w.heap.size + 1, 0, none⟩ rfl (.agg (W4a x0 x1 x2 x3)) (by exact load46 H11.out.2.2.1) (by rfl) ?_) | (refine wpList_load_w 33 _ rfl ⟨r, 0, none⟩ rfl (.agg z32) (by exact load33 H11.out.2.2.2) (by rfl) ?_) | (refine wpList_build_w 46 #[] rfl (v := w0V) (by exact build46z _) (by rfl) ?_) | (refine wpList_build_w 33 #[] rfl (v := .agg z32) (by exact build33z _) (by rfl) ?_))
  refine Calls.mono (balance_nil A D E HP.out.2.2.1 (HP.out.1.below H11.out.1 HP.out.2.1)) ?_
  rintro e W12 ⟨rfl, hb⟩
  have H12 : Hid (Below w.heap.size w W12 ∧ W12.heap[w.heap.size]? = some (.cells (adV A) 43) ∧ W12.heap[w.heap.size + 1]? = some (.cells (W4a x0 x1 x2 x3) 46) ∧ W12.heap[r]? = some (.cells z32 33)) := ⟨H11.out.1.trans (hb.mono H11.out.1.size), (hb.block _ (heap_lt H11.out.2.1)).trans H11.out.2.1, (hb.block _ (heap_lt H11.out.2.2.1)).trans H11.out.2.2.1, (hb.block _ (heap_lt H11.out.2.2.2)).trans H11.out.2.2.2⟩
  clear hb H11
  go_wp2_with (first | (refine wpList_load_w 43 _ rfl ⟨w.heap.size, 0, none⟩ rfl (.agg (adV A)) (by exact load43 H12.out.2.1) (by rfl) ?_) | (refine wpList_load_w 46 _ rfl ⟨w.heap.size + 1, 0, none⟩ rfl (.agg (W4a x0 x1 x2 x3)) (by exact load46 H12.out.2.2.1) (by rfl) ?_) | (refine wpList_load_w 33 _ rfl ⟨r, 0, none⟩ rfl (.agg z32) (by exact load33 H12.out.2.2.2) (by rfl) ?_) | (refine wpList_build_w 46 #[] rfl (v := w0V) (by exact build46z _) (by rfl) ?_) | (refine wpList_build_w 33 #[] rfl (v := .agg z32) (by exact build33z _) (by rfl) ?_))
  refine Calls.mono (nonce_nil A D E HP.out.2.2.1 (HP.out.1.below H12.out.1 HP.out.2.1)) ?_
  rintro e W13 ⟨rfl, hb⟩
  have H13 : Hid (Below w.heap.size w W13 ∧ W13.heap[w.heap.size]? = some (.cells (adV A) 43) ∧ W13.heap[w.heap.size + 1]? = some (.cells (W4a x0 x1 x2 x3) 46) ∧ W13.heap[r]? = some (.cells z32 33)) := ⟨H12.out.1.trans (hb.mono H12.out.1.size), (hb.block _ (heap_lt H12.out.2.1)).trans H12.out.2.1, (hb.block _ (heap_lt H12.out.2.2.1)).trans H12.out.2.2.1, (hb.block _ (heap_lt H12.out.2.2.2)).trans H12.out.2.2.2⟩
  clear hb H12
  go_wp2_with (first | (refine wpList_load_w 43 _ rfl ⟨w.heap.size, 0, none⟩ rfl (.agg (adV A)) (by exact load43 H13.out.2.1) (by rfl) ?_) | (refine wpList_load_w 46 _ rfl ⟨w.heap.size + 1, 0, none⟩ rfl (.agg (W4a x0 x1 x2 x3)) (by exact load46 H13.out.2.2.1) (by rfl) ?_) | (refine wpList_load_w 33 _ rfl ⟨r, 0, none⟩ rfl (.agg z32) (by exact load33 H13.out.2.2.2) (by rfl) ?_) | (refine wpList_build_w 46 #[] rfl (v := w0V) (by exact build46z _) (by rfl) ?_) | (refine wpList_build_w 33 #[] rfl (v := .agg z32) (by exact build33z _) (by rfl) ?_))
  refine Calls.mono (code_nil A D E HP.out.2.2.1 (HP.out.1.below H13.out.1 HP.out.2.1)) ?_
  rintro e W14 ⟨rfl, hb⟩
  have H14 : Hid (Below w.heap.size w W14 ∧ W14.heap[w.heap.size]? = some (.cells (adV A) 43) ∧ W14.heap[w.heap.size + 1]? = some (.cells (W4a x0 x1 x2 x3) 46) ∧ W14.heap[r]? = some (.cells z32 33)) := ⟨H13.out.1.trans (hb.mono H13.out.1.size), (hb.block _ (heap_lt H13.out.2.1)).trans H13.out.2.1, (hb.block _ (heap_lt H13.out.2.2.1)).trans H13.out.2.2.1, (hb.block _ (heap_lt H13.out.2.2.2)).trans H13.out.2.2.2⟩
  clear hb H13
  go_wp2_with (first | (refine wpList_load_w 43 _ rfl ⟨w.heap.size, 0, none⟩ rfl (.agg (adV A)) (by exact load43 H14.out.2.1) (by rfl) ?_) | (refine wpList_load_w 46 _ rfl ⟨w.heap.size + 1, 0, none⟩ rfl (.agg (W4a x0 x1 x2 x3)) (by exact load46 H14.out.2.2.1) (by rfl) ?_) | (refine wpList_load_w 33 _ rfl ⟨r, 0, none⟩ rfl (.agg z32) (by exact load33 H14.out.2.2.2) (by rfl) ?_) | (refine wpList_build_w 46 #[] rfl (v := w0V) (by exact build46z _) (by rfl) ?_) | (refine wpList_build_w 33 #[] rfl (v := .agg z32) (by exact build33z _) (by rfl) ?_))
  refine Calls.mono (codeHash_nil A D E HP.out.2.2.1 (HP.out.1.below H14.out.1 HP.out.2.1)) ?_
  rintro e W15 ⟨rfl, hb⟩
  have H15 : Hid (Below w.heap.size w W15 ∧ W15.heap[w.heap.size]? = some (.cells (adV A) 43) ∧ W15.heap[w.heap.size + 1]? = some (.cells (W4a x0 x1 x2 x3) 46) ∧ W15.heap[r]? = some (.cells z32 33)) := ⟨H14.out.1.trans (hb.mono H14.out.1.size), (hb.block _ (heap_lt H14.out.2.1)).trans H14.out.2.1, (hb.block _ (heap_lt H14.out.2.2.1)).trans H14.out.2.2.1, (hb.block _ (heap_lt H14.out.2.2.2)).trans H14.out.2.2.2⟩
  clear hb H14
  go_wp2_with (first | (refine wpList_load_w 43 _ rfl ⟨w.heap.size, 0, none⟩ rfl (.agg (adV A)) (by exact load43 H15.out.2.1) (by rfl) ?_) | (refine wpList_load_w 46 _ rfl ⟨w.heap.size + 1, 0, none⟩ rfl (.agg (W4a x0 x1 x2 x3)) (by exact load46 H15.out.2.2.1) (by rfl) ?_) | (refine wpList_load_w 33 _ rfl ⟨r, 0, none⟩ rfl (.agg z32) (by exact load33 H15.out.2.2.2) (by rfl) ?_) | (refine wpList_build_w 46 #[] rfl (v := w0V) (by exact build46z _) (by rfl) ?_) | (refine wpList_build_w 33 #[] rfl (v := .agg z32) (by exact build33z _) (by rfl) ?_))
  refine Calls.mono (slot_nil A x0 x1 x2 x3) ?_
  rintro e W16 ⟨rfl, hb⟩
  have H16 : Hid (Below w.heap.size w W16 ∧ W16.heap[w.heap.size]? = some (.cells (adV A) 43) ∧ W16.heap[w.heap.size + 1]? = some (.cells (W4a x0 x1 x2 x3) 46) ∧ W16.heap[r]? = some (.cells z32 33)) := ⟨H15.out.1.trans (hb.mono H15.out.1.size), (hb.block _ (heap_lt H15.out.2.1)).trans H15.out.2.1, (hb.block _ (heap_lt H15.out.2.2.1)).trans H15.out.2.2.1, (hb.block _ (heap_lt H15.out.2.2.2)).trans H15.out.2.2.2⟩
  clear hb H15
  go_wp2_with (first | (refine wpList_load_w 43 _ rfl ⟨w.heap.size, 0, none⟩ rfl (.agg (adV A)) (by exact load43 H16.out.2.1) (by rfl) ?_) | (refine wpList_load_w 46 _ rfl ⟨w.heap.size + 1, 0, none⟩ rfl (.agg (W4a x0 x1 x2 x3)) (by exact load46 H16.out.2.2.1) (by rfl) ?_) | (refine wpList_load_w 33 _ rfl ⟨r, 0, none⟩ rfl (.agg z32) (by exact load33 H16.out.2.2.2) (by rfl) ?_) | (refine wpList_build_w 46 #[] rfl (v := w0V) (by exact build46z _) (by rfl) ?_) | (refine wpList_build_w 33 #[] rfl (v := .agg z32) (by exact build33z _) (by rfl) ?_))
  refine Calls.mono (original_nil A x0 x1 x2 x3) ?_
  rintro e W17 ⟨rfl, hb⟩
  have H17 : Hid (Below w.heap.size w W17 ∧ W17.heap[w.heap.size]? = some (.cells (adV A) 43) ∧ W17.heap[w.heap.size + 1]? = some (.cells (W4a x0 x1 x2 x3) 46) ∧ W17.heap[r]? = some (.cells z32 33)) := ⟨H16.out.1.trans (hb.mono H16.out.1.size), (hb.block _ (heap_lt H16.out.2.1)).trans H16.out.2.1, (hb.block _ (heap_lt H16.out.2.2.1)).trans H16.out.2.2.1, (hb.block _ (heap_lt H16.out.2.2.2)).trans H16.out.2.2.2⟩
  clear hb H16
  go_wp2_with (first | (refine wpList_load_w 43 _ rfl ⟨w.heap.size, 0, none⟩ rfl (.agg (adV A)) (by exact load43 H17.out.2.1) (by rfl) ?_) | (refine wpList_load_w 46 _ rfl ⟨w.heap.size + 1, 0, none⟩ rfl (.agg (W4a x0 x1 x2 x3)) (by exact load46 H17.out.2.2.1) (by rfl) ?_) | (refine wpList_load_w 33 _ rfl ⟨r, 0, none⟩ rfl (.agg z32) (by exact load33 H17.out.2.2.2) (by rfl) ?_) | (refine wpList_build_w 46 #[] rfl (v := w0V) (by exact build46z _) (by rfl) ?_) | (refine wpList_build_w 33 #[] rfl (v := .agg z32) (by exact build33z _) (by rfl) ?_))
  refine Calls.mono (snap_nil) ?_
  rintro e W18 ⟨rfl, hb⟩
  have H18 : Hid (Below w.heap.size w W18 ∧ W18.heap[w.heap.size]? = some (.cells (adV A) 43) ∧ W18.heap[w.heap.size + 1]? = some (.cells (W4a x0 x1 x2 x3) 46) ∧ W18.heap[r]? = some (.cells z32 33)) := ⟨H17.out.1.trans (hb.mono H17.out.1.size), (hb.block _ (heap_lt H17.out.2.1)).trans H17.out.2.1, (hb.block _ (heap_lt H17.out.2.2.1)).trans H17.out.2.2.1, (hb.block _ (heap_lt H17.out.2.2.2)).trans H17.out.2.2.2⟩
  clear hb H17
  go_wp2_with (first | (refine wpList_load_w 43 _ rfl ⟨w.heap.size, 0, none⟩ rfl (.agg (adV A)) (by exact load43 H18.out.2.1) (by rfl) ?_) | (refine wpList_load_w 46 _ rfl ⟨w.heap.size + 1, 0, none⟩ rfl (.agg (W4a x0 x1 x2 x3)) (by exact load46 H18.out.2.2.1) (by rfl) ?_) | (refine wpList_load_w 33 _ rfl ⟨r, 0, none⟩ rfl (.agg z32) (by exact load33 H18.out.2.2.2) (by rfl) ?_) | (refine wpList_build_w 46 #[] rfl (v := w0V) (by exact build46z _) (by rfl) ?_) | (refine wpList_build_w 33 #[] rfl (v := .agg z32) (by exact build33z _) (by rfl) ?_))
  refine Calls.mono (revert_nil 0) ?_
  rintro e W19 ⟨rfl, hb⟩
  have H19 : Hid (Below w.heap.size w W19 ∧ W19.heap[w.heap.size]? = some (.cells (adV A) 43) ∧ W19.heap[w.heap.size + 1]? = some (.cells (W4a x0 x1 x2 x3) 46) ∧ W19.heap[r]? = some (.cells z32 33)) := ⟨H18.out.1.trans (hb.mono H18.out.1.size), (hb.block _ (heap_lt H18.out.2.1)).trans H18.out.2.1, (hb.block _ (heap_lt H18.out.2.2.1)).trans H18.out.2.2.1, (hb.block _ (heap_lt H18.out.2.2.2)).trans H18.out.2.2.2⟩
  clear hb H18
  go_wp2_with (first | (refine wpList_load_w 43 _ rfl ⟨w.heap.size, 0, none⟩ rfl (.agg (adV A)) (by exact load43 H19.out.2.1) (by rfl) ?_) | (refine wpList_load_w 46 _ rfl ⟨w.heap.size + 1, 0, none⟩ rfl (.agg (W4a x0 x1 x2 x3)) (by exact load46 H19.out.2.2.1) (by rfl) ?_) | (refine wpList_load_w 33 _ rfl ⟨r, 0, none⟩ rfl (.agg z32) (by exact load33 H19.out.2.2.2) (by rfl) ?_) | (refine wpList_build_w 46 #[] rfl (v := w0V) (by exact build46z _) (by rfl) ?_) | (refine wpList_build_w 33 #[] rfl (v := .agg z32) (by exact build33z _) (by rfl) ?_))
  refine Calls.mono (warm_nil A) ?_
  rintro e W20 ⟨rfl, hb⟩
  have H20 : Hid (Below w.heap.size w W20 ∧ W20.heap[w.heap.size]? = some (.cells (adV A) 43) ∧ W20.heap[w.heap.size + 1]? = some (.cells (W4a x0 x1 x2 x3) 46) ∧ W20.heap[r]? = some (.cells z32 33)) := ⟨H19.out.1.trans (hb.mono H19.out.1.size), (hb.block _ (heap_lt H19.out.2.1)).trans H19.out.2.1, (hb.block _ (heap_lt H19.out.2.2.1)).trans H19.out.2.2.1, (hb.block _ (heap_lt H19.out.2.2.2)).trans H19.out.2.2.2⟩
  clear hb H19
  go_wp2_with (first | (refine wpList_load_w 43 _ rfl ⟨w.heap.size, 0, none⟩ rfl (.agg (adV A)) (by exact load43 H20.out.2.1) (by rfl) ?_) | (refine wpList_load_w 46 _ rfl ⟨w.heap.size + 1, 0, none⟩ rfl (.agg (W4a x0 x1 x2 x3)) (by exact load46 H20.out.2.2.1) (by rfl) ?_) | (refine wpList_load_w 33 _ rfl ⟨r, 0, none⟩ rfl (.agg z32) (by exact load33 H20.out.2.2.2) (by rfl) ?_) | (refine wpList_build_w 46 #[] rfl (v := w0V) (by exact build46z _) (by rfl) ?_) | (refine wpList_build_w 33 #[] rfl (v := .agg z32) (by exact build33z _) (by rfl) ?_))
  refine Calls.mono (warmSlot_nil A x0 x1 x2 x3) ?_
  rintro e W21 ⟨rfl, hb⟩
  have H21 : Hid (Below w.heap.size w W21 ∧ W21.heap[w.heap.size]? = some (.cells (adV A) 43) ∧ W21.heap[w.heap.size + 1]? = some (.cells (W4a x0 x1 x2 x3) 46) ∧ W21.heap[r]? = some (.cells z32 33)) := ⟨H20.out.1.trans (hb.mono H20.out.1.size), (hb.block _ (heap_lt H20.out.2.1)).trans H20.out.2.1, (hb.block _ (heap_lt H20.out.2.2.1)).trans H20.out.2.2.1, (hb.block _ (heap_lt H20.out.2.2.2)).trans H20.out.2.2.2⟩
  clear hb H20
  go_wp2_with (first | (refine wpList_load_w 43 _ rfl ⟨w.heap.size, 0, none⟩ rfl (.agg (adV A)) (by exact load43 H21.out.2.1) (by rfl) ?_) | (refine wpList_load_w 46 _ rfl ⟨w.heap.size + 1, 0, none⟩ rfl (.agg (W4a x0 x1 x2 x3)) (by exact load46 H21.out.2.2.1) (by rfl) ?_) | (refine wpList_load_w 33 _ rfl ⟨r, 0, none⟩ rfl (.agg z32) (by exact load33 H21.out.2.2.2) (by rfl) ?_) | (refine wpList_build_w 46 #[] rfl (v := w0V) (by exact build46z _) (by rfl) ?_) | (refine wpList_build_w 33 #[] rfl (v := .agg z32) (by exact build33z _) (by rfl) ?_))
  refine Calls.mono (refund_nil) ?_
  rintro e W22 ⟨rfl, hb⟩
  have H22 : Hid (Below w.heap.size w W22 ∧ W22.heap[w.heap.size]? = some (.cells (adV A) 43) ∧ W22.heap[w.heap.size + 1]? = some (.cells (W4a x0 x1 x2 x3) 46) ∧ W22.heap[r]? = some (.cells z32 33)) := ⟨H21.out.1.trans (hb.mono H21.out.1.size), (hb.block _ (heap_lt H21.out.2.1)).trans H21.out.2.1, (hb.block _ (heap_lt H21.out.2.2.1)).trans H21.out.2.2.1, (hb.block _ (heap_lt H21.out.2.2.2)).trans H21.out.2.2.2⟩
  clear hb H21
  go_wp2_with (first | (refine wpList_load_w 43 _ rfl ⟨w.heap.size, 0, none⟩ rfl (.agg (adV A)) (by exact load43 H22.out.2.1) (by rfl) ?_) | (refine wpList_load_w 46 _ rfl ⟨w.heap.size + 1, 0, none⟩ rfl (.agg (W4a x0 x1 x2 x3)) (by exact load46 H22.out.2.2.1) (by rfl) ?_) | (refine wpList_load_w 33 _ rfl ⟨r, 0, none⟩ rfl (.agg z32) (by exact load33 H22.out.2.2.2) (by rfl) ?_) | (refine wpList_build_w 46 #[] rfl (v := w0V) (by exact build46z _) (by rfl) ?_) | (refine wpList_build_w 33 #[] rfl (v := .agg z32) (by exact build33z _) (by rfl) ?_))
  refine Calls.mono (logs_nil) ?_
  rintro e W23 ⟨rfl, hb⟩
  have H23 : Hid (Below w.heap.size w W23 ∧ W23.heap[w.heap.size]? = some (.cells (adV A) 43) ∧ W23.heap[w.heap.size + 1]? = some (.cells (W4a x0 x1 x2 x3) 46) ∧ W23.heap[r]? = some (.cells z32 33)) := ⟨H22.out.1.trans (hb.mono H22.out.1.size), (hb.block _ (heap_lt H22.out.2.1)).trans H22.out.2.1, (hb.block _ (heap_lt H22.out.2.2.1)).trans H22.out.2.2.1, (hb.block _ (heap_lt H22.out.2.2.2)).trans H22.out.2.2.2⟩
  clear hb H22
  go_wp2_with (first | (refine wpList_load_w 43 _ rfl ⟨w.heap.size, 0, none⟩ rfl (.agg (adV A)) (by exact load43 H23.out.2.1) (by rfl) ?_) | (refine wpList_load_w 46 _ rfl ⟨w.heap.size + 1, 0, none⟩ rfl (.agg (W4a x0 x1 x2 x3)) (by exact load46 H23.out.2.2.1) (by rfl) ?_) | (refine wpList_load_w 33 _ rfl ⟨r, 0, none⟩ rfl (.agg z32) (by exact load33 H23.out.2.2.2) (by rfl) ?_) | (refine wpList_build_w 46 #[] rfl (v := w0V) (by exact build46z _) (by rfl) ?_) | (refine wpList_build_w 33 #[] rfl (v := .agg z32) (by exact build33z _) (by rfl) ?_))
  refine Calls.mono (salive_any D E Y HP.out.2.2.1 HP.out.2.2.2 (HP.out.1.below H23.out.1 HP.out.2.1)) ?_
  rintro e W24 ⟨rfl, hb⟩
  have H24 : Hid (Below w.heap.size w W24 ∧ W24.heap[w.heap.size]? = some (.cells (adV A) 43) ∧ W24.heap[w.heap.size + 1]? = some (.cells (W4a x0 x1 x2 x3) 46) ∧ W24.heap[r]? = some (.cells z32 33)) := ⟨H23.out.1.trans (hb.mono H23.out.1.size), (hb.block _ (heap_lt H23.out.2.1)).trans H23.out.2.1, (hb.block _ (heap_lt H23.out.2.2.1)).trans H23.out.2.2.1, (hb.block _ (heap_lt H23.out.2.2.2)).trans H23.out.2.2.2⟩
  clear hb H23
  go_wp2_with fail
  go_ret
  exact ⟨rfl, H24.out.1⟩
end Go.Proofs.YtboeokmaepchgaaGreatDoor
