/- The walk over WordBits: what becomes of bits. -/
import Derived.Test.YtjbdfmepeniglaaA1
import Derived.Test.YtjbdfmepeniglaaB7
namespace Go.Proofs.Ytjbdfmepeniglaa
open Go.RowKit
set_option linter.unusedSimpArgs false
set_option linter.unusedVariables false
theorem to_limbs {f : FuncId} {args : Array Value} {w : World} {n : Int} {s0 s1 s2 s3 : Int} (hs : L4 s0 s1 s2 s3) (E : num s0 s1 s2 s3 = n)
    (h : Calls Try.prog f args w fun e w' => ∃ r0 r1 r2 r3, e = .returned (W4 r0 r1 r2 r3) ∧ L4 r0 r1 r2 r3 ∧ Hid (num r0 r1 r2 r3 = n) ∧ Below w.heap.size w w') :
    Calls Try.prog f args w fun e w' => e = .returned (W4 s0 s1 s2 s3) ∧ Below w.heap.size w w' := by
  refine h.mono ?_
  rintro e w' ⟨r0, r1, r2, r3, rfl, L, E', hw⟩
  obtain ⟨rfl, rfl, rfl, rfl⟩ := num_inj L hs (E'.out.trans E.symm)
  exact ⟨rfl, hw⟩
theorem by_bd (k x : Int) : 0 ≤ byN k x ∧ byN k x < T256 := by
  unfold byN T256
  split <;> omega
theorem shl_bd (n x : Int) : 0 ≤ shlN n x ∧ shlN n x < T256 := by
  unfold shlN
  split
  · exact ⟨Int.emod_nonneg _ (by decide), Int.emod_lt_of_pos _ (by decide)⟩
  · exact ⟨by decide, by decide⟩
theorem sar_bd {n x : Int} (h0 : 0 ≤ n) (hx : 0 ≤ x ∧ x < T256) : 0 ≤ sarN n x ∧ sarN n x < T256 := by
  unfold sarN
  split
  · have := shr_bd (n := n) h0 (y := T256 - 1 - x) ⟨by omega, by omega⟩
    omega
  · exact shr_bd h0 hx
theorem se_bd {k x : Int} (h0 : 0 ≤ k) (hx : 0 ≤ x ∧ x < T256) : 0 ≤ seN k x ∧ seN k x < T256 := by
  unfold seN
  split
  · exact hx
  · exact sar_bd (by omega) (shl_bd _ _)
theorem byteW_any (k0 k1 k2 k3 x0 x1 x2 x3 : Int) (hk : L4 k0 k1 k2 k3) (hx : L4 x0 x1 x2 x3) (w : World) :
    Calls Try.prog 34 #[W4 k0 k1 k2 k3, W4 x0 x1 x2 x3] w fun e w' => ∃ r0 r1 r2 r3 : Int, e = .returned (W4 r0 r1 r2 r3) ∧ L4 r0 r1 r2 r3 ∧ Hid (num r0 r1 r2 r3 = byN (num k0 k1 k2 k3) (num x0 x1 x2 x3)) ∧ Below w.heap.size w w' := by
  have hb := num_bd hk
  by_cases h : num k0 k1 k2 k3 < 32
  · obtain ⟨rfl, rfl, rfl, he⟩ := num_small hk (by omega)
    rw [he] at hb h ⊢
    refine (byte_in k0 x0 x1 x2 x3 hb.1 h hx w).mono ?_
    rintro e w' ⟨rfl, hw⟩
    have hl : 0 ≤ lowN (num x0 x1 x2 x3) (31 - k0) ∧ lowN (num x0 x1 x2 x3) (31 - k0) < 256 := by unfold lowN; omega
    refine ⟨_, 0, 0, 0, rfl, of_L4 ⟨hl.1, by omega⟩, ?_, hw⟩
    show _ = _
    rw [of_num]; unfold byN lowN
    rw [if_pos h, pow256, show (8 * (31 - k0)).toNat = 8 * (31 - k0).toNat from by omega]
  · refine (byte_out k0 k1 k2 k3 x0 x1 x2 x3 hk (by omega) w).mono ?_
    rintro e w' ⟨rfl, hw⟩
    refine ⟨0, 0, 0, 0, rfl, of_L4 limb0, ?_, hw⟩
    show _ = _
    unfold byN; rw [if_neg h]; decide
theorem signextW_any (k0 k1 k2 k3 x0 x1 x2 x3 : Int) (hk : L4 k0 k1 k2 k3) (hx : L4 x0 x1 x2 x3) (w : World) :
    Calls Try.prog 42 #[W4 k0 k1 k2 k3, W4 x0 x1 x2 x3] w fun e w' => ∃ r0 r1 r2 r3 : Int, e = .returned (W4 r0 r1 r2 r3) ∧ L4 r0 r1 r2 r3 ∧ Hid (num r0 r1 r2 r3 = seN (num k0 k1 k2 k3) (num x0 x1 x2 x3)) ∧ Below w.heap.size w w' := by
  have hb := num_bd hk
  by_cases h : num k0 k1 k2 k3 < 31
  · obtain ⟨rfl, rfl, rfl, he⟩ := num_small hk (by omega)
    rw [he] at hb h ⊢
    refine (signext_in k0 x0 x1 x2 x3 hb.1 h hx w).mono ?_
    rintro e w' ⟨s0, s1, s2, s3, rfl, L, E, hw⟩
    refine ⟨s0, s1, s2, s3, rfl, L, ?_, hw⟩
    show _ = _
    unfold seN; rw [if_neg (by omega)]; exact E.out
  · refine (signext_out k0 k1 k2 k3 x0 x1 x2 x3 hk (by omega) w).mono ?_
    rintro e w' ⟨rfl, hw⟩
    refine ⟨x0, x1, x2, x3, rfl, hx, ?_, hw⟩
    show _ = _
    unfold seN; rw [if_pos (by omega)]
theorem ix0 (a b c d : Value) (w : World) : (Instr.index 24 (.agg #[a, b, c, d]) (.int .i64 0)).run Try.prog w = .ok a w := by kernel_rfl
theorem ix1 (a b c d : Value) (w : World) : (Instr.index 24 (.agg #[a, b, c, d]) (.int .i64 1)).run Try.prog w = .ok b w := by kernel_rfl
theorem ix2 (a b c d : Value) (w : World) : (Instr.index 24 (.agg #[a, b, c, d]) (.int .i64 2)).run Try.prog w = .ok c w := by kernel_rfl
theorem ix3 (a b c d : Value) (w : World) : (Instr.index 24 (.agg #[a, b, c, d]) (.int .i64 3)).run Try.prog w = .ok d w := by kernel_rfl
theorem keepB {n : Nat} {k0 k1 k2 k3 x0 x1 x2 x3 y0 y1 y2 y3 : Int} {W w1 : World} (h : n + 1 + 1 < W.heap.size ∧ W.cell? ⟨n, 0, none⟩ = some (.int .u64 k0) ∧ W.cell? ⟨n, 1, none⟩ = some (.int .u64 k1) ∧ W.cell? ⟨n, 2, none⟩ = some (.int .u64 k2) ∧ W.cell? ⟨n, 3, none⟩ = some (.int .u64 k3) ∧ W.cell? ⟨n + 1, 0, none⟩ = some (.int .u64 x0) ∧ W.cell? ⟨n + 1, 1, none⟩ = some (.int .u64 x1) ∧ W.cell? ⟨n + 1, 2, none⟩ = some (.int .u64 x2) ∧ W.cell? ⟨n + 1, 3, none⟩ = some (.int .u64 x3) ∧ W.cell? ⟨n + 1 + 1, 0, none⟩ = some (.int .u64 y0) ∧ W.cell? ⟨n + 1 + 1, 1, none⟩ = some (.int .u64 y1) ∧ W.cell? ⟨n + 1 + 1, 2, none⟩ = some (.int .u64 y2) ∧ W.cell? ⟨n + 1 + 1, 3, none⟩ = some (.int .u64 y3)) (hb : Below (n + 1 + 1 + 1) W w1) : n + 1 + 1 < w1.heap.size ∧ w1.cell? ⟨n, 0, none⟩ = some (.int .u64 k0) ∧ w1.cell? ⟨n, 1, none⟩ = some (.int .u64 k1) ∧ w1.cell? ⟨n, 2, none⟩ = some (.int .u64 k2) ∧ w1.cell? ⟨n, 3, none⟩ = some (.int .u64 k3) ∧ w1.cell? ⟨n + 1, 0, none⟩ = some (.int .u64 x0) ∧ w1.cell? ⟨n + 1, 1, none⟩ = some (.int .u64 x1) ∧ w1.cell? ⟨n + 1, 2, none⟩ = some (.int .u64 x2) ∧ w1.cell? ⟨n + 1, 3, none⟩ = some (.int .u64 x3) ∧ w1.cell? ⟨n + 1 + 1, 0, none⟩ = some (.int .u64 y0) ∧ w1.cell? ⟨n + 1 + 1, 1, none⟩ = some (.int .u64 y1) ∧ w1.cell? ⟨n + 1 + 1, 2, none⟩ = some (.int .u64 y2) ∧ w1.cell? ⟨n + 1 + 1, 3, none⟩ = some (.int .u64 y3) := by
  obtain ⟨hz, c0_0, c0_1, c0_2, c0_3, c1_0, c1_1, c1_2, c1_3, c2_0, c2_1, c2_2, c2_3⟩ := h
  exact ⟨Nat.lt_of_lt_of_le hz hb.size, cells_below hb _ _ _ (by omega) c0_0, cells_below hb _ _ _ (by omega) c0_1, cells_below hb _ _ _ (by omega) c0_2, cells_below hb _ _ _ (by omega) c0_3, cells_below hb _ _ _ (by omega) c1_0, cells_below hb _ _ _ (by omega) c1_1, cells_below hb _ _ _ (by omega) c1_2, cells_below hb _ _ _ (by omega) c1_3, cells_below hb _ _ _ (by omega) c2_0, cells_below hb _ _ _ (by omega) c2_1, cells_below hb _ _ _ (by omega) c2_2, cells_below hb _ _ _ (by omega) c2_3⟩
theorem keepBb {n : Nat} {k0 k1 k2 k3 x0 x1 x2 x3 y0 y1 y2 y3 : Int} {W w1 : World} (h : n + 1 + 1 < W.heap.size ∧ W.cell? ⟨n, 0, none⟩ = some (.int .u64 k0) ∧ W.cell? ⟨n, 1, none⟩ = some (.int .u64 k1) ∧ W.cell? ⟨n, 2, none⟩ = some (.int .u64 k2) ∧ W.cell? ⟨n, 3, none⟩ = some (.int .u64 k3) ∧ W.cell? ⟨n + 1, 0, none⟩ = some (.int .u64 x0) ∧ W.cell? ⟨n + 1, 1, none⟩ = some (.int .u64 x1) ∧ W.cell? ⟨n + 1, 2, none⟩ = some (.int .u64 x2) ∧ W.cell? ⟨n + 1, 3, none⟩ = some (.int .u64 x3) ∧ W.cell? ⟨n + 1 + 1, 0, none⟩ = some (.int .u64 y0) ∧ W.cell? ⟨n + 1 + 1, 1, none⟩ = some (.int .u64 y1) ∧ W.cell? ⟨n + 1 + 1, 2, none⟩ = some (.int .u64 y2) ∧ W.cell? ⟨n + 1 + 1, 3, none⟩ = some (.int .u64 y3)) (hb : Below W.heap.size W w1) : n + 1 + 1 < w1.heap.size ∧ w1.cell? ⟨n, 0, none⟩ = some (.int .u64 k0) ∧ w1.cell? ⟨n, 1, none⟩ = some (.int .u64 k1) ∧ w1.cell? ⟨n, 2, none⟩ = some (.int .u64 k2) ∧ w1.cell? ⟨n, 3, none⟩ = some (.int .u64 k3) ∧ w1.cell? ⟨n + 1, 0, none⟩ = some (.int .u64 x0) ∧ w1.cell? ⟨n + 1, 1, none⟩ = some (.int .u64 x1) ∧ w1.cell? ⟨n + 1, 2, none⟩ = some (.int .u64 x2) ∧ w1.cell? ⟨n + 1, 3, none⟩ = some (.int .u64 x3) ∧ w1.cell? ⟨n + 1 + 1, 0, none⟩ = some (.int .u64 y0) ∧ w1.cell? ⟨n + 1 + 1, 1, none⟩ = some (.int .u64 y1) ∧ w1.cell? ⟨n + 1 + 1, 2, none⟩ = some (.int .u64 y2) ∧ w1.cell? ⟨n + 1 + 1, 3, none⟩ = some (.int .u64 y3) := keepB h (hb.mono (by have := h.1; omega))
theorem keepBs {n : Nat} {k0 k1 k2 k3 x0 x1 x2 x3 y0 y1 y2 y3 : Int} {W0 W w1 : World} (h : n + 1 + 1 < W0.heap.size ∧ W0.cell? ⟨n, 0, none⟩ = some (.int .u64 k0) ∧ W0.cell? ⟨n, 1, none⟩ = some (.int .u64 k1) ∧ W0.cell? ⟨n, 2, none⟩ = some (.int .u64 k2) ∧ W0.cell? ⟨n, 3, none⟩ = some (.int .u64 k3) ∧ W0.cell? ⟨n + 1, 0, none⟩ = some (.int .u64 x0) ∧ W0.cell? ⟨n + 1, 1, none⟩ = some (.int .u64 x1) ∧ W0.cell? ⟨n + 1, 2, none⟩ = some (.int .u64 x2) ∧ W0.cell? ⟨n + 1, 3, none⟩ = some (.int .u64 x3) ∧ W0.cell? ⟨n + 1 + 1, 0, none⟩ = some (.int .u64 y0) ∧ W0.cell? ⟨n + 1 + 1, 1, none⟩ = some (.int .u64 y1) ∧ W0.cell? ⟨n + 1 + 1, 2, none⟩ = some (.int .u64 y2) ∧ W0.cell? ⟨n + 1 + 1, 3, none⟩ = some (.int .u64 y3)) (h1 : Below (n + 1 + 1 + 1) W0 W) (hb : Below W.heap.size W w1) : n + 1 + 1 < w1.heap.size ∧ w1.cell? ⟨n, 0, none⟩ = some (.int .u64 k0) ∧ w1.cell? ⟨n, 1, none⟩ = some (.int .u64 k1) ∧ w1.cell? ⟨n, 2, none⟩ = some (.int .u64 k2) ∧ w1.cell? ⟨n, 3, none⟩ = some (.int .u64 k3) ∧ w1.cell? ⟨n + 1, 0, none⟩ = some (.int .u64 x0) ∧ w1.cell? ⟨n + 1, 1, none⟩ = some (.int .u64 x1) ∧ w1.cell? ⟨n + 1, 2, none⟩ = some (.int .u64 x2) ∧ w1.cell? ⟨n + 1, 3, none⟩ = some (.int .u64 x3) ∧ w1.cell? ⟨n + 1 + 1, 0, none⟩ = some (.int .u64 y0) ∧ w1.cell? ⟨n + 1 + 1, 1, none⟩ = some (.int .u64 y1) ∧ w1.cell? ⟨n + 1 + 1, 2, none⟩ = some (.int .u64 y2) ∧ w1.cell? ⟨n + 1 + 1, 3, none⟩ = some (.int .u64 y3) := keepBb (keepB h h1) hb
theorem keepBc {n : Nat} {k0 k1 k2 k3 x0 x1 x2 x3 y0 y1 y2 y3 : Int} {W : World} (h : n + 1 + 1 < W.heap.size ∧ W.cell? ⟨n, 0, none⟩ = some (.int .u64 k0) ∧ W.cell? ⟨n, 1, none⟩ = some (.int .u64 k1) ∧ W.cell? ⟨n, 2, none⟩ = some (.int .u64 k2) ∧ W.cell? ⟨n, 3, none⟩ = some (.int .u64 k3) ∧ W.cell? ⟨n + 1, 0, none⟩ = some (.int .u64 x0) ∧ W.cell? ⟨n + 1, 1, none⟩ = some (.int .u64 x1) ∧ W.cell? ⟨n + 1, 2, none⟩ = some (.int .u64 x2) ∧ W.cell? ⟨n + 1, 3, none⟩ = some (.int .u64 x3) ∧ W.cell? ⟨n + 1 + 1, 0, none⟩ = some (.int .u64 y0) ∧ W.cell? ⟨n + 1 + 1, 1, none⟩ = some (.int .u64 y1) ∧ W.cell? ⟨n + 1 + 1, 2, none⟩ = some (.int .u64 y2) ∧ W.cell? ⟨n + 1 + 1, 3, none⟩ = some (.int .u64 y3)) {c o : Nat} {v : Value} (e0 : c ≠ n) (e1 : c ≠ n + 1) (e2 : c ≠ n + 1 + 1) : n + 1 + 1 < (W.setCell ⟨c, o, none⟩ v).heap.size ∧ (W.setCell ⟨c, o, none⟩ v).cell? ⟨n, 0, none⟩ = some (.int .u64 k0) ∧ (W.setCell ⟨c, o, none⟩ v).cell? ⟨n, 1, none⟩ = some (.int .u64 k1) ∧ (W.setCell ⟨c, o, none⟩ v).cell? ⟨n, 2, none⟩ = some (.int .u64 k2) ∧ (W.setCell ⟨c, o, none⟩ v).cell? ⟨n, 3, none⟩ = some (.int .u64 k3) ∧ (W.setCell ⟨c, o, none⟩ v).cell? ⟨n + 1, 0, none⟩ = some (.int .u64 x0) ∧ (W.setCell ⟨c, o, none⟩ v).cell? ⟨n + 1, 1, none⟩ = some (.int .u64 x1) ∧ (W.setCell ⟨c, o, none⟩ v).cell? ⟨n + 1, 2, none⟩ = some (.int .u64 x2) ∧ (W.setCell ⟨c, o, none⟩ v).cell? ⟨n + 1, 3, none⟩ = some (.int .u64 x3) ∧ (W.setCell ⟨c, o, none⟩ v).cell? ⟨n + 1 + 1, 0, none⟩ = some (.int .u64 y0) ∧ (W.setCell ⟨c, o, none⟩ v).cell? ⟨n + 1 + 1, 1, none⟩ = some (.int .u64 y1) ∧ (W.setCell ⟨c, o, none⟩ v).cell? ⟨n + 1 + 1, 2, none⟩ = some (.int .u64 y2) ∧ (W.setCell ⟨c, o, none⟩ v).cell? ⟨n + 1 + 1, 3, none⟩ = some (.int .u64 y3) := by
  obtain ⟨hz, c0_0, c0_1, c0_2, c0_3, c1_0, c1_1, c1_2, c1_3, c2_0, c2_1, c2_2, c2_3⟩ := h
  refine ⟨by simp [World.setCell]; exact hz, ?_, ?_, ?_, ?_, ?_, ?_, ?_, ?_, ?_, ?_, ?_, ?_⟩
  · rw [World.cell?_setCell_far _ _ _ _ (by simpa using e0)]; exact c0_0
  · rw [World.cell?_setCell_far _ _ _ _ (by simpa using e0)]; exact c0_1
  · rw [World.cell?_setCell_far _ _ _ _ (by simpa using e0)]; exact c0_2
  · rw [World.cell?_setCell_far _ _ _ _ (by simpa using e0)]; exact c0_3
  · rw [World.cell?_setCell_far _ _ _ _ (by simpa using e1)]; exact c1_0
  · rw [World.cell?_setCell_far _ _ _ _ (by simpa using e1)]; exact c1_1
  · rw [World.cell?_setCell_far _ _ _ _ (by simpa using e1)]; exact c1_2
  · rw [World.cell?_setCell_far _ _ _ _ (by simpa using e1)]; exact c1_3
  · rw [World.cell?_setCell_far _ _ _ _ (by simpa using e2)]; exact c2_0
  · rw [World.cell?_setCell_far _ _ _ _ (by simpa using e2)]; exact c2_1
  · rw [World.cell?_setCell_far _ _ _ _ (by simpa using e2)]; exact c2_2
  · rw [World.cell?_setCell_far _ _ _ _ (by simpa using e2)]; exact c2_3

set_option maxHeartbeats 40000000 in
theorem bits_walk (k0 k1 k2 k3 x0 x1 x2 x3 y0 y1 y2 y3 : Int) (hk : L4 k0 k1 k2 k3) (hx : L4 x0 x1 x2 x3) (w : World) :
    Calls Try.prog 5 #[W4 k0 k1 k2 k3, W4 x0 x1 x2 x3, W4 y0 y1 y2 y3] w fun e w' => e = .returned (.bool true) ∧ Below w.heap.size w w' := by
  obtain ⟨d0, d1, d2, d3, Ld, ed⟩ := num_ex (byN (num k0 k1 k2 k3) (num x0 x1 x2 x3)) (by_bd _ _).1 (by_bd _ _).2
  obtain ⟨l0, l1, l2, l3, Ll, el⟩ := num_ex (shlN (num k0 k1 k2 k3) (num x0 x1 x2 x3)) (shl_bd _ _).1 (shl_bd _ _).2
  obtain ⟨r0, r1, r2, r3, Lr, er⟩ := num_ex (shrN (num k0 k1 k2 k3) (num x0 x1 x2 x3)) (shr_bd (num_bd hk).1 (num_bd hx)).1 (shr_bd (num_bd hk).1 (num_bd hx)).2
  obtain ⟨s0, s1, s2, s3, Ls, es⟩ := num_ex (sarN (num k0 k1 k2 k3) (num x0 x1 x2 x3)) (sar_bd (num_bd hk).1 (num_bd hx)).1 (sar_bd (num_bd hk).1 (num_bd hx)).2
  obtain ⟨e0, e1, e2, e3, Le, ee⟩ := num_ex (seN (num k0 k1 k2 k3) (num x0 x1 x2 x3)) (se_bd (num_bd hk).1 (num_bd hx)).1 (se_bd (num_bd hk).1 (num_bd hx)).2
  have H34 : Hid (∀ w, Calls Try.prog 34 #[W4 k0 k1 k2 k3, W4 x0 x1 x2 x3] w fun e w' => e = .returned (W4 d0 d1 d2 d3) ∧ Below w.heap.size w w') := fun w => to_limbs Ld ed (byteW_any k0 k1 k2 k3 x0 x1 x2 x3 hk hx w)
  have H35 : Hid (∀ w, Calls Try.prog 35 #[W4 k0 k1 k2 k3, W4 x0 x1 x2 x3] w fun e w' => e = .returned (W4 d0 d1 d2 d3) ∧ Below w.heap.size w w') := fun w => to_limbs Ld ed (byteref_any k0 k1 k2 k3 x0 x1 x2 x3 hk hx w)
  have H36 : Hid (∀ w, Calls Try.prog 36 #[W4 k0 k1 k2 k3, W4 x0 x1 x2 x3] w fun e w' => e = .returned (W4 l0 l1 l2 l3) ∧ Below w.heap.size w w') := fun w => to_limbs Ll el (shl_any k0 k1 k2 k3 x0 x1 x2 x3 hk hx w)
  have H37 : Hid (∀ w, Calls Try.prog 37 #[W4 k0 k1 k2 k3, W4 x0 x1 x2 x3] w fun e w' => e = .returned (W4 l0 l1 l2 l3) ∧ Below w.heap.size w w') := fun w => to_limbs Ll el (shlref_any k0 k1 k2 k3 x0 x1 x2 x3 hk hx w)
  have H38 : Hid (∀ w, Calls Try.prog 38 #[W4 k0 k1 k2 k3, W4 x0 x1 x2 x3] w fun e w' => e = .returned (W4 r0 r1 r2 r3) ∧ Below w.heap.size w w') := fun w => to_limbs Lr er (shr_any k0 k1 k2 k3 x0 x1 x2 x3 hk hx w)
  have H39 : Hid (∀ w, Calls Try.prog 39 #[W4 k0 k1 k2 k3, W4 x0 x1 x2 x3] w fun e w' => e = .returned (W4 r0 r1 r2 r3) ∧ Below w.heap.size w w') := fun w => to_limbs Lr er (shrref_any k0 k1 k2 k3 x0 x1 x2 x3 hk hx w)
  have H40 : Hid (∀ w, Calls Try.prog 40 #[W4 k0 k1 k2 k3, W4 x0 x1 x2 x3] w fun e w' => e = .returned (W4 s0 s1 s2 s3) ∧ Below w.heap.size w w') := fun w => to_limbs Ls es (sar_any k0 k1 k2 k3 x0 x1 x2 x3 hk hx w)
  have H41 : Hid (∀ w, Calls Try.prog 41 #[W4 k0 k1 k2 k3, W4 x0 x1 x2 x3] w fun e w' => e = .returned (W4 s0 s1 s2 s3) ∧ Below w.heap.size w w') := fun w => to_limbs Ls es (sarref_any k0 k1 k2 k3 x0 x1 x2 x3 hk hx w)
  have H42 : Hid (∀ w, Calls Try.prog 42 #[W4 k0 k1 k2 k3, W4 x0 x1 x2 x3] w fun e w' => e = .returned (W4 e0 e1 e2 e3) ∧ Below w.heap.size w w') := fun w => to_limbs Le ee (signextW_any k0 k1 k2 k3 x0 x1 x2 x3 hk hx w)
  have H43 : Hid (∀ w, Calls Try.prog 43 #[W4 k0 k1 k2 k3, W4 x0 x1 x2 x3] w fun e w' => e = .returned (W4 e0 e1 e2 e3) ∧ Below w.heap.size w w') := fun w => to_limbs Le ee (signextref_any k0 k1 k2 k3 x0 x1 x2 x3 hk hx w)
  have H30 : Hid (∀ w, Calls Try.prog 30 #[W4 x0 x1 x2 x3, W4 y0 y1 y2 y3] w fun e w' => e = .returned (W4 (bits .and .u64 x0 y0) (bits .and .u64 x1 y1) (bits .and .u64 x2 y2) (bits .and .u64 x3 y3)) ∧ Below w.heap.size w w') := fun w => and_any x0 x1 x2 x3 y0 y1 y2 y3 w
  have H31 : Hid (∀ w, Calls Try.prog 31 #[W4 x0 x1 x2 x3, W4 y0 y1 y2 y3] w fun e w' => e = .returned (W4 (bits .or .u64 x0 y0) (bits .or .u64 x1 y1) (bits .or .u64 x2 y2) (bits .or .u64 x3 y3)) ∧ Below w.heap.size w w') := fun w => or_any x0 x1 x2 x3 y0 y1 y2 y3 w
  have H32 : Hid (∀ w, Calls Try.prog 32 #[W4 x0 x1 x2 x3, W4 y0 y1 y2 y3] w fun e w' => e = .returned (W4 (bits .xor .u64 x0 y0) (bits .xor .u64 x1 y1) (bits .xor .u64 x2 y2) (bits .xor .u64 x3 y3)) ∧ Below w.heap.size w w') := fun w => xor_any x0 x1 x2 x3 y0 y1 y2 y3 w
  have H33 : Hid (∀ w, Calls Try.prog 33 #[W4 x0 x1 x2 x3] w fun e w' => e = .returned (W4 (bits .xor .u64 IntKind.u64.max x0) (bits .xor .u64 IntKind.u64.max x1) (bits .xor .u64 IntKind.u64.max x2) (bits .xor .u64 IntKind.u64.max x3)) ∧ Below w.heap.size w w') := fun w => not_any x0 x1 x2 x3 w
  have qd_ := eq24_same d0 d1 d2 d3
  have ql_ := eq24_same l0 l1 l2 l3
  have qr_ := eq24_same r0 r1 r2 r3
  have qs_ := eq24_same s0 s1 s2 s3
  have qe_ := eq24_same e0 e1 e2 e3
  clear hk hx Ld ed Ll el Lr er Ls es Le ee
  unfold W4 at *
  go_enter Try.func5, Try.ntmps5
  go_wp2_with fail
  have s_ : Hid (w.heap.size + 1 + 1 < (((w.alloc (.cells #[.int .u64 k0, .int .u64 k1, .int .u64 k2, .int .u64 k3] 24)).alloc (.cells #[.int .u64 x0, .int .u64 x1, .int .u64 x2, .int .u64 x3] 24)).alloc (.cells #[.int .u64 y0, .int .u64 y1, .int .u64 y2, .int .u64 y3] 24)).heap.size ∧ (((w.alloc (.cells #[.int .u64 k0, .int .u64 k1, .int .u64 k2, .int .u64 k3] 24)).alloc (.cells #[.int .u64 x0, .int .u64 x1, .int .u64 x2, .int .u64 x3] 24)).alloc (.cells #[.int .u64 y0, .int .u64 y1, .int .u64 y2, .int .u64 y3] 24)).cell? ⟨w.heap.size, 0, none⟩ = some (.int .u64 k0) ∧ (((w.alloc (.cells #[.int .u64 k0, .int .u64 k1, .int .u64 k2, .int .u64 k3] 24)).alloc (.cells #[.int .u64 x0, .int .u64 x1, .int .u64 x2, .int .u64 x3] 24)).alloc (.cells #[.int .u64 y0, .int .u64 y1, .int .u64 y2, .int .u64 y3] 24)).cell? ⟨w.heap.size, 1, none⟩ = some (.int .u64 k1) ∧ (((w.alloc (.cells #[.int .u64 k0, .int .u64 k1, .int .u64 k2, .int .u64 k3] 24)).alloc (.cells #[.int .u64 x0, .int .u64 x1, .int .u64 x2, .int .u64 x3] 24)).alloc (.cells #[.int .u64 y0, .int .u64 y1, .int .u64 y2, .int .u64 y3] 24)).cell? ⟨w.heap.size, 2, none⟩ = some (.int .u64 k2) ∧ (((w.alloc (.cells #[.int .u64 k0, .int .u64 k1, .int .u64 k2, .int .u64 k3] 24)).alloc (.cells #[.int .u64 x0, .int .u64 x1, .int .u64 x2, .int .u64 x3] 24)).alloc (.cells #[.int .u64 y0, .int .u64 y1, .int .u64 y2, .int .u64 y3] 24)).cell? ⟨w.heap.size, 3, none⟩ = some (.int .u64 k3) ∧ (((w.alloc (.cells #[.int .u64 k0, .int .u64 k1, .int .u64 k2, .int .u64 k3] 24)).alloc (.cells #[.int .u64 x0, .int .u64 x1, .int .u64 x2, .int .u64 x3] 24)).alloc (.cells #[.int .u64 y0, .int .u64 y1, .int .u64 y2, .int .u64 y3] 24)).cell? ⟨w.heap.size + 1, 0, none⟩ = some (.int .u64 x0) ∧ (((w.alloc (.cells #[.int .u64 k0, .int .u64 k1, .int .u64 k2, .int .u64 k3] 24)).alloc (.cells #[.int .u64 x0, .int .u64 x1, .int .u64 x2, .int .u64 x3] 24)).alloc (.cells #[.int .u64 y0, .int .u64 y1, .int .u64 y2, .int .u64 y3] 24)).cell? ⟨w.heap.size + 1, 1, none⟩ = some (.int .u64 x1) ∧ (((w.alloc (.cells #[.int .u64 k0, .int .u64 k1, .int .u64 k2, .int .u64 k3] 24)).alloc (.cells #[.int .u64 x0, .int .u64 x1, .int .u64 x2, .int .u64 x3] 24)).alloc (.cells #[.int .u64 y0, .int .u64 y1, .int .u64 y2, .int .u64 y3] 24)).cell? ⟨w.heap.size + 1, 2, none⟩ = some (.int .u64 x2) ∧ (((w.alloc (.cells #[.int .u64 k0, .int .u64 k1, .int .u64 k2, .int .u64 k3] 24)).alloc (.cells #[.int .u64 x0, .int .u64 x1, .int .u64 x2, .int .u64 x3] 24)).alloc (.cells #[.int .u64 y0, .int .u64 y1, .int .u64 y2, .int .u64 y3] 24)).cell? ⟨w.heap.size + 1, 3, none⟩ = some (.int .u64 x3) ∧ (((w.alloc (.cells #[.int .u64 k0, .int .u64 k1, .int .u64 k2, .int .u64 k3] 24)).alloc (.cells #[.int .u64 x0, .int .u64 x1, .int .u64 x2, .int .u64 x3] 24)).alloc (.cells #[.int .u64 y0, .int .u64 y1, .int .u64 y2, .int .u64 y3] 24)).cell? ⟨w.heap.size + 1 + 1, 0, none⟩ = some (.int .u64 y0) ∧ (((w.alloc (.cells #[.int .u64 k0, .int .u64 k1, .int .u64 k2, .int .u64 k3] 24)).alloc (.cells #[.int .u64 x0, .int .u64 x1, .int .u64 x2, .int .u64 x3] 24)).alloc (.cells #[.int .u64 y0, .int .u64 y1, .int .u64 y2, .int .u64 y3] 24)).cell? ⟨w.heap.size + 1 + 1, 1, none⟩ = some (.int .u64 y1) ∧ (((w.alloc (.cells #[.int .u64 k0, .int .u64 k1, .int .u64 k2, .int .u64 k3] 24)).alloc (.cells #[.int .u64 x0, .int .u64 x1, .int .u64 x2, .int .u64 x3] 24)).alloc (.cells #[.int .u64 y0, .int .u64 y1, .int .u64 y2, .int .u64 y3] 24)).cell? ⟨w.heap.size + 1 + 1, 2, none⟩ = some (.int .u64 y2) ∧ (((w.alloc (.cells #[.int .u64 k0, .int .u64 k1, .int .u64 k2, .int .u64 k3] 24)).alloc (.cells #[.int .u64 x0, .int .u64 x1, .int .u64 x2, .int .u64 x3] 24)).alloc (.cells #[.int .u64 y0, .int .u64 y1, .int .u64 y2, .int .u64 y3] 24)).cell? ⟨w.heap.size + 1 + 1, 3, none⟩ = some (.int .u64 y3)) := by
    refine ⟨by simp, ?_, ?_, ?_, ?_, ?_, ?_, ?_, ?_, ?_, ?_, ?_, ?_⟩ <;> simp [go_sem, World.cell?_alloc_past]
  have hB : Below w.heap.size w (((w.alloc (.cells #[.int .u64 k0, .int .u64 k1, .int .u64 k2, .int .u64 k3] 24)).alloc (.cells #[.int .u64 x0, .int .u64 x1, .int .u64 x2, .int .u64 x3] 24)).alloc (.cells #[.int .u64 y0, .int .u64 y1, .int .u64 y2, .int .u64 y3] 24)) := by go_grown
  generalize (((w.alloc (.cells #[.int .u64 k0, .int .u64 k1, .int .u64 k2, .int .u64 k3] 24)).alloc (.cells #[.int .u64 x0, .int .u64 x1, .int .u64 x2, .int .u64 x3] 24)).alloc (.cells #[.int .u64 y0, .int .u64 y1, .int .u64 y2, .int .u64 y3] 24)) = w0 at *
  have hs0 := hB.size
  refine wp_loop_rounds 5 ?_
  rw [rounds_succ]
  have i30_0 := ix0 (.int .u64 (bits .and .u64 x0 y0)) (.int .u64 (bits .and .u64 x1 y1)) (.int .u64 (bits .and .u64 x2 y2)) (.int .u64 (bits .and .u64 x3 y3))
  have i31_0 := ix0 (.int .u64 (bits .or .u64 x0 y0)) (.int .u64 (bits .or .u64 x1 y1)) (.int .u64 (bits .or .u64 x2 y2)) (.int .u64 (bits .or .u64 x3 y3))
  have i32_0 := ix0 (.int .u64 (bits .xor .u64 x0 y0)) (.int .u64 (bits .xor .u64 x1 y1)) (.int .u64 (bits .xor .u64 x2 y2)) (.int .u64 (bits .xor .u64 x3 y3))
  have i33_0 := ix0 (.int .u64 (bits .xor .u64 IntKind.u64.max x0)) (.int .u64 (bits .xor .u64 IntKind.u64.max x1)) (.int .u64 (bits .xor .u64 IntKind.u64.max x2)) (.int .u64 (bits .xor .u64 IntKind.u64.max x3))
  go_wp2_with fail
  go_region_held3 (fun w' => w.heap.size + 1 + 1 < w'.heap.size ∧ w'.cell? ⟨w.heap.size, 0, none⟩ = some (.int .u64 k0) ∧ w'.cell? ⟨w.heap.size, 1, none⟩ = some (.int .u64 k1) ∧ w'.cell? ⟨w.heap.size, 2, none⟩ = some (.int .u64 k2) ∧ w'.cell? ⟨w.heap.size, 3, none⟩ = some (.int .u64 k3) ∧ w'.cell? ⟨w.heap.size + 1, 0, none⟩ = some (.int .u64 x0) ∧ w'.cell? ⟨w.heap.size + 1, 1, none⟩ = some (.int .u64 x1) ∧ w'.cell? ⟨w.heap.size + 1, 2, none⟩ = some (.int .u64 x2) ∧ w'.cell? ⟨w.heap.size + 1, 3, none⟩ = some (.int .u64 x3) ∧ w'.cell? ⟨w.heap.size + 1 + 1, 0, none⟩ = some (.int .u64 y0) ∧ w'.cell? ⟨w.heap.size + 1 + 1, 1, none⟩ = some (.int .u64 y1) ∧ w'.cell? ⟨w.heap.size + 1 + 1, 2, none⟩ = some (.int .u64 y2) ∧ w'.cell? ⟨w.heap.size + 1 + 1, 3, none⟩ = some (.int .u64 y3)) ((refine keepB s_.out ?_; go_grown; done))
    (first
      | (go_at_call 30; go_must (refine Calls.mono (H30.out _) ?_; rintro e w2 ⟨rfl, hw2⟩; have hzs := s_.out.1; have hB : Below w.heap.size w w2 := Below.trans (by go_grown) (hw2.mono (by go_size)); have s_ : Hid _ := keepBs s_.out (by go_grown) hw2; have hs0 := hB.size; clear hw2 hzs))
      | (go_at_call 31; go_must (refine Calls.mono (H31.out _) ?_; rintro e w2 ⟨rfl, hw2⟩; have hzs := s_.out.1; have hB : Below w.heap.size w w2 := Below.trans (by go_grown) (hw2.mono (by go_size)); have s_ : Hid _ := keepBs s_.out (by go_grown) hw2; have hs0 := hB.size; clear hw2 hzs))
      | (go_at_call 32; go_must (refine Calls.mono (H32.out _) ?_; rintro e w2 ⟨rfl, hw2⟩; have hzs := s_.out.1; have hB : Below w.heap.size w w2 := Below.trans (by go_grown) (hw2.mono (by go_size)); have s_ : Hid _ := keepBs s_.out (by go_grown) hw2; have hs0 := hB.size; clear hw2 hzs))
      | (go_at_call 33; go_must (refine Calls.mono (H33.out _) ?_; rintro e w2 ⟨rfl, hw2⟩; have hzs := s_.out.1; have hB : Below w.heap.size w w2 := Below.trans (by go_grown) (hw2.mono (by go_size)); have s_ : Hid _ := keepBs s_.out (by go_grown) hw2; have hs0 := hB.size; clear hw2 hzs)))
  go_wp2_with fail
  clear i30_0 i31_0 i32_0 i33_0
  rw [rounds_succ]
  have i30_1 := ix1 (.int .u64 (bits .and .u64 x0 y0)) (.int .u64 (bits .and .u64 x1 y1)) (.int .u64 (bits .and .u64 x2 y2)) (.int .u64 (bits .and .u64 x3 y3))
  have i31_1 := ix1 (.int .u64 (bits .or .u64 x0 y0)) (.int .u64 (bits .or .u64 x1 y1)) (.int .u64 (bits .or .u64 x2 y2)) (.int .u64 (bits .or .u64 x3 y3))
  have i32_1 := ix1 (.int .u64 (bits .xor .u64 x0 y0)) (.int .u64 (bits .xor .u64 x1 y1)) (.int .u64 (bits .xor .u64 x2 y2)) (.int .u64 (bits .xor .u64 x3 y3))
  have i33_1 := ix1 (.int .u64 (bits .xor .u64 IntKind.u64.max x0)) (.int .u64 (bits .xor .u64 IntKind.u64.max x1)) (.int .u64 (bits .xor .u64 IntKind.u64.max x2)) (.int .u64 (bits .xor .u64 IntKind.u64.max x3))
  go_wp2_with fail
  go_region_held3 (fun w' => w.heap.size + 1 + 1 < w'.heap.size ∧ w'.cell? ⟨w.heap.size, 0, none⟩ = some (.int .u64 k0) ∧ w'.cell? ⟨w.heap.size, 1, none⟩ = some (.int .u64 k1) ∧ w'.cell? ⟨w.heap.size, 2, none⟩ = some (.int .u64 k2) ∧ w'.cell? ⟨w.heap.size, 3, none⟩ = some (.int .u64 k3) ∧ w'.cell? ⟨w.heap.size + 1, 0, none⟩ = some (.int .u64 x0) ∧ w'.cell? ⟨w.heap.size + 1, 1, none⟩ = some (.int .u64 x1) ∧ w'.cell? ⟨w.heap.size + 1, 2, none⟩ = some (.int .u64 x2) ∧ w'.cell? ⟨w.heap.size + 1, 3, none⟩ = some (.int .u64 x3) ∧ w'.cell? ⟨w.heap.size + 1 + 1, 0, none⟩ = some (.int .u64 y0) ∧ w'.cell? ⟨w.heap.size + 1 + 1, 1, none⟩ = some (.int .u64 y1) ∧ w'.cell? ⟨w.heap.size + 1 + 1, 2, none⟩ = some (.int .u64 y2) ∧ w'.cell? ⟨w.heap.size + 1 + 1, 3, none⟩ = some (.int .u64 y3)) ((refine keepB s_.out ?_; go_grown; done))
    (first
      | (go_at_call 30; go_must (refine Calls.mono (H30.out _) ?_; rintro e w2 ⟨rfl, hw2⟩; have hzs := s_.out.1; have hB : Below w.heap.size w w2 := Below.trans (by go_grown) (hw2.mono (by go_size)); have s_ : Hid _ := keepBs s_.out (by go_grown) hw2; have hs0 := hB.size; clear hw2 hzs))
      | (go_at_call 31; go_must (refine Calls.mono (H31.out _) ?_; rintro e w2 ⟨rfl, hw2⟩; have hzs := s_.out.1; have hB : Below w.heap.size w w2 := Below.trans (by go_grown) (hw2.mono (by go_size)); have s_ : Hid _ := keepBs s_.out (by go_grown) hw2; have hs0 := hB.size; clear hw2 hzs))
      | (go_at_call 32; go_must (refine Calls.mono (H32.out _) ?_; rintro e w2 ⟨rfl, hw2⟩; have hzs := s_.out.1; have hB : Below w.heap.size w w2 := Below.trans (by go_grown) (hw2.mono (by go_size)); have s_ : Hid _ := keepBs s_.out (by go_grown) hw2; have hs0 := hB.size; clear hw2 hzs))
      | (go_at_call 33; go_must (refine Calls.mono (H33.out _) ?_; rintro e w2 ⟨rfl, hw2⟩; have hzs := s_.out.1; have hB : Below w.heap.size w w2 := Below.trans (by go_grown) (hw2.mono (by go_size)); have s_ : Hid _ := keepBs s_.out (by go_grown) hw2; have hs0 := hB.size; clear hw2 hzs)))
  go_wp2_with fail
  clear i30_1 i31_1 i32_1 i33_1
  rw [rounds_succ]
  have i30_2 := ix2 (.int .u64 (bits .and .u64 x0 y0)) (.int .u64 (bits .and .u64 x1 y1)) (.int .u64 (bits .and .u64 x2 y2)) (.int .u64 (bits .and .u64 x3 y3))
  have i31_2 := ix2 (.int .u64 (bits .or .u64 x0 y0)) (.int .u64 (bits .or .u64 x1 y1)) (.int .u64 (bits .or .u64 x2 y2)) (.int .u64 (bits .or .u64 x3 y3))
  have i32_2 := ix2 (.int .u64 (bits .xor .u64 x0 y0)) (.int .u64 (bits .xor .u64 x1 y1)) (.int .u64 (bits .xor .u64 x2 y2)) (.int .u64 (bits .xor .u64 x3 y3))
  have i33_2 := ix2 (.int .u64 (bits .xor .u64 IntKind.u64.max x0)) (.int .u64 (bits .xor .u64 IntKind.u64.max x1)) (.int .u64 (bits .xor .u64 IntKind.u64.max x2)) (.int .u64 (bits .xor .u64 IntKind.u64.max x3))
  go_wp2_with fail
  go_region_held3 (fun w' => w.heap.size + 1 + 1 < w'.heap.size ∧ w'.cell? ⟨w.heap.size, 0, none⟩ = some (.int .u64 k0) ∧ w'.cell? ⟨w.heap.size, 1, none⟩ = some (.int .u64 k1) ∧ w'.cell? ⟨w.heap.size, 2, none⟩ = some (.int .u64 k2) ∧ w'.cell? ⟨w.heap.size, 3, none⟩ = some (.int .u64 k3) ∧ w'.cell? ⟨w.heap.size + 1, 0, none⟩ = some (.int .u64 x0) ∧ w'.cell? ⟨w.heap.size + 1, 1, none⟩ = some (.int .u64 x1) ∧ w'.cell? ⟨w.heap.size + 1, 2, none⟩ = some (.int .u64 x2) ∧ w'.cell? ⟨w.heap.size + 1, 3, none⟩ = some (.int .u64 x3) ∧ w'.cell? ⟨w.heap.size + 1 + 1, 0, none⟩ = some (.int .u64 y0) ∧ w'.cell? ⟨w.heap.size + 1 + 1, 1, none⟩ = some (.int .u64 y1) ∧ w'.cell? ⟨w.heap.size + 1 + 1, 2, none⟩ = some (.int .u64 y2) ∧ w'.cell? ⟨w.heap.size + 1 + 1, 3, none⟩ = some (.int .u64 y3)) ((refine keepB s_.out ?_; go_grown; done))
    (first
      | (go_at_call 30; go_must (refine Calls.mono (H30.out _) ?_; rintro e w2 ⟨rfl, hw2⟩; have hzs := s_.out.1; have hB : Below w.heap.size w w2 := Below.trans (by go_grown) (hw2.mono (by go_size)); have s_ : Hid _ := keepBs s_.out (by go_grown) hw2; have hs0 := hB.size; clear hw2 hzs))
      | (go_at_call 31; go_must (refine Calls.mono (H31.out _) ?_; rintro e w2 ⟨rfl, hw2⟩; have hzs := s_.out.1; have hB : Below w.heap.size w w2 := Below.trans (by go_grown) (hw2.mono (by go_size)); have s_ : Hid _ := keepBs s_.out (by go_grown) hw2; have hs0 := hB.size; clear hw2 hzs))
      | (go_at_call 32; go_must (refine Calls.mono (H32.out _) ?_; rintro e w2 ⟨rfl, hw2⟩; have hzs := s_.out.1; have hB : Below w.heap.size w w2 := Below.trans (by go_grown) (hw2.mono (by go_size)); have s_ : Hid _ := keepBs s_.out (by go_grown) hw2; have hs0 := hB.size; clear hw2 hzs))
      | (go_at_call 33; go_must (refine Calls.mono (H33.out _) ?_; rintro e w2 ⟨rfl, hw2⟩; have hzs := s_.out.1; have hB : Below w.heap.size w w2 := Below.trans (by go_grown) (hw2.mono (by go_size)); have s_ : Hid _ := keepBs s_.out (by go_grown) hw2; have hs0 := hB.size; clear hw2 hzs)))
  go_wp2_with fail
  clear i30_2 i31_2 i32_2 i33_2
  rw [rounds_succ]
  have i30_3 := ix3 (.int .u64 (bits .and .u64 x0 y0)) (.int .u64 (bits .and .u64 x1 y1)) (.int .u64 (bits .and .u64 x2 y2)) (.int .u64 (bits .and .u64 x3 y3))
  have i31_3 := ix3 (.int .u64 (bits .or .u64 x0 y0)) (.int .u64 (bits .or .u64 x1 y1)) (.int .u64 (bits .or .u64 x2 y2)) (.int .u64 (bits .or .u64 x3 y3))
  have i32_3 := ix3 (.int .u64 (bits .xor .u64 x0 y0)) (.int .u64 (bits .xor .u64 x1 y1)) (.int .u64 (bits .xor .u64 x2 y2)) (.int .u64 (bits .xor .u64 x3 y3))
  have i33_3 := ix3 (.int .u64 (bits .xor .u64 IntKind.u64.max x0)) (.int .u64 (bits .xor .u64 IntKind.u64.max x1)) (.int .u64 (bits .xor .u64 IntKind.u64.max x2)) (.int .u64 (bits .xor .u64 IntKind.u64.max x3))
  go_wp2_with fail
  go_region_held3 (fun w' => w.heap.size + 1 + 1 < w'.heap.size ∧ w'.cell? ⟨w.heap.size, 0, none⟩ = some (.int .u64 k0) ∧ w'.cell? ⟨w.heap.size, 1, none⟩ = some (.int .u64 k1) ∧ w'.cell? ⟨w.heap.size, 2, none⟩ = some (.int .u64 k2) ∧ w'.cell? ⟨w.heap.size, 3, none⟩ = some (.int .u64 k3) ∧ w'.cell? ⟨w.heap.size + 1, 0, none⟩ = some (.int .u64 x0) ∧ w'.cell? ⟨w.heap.size + 1, 1, none⟩ = some (.int .u64 x1) ∧ w'.cell? ⟨w.heap.size + 1, 2, none⟩ = some (.int .u64 x2) ∧ w'.cell? ⟨w.heap.size + 1, 3, none⟩ = some (.int .u64 x3) ∧ w'.cell? ⟨w.heap.size + 1 + 1, 0, none⟩ = some (.int .u64 y0) ∧ w'.cell? ⟨w.heap.size + 1 + 1, 1, none⟩ = some (.int .u64 y1) ∧ w'.cell? ⟨w.heap.size + 1 + 1, 2, none⟩ = some (.int .u64 y2) ∧ w'.cell? ⟨w.heap.size + 1 + 1, 3, none⟩ = some (.int .u64 y3)) ((refine keepB s_.out ?_; go_grown; done))
    (first
      | (go_at_call 30; go_must (refine Calls.mono (H30.out _) ?_; rintro e w2 ⟨rfl, hw2⟩; have hzs := s_.out.1; have hB : Below w.heap.size w w2 := Below.trans (by go_grown) (hw2.mono (by go_size)); have s_ : Hid _ := keepBs s_.out (by go_grown) hw2; have hs0 := hB.size; clear hw2 hzs))
      | (go_at_call 31; go_must (refine Calls.mono (H31.out _) ?_; rintro e w2 ⟨rfl, hw2⟩; have hzs := s_.out.1; have hB : Below w.heap.size w w2 := Below.trans (by go_grown) (hw2.mono (by go_size)); have s_ : Hid _ := keepBs s_.out (by go_grown) hw2; have hs0 := hB.size; clear hw2 hzs))
      | (go_at_call 32; go_must (refine Calls.mono (H32.out _) ?_; rintro e w2 ⟨rfl, hw2⟩; have hzs := s_.out.1; have hB : Below w.heap.size w w2 := Below.trans (by go_grown) (hw2.mono (by go_size)); have s_ : Hid _ := keepBs s_.out (by go_grown) hw2; have hs0 := hB.size; clear hw2 hzs))
      | (go_at_call 33; go_must (refine Calls.mono (H33.out _) ?_; rintro e w2 ⟨rfl, hw2⟩; have hzs := s_.out.1; have hB : Below w.heap.size w w2 := Below.trans (by go_grown) (hw2.mono (by go_size)); have s_ : Hid _ := keepBs s_.out (by go_grown) hw2; have hs0 := hB.size; clear hw2 hzs)))
  go_wp2_with fail
  clear i30_3 i31_3 i32_3 i33_3
  rw [rounds_succ]
  go_wp2_with fail
  go_region_held3 (fun w' => w.heap.size + 1 + 1 < w'.heap.size ∧ w'.cell? ⟨w.heap.size, 0, none⟩ = some (.int .u64 k0) ∧ w'.cell? ⟨w.heap.size, 1, none⟩ = some (.int .u64 k1) ∧ w'.cell? ⟨w.heap.size, 2, none⟩ = some (.int .u64 k2) ∧ w'.cell? ⟨w.heap.size, 3, none⟩ = some (.int .u64 k3) ∧ w'.cell? ⟨w.heap.size + 1, 0, none⟩ = some (.int .u64 x0) ∧ w'.cell? ⟨w.heap.size + 1, 1, none⟩ = some (.int .u64 x1) ∧ w'.cell? ⟨w.heap.size + 1, 2, none⟩ = some (.int .u64 x2) ∧ w'.cell? ⟨w.heap.size + 1, 3, none⟩ = some (.int .u64 x3) ∧ w'.cell? ⟨w.heap.size + 1 + 1, 0, none⟩ = some (.int .u64 y0) ∧ w'.cell? ⟨w.heap.size + 1 + 1, 1, none⟩ = some (.int .u64 y1) ∧ w'.cell? ⟨w.heap.size + 1 + 1, 2, none⟩ = some (.int .u64 y2) ∧ w'.cell? ⟨w.heap.size + 1 + 1, 3, none⟩ = some (.int .u64 y3)) ((refine keepB s_.out ?_; go_grown; done))
    (first
      | (go_at_call 34; go_must (refine Calls.mono (H34.out _) ?_; rintro e w2 ⟨rfl, hw2⟩; have hzs := s_.out.1; have hB : Below w.heap.size w w2 := Below.trans (by go_grown) (hw2.mono (by go_size)); have s_ : Hid _ := keepBs s_.out (by go_grown) hw2; have hs0 := hB.size; clear hw2 hzs))
      | (go_at_call 35; go_must (refine Calls.mono (H35.out _) ?_; rintro e w2 ⟨rfl, hw2⟩; have hzs := s_.out.1; have hB : Below w.heap.size w w2 := Below.trans (by go_grown) (hw2.mono (by go_size)); have s_ : Hid _ := keepBs s_.out (by go_grown) hw2; have hs0 := hB.size; clear hw2 hzs))
      | (go_at_call 36; go_must (refine Calls.mono (H36.out _) ?_; rintro e w2 ⟨rfl, hw2⟩; have hzs := s_.out.1; have hB : Below w.heap.size w w2 := Below.trans (by go_grown) (hw2.mono (by go_size)); have s_ : Hid _ := keepBs s_.out (by go_grown) hw2; have hs0 := hB.size; clear hw2 hzs))
      | (go_at_call 37; go_must (refine Calls.mono (H37.out _) ?_; rintro e w2 ⟨rfl, hw2⟩; have hzs := s_.out.1; have hB : Below w.heap.size w w2 := Below.trans (by go_grown) (hw2.mono (by go_size)); have s_ : Hid _ := keepBs s_.out (by go_grown) hw2; have hs0 := hB.size; clear hw2 hzs))
      | (go_at_call 38; go_must (refine Calls.mono (H38.out _) ?_; rintro e w2 ⟨rfl, hw2⟩; have hzs := s_.out.1; have hB : Below w.heap.size w w2 := Below.trans (by go_grown) (hw2.mono (by go_size)); have s_ : Hid _ := keepBs s_.out (by go_grown) hw2; have hs0 := hB.size; clear hw2 hzs))
      | (go_at_call 39; go_must (refine Calls.mono (H39.out _) ?_; rintro e w2 ⟨rfl, hw2⟩; have hzs := s_.out.1; have hB : Below w.heap.size w w2 := Below.trans (by go_grown) (hw2.mono (by go_size)); have s_ : Hid _ := keepBs s_.out (by go_grown) hw2; have hs0 := hB.size; clear hw2 hzs))
      | (go_at_call 40; go_must (refine Calls.mono (H40.out _) ?_; rintro e w2 ⟨rfl, hw2⟩; have hzs := s_.out.1; have hB : Below w.heap.size w w2 := Below.trans (by go_grown) (hw2.mono (by go_size)); have s_ : Hid _ := keepBs s_.out (by go_grown) hw2; have hs0 := hB.size; clear hw2 hzs))
      | (go_at_call 41; go_must (refine Calls.mono (H41.out _) ?_; rintro e w2 ⟨rfl, hw2⟩; have hzs := s_.out.1; have hB : Below w.heap.size w w2 := Below.trans (by go_grown) (hw2.mono (by go_size)); have s_ : Hid _ := keepBs s_.out (by go_grown) hw2; have hs0 := hB.size; clear hw2 hzs))
      | (go_at_call 42; go_must (refine Calls.mono (H42.out _) ?_; rintro e w2 ⟨rfl, hw2⟩; have hzs := s_.out.1; have hB : Below w.heap.size w w2 := Below.trans (by go_grown) (hw2.mono (by go_size)); have s_ : Hid _ := keepBs s_.out (by go_grown) hw2; have hs0 := hB.size; clear hw2 hzs))
      | (go_at_call 43; go_must (refine Calls.mono (H43.out _) ?_; rintro e w2 ⟨rfl, hw2⟩; have hzs := s_.out.1; have hB : Below w.heap.size w w2 := Below.trans (by go_grown) (hw2.mono (by go_size)); have s_ : Hid _ := keepBs s_.out (by go_grown) hw2; have hs0 := hB.size; clear hw2 hzs))
      | (go_at_call 17; go_must (refine Calls.mono (alive_any _) ?_; rintro e w2 ⟨rfl, hw2⟩; have hzs := s_.out.1; have hB : Below w.heap.size w w2 := Below.trans (by go_grown) (hw2.mono (by go_size)); have s_ : Hid _ := keepBs s_.out (by go_grown) hw2; have hs0 := hB.size; clear hw2 hzs)))
  go_wp2
  go_ret
  exact ⟨rfl, by go_grown⟩
end Go.Proofs.Ytjbdfmepeniglaa
