/- The walk over WordParts: quotients and what is left. -/
import Derived.Test.YtjbdfmepeniglaaA1
import Derived.Test.YtjbdfmepeniglaaQ4
import Derived.Test.YtjbdfmepeniglaaQ5
import Derived.Test.YtjbdfmepeniglaaX3
import Derived.Test.YtjbdfmepeniglaaX6
namespace Go.Proofs.Ytjbdfmepeniglaa
open Go.RowKit
set_option linter.unusedSimpArgs false
set_option linter.unusedVariables false
theorem to_limbs {f : FuncId} {args : Array Value} {w : World} {n : Int} {s0 s1 s2 s3 : Int} (hs : L4 s0 s1 s2 s3) (E : num s0 s1 s2 s3 = n)
    (h : Calls Try.prog f args w fun e w' => ∃ r0 r1 r2 r3, e = .returned (W4 r0 r1 r2 r3) ∧ L4 r0 r1 r2 r3 ∧ Hid (num r0 r1 r2 r3 = n) ∧ Below w.heap.size w w') :
    Calls Try.prog f args w fun e w' => e = .returned (W4 s0 s1 s2 s3) ∧ Below w.heap.size w w' := by
  refine h.mono ?_
  rintro e w' ⟨r0, r1, r2, r3, rfl, L, E', hw⟩
  obtain ⟨rfl, rfl, rfl, rfl⟩ := num_inj L hs (E'.out.trans E.symm)
  exact ⟨rfl, hw⟩
theorem quo_bd {x y : Int} (hx : 0 ≤ x ∧ x < T256) (hy : 0 ≤ y ∧ y < T256) : 0 ≤ quoN x y ∧ quoN x y < T256 := by
  have h1 := Int.ediv_le_self y hx.1
  have h2 := Int.ediv_nonneg hx.1 hy.1
  unfold quoN
  exact ⟨h2, by omega⟩
theorem rem_bd {x y : Int} (hy : 0 ≤ y ∧ y < T256) : 0 ≤ remN x y ∧ remN x y < T256 := by
  unfold remN
  split
  · exact ⟨by decide, by decide⟩
  · have h1 := Int.emod_lt_of_pos x (show 0 < y by omega)
    have h2 := Int.emod_nonneg x (show y ≠ 0 by omega)
    exact ⟨h2, by omega⟩
theorem minus_bd (x : Int) : 0 ≤ minusN x ∧ minusN x < T256 := ⟨Int.emod_nonneg _ (by decide), Int.emod_lt_of_pos _ (by decide)⟩
theorem sdiv_bd {x y : Int} (hx : 0 ≤ x ∧ x < T256) (hy : 0 ≤ y ∧ y < T256) : 0 ≤ sdivN x y ∧ sdivN x y < T256 := by
  unfold sdivN
  split
  · exact minus_bd _
  · exact quo_bd (size_bd hx) (size_bd hy)
theorem smod_bd {x y : Int} (hy : 0 ≤ y ∧ y < T256) : 0 ≤ smodN x y ∧ smodN x y < T256 := by
  unfold smodN
  split
  · exact minus_bd _
  · exact rem_bd (size_bd hy)
theorem keepP {k : Nat} {a0 a1 a2 a3 b0 b1 b2 b3 n0 n1 n2 n3 : Int} {W w1 : World} (h : k + 1 + 1 < W.heap.size ∧ W.cell? ⟨k, 0, none⟩ = some (.int .u64 a0) ∧ W.cell? ⟨k, 1, none⟩ = some (.int .u64 a1) ∧ W.cell? ⟨k, 2, none⟩ = some (.int .u64 a2) ∧ W.cell? ⟨k, 3, none⟩ = some (.int .u64 a3) ∧ W.cell? ⟨k + 1, 0, none⟩ = some (.int .u64 b0) ∧ W.cell? ⟨k + 1, 1, none⟩ = some (.int .u64 b1) ∧ W.cell? ⟨k + 1, 2, none⟩ = some (.int .u64 b2) ∧ W.cell? ⟨k + 1, 3, none⟩ = some (.int .u64 b3) ∧ W.cell? ⟨k + 1 + 1, 0, none⟩ = some (.int .u64 n0) ∧ W.cell? ⟨k + 1 + 1, 1, none⟩ = some (.int .u64 n1) ∧ W.cell? ⟨k + 1 + 1, 2, none⟩ = some (.int .u64 n2) ∧ W.cell? ⟨k + 1 + 1, 3, none⟩ = some (.int .u64 n3)) (hb : Below (k + 1 + 1 + 1) W w1) : k + 1 + 1 < w1.heap.size ∧ w1.cell? ⟨k, 0, none⟩ = some (.int .u64 a0) ∧ w1.cell? ⟨k, 1, none⟩ = some (.int .u64 a1) ∧ w1.cell? ⟨k, 2, none⟩ = some (.int .u64 a2) ∧ w1.cell? ⟨k, 3, none⟩ = some (.int .u64 a3) ∧ w1.cell? ⟨k + 1, 0, none⟩ = some (.int .u64 b0) ∧ w1.cell? ⟨k + 1, 1, none⟩ = some (.int .u64 b1) ∧ w1.cell? ⟨k + 1, 2, none⟩ = some (.int .u64 b2) ∧ w1.cell? ⟨k + 1, 3, none⟩ = some (.int .u64 b3) ∧ w1.cell? ⟨k + 1 + 1, 0, none⟩ = some (.int .u64 n0) ∧ w1.cell? ⟨k + 1 + 1, 1, none⟩ = some (.int .u64 n1) ∧ w1.cell? ⟨k + 1 + 1, 2, none⟩ = some (.int .u64 n2) ∧ w1.cell? ⟨k + 1 + 1, 3, none⟩ = some (.int .u64 n3) := by
  obtain ⟨hz, c0_0, c0_1, c0_2, c0_3, c1_0, c1_1, c1_2, c1_3, c2_0, c2_1, c2_2, c2_3⟩ := h
  exact ⟨Nat.lt_of_lt_of_le hz hb.size, cells_below hb _ _ _ (by omega) c0_0, cells_below hb _ _ _ (by omega) c0_1, cells_below hb _ _ _ (by omega) c0_2, cells_below hb _ _ _ (by omega) c0_3, cells_below hb _ _ _ (by omega) c1_0, cells_below hb _ _ _ (by omega) c1_1, cells_below hb _ _ _ (by omega) c1_2, cells_below hb _ _ _ (by omega) c1_3, cells_below hb _ _ _ (by omega) c2_0, cells_below hb _ _ _ (by omega) c2_1, cells_below hb _ _ _ (by omega) c2_2, cells_below hb _ _ _ (by omega) c2_3⟩
theorem keepPb {k : Nat} {a0 a1 a2 a3 b0 b1 b2 b3 n0 n1 n2 n3 : Int} {W w1 : World} (h : k + 1 + 1 < W.heap.size ∧ W.cell? ⟨k, 0, none⟩ = some (.int .u64 a0) ∧ W.cell? ⟨k, 1, none⟩ = some (.int .u64 a1) ∧ W.cell? ⟨k, 2, none⟩ = some (.int .u64 a2) ∧ W.cell? ⟨k, 3, none⟩ = some (.int .u64 a3) ∧ W.cell? ⟨k + 1, 0, none⟩ = some (.int .u64 b0) ∧ W.cell? ⟨k + 1, 1, none⟩ = some (.int .u64 b1) ∧ W.cell? ⟨k + 1, 2, none⟩ = some (.int .u64 b2) ∧ W.cell? ⟨k + 1, 3, none⟩ = some (.int .u64 b3) ∧ W.cell? ⟨k + 1 + 1, 0, none⟩ = some (.int .u64 n0) ∧ W.cell? ⟨k + 1 + 1, 1, none⟩ = some (.int .u64 n1) ∧ W.cell? ⟨k + 1 + 1, 2, none⟩ = some (.int .u64 n2) ∧ W.cell? ⟨k + 1 + 1, 3, none⟩ = some (.int .u64 n3)) (hb : Below W.heap.size W w1) : k + 1 + 1 < w1.heap.size ∧ w1.cell? ⟨k, 0, none⟩ = some (.int .u64 a0) ∧ w1.cell? ⟨k, 1, none⟩ = some (.int .u64 a1) ∧ w1.cell? ⟨k, 2, none⟩ = some (.int .u64 a2) ∧ w1.cell? ⟨k, 3, none⟩ = some (.int .u64 a3) ∧ w1.cell? ⟨k + 1, 0, none⟩ = some (.int .u64 b0) ∧ w1.cell? ⟨k + 1, 1, none⟩ = some (.int .u64 b1) ∧ w1.cell? ⟨k + 1, 2, none⟩ = some (.int .u64 b2) ∧ w1.cell? ⟨k + 1, 3, none⟩ = some (.int .u64 b3) ∧ w1.cell? ⟨k + 1 + 1, 0, none⟩ = some (.int .u64 n0) ∧ w1.cell? ⟨k + 1 + 1, 1, none⟩ = some (.int .u64 n1) ∧ w1.cell? ⟨k + 1 + 1, 2, none⟩ = some (.int .u64 n2) ∧ w1.cell? ⟨k + 1 + 1, 3, none⟩ = some (.int .u64 n3) := keepP h (hb.mono (by have := h.1; omega))
theorem keepPs {k : Nat} {a0 a1 a2 a3 b0 b1 b2 b3 n0 n1 n2 n3 : Int} {W0 W w1 : World} (h : k + 1 + 1 < W0.heap.size ∧ W0.cell? ⟨k, 0, none⟩ = some (.int .u64 a0) ∧ W0.cell? ⟨k, 1, none⟩ = some (.int .u64 a1) ∧ W0.cell? ⟨k, 2, none⟩ = some (.int .u64 a2) ∧ W0.cell? ⟨k, 3, none⟩ = some (.int .u64 a3) ∧ W0.cell? ⟨k + 1, 0, none⟩ = some (.int .u64 b0) ∧ W0.cell? ⟨k + 1, 1, none⟩ = some (.int .u64 b1) ∧ W0.cell? ⟨k + 1, 2, none⟩ = some (.int .u64 b2) ∧ W0.cell? ⟨k + 1, 3, none⟩ = some (.int .u64 b3) ∧ W0.cell? ⟨k + 1 + 1, 0, none⟩ = some (.int .u64 n0) ∧ W0.cell? ⟨k + 1 + 1, 1, none⟩ = some (.int .u64 n1) ∧ W0.cell? ⟨k + 1 + 1, 2, none⟩ = some (.int .u64 n2) ∧ W0.cell? ⟨k + 1 + 1, 3, none⟩ = some (.int .u64 n3)) (h1 : Below (k + 1 + 1 + 1) W0 W) (hb : Below W.heap.size W w1) : k + 1 + 1 < w1.heap.size ∧ w1.cell? ⟨k, 0, none⟩ = some (.int .u64 a0) ∧ w1.cell? ⟨k, 1, none⟩ = some (.int .u64 a1) ∧ w1.cell? ⟨k, 2, none⟩ = some (.int .u64 a2) ∧ w1.cell? ⟨k, 3, none⟩ = some (.int .u64 a3) ∧ w1.cell? ⟨k + 1, 0, none⟩ = some (.int .u64 b0) ∧ w1.cell? ⟨k + 1, 1, none⟩ = some (.int .u64 b1) ∧ w1.cell? ⟨k + 1, 2, none⟩ = some (.int .u64 b2) ∧ w1.cell? ⟨k + 1, 3, none⟩ = some (.int .u64 b3) ∧ w1.cell? ⟨k + 1 + 1, 0, none⟩ = some (.int .u64 n0) ∧ w1.cell? ⟨k + 1 + 1, 1, none⟩ = some (.int .u64 n1) ∧ w1.cell? ⟨k + 1 + 1, 2, none⟩ = some (.int .u64 n2) ∧ w1.cell? ⟨k + 1 + 1, 3, none⟩ = some (.int .u64 n3) := keepPb (keepP h h1) hb
theorem keepPc {k : Nat} {a0 a1 a2 a3 b0 b1 b2 b3 n0 n1 n2 n3 : Int} {W : World} (h : k + 1 + 1 < W.heap.size ∧ W.cell? ⟨k, 0, none⟩ = some (.int .u64 a0) ∧ W.cell? ⟨k, 1, none⟩ = some (.int .u64 a1) ∧ W.cell? ⟨k, 2, none⟩ = some (.int .u64 a2) ∧ W.cell? ⟨k, 3, none⟩ = some (.int .u64 a3) ∧ W.cell? ⟨k + 1, 0, none⟩ = some (.int .u64 b0) ∧ W.cell? ⟨k + 1, 1, none⟩ = some (.int .u64 b1) ∧ W.cell? ⟨k + 1, 2, none⟩ = some (.int .u64 b2) ∧ W.cell? ⟨k + 1, 3, none⟩ = some (.int .u64 b3) ∧ W.cell? ⟨k + 1 + 1, 0, none⟩ = some (.int .u64 n0) ∧ W.cell? ⟨k + 1 + 1, 1, none⟩ = some (.int .u64 n1) ∧ W.cell? ⟨k + 1 + 1, 2, none⟩ = some (.int .u64 n2) ∧ W.cell? ⟨k + 1 + 1, 3, none⟩ = some (.int .u64 n3)) {c o : Nat} {v : Value} (e0 : c ≠ k) (e1 : c ≠ k + 1) (e2 : c ≠ k + 1 + 1) : k + 1 + 1 < (W.setCell ⟨c, o, none⟩ v).heap.size ∧ (W.setCell ⟨c, o, none⟩ v).cell? ⟨k, 0, none⟩ = some (.int .u64 a0) ∧ (W.setCell ⟨c, o, none⟩ v).cell? ⟨k, 1, none⟩ = some (.int .u64 a1) ∧ (W.setCell ⟨c, o, none⟩ v).cell? ⟨k, 2, none⟩ = some (.int .u64 a2) ∧ (W.setCell ⟨c, o, none⟩ v).cell? ⟨k, 3, none⟩ = some (.int .u64 a3) ∧ (W.setCell ⟨c, o, none⟩ v).cell? ⟨k + 1, 0, none⟩ = some (.int .u64 b0) ∧ (W.setCell ⟨c, o, none⟩ v).cell? ⟨k + 1, 1, none⟩ = some (.int .u64 b1) ∧ (W.setCell ⟨c, o, none⟩ v).cell? ⟨k + 1, 2, none⟩ = some (.int .u64 b2) ∧ (W.setCell ⟨c, o, none⟩ v).cell? ⟨k + 1, 3, none⟩ = some (.int .u64 b3) ∧ (W.setCell ⟨c, o, none⟩ v).cell? ⟨k + 1 + 1, 0, none⟩ = some (.int .u64 n0) ∧ (W.setCell ⟨c, o, none⟩ v).cell? ⟨k + 1 + 1, 1, none⟩ = some (.int .u64 n1) ∧ (W.setCell ⟨c, o, none⟩ v).cell? ⟨k + 1 + 1, 2, none⟩ = some (.int .u64 n2) ∧ (W.setCell ⟨c, o, none⟩ v).cell? ⟨k + 1 + 1, 3, none⟩ = some (.int .u64 n3) := by
  obtain ⟨hz, c0_0, c0_1, c0_2, c0_3, c1_0, c1_1, c1_2, c1_3, c2_0, c2_1, c2_2, c2_3⟩ := h
  refine ⟨by simp [World.setCell]; exact hz, ?_, ?_, ?_, ?_, ?_, ?_, ?_, ?_, ?_, ?_, ?_, ?_⟩
  · rw [World.cell?_setCell_far _ _ _ _ (by simpa using e0)]; exact c0_0
  · rw [World.cell?_setCell_far _ _ _ _ (by simpa using e0)]; exact c0_1
  · rw [World.cell?_setCell_far _ _ _ _ (by simpa using e0)]; exact c0_2
  · rw [World.cell?_setCell_far _ _ _ _ (by simpa using e0)]; exact c0_3
  · rw [World.cell?_setCell_far _ _ _ _ (by simpa using e1)]; exact c1_0
  · rw [World.cell?_setCell_far _ _ _ _ (by simpa using e1)]; exact c1_1
  · rw [World.cell?_setCell_far _ _ _ _ (by simpa using e1)]; exact c1_2
  · rw [World.cell?_setCell_far _ _ _ _ (by simpa using e1)]; exact c1_3
  · rw [World.cell?_setCell_far _ _ _ _ (by simpa using e2)]; exact c2_0
  · rw [World.cell?_setCell_far _ _ _ _ (by simpa using e2)]; exact c2_1
  · rw [World.cell?_setCell_far _ _ _ _ (by simpa using e2)]; exact c2_2
  · rw [World.cell?_setCell_far _ _ _ _ (by simpa using e2)]; exact c2_3

set_option maxHeartbeats 40000000 in
theorem parts_walk (a0 a1 a2 a3 b0 b1 b2 b3 n0 n1 n2 n3 : Int) (ha : L4 a0 a1 a2 a3) (hb : L4 b0 b1 b2 b3) (hn : L4 n0 n1 n2 n3) (w : World) :
    Calls Try.prog 4 #[W4 a0 a1 a2 a3, W4 b0 b1 b2 b3, W4 n0 n1 n2 n3] w fun e w' => e = .returned (.bool true) ∧ Below w.heap.size w w' := by
  obtain ⟨d0, d1, d2, d3, Ld, ed⟩ := num_ex (quoN (num a0 a1 a2 a3) (num b0 b1 b2 b3)) (quo_bd (num_bd ha) (num_bd hb)).1 (quo_bd (num_bd ha) (num_bd hb)).2
  obtain ⟨m0, m1, m2, m3, Lm, em⟩ := num_ex (remN (num a0 a1 a2 a3) (num b0 b1 b2 b3)) (rem_bd (num_bd hb)).1 (rem_bd (num_bd hb)).2
  obtain ⟨s0, s1, s2, s3, Ls, es⟩ := num_ex (sdivN (num a0 a1 a2 a3) (num b0 b1 b2 b3)) (sdiv_bd (num_bd ha) (num_bd hb)).1 (sdiv_bd (num_bd ha) (num_bd hb)).2
  obtain ⟨t0, t1, t2, t3, Lt, et⟩ := num_ex (smodN (num a0 a1 a2 a3) (num b0 b1 b2 b3)) (smod_bd (num_bd hb)).1 (smod_bd (num_bd hb)).2
  obtain ⟨p0, p1, p2, p3, Lp, ep⟩ := num_ex (remN ((num a0 a1 a2 a3) + (num b0 b1 b2 b3)) (num n0 n1 n2 n3)) (rem_bd (num_bd hn)).1 (rem_bd (num_bd hn)).2
  obtain ⟨q0, q1, q2, q3, Lq, eq⟩ := num_ex (remN ((num a0 a1 a2 a3) * (num b0 b1 b2 b3)) (num n0 n1 n2 n3)) (rem_bd (num_bd hn)).1 (rem_bd (num_bd hn)).2
  have H18 : Hid (∀ w, Calls Try.prog 18 #[W4 a0 a1 a2 a3, W4 b0 b1 b2 b3] w fun e w' => e = .returned (W4 d0 d1 d2 d3) ∧ Below w.heap.size w w') := fun w => to_limbs Ld ed (div_any a0 a1 a2 a3 b0 b1 b2 b3 ha hb w)
  have H19 : Hid (∀ w, Calls Try.prog 19 #[W4 a0 a1 a2 a3, W4 b0 b1 b2 b3] w fun e w' => e = .returned (W4 d0 d1 d2 d3) ∧ Below w.heap.size w w') := fun w => to_limbs Ld ed (divref_any a0 a1 a2 a3 b0 b1 b2 b3 ha hb w)
  have H20 : Hid (∀ w, Calls Try.prog 20 #[W4 a0 a1 a2 a3, W4 b0 b1 b2 b3] w fun e w' => e = .returned (W4 m0 m1 m2 m3) ∧ Below w.heap.size w w') := fun w => to_limbs Lm em (mod_any a0 a1 a2 a3 b0 b1 b2 b3 ha hb w)
  have H21 : Hid (∀ w, Calls Try.prog 21 #[W4 a0 a1 a2 a3, W4 b0 b1 b2 b3] w fun e w' => e = .returned (W4 m0 m1 m2 m3) ∧ Below w.heap.size w w') := fun w => to_limbs Lm em (modref_any a0 a1 a2 a3 b0 b1 b2 b3 ha hb w)
  have H22 : Hid (∀ w, Calls Try.prog 22 #[W4 a0 a1 a2 a3, W4 b0 b1 b2 b3] w fun e w' => e = .returned (W4 s0 s1 s2 s3) ∧ Below w.heap.size w w') := fun w => to_limbs Ls es (sdiv_any a0 a1 a2 a3 b0 b1 b2 b3 ha hb w)
  have H23 : Hid (∀ w, Calls Try.prog 23 #[W4 a0 a1 a2 a3, W4 b0 b1 b2 b3] w fun e w' => e = .returned (W4 s0 s1 s2 s3) ∧ Below w.heap.size w w') := fun w => to_limbs Ls es (sdivref_any a0 a1 a2 a3 b0 b1 b2 b3 ha hb w)
  have H24 : Hid (∀ w, Calls Try.prog 24 #[W4 a0 a1 a2 a3, W4 b0 b1 b2 b3] w fun e w' => e = .returned (W4 t0 t1 t2 t3) ∧ Below w.heap.size w w') := fun w => to_limbs Lt et (smod_any a0 a1 a2 a3 b0 b1 b2 b3 ha hb w)
  have H25 : Hid (∀ w, Calls Try.prog 25 #[W4 a0 a1 a2 a3, W4 b0 b1 b2 b3] w fun e w' => e = .returned (W4 t0 t1 t2 t3) ∧ Below w.heap.size w w') := fun w => to_limbs Lt et (smodref_any a0 a1 a2 a3 b0 b1 b2 b3 ha hb w)
  have H26 : Hid (∀ w, Calls Try.prog 26 #[W4 a0 a1 a2 a3, W4 b0 b1 b2 b3, W4 n0 n1 n2 n3] w fun e w' => e = .returned (W4 p0 p1 p2 p3) ∧ Below w.heap.size w w') := fun w => to_limbs Lp ep (addmod_any a0 a1 a2 a3 b0 b1 b2 b3 n0 n1 n2 n3 ha hb hn w)
  have H27 : Hid (∀ w, Calls Try.prog 27 #[W4 a0 a1 a2 a3, W4 b0 b1 b2 b3, W4 n0 n1 n2 n3] w fun e w' => e = .returned (W4 p0 p1 p2 p3) ∧ Below w.heap.size w w') := fun w => to_limbs Lp ep (addmodref_any a0 a1 a2 a3 b0 b1 b2 b3 n0 n1 n2 n3 ha hb hn w)
  have H28 : Hid (∀ w, Calls Try.prog 28 #[W4 a0 a1 a2 a3, W4 b0 b1 b2 b3, W4 n0 n1 n2 n3] w fun e w' => e = .returned (W4 q0 q1 q2 q3) ∧ Below w.heap.size w w') := fun w => to_limbs Lq eq (mulmod_any a0 a1 a2 a3 b0 b1 b2 b3 n0 n1 n2 n3 ha hb hn w)
  have H29 : Hid (∀ w, Calls Try.prog 29 #[W4 a0 a1 a2 a3, W4 b0 b1 b2 b3, W4 n0 n1 n2 n3] w fun e w' => e = .returned (W4 q0 q1 q2 q3) ∧ Below w.heap.size w w') := fun w => to_limbs Lq eq (mulmodref_any a0 a1 a2 a3 b0 b1 b2 b3 n0 n1 n2 n3 ha hb hn w)
  have qd_ := eq24_same d0 d1 d2 d3
  have qm_ := eq24_same m0 m1 m2 m3
  have qs_ := eq24_same s0 s1 s2 s3
  have qt_ := eq24_same t0 t1 t2 t3
  have qp_ := eq24_same p0 p1 p2 p3
  have qq_ := eq24_same q0 q1 q2 q3
  clear ha hb hn Ld ed Lm em Ls es Lt et Lp ep Lq eq
  unfold W4 at *
  go_enter Try.func4, Try.ntmps4
  go_wp2_with fail
  have s_ : Hid (w.heap.size + 1 + 1 < (((w.alloc (.cells #[.int .u64 a0, .int .u64 a1, .int .u64 a2, .int .u64 a3] 24)).alloc (.cells #[.int .u64 b0, .int .u64 b1, .int .u64 b2, .int .u64 b3] 24)).alloc (.cells #[.int .u64 n0, .int .u64 n1, .int .u64 n2, .int .u64 n3] 24)).heap.size ∧ (((w.alloc (.cells #[.int .u64 a0, .int .u64 a1, .int .u64 a2, .int .u64 a3] 24)).alloc (.cells #[.int .u64 b0, .int .u64 b1, .int .u64 b2, .int .u64 b3] 24)).alloc (.cells #[.int .u64 n0, .int .u64 n1, .int .u64 n2, .int .u64 n3] 24)).cell? ⟨w.heap.size, 0, none⟩ = some (.int .u64 a0) ∧ (((w.alloc (.cells #[.int .u64 a0, .int .u64 a1, .int .u64 a2, .int .u64 a3] 24)).alloc (.cells #[.int .u64 b0, .int .u64 b1, .int .u64 b2, .int .u64 b3] 24)).alloc (.cells #[.int .u64 n0, .int .u64 n1, .int .u64 n2, .int .u64 n3] 24)).cell? ⟨w.heap.size, 1, none⟩ = some (.int .u64 a1) ∧ (((w.alloc (.cells #[.int .u64 a0, .int .u64 a1, .int .u64 a2, .int .u64 a3] 24)).alloc (.cells #[.int .u64 b0, .int .u64 b1, .int .u64 b2, .int .u64 b3] 24)).alloc (.cells #[.int .u64 n0, .int .u64 n1, .int .u64 n2, .int .u64 n3] 24)).cell? ⟨w.heap.size, 2, none⟩ = some (.int .u64 a2) ∧ (((w.alloc (.cells #[.int .u64 a0, .int .u64 a1, .int .u64 a2, .int .u64 a3] 24)).alloc (.cells #[.int .u64 b0, .int .u64 b1, .int .u64 b2, .int .u64 b3] 24)).alloc (.cells #[.int .u64 n0, .int .u64 n1, .int .u64 n2, .int .u64 n3] 24)).cell? ⟨w.heap.size, 3, none⟩ = some (.int .u64 a3) ∧ (((w.alloc (.cells #[.int .u64 a0, .int .u64 a1, .int .u64 a2, .int .u64 a3] 24)).alloc (.cells #[.int .u64 b0, .int .u64 b1, .int .u64 b2, .int .u64 b3] 24)).alloc (.cells #[.int .u64 n0, .int .u64 n1, .int .u64 n2, .int .u64 n3] 24)).cell? ⟨w.heap.size + 1, 0, none⟩ = some (.int .u64 b0) ∧ (((w.alloc (.cells #[.int .u64 a0, .int .u64 a1, .int .u64 a2, .int .u64 a3] 24)).alloc (.cells #[.int .u64 b0, .int .u64 b1, .int .u64 b2, .int .u64 b3] 24)).alloc (.cells #[.int .u64 n0, .int .u64 n1, .int .u64 n2, .int .u64 n3] 24)).cell? ⟨w.heap.size + 1, 1, none⟩ = some (.int .u64 b1) ∧ (((w.alloc (.cells #[.int .u64 a0, .int .u64 a1, .int .u64 a2, .int .u64 a3] 24)).alloc (.cells #[.int .u64 b0, .int .u64 b1, .int .u64 b2, .int .u64 b3] 24)).alloc (.cells #[.int .u64 n0, .int .u64 n1, .int .u64 n2, .int .u64 n3] 24)).cell? ⟨w.heap.size + 1, 2, none⟩ = some (.int .u64 b2) ∧ (((w.alloc (.cells #[.int .u64 a0, .int .u64 a1, .int .u64 a2, .int .u64 a3] 24)).alloc (.cells #[.int .u64 b0, .int .u64 b1, .int .u64 b2, .int .u64 b3] 24)).alloc (.cells #[.int .u64 n0, .int .u64 n1, .int .u64 n2, .int .u64 n3] 24)).cell? ⟨w.heap.size + 1, 3, none⟩ = some (.int .u64 b3) ∧ (((w.alloc (.cells #[.int .u64 a0, .int .u64 a1, .int .u64 a2, .int .u64 a3] 24)).alloc (.cells #[.int .u64 b0, .int .u64 b1, .int .u64 b2, .int .u64 b3] 24)).alloc (.cells #[.int .u64 n0, .int .u64 n1, .int .u64 n2, .int .u64 n3] 24)).cell? ⟨w.heap.size + 1 + 1, 0, none⟩ = some (.int .u64 n0) ∧ (((w.alloc (.cells #[.int .u64 a0, .int .u64 a1, .int .u64 a2, .int .u64 a3] 24)).alloc (.cells #[.int .u64 b0, .int .u64 b1, .int .u64 b2, .int .u64 b3] 24)).alloc (.cells #[.int .u64 n0, .int .u64 n1, .int .u64 n2, .int .u64 n3] 24)).cell? ⟨w.heap.size + 1 + 1, 1, none⟩ = some (.int .u64 n1) ∧ (((w.alloc (.cells #[.int .u64 a0, .int .u64 a1, .int .u64 a2, .int .u64 a3] 24)).alloc (.cells #[.int .u64 b0, .int .u64 b1, .int .u64 b2, .int .u64 b3] 24)).alloc (.cells #[.int .u64 n0, .int .u64 n1, .int .u64 n2, .int .u64 n3] 24)).cell? ⟨w.heap.size + 1 + 1, 2, none⟩ = some (.int .u64 n2) ∧ (((w.alloc (.cells #[.int .u64 a0, .int .u64 a1, .int .u64 a2, .int .u64 a3] 24)).alloc (.cells #[.int .u64 b0, .int .u64 b1, .int .u64 b2, .int .u64 b3] 24)).alloc (.cells #[.int .u64 n0, .int .u64 n1, .int .u64 n2, .int .u64 n3] 24)).cell? ⟨w.heap.size + 1 + 1, 3, none⟩ = some (.int .u64 n3)) := by
    refine ⟨by simp, ?_, ?_, ?_, ?_, ?_, ?_, ?_, ?_, ?_, ?_, ?_, ?_⟩ <;> simp [go_sem, World.cell?_alloc_past]
  have hB : Below w.heap.size w (((w.alloc (.cells #[.int .u64 a0, .int .u64 a1, .int .u64 a2, .int .u64 a3] 24)).alloc (.cells #[.int .u64 b0, .int .u64 b1, .int .u64 b2, .int .u64 b3] 24)).alloc (.cells #[.int .u64 n0, .int .u64 n1, .int .u64 n2, .int .u64 n3] 24)) := by go_grown
  generalize (((w.alloc (.cells #[.int .u64 a0, .int .u64 a1, .int .u64 a2, .int .u64 a3] 24)).alloc (.cells #[.int .u64 b0, .int .u64 b1, .int .u64 b2, .int .u64 b3] 24)).alloc (.cells #[.int .u64 n0, .int .u64 n1, .int .u64 n2, .int .u64 n3] 24)) = w0 at *
  have hs0 := hB.size
  try simp only [List.append_eq, List.cons_append, List.nil_append]
  go_region_held3 (fun w' => w.heap.size + 1 + 1 < w'.heap.size ∧ w'.cell? ⟨w.heap.size, 0, none⟩ = some (.int .u64 a0) ∧ w'.cell? ⟨w.heap.size, 1, none⟩ = some (.int .u64 a1) ∧ w'.cell? ⟨w.heap.size, 2, none⟩ = some (.int .u64 a2) ∧ w'.cell? ⟨w.heap.size, 3, none⟩ = some (.int .u64 a3) ∧ w'.cell? ⟨w.heap.size + 1, 0, none⟩ = some (.int .u64 b0) ∧ w'.cell? ⟨w.heap.size + 1, 1, none⟩ = some (.int .u64 b1) ∧ w'.cell? ⟨w.heap.size + 1, 2, none⟩ = some (.int .u64 b2) ∧ w'.cell? ⟨w.heap.size + 1, 3, none⟩ = some (.int .u64 b3) ∧ w'.cell? ⟨w.heap.size + 1 + 1, 0, none⟩ = some (.int .u64 n0) ∧ w'.cell? ⟨w.heap.size + 1 + 1, 1, none⟩ = some (.int .u64 n1) ∧ w'.cell? ⟨w.heap.size + 1 + 1, 2, none⟩ = some (.int .u64 n2) ∧ w'.cell? ⟨w.heap.size + 1 + 1, 3, none⟩ = some (.int .u64 n3)) ((refine keepP s_.out ?_; go_grown; done))
    (first
      | (go_at_call 18; go_must (refine Calls.mono (H18.out _) ?_; rintro e w2 ⟨rfl, hw2⟩; have hzs := s_.out.1; have hB : Below w.heap.size w w2 := Below.trans (by go_grown) (hw2.mono (by go_size)); have s_ : Hid _ := keepPs s_.out (by go_grown) hw2; have hs0 := hB.size; clear hw2 hzs))
      | (go_at_call 19; go_must (refine Calls.mono (H19.out _) ?_; rintro e w2 ⟨rfl, hw2⟩; have hzs := s_.out.1; have hB : Below w.heap.size w w2 := Below.trans (by go_grown) (hw2.mono (by go_size)); have s_ : Hid _ := keepPs s_.out (by go_grown) hw2; have hs0 := hB.size; clear hw2 hzs))
      | (go_at_call 20; go_must (refine Calls.mono (H20.out _) ?_; rintro e w2 ⟨rfl, hw2⟩; have hzs := s_.out.1; have hB : Below w.heap.size w w2 := Below.trans (by go_grown) (hw2.mono (by go_size)); have s_ : Hid _ := keepPs s_.out (by go_grown) hw2; have hs0 := hB.size; clear hw2 hzs))
      | (go_at_call 21; go_must (refine Calls.mono (H21.out _) ?_; rintro e w2 ⟨rfl, hw2⟩; have hzs := s_.out.1; have hB : Below w.heap.size w w2 := Below.trans (by go_grown) (hw2.mono (by go_size)); have s_ : Hid _ := keepPs s_.out (by go_grown) hw2; have hs0 := hB.size; clear hw2 hzs))
      | (go_at_call 22; go_must (refine Calls.mono (H22.out _) ?_; rintro e w2 ⟨rfl, hw2⟩; have hzs := s_.out.1; have hB : Below w.heap.size w w2 := Below.trans (by go_grown) (hw2.mono (by go_size)); have s_ : Hid _ := keepPs s_.out (by go_grown) hw2; have hs0 := hB.size; clear hw2 hzs))
      | (go_at_call 23; go_must (refine Calls.mono (H23.out _) ?_; rintro e w2 ⟨rfl, hw2⟩; have hzs := s_.out.1; have hB : Below w.heap.size w w2 := Below.trans (by go_grown) (hw2.mono (by go_size)); have s_ : Hid _ := keepPs s_.out (by go_grown) hw2; have hs0 := hB.size; clear hw2 hzs))
      | (go_at_call 24; go_must (refine Calls.mono (H24.out _) ?_; rintro e w2 ⟨rfl, hw2⟩; have hzs := s_.out.1; have hB : Below w.heap.size w w2 := Below.trans (by go_grown) (hw2.mono (by go_size)); have s_ : Hid _ := keepPs s_.out (by go_grown) hw2; have hs0 := hB.size; clear hw2 hzs))
      | (go_at_call 25; go_must (refine Calls.mono (H25.out _) ?_; rintro e w2 ⟨rfl, hw2⟩; have hzs := s_.out.1; have hB : Below w.heap.size w w2 := Below.trans (by go_grown) (hw2.mono (by go_size)); have s_ : Hid _ := keepPs s_.out (by go_grown) hw2; have hs0 := hB.size; clear hw2 hzs))
      | (go_at_call 26; go_must (refine Calls.mono (H26.out _) ?_; rintro e w2 ⟨rfl, hw2⟩; have hzs := s_.out.1; have hB : Below w.heap.size w w2 := Below.trans (by go_grown) (hw2.mono (by go_size)); have s_ : Hid _ := keepPs s_.out (by go_grown) hw2; have hs0 := hB.size; clear hw2 hzs))
      | (go_at_call 27; go_must (refine Calls.mono (H27.out _) ?_; rintro e w2 ⟨rfl, hw2⟩; have hzs := s_.out.1; have hB : Below w.heap.size w w2 := Below.trans (by go_grown) (hw2.mono (by go_size)); have s_ : Hid _ := keepPs s_.out (by go_grown) hw2; have hs0 := hB.size; clear hw2 hzs))
      | (go_at_call 28; go_must (refine Calls.mono (H28.out _) ?_; rintro e w2 ⟨rfl, hw2⟩; have hzs := s_.out.1; have hB : Below w.heap.size w w2 := Below.trans (by go_grown) (hw2.mono (by go_size)); have s_ : Hid _ := keepPs s_.out (by go_grown) hw2; have hs0 := hB.size; clear hw2 hzs))
      | (go_at_call 29; go_must (refine Calls.mono (H29.out _) ?_; rintro e w2 ⟨rfl, hw2⟩; have hzs := s_.out.1; have hB : Below w.heap.size w w2 := Below.trans (by go_grown) (hw2.mono (by go_size)); have s_ : Hid _ := keepPs s_.out (by go_grown) hw2; have hs0 := hB.size; clear hw2 hzs))
      | (go_at_call 17; go_must (refine Calls.mono (alive_any _) ?_; rintro e w2 ⟨rfl, hw2⟩; have hzs := s_.out.1; have hB : Below w.heap.size w w2 := Below.trans (by go_grown) (hw2.mono (by go_size)); have s_ : Hid _ := keepPs s_.out (by go_grown) hw2; have hs0 := hB.size; clear hw2 hzs)))
  go_wp2
  go_ret
  exact ⟨rfl, by go_grown⟩
end Go.Proofs.Ytjbdfmepeniglaa
