/- The walk over WordWhole: quotient and what is left make the number. -/
import Derived.Test.YtjbdfmepeniglabZ2
import Derived.Test.YtjbdfmepeniglabA1
namespace Go.Proofs.Ytjbdfmepeniglab
open Go.RowKit
set_option linter.unusedSimpArgs false
set_option linter.unusedVariables false
theorem keepW {n : Nat} {a0 a1 a2 a3 b0 b1 b2 b3 : Int} {W w1 : World} (h : n + 1 < W.heap.size ∧ W.cell? ⟨n, 0, none⟩ = some (.int .u64 a0) ∧ W.cell? ⟨n, 1, none⟩ = some (.int .u64 a1) ∧ W.cell? ⟨n, 2, none⟩ = some (.int .u64 a2) ∧ W.cell? ⟨n, 3, none⟩ = some (.int .u64 a3) ∧ W.cell? ⟨n + 1, 0, none⟩ = some (.int .u64 b0) ∧ W.cell? ⟨n + 1, 1, none⟩ = some (.int .u64 b1) ∧ W.cell? ⟨n + 1, 2, none⟩ = some (.int .u64 b2) ∧ W.cell? ⟨n + 1, 3, none⟩ = some (.int .u64 b3)) (hb : Below (n + 1 + 1) W w1) : n + 1 < w1.heap.size ∧ w1.cell? ⟨n, 0, none⟩ = some (.int .u64 a0) ∧ w1.cell? ⟨n, 1, none⟩ = some (.int .u64 a1) ∧ w1.cell? ⟨n, 2, none⟩ = some (.int .u64 a2) ∧ w1.cell? ⟨n, 3, none⟩ = some (.int .u64 a3) ∧ w1.cell? ⟨n + 1, 0, none⟩ = some (.int .u64 b0) ∧ w1.cell? ⟨n + 1, 1, none⟩ = some (.int .u64 b1) ∧ w1.cell? ⟨n + 1, 2, none⟩ = some (.int .u64 b2) ∧ w1.cell? ⟨n + 1, 3, none⟩ = some (.int .u64 b3) := by
  obtain ⟨hz, c0_0, c0_1, c0_2, c0_3, c1_0, c1_1, c1_2, c1_3⟩ := h
  exact ⟨Nat.lt_of_lt_of_le hz hb.size, cells_below hb _ _ _ (by omega) c0_0, cells_below hb _ _ _ (by omega) c0_1, cells_below hb _ _ _ (by omega) c0_2, cells_below hb _ _ _ (by omega) c0_3, cells_below hb _ _ _ (by omega) c1_0, cells_below hb _ _ _ (by omega) c1_1, cells_below hb _ _ _ (by omega) c1_2, cells_below hb _ _ _ (by omega) c1_3⟩
theorem keepWb {n : Nat} {a0 a1 a2 a3 b0 b1 b2 b3 : Int} {W w1 : World} (h : n + 1 < W.heap.size ∧ W.cell? ⟨n, 0, none⟩ = some (.int .u64 a0) ∧ W.cell? ⟨n, 1, none⟩ = some (.int .u64 a1) ∧ W.cell? ⟨n, 2, none⟩ = some (.int .u64 a2) ∧ W.cell? ⟨n, 3, none⟩ = some (.int .u64 a3) ∧ W.cell? ⟨n + 1, 0, none⟩ = some (.int .u64 b0) ∧ W.cell? ⟨n + 1, 1, none⟩ = some (.int .u64 b1) ∧ W.cell? ⟨n + 1, 2, none⟩ = some (.int .u64 b2) ∧ W.cell? ⟨n + 1, 3, none⟩ = some (.int .u64 b3)) (hb : Below W.heap.size W w1) : n + 1 < w1.heap.size ∧ w1.cell? ⟨n, 0, none⟩ = some (.int .u64 a0) ∧ w1.cell? ⟨n, 1, none⟩ = some (.int .u64 a1) ∧ w1.cell? ⟨n, 2, none⟩ = some (.int .u64 a2) ∧ w1.cell? ⟨n, 3, none⟩ = some (.int .u64 a3) ∧ w1.cell? ⟨n + 1, 0, none⟩ = some (.int .u64 b0) ∧ w1.cell? ⟨n + 1, 1, none⟩ = some (.int .u64 b1) ∧ w1.cell? ⟨n + 1, 2, none⟩ = some (.int .u64 b2) ∧ w1.cell? ⟨n + 1, 3, none⟩ = some (.int .u64 b3) := keepW h (hb.mono (by have := h.1; omega))
theorem keepWs {n : Nat} {a0 a1 a2 a3 b0 b1 b2 b3 : Int} {W0 W w1 : World} (h : n + 1 < W0.heap.size ∧ W0.cell? ⟨n, 0, none⟩ = some (.int .u64 a0) ∧ W0.cell? ⟨n, 1, none⟩ = some (.int .u64 a1) ∧ W0.cell? ⟨n, 2, none⟩ = some (.int .u64 a2) ∧ W0.cell? ⟨n, 3, none⟩ = some (.int .u64 a3) ∧ W0.cell? ⟨n + 1, 0, none⟩ = some (.int .u64 b0) ∧ W0.cell? ⟨n + 1, 1, none⟩ = some (.int .u64 b1) ∧ W0.cell? ⟨n + 1, 2, none⟩ = some (.int .u64 b2) ∧ W0.cell? ⟨n + 1, 3, none⟩ = some (.int .u64 b3)) (h1 : Below (n + 1 + 1) W0 W) (hb : Below W.heap.size W w1) : n + 1 < w1.heap.size ∧ w1.cell? ⟨n, 0, none⟩ = some (.int .u64 a0) ∧ w1.cell? ⟨n, 1, none⟩ = some (.int .u64 a1) ∧ w1.cell? ⟨n, 2, none⟩ = some (.int .u64 a2) ∧ w1.cell? ⟨n, 3, none⟩ = some (.int .u64 a3) ∧ w1.cell? ⟨n + 1, 0, none⟩ = some (.int .u64 b0) ∧ w1.cell? ⟨n + 1, 1, none⟩ = some (.int .u64 b1) ∧ w1.cell? ⟨n + 1, 2, none⟩ = some (.int .u64 b2) ∧ w1.cell? ⟨n + 1, 3, none⟩ = some (.int .u64 b3) := keepWb (keepW h h1) hb
theorem keepWc {n : Nat} {a0 a1 a2 a3 b0 b1 b2 b3 : Int} {W : World} (h : n + 1 < W.heap.size ∧ W.cell? ⟨n, 0, none⟩ = some (.int .u64 a0) ∧ W.cell? ⟨n, 1, none⟩ = some (.int .u64 a1) ∧ W.cell? ⟨n, 2, none⟩ = some (.int .u64 a2) ∧ W.cell? ⟨n, 3, none⟩ = some (.int .u64 a3) ∧ W.cell? ⟨n + 1, 0, none⟩ = some (.int .u64 b0) ∧ W.cell? ⟨n + 1, 1, none⟩ = some (.int .u64 b1) ∧ W.cell? ⟨n + 1, 2, none⟩ = some (.int .u64 b2) ∧ W.cell? ⟨n + 1, 3, none⟩ = some (.int .u64 b3)) {c o : Nat} {v : Value} (e0 : c ≠ n) (e1 : c ≠ n + 1) : n + 1 < (W.setCell ⟨c, o, none⟩ v).heap.size ∧ (W.setCell ⟨c, o, none⟩ v).cell? ⟨n, 0, none⟩ = some (.int .u64 a0) ∧ (W.setCell ⟨c, o, none⟩ v).cell? ⟨n, 1, none⟩ = some (.int .u64 a1) ∧ (W.setCell ⟨c, o, none⟩ v).cell? ⟨n, 2, none⟩ = some (.int .u64 a2) ∧ (W.setCell ⟨c, o, none⟩ v).cell? ⟨n, 3, none⟩ = some (.int .u64 a3) ∧ (W.setCell ⟨c, o, none⟩ v).cell? ⟨n + 1, 0, none⟩ = some (.int .u64 b0) ∧ (W.setCell ⟨c, o, none⟩ v).cell? ⟨n + 1, 1, none⟩ = some (.int .u64 b1) ∧ (W.setCell ⟨c, o, none⟩ v).cell? ⟨n + 1, 2, none⟩ = some (.int .u64 b2) ∧ (W.setCell ⟨c, o, none⟩ v).cell? ⟨n + 1, 3, none⟩ = some (.int .u64 b3) := by
  obtain ⟨hz, c0_0, c0_1, c0_2, c0_3, c1_0, c1_1, c1_2, c1_3⟩ := h
  refine ⟨by simp [World.setCell]; exact hz, ?_, ?_, ?_, ?_, ?_, ?_, ?_, ?_⟩
  · rw [World.cell?_setCell_far _ _ _ _ (by simpa using e0)]; exact c0_0
  · rw [World.cell?_setCell_far _ _ _ _ (by simpa using e0)]; exact c0_1
  · rw [World.cell?_setCell_far _ _ _ _ (by simpa using e0)]; exact c0_2
  · rw [World.cell?_setCell_far _ _ _ _ (by simpa using e0)]; exact c0_3
  · rw [World.cell?_setCell_far _ _ _ _ (by simpa using e1)]; exact c1_0
  · rw [World.cell?_setCell_far _ _ _ _ (by simpa using e1)]; exact c1_1
  · rw [World.cell?_setCell_far _ _ _ _ (by simpa using e1)]; exact c1_2
  · rw [World.cell?_setCell_far _ _ _ _ (by simpa using e1)]; exact c1_3
theorem keepK {b0 b1 b2 b3 : Nat} {p0 p1 p2 p3 q0 q1 q2 q3 r0 r1 r2 r3 s0 s1 s2 s3 : Int} {W w1 : World} (h : b0 < W.heap.size ∧ b1 < W.heap.size ∧ b2 < W.heap.size ∧ b3 < W.heap.size ∧ W.cell? ⟨b0, 0, none⟩ = some (.int .u64 p0) ∧ W.cell? ⟨b0, 1, none⟩ = some (.int .u64 p1) ∧ W.cell? ⟨b0, 2, none⟩ = some (.int .u64 p2) ∧ W.cell? ⟨b0, 3, none⟩ = some (.int .u64 p3) ∧ W.cell? ⟨b1, 0, none⟩ = some (.int .u64 q0) ∧ W.cell? ⟨b1, 1, none⟩ = some (.int .u64 q1) ∧ W.cell? ⟨b1, 2, none⟩ = some (.int .u64 q2) ∧ W.cell? ⟨b1, 3, none⟩ = some (.int .u64 q3) ∧ W.cell? ⟨b2, 0, none⟩ = some (.int .u64 r0) ∧ W.cell? ⟨b2, 1, none⟩ = some (.int .u64 r1) ∧ W.cell? ⟨b2, 2, none⟩ = some (.int .u64 r2) ∧ W.cell? ⟨b2, 3, none⟩ = some (.int .u64 r3) ∧ W.cell? ⟨b3, 0, none⟩ = some (.int .u64 s0) ∧ W.cell? ⟨b3, 1, none⟩ = some (.int .u64 s1) ∧ W.cell? ⟨b3, 2, none⟩ = some (.int .u64 s2) ∧ W.cell? ⟨b3, 3, none⟩ = some (.int .u64 s3)) (hb : Below W.heap.size W w1) : b0 < w1.heap.size ∧ b1 < w1.heap.size ∧ b2 < w1.heap.size ∧ b3 < w1.heap.size ∧ w1.cell? ⟨b0, 0, none⟩ = some (.int .u64 p0) ∧ w1.cell? ⟨b0, 1, none⟩ = some (.int .u64 p1) ∧ w1.cell? ⟨b0, 2, none⟩ = some (.int .u64 p2) ∧ w1.cell? ⟨b0, 3, none⟩ = some (.int .u64 p3) ∧ w1.cell? ⟨b1, 0, none⟩ = some (.int .u64 q0) ∧ w1.cell? ⟨b1, 1, none⟩ = some (.int .u64 q1) ∧ w1.cell? ⟨b1, 2, none⟩ = some (.int .u64 q2) ∧ w1.cell? ⟨b1, 3, none⟩ = some (.int .u64 q3) ∧ w1.cell? ⟨b2, 0, none⟩ = some (.int .u64 r0) ∧ w1.cell? ⟨b2, 1, none⟩ = some (.int .u64 r1) ∧ w1.cell? ⟨b2, 2, none⟩ = some (.int .u64 r2) ∧ w1.cell? ⟨b2, 3, none⟩ = some (.int .u64 r3) ∧ w1.cell? ⟨b3, 0, none⟩ = some (.int .u64 s0) ∧ w1.cell? ⟨b3, 1, none⟩ = some (.int .u64 s1) ∧ w1.cell? ⟨b3, 2, none⟩ = some (.int .u64 s2) ∧ w1.cell? ⟨b3, 3, none⟩ = some (.int .u64 s3) := by
  obtain ⟨h0, h1, h2, h3, w0, w1, w2, w3, x0, x1, x2, x3, y0, y1, y2, y3, z0, z1, z2, z3⟩ := h
  exact ⟨Nat.lt_of_lt_of_le h0 hb.size, Nat.lt_of_lt_of_le h1 hb.size, Nat.lt_of_lt_of_le h2 hb.size, Nat.lt_of_lt_of_le h3 hb.size, (hb.cell (p := ⟨_, 0, none⟩) h0).trans w0, (hb.cell (p := ⟨_, 1, none⟩) h0).trans w1, (hb.cell (p := ⟨_, 2, none⟩) h0).trans w2, (hb.cell (p := ⟨_, 3, none⟩) h0).trans w3, (hb.cell (p := ⟨_, 0, none⟩) h1).trans x0, (hb.cell (p := ⟨_, 1, none⟩) h1).trans x1, (hb.cell (p := ⟨_, 2, none⟩) h1).trans x2, (hb.cell (p := ⟨_, 3, none⟩) h1).trans x3, (hb.cell (p := ⟨_, 0, none⟩) h2).trans y0, (hb.cell (p := ⟨_, 1, none⟩) h2).trans y1, (hb.cell (p := ⟨_, 2, none⟩) h2).trans y2, (hb.cell (p := ⟨_, 3, none⟩) h2).trans y3, (hb.cell (p := ⟨_, 0, none⟩) h3).trans z0, (hb.cell (p := ⟨_, 1, none⟩) h3).trans z1, (hb.cell (p := ⟨_, 2, none⟩) h3).trans z2, (hb.cell (p := ⟨_, 3, none⟩) h3).trans z3⟩
theorem keepKs {b0 b1 b2 b3 : Nat} {p0 p1 p2 p3 q0 q1 q2 q3 r0 r1 r2 r3 s0 s1 s2 s3 : Int} {W0 W w1 : World} (h : b0 < W0.heap.size ∧ b1 < W0.heap.size ∧ b2 < W0.heap.size ∧ b3 < W0.heap.size ∧ W0.cell? ⟨b0, 0, none⟩ = some (.int .u64 p0) ∧ W0.cell? ⟨b0, 1, none⟩ = some (.int .u64 p1) ∧ W0.cell? ⟨b0, 2, none⟩ = some (.int .u64 p2) ∧ W0.cell? ⟨b0, 3, none⟩ = some (.int .u64 p3) ∧ W0.cell? ⟨b1, 0, none⟩ = some (.int .u64 q0) ∧ W0.cell? ⟨b1, 1, none⟩ = some (.int .u64 q1) ∧ W0.cell? ⟨b1, 2, none⟩ = some (.int .u64 q2) ∧ W0.cell? ⟨b1, 3, none⟩ = some (.int .u64 q3) ∧ W0.cell? ⟨b2, 0, none⟩ = some (.int .u64 r0) ∧ W0.cell? ⟨b2, 1, none⟩ = some (.int .u64 r1) ∧ W0.cell? ⟨b2, 2, none⟩ = some (.int .u64 r2) ∧ W0.cell? ⟨b2, 3, none⟩ = some (.int .u64 r3) ∧ W0.cell? ⟨b3, 0, none⟩ = some (.int .u64 s0) ∧ W0.cell? ⟨b3, 1, none⟩ = some (.int .u64 s1) ∧ W0.cell? ⟨b3, 2, none⟩ = some (.int .u64 s2) ∧ W0.cell? ⟨b3, 3, none⟩ = some (.int .u64 s3)) (h1 : Below W0.heap.size W0 W) (hb : Below W.heap.size W w1) : b0 < w1.heap.size ∧ b1 < w1.heap.size ∧ b2 < w1.heap.size ∧ b3 < w1.heap.size ∧ w1.cell? ⟨b0, 0, none⟩ = some (.int .u64 p0) ∧ w1.cell? ⟨b0, 1, none⟩ = some (.int .u64 p1) ∧ w1.cell? ⟨b0, 2, none⟩ = some (.int .u64 p2) ∧ w1.cell? ⟨b0, 3, none⟩ = some (.int .u64 p3) ∧ w1.cell? ⟨b1, 0, none⟩ = some (.int .u64 q0) ∧ w1.cell? ⟨b1, 1, none⟩ = some (.int .u64 q1) ∧ w1.cell? ⟨b1, 2, none⟩ = some (.int .u64 q2) ∧ w1.cell? ⟨b1, 3, none⟩ = some (.int .u64 q3) ∧ w1.cell? ⟨b2, 0, none⟩ = some (.int .u64 r0) ∧ w1.cell? ⟨b2, 1, none⟩ = some (.int .u64 r1) ∧ w1.cell? ⟨b2, 2, none⟩ = some (.int .u64 r2) ∧ w1.cell? ⟨b2, 3, none⟩ = some (.int .u64 r3) ∧ w1.cell? ⟨b3, 0, none⟩ = some (.int .u64 s0) ∧ w1.cell? ⟨b3, 1, none⟩ = some (.int .u64 s1) ∧ w1.cell? ⟨b3, 2, none⟩ = some (.int .u64 s2) ∧ w1.cell? ⟨b3, 3, none⟩ = some (.int .u64 s3) := keepK (keepK h h1) hb
theorem Cel.onto {w : World} {b : Nat} {x0 x1 x2 x3 : Int} (h : Cel w b x0 x1 x2 x3) (o : Obj) : Cel (w.alloc o) b x0 x1 x2 x3 := by
  obtain ⟨hz, c0, c1, c2, c3⟩ := h
  refine ⟨by simp; omega, ?_, ?_, ?_, ?_⟩
  · rw [World.cell?_alloc_past _ _ _ hz]; exact c0
  · rw [World.cell?_alloc_past _ _ _ hz]; exact c1
  · rw [World.cell?_alloc_past _ _ _ hz]; exact c2
  · rw [World.cell?_alloc_past _ _ _ hz]; exact c3

set_option maxHeartbeats 80000000 in
theorem whole_walk (a0 a1 a2 a3 b0 b1 b2 b3 q0 q1 q2 q3 r0 r1 r2 r3 t0 t1 t2 t3 s0 s1 s2 s3 m0 m1 m2 m3 d0 d1 d2 d3 u0 u1 u2 u3 v0 v1 v2 v3 p0 p1 p2 p3 f0 f1 f2 f3 g0 g1 g2 g3 n c : Int) (z zb : Bool) (lx : List Int) (hn0 : 0 ≤ n) (hn1 : n < 256)
    (H6ab : Hid (∀ w, Calls Try.prog 6 #[W4 a0 a1 a2 a3, W4 b0 b1 b2 b3] w fun e w' => e = .returned (W4 q0 q1 q2 q3) ∧ Below w.heap.size w w'))
    (H5qb : Hid (∀ w, Calls Try.prog 5 #[W4 q0 q1 q2 q3, W4 b0 b1 b2 b3] w fun e w' => e = .returned (W4 t0 t1 t2 t3) ∧ Below w.heap.size w w'))
    (H7ab : Hid (∀ w, Calls Try.prog 7 #[W4 a0 a1 a2 a3, W4 b0 b1 b2 b3] w fun e w' => e = .returned (W4 r0 r1 r2 r3) ∧ Below w.heap.size w w'))
    (H4tr : Hid (∀ w, Calls Try.prog 4 #[W4 t0 t1 t2 t3, W4 r0 r1 r2 r3] w fun e w' => e = .returned (W4 s0 s1 s2 s3) ∧ Below w.heap.size w w'))
    (H9ab : Hid (∀ w, Calls Try.prog 9 #[W4 a0 a1 a2 a3, W4 b0 b1 b2 b3] w fun e w' => e = .returned (W4 m0 m1 m2 m3) ∧ Below w.heap.size w w'))
    (H5Qb : Hid (∀ w, Calls Try.prog 5 #[W4 m0 m1 m2 m3, W4 b0 b1 b2 b3] w fun e w' => e = .returned (W4 u0 u1 u2 u3) ∧ Below w.heap.size w w'))
    (H10ab : Hid (∀ w, Calls Try.prog 10 #[W4 a0 a1 a2 a3, W4 b0 b1 b2 b3] w fun e w' => e = .returned (W4 d0 d1 d2 d3) ∧ Below w.heap.size w w'))
    (H4UR : Hid (∀ w, Calls Try.prog 4 #[W4 u0 u1 u2 u3, W4 d0 d1 d2 d3] w fun e w' => e = .returned (W4 v0 v1 v2 v3) ∧ Below w.heap.size w w'))
    (H12twok : Hid (∀ w, Calls Try.prog 12 #[W4 2 0 0 0, W4 n 0 0 0] w fun e w' => e = .returned (W4 p0 p1 p2 p3) ∧ Below w.heap.size w w'))
    (H15ka : Hid (∀ w, Calls Try.prog 15 #[W4 n 0 0 0, W4 a0 a1 a2 a3] w fun e w' => e = .returned (W4 f0 f1 f2 f3) ∧ Below w.heap.size w w'))
    (H5ap : Hid (∀ w, Calls Try.prog 5 #[W4 a0 a1 a2 a3, W4 p0 p1 p2 p3] w fun e w' => e = .returned (W4 f0 f1 f2 f3) ∧ Below w.heap.size w w'))
    (H16ka : Hid (∀ w, Calls Try.prog 16 #[W4 n 0 0 0, W4 a0 a1 a2 a3] w fun e w' => e = .returned (W4 g0 g1 g2 g3) ∧ Below w.heap.size w w'))
    (H6ap : Hid (∀ w, Calls Try.prog 6 #[W4 a0 a1 a2 a3, W4 p0 p1 p2 p3] w fun e w' => e = .returned (W4 g0 g1 g2 g3) ∧ Below w.heap.size w w'))
    (HZ : Hid (∀ w, Calls Try.prog 8 #[W4 b0 b1 b2 b3] w fun e w' => e = .returned (.bool zb) ∧ Below w.heap.size w w'))
    (HC : Hid (∀ w, Calls Try.prog 11 #[W4 r0 r1 r2 r3, W4 b0 b1 b2 b3] w fun e w' => e = .returned (.int .i64 c) ∧ Below w.heap.size w w'))
    (HSh : Hid (∀ w, Calls Try.prog 14 #[W4 a0 a1 a2 a3] w fun e w' => ∃ x, e = .returned x ∧ IsU w' x lx ∧ Below w.heap.size w w'))
    (HRd : Hid (∀ w x, IsU w x lx → Calls Try.prog 13 #[x] w fun e w' => e = .returned (.tuple #[W4 a0 a1 a2 a3, .int .i64 0]) ∧ Below w.heap.size w w'))
    (qs : ∀ w, (Op.equalIn 10000 24 (W4 s0 s1 s2 s3) (W4 a0 a1 a2 a3)).run Try.prog w = .ok z w) (qv : ∀ w, (Op.equalIn 10000 24 (W4 v0 v1 v2 v3) (W4 a0 a1 a2 a3)).run Try.prog w = .ok z w)
    (hcase : (zb = false ∧ z = true ∧ c = -1) ∨ (zb = true ∧ c = 0)) (w : World) :
    Calls Try.prog 3 #[W4 a0 a1 a2 a3, W4 b0 b1 b2 b3, .int .u8 n] w fun e w' => e = .returned (.bool true) ∧ Below w.heap.size w w' := by
  have qf := eq24_same f0 f1 f2 f3
  have qg := eq24_same g0 g1 g2 g3
  have qa := eq24_same a0 a1 a2 a3
  have hwn : IntKind.u64.wrap n = n := by rw [IntKind.wrap_u64]; omega
  unfold W4 at *
  go_enter Try.func3, Try.ntmps3
  go_wp2_with fail
  have s_ : Hid (w.heap.size + 1 < ((w.alloc (.cells #[.int .u64 a0, .int .u64 a1, .int .u64 a2, .int .u64 a3] 24)).alloc (.cells #[.int .u64 b0, .int .u64 b1, .int .u64 b2, .int .u64 b3] 24)).heap.size ∧ ((w.alloc (.cells #[.int .u64 a0, .int .u64 a1, .int .u64 a2, .int .u64 a3] 24)).alloc (.cells #[.int .u64 b0, .int .u64 b1, .int .u64 b2, .int .u64 b3] 24)).cell? ⟨w.heap.size, 0, none⟩ = some (.int .u64 a0) ∧ ((w.alloc (.cells #[.int .u64 a0, .int .u64 a1, .int .u64 a2, .int .u64 a3] 24)).alloc (.cells #[.int .u64 b0, .int .u64 b1, .int .u64 b2, .int .u64 b3] 24)).cell? ⟨w.heap.size, 1, none⟩ = some (.int .u64 a1) ∧ ((w.alloc (.cells #[.int .u64 a0, .int .u64 a1, .int .u64 a2, .int .u64 a3] 24)).alloc (.cells #[.int .u64 b0, .int .u64 b1, .int .u64 b2, .int .u64 b3] 24)).cell? ⟨w.heap.size, 2, none⟩ = some (.int .u64 a2) ∧ ((w.alloc (.cells #[.int .u64 a0, .int .u64 a1, .int .u64 a2, .int .u64 a3] 24)).alloc (.cells #[.int .u64 b0, .int .u64 b1, .int .u64 b2, .int .u64 b3] 24)).cell? ⟨w.heap.size, 3, none⟩ = some (.int .u64 a3) ∧ ((w.alloc (.cells #[.int .u64 a0, .int .u64 a1, .int .u64 a2, .int .u64 a3] 24)).alloc (.cells #[.int .u64 b0, .int .u64 b1, .int .u64 b2, .int .u64 b3] 24)).cell? ⟨w.heap.size + 1, 0, none⟩ = some (.int .u64 b0) ∧ ((w.alloc (.cells #[.int .u64 a0, .int .u64 a1, .int .u64 a2, .int .u64 a3] 24)).alloc (.cells #[.int .u64 b0, .int .u64 b1, .int .u64 b2, .int .u64 b3] 24)).cell? ⟨w.heap.size + 1, 1, none⟩ = some (.int .u64 b1) ∧ ((w.alloc (.cells #[.int .u64 a0, .int .u64 a1, .int .u64 a2, .int .u64 a3] 24)).alloc (.cells #[.int .u64 b0, .int .u64 b1, .int .u64 b2, .int .u64 b3] 24)).cell? ⟨w.heap.size + 1, 2, none⟩ = some (.int .u64 b2) ∧ ((w.alloc (.cells #[.int .u64 a0, .int .u64 a1, .int .u64 a2, .int .u64 a3] 24)).alloc (.cells #[.int .u64 b0, .int .u64 b1, .int .u64 b2, .int .u64 b3] 24)).cell? ⟨w.heap.size + 1, 3, none⟩ = some (.int .u64 b3)) := by
    refine ⟨by simp, ?_, ?_, ?_, ?_, ?_, ?_, ?_, ?_⟩ <;> simp [go_sem, World.cell?_alloc_past]
  have hB : Below w.heap.size w ((w.alloc (.cells #[.int .u64 a0, .int .u64 a1, .int .u64 a2, .int .u64 a3] 24)).alloc (.cells #[.int .u64 b0, .int .u64 b1, .int .u64 b2, .int .u64 b3] 24)) := by go_grown
  generalize ((w.alloc (.cells #[.int .u64 a0, .int .u64 a1, .int .u64 a2, .int .u64 a3] 24)).alloc (.cells #[.int .u64 b0, .int .u64 b1, .int .u64 b2, .int .u64 b3] 24)) = w0 at *
  have hs0 := hB.size
  rcases hcase with ⟨rfl, rfl, rfl⟩ | ⟨rfl, rfl⟩
  · skip
    refine wp_region_noPanic ?_
    refine wp_region_held_drew (S := fun w' => w.heap.size + 1 < w'.heap.size ∧ w'.cell? ⟨w.heap.size, 0, none⟩ = some (.int .u64 a0) ∧ w'.cell? ⟨w.heap.size, 1, none⟩ = some (.int .u64 a1) ∧ w'.cell? ⟨w.heap.size, 2, none⟩ = some (.int .u64 a2) ∧ w'.cell? ⟨w.heap.size, 3, none⟩ = some (.int .u64 a3) ∧ w'.cell? ⟨w.heap.size + 1, 0, none⟩ = some (.int .u64 b0) ∧ w'.cell? ⟨w.heap.size + 1, 1, none⟩ = some (.int .u64 b1) ∧ w'.cell? ⟨w.heap.size + 1, 2, none⟩ = some (.int .u64 b2) ∧ w'.cell? ⟨w.heap.size + 1, 3, none⟩ = some (.int .u64 b3)) (by kernel_rfl) ?_ (fun hHeld => ?_)
    · exact keepW s_.out (by go_grown)
    refine wpAnyH_take (i := 0) (v := ?_) rfl (by kernel_rfl) (by kernel_rfl) (by kernel_rfl) (fun _ _ _ h => h) (Or.inl ⟨by rfl, ?_⟩) (by assumption) ?_
    rotate_left
    · intro w hSw; (try dsimp only at hSw); go_simp
      try with_reducible rfl
    rotate_left
    try simp only [List.getElem_toArray, List.getElem_cons_succ, List.getElem_cons_zero, Act.put, List.setIfInBounds_toArray, List.set_cons_zero, List.set_cons_succ]
    refine wpAnyH_take (i := 1) (v := ?_) rfl (by kernel_rfl) (by kernel_rfl) (by kernel_rfl) (fun _ _ _ h => h) (Or.inl ⟨by rfl, ?_⟩) (by assumption) ?_
    rotate_left
    · intro w hSw; (try dsimp only at hSw); go_simp
      try with_reducible rfl
    rotate_left
    try simp only [List.getElem_toArray, List.getElem_cons_succ, List.getElem_cons_zero, Act.put, List.setIfInBounds_toArray, List.set_cons_zero, List.set_cons_succ]
    refine wpAnyH_take (i := 3) (v := ?_) rfl (by kernel_rfl) (by kernel_rfl) (by kernel_rfl) (fun _ _ _ h => h) (Or.inl ⟨by rfl, ?_⟩) (by assumption) ?_
    rotate_left
    · intro w hSw; (try dsimp only at hSw); go_simp
      try with_reducible rfl
    rotate_left
    try simp only [List.getElem_toArray, List.getElem_cons_succ, List.getElem_cons_zero, Act.put, List.setIfInBounds_toArray, List.set_cons_zero, List.set_cons_succ]
    refine wpAnyH_take (i := 5) (v := ?_) rfl (by kernel_rfl) (by kernel_rfl) (by kernel_rfl) (fun _ _ _ h => h) (Or.inl ⟨by rfl, ?_⟩) (by assumption) ?_
    rotate_left
    · intro w hSw; (try dsimp only at hSw); go_simp
      try with_reducible rfl
    rotate_left
    try simp only [List.getElem_toArray, List.getElem_cons_succ, List.getElem_cons_zero, Act.put, List.setIfInBounds_toArray, List.set_cons_zero, List.set_cons_succ]
    refine wpAnyH_take (i := 6) (v := ?_) rfl (by kernel_rfl) (by kernel_rfl) (by kernel_rfl) (fun _ _ _ h => h) (Or.inl ⟨by rfl, ?_⟩) (by assumption) ?_
    rotate_left
    · intro w hSw; (try dsimp only at hSw); go_simp
      try with_reducible rfl
    rotate_left
    try simp only [List.getElem_toArray, List.getElem_cons_succ, List.getElem_cons_zero, Act.put, List.setIfInBounds_toArray, List.set_cons_zero, List.set_cons_succ]
    refine wpAnyH_take (i := 9) (v := ?_) rfl (by kernel_rfl) (by kernel_rfl) (by kernel_rfl) (fun _ _ _ h => h) (Or.inl ⟨by rfl, ?_⟩) (by assumption) ?_
    rotate_left
    · intro w hSw; (try dsimp only at hSw); go_simp
      try with_reducible rfl
    rotate_left
    try simp only [List.getElem_toArray, List.getElem_cons_succ, List.getElem_cons_zero, Act.put, List.setIfInBounds_toArray, List.set_cons_zero, List.set_cons_succ]
    refine wpAnyH_ready (rs := [2]) (by kernel_rfl) (by simp) ?_
    refine AllReadyH.cons rfl (fun K hK => ?_) AllReadyH.nil
    go_simp
    refine Calls.mono (H6ab.out _) ?_
    rintro e w2 ⟨rfl, hw2⟩
    have hzs := s_.out.1
    have hB : Below w.heap.size w w2 := Below.trans (by go_grown) (hw2.mono (by go_size))
    have s_ : Hid _ := keepWs s_.out (by go_grown) hw2
    have hs0 := hB.size
    clear hw2 hzs
    go_wp2_with fail
    refine hK.out _ _ ?_ (fun hHeld => ?_)
    · exact s_.out
    clear hK K
    try simp only [List.getElem_toArray, List.getElem_cons_succ, List.getElem_cons_zero, Act.put, List.setIfInBounds_toArray, List.set_cons_zero, List.set_cons_succ]
    refine wpAnyH_ready (rs := [4]) (by kernel_rfl) (by simp) ?_
    refine AllReadyH.cons rfl (fun K hK => ?_) AllReadyH.nil
    go_simp
    refine Calls.mono (H5qb.out _) ?_
    rintro e w2 ⟨rfl, hw2⟩
    have hzs := s_.out.1
    have hB : Below w.heap.size w w2 := Below.trans (by go_grown) (hw2.mono (by go_size))
    have s_ : Hid _ := keepWs s_.out (by go_grown) hw2
    have hs0 := hB.size
    clear hw2 hzs
    go_wp2_with fail
    refine hK.out _ _ ?_ (fun hHeld => ?_)
    · exact s_.out
    clear hK K
    try simp only [List.getElem_toArray, List.getElem_cons_succ, List.getElem_cons_zero, Act.put, List.setIfInBounds_toArray, List.set_cons_zero, List.set_cons_succ]
    refine wpAnyH_ready (rs := [7]) (by kernel_rfl) (by simp) ?_
    refine AllReadyH.cons rfl (fun K hK => ?_) AllReadyH.nil
    go_simp
    refine Calls.mono (H7ab.out _) ?_
    rintro e w2 ⟨rfl, hw2⟩
    have hzs := s_.out.1
    have hB : Below w.heap.size w w2 := Below.trans (by go_grown) (hw2.mono (by go_size))
    have s_ : Hid _ := keepWs s_.out (by go_grown) hw2
    have hs0 := hB.size
    clear hw2 hzs
    go_wp2_with fail
    refine hK.out _ _ ?_ (fun hHeld => ?_)
    · exact s_.out
    clear hK K
    try simp only [List.getElem_toArray, List.getElem_cons_succ, List.getElem_cons_zero, Act.put, List.setIfInBounds_toArray, List.set_cons_zero, List.set_cons_succ]
    refine wpAnyH_ready (rs := [8]) (by kernel_rfl) (by simp) ?_
    refine AllReadyH.cons rfl (fun K hK => ?_) AllReadyH.nil
    go_simp
    refine Calls.mono (H4tr.out _) ?_
    rintro e w2 ⟨rfl, hw2⟩
    have hzs := s_.out.1
    have hB : Below w.heap.size w w2 := Below.trans (by go_grown) (hw2.mono (by go_size))
    have s_ : Hid _ := keepWs s_.out (by go_grown) hw2
    have hs0 := hB.size
    clear hw2 hzs
    go_wp2_with fail
    refine hK.out _ _ ?_ (fun hHeld => ?_)
    · exact s_.out
    clear hK K
    try simp only [List.getElem_toArray, List.getElem_cons_succ, List.getElem_cons_zero, Act.put, List.setIfInBounds_toArray, List.set_cons_zero, List.set_cons_succ]
    refine wpAnyH_take (i := 10) (v := ?_) rfl (by kernel_rfl) (by kernel_rfl) (by kernel_rfl) (fun _ _ _ h => h) (Or.inl ⟨by rfl, ?_⟩) (by assumption) ?_
    rotate_left
    · intro w hSw; (try dsimp only at hSw); go_simp
      try with_reducible rfl
    rotate_left
    try simp only [List.getElem_toArray, List.getElem_cons_succ, List.getElem_cons_zero, Act.put, List.setIfInBounds_toArray, List.set_cons_zero, List.set_cons_succ]
    refine wpAnyH_take (i := 11) (v := ?_) rfl (by kernel_rfl) (by kernel_rfl) (by kernel_rfl) (fun _ _ _ h => h) (Or.inl ⟨by rfl, ?_⟩) (by assumption) ?_
    rotate_left
    · intro w hSw; (try dsimp only at hSw); go_simp
      try with_reducible rfl
    rotate_left
    try simp only [List.getElem_toArray, List.getElem_cons_succ, List.getElem_cons_zero, Act.put, List.setIfInBounds_toArray, List.set_cons_zero, List.set_cons_succ]
    refine wpAnyH_take (i := 12) (v := undef) rfl (by kernel_rfl) (by kernel_rfl) (by kernel_rfl) (fun _ _ _ h => h) (Or.inr ⟨by rfl, rfl⟩) (by assumption) ?_
    try simp only [List.getElem_toArray, List.getElem_cons_succ, List.getElem_cons_zero, Act.put, List.setIfInBounds_toArray, List.set_cons_zero, List.set_cons_succ]
    refine wpAnyH_take (i := 13) (v := undef) rfl (by kernel_rfl) (by kernel_rfl) (by kernel_rfl) (fun _ _ _ h => h) (Or.inr ⟨by rfl, rfl⟩) (by assumption) ?_
    try simp only [List.getElem_toArray, List.getElem_cons_succ, List.getElem_cons_zero, Act.put, List.setIfInBounds_toArray, List.set_cons_zero, List.set_cons_succ]
    refine wpAnyH_take (i := 14) (v := undef) rfl (by kernel_rfl) (by kernel_rfl) (by kernel_rfl) (fun _ _ _ h => h) (Or.inr ⟨by rfl, rfl⟩) (by assumption) ?_
    try simp only [List.getElem_toArray, List.getElem_cons_succ, List.getElem_cons_zero, Act.put, List.setIfInBounds_toArray, List.set_cons_zero, List.set_cons_succ]
    refine wpAnyH_take (i := 15) (v := ?_) rfl (by kernel_rfl) (by kernel_rfl) (by kernel_rfl) (fun _ _ _ h => h) (Or.inl ⟨by rfl, ?_⟩) (by assumption) ?_
    rotate_left
    · intro w hSw; (try dsimp only at hSw); go_simp
      try with_reducible rfl
    rotate_left
    try simp only [List.getElem_toArray, List.getElem_cons_succ, List.getElem_cons_zero, Act.put, List.setIfInBounds_toArray, List.set_cons_zero, List.set_cons_succ]
    refine wpAnyH_done (by kernel_rfl) ?_ _
    refine NoPanic.normal ?_
    go_wp2_with fail
    refine wp_region_noPanic ?_
    refine wp_region_held_drew (S := fun w' => w.heap.size + 1 < w'.heap.size ∧ w'.cell? ⟨w.heap.size, 0, none⟩ = some (.int .u64 a0) ∧ w'.cell? ⟨w.heap.size, 1, none⟩ = some (.int .u64 a1) ∧ w'.cell? ⟨w.heap.size, 2, none⟩ = some (.int .u64 a2) ∧ w'.cell? ⟨w.heap.size, 3, none⟩ = some (.int .u64 a3) ∧ w'.cell? ⟨w.heap.size + 1, 0, none⟩ = some (.int .u64 b0) ∧ w'.cell? ⟨w.heap.size + 1, 1, none⟩ = some (.int .u64 b1) ∧ w'.cell? ⟨w.heap.size + 1, 2, none⟩ = some (.int .u64 b2) ∧ w'.cell? ⟨w.heap.size + 1, 3, none⟩ = some (.int .u64 b3)) (by kernel_rfl) ?_ (fun hHeld => ?_)
    · exact keepW s_.out (by go_grown)
    refine wpAnyH_take (i := 0) (v := ?_) rfl (by kernel_rfl) (by kernel_rfl) (by kernel_rfl) (fun _ _ _ h => h) (Or.inl ⟨by rfl, ?_⟩) (by assumption) ?_
    rotate_left
    · intro w hSw; (try dsimp only at hSw); go_simp
      try with_reducible rfl
    rotate_left
    try simp only [List.getElem_toArray, List.getElem_cons_succ, List.getElem_cons_zero, Act.put, List.setIfInBounds_toArray, List.set_cons_zero, List.set_cons_succ]
    refine wpAnyH_take (i := 1) (v := ?_) rfl (by kernel_rfl) (by kernel_rfl) (by kernel_rfl) (fun _ _ _ h => h) (Or.inl ⟨by rfl, ?_⟩) (by assumption) ?_
    rotate_left
    · intro w hSw; (try dsimp only at hSw); go_simp
      try with_reducible rfl
    rotate_left
    try simp only [List.getElem_toArray, List.getElem_cons_succ, List.getElem_cons_zero, Act.put, List.setIfInBounds_toArray, List.set_cons_zero, List.set_cons_succ]
    refine wpAnyH_take (i := 3) (v := ?_) rfl (by kernel_rfl) (by kernel_rfl) (by kernel_rfl) (fun _ _ _ h => h) (Or.inl ⟨by rfl, ?_⟩) (by assumption) ?_
    rotate_left
    · intro w hSw; (try dsimp only at hSw); go_simp
      try with_reducible rfl
    rotate_left
    try simp only [List.getElem_toArray, List.getElem_cons_succ, List.getElem_cons_zero, Act.put, List.setIfInBounds_toArray, List.set_cons_zero, List.set_cons_succ]
    refine wpAnyH_take (i := 5) (v := ?_) rfl (by kernel_rfl) (by kernel_rfl) (by kernel_rfl) (fun _ _ _ h => h) (Or.inl ⟨by rfl, ?_⟩) (by assumption) ?_
    rotate_left
    · intro w hSw; (try dsimp only at hSw); go_simp
      try with_reducible rfl
    rotate_left
    try simp only [List.getElem_toArray, List.getElem_cons_succ, List.getElem_cons_zero, Act.put, List.setIfInBounds_toArray, List.set_cons_zero, List.set_cons_succ]
    refine wpAnyH_take (i := 6) (v := ?_) rfl (by kernel_rfl) (by kernel_rfl) (by kernel_rfl) (fun _ _ _ h => h) (Or.inl ⟨by rfl, ?_⟩) (by assumption) ?_
    rotate_left
    · intro w hSw; (try dsimp only at hSw); go_simp
      try with_reducible rfl
    rotate_left
    try simp only [List.getElem_toArray, List.getElem_cons_succ, List.getElem_cons_zero, Act.put, List.setIfInBounds_toArray, List.set_cons_zero, List.set_cons_succ]
    refine wpAnyH_take (i := 9) (v := ?_) rfl (by kernel_rfl) (by kernel_rfl) (by kernel_rfl) (fun _ _ _ h => h) (Or.inl ⟨by rfl, ?_⟩) (by assumption) ?_
    rotate_left
    · intro w hSw; (try dsimp only at hSw); go_simp
      try with_reducible rfl
    rotate_left
    try simp only [List.getElem_toArray, List.getElem_cons_succ, List.getElem_cons_zero, Act.put, List.setIfInBounds_toArray, List.set_cons_zero, List.set_cons_succ]
    refine wpAnyH_ready (rs := [2]) (by kernel_rfl) (by simp) ?_
    refine AllReadyH.cons rfl (fun K hK => ?_) AllReadyH.nil
    go_simp
    refine Calls.mono (H9ab.out _) ?_
    rintro e w2 ⟨rfl, hw2⟩
    have hzs := s_.out.1
    have hB : Below w.heap.size w w2 := Below.trans (by go_grown) (hw2.mono (by go_size))
    have s_ : Hid _ := keepWs s_.out (by go_grown) hw2
    have hs0 := hB.size
    clear hw2 hzs
    go_wp2_with fail
    refine hK.out _ _ ?_ (fun hHeld => ?_)
    · exact s_.out
    clear hK K
    try simp only [List.getElem_toArray, List.getElem_cons_succ, List.getElem_cons_zero, Act.put, List.setIfInBounds_toArray, List.set_cons_zero, List.set_cons_succ]
    refine wpAnyH_ready (rs := [4]) (by kernel_rfl) (by simp) ?_
    refine AllReadyH.cons rfl (fun K hK => ?_) AllReadyH.nil
    go_simp
    refine Calls.mono (H5Qb.out _) ?_
    rintro e w2 ⟨rfl, hw2⟩
    have hzs := s_.out.1
    have hB : Below w.heap.size w w2 := Below.trans (by go_grown) (hw2.mono (by go_size))
    have s_ : Hid _ := keepWs s_.out (by go_grown) hw2
    have hs0 := hB.size
    clear hw2 hzs
    go_wp2_with fail
    refine hK.out _ _ ?_ (fun hHeld => ?_)
    · exact s_.out
    clear hK K
    try simp only [List.getElem_toArray, List.getElem_cons_succ, List.getElem_cons_zero, Act.put, List.setIfInBounds_toArray, List.set_cons_zero, List.set_cons_succ]
    refine wpAnyH_ready (rs := [7]) (by kernel_rfl) (by simp) ?_
    refine AllReadyH.cons rfl (fun K hK => ?_) AllReadyH.nil
    go_simp
    refine Calls.mono (H10ab.out _) ?_
    rintro e w2 ⟨rfl, hw2⟩
    have hzs := s_.out.1
    have hB : Below w.heap.size w w2 := Below.trans (by go_grown) (hw2.mono (by go_size))
    have s_ : Hid _ := keepWs s_.out (by go_grown) hw2
    have hs0 := hB.size
    clear hw2 hzs
    go_wp2_with fail
    refine hK.out _ _ ?_ (fun hHeld => ?_)
    · exact s_.out
    clear hK K
    try simp only [List.getElem_toArray, List.getElem_cons_succ, List.getElem_cons_zero, Act.put, List.setIfInBounds_toArray, List.set_cons_zero, List.set_cons_succ]
    refine wpAnyH_ready (rs := [8]) (by kernel_rfl) (by simp) ?_
    refine AllReadyH.cons rfl (fun K hK => ?_) AllReadyH.nil
    go_simp
    refine Calls.mono (H4UR.out _) ?_
    rintro e w2 ⟨rfl, hw2⟩
    have hzs := s_.out.1
    have hB : Below w.heap.size w w2 := Below.trans (by go_grown) (hw2.mono (by go_size))
    have s_ : Hid _ := keepWs s_.out (by go_grown) hw2
    have hs0 := hB.size
    clear hw2 hzs
    go_wp2_with fail
    refine hK.out _ _ ?_ (fun hHeld => ?_)
    · exact s_.out
    clear hK K
    try simp only [List.getElem_toArray, List.getElem_cons_succ, List.getElem_cons_zero, Act.put, List.setIfInBounds_toArray, List.set_cons_zero, List.set_cons_succ]
    refine wpAnyH_take (i := 10) (v := ?_) rfl (by kernel_rfl) (by kernel_rfl) (by kernel_rfl) (fun _ _ _ h => h) (Or.inl ⟨by rfl, ?_⟩) (by assumption) ?_
    rotate_left
    · intro w hSw; (try dsimp only at hSw); go_simp
      try with_reducible rfl
    rotate_left
    try simp only [List.getElem_toArray, List.getElem_cons_succ, List.getElem_cons_zero, Act.put, List.setIfInBounds_toArray, List.set_cons_zero, List.set_cons_succ]
    refine wpAnyH_take (i := 11) (v := ?_) rfl (by kernel_rfl) (by kernel_rfl) (by kernel_rfl) (fun _ _ _ h => h) (Or.inl ⟨by rfl, ?_⟩) (by assumption) ?_
    rotate_left
    · intro w hSw; (try dsimp only at hSw); go_simp
      try with_reducible rfl
    rotate_left
    try simp only [List.getElem_toArray, List.getElem_cons_succ, List.getElem_cons_zero, Act.put, List.setIfInBounds_toArray, List.set_cons_zero, List.set_cons_succ]
    refine wpAnyH_take (i := 12) (v := undef) rfl (by kernel_rfl) (by kernel_rfl) (by kernel_rfl) (fun _ _ _ h => h) (Or.inr ⟨by rfl, rfl⟩) (by assumption) ?_
    try simp only [List.getElem_toArray, List.getElem_cons_succ, List.getElem_cons_zero, Act.put, List.setIfInBounds_toArray, List.set_cons_zero, List.set_cons_succ]
    refine wpAnyH_take (i := 13) (v := undef) rfl (by kernel_rfl) (by kernel_rfl) (by kernel_rfl) (fun _ _ _ h => h) (Or.inr ⟨by rfl, rfl⟩) (by assumption) ?_
    try simp only [List.getElem_toArray, List.getElem_cons_succ, List.getElem_cons_zero, Act.put, List.setIfInBounds_toArray, List.set_cons_zero, List.set_cons_succ]
    refine wpAnyH_take (i := 14) (v := undef) rfl (by kernel_rfl) (by kernel_rfl) (by kernel_rfl) (fun _ _ _ h => h) (Or.inr ⟨by rfl, rfl⟩) (by assumption) ?_
    try simp only [List.getElem_toArray, List.getElem_cons_succ, List.getElem_cons_zero, Act.put, List.setIfInBounds_toArray, List.set_cons_zero, List.set_cons_succ]
    refine wpAnyH_take (i := 15) (v := ?_) rfl (by kernel_rfl) (by kernel_rfl) (by kernel_rfl) (fun _ _ _ h => h) (Or.inl ⟨by rfl, ?_⟩) (by assumption) ?_
    rotate_left
    · intro w hSw; (try dsimp only at hSw); go_simp
      try with_reducible rfl
    rotate_left
    try simp only [List.getElem_toArray, List.getElem_cons_succ, List.getElem_cons_zero, Act.put, List.setIfInBounds_toArray, List.set_cons_zero, List.set_cons_succ]
    refine wpAnyH_done (by kernel_rfl) ?_ _
    refine NoPanic.normal ?_
    go_wp2_with fail
    refine wp_region_noPanic ?_
    refine wp_region_held_drew (S := fun w' => w.heap.size + 1 < w'.heap.size ∧ w'.cell? ⟨w.heap.size, 0, none⟩ = some (.int .u64 a0) ∧ w'.cell? ⟨w.heap.size, 1, none⟩ = some (.int .u64 a1) ∧ w'.cell? ⟨w.heap.size, 2, none⟩ = some (.int .u64 a2) ∧ w'.cell? ⟨w.heap.size, 3, none⟩ = some (.int .u64 a3) ∧ w'.cell? ⟨w.heap.size + 1, 0, none⟩ = some (.int .u64 b0) ∧ w'.cell? ⟨w.heap.size + 1, 1, none⟩ = some (.int .u64 b1) ∧ w'.cell? ⟨w.heap.size + 1, 2, none⟩ = some (.int .u64 b2) ∧ w'.cell? ⟨w.heap.size + 1, 3, none⟩ = some (.int .u64 b3)) (by kernel_rfl) ?_ (fun hHeld => ?_)
    · exact keepW s_.out (by go_grown)
    refine wpAnyH_take (i := 0) (v := ?_) rfl (by kernel_rfl) (by kernel_rfl) (by kernel_rfl) (fun _ _ _ h => h) (Or.inl ⟨by rfl, ?_⟩) (by assumption) ?_
    rotate_left
    · intro w hSw; (try dsimp only at hSw); go_simp
      try with_reducible rfl
    rotate_left
    try simp only [List.getElem_toArray, List.getElem_cons_succ, List.getElem_cons_zero, Act.put, List.setIfInBounds_toArray, List.set_cons_zero, List.set_cons_succ]
    refine wpAnyH_take (i := 1) (v := ?_) rfl (by kernel_rfl) (by kernel_rfl) (by kernel_rfl) (fun _ _ _ h => h) (Or.inl ⟨by rfl, ?_⟩) (by assumption) ?_
    rotate_left
    · intro w hSw; (try dsimp only at hSw); go_simp
      try with_reducible rfl
    rotate_left
    try simp only [List.getElem_toArray, List.getElem_cons_succ, List.getElem_cons_zero, Act.put, List.setIfInBounds_toArray, List.set_cons_zero, List.set_cons_succ]
    refine wpAnyH_take (i := 3) (v := ?_) rfl (by kernel_rfl) (by kernel_rfl) (by kernel_rfl) (fun _ _ _ h => h) (Or.inl ⟨by rfl, ?_⟩) (by assumption) ?_
    rotate_left
    · intro w hSw; (try dsimp only at hSw); go_simp
      try with_reducible rfl
    rotate_left
    try simp only [List.getElem_toArray, List.getElem_cons_succ, List.getElem_cons_zero, Act.put, List.setIfInBounds_toArray, List.set_cons_zero, List.set_cons_succ]
    refine wpAnyH_ready (rs := [2]) (by kernel_rfl) (by simp) ?_
    refine AllReadyH.cons rfl (fun K hK => ?_) AllReadyH.nil
    go_simp
    refine Calls.mono (H7ab.out _) ?_
    rintro e w2 ⟨rfl, hw2⟩
    have hzs := s_.out.1
    have hB : Below w.heap.size w w2 := Below.trans (by go_grown) (hw2.mono (by go_size))
    have s_ : Hid _ := keepWs s_.out (by go_grown) hw2
    have hs0 := hB.size
    clear hw2 hzs
    go_wp2_with fail
    refine hK.out _ _ ?_ (fun hHeld => ?_)
    · exact s_.out
    clear hK K
    try simp only [List.getElem_toArray, List.getElem_cons_succ, List.getElem_cons_zero, Act.put, List.setIfInBounds_toArray, List.set_cons_zero, List.set_cons_succ]
    refine wpAnyH_ready (rs := [4]) (by kernel_rfl) (by simp) ?_
    refine AllReadyH.cons rfl (fun K hK => ?_) AllReadyH.nil
    go_simp
    refine Calls.mono (HC.out _) ?_
    rintro e w2 ⟨rfl, hw2⟩
    have hzs := s_.out.1
    have hB : Below w.heap.size w w2 := Below.trans (by go_grown) (hw2.mono (by go_size))
    have s_ : Hid _ := keepWs s_.out (by go_grown) hw2
    have hs0 := hB.size
    clear hw2 hzs
    go_wp2_with fail
    refine hK.out _ _ ?_ (fun hHeld => ?_)
    · exact s_.out
    clear hK K
    try simp only [List.getElem_toArray, List.getElem_cons_succ, List.getElem_cons_zero, Act.put, List.setIfInBounds_toArray, List.set_cons_zero, List.set_cons_succ]
    refine wpAnyH_take (i := 5) (v := ?_) rfl (by kernel_rfl) (by kernel_rfl) (by kernel_rfl) (fun _ _ _ h => h) (Or.inl ⟨by rfl, ?_⟩) (by assumption) ?_
    rotate_left
    · intro w hSw; (try dsimp only at hSw); go_simp
      try with_reducible rfl
    rotate_left
    try simp only [List.getElem_toArray, List.getElem_cons_succ, List.getElem_cons_zero, Act.put, List.setIfInBounds_toArray, List.set_cons_zero, List.set_cons_succ]
    refine wpAnyH_take (i := 6) (v := ?_) rfl (by kernel_rfl) (by kernel_rfl) (by kernel_rfl) (fun _ _ _ h => h) (Or.inl ⟨by rfl, ?_⟩) (by assumption) ?_
    rotate_left
    · intro w hSw; (try dsimp only at hSw); go_simp
      try with_reducible rfl
    rotate_left
    try simp only [List.getElem_toArray, List.getElem_cons_succ, List.getElem_cons_zero, Act.put, List.setIfInBounds_toArray, List.set_cons_zero, List.set_cons_succ]
    refine wpAnyH_take (i := 7) (v := undef) rfl (by kernel_rfl) (by kernel_rfl) (by kernel_rfl) (fun _ _ _ h => h) (Or.inr ⟨by rfl, rfl⟩) (by assumption) ?_
    try simp only [List.getElem_toArray, List.getElem_cons_succ, List.getElem_cons_zero, Act.put, List.setIfInBounds_toArray, List.set_cons_zero, List.set_cons_succ]
    refine wpAnyH_take (i := 8) (v := undef) rfl (by kernel_rfl) (by kernel_rfl) (by kernel_rfl) (fun _ _ _ h => h) (Or.inr ⟨by rfl, rfl⟩) (by assumption) ?_
    try simp only [List.getElem_toArray, List.getElem_cons_succ, List.getElem_cons_zero, Act.put, List.setIfInBounds_toArray, List.set_cons_zero, List.set_cons_succ]
    refine wpAnyH_take (i := 9) (v := undef) rfl (by kernel_rfl) (by kernel_rfl) (by kernel_rfl) (fun _ _ _ h => h) (Or.inr ⟨by rfl, rfl⟩) (by assumption) ?_
    try simp only [List.getElem_toArray, List.getElem_cons_succ, List.getElem_cons_zero, Act.put, List.setIfInBounds_toArray, List.set_cons_zero, List.set_cons_succ]
    refine wpAnyH_take (i := 10) (v := ?_) rfl (by kernel_rfl) (by kernel_rfl) (by kernel_rfl) (fun _ _ _ h => h) (Or.inl ⟨by rfl, ?_⟩) (by assumption) ?_
    rotate_left
    · intro w hSw; (try dsimp only at hSw); go_simp
      try with_reducible rfl
    rotate_left
    try simp only [List.getElem_toArray, List.getElem_cons_succ, List.getElem_cons_zero, Act.put, List.setIfInBounds_toArray, List.set_cons_zero, List.set_cons_succ]
    refine wpAnyH_done (by kernel_rfl) ?_ _
    refine NoPanic.normal ?_
    go_wp2_with fail
    have KA : Hid (Cel (w2.alloc (.cells #[.int .u64 n, .int .u64 0, .int .u64 0, .int .u64 0] 24)) w.heap.size a0 a1 a2 a3) := Cel.onto ⟨by (have := s_.out.1; omega), s_.out.2.1, s_.out.2.2.1, s_.out.2.2.2.1, s_.out.2.2.2.2.1⟩ _
    have KK : Hid (Cel (w2.alloc (.cells #[.int .u64 n, .int .u64 0, .int .u64 0, .int .u64 0] 24)) w2.heap.size n 0 0 0) := by refine ⟨by simp, ?_, ?_, ?_, ?_⟩ <;> simp [go_sem]
    have hB : Below w.heap.size w (w2.alloc (.cells #[.int .u64 n, .int .u64 0, .int .u64 0, .int .u64 0] 24)) := hB.alloc hB.size _
    clear s_
    generalize w2.heap.size = c1 at *
    generalize w2.alloc (.cells #[.int .u64 n, .int .u64 0, .int .u64 0, .int .u64 0] 24) = w3 at *
    refine Calls.mono (H12twok.out _) ?_
    rintro e w4 ⟨rfl, hw⟩
    have KA : Hid _ := Cel.on KA.out (by rfl) hw
    have KK : Hid _ := Cel.on KK.out (by rfl) hw
    have hB : Below w.heap.size w w4 := hB.trans (hw.mono hB.size)
    clear hw
    obtain ⟨zA, A0_, A1_, A2_, A3_⟩ := KA.out
    go_wp2_with fail
    have KA : Hid (Cel (w4.alloc (.cells #[.int .u64 p0, .int .u64 p1, .int .u64 p2, .int .u64 p3] 24)) w.heap.size a0 a1 a2 a3) := Cel.onto KA.out _
    have KK : Hid (Cel (w4.alloc (.cells #[.int .u64 p0, .int .u64 p1, .int .u64 p2, .int .u64 p3] 24)) c1 n 0 0 0) := Cel.onto KK.out _
    have KP : Hid (Cel (w4.alloc (.cells #[.int .u64 p0, .int .u64 p1, .int .u64 p2, .int .u64 p3] 24)) w4.heap.size p0 p1 p2 p3) := by refine ⟨by simp, ?_, ?_, ?_, ?_⟩ <;> simp [go_sem]
    have hB : Below w.heap.size w (w4.alloc (.cells #[.int .u64 p0, .int .u64 p1, .int .u64 p2, .int .u64 p3] 24)) := hB.alloc hB.size _
    clear zA A0_ A1_ A2_ A3_
    generalize w4.heap.size = c2 at *
    generalize w4.alloc (.cells #[.int .u64 p0, .int .u64 p1, .int .u64 p2, .int .u64 p3] 24) = w5 at *
    refine Calls.mono (HSh.out _) ?_
    rintro e w6 ⟨xv, rfl, NX, hw⟩
    have KA : Hid _ := Cel.on KA.out (by rfl) hw
    have KK : Hid _ := Cel.on KK.out (by rfl) hw
    have KP : Hid _ := Cel.on KP.out (by rfl) hw
    have hB : Below w.heap.size w w6 := hB.trans (hw.mono hB.size)
    clear hw
    go_wp2_with fail
    refine Calls.mono (HRd.out _ _ NX) ?_
    rintro e w7 ⟨rfl, hw⟩
    have KA : Hid _ := Cel.on KA.out (by rfl) hw
    have KK : Hid _ := Cel.on KK.out (by rfl) hw
    have KP : Hid _ := Cel.on KP.out (by rfl) hw
    have hB : Below w.heap.size w w7 := hB.trans (hw.mono hB.size)
    clear hw NX
    go_wp2_with fail
    have KA : Hid (Cel (w7.alloc (.cells #[.int .u64 a0, .int .u64 a1, .int .u64 a2, .int .u64 a3] 24)) w.heap.size a0 a1 a2 a3) := Cel.onto KA.out _
    have KK : Hid (Cel (w7.alloc (.cells #[.int .u64 a0, .int .u64 a1, .int .u64 a2, .int .u64 a3] 24)) c1 n 0 0 0) := Cel.onto KK.out _
    have KP : Hid (Cel (w7.alloc (.cells #[.int .u64 a0, .int .u64 a1, .int .u64 a2, .int .u64 a3] 24)) c2 p0 p1 p2 p3) := Cel.onto KP.out _
    have KX : Hid (Cel (w7.alloc (.cells #[.int .u64 a0, .int .u64 a1, .int .u64 a2, .int .u64 a3] 24)) w7.heap.size a0 a1 a2 a3) := by refine ⟨by simp, ?_, ?_, ?_, ?_⟩ <;> simp [go_sem]
    have hB : Below w.heap.size w (w7.alloc (.cells #[.int .u64 a0, .int .u64 a1, .int .u64 a2, .int .u64 a3] 24)) := hB.alloc hB.size _
    generalize w7.heap.size = c3 at *
    generalize w7.alloc (.cells #[.int .u64 a0, .int .u64 a1, .int .u64 a2, .int .u64 a3] 24) = w8 at *
    have hs0 := hB.size
    have s_ : Hid (w.heap.size < w8.heap.size ∧ c1 < w8.heap.size ∧ c2 < w8.heap.size ∧ c3 < w8.heap.size ∧ w8.cell? ⟨w.heap.size, 0, none⟩ = some (.int .u64 a0) ∧ w8.cell? ⟨w.heap.size, 1, none⟩ = some (.int .u64 a1) ∧ w8.cell? ⟨w.heap.size, 2, none⟩ = some (.int .u64 a2) ∧ w8.cell? ⟨w.heap.size, 3, none⟩ = some (.int .u64 a3) ∧ w8.cell? ⟨c1, 0, none⟩ = some (.int .u64 n) ∧ w8.cell? ⟨c1, 1, none⟩ = some (.int .u64 0) ∧ w8.cell? ⟨c1, 2, none⟩ = some (.int .u64 0) ∧ w8.cell? ⟨c1, 3, none⟩ = some (.int .u64 0) ∧ w8.cell? ⟨c2, 0, none⟩ = some (.int .u64 p0) ∧ w8.cell? ⟨c2, 1, none⟩ = some (.int .u64 p1) ∧ w8.cell? ⟨c2, 2, none⟩ = some (.int .u64 p2) ∧ w8.cell? ⟨c2, 3, none⟩ = some (.int .u64 p3) ∧ w8.cell? ⟨c3, 0, none⟩ = some (.int .u64 a0) ∧ w8.cell? ⟨c3, 1, none⟩ = some (.int .u64 a1) ∧ w8.cell? ⟨c3, 2, none⟩ = some (.int .u64 a2) ∧ w8.cell? ⟨c3, 3, none⟩ = some (.int .u64 a3)) := by
      obtain ⟨zA, A0_, A1_, A2_, A3_⟩ := KA.out
      obtain ⟨zK, K0_, K1_, K2_, K3_⟩ := KK.out
      obtain ⟨zP, P0_, P1_, P2_, P3_⟩ := KP.out
      obtain ⟨zX, X0_, X1_, X2_, X3_⟩ := KX.out
      exact ⟨zA, zK, zP, zX, A0_, A1_, A2_, A3_, K0_, K1_, K2_, K3_, P0_, P1_, P2_, P3_, X0_, X1_, X2_, X3_⟩
    clear KA KK KP KX
    go_region_held3 (fun w' => w.heap.size < w'.heap.size ∧ c1 < w'.heap.size ∧ c2 < w'.heap.size ∧ c3 < w'.heap.size ∧ w'.cell? ⟨w.heap.size, 0, none⟩ = some (.int .u64 a0) ∧ w'.cell? ⟨w.heap.size, 1, none⟩ = some (.int .u64 a1) ∧ w'.cell? ⟨w.heap.size, 2, none⟩ = some (.int .u64 a2) ∧ w'.cell? ⟨w.heap.size, 3, none⟩ = some (.int .u64 a3) ∧ w'.cell? ⟨c1, 0, none⟩ = some (.int .u64 n) ∧ w'.cell? ⟨c1, 1, none⟩ = some (.int .u64 0) ∧ w'.cell? ⟨c1, 2, none⟩ = some (.int .u64 0) ∧ w'.cell? ⟨c1, 3, none⟩ = some (.int .u64 0) ∧ w'.cell? ⟨c2, 0, none⟩ = some (.int .u64 p0) ∧ w'.cell? ⟨c2, 1, none⟩ = some (.int .u64 p1) ∧ w'.cell? ⟨c2, 2, none⟩ = some (.int .u64 p2) ∧ w'.cell? ⟨c2, 3, none⟩ = some (.int .u64 p3) ∧ w'.cell? ⟨c3, 0, none⟩ = some (.int .u64 a0) ∧ w'.cell? ⟨c3, 1, none⟩ = some (.int .u64 a1) ∧ w'.cell? ⟨c3, 2, none⟩ = some (.int .u64 a2) ∧ w'.cell? ⟨c3, 3, none⟩ = some (.int .u64 a3)) ((refine keepK s_.out ?_; go_grown; done)) (first | (go_at_call_of 15 ([Value.agg #[Value.int .u64 n, Value.int .u64 0, Value.int .u64 0, Value.int .u64 0], Value.agg #[Value.int .u64 a0, Value.int .u64 a1, Value.int .u64 a2, Value.int .u64 a3]]); go_must (refine Calls.mono (H15ka.out _) ?_; rintro e w2 ⟨rfl, hw2⟩; have hs0 := hB.size; have hB : Below w.heap.size w w2 := Below.trans (by go_grown) (hw2.mono (by go_size)); have s_ : Hid _ := keepKs s_.out (by go_grown) hw2; have hs0 := hB.size; clear hw2)) | (go_at_call_of 5 ([Value.agg #[Value.int .u64 a0, Value.int .u64 a1, Value.int .u64 a2, Value.int .u64 a3], Value.agg #[Value.int .u64 p0, Value.int .u64 p1, Value.int .u64 p2, Value.int .u64 p3]]); go_must (refine Calls.mono (H5ap.out _) ?_; rintro e w2 ⟨rfl, hw2⟩; have hs0 := hB.size; have hB : Below w.heap.size w w2 := Below.trans (by go_grown) (hw2.mono (by go_size)); have s_ : Hid _ := keepKs s_.out (by go_grown) hw2; have hs0 := hB.size; clear hw2)) | (go_at_call_of 16 ([Value.agg #[Value.int .u64 n, Value.int .u64 0, Value.int .u64 0, Value.int .u64 0], Value.agg #[Value.int .u64 a0, Value.int .u64 a1, Value.int .u64 a2, Value.int .u64 a3]]); go_must (refine Calls.mono (H16ka.out _) ?_; rintro e w2 ⟨rfl, hw2⟩; have hs0 := hB.size; have hB : Below w.heap.size w w2 := Below.trans (by go_grown) (hw2.mono (by go_size)); have s_ : Hid _ := keepKs s_.out (by go_grown) hw2; have hs0 := hB.size; clear hw2)) | (go_at_call_of 6 ([Value.agg #[Value.int .u64 a0, Value.int .u64 a1, Value.int .u64 a2, Value.int .u64 a3], Value.agg #[Value.int .u64 p0, Value.int .u64 p1, Value.int .u64 p2, Value.int .u64 p3]]); go_must (refine Calls.mono (H6ap.out _) ?_; rintro e w2 ⟨rfl, hw2⟩; have hs0 := hB.size; have hB : Below w.heap.size w w2 := Below.trans (by go_grown) (hw2.mono (by go_size)); have s_ : Hid _ := keepKs s_.out (by go_grown) hw2; have hs0 := hB.size; clear hw2)) | (go_at_call 17; go_must (refine Calls.mono (alive_any _) ?_; rintro e w2 ⟨rfl, hw2⟩; have hs0 := hB.size; have hB : Below w.heap.size w w2 := Below.trans (by go_grown) (hw2.mono (by go_size)); have s_ : Hid _ := keepKs s_.out (by go_grown) hw2; have hs0 := hB.size; clear hw2)))
    go_wp2
    go_ret
    exact ⟨rfl, by go_grown⟩

  · cases z
    · skip
      go_region_held3 (fun w' => w.heap.size + 1 < w'.heap.size ∧ w'.cell? ⟨w.heap.size, 0, none⟩ = some (.int .u64 a0) ∧ w'.cell? ⟨w.heap.size, 1, none⟩ = some (.int .u64 a1) ∧ w'.cell? ⟨w.heap.size, 2, none⟩ = some (.int .u64 a2) ∧ w'.cell? ⟨w.heap.size, 3, none⟩ = some (.int .u64 a3) ∧ w'.cell? ⟨w.heap.size + 1, 0, none⟩ = some (.int .u64 b0) ∧ w'.cell? ⟨w.heap.size + 1, 1, none⟩ = some (.int .u64 b1) ∧ w'.cell? ⟨w.heap.size + 1, 2, none⟩ = some (.int .u64 b2) ∧ w'.cell? ⟨w.heap.size + 1, 3, none⟩ = some (.int .u64 b3)) ((refine keepW s_.out ?_; go_grown; done)) (first | (go_at_call_of 6 ([Value.agg #[Value.int .u64 a0, Value.int .u64 a1, Value.int .u64 a2, Value.int .u64 a3], Value.agg #[Value.int .u64 b0, Value.int .u64 b1, Value.int .u64 b2, Value.int .u64 b3]]); go_must (refine Calls.mono (H6ab.out _) ?_; rintro e w2 ⟨rfl, hw2⟩; have hzs := s_.out.1; have hB : Below w.heap.size w w2 := Below.trans (by go_grown) (hw2.mono (by go_size)); have s_ : Hid _ := keepWs s_.out (by go_grown) hw2; have hs0 := hB.size; clear hw2 hzs)) | (go_at_call_of 5 ([Value.agg #[Value.int .u64 q0, Value.int .u64 q1, Value.int .u64 q2, Value.int .u64 q3], Value.agg #[Value.int .u64 b0, Value.int .u64 b1, Value.int .u64 b2, Value.int .u64 b3]]); go_must (refine Calls.mono (H5qb.out _) ?_; rintro e w2 ⟨rfl, hw2⟩; have hzs := s_.out.1; have hB : Below w.heap.size w w2 := Below.trans (by go_grown) (hw2.mono (by go_size)); have s_ : Hid _ := keepWs s_.out (by go_grown) hw2; have hs0 := hB.size; clear hw2 hzs)) | (go_at_call_of 7 ([Value.agg #[Value.int .u64 a0, Value.int .u64 a1, Value.int .u64 a2, Value.int .u64 a3], Value.agg #[Value.int .u64 b0, Value.int .u64 b1, Value.int .u64 b2, Value.int .u64 b3]]); go_must (refine Calls.mono (H7ab.out _) ?_; rintro e w2 ⟨rfl, hw2⟩; have hzs := s_.out.1; have hB : Below w.heap.size w w2 := Below.trans (by go_grown) (hw2.mono (by go_size)); have s_ : Hid _ := keepWs s_.out (by go_grown) hw2; have hs0 := hB.size; clear hw2 hzs)) | (go_at_call_of 4 ([Value.agg #[Value.int .u64 t0, Value.int .u64 t1, Value.int .u64 t2, Value.int .u64 t3], Value.agg #[Value.int .u64 r0, Value.int .u64 r1, Value.int .u64 r2, Value.int .u64 r3]]); go_must (refine Calls.mono (H4tr.out _) ?_; rintro e w2 ⟨rfl, hw2⟩; have hzs := s_.out.1; have hB : Below w.heap.size w w2 := Below.trans (by go_grown) (hw2.mono (by go_size)); have s_ : Hid _ := keepWs s_.out (by go_grown) hw2; have hs0 := hB.size; clear hw2 hzs)) | (go_at_call_of 9 ([Value.agg #[Value.int .u64 a0, Value.int .u64 a1, Value.int .u64 a2, Value.int .u64 a3], Value.agg #[Value.int .u64 b0, Value.int .u64 b1, Value.int .u64 b2, Value.int .u64 b3]]); go_must (refine Calls.mono (H9ab.out _) ?_; rintro e w2 ⟨rfl, hw2⟩; have hzs := s_.out.1; have hB : Below w.heap.size w w2 := Below.trans (by go_grown) (hw2.mono (by go_size)); have s_ : Hid _ := keepWs s_.out (by go_grown) hw2; have hs0 := hB.size; clear hw2 hzs)) | (go_at_call_of 5 ([Value.agg #[Value.int .u64 m0, Value.int .u64 m1, Value.int .u64 m2, Value.int .u64 m3], Value.agg #[Value.int .u64 b0, Value.int .u64 b1, Value.int .u64 b2, Value.int .u64 b3]]); go_must (refine Calls.mono (H5Qb.out _) ?_; rintro e w2 ⟨rfl, hw2⟩; have hzs := s_.out.1; have hB : Below w.heap.size w w2 := Below.trans (by go_grown) (hw2.mono (by go_size)); have s_ : Hid _ := keepWs s_.out (by go_grown) hw2; have hs0 := hB.size; clear hw2 hzs)) | (go_at_call_of 10 ([Value.agg #[Value.int .u64 a0, Value.int .u64 a1, Value.int .u64 a2, Value.int .u64 a3], Value.agg #[Value.int .u64 b0, Value.int .u64 b1, Value.int .u64 b2, Value.int .u64 b3]]); go_must (refine Calls.mono (H10ab.out _) ?_; rintro e w2 ⟨rfl, hw2⟩; have hzs := s_.out.1; have hB : Below w.heap.size w w2 := Below.trans (by go_grown) (hw2.mono (by go_size)); have s_ : Hid _ := keepWs s_.out (by go_grown) hw2; have hs0 := hB.size; clear hw2 hzs)) | (go_at_call_of 4 ([Value.agg #[Value.int .u64 u0, Value.int .u64 u1, Value.int .u64 u2, Value.int .u64 u3], Value.agg #[Value.int .u64 d0, Value.int .u64 d1, Value.int .u64 d2, Value.int .u64 d3]]); go_must (refine Calls.mono (H4UR.out _) ?_; rintro e w2 ⟨rfl, hw2⟩; have hzs := s_.out.1; have hB : Below w.heap.size w w2 := Below.trans (by go_grown) (hw2.mono (by go_size)); have s_ : Hid _ := keepWs s_.out (by go_grown) hw2; have hs0 := hB.size; clear hw2 hzs)) | (go_at_call 8; go_must (refine Calls.mono (HZ.out _) ?_; rintro e w2 ⟨rfl, hw2⟩; have hzs := s_.out.1; have hB : Below w.heap.size w w2 := Below.trans (by go_grown) (hw2.mono (by go_size)); have s_ : Hid _ := keepWs s_.out (by go_grown) hw2; have hs0 := hB.size; clear hw2 hzs)) | (go_at_call 11; go_must (refine Calls.mono (HC.out _) ?_; rintro e w2 ⟨rfl, hw2⟩; have hzs := s_.out.1; have hB : Below w.heap.size w w2 := Below.trans (by go_grown) (hw2.mono (by go_size)); have s_ : Hid _ := keepWs s_.out (by go_grown) hw2; have hs0 := hB.size; clear hw2 hzs)))
      go_wp2_with fail
      go_region_held3 (fun w' => w.heap.size + 1 < w'.heap.size ∧ w'.cell? ⟨w.heap.size, 0, none⟩ = some (.int .u64 a0) ∧ w'.cell? ⟨w.heap.size, 1, none⟩ = some (.int .u64 a1) ∧ w'.cell? ⟨w.heap.size, 2, none⟩ = some (.int .u64 a2) ∧ w'.cell? ⟨w.heap.size, 3, none⟩ = some (.int .u64 a3) ∧ w'.cell? ⟨w.heap.size + 1, 0, none⟩ = some (.int .u64 b0) ∧ w'.cell? ⟨w.heap.size + 1, 1, none⟩ = some (.int .u64 b1) ∧ w'.cell? ⟨w.heap.size + 1, 2, none⟩ = some (.int .u64 b2) ∧ w'.cell? ⟨w.heap.size + 1, 3, none⟩ = some (.int .u64 b3)) ((refine keepW s_.out ?_; go_grown; done)) (first | (go_at_call_of 6 ([Value.agg #[Value.int .u64 a0, Value.int .u64 a1, Value.int .u64 a2, Value.int .u64 a3], Value.agg #[Value.int .u64 b0, Value.int .u64 b1, Value.int .u64 b2, Value.int .u64 b3]]); go_must (refine Calls.mono (H6ab.out _) ?_; rintro e w2 ⟨rfl, hw2⟩; have hzs := s_.out.1; have hB : Below w.heap.size w w2 := Below.trans (by go_grown) (hw2.mono (by go_size)); have s_ : Hid _ := keepWs s_.out (by go_grown) hw2; have hs0 := hB.size; clear hw2 hzs)) | (go_at_call_of 5 ([Value.agg #[Value.int .u64 q0, Value.int .u64 q1, Value.int .u64 q2, Value.int .u64 q3], Value.agg #[Value.int .u64 b0, Value.int .u64 b1, Value.int .u64 b2, Value.int .u64 b3]]); go_must (refine Calls.mono (H5qb.out _) ?_; rintro e w2 ⟨rfl, hw2⟩; have hzs := s_.out.1; have hB : Below w.heap.size w w2 := Below.trans (by go_grown) (hw2.mono (by go_size)); have s_ : Hid _ := keepWs s_.out (by go_grown) hw2; have hs0 := hB.size; clear hw2 hzs)) | (go_at_call_of 7 ([Value.agg #[Value.int .u64 a0, Value.int .u64 a1, Value.int .u64 a2, Value.int .u64 a3], Value.agg #[Value.int .u64 b0, Value.int .u64 b1, Value.int .u64 b2, Value.int .u64 b3]]); go_must (refine Calls.mono (H7ab.out _) ?_; rintro e w2 ⟨rfl, hw2⟩; have hzs := s_.out.1; have hB : Below w.heap.size w w2 := Below.trans (by go_grown) (hw2.mono (by go_size)); have s_ : Hid _ := keepWs s_.out (by go_grown) hw2; have hs0 := hB.size; clear hw2 hzs)) | (go_at_call_of 4 ([Value.agg #[Value.int .u64 t0, Value.int .u64 t1, Value.int .u64 t2, Value.int .u64 t3], Value.agg #[Value.int .u64 r0, Value.int .u64 r1, Value.int .u64 r2, Value.int .u64 r3]]); go_must (refine Calls.mono (H4tr.out _) ?_; rintro e w2 ⟨rfl, hw2⟩; have hzs := s_.out.1; have hB : Below w.heap.size w w2 := Below.trans (by go_grown) (hw2.mono (by go_size)); have s_ : Hid _ := keepWs s_.out (by go_grown) hw2; have hs0 := hB.size; clear hw2 hzs)) | (go_at_call_of 9 ([Value.agg #[Value.int .u64 a0, Value.int .u64 a1, Value.int .u64 a2, Value.int .u64 a3], Value.agg #[Value.int .u64 b0, Value.int .u64 b1, Value.int .u64 b2, Value.int .u64 b3]]); go_must (refine Calls.mono (H9ab.out _) ?_; rintro e w2 ⟨rfl, hw2⟩; have hzs := s_.out.1; have hB : Below w.heap.size w w2 := Below.trans (by go_grown) (hw2.mono (by go_size)); have s_ : Hid _ := keepWs s_.out (by go_grown) hw2; have hs0 := hB.size; clear hw2 hzs)) | (go_at_call_of 5 ([Value.agg #[Value.int .u64 m0, Value.int .u64 m1, Value.int .u64 m2, Value.int .u64 m3], Value.agg #[Value.int .u64 b0, Value.int .u64 b1, Value.int .u64 b2, Value.int .u64 b3]]); go_must (refine Calls.mono (H5Qb.out _) ?_; rintro e w2 ⟨rfl, hw2⟩; have hzs := s_.out.1; have hB : Below w.heap.size w w2 := Below.trans (by go_grown) (hw2.mono (by go_size)); have s_ : Hid _ := keepWs s_.out (by go_grown) hw2; have hs0 := hB.size; clear hw2 hzs)) | (go_at_call_of 10 ([Value.agg #[Value.int .u64 a0, Value.int .u64 a1, Value.int .u64 a2, Value.int .u64 a3], Value.agg #[Value.int .u64 b0, Value.int .u64 b1, Value.int .u64 b2, Value.int .u64 b3]]); go_must (refine Calls.mono (H10ab.out _) ?_; rintro e w2 ⟨rfl, hw2⟩; have hzs := s_.out.1; have hB : Below w.heap.size w w2 := Below.trans (by go_grown) (hw2.mono (by go_size)); have s_ : Hid _ := keepWs s_.out (by go_grown) hw2; have hs0 := hB.size; clear hw2 hzs)) | (go_at_call_of 4 ([Value.agg #[Value.int .u64 u0, Value.int .u64 u1, Value.int .u64 u2, Value.int .u64 u3], Value.agg #[Value.int .u64 d0, Value.int .u64 d1, Value.int .u64 d2, Value.int .u64 d3]]); go_must (refine Calls.mono (H4UR.out _) ?_; rintro e w2 ⟨rfl, hw2⟩; have hzs := s_.out.1; have hB : Below w.heap.size w w2 := Below.trans (by go_grown) (hw2.mono (by go_size)); have s_ : Hid _ := keepWs s_.out (by go_grown) hw2; have hs0 := hB.size; clear hw2 hzs)) | (go_at_call 8; go_must (refine Calls.mono (HZ.out _) ?_; rintro e w2 ⟨rfl, hw2⟩; have hzs := s_.out.1; have hB : Below w.heap.size w w2 := Below.trans (by go_grown) (hw2.mono (by go_size)); have s_ : Hid _ := keepWs s_.out (by go_grown) hw2; have hs0 := hB.size; clear hw2 hzs)) | (go_at_call 11; go_must (refine Calls.mono (HC.out _) ?_; rintro e w2 ⟨rfl, hw2⟩; have hzs := s_.out.1; have hB : Below w.heap.size w w2 := Below.trans (by go_grown) (hw2.mono (by go_size)); have s_ : Hid _ := keepWs s_.out (by go_grown) hw2; have hs0 := hB.size; clear hw2 hzs)))
      go_wp2_with fail
      go_region_held3 (fun w' => w.heap.size + 1 < w'.heap.size ∧ w'.cell? ⟨w.heap.size, 0, none⟩ = some (.int .u64 a0) ∧ w'.cell? ⟨w.heap.size, 1, none⟩ = some (.int .u64 a1) ∧ w'.cell? ⟨w.heap.size, 2, none⟩ = some (.int .u64 a2) ∧ w'.cell? ⟨w.heap.size, 3, none⟩ = some (.int .u64 a3) ∧ w'.cell? ⟨w.heap.size + 1, 0, none⟩ = some (.int .u64 b0) ∧ w'.cell? ⟨w.heap.size + 1, 1, none⟩ = some (.int .u64 b1) ∧ w'.cell? ⟨w.heap.size + 1, 2, none⟩ = some (.int .u64 b2) ∧ w'.cell? ⟨w.heap.size + 1, 3, none⟩ = some (.int .u64 b3)) ((refine keepW s_.out ?_; go_grown; done)) (first | (go_at_call_of 6 ([Value.agg #[Value.int .u64 a0, Value.int .u64 a1, Value.int .u64 a2, Value.int .u64 a3], Value.agg #[Value.int .u64 b0, Value.int .u64 b1, Value.int .u64 b2, Value.int .u64 b3]]); go_must (refine Calls.mono (H6ab.out _) ?_; rintro e w2 ⟨rfl, hw2⟩; have hzs := s_.out.1; have hB : Below w.heap.size w w2 := Below.trans (by go_grown) (hw2.mono (by go_size)); have s_ : Hid _ := keepWs s_.out (by go_grown) hw2; have hs0 := hB.size; clear hw2 hzs)) | (go_at_call_of 5 ([Value.agg #[Value.int .u64 q0, Value.int .u64 q1, Value.int .u64 q2, Value.int .u64 q3], Value.agg #[Value.int .u64 b0, Value.int .u64 b1, Value.int .u64 b2, Value.int .u64 b3]]); go_must (refine Calls.mono (H5qb.out _) ?_; rintro e w2 ⟨rfl, hw2⟩; have hzs := s_.out.1; have hB : Below w.heap.size w w2 := Below.trans (by go_grown) (hw2.mono (by go_size)); have s_ : Hid _ := keepWs s_.out (by go_grown) hw2; have hs0 := hB.size; clear hw2 hzs)) | (go_at_call_of 7 ([Value.agg #[Value.int .u64 a0, Value.int .u64 a1, Value.int .u64 a2, Value.int .u64 a3], Value.agg #[Value.int .u64 b0, Value.int .u64 b1, Value.int .u64 b2, Value.int .u64 b3]]); go_must (refine Calls.mono (H7ab.out _) ?_; rintro e w2 ⟨rfl, hw2⟩; have hzs := s_.out.1; have hB : Below w.heap.size w w2 := Below.trans (by go_grown) (hw2.mono (by go_size)); have s_ : Hid _ := keepWs s_.out (by go_grown) hw2; have hs0 := hB.size; clear hw2 hzs)) | (go_at_call_of 4 ([Value.agg #[Value.int .u64 t0, Value.int .u64 t1, Value.int .u64 t2, Value.int .u64 t3], Value.agg #[Value.int .u64 r0, Value.int .u64 r1, Value.int .u64 r2, Value.int .u64 r3]]); go_must (refine Calls.mono (H4tr.out _) ?_; rintro e w2 ⟨rfl, hw2⟩; have hzs := s_.out.1; have hB : Below w.heap.size w w2 := Below.trans (by go_grown) (hw2.mono (by go_size)); have s_ : Hid _ := keepWs s_.out (by go_grown) hw2; have hs0 := hB.size; clear hw2 hzs)) | (go_at_call_of 9 ([Value.agg #[Value.int .u64 a0, Value.int .u64 a1, Value.int .u64 a2, Value.int .u64 a3], Value.agg #[Value.int .u64 b0, Value.int .u64 b1, Value.int .u64 b2, Value.int .u64 b3]]); go_must (refine Calls.mono (H9ab.out _) ?_; rintro e w2 ⟨rfl, hw2⟩; have hzs := s_.out.1; have hB : Below w.heap.size w w2 := Below.trans (by go_grown) (hw2.mono (by go_size)); have s_ : Hid _ := keepWs s_.out (by go_grown) hw2; have hs0 := hB.size; clear hw2 hzs)) | (go_at_call_of 5 ([Value.agg #[Value.int .u64 m0, Value.int .u64 m1, Value.int .u64 m2, Value.int .u64 m3], Value.agg #[Value.int .u64 b0, Value.int .u64 b1, Value.int .u64 b2, Value.int .u64 b3]]); go_must (refine Calls.mono (H5Qb.out _) ?_; rintro e w2 ⟨rfl, hw2⟩; have hzs := s_.out.1; have hB : Below w.heap.size w w2 := Below.trans (by go_grown) (hw2.mono (by go_size)); have s_ : Hid _ := keepWs s_.out (by go_grown) hw2; have hs0 := hB.size; clear hw2 hzs)) | (go_at_call_of 10 ([Value.agg #[Value.int .u64 a0, Value.int .u64 a1, Value.int .u64 a2, Value.int .u64 a3], Value.agg #[Value.int .u64 b0, Value.int .u64 b1, Value.int .u64 b2, Value.int .u64 b3]]); go_must (refine Calls.mono (H10ab.out _) ?_; rintro e w2 ⟨rfl, hw2⟩; have hzs := s_.out.1; have hB : Below w.heap.size w w2 := Below.trans (by go_grown) (hw2.mono (by go_size)); have s_ : Hid _ := keepWs s_.out (by go_grown) hw2; have hs0 := hB.size; clear hw2 hzs)) | (go_at_call_of 4 ([Value.agg #[Value.int .u64 u0, Value.int .u64 u1, Value.int .u64 u2, Value.int .u64 u3], Value.agg #[Value.int .u64 d0, Value.int .u64 d1, Value.int .u64 d2, Value.int .u64 d3]]); go_must (refine Calls.mono (H4UR.out _) ?_; rintro e w2 ⟨rfl, hw2⟩; have hzs := s_.out.1; have hB : Below w.heap.size w w2 := Below.trans (by go_grown) (hw2.mono (by go_size)); have s_ : Hid _ := keepWs s_.out (by go_grown) hw2; have hs0 := hB.size; clear hw2 hzs)) | (go_at_call 8; go_must (refine Calls.mono (HZ.out _) ?_; rintro e w2 ⟨rfl, hw2⟩; have hzs := s_.out.1; have hB : Below w.heap.size w w2 := Below.trans (by go_grown) (hw2.mono (by go_size)); have s_ : Hid _ := keepWs s_.out (by go_grown) hw2; have hs0 := hB.size; clear hw2 hzs)) | (go_at_call 11; go_must (refine Calls.mono (HC.out _) ?_; rintro e w2 ⟨rfl, hw2⟩; have hzs := s_.out.1; have hB : Below w.heap.size w w2 := Below.trans (by go_grown) (hw2.mono (by go_size)); have s_ : Hid _ := keepWs s_.out (by go_grown) hw2; have hs0 := hB.size; clear hw2 hzs)))
      go_wp2_with fail
      have KA : Hid (Cel (w2.alloc (.cells #[.int .u64 n, .int .u64 0, .int .u64 0, .int .u64 0] 24)) w.heap.size a0 a1 a2 a3) := Cel.onto ⟨by (have := s_.out.1; omega), s_.out.2.1, s_.out.2.2.1, s_.out.2.2.2.1, s_.out.2.2.2.2.1⟩ _
      have KK : Hid (Cel (w2.alloc (.cells #[.int .u64 n, .int .u64 0, .int .u64 0, .int .u64 0] 24)) w2.heap.size n 0 0 0) := by refine ⟨by simp, ?_, ?_, ?_, ?_⟩ <;> simp [go_sem]
      have hB : Below w.heap.size w (w2.alloc (.cells #[.int .u64 n, .int .u64 0, .int .u64 0, .int .u64 0] 24)) := hB.alloc hB.size _
      clear s_
      generalize w2.heap.size = c1 at *
      generalize w2.alloc (.cells #[.int .u64 n, .int .u64 0, .int .u64 0, .int .u64 0] 24) = w3 at *
      refine Calls.mono (H12twok.out _) ?_
      rintro e w4 ⟨rfl, hw⟩
      have KA : Hid _ := Cel.on KA.out (by rfl) hw
      have KK : Hid _ := Cel.on KK.out (by rfl) hw
      have hB : Below w.heap.size w w4 := hB.trans (hw.mono hB.size)
      clear hw
      obtain ⟨zA, A0_, A1_, A2_, A3_⟩ := KA.out
      go_wp2_with fail
      have KA : Hid (Cel (w4.alloc (.cells #[.int .u64 p0, .int .u64 p1, .int .u64 p2, .int .u64 p3] 24)) w.heap.size a0 a1 a2 a3) := Cel.onto KA.out _
      have KK : Hid (Cel (w4.alloc (.cells #[.int .u64 p0, .int .u64 p1, .int .u64 p2, .int .u64 p3] 24)) c1 n 0 0 0) := Cel.onto KK.out _
      have KP : Hid (Cel (w4.alloc (.cells #[.int .u64 p0, .int .u64 p1, .int .u64 p2, .int .u64 p3] 24)) w4.heap.size p0 p1 p2 p3) := by refine ⟨by simp, ?_, ?_, ?_, ?_⟩ <;> simp [go_sem]
      have hB : Below w.heap.size w (w4.alloc (.cells #[.int .u64 p0, .int .u64 p1, .int .u64 p2, .int .u64 p3] 24)) := hB.alloc hB.size _
      clear zA A0_ A1_ A2_ A3_
      generalize w4.heap.size = c2 at *
      generalize w4.alloc (.cells #[.int .u64 p0, .int .u64 p1, .int .u64 p2, .int .u64 p3] 24) = w5 at *
      refine Calls.mono (HSh.out _) ?_
      rintro e w6 ⟨xv, rfl, NX, hw⟩
      have KA : Hid _ := Cel.on KA.out (by rfl) hw
      have KK : Hid _ := Cel.on KK.out (by rfl) hw
      have KP : Hid _ := Cel.on KP.out (by rfl) hw
      have hB : Below w.heap.size w w6 := hB.trans (hw.mono hB.size)
      clear hw
      go_wp2_with fail
      refine Calls.mono (HRd.out _ _ NX) ?_
      rintro e w7 ⟨rfl, hw⟩
      have KA : Hid _ := Cel.on KA.out (by rfl) hw
      have KK : Hid _ := Cel.on KK.out (by rfl) hw
      have KP : Hid _ := Cel.on KP.out (by rfl) hw
      have hB : Below w.heap.size w w7 := hB.trans (hw.mono hB.size)
      clear hw NX
      go_wp2_with fail
      have KA : Hid (Cel (w7.alloc (.cells #[.int .u64 a0, .int .u64 a1, .int .u64 a2, .int .u64 a3] 24)) w.heap.size a0 a1 a2 a3) := Cel.onto KA.out _
      have KK : Hid (Cel (w7.alloc (.cells #[.int .u64 a0, .int .u64 a1, .int .u64 a2, .int .u64 a3] 24)) c1 n 0 0 0) := Cel.onto KK.out _
      have KP : Hid (Cel (w7.alloc (.cells #[.int .u64 a0, .int .u64 a1, .int .u64 a2, .int .u64 a3] 24)) c2 p0 p1 p2 p3) := Cel.onto KP.out _
      have KX : Hid (Cel (w7.alloc (.cells #[.int .u64 a0, .int .u64 a1, .int .u64 a2, .int .u64 a3] 24)) w7.heap.size a0 a1 a2 a3) := by refine ⟨by simp, ?_, ?_, ?_, ?_⟩ <;> simp [go_sem]
      have hB : Below w.heap.size w (w7.alloc (.cells #[.int .u64 a0, .int .u64 a1, .int .u64 a2, .int .u64 a3] 24)) := hB.alloc hB.size _
      generalize w7.heap.size = c3 at *
      generalize w7.alloc (.cells #[.int .u64 a0, .int .u64 a1, .int .u64 a2, .int .u64 a3] 24) = w8 at *
      have hs0 := hB.size
      have s_ : Hid (w.heap.size < w8.heap.size ∧ c1 < w8.heap.size ∧ c2 < w8.heap.size ∧ c3 < w8.heap.size ∧ w8.cell? ⟨w.heap.size, 0, none⟩ = some (.int .u64 a0) ∧ w8.cell? ⟨w.heap.size, 1, none⟩ = some (.int .u64 a1) ∧ w8.cell? ⟨w.heap.size, 2, none⟩ = some (.int .u64 a2) ∧ w8.cell? ⟨w.heap.size, 3, none⟩ = some (.int .u64 a3) ∧ w8.cell? ⟨c1, 0, none⟩ = some (.int .u64 n) ∧ w8.cell? ⟨c1, 1, none⟩ = some (.int .u64 0) ∧ w8.cell? ⟨c1, 2, none⟩ = some (.int .u64 0) ∧ w8.cell? ⟨c1, 3, none⟩ = some (.int .u64 0) ∧ w8.cell? ⟨c2, 0, none⟩ = some (.int .u64 p0) ∧ w8.cell? ⟨c2, 1, none⟩ = some (.int .u64 p1) ∧ w8.cell? ⟨c2, 2, none⟩ = some (.int .u64 p2) ∧ w8.cell? ⟨c2, 3, none⟩ = some (.int .u64 p3) ∧ w8.cell? ⟨c3, 0, none⟩ = some (.int .u64 a0) ∧ w8.cell? ⟨c3, 1, none⟩ = some (.int .u64 a1) ∧ w8.cell? ⟨c3, 2, none⟩ = some (.int .u64 a2) ∧ w8.cell? ⟨c3, 3, none⟩ = some (.int .u64 a3)) := by
        obtain ⟨zA, A0_, A1_, A2_, A3_⟩ := KA.out
        obtain ⟨zK, K0_, K1_, K2_, K3_⟩ := KK.out
        obtain ⟨zP, P0_, P1_, P2_, P3_⟩ := KP.out
        obtain ⟨zX, X0_, X1_, X2_, X3_⟩ := KX.out
        exact ⟨zA, zK, zP, zX, A0_, A1_, A2_, A3_, K0_, K1_, K2_, K3_, P0_, P1_, P2_, P3_, X0_, X1_, X2_, X3_⟩
      clear KA KK KP KX
      go_region_held3 (fun w' => w.heap.size < w'.heap.size ∧ c1 < w'.heap.size ∧ c2 < w'.heap.size ∧ c3 < w'.heap.size ∧ w'.cell? ⟨w.heap.size, 0, none⟩ = some (.int .u64 a0) ∧ w'.cell? ⟨w.heap.size, 1, none⟩ = some (.int .u64 a1) ∧ w'.cell? ⟨w.heap.size, 2, none⟩ = some (.int .u64 a2) ∧ w'.cell? ⟨w.heap.size, 3, none⟩ = some (.int .u64 a3) ∧ w'.cell? ⟨c1, 0, none⟩ = some (.int .u64 n) ∧ w'.cell? ⟨c1, 1, none⟩ = some (.int .u64 0) ∧ w'.cell? ⟨c1, 2, none⟩ = some (.int .u64 0) ∧ w'.cell? ⟨c1, 3, none⟩ = some (.int .u64 0) ∧ w'.cell? ⟨c2, 0, none⟩ = some (.int .u64 p0) ∧ w'.cell? ⟨c2, 1, none⟩ = some (.int .u64 p1) ∧ w'.cell? ⟨c2, 2, none⟩ = some (.int .u64 p2) ∧ w'.cell? ⟨c2, 3, none⟩ = some (.int .u64 p3) ∧ w'.cell? ⟨c3, 0, none⟩ = some (.int .u64 a0) ∧ w'.cell? ⟨c3, 1, none⟩ = some (.int .u64 a1) ∧ w'.cell? ⟨c3, 2, none⟩ = some (.int .u64 a2) ∧ w'.cell? ⟨c3, 3, none⟩ = some (.int .u64 a3)) ((refine keepK s_.out ?_; go_grown; done)) (first | (go_at_call_of 15 ([Value.agg #[Value.int .u64 n, Value.int .u64 0, Value.int .u64 0, Value.int .u64 0], Value.agg #[Value.int .u64 a0, Value.int .u64 a1, Value.int .u64 a2, Value.int .u64 a3]]); go_must (refine Calls.mono (H15ka.out _) ?_; rintro e w2 ⟨rfl, hw2⟩; have hs0 := hB.size; have hB : Below w.heap.size w w2 := Below.trans (by go_grown) (hw2.mono (by go_size)); have s_ : Hid _ := keepKs s_.out (by go_grown) hw2; have hs0 := hB.size; clear hw2)) | (go_at_call_of 5 ([Value.agg #[Value.int .u64 a0, Value.int .u64 a1, Value.int .u64 a2, Value.int .u64 a3], Value.agg #[Value.int .u64 p0, Value.int .u64 p1, Value.int .u64 p2, Value.int .u64 p3]]); go_must (refine Calls.mono (H5ap.out _) ?_; rintro e w2 ⟨rfl, hw2⟩; have hs0 := hB.size; have hB : Below w.heap.size w w2 := Below.trans (by go_grown) (hw2.mono (by go_size)); have s_ : Hid _ := keepKs s_.out (by go_grown) hw2; have hs0 := hB.size; clear hw2)) | (go_at_call_of 16 ([Value.agg #[Value.int .u64 n, Value.int .u64 0, Value.int .u64 0, Value.int .u64 0], Value.agg #[Value.int .u64 a0, Value.int .u64 a1, Value.int .u64 a2, Value.int .u64 a3]]); go_must (refine Calls.mono (H16ka.out _) ?_; rintro e w2 ⟨rfl, hw2⟩; have hs0 := hB.size; have hB : Below w.heap.size w w2 := Below.trans (by go_grown) (hw2.mono (by go_size)); have s_ : Hid _ := keepKs s_.out (by go_grown) hw2; have hs0 := hB.size; clear hw2)) | (go_at_call_of 6 ([Value.agg #[Value.int .u64 a0, Value.int .u64 a1, Value.int .u64 a2, Value.int .u64 a3], Value.agg #[Value.int .u64 p0, Value.int .u64 p1, Value.int .u64 p2, Value.int .u64 p3]]); go_must (refine Calls.mono (H6ap.out _) ?_; rintro e w2 ⟨rfl, hw2⟩; have hs0 := hB.size; have hB : Below w.heap.size w w2 := Below.trans (by go_grown) (hw2.mono (by go_size)); have s_ : Hid _ := keepKs s_.out (by go_grown) hw2; have hs0 := hB.size; clear hw2)) | (go_at_call 17; go_must (refine Calls.mono (alive_any _) ?_; rintro e w2 ⟨rfl, hw2⟩; have hs0 := hB.size; have hB : Below w.heap.size w w2 := Below.trans (by go_grown) (hw2.mono (by go_size)); have s_ : Hid _ := keepKs s_.out (by go_grown) hw2; have hs0 := hB.size; clear hw2)))
      go_wp2
      go_ret
      exact ⟨rfl, by go_grown⟩

    · skip
      refine wp_region_noPanic ?_
      refine wp_region_held_drew (S := fun w' => w.heap.size + 1 < w'.heap.size ∧ w'.cell? ⟨w.heap.size, 0, none⟩ = some (.int .u64 a0) ∧ w'.cell? ⟨w.heap.size, 1, none⟩ = some (.int .u64 a1) ∧ w'.cell? ⟨w.heap.size, 2, none⟩ = some (.int .u64 a2) ∧ w'.cell? ⟨w.heap.size, 3, none⟩ = some (.int .u64 a3) ∧ w'.cell? ⟨w.heap.size + 1, 0, none⟩ = some (.int .u64 b0) ∧ w'.cell? ⟨w.heap.size + 1, 1, none⟩ = some (.int .u64 b1) ∧ w'.cell? ⟨w.heap.size + 1, 2, none⟩ = some (.int .u64 b2) ∧ w'.cell? ⟨w.heap.size + 1, 3, none⟩ = some (.int .u64 b3)) (by kernel_rfl) ?_ (fun hHeld => ?_)
      · exact keepW s_.out (by go_grown)
      refine wpAnyH_take (i := 0) (v := ?_) rfl (by kernel_rfl) (by kernel_rfl) (by kernel_rfl) (fun _ _ _ h => h) (Or.inl ⟨by rfl, ?_⟩) (by assumption) ?_
      rotate_left
      · intro w hSw; (try dsimp only at hSw); go_simp
        try with_reducible rfl
      rotate_left
      try simp only [List.getElem_toArray, List.getElem_cons_succ, List.getElem_cons_zero, Act.put, List.setIfInBounds_toArray, List.set_cons_zero, List.set_cons_succ]
      refine wpAnyH_take (i := 1) (v := ?_) rfl (by kernel_rfl) (by kernel_rfl) (by kernel_rfl) (fun _ _ _ h => h) (Or.inl ⟨by rfl, ?_⟩) (by assumption) ?_
      rotate_left
      · intro w hSw; (try dsimp only at hSw); go_simp
        try with_reducible rfl
      rotate_left
      try simp only [List.getElem_toArray, List.getElem_cons_succ, List.getElem_cons_zero, Act.put, List.setIfInBounds_toArray, List.set_cons_zero, List.set_cons_succ]
      refine wpAnyH_take (i := 3) (v := ?_) rfl (by kernel_rfl) (by kernel_rfl) (by kernel_rfl) (fun _ _ _ h => h) (Or.inl ⟨by rfl, ?_⟩) (by assumption) ?_
      rotate_left
      · intro w hSw; (try dsimp only at hSw); go_simp
        try with_reducible rfl
      rotate_left
      try simp only [List.getElem_toArray, List.getElem_cons_succ, List.getElem_cons_zero, Act.put, List.setIfInBounds_toArray, List.set_cons_zero, List.set_cons_succ]
      refine wpAnyH_take (i := 5) (v := ?_) rfl (by kernel_rfl) (by kernel_rfl) (by kernel_rfl) (fun _ _ _ h => h) (Or.inl ⟨by rfl, ?_⟩) (by assumption) ?_
      rotate_left
      · intro w hSw; (try dsimp only at hSw); go_simp
        try with_reducible rfl
      rotate_left
      try simp only [List.getElem_toArray, List.getElem_cons_succ, List.getElem_cons_zero, Act.put, List.setIfInBounds_toArray, List.set_cons_zero, List.set_cons_succ]
      refine wpAnyH_take (i := 6) (v := ?_) rfl (by kernel_rfl) (by kernel_rfl) (by kernel_rfl) (fun _ _ _ h => h) (Or.inl ⟨by rfl, ?_⟩) (by assumption) ?_
      rotate_left
      · intro w hSw; (try dsimp only at hSw); go_simp
        try with_reducible rfl
      rotate_left
      try simp only [List.getElem_toArray, List.getElem_cons_succ, List.getElem_cons_zero, Act.put, List.setIfInBounds_toArray, List.set_cons_zero, List.set_cons_succ]
      refine wpAnyH_take (i := 9) (v := ?_) rfl (by kernel_rfl) (by kernel_rfl) (by kernel_rfl) (fun _ _ _ h => h) (Or.inl ⟨by rfl, ?_⟩) (by assumption) ?_
      rotate_left
      · intro w hSw; (try dsimp only at hSw); go_simp
        try with_reducible rfl
      rotate_left
      try simp only [List.getElem_toArray, List.getElem_cons_succ, List.getElem_cons_zero, Act.put, List.setIfInBounds_toArray, List.set_cons_zero, List.set_cons_succ]
      refine wpAnyH_ready (rs := [2]) (by kernel_rfl) (by simp) ?_
      refine AllReadyH.cons rfl (fun K hK => ?_) AllReadyH.nil
      go_simp
      refine Calls.mono (H6ab.out _) ?_
      rintro e w2 ⟨rfl, hw2⟩
      have hzs := s_.out.1
      have hB : Below w.heap.size w w2 := Below.trans (by go_grown) (hw2.mono (by go_size))
      have s_ : Hid _ := keepWs s_.out (by go_grown) hw2
      have hs0 := hB.size
      clear hw2 hzs
      go_wp2_with fail
      refine hK.out _ _ ?_ (fun hHeld => ?_)
      · exact s_.out
      clear hK K
      try simp only [List.getElem_toArray, List.getElem_cons_succ, List.getElem_cons_zero, Act.put, List.setIfInBounds_toArray, List.set_cons_zero, List.set_cons_succ]
      refine wpAnyH_ready (rs := [4]) (by kernel_rfl) (by simp) ?_
      refine AllReadyH.cons rfl (fun K hK => ?_) AllReadyH.nil
      go_simp
      refine Calls.mono (H5qb.out _) ?_
      rintro e w2 ⟨rfl, hw2⟩
      have hzs := s_.out.1
      have hB : Below w.heap.size w w2 := Below.trans (by go_grown) (hw2.mono (by go_size))
      have s_ : Hid _ := keepWs s_.out (by go_grown) hw2
      have hs0 := hB.size
      clear hw2 hzs
      go_wp2_with fail
      refine hK.out _ _ ?_ (fun hHeld => ?_)
      · exact s_.out
      clear hK K
      try simp only [List.getElem_toArray, List.getElem_cons_succ, List.getElem_cons_zero, Act.put, List.setIfInBounds_toArray, List.set_cons_zero, List.set_cons_succ]
      refine wpAnyH_ready (rs := [7]) (by kernel_rfl) (by simp) ?_
      refine AllReadyH.cons rfl (fun K hK => ?_) AllReadyH.nil
      go_simp
      refine Calls.mono (H7ab.out _) ?_
      rintro e w2 ⟨rfl, hw2⟩
      have hzs := s_.out.1
      have hB : Below w.heap.size w w2 := Below.trans (by go_grown) (hw2.mono (by go_size))
      have s_ : Hid _ := keepWs s_.out (by go_grown) hw2
      have hs0 := hB.size
      clear hw2 hzs
      go_wp2_with fail
      refine hK.out _ _ ?_ (fun hHeld => ?_)
      · exact s_.out
      clear hK K
      try simp only [List.getElem_toArray, List.getElem_cons_succ, List.getElem_cons_zero, Act.put, List.setIfInBounds_toArray, List.set_cons_zero, List.set_cons_succ]
      refine wpAnyH_ready (rs := [8]) (by kernel_rfl) (by simp) ?_
      refine AllReadyH.cons rfl (fun K hK => ?_) AllReadyH.nil
      go_simp
      refine Calls.mono (H4tr.out _) ?_
      rintro e w2 ⟨rfl, hw2⟩
      have hzs := s_.out.1
      have hB : Below w.heap.size w w2 := Below.trans (by go_grown) (hw2.mono (by go_size))
      have s_ : Hid _ := keepWs s_.out (by go_grown) hw2
      have hs0 := hB.size
      clear hw2 hzs
      go_wp2_with fail
      refine hK.out _ _ ?_ (fun hHeld => ?_)
      · exact s_.out
      clear hK K
      try simp only [List.getElem_toArray, List.getElem_cons_succ, List.getElem_cons_zero, Act.put, List.setIfInBounds_toArray, List.set_cons_zero, List.set_cons_succ]
      refine wpAnyH_take (i := 10) (v := ?_) rfl (by kernel_rfl) (by kernel_rfl) (by kernel_rfl) (fun _ _ _ h => h) (Or.inl ⟨by rfl, ?_⟩) (by assumption) ?_
      rotate_left
      · intro w hSw; (try dsimp only at hSw); go_simp
        try with_reducible rfl
      rotate_left
      try simp only [List.getElem_toArray, List.getElem_cons_succ, List.getElem_cons_zero, Act.put, List.setIfInBounds_toArray, List.set_cons_zero, List.set_cons_succ]
      refine wpAnyH_take (i := 11) (v := ?_) rfl (by kernel_rfl) (by kernel_rfl) (by kernel_rfl) (fun _ _ _ h => h) (Or.inl ⟨by rfl, ?_⟩) (by assumption) ?_
      rotate_left
      · intro w hSw; (try dsimp only at hSw); go_simp
        try with_reducible rfl
      rotate_left
      try simp only [List.getElem_toArray, List.getElem_cons_succ, List.getElem_cons_zero, Act.put, List.setIfInBounds_toArray, List.set_cons_zero, List.set_cons_succ]
      refine wpAnyH_take (i := 12) (v := undef) rfl (by kernel_rfl) (by kernel_rfl) (by kernel_rfl) (fun _ _ _ h => h) (Or.inr ⟨by rfl, rfl⟩) (by assumption) ?_
      try simp only [List.getElem_toArray, List.getElem_cons_succ, List.getElem_cons_zero, Act.put, List.setIfInBounds_toArray, List.set_cons_zero, List.set_cons_succ]
      refine wpAnyH_take (i := 13) (v := undef) rfl (by kernel_rfl) (by kernel_rfl) (by kernel_rfl) (fun _ _ _ h => h) (Or.inr ⟨by rfl, rfl⟩) (by assumption) ?_
      try simp only [List.getElem_toArray, List.getElem_cons_succ, List.getElem_cons_zero, Act.put, List.setIfInBounds_toArray, List.set_cons_zero, List.set_cons_succ]
      refine wpAnyH_take (i := 14) (v := undef) rfl (by kernel_rfl) (by kernel_rfl) (by kernel_rfl) (fun _ _ _ h => h) (Or.inr ⟨by rfl, rfl⟩) (by assumption) ?_
      try simp only [List.getElem_toArray, List.getElem_cons_succ, List.getElem_cons_zero, Act.put, List.setIfInBounds_toArray, List.set_cons_zero, List.set_cons_succ]
      refine wpAnyH_take (i := 15) (v := ?_) rfl (by kernel_rfl) (by kernel_rfl) (by kernel_rfl) (fun _ _ _ h => h) (Or.inl ⟨by rfl, ?_⟩) (by assumption) ?_
      rotate_left
      · intro w hSw; (try dsimp only at hSw); go_simp
        try with_reducible rfl
      rotate_left
      try simp only [List.getElem_toArray, List.getElem_cons_succ, List.getElem_cons_zero, Act.put, List.setIfInBounds_toArray, List.set_cons_zero, List.set_cons_succ]
      refine wpAnyH_done (by kernel_rfl) ?_ _
      refine NoPanic.normal ?_
      go_wp2_with fail
      refine wp_region_noPanic ?_
      refine wp_region_held_drew (S := fun w' => w.heap.size + 1 < w'.heap.size ∧ w'.cell? ⟨w.heap.size, 0, none⟩ = some (.int .u64 a0) ∧ w'.cell? ⟨w.heap.size, 1, none⟩ = some (.int .u64 a1) ∧ w'.cell? ⟨w.heap.size, 2, none⟩ = some (.int .u64 a2) ∧ w'.cell? ⟨w.heap.size, 3, none⟩ = some (.int .u64 a3) ∧ w'.cell? ⟨w.heap.size + 1, 0, none⟩ = some (.int .u64 b0) ∧ w'.cell? ⟨w.heap.size + 1, 1, none⟩ = some (.int .u64 b1) ∧ w'.cell? ⟨w.heap.size + 1, 2, none⟩ = some (.int .u64 b2) ∧ w'.cell? ⟨w.heap.size + 1, 3, none⟩ = some (.int .u64 b3)) (by kernel_rfl) ?_ (fun hHeld => ?_)
      · exact keepW s_.out (by go_grown)
      refine wpAnyH_take (i := 0) (v := ?_) rfl (by kernel_rfl) (by kernel_rfl) (by kernel_rfl) (fun _ _ _ h => h) (Or.inl ⟨by rfl, ?_⟩) (by assumption) ?_
      rotate_left
      · intro w hSw; (try dsimp only at hSw); go_simp
        try with_reducible rfl
      rotate_left
      try simp only [List.getElem_toArray, List.getElem_cons_succ, List.getElem_cons_zero, Act.put, List.setIfInBounds_toArray, List.set_cons_zero, List.set_cons_succ]
      refine wpAnyH_take (i := 1) (v := ?_) rfl (by kernel_rfl) (by kernel_rfl) (by kernel_rfl) (fun _ _ _ h => h) (Or.inl ⟨by rfl, ?_⟩) (by assumption) ?_
      rotate_left
      · intro w hSw; (try dsimp only at hSw); go_simp
        try with_reducible rfl
      rotate_left
      try simp only [List.getElem_toArray, List.getElem_cons_succ, List.getElem_cons_zero, Act.put, List.setIfInBounds_toArray, List.set_cons_zero, List.set_cons_succ]
      refine wpAnyH_take (i := 3) (v := ?_) rfl (by kernel_rfl) (by kernel_rfl) (by kernel_rfl) (fun _ _ _ h => h) (Or.inl ⟨by rfl, ?_⟩) (by assumption) ?_
      rotate_left
      · intro w hSw; (try dsimp only at hSw); go_simp
        try with_reducible rfl
      rotate_left
      try simp only [List.getElem_toArray, List.getElem_cons_succ, List.getElem_cons_zero, Act.put, List.setIfInBounds_toArray, List.set_cons_zero, List.set_cons_succ]
      refine wpAnyH_take (i := 5) (v := ?_) rfl (by kernel_rfl) (by kernel_rfl) (by kernel_rfl) (fun _ _ _ h => h) (Or.inl ⟨by rfl, ?_⟩) (by assumption) ?_
      rotate_left
      · intro w hSw; (try dsimp only at hSw); go_simp
        try with_reducible rfl
      rotate_left
      try simp only [List.getElem_toArray, List.getElem_cons_succ, List.getElem_cons_zero, Act.put, List.setIfInBounds_toArray, List.set_cons_zero, List.set_cons_succ]
      refine wpAnyH_take (i := 6) (v := ?_) rfl (by kernel_rfl) (by kernel_rfl) (by kernel_rfl) (fun _ _ _ h => h) (Or.inl ⟨by rfl, ?_⟩) (by assumption) ?_
      rotate_left
      · intro w hSw; (try dsimp only at hSw); go_simp
        try with_reducible rfl
      rotate_left
      try simp only [List.getElem_toArray, List.getElem_cons_succ, List.getElem_cons_zero, Act.put, List.setIfInBounds_toArray, List.set_cons_zero, List.set_cons_succ]
      refine wpAnyH_take (i := 9) (v := ?_) rfl (by kernel_rfl) (by kernel_rfl) (by kernel_rfl) (fun _ _ _ h => h) (Or.inl ⟨by rfl, ?_⟩) (by assumption) ?_
      rotate_left
      · intro w hSw; (try dsimp only at hSw); go_simp
        try with_reducible rfl
      rotate_left
      try simp only [List.getElem_toArray, List.getElem_cons_succ, List.getElem_cons_zero, Act.put, List.setIfInBounds_toArray, List.set_cons_zero, List.set_cons_succ]
      refine wpAnyH_ready (rs := [2]) (by kernel_rfl) (by simp) ?_
      refine AllReadyH.cons rfl (fun K hK => ?_) AllReadyH.nil
      go_simp
      refine Calls.mono (H9ab.out _) ?_
      rintro e w2 ⟨rfl, hw2⟩
      have hzs := s_.out.1
      have hB : Below w.heap.size w w2 := Below.trans (by go_grown) (hw2.mono (by go_size))
      have s_ : Hid _ := keepWs s_.out (by go_grown) hw2
      have hs0 := hB.size
      clear hw2 hzs
      go_wp2_with fail
      refine hK.out _ _ ?_ (fun hHeld => ?_)
      · exact s_.out
      clear hK K
      try simp only [List.getElem_toArray, List.getElem_cons_succ, List.getElem_cons_zero, Act.put, List.setIfInBounds_toArray, List.set_cons_zero, List.set_cons_succ]
      refine wpAnyH_ready (rs := [4]) (by kernel_rfl) (by simp) ?_
      refine AllReadyH.cons rfl (fun K hK => ?_) AllReadyH.nil
      go_simp
      refine Calls.mono (H5Qb.out _) ?_
      rintro e w2 ⟨rfl, hw2⟩
      have hzs := s_.out.1
      have hB : Below w.heap.size w w2 := Below.trans (by go_grown) (hw2.mono (by go_size))
      have s_ : Hid _ := keepWs s_.out (by go_grown) hw2
      have hs0 := hB.size
      clear hw2 hzs
      go_wp2_with fail
      refine hK.out _ _ ?_ (fun hHeld => ?_)
      · exact s_.out
      clear hK K
      try simp only [List.getElem_toArray, List.getElem_cons_succ, List.getElem_cons_zero, Act.put, List.setIfInBounds_toArray, List.set_cons_zero, List.set_cons_succ]
      refine wpAnyH_ready (rs := [7]) (by kernel_rfl) (by simp) ?_
      refine AllReadyH.cons rfl (fun K hK => ?_) AllReadyH.nil
      go_simp
      refine Calls.mono (H10ab.out _) ?_
      rintro e w2 ⟨rfl, hw2⟩
      have hzs := s_.out.1
      have hB : Below w.heap.size w w2 := Below.trans (by go_grown) (hw2.mono (by go_size))
      have s_ : Hid _ := keepWs s_.out (by go_grown) hw2
      have hs0 := hB.size
      clear hw2 hzs
      go_wp2_with fail
      refine hK.out _ _ ?_ (fun hHeld => ?_)
      · exact s_.out
      clear hK K
      try simp only [List.getElem_toArray, List.getElem_cons_succ, List.getElem_cons_zero, Act.put, List.setIfInBounds_toArray, List.set_cons_zero, List.set_cons_succ]
      refine wpAnyH_ready (rs := [8]) (by kernel_rfl) (by simp) ?_
      refine AllReadyH.cons rfl (fun K hK => ?_) AllReadyH.nil
      go_simp
      refine Calls.mono (H4UR.out _) ?_
      rintro e w2 ⟨rfl, hw2⟩
      have hzs := s_.out.1
      have hB : Below w.heap.size w w2 := Below.trans (by go_grown) (hw2.mono (by go_size))
      have s_ : Hid _ := keepWs s_.out (by go_grown) hw2
      have hs0 := hB.size
      clear hw2 hzs
      go_wp2_with fail
      refine hK.out _ _ ?_ (fun hHeld => ?_)
      · exact s_.out
      clear hK K
      try simp only [List.getElem_toArray, List.getElem_cons_succ, List.getElem_cons_zero, Act.put, List.setIfInBounds_toArray, List.set_cons_zero, List.set_cons_succ]
      refine wpAnyH_take (i := 10) (v := ?_) rfl (by kernel_rfl) (by kernel_rfl) (by kernel_rfl) (fun _ _ _ h => h) (Or.inl ⟨by rfl, ?_⟩) (by assumption) ?_
      rotate_left
      · intro w hSw; (try dsimp only at hSw); go_simp
        try with_reducible rfl
      rotate_left
      try simp only [List.getElem_toArray, List.getElem_cons_succ, List.getElem_cons_zero, Act.put, List.setIfInBounds_toArray, List.set_cons_zero, List.set_cons_succ]
      refine wpAnyH_take (i := 11) (v := ?_) rfl (by kernel_rfl) (by kernel_rfl) (by kernel_rfl) (fun _ _ _ h => h) (Or.inl ⟨by rfl, ?_⟩) (by assumption) ?_
      rotate_left
      · intro w hSw; (try dsimp only at hSw); go_simp
        try with_reducible rfl
      rotate_left
      try simp only [List.getElem_toArray, List.getElem_cons_succ, List.getElem_cons_zero, Act.put, List.setIfInBounds_toArray, List.set_cons_zero, List.set_cons_succ]
      refine wpAnyH_take (i := 12) (v := undef) rfl (by kernel_rfl) (by kernel_rfl) (by kernel_rfl) (fun _ _ _ h => h) (Or.inr ⟨by rfl, rfl⟩) (by assumption) ?_
      try simp only [List.getElem_toArray, List.getElem_cons_succ, List.getElem_cons_zero, Act.put, List.setIfInBounds_toArray, List.set_cons_zero, List.set_cons_succ]
      refine wpAnyH_take (i := 13) (v := undef) rfl (by kernel_rfl) (by kernel_rfl) (by kernel_rfl) (fun _ _ _ h => h) (Or.inr ⟨by rfl, rfl⟩) (by assumption) ?_
      try simp only [List.getElem_toArray, List.getElem_cons_succ, List.getElem_cons_zero, Act.put, List.setIfInBounds_toArray, List.set_cons_zero, List.set_cons_succ]
      refine wpAnyH_take (i := 14) (v := undef) rfl (by kernel_rfl) (by kernel_rfl) (by kernel_rfl) (fun _ _ _ h => h) (Or.inr ⟨by rfl, rfl⟩) (by assumption) ?_
      try simp only [List.getElem_toArray, List.getElem_cons_succ, List.getElem_cons_zero, Act.put, List.setIfInBounds_toArray, List.set_cons_zero, List.set_cons_succ]
      refine wpAnyH_take (i := 15) (v := ?_) rfl (by kernel_rfl) (by kernel_rfl) (by kernel_rfl) (fun _ _ _ h => h) (Or.inl ⟨by rfl, ?_⟩) (by assumption) ?_
      rotate_left
      · intro w hSw; (try dsimp only at hSw); go_simp
        try with_reducible rfl
      rotate_left
      try simp only [List.getElem_toArray, List.getElem_cons_succ, List.getElem_cons_zero, Act.put, List.setIfInBounds_toArray, List.set_cons_zero, List.set_cons_succ]
      refine wpAnyH_done (by kernel_rfl) ?_ _
      refine NoPanic.normal ?_
      go_wp2_with fail
      go_region_held3 (fun w' => w.heap.size + 1 < w'.heap.size ∧ w'.cell? ⟨w.heap.size, 0, none⟩ = some (.int .u64 a0) ∧ w'.cell? ⟨w.heap.size, 1, none⟩ = some (.int .u64 a1) ∧ w'.cell? ⟨w.heap.size, 2, none⟩ = some (.int .u64 a2) ∧ w'.cell? ⟨w.heap.size, 3, none⟩ = some (.int .u64 a3) ∧ w'.cell? ⟨w.heap.size + 1, 0, none⟩ = some (.int .u64 b0) ∧ w'.cell? ⟨w.heap.size + 1, 1, none⟩ = some (.int .u64 b1) ∧ w'.cell? ⟨w.heap.size + 1, 2, none⟩ = some (.int .u64 b2) ∧ w'.cell? ⟨w.heap.size + 1, 3, none⟩ = some (.int .u64 b3)) ((refine keepW s_.out ?_; go_grown; done)) (first | (go_at_call_of 6 ([Value.agg #[Value.int .u64 a0, Value.int .u64 a1, Value.int .u64 a2, Value.int .u64 a3], Value.agg #[Value.int .u64 b0, Value.int .u64 b1, Value.int .u64 b2, Value.int .u64 b3]]); go_must (refine Calls.mono (H6ab.out _) ?_; rintro e w2 ⟨rfl, hw2⟩; have hzs := s_.out.1; have hB : Below w.heap.size w w2 := Below.trans (by go_grown) (hw2.mono (by go_size)); have s_ : Hid _ := keepWs s_.out (by go_grown) hw2; have hs0 := hB.size; clear hw2 hzs)) | (go_at_call_of 5 ([Value.agg #[Value.int .u64 q0, Value.int .u64 q1, Value.int .u64 q2, Value.int .u64 q3], Value.agg #[Value.int .u64 b0, Value.int .u64 b1, Value.int .u64 b2, Value.int .u64 b3]]); go_must (refine Calls.mono (H5qb.out _) ?_; rintro e w2 ⟨rfl, hw2⟩; have hzs := s_.out.1; have hB : Below w.heap.size w w2 := Below.trans (by go_grown) (hw2.mono (by go_size)); have s_ : Hid _ := keepWs s_.out (by go_grown) hw2; have hs0 := hB.size; clear hw2 hzs)) | (go_at_call_of 7 ([Value.agg #[Value.int .u64 a0, Value.int .u64 a1, Value.int .u64 a2, Value.int .u64 a3], Value.agg #[Value.int .u64 b0, Value.int .u64 b1, Value.int .u64 b2, Value.int .u64 b3]]); go_must (refine Calls.mono (H7ab.out _) ?_; rintro e w2 ⟨rfl, hw2⟩; have hzs := s_.out.1; have hB : Below w.heap.size w w2 := Below.trans (by go_grown) (hw2.mono (by go_size)); have s_ : Hid _ := keepWs s_.out (by go_grown) hw2; have hs0 := hB.size; clear hw2 hzs)) | (go_at_call_of 4 ([Value.agg #[Value.int .u64 t0, Value.int .u64 t1, Value.int .u64 t2, Value.int .u64 t3], Value.agg #[Value.int .u64 r0, Value.int .u64 r1, Value.int .u64 r2, Value.int .u64 r3]]); go_must (refine Calls.mono (H4tr.out _) ?_; rintro e w2 ⟨rfl, hw2⟩; have hzs := s_.out.1; have hB : Below w.heap.size w w2 := Below.trans (by go_grown) (hw2.mono (by go_size)); have s_ : Hid _ := keepWs s_.out (by go_grown) hw2; have hs0 := hB.size; clear hw2 hzs)) | (go_at_call_of 9 ([Value.agg #[Value.int .u64 a0, Value.int .u64 a1, Value.int .u64 a2, Value.int .u64 a3], Value.agg #[Value.int .u64 b0, Value.int .u64 b1, Value.int .u64 b2, Value.int .u64 b3]]); go_must (refine Calls.mono (H9ab.out _) ?_; rintro e w2 ⟨rfl, hw2⟩; have hzs := s_.out.1; have hB : Below w.heap.size w w2 := Below.trans (by go_grown) (hw2.mono (by go_size)); have s_ : Hid _ := keepWs s_.out (by go_grown) hw2; have hs0 := hB.size; clear hw2 hzs)) | (go_at_call_of 5 ([Value.agg #[Value.int .u64 m0, Value.int .u64 m1, Value.int .u64 m2, Value.int .u64 m3], Value.agg #[Value.int .u64 b0, Value.int .u64 b1, Value.int .u64 b2, Value.int .u64 b3]]); go_must (refine Calls.mono (H5Qb.out _) ?_; rintro e w2 ⟨rfl, hw2⟩; have hzs := s_.out.1; have hB : Below w.heap.size w w2 := Below.trans (by go_grown) (hw2.mono (by go_size)); have s_ : Hid _ := keepWs s_.out (by go_grown) hw2; have hs0 := hB.size; clear hw2 hzs)) | (go_at_call_of 10 ([Value.agg #[Value.int .u64 a0, Value.int .u64 a1, Value.int .u64 a2, Value.int .u64 a3], Value.agg #[Value.int .u64 b0, Value.int .u64 b1, Value.int .u64 b2, Value.int .u64 b3]]); go_must (refine Calls.mono (H10ab.out _) ?_; rintro e w2 ⟨rfl, hw2⟩; have hzs := s_.out.1; have hB : Below w.heap.size w w2 := Below.trans (by go_grown) (hw2.mono (by go_size)); have s_ : Hid _ := keepWs s_.out (by go_grown) hw2; have hs0 := hB.size; clear hw2 hzs)) | (go_at_call_of 4 ([Value.agg #[Value.int .u64 u0, Value.int .u64 u1, Value.int .u64 u2, Value.int .u64 u3], Value.agg #[Value.int .u64 d0, Value.int .u64 d1, Value.int .u64 d2, Value.int .u64 d3]]); go_must (refine Calls.mono (H4UR.out _) ?_; rintro e w2 ⟨rfl, hw2⟩; have hzs := s_.out.1; have hB : Below w.heap.size w w2 := Below.trans (by go_grown) (hw2.mono (by go_size)); have s_ : Hid _ := keepWs s_.out (by go_grown) hw2; have hs0 := hB.size; clear hw2 hzs)) | (go_at_call 8; go_must (refine Calls.mono (HZ.out _) ?_; rintro e w2 ⟨rfl, hw2⟩; have hzs := s_.out.1; have hB : Below w.heap.size w w2 := Below.trans (by go_grown) (hw2.mono (by go_size)); have s_ : Hid _ := keepWs s_.out (by go_grown) hw2; have hs0 := hB.size; clear hw2 hzs)) | (go_at_call 11; go_must (refine Calls.mono (HC.out _) ?_; rintro e w2 ⟨rfl, hw2⟩; have hzs := s_.out.1; have hB : Below w.heap.size w w2 := Below.trans (by go_grown) (hw2.mono (by go_size)); have s_ : Hid _ := keepWs s_.out (by go_grown) hw2; have hs0 := hB.size; clear hw2 hzs)))
      go_wp2_with fail
      have KA : Hid (Cel (w2.alloc (.cells #[.int .u64 n, .int .u64 0, .int .u64 0, .int .u64 0] 24)) w.heap.size a0 a1 a2 a3) := Cel.onto ⟨by (have := s_.out.1; omega), s_.out.2.1, s_.out.2.2.1, s_.out.2.2.2.1, s_.out.2.2.2.2.1⟩ _
      have KK : Hid (Cel (w2.alloc (.cells #[.int .u64 n, .int .u64 0, .int .u64 0, .int .u64 0] 24)) w2.heap.size n 0 0 0) := by refine ⟨by simp, ?_, ?_, ?_, ?_⟩ <;> simp [go_sem]
      have hB : Below w.heap.size w (w2.alloc (.cells #[.int .u64 n, .int .u64 0, .int .u64 0, .int .u64 0] 24)) := hB.alloc hB.size _
      clear s_
      generalize w2.heap.size = c1 at *
      generalize w2.alloc (.cells #[.int .u64 n, .int .u64 0, .int .u64 0, .int .u64 0] 24) = w3 at *
      refine Calls.mono (H12twok.out _) ?_
      rintro e w4 ⟨rfl, hw⟩
      have KA : Hid _ := Cel.on KA.out (by rfl) hw
      have KK : Hid _ := Cel.on KK.out (by rfl) hw
      have hB : Below w.heap.size w w4 := hB.trans (hw.mono hB.size)
      clear hw
      obtain ⟨zA, A0_, A1_, A2_, A3_⟩ := KA.out
      go_wp2_with fail
      have KA : Hid (Cel (w4.alloc (.cells #[.int .u64 p0, .int .u64 p1, .int .u64 p2, .int .u64 p3] 24)) w.heap.size a0 a1 a2 a3) := Cel.onto KA.out _
      have KK : Hid (Cel (w4.alloc (.cells #[.int .u64 p0, .int .u64 p1, .int .u64 p2, .int .u64 p3] 24)) c1 n 0 0 0) := Cel.onto KK.out _
      have KP : Hid (Cel (w4.alloc (.cells #[.int .u64 p0, .int .u64 p1, .int .u64 p2, .int .u64 p3] 24)) w4.heap.size p0 p1 p2 p3) := by refine ⟨by simp, ?_, ?_, ?_, ?_⟩ <;> simp [go_sem]
      have hB : Below w.heap.size w (w4.alloc (.cells #[.int .u64 p0, .int .u64 p1, .int .u64 p2, .int .u64 p3] 24)) := hB.alloc hB.size _
      clear zA A0_ A1_ A2_ A3_
      generalize w4.heap.size = c2 at *
      generalize w4.alloc (.cells #[.int .u64 p0, .int .u64 p1, .int .u64 p2, .int .u64 p3] 24) = w5 at *
      refine Calls.mono (HSh.out _) ?_
      rintro e w6 ⟨xv, rfl, NX, hw⟩
      have KA : Hid _ := Cel.on KA.out (by rfl) hw
      have KK : Hid _ := Cel.on KK.out (by rfl) hw
      have KP : Hid _ := Cel.on KP.out (by rfl) hw
      have hB : Below w.heap.size w w6 := hB.trans (hw.mono hB.size)
      clear hw
      go_wp2_with fail
      refine Calls.mono (HRd.out _ _ NX) ?_
      rintro e w7 ⟨rfl, hw⟩
      have KA : Hid _ := Cel.on KA.out (by rfl) hw
      have KK : Hid _ := Cel.on KK.out (by rfl) hw
      have KP : Hid _ := Cel.on KP.out (by rfl) hw
      have hB : Below w.heap.size w w7 := hB.trans (hw.mono hB.size)
      clear hw NX
      go_wp2_with fail
      have KA : Hid (Cel (w7.alloc (.cells #[.int .u64 a0, .int .u64 a1, .int .u64 a2, .int .u64 a3] 24)) w.heap.size a0 a1 a2 a3) := Cel.onto KA.out _
      have KK : Hid (Cel (w7.alloc (.cells #[.int .u64 a0, .int .u64 a1, .int .u64 a2, .int .u64 a3] 24)) c1 n 0 0 0) := Cel.onto KK.out _
      have KP : Hid (Cel (w7.alloc (.cells #[.int .u64 a0, .int .u64 a1, .int .u64 a2, .int .u64 a3] 24)) c2 p0 p1 p2 p3) := Cel.onto KP.out _
      have KX : Hid (Cel (w7.alloc (.cells #[.int .u64 a0, .int .u64 a1, .int .u64 a2, .int .u64 a3] 24)) w7.heap.size a0 a1 a2 a3) := by refine ⟨by simp, ?_, ?_, ?_, ?_⟩ <;> simp [go_sem]
      have hB : Below w.heap.size w (w7.alloc (.cells #[.int .u64 a0, .int .u64 a1, .int .u64 a2, .int .u64 a3] 24)) := hB.alloc hB.size _
      generalize w7.heap.size = c3 at *
      generalize w7.alloc (.cells #[.int .u64 a0, .int .u64 a1, .int .u64 a2, .int .u64 a3] 24) = w8 at *
      have hs0 := hB.size
      have s_ : Hid (w.heap.size < w8.heap.size ∧ c1 < w8.heap.size ∧ c2 < w8.heap.size ∧ c3 < w8.heap.size ∧ w8.cell? ⟨w.heap.size, 0, none⟩ = some (.int .u64 a0) ∧ w8.cell? ⟨w.heap.size, 1, none⟩ = some (.int .u64 a1) ∧ w8.cell? ⟨w.heap.size, 2, none⟩ = some (.int .u64 a2) ∧ w8.cell? ⟨w.heap.size, 3, none⟩ = some (.int .u64 a3) ∧ w8.cell? ⟨c1, 0, none⟩ = some (.int .u64 n) ∧ w8.cell? ⟨c1, 1, none⟩ = some (.int .u64 0) ∧ w8.cell? ⟨c1, 2, none⟩ = some (.int .u64 0) ∧ w8.cell? ⟨c1, 3, none⟩ = some (.int .u64 0) ∧ w8.cell? ⟨c2, 0, none⟩ = some (.int .u64 p0) ∧ w8.cell? ⟨c2, 1, none⟩ = some (.int .u64 p1) ∧ w8.cell? ⟨c2, 2, none⟩ = some (.int .u64 p2) ∧ w8.cell? ⟨c2, 3, none⟩ = some (.int .u64 p3) ∧ w8.cell? ⟨c3, 0, none⟩ = some (.int .u64 a0) ∧ w8.cell? ⟨c3, 1, none⟩ = some (.int .u64 a1) ∧ w8.cell? ⟨c3, 2, none⟩ = some (.int .u64 a2) ∧ w8.cell? ⟨c3, 3, none⟩ = some (.int .u64 a3)) := by
        obtain ⟨zA, A0_, A1_, A2_, A3_⟩ := KA.out
        obtain ⟨zK, K0_, K1_, K2_, K3_⟩ := KK.out
        obtain ⟨zP, P0_, P1_, P2_, P3_⟩ := KP.out
        obtain ⟨zX, X0_, X1_, X2_, X3_⟩ := KX.out
        exact ⟨zA, zK, zP, zX, A0_, A1_, A2_, A3_, K0_, K1_, K2_, K3_, P0_, P1_, P2_, P3_, X0_, X1_, X2_, X3_⟩
      clear KA KK KP KX
      go_region_held3 (fun w' => w.heap.size < w'.heap.size ∧ c1 < w'.heap.size ∧ c2 < w'.heap.size ∧ c3 < w'.heap.size ∧ w'.cell? ⟨w.heap.size, 0, none⟩ = some (.int .u64 a0) ∧ w'.cell? ⟨w.heap.size, 1, none⟩ = some (.int .u64 a1) ∧ w'.cell? ⟨w.heap.size, 2, none⟩ = some (.int .u64 a2) ∧ w'.cell? ⟨w.heap.size, 3, none⟩ = some (.int .u64 a3) ∧ w'.cell? ⟨c1, 0, none⟩ = some (.int .u64 n) ∧ w'.cell? ⟨c1, 1, none⟩ = some (.int .u64 0) ∧ w'.cell? ⟨c1, 2, none⟩ = some (.int .u64 0) ∧ w'.cell? ⟨c1, 3, none⟩ = some (.int .u64 0) ∧ w'.cell? ⟨c2, 0, none⟩ = some (.int .u64 p0) ∧ w'.cell? ⟨c2, 1, none⟩ = some (.int .u64 p1) ∧ w'.cell? ⟨c2, 2, none⟩ = some (.int .u64 p2) ∧ w'.cell? ⟨c2, 3, none⟩ = some (.int .u64 p3) ∧ w'.cell? ⟨c3, 0, none⟩ = some (.int .u64 a0) ∧ w'.cell? ⟨c3, 1, none⟩ = some (.int .u64 a1) ∧ w'.cell? ⟨c3, 2, none⟩ = some (.int .u64 a2) ∧ w'.cell? ⟨c3, 3, none⟩ = some (.int .u64 a3)) ((refine keepK s_.out ?_; go_grown; done)) (first | (go_at_call_of 15 ([Value.agg #[Value.int .u64 n, Value.int .u64 0, Value.int .u64 0, Value.int .u64 0], Value.agg #[Value.int .u64 a0, Value.int .u64 a1, Value.int .u64 a2, Value.int .u64 a3]]); go_must (refine Calls.mono (H15ka.out _) ?_; rintro e w2 ⟨rfl, hw2⟩; have hs0 := hB.size; have hB : Below w.heap.size w w2 := Below.trans (by go_grown) (hw2.mono (by go_size)); have s_ : Hid _ := keepKs s_.out (by go_grown) hw2; have hs0 := hB.size; clear hw2)) | (go_at_call_of 5 ([Value.agg #[Value.int .u64 a0, Value.int .u64 a1, Value.int .u64 a2, Value.int .u64 a3], Value.agg #[Value.int .u64 p0, Value.int .u64 p1, Value.int .u64 p2, Value.int .u64 p3]]); go_must (refine Calls.mono (H5ap.out _) ?_; rintro e w2 ⟨rfl, hw2⟩; have hs0 := hB.size; have hB : Below w.heap.size w w2 := Below.trans (by go_grown) (hw2.mono (by go_size)); have s_ : Hid _ := keepKs s_.out (by go_grown) hw2; have hs0 := hB.size; clear hw2)) | (go_at_call_of 16 ([Value.agg #[Value.int .u64 n, Value.int .u64 0, Value.int .u64 0, Value.int .u64 0], Value.agg #[Value.int .u64 a0, Value.int .u64 a1, Value.int .u64 a2, Value.int .u64 a3]]); go_must (refine Calls.mono (H16ka.out _) ?_; rintro e w2 ⟨rfl, hw2⟩; have hs0 := hB.size; have hB : Below w.heap.size w w2 := Below.trans (by go_grown) (hw2.mono (by go_size)); have s_ : Hid _ := keepKs s_.out (by go_grown) hw2; have hs0 := hB.size; clear hw2)) | (go_at_call_of 6 ([Value.agg #[Value.int .u64 a0, Value.int .u64 a1, Value.int .u64 a2, Value.int .u64 a3], Value.agg #[Value.int .u64 p0, Value.int .u64 p1, Value.int .u64 p2, Value.int .u64 p3]]); go_must (refine Calls.mono (H6ap.out _) ?_; rintro e w2 ⟨rfl, hw2⟩; have hs0 := hB.size; have hB : Below w.heap.size w w2 := Below.trans (by go_grown) (hw2.mono (by go_size)); have s_ : Hid _ := keepKs s_.out (by go_grown) hw2; have hs0 := hB.size; clear hw2)) | (go_at_call 17; go_must (refine Calls.mono (alive_any _) ?_; rintro e w2 ⟨rfl, hw2⟩; have hs0 := hB.size; have hB : Below w.heap.size w w2 := Below.trans (by go_grown) (hw2.mono (by go_size)); have s_ : Hid _ := keepKs s_.out (by go_grown) hw2; have hs0 := hB.size; clear hw2)))
      go_wp2
      go_ret
      exact ⟨rfl, by go_grown⟩

end Go.Proofs.Ytjbdfmepeniglab
