/- Walks over package word: quotients and what is left. -/
import Derived.Test.YtmflilgppllebaaVV
import Derived.Test.YtmflilgppllebaaB2
namespace Go.Proofs.Ytmflilgppllebaa
open Go.RowKit
set_option linter.unusedSimpArgs false
set_option linter.unusedVariables false

set_option maxHeartbeats 1000000 in
theorem divide_zero (u0 u1 u2 u3 u4 u5 u6 u7 : Int) (w : World) :
    Calls Try.prog 80 #[W8 u0 u1 u2 u3 u4 u5 u6 u7, W4 0 0 0 0] w fun e w' => e = .returned (.tuple #[W8 0 0 0 0 0 0 0 0, W4 0 0 0 0]) ∧ Below w.heap.size w w' := by
  unfold W4 W8
  go_enter Try.func80, Try.ntmps80
  go_wp2_with fail
  refine (used_any 0 0 0 0 _).mono ?_
  rintro e w1 ⟨rfl, c, rfl⟩
  rw [show usedN 0 0 0 0 = 0 from rfl]
  go_wp2
  go_returns
  exact ⟨rfl, by go_grown⟩
/-- x / y, and 0 where y is 0. -/
def quoN (x y : Int) : Int := x / y
/-- What y leaves of x, and 0 where y is 0. -/
def remN (x y : Int) : Int := if y = 0 then 0 else x % y
/-- word.divide -/
theorem divide_any (u0 u1 u2 u3 u4 u5 u6 u7 v0 v1 v2 v3 : Int) (hu : L4 u0 u1 u2 u3 ∧ L4 u4 u5 u6 u7) (hv : L4 v0 v1 v2 v3) (w : World) :
    Calls Try.prog 80 #[W8 u0 u1 u2 u3 u4 u5 u6 u7, W4 v0 v1 v2 v3] w fun e w' => ∃ q0 q1 q2 q3 q4 q5 q6 q7 y0 y1 y2 y3 : Int, e = .returned (.tuple #[W8 q0 q1 q2 q3 q4 q5 q6 q7, W4 y0 y1 y2 y3]) ∧ (L4 q0 q1 q2 q3 ∧ L4 q4 q5 q6 q7) ∧ L4 y0 y1 y2 y3 ∧
      Hid (num q0 q1 q2 q3 + T256 * num q4 q5 q6 q7 = quoN (num u0 u1 u2 u3 + T256 * num u4 u5 u6 u7) (num v0 v1 v2 v3)) ∧ Hid (num y0 y1 y2 y3 = remN (num u0 u1 u2 u3 + T256 * num u4 u5 u6 u7) (num v0 v1 v2 v3)) ∧ Below w.heap.size w w' := by
  have p0 := hv.1.1
  have p1 := hv.2.1.1
  have p2 := hv.2.2.1.1
  have p3 := hv.2.2.2.1
  have rm : num v0 v1 v2 v3 ≠ 0 → remN (num u0 u1 u2 u3 + T256 * num u4 u5 u6 u7) (num v0 v1 v2 v3) = (num u0 u1 u2 u3 + T256 * num u4 u5 u6 u7) % num v0 v1 v2 v3 := fun h => by unfold remN; rw [if_neg h]
  unfold quoN
  by_cases h3 : v3 = 0
  · by_cases h2 : v2 = 0
    · by_cases h1 : v1 = 0
      · by_cases h0 : v0 = 0
        · subst h0 h1 h2 h3
          refine (divide_zero u0 u1 u2 u3 u4 u5 u6 u7 w).mono ?_
          rintro e w' ⟨rfl, hw⟩
          have ez : num 0 0 0 0 = 0 := by unfold num; omega
          refine ⟨0, 0, 0, 0, 0, 0, 0, 0, 0, 0, 0, 0, rfl, ⟨of_L4 limb0, of_L4 limb0⟩, of_L4 limb0, ?_, ?_, hw⟩
          · show _ = _
            rw [ez, Int.ediv_zero]; omega
          · show _ = _
            unfold remN
            rw [ez, if_pos rfl]
        · rw [rm (by unfold num; omega)]
          exact divide_walk1 u0 u1 u2 u3 u4 u5 u6 u7 v0 v1 v2 v3 hu hv (by simp [usedN, h0, h1, h2, h3]) (by omega) h1 h2 h3 w
      · rw [rm (by unfold num; omega)]
        exact divide_walk2 u0 u1 u2 u3 u4 u5 u6 u7 v0 v1 v2 v3 hu hv (by simp [usedN, h1, h2, h3]) (by omega) h2 h3 w
    · rw [rm (by unfold num; omega)]
      exact divide_walk3 u0 u1 u2 u3 u4 u5 u6 u7 v0 v1 v2 v3 hu hv (by simp [usedN, h2, h3]) (by omega) h3 w
  · rw [rm (by unfold num; omega)]
    exact divide_walk4 u0 u1 u2 u3 u4 u5 u6 u7 v0 v1 v2 v3 hu hv (by simp [usedN, h3]) (by omega) w
theorem keep3 {n : Nat} {a0 a1 a2 a3 b0 b1 b2 b3 n0 n1 n2 n3 : Int} {W w1 : World} (h : n + 1 + 1 + 1 < W.heap.size ∧ W.cell? ⟨n, 0, none⟩ = some (.int .u64 a0) ∧ W.cell? ⟨n, 1, none⟩ = some (.int .u64 a1) ∧ W.cell? ⟨n, 2, none⟩ = some (.int .u64 a2) ∧ W.cell? ⟨n, 3, none⟩ = some (.int .u64 a3) ∧ W.cell? ⟨n + 1, 0, none⟩ = some (.int .u64 b0) ∧ W.cell? ⟨n + 1, 1, none⟩ = some (.int .u64 b1) ∧ W.cell? ⟨n + 1, 2, none⟩ = some (.int .u64 b2) ∧ W.cell? ⟨n + 1, 3, none⟩ = some (.int .u64 b3) ∧ W.cell? ⟨n + 1 + 1, 0, none⟩ = some (.int .u64 n0) ∧ W.cell? ⟨n + 1 + 1, 1, none⟩ = some (.int .u64 n1) ∧ W.cell? ⟨n + 1 + 1, 2, none⟩ = some (.int .u64 n2) ∧ W.cell? ⟨n + 1 + 1, 3, none⟩ = some (.int .u64 n3)) (hb : Below (n + 1 + 1 + 1) W w1) : n + 1 + 1 + 1 < w1.heap.size ∧ w1.cell? ⟨n, 0, none⟩ = some (.int .u64 a0) ∧ w1.cell? ⟨n, 1, none⟩ = some (.int .u64 a1) ∧ w1.cell? ⟨n, 2, none⟩ = some (.int .u64 a2) ∧ w1.cell? ⟨n, 3, none⟩ = some (.int .u64 a3) ∧ w1.cell? ⟨n + 1, 0, none⟩ = some (.int .u64 b0) ∧ w1.cell? ⟨n + 1, 1, none⟩ = some (.int .u64 b1) ∧ w1.cell? ⟨n + 1, 2, none⟩ = some (.int .u64 b2) ∧ w1.cell? ⟨n + 1, 3, none⟩ = some (.int .u64 b3) ∧ w1.cell? ⟨n + 1 + 1, 0, none⟩ = some (.int .u64 n0) ∧ w1.cell? ⟨n + 1 + 1, 1, none⟩ = some (.int .u64 n1) ∧ w1.cell? ⟨n + 1 + 1, 2, none⟩ = some (.int .u64 n2) ∧ w1.cell? ⟨n + 1 + 1, 3, none⟩ = some (.int .u64 n3) := by
  obtain ⟨hz, c0_0, c0_1, c0_2, c0_3, c1_0, c1_1, c1_2, c1_3, c2_0, c2_1, c2_2, c2_3⟩ := h
  exact ⟨Nat.lt_of_lt_of_le hz hb.size, cells_below hb _ _ _ (by omega) c0_0, cells_below hb _ _ _ (by omega) c0_1, cells_below hb _ _ _ (by omega) c0_2, cells_below hb _ _ _ (by omega) c0_3, cells_below hb _ _ _ (by omega) c1_0, cells_below hb _ _ _ (by omega) c1_1, cells_below hb _ _ _ (by omega) c1_2, cells_below hb _ _ _ (by omega) c1_3, cells_below hb _ _ _ (by omega) c2_0, cells_below hb _ _ _ (by omega) c2_1, cells_below hb _ _ _ (by omega) c2_2, cells_below hb _ _ _ (by omega) c2_3⟩
theorem keep3b {n : Nat} {a0 a1 a2 a3 b0 b1 b2 b3 n0 n1 n2 n3 : Int} {W w1 : World} (h : n + 1 + 1 + 1 < W.heap.size ∧ W.cell? ⟨n, 0, none⟩ = some (.int .u64 a0) ∧ W.cell? ⟨n, 1, none⟩ = some (.int .u64 a1) ∧ W.cell? ⟨n, 2, none⟩ = some (.int .u64 a2) ∧ W.cell? ⟨n, 3, none⟩ = some (.int .u64 a3) ∧ W.cell? ⟨n + 1, 0, none⟩ = some (.int .u64 b0) ∧ W.cell? ⟨n + 1, 1, none⟩ = some (.int .u64 b1) ∧ W.cell? ⟨n + 1, 2, none⟩ = some (.int .u64 b2) ∧ W.cell? ⟨n + 1, 3, none⟩ = some (.int .u64 b3) ∧ W.cell? ⟨n + 1 + 1, 0, none⟩ = some (.int .u64 n0) ∧ W.cell? ⟨n + 1 + 1, 1, none⟩ = some (.int .u64 n1) ∧ W.cell? ⟨n + 1 + 1, 2, none⟩ = some (.int .u64 n2) ∧ W.cell? ⟨n + 1 + 1, 3, none⟩ = some (.int .u64 n3)) (hb : Below W.heap.size W w1) : n + 1 + 1 + 1 < w1.heap.size ∧ w1.cell? ⟨n, 0, none⟩ = some (.int .u64 a0) ∧ w1.cell? ⟨n, 1, none⟩ = some (.int .u64 a1) ∧ w1.cell? ⟨n, 2, none⟩ = some (.int .u64 a2) ∧ w1.cell? ⟨n, 3, none⟩ = some (.int .u64 a3) ∧ w1.cell? ⟨n + 1, 0, none⟩ = some (.int .u64 b0) ∧ w1.cell? ⟨n + 1, 1, none⟩ = some (.int .u64 b1) ∧ w1.cell? ⟨n + 1, 2, none⟩ = some (.int .u64 b2) ∧ w1.cell? ⟨n + 1, 3, none⟩ = some (.int .u64 b3) ∧ w1.cell? ⟨n + 1 + 1, 0, none⟩ = some (.int .u64 n0) ∧ w1.cell? ⟨n + 1 + 1, 1, none⟩ = some (.int .u64 n1) ∧ w1.cell? ⟨n + 1 + 1, 2, none⟩ = some (.int .u64 n2) ∧ w1.cell? ⟨n + 1 + 1, 3, none⟩ = some (.int .u64 n3) := keep3 h (hb.mono (by have := h.1; omega))
theorem keep3s {n : Nat} {a0 a1 a2 a3 b0 b1 b2 b3 n0 n1 n2 n3 : Int} {W0 W w1 : World} (h : n + 1 + 1 + 1 < W0.heap.size ∧ W0.cell? ⟨n, 0, none⟩ = some (.int .u64 a0) ∧ W0.cell? ⟨n, 1, none⟩ = some (.int .u64 a1) ∧ W0.cell? ⟨n, 2, none⟩ = some (.int .u64 a2) ∧ W0.cell? ⟨n, 3, none⟩ = some (.int .u64 a3) ∧ W0.cell? ⟨n + 1, 0, none⟩ = some (.int .u64 b0) ∧ W0.cell? ⟨n + 1, 1, none⟩ = some (.int .u64 b1) ∧ W0.cell? ⟨n + 1, 2, none⟩ = some (.int .u64 b2) ∧ W0.cell? ⟨n + 1, 3, none⟩ = some (.int .u64 b3) ∧ W0.cell? ⟨n + 1 + 1, 0, none⟩ = some (.int .u64 n0) ∧ W0.cell? ⟨n + 1 + 1, 1, none⟩ = some (.int .u64 n1) ∧ W0.cell? ⟨n + 1 + 1, 2, none⟩ = some (.int .u64 n2) ∧ W0.cell? ⟨n + 1 + 1, 3, none⟩ = some (.int .u64 n3)) (h1 : Below (n + 1 + 1 + 1) W0 W) (hb : Below W.heap.size W w1) : n + 1 + 1 + 1 < w1.heap.size ∧ w1.cell? ⟨n, 0, none⟩ = some (.int .u64 a0) ∧ w1.cell? ⟨n, 1, none⟩ = some (.int .u64 a1) ∧ w1.cell? ⟨n, 2, none⟩ = some (.int .u64 a2) ∧ w1.cell? ⟨n, 3, none⟩ = some (.int .u64 a3) ∧ w1.cell? ⟨n + 1, 0, none⟩ = some (.int .u64 b0) ∧ w1.cell? ⟨n + 1, 1, none⟩ = some (.int .u64 b1) ∧ w1.cell? ⟨n + 1, 2, none⟩ = some (.int .u64 b2) ∧ w1.cell? ⟨n + 1, 3, none⟩ = some (.int .u64 b3) ∧ w1.cell? ⟨n + 1 + 1, 0, none⟩ = some (.int .u64 n0) ∧ w1.cell? ⟨n + 1 + 1, 1, none⟩ = some (.int .u64 n1) ∧ w1.cell? ⟨n + 1 + 1, 2, none⟩ = some (.int .u64 n2) ∧ w1.cell? ⟨n + 1 + 1, 3, none⟩ = some (.int .u64 n3) := keep3b (keep3 h h1) hb
theorem keep3c {n : Nat} {a0 a1 a2 a3 b0 b1 b2 b3 n0 n1 n2 n3 : Int} {W : World} (h : n + 1 + 1 + 1 < W.heap.size ∧ W.cell? ⟨n, 0, none⟩ = some (.int .u64 a0) ∧ W.cell? ⟨n, 1, none⟩ = some (.int .u64 a1) ∧ W.cell? ⟨n, 2, none⟩ = some (.int .u64 a2) ∧ W.cell? ⟨n, 3, none⟩ = some (.int .u64 a3) ∧ W.cell? ⟨n + 1, 0, none⟩ = some (.int .u64 b0) ∧ W.cell? ⟨n + 1, 1, none⟩ = some (.int .u64 b1) ∧ W.cell? ⟨n + 1, 2, none⟩ = some (.int .u64 b2) ∧ W.cell? ⟨n + 1, 3, none⟩ = some (.int .u64 b3) ∧ W.cell? ⟨n + 1 + 1, 0, none⟩ = some (.int .u64 n0) ∧ W.cell? ⟨n + 1 + 1, 1, none⟩ = some (.int .u64 n1) ∧ W.cell? ⟨n + 1 + 1, 2, none⟩ = some (.int .u64 n2) ∧ W.cell? ⟨n + 1 + 1, 3, none⟩ = some (.int .u64 n3)) {c o : Nat} {v : Value} (e0 : c ≠ n) (e1 : c ≠ n + 1) (e2 : c ≠ n + 1 + 1) : n + 1 + 1 + 1 < (W.setCell ⟨c, o, none⟩ v).heap.size ∧ (W.setCell ⟨c, o, none⟩ v).cell? ⟨n, 0, none⟩ = some (.int .u64 a0) ∧ (W.setCell ⟨c, o, none⟩ v).cell? ⟨n, 1, none⟩ = some (.int .u64 a1) ∧ (W.setCell ⟨c, o, none⟩ v).cell? ⟨n, 2, none⟩ = some (.int .u64 a2) ∧ (W.setCell ⟨c, o, none⟩ v).cell? ⟨n, 3, none⟩ = some (.int .u64 a3) ∧ (W.setCell ⟨c, o, none⟩ v).cell? ⟨n + 1, 0, none⟩ = some (.int .u64 b0) ∧ (W.setCell ⟨c, o, none⟩ v).cell? ⟨n + 1, 1, none⟩ = some (.int .u64 b1) ∧ (W.setCell ⟨c, o, none⟩ v).cell? ⟨n + 1, 2, none⟩ = some (.int .u64 b2) ∧ (W.setCell ⟨c, o, none⟩ v).cell? ⟨n + 1, 3, none⟩ = some (.int .u64 b3) ∧ (W.setCell ⟨c, o, none⟩ v).cell? ⟨n + 1 + 1, 0, none⟩ = some (.int .u64 n0) ∧ (W.setCell ⟨c, o, none⟩ v).cell? ⟨n + 1 + 1, 1, none⟩ = some (.int .u64 n1) ∧ (W.setCell ⟨c, o, none⟩ v).cell? ⟨n + 1 + 1, 2, none⟩ = some (.int .u64 n2) ∧ (W.setCell ⟨c, o, none⟩ v).cell? ⟨n + 1 + 1, 3, none⟩ = some (.int .u64 n3) := by
  obtain ⟨hz, c0_0, c0_1, c0_2, c0_3, c1_0, c1_1, c1_2, c1_3, c2_0, c2_1, c2_2, c2_3⟩ := h
  refine ⟨by simp [World.setCell]; exact hz, ?_, ?_, ?_, ?_, ?_, ?_, ?_, ?_, ?_, ?_, ?_, ?_⟩
  · rw [World.cell?_setCell_far _ _ _ _ (by simpa using e0)]; exact c0_0
  · rw [World.cell?_setCell_far _ _ _ _ (by simpa using e0)]; exact c0_1
  · rw [World.cell?_setCell_far _ _ _ _ (by simpa using e0)]; exact c0_2
  · rw [World.cell?_setCell_far _ _ _ _ (by simpa using e0)]; exact c0_3
  · rw [World.cell?_setCell_far _ _ _ _ (by simpa using e1)]; exact c1_0
  · rw [World.cell?_setCell_far _ _ _ _ (by simpa using e1)]; exact c1_1
  · rw [World.cell?_setCell_far _ _ _ _ (by simpa using e1)]; exact c1_2
  · rw [World.cell?_setCell_far _ _ _ _ (by simpa using e1)]; exact c1_3
  · rw [World.cell?_setCell_far _ _ _ _ (by simpa using e2)]; exact c2_0
  · rw [World.cell?_setCell_far _ _ _ _ (by simpa using e2)]; exact c2_1
  · rw [World.cell?_setCell_far _ _ _ _ (by simpa using e2)]; exact c2_2
  · rw [World.cell?_setCell_far _ _ _ _ (by simpa using e2)]; exact c2_3

set_option maxHeartbeats 20000000 in
/-- word.Mulmod -/
theorem mulmod_any (a0 a1 a2 a3 b0 b1 b2 b3 n0 n1 n2 n3 : Int) (ha : L4 a0 a1 a2 a3) (hb : L4 b0 b1 b2 b3) (hn : L4 n0 n1 n2 n3) (w : World) :
    Calls Try.prog 67 #[W4 a0 a1 a2 a3, W4 b0 b1 b2 b3, W4 n0 n1 n2 n3] w fun e w' =>
      ∃ s0 s1 s2 s3 : Int, e = .returned (W4 s0 s1 s2 s3) ∧ L4 s0 s1 s2 s3 ∧ Hid (num s0 s1 s2 s3 = remN (num a0 a1 a2 a3 * num b0 b1 b2 b3) (num n0 n1 n2 n3)) ∧ Below w.heap.size w w' := by
  have HA : Hid _ := ha
  have HB : Hid _ := hb
  have HN : Hid _ := hn
  clear ha hb hn
  unfold W4
  go_enter Try.func67, Try.ntmps67
  go_wp2
  have s : Hid (w.heap.size + 1 + 1 + 1 < (((((w.alloc (.cells #[.int .u64 a0, .int .u64 a1, .int .u64 a2, .int .u64 a3] 24)).alloc (.cells #[.int .u64 b0, .int .u64 b1, .int .u64 b2, .int .u64 b3] 24)).alloc (.cells #[.int .u64 n0, .int .u64 n1, .int .u64 n2, .int .u64 n3] 24)).alloc (.cells #[.int .u64 0, .int .u64 0, .int .u64 0, .int .u64 0] 24))).heap.size ∧ (((((w.alloc (.cells #[.int .u64 a0, .int .u64 a1, .int .u64 a2, .int .u64 a3] 24)).alloc (.cells #[.int .u64 b0, .int .u64 b1, .int .u64 b2, .int .u64 b3] 24)).alloc (.cells #[.int .u64 n0, .int .u64 n1, .int .u64 n2, .int .u64 n3] 24)).alloc (.cells #[.int .u64 0, .int .u64 0, .int .u64 0, .int .u64 0] 24))).cell? ⟨w.heap.size, 0, none⟩ = some (.int .u64 a0) ∧ (((((w.alloc (.cells #[.int .u64 a0, .int .u64 a1, .int .u64 a2, .int .u64 a3] 24)).alloc (.cells #[.int .u64 b0, .int .u64 b1, .int .u64 b2, .int .u64 b3] 24)).alloc (.cells #[.int .u64 n0, .int .u64 n1, .int .u64 n2, .int .u64 n3] 24)).alloc (.cells #[.int .u64 0, .int .u64 0, .int .u64 0, .int .u64 0] 24))).cell? ⟨w.heap.size, 1, none⟩ = some (.int .u64 a1) ∧ (((((w.alloc (.cells #[.int .u64 a0, .int .u64 a1, .int .u64 a2, .int .u64 a3] 24)).alloc (.cells #[.int .u64 b0, .int .u64 b1, .int .u64 b2, .int .u64 b3] 24)).alloc (.cells #[.int .u64 n0, .int .u64 n1, .int .u64 n2, .int .u64 n3] 24)).alloc (.cells #[.int .u64 0, .int .u64 0, .int .u64 0, .int .u64 0] 24))).cell? ⟨w.heap.size, 2, none⟩ = some (.int .u64 a2) ∧ (((((w.alloc (.cells #[.int .u64 a0, .int .u64 a1, .int .u64 a2, .int .u64 a3] 24)).alloc (.cells #[.int .u64 b0, .int .u64 b1, .int .u64 b2, .int .u64 b3] 24)).alloc (.cells #[.int .u64 n0, .int .u64 n1, .int .u64 n2, .int .u64 n3] 24)).alloc (.cells #[.int .u64 0, .int .u64 0, .int .u64 0, .int .u64 0] 24))).cell? ⟨w.heap.size, 3, none⟩ = some (.int .u64 a3) ∧ (((((w.alloc (.cells #[.int .u64 a0, .int .u64 a1, .int .u64 a2, .int .u64 a3] 24)).alloc (.cells #[.int .u64 b0, .int .u64 b1, .int .u64 b2, .int .u64 b3] 24)).alloc (.cells #[.int .u64 n0, .int .u64 n1, .int .u64 n2, .int .u64 n3] 24)).alloc (.cells #[.int .u64 0, .int .u64 0, .int .u64 0, .int .u64 0] 24))).cell? ⟨w.heap.size + 1, 0, none⟩ = some (.int .u64 b0) ∧ (((((w.alloc (.cells #[.int .u64 a0, .int .u64 a1, .int .u64 a2, .int .u64 a3] 24)).alloc (.cells #[.int .u64 b0, .int .u64 b1, .int .u64 b2, .int .u64 b3] 24)).alloc (.cells #[.int .u64 n0, .int .u64 n1, .int .u64 n2, .int .u64 n3] 24)).alloc (.cells #[.int .u64 0, .int .u64 0, .int .u64 0, .int .u64 0] 24))).cell? ⟨w.heap.size + 1, 1, none⟩ = some (.int .u64 b1) ∧ (((((w.alloc (.cells #[.int .u64 a0, .int .u64 a1, .int .u64 a2, .int .u64 a3] 24)).alloc (.cells #[.int .u64 b0, .int .u64 b1, .int .u64 b2, .int .u64 b3] 24)).alloc (.cells #[.int .u64 n0, .int .u64 n1, .int .u64 n2, .int .u64 n3] 24)).alloc (.cells #[.int .u64 0, .int .u64 0, .int .u64 0, .int .u64 0] 24))).cell? ⟨w.heap.size + 1, 2, none⟩ = some (.int .u64 b2) ∧ (((((w.alloc (.cells #[.int .u64 a0, .int .u64 a1, .int .u64 a2, .int .u64 a3] 24)).alloc (.cells #[.int .u64 b0, .int .u64 b1, .int .u64 b2, .int .u64 b3] 24)).alloc (.cells #[.int .u64 n0, .int .u64 n1, .int .u64 n2, .int .u64 n3] 24)).alloc (.cells #[.int .u64 0, .int .u64 0, .int .u64 0, .int .u64 0] 24))).cell? ⟨w.heap.size + 1, 3, none⟩ = some (.int .u64 b3) ∧ (((((w.alloc (.cells #[.int .u64 a0, .int .u64 a1, .int .u64 a2, .int .u64 a3] 24)).alloc (.cells #[.int .u64 b0, .int .u64 b1, .int .u64 b2, .int .u64 b3] 24)).alloc (.cells #[.int .u64 n0, .int .u64 n1, .int .u64 n2, .int .u64 n3] 24)).alloc (.cells #[.int .u64 0, .int .u64 0, .int .u64 0, .int .u64 0] 24))).cell? ⟨w.heap.size + 1 + 1, 0, none⟩ = some (.int .u64 n0) ∧ (((((w.alloc (.cells #[.int .u64 a0, .int .u64 a1, .int .u64 a2, .int .u64 a3] 24)).alloc (.cells #[.int .u64 b0, .int .u64 b1, .int .u64 b2, .int .u64 b3] 24)).alloc (.cells #[.int .u64 n0, .int .u64 n1, .int .u64 n2, .int .u64 n3] 24)).alloc (.cells #[.int .u64 0, .int .u64 0, .int .u64 0, .int .u64 0] 24))).cell? ⟨w.heap.size + 1 + 1, 1, none⟩ = some (.int .u64 n1) ∧ (((((w.alloc (.cells #[.int .u64 a0, .int .u64 a1, .int .u64 a2, .int .u64 a3] 24)).alloc (.cells #[.int .u64 b0, .int .u64 b1, .int .u64 b2, .int .u64 b3] 24)).alloc (.cells #[.int .u64 n0, .int .u64 n1, .int .u64 n2, .int .u64 n3] 24)).alloc (.cells #[.int .u64 0, .int .u64 0, .int .u64 0, .int .u64 0] 24))).cell? ⟨w.heap.size + 1 + 1, 2, none⟩ = some (.int .u64 n2) ∧ (((((w.alloc (.cells #[.int .u64 a0, .int .u64 a1, .int .u64 a2, .int .u64 a3] 24)).alloc (.cells #[.int .u64 b0, .int .u64 b1, .int .u64 b2, .int .u64 b3] 24)).alloc (.cells #[.int .u64 n0, .int .u64 n1, .int .u64 n2, .int .u64 n3] 24)).alloc (.cells #[.int .u64 0, .int .u64 0, .int .u64 0, .int .u64 0] 24))).cell? ⟨w.heap.size + 1 + 1, 3, none⟩ = some (.int .u64 n3)) := by
    refine ⟨by simp, ?_, ?_, ?_, ?_, ?_, ?_, ?_, ?_, ?_, ?_, ?_, ?_⟩ <;> simp [go_sem, World.cell?_alloc_past]
  have r : ∀ k, k < 4 → (((((w.alloc (.cells #[.int .u64 a0, .int .u64 a1, .int .u64 a2, .int .u64 a3] 24)).alloc (.cells #[.int .u64 b0, .int .u64 b1, .int .u64 b2, .int .u64 b3] 24)).alloc (.cells #[.int .u64 n0, .int .u64 n1, .int .u64 n2, .int .u64 n3] 24)).alloc (.cells #[.int .u64 0, .int .u64 0, .int .u64 0, .int .u64 0] 24))).cell? ⟨w.heap.size + 1 + 1 + 1, k, none⟩ = some (.int .u64 0) := fun k hk => by
    rcases (by omega : k = 0 ∨ k = 1 ∨ k = 2 ∨ k = 3) with rfl | rfl | rfl | rfl <;> simp [go_sem, World.cell?_alloc_past]
  have fz : ∀ k, (((((w.alloc (.cells #[.int .u64 a0, .int .u64 a1, .int .u64 a2, .int .u64 a3] 24)).alloc (.cells #[.int .u64 b0, .int .u64 b1, .int .u64 b2, .int .u64 b3] 24)).alloc (.cells #[.int .u64 n0, .int .u64 n1, .int .u64 n2, .int .u64 n3] 24)).alloc (.cells #[.int .u64 0, .int .u64 0, .int .u64 0, .int .u64 0] 24))).frozen? ⟨w.heap.size + 1 + 1 + 1, k, none⟩ = false := fun k => by
    simp [go_sem, World.frozen?_alloc_past]
  have hB : Below w.heap.size w (((((w.alloc (.cells #[.int .u64 a0, .int .u64 a1, .int .u64 a2, .int .u64 a3] 24)).alloc (.cells #[.int .u64 b0, .int .u64 b1, .int .u64 b2, .int .u64 b3] 24)).alloc (.cells #[.int .u64 n0, .int .u64 n1, .int .u64 n2, .int .u64 n3] 24)).alloc (.cells #[.int .u64 0, .int .u64 0, .int .u64 0, .int .u64 0] 24))) := by go_grown
  generalize (((((w.alloc (.cells #[.int .u64 a0, .int .u64 a1, .int .u64 a2, .int .u64 a3] 24)).alloc (.cells #[.int .u64 b0, .int .u64 b1, .int .u64 b2, .int .u64 b3] 24)).alloc (.cells #[.int .u64 n0, .int .u64 n1, .int .u64 n2, .int .u64 n3] 24)).alloc (.cells #[.int .u64 0, .int .u64 0, .int .u64 0, .int .u64 0] 24))) = w0 at *
  have hz0 : w.heap.size + 1 + 1 + 1 < w0.heap.size := s.out.1
  go_cut [8] (fun s8 wc => ∃ (c : Nat) (y0 y1 y2 y3 : Int), s8 = .pointer (some ⟨c, 0, none⟩) ∧ L4 y0 y1 y2 y3 ∧ Hid (num y0 y1 y2 y3 = remN (num a0 a1 a2 a3 * num b0 b1 b2 b3) (num n0 n1 n2 n3)) ∧ wc.cell? ⟨c, 0, none⟩ = some (.int .u64 y0) ∧ wc.cell? ⟨c, 1, none⟩ = some (.int .u64 y1) ∧ wc.cell? ⟨c, 2, none⟩ = some (.int .u64 y2) ∧ wc.cell? ⟨c, 3, none⟩ = some (.int .u64 y3) ∧ (∀ k, k < 4 → wc.cell? ⟨w.heap.size + 1 + 1 + 1, k, none⟩ = some (.int .u64 0)) ∧ (∀ k, wc.frozen? ⟨w.heap.size + 1 + 1 + 1, k, none⟩ = false) ∧ Below w.heap.size w wc ∧ w.heap.size + 1 + 1 + 1 < wc.heap.size)
  case rest =>
    obtain ⟨c, y0, y1, y2, y3, rfl, L, E, g0, g1, g2, g3, r, fz, hB, hz⟩ := hcut
    go_wp2
    refine bodyPost_ret (v := W4 y0 y1 y2 y3) (by simp [results, Try.results67, go_sem, r, hz]) rfl ?_
    have hs0 := hB.size
    exact ⟨y0, y1, y2, y3, rfl, L, E, by go_grown⟩
  case first =>
    go_region_held3 (fun w' => w.heap.size + 1 + 1 + 1 < w'.heap.size ∧ w'.cell? ⟨w.heap.size, 0, none⟩ = some (.int .u64 a0) ∧ w'.cell? ⟨w.heap.size, 1, none⟩ = some (.int .u64 a1) ∧ w'.cell? ⟨w.heap.size, 2, none⟩ = some (.int .u64 a2) ∧ w'.cell? ⟨w.heap.size, 3, none⟩ = some (.int .u64 a3) ∧ w'.cell? ⟨w.heap.size + 1, 0, none⟩ = some (.int .u64 b0) ∧ w'.cell? ⟨w.heap.size + 1, 1, none⟩ = some (.int .u64 b1) ∧ w'.cell? ⟨w.heap.size + 1, 2, none⟩ = some (.int .u64 b2) ∧ w'.cell? ⟨w.heap.size + 1, 3, none⟩ = some (.int .u64 b3) ∧ w'.cell? ⟨w.heap.size + 1 + 1, 0, none⟩ = some (.int .u64 n0) ∧ w'.cell? ⟨w.heap.size + 1 + 1, 1, none⟩ = some (.int .u64 n1) ∧ w'.cell? ⟨w.heap.size + 1 + 1, 2, none⟩ = some (.int .u64 n2) ∧ w'.cell? ⟨w.heap.size + 1 + 1, 3, none⟩ = some (.int .u64 n3)) ((refine keep3 s.out ?_; go_grown; done))
      (first
        | (go_at_call 82; go_must (refine (product_any a0 a1 a2 a3 b0 b1 b2 b3 HA.out HB.out _).mono ?_; rintro e w1 ⟨p0, p1, p2, p3, p4, p5, p6, p7, rfl, L, L', hE, hw⟩; obtain ⟨hc_w1, hf_w1, hl_w1⟩ := belt hw; have hzs := s.out.1; have r := stepR2 r (by go_grown) hw (by go_size); have fz := stepF2 fz (by go_grown) hw (by go_size); have hB : Below w.heap.size w w1 := Below.trans (by go_grown) (hw.mono (by have := s.out.1; go_size)); have s : Hid _ := keep3s s.out (by go_grown) hw; have hz_w1 := s.out.1; try have k0_w1_0 : w0.heap.size < w1.heap.size := (by have := hw.size; simp at this; omega); try have k1_w1_0 : w0.heap.size + 1 < w1.heap.size := (by have := hw.size; simp at this; omega)))
        | (go_at_call 80; go_must (refine (divide_any p0 p1 p2 p3 p4 p5 p6 p7 n0 n1 n2 n3 ⟨L, L'⟩ HN.out _).mono ?_; rintro e w2 ⟨q0, q1, q2, q3, q4, q5, q6, q7, y0, y1, y2, y3, rfl, LQ, LY, hQ, hR, hw2⟩; obtain ⟨hc_w2, hf_w2, hl_w2⟩ := belt hw2; have hzs := s.out.1; have r := stepR2 r (by go_grown) hw2 (by go_size); have fz := stepF2 fz (by go_grown) hw2 (by go_size); have hB : Below w.heap.size w w2 := Below.trans (by go_grown) (hw2.mono (by have := s.out.1; go_size)); have s : Hid _ := keep3s s.out (by go_grown) hw2; have hz_w2 := s.out.1; try have k0_w2_0 : w0.heap.size < w2.heap.size := (by have := hw2.size; simp at this; omega); try have k1_w2_0 : w0.heap.size + 1 < w2.heap.size := (by have := hw2.size; simp at this; omega); try have k0_w2_1 : w1.heap.size < w2.heap.size := (by have := hw2.size; simp at this; omega); try have k1_w2_1 : w1.heap.size + 1 < w2.heap.size := (by have := hw2.size; simp at this; omega))))
    all_goals go_wp2
    all_goals go_meet
    all_goals
      have hEE : num y0 y1 y2 y3 = remN (num a0 a1 a2 a3 * num b0 b1 b2 b3) (num n0 n1 n2 n3) := hR.out.trans (by rw [← hE.out])
      refine ⟨_, y0, y1, y2, y3, rfl, LY, hEE, ?_, ?_, ?_, ?_, fun k hk => (Below.cell (B := w.heap.size + 1 + 1 + 1 + 1) (w := w2) (by go_grown) (p := ⟨_, k, none⟩) (by simp)).trans (r k hk), fun k => (Below.frozen (B := w.heap.size + 1 + 1 + 1 + 1) (w := w2) (by go_grown) (p := ⟨_, k, none⟩) (by simp)).trans (fz k), Below.trans hB (by go_grown), Nat.lt_of_lt_of_le hz_w2 (Below.size (B := w.heap.size + 1 + 1 + 1) (w := w2) (by go_grown))⟩
      all_goals first | (simp [*, go_sem]; done) | ((try simp [*, go_sem]); exact World.cell?_setCell_same (u := .int .u64 0) _ _ _ (by simp [*, go_sem]))
end Go.Proofs.Ytmflilgppllebaa
