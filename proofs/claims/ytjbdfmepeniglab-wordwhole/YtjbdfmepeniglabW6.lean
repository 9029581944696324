/- Walks over package word: signs drawn out. -/
import Derived.Test.YtjbdfmepeniglabW5
namespace Go.Proofs.Ytjbdfmepeniglab
open Go.RowKit
set_option linter.unusedSimpArgs false
set_option linter.unusedVariables false
theorem keepX {n : Nat} {x0 x1 x2 x3 p : Int} {W w1 : World} (h : n + 1 + 1 + 1 + 1 + 1 + 1 + 1 < W.heap.size ∧ W.cell? ⟨n + 1, 0, none⟩ = some (.int .u64 x0) ∧ W.cell? ⟨n + 1, 1, none⟩ = some (.int .u64 x1) ∧ W.cell? ⟨n + 1, 2, none⟩ = some (.int .u64 x2) ∧ W.cell? ⟨n + 1, 3, none⟩ = some (.int .u64 x3) ∧ W.cell? ⟨n + 1 + 1 + 1 + 1 + 1 + 1 + 1, 0, none⟩ = some (.int .u64 p) ∧ W.cell? ⟨n + 1 + 1 + 1 + 1 + 1 + 1 + 1, 1, none⟩ = some (.int .u64 0) ∧ W.cell? ⟨n + 1 + 1 + 1 + 1 + 1 + 1 + 1, 2, none⟩ = some (.int .u64 0) ∧ W.cell? ⟨n + 1 + 1 + 1 + 1 + 1 + 1 + 1, 3, none⟩ = some (.int .u64 0)) (hb : Below (n + 1 + 1 + 1 + 1 + 1 + 1 + 1 + 1) W w1) : n + 1 + 1 + 1 + 1 + 1 + 1 + 1 < w1.heap.size ∧ w1.cell? ⟨n + 1, 0, none⟩ = some (.int .u64 x0) ∧ w1.cell? ⟨n + 1, 1, none⟩ = some (.int .u64 x1) ∧ w1.cell? ⟨n + 1, 2, none⟩ = some (.int .u64 x2) ∧ w1.cell? ⟨n + 1, 3, none⟩ = some (.int .u64 x3) ∧ w1.cell? ⟨n + 1 + 1 + 1 + 1 + 1 + 1 + 1, 0, none⟩ = some (.int .u64 p) ∧ w1.cell? ⟨n + 1 + 1 + 1 + 1 + 1 + 1 + 1, 1, none⟩ = some (.int .u64 0) ∧ w1.cell? ⟨n + 1 + 1 + 1 + 1 + 1 + 1 + 1, 2, none⟩ = some (.int .u64 0) ∧ w1.cell? ⟨n + 1 + 1 + 1 + 1 + 1 + 1 + 1, 3, none⟩ = some (.int .u64 0) := by
  obtain ⟨hz, c1_0, c1_1, c1_2, c1_3, c7_0, c7_1, c7_2, c7_3⟩ := h
  exact ⟨Nat.lt_of_lt_of_le hz hb.size, cells_below hb _ _ _ (by omega) c1_0, cells_below hb _ _ _ (by omega) c1_1, cells_below hb _ _ _ (by omega) c1_2, cells_below hb _ _ _ (by omega) c1_3, cells_below hb _ _ _ (by omega) c7_0, cells_below hb _ _ _ (by omega) c7_1, cells_below hb _ _ _ (by omega) c7_2, cells_below hb _ _ _ (by omega) c7_3⟩
theorem keepXb {n : Nat} {x0 x1 x2 x3 p : Int} {W w1 : World} (h : n + 1 + 1 + 1 + 1 + 1 + 1 + 1 < W.heap.size ∧ W.cell? ⟨n + 1, 0, none⟩ = some (.int .u64 x0) ∧ W.cell? ⟨n + 1, 1, none⟩ = some (.int .u64 x1) ∧ W.cell? ⟨n + 1, 2, none⟩ = some (.int .u64 x2) ∧ W.cell? ⟨n + 1, 3, none⟩ = some (.int .u64 x3) ∧ W.cell? ⟨n + 1 + 1 + 1 + 1 + 1 + 1 + 1, 0, none⟩ = some (.int .u64 p) ∧ W.cell? ⟨n + 1 + 1 + 1 + 1 + 1 + 1 + 1, 1, none⟩ = some (.int .u64 0) ∧ W.cell? ⟨n + 1 + 1 + 1 + 1 + 1 + 1 + 1, 2, none⟩ = some (.int .u64 0) ∧ W.cell? ⟨n + 1 + 1 + 1 + 1 + 1 + 1 + 1, 3, none⟩ = some (.int .u64 0)) (hb : Below W.heap.size W w1) : n + 1 + 1 + 1 + 1 + 1 + 1 + 1 < w1.heap.size ∧ w1.cell? ⟨n + 1, 0, none⟩ = some (.int .u64 x0) ∧ w1.cell? ⟨n + 1, 1, none⟩ = some (.int .u64 x1) ∧ w1.cell? ⟨n + 1, 2, none⟩ = some (.int .u64 x2) ∧ w1.cell? ⟨n + 1, 3, none⟩ = some (.int .u64 x3) ∧ w1.cell? ⟨n + 1 + 1 + 1 + 1 + 1 + 1 + 1, 0, none⟩ = some (.int .u64 p) ∧ w1.cell? ⟨n + 1 + 1 + 1 + 1 + 1 + 1 + 1, 1, none⟩ = some (.int .u64 0) ∧ w1.cell? ⟨n + 1 + 1 + 1 + 1 + 1 + 1 + 1, 2, none⟩ = some (.int .u64 0) ∧ w1.cell? ⟨n + 1 + 1 + 1 + 1 + 1 + 1 + 1, 3, none⟩ = some (.int .u64 0) := keepX h (hb.mono (by have := h.1; omega))
theorem keepXs {n : Nat} {x0 x1 x2 x3 p : Int} {W0 W w1 : World} (h : n + 1 + 1 + 1 + 1 + 1 + 1 + 1 < W0.heap.size ∧ W0.cell? ⟨n + 1, 0, none⟩ = some (.int .u64 x0) ∧ W0.cell? ⟨n + 1, 1, none⟩ = some (.int .u64 x1) ∧ W0.cell? ⟨n + 1, 2, none⟩ = some (.int .u64 x2) ∧ W0.cell? ⟨n + 1, 3, none⟩ = some (.int .u64 x3) ∧ W0.cell? ⟨n + 1 + 1 + 1 + 1 + 1 + 1 + 1, 0, none⟩ = some (.int .u64 p) ∧ W0.cell? ⟨n + 1 + 1 + 1 + 1 + 1 + 1 + 1, 1, none⟩ = some (.int .u64 0) ∧ W0.cell? ⟨n + 1 + 1 + 1 + 1 + 1 + 1 + 1, 2, none⟩ = some (.int .u64 0) ∧ W0.cell? ⟨n + 1 + 1 + 1 + 1 + 1 + 1 + 1, 3, none⟩ = some (.int .u64 0)) (h1 : Below (n + 1 + 1 + 1 + 1 + 1 + 1 + 1 + 1) W0 W) (hb : Below W.heap.size W w1) : n + 1 + 1 + 1 + 1 + 1 + 1 + 1 < w1.heap.size ∧ w1.cell? ⟨n + 1, 0, none⟩ = some (.int .u64 x0) ∧ w1.cell? ⟨n + 1, 1, none⟩ = some (.int .u64 x1) ∧ w1.cell? ⟨n + 1, 2, none⟩ = some (.int .u64 x2) ∧ w1.cell? ⟨n + 1, 3, none⟩ = some (.int .u64 x3) ∧ w1.cell? ⟨n + 1 + 1 + 1 + 1 + 1 + 1 + 1, 0, none⟩ = some (.int .u64 p) ∧ w1.cell? ⟨n + 1 + 1 + 1 + 1 + 1 + 1 + 1, 1, none⟩ = some (.int .u64 0) ∧ w1.cell? ⟨n + 1 + 1 + 1 + 1 + 1 + 1 + 1, 2, none⟩ = some (.int .u64 0) ∧ w1.cell? ⟨n + 1 + 1 + 1 + 1 + 1 + 1 + 1, 3, none⟩ = some (.int .u64 0) := keepXb (keepX h h1) hb
theorem keepXc {n : Nat} {x0 x1 x2 x3 p : Int} {W : World} (h : n + 1 + 1 + 1 + 1 + 1 + 1 + 1 < W.heap.size ∧ W.cell? ⟨n + 1, 0, none⟩ = some (.int .u64 x0) ∧ W.cell? ⟨n + 1, 1, none⟩ = some (.int .u64 x1) ∧ W.cell? ⟨n + 1, 2, none⟩ = some (.int .u64 x2) ∧ W.cell? ⟨n + 1, 3, none⟩ = some (.int .u64 x3) ∧ W.cell? ⟨n + 1 + 1 + 1 + 1 + 1 + 1 + 1, 0, none⟩ = some (.int .u64 p) ∧ W.cell? ⟨n + 1 + 1 + 1 + 1 + 1 + 1 + 1, 1, none⟩ = some (.int .u64 0) ∧ W.cell? ⟨n + 1 + 1 + 1 + 1 + 1 + 1 + 1, 2, none⟩ = some (.int .u64 0) ∧ W.cell? ⟨n + 1 + 1 + 1 + 1 + 1 + 1 + 1, 3, none⟩ = some (.int .u64 0)) {c o : Nat} {v : Value} (e1 : c ≠ n + 1) (e7 : c ≠ n + 1 + 1 + 1 + 1 + 1 + 1 + 1) : n + 1 + 1 + 1 + 1 + 1 + 1 + 1 < (W.setCell ⟨c, o, none⟩ v).heap.size ∧ (W.setCell ⟨c, o, none⟩ v).cell? ⟨n + 1, 0, none⟩ = some (.int .u64 x0) ∧ (W.setCell ⟨c, o, none⟩ v).cell? ⟨n + 1, 1, none⟩ = some (.int .u64 x1) ∧ (W.setCell ⟨c, o, none⟩ v).cell? ⟨n + 1, 2, none⟩ = some (.int .u64 x2) ∧ (W.setCell ⟨c, o, none⟩ v).cell? ⟨n + 1, 3, none⟩ = some (.int .u64 x3) ∧ (W.setCell ⟨c, o, none⟩ v).cell? ⟨n + 1 + 1 + 1 + 1 + 1 + 1 + 1, 0, none⟩ = some (.int .u64 p) ∧ (W.setCell ⟨c, o, none⟩ v).cell? ⟨n + 1 + 1 + 1 + 1 + 1 + 1 + 1, 1, none⟩ = some (.int .u64 0) ∧ (W.setCell ⟨c, o, none⟩ v).cell? ⟨n + 1 + 1 + 1 + 1 + 1 + 1 + 1, 2, none⟩ = some (.int .u64 0) ∧ (W.setCell ⟨c, o, none⟩ v).cell? ⟨n + 1 + 1 + 1 + 1 + 1 + 1 + 1, 3, none⟩ = some (.int .u64 0) := by
  obtain ⟨hz, c1_0, c1_1, c1_2, c1_3, c7_0, c7_1, c7_2, c7_3⟩ := h
  refine ⟨by simp [World.setCell]; exact hz, ?_, ?_, ?_, ?_, ?_, ?_, ?_, ?_⟩
  · rw [World.cell?_setCell_far _ _ _ _ (by simpa using e1)]; exact c1_0
  · rw [World.cell?_setCell_far _ _ _ _ (by simpa using e1)]; exact c1_1
  · rw [World.cell?_setCell_far _ _ _ _ (by simpa using e1)]; exact c1_2
  · rw [World.cell?_setCell_far _ _ _ _ (by simpa using e1)]; exact c1_3
  · rw [World.cell?_setCell_far _ _ _ _ (by simpa using e7)]; exact c7_0
  · rw [World.cell?_setCell_far _ _ _ _ (by simpa using e7)]; exact c7_1
  · rw [World.cell?_setCell_far _ _ _ _ (by simpa using e7)]; exact c7_2
  · rw [World.cell?_setCell_far _ _ _ _ (by simpa using e7)]; exact c7_3

/-- x as a signed number of k + 1 bytes. -/
def signextN (k x : Int) : Int := if k < 31 then sarN (8 * (31 - k)) (shlN (8 * (31 - k)) x) else x
set_option maxHeartbeats 4000000 in
theorem signext_in (k0 x0 x1 x2 x3 : Int) (h0 : 0 ≤ k0) (h1 : k0 < 31) (hx : L4 x0 x1 x2 x3) (w : World) :
    Calls Try.prog 35 #[W4 k0 0 0 0, W4 x0 x1 x2 x3] w fun e w' => ∃ s0 s1 s2 s3 : Int, e = .returned (W4 s0 s1 s2 s3) ∧ L4 s0 s1 s2 s3 ∧ Hid (num s0 s1 s2 s3 = sarN (8 * (31 - k0)) (shlN (8 * (31 - k0)) (num x0 x1 x2 x3))) ∧ Below w.heap.size w w' := by
  have HX : Hid _ := hx
  clear hx
  have hb := below_yes k0 31 h0 h1 (by decide)
  have HB : Hid _ := hb
  clear hb
  obtain ⟨p, hp⟩ : ∃ p, p = 8 * (31 - k0) := ⟨_, rfl⟩
  have HP : Hid (8 * (31 - k0) = p) := hp.symm
  have hpL : Hid (Limb p) := ⟨by omega, by omega⟩
  clear hp
  unfold W4 at *
  go_enter Try.func35, Try.ntmps35
  go_wp2_with fail
  refine (HB.out _).mono ?_
  rintro e w1 ⟨rfl, c1, c2, c3, rfl⟩
  clear HB
  go_wp2_with fail
  rw [HP.out]
  refine (of_exact p _).mono ?_
  rintro e w1 ⟨rfl, c5, rfl⟩
  unfold W4
  go_wp2_with fail
  have s : Hid (w.heap.size + 1 + 1 + 1 + 1 + 1 + 1 + 1 < (((((((((w.alloc (.cells #[.int .u64 k0, .int .u64 0, .int .u64 0, .int .u64 0] 24)).alloc (.cells #[.int .u64 x0, .int .u64 x1, .int .u64 x2, .int .u64 x3] 24)).alloc (.cells #[.int .u64 0, .int .u64 0, .int .u64 0, .int .u64 0] 24)).alloc (.cells c1 24)).alloc (.cells c2 24)).alloc (.cells c3 24)).alloc (.cells c5 24)).alloc (.cells #[.int .u64 p, .int .u64 0, .int .u64 0, .int .u64 0] 24)).drew).heap.size ∧ (((((((((w.alloc (.cells #[.int .u64 k0, .int .u64 0, .int .u64 0, .int .u64 0] 24)).alloc (.cells #[.int .u64 x0, .int .u64 x1, .int .u64 x2, .int .u64 x3] 24)).alloc (.cells #[.int .u64 0, .int .u64 0, .int .u64 0, .int .u64 0] 24)).alloc (.cells c1 24)).alloc (.cells c2 24)).alloc (.cells c3 24)).alloc (.cells c5 24)).alloc (.cells #[.int .u64 p, .int .u64 0, .int .u64 0, .int .u64 0] 24)).drew).cell? ⟨w.heap.size + 1, 0, none⟩ = some (.int .u64 x0) ∧ (((((((((w.alloc (.cells #[.int .u64 k0, .int .u64 0, .int .u64 0, .int .u64 0] 24)).alloc (.cells #[.int .u64 x0, .int .u64 x1, .int .u64 x2, .int .u64 x3] 24)).alloc (.cells #[.int .u64 0, .int .u64 0, .int .u64 0, .int .u64 0] 24)).alloc (.cells c1 24)).alloc (.cells c2 24)).alloc (.cells c3 24)).alloc (.cells c5 24)).alloc (.cells #[.int .u64 p, .int .u64 0, .int .u64 0, .int .u64 0] 24)).drew).cell? ⟨w.heap.size + 1, 1, none⟩ = some (.int .u64 x1) ∧ (((((((((w.alloc (.cells #[.int .u64 k0, .int .u64 0, .int .u64 0, .int .u64 0] 24)).alloc (.cells #[.int .u64 x0, .int .u64 x1, .int .u64 x2, .int .u64 x3] 24)).alloc (.cells #[.int .u64 0, .int .u64 0, .int .u64 0, .int .u64 0] 24)).alloc (.cells c1 24)).alloc (.cells c2 24)).alloc (.cells c3 24)).alloc (.cells c5 24)).alloc (.cells #[.int .u64 p, .int .u64 0, .int .u64 0, .int .u64 0] 24)).drew).cell? ⟨w.heap.size + 1, 2, none⟩ = some (.int .u64 x2) ∧ (((((((((w.alloc (.cells #[.int .u64 k0, .int .u64 0, .int .u64 0, .int .u64 0] 24)).alloc (.cells #[.int .u64 x0, .int .u64 x1, .int .u64 x2, .int .u64 x3] 24)).alloc (.cells #[.int .u64 0, .int .u64 0, .int .u64 0, .int .u64 0] 24)).alloc (.cells c1 24)).alloc (.cells c2 24)).alloc (.cells c3 24)).alloc (.cells c5 24)).alloc (.cells #[.int .u64 p, .int .u64 0, .int .u64 0, .int .u64 0] 24)).drew).cell? ⟨w.heap.size + 1, 3, none⟩ = some (.int .u64 x3) ∧ (((((((((w.alloc (.cells #[.int .u64 k0, .int .u64 0, .int .u64 0, .int .u64 0] 24)).alloc (.cells #[.int .u64 x0, .int .u64 x1, .int .u64 x2, .int .u64 x3] 24)).alloc (.cells #[.int .u64 0, .int .u64 0, .int .u64 0, .int .u64 0] 24)).alloc (.cells c1 24)).alloc (.cells c2 24)).alloc (.cells c3 24)).alloc (.cells c5 24)).alloc (.cells #[.int .u64 p, .int .u64 0, .int .u64 0, .int .u64 0] 24)).drew).cell? ⟨w.heap.size + 1 + 1 + 1 + 1 + 1 + 1 + 1, 0, none⟩ = some (.int .u64 p) ∧ (((((((((w.alloc (.cells #[.int .u64 k0, .int .u64 0, .int .u64 0, .int .u64 0] 24)).alloc (.cells #[.int .u64 x0, .int .u64 x1, .int .u64 x2, .int .u64 x3] 24)).alloc (.cells #[.int .u64 0, .int .u64 0, .int .u64 0, .int .u64 0] 24)).alloc (.cells c1 24)).alloc (.cells c2 24)).alloc (.cells c3 24)).alloc (.cells c5 24)).alloc (.cells #[.int .u64 p, .int .u64 0, .int .u64 0, .int .u64 0] 24)).drew).cell? ⟨w.heap.size + 1 + 1 + 1 + 1 + 1 + 1 + 1, 1, none⟩ = some (.int .u64 0) ∧ (((((((((w.alloc (.cells #[.int .u64 k0, .int .u64 0, .int .u64 0, .int .u64 0] 24)).alloc (.cells #[.int .u64 x0, .int .u64 x1, .int .u64 x2, .int .u64 x3] 24)).alloc (.cells #[.int .u64 0, .int .u64 0, .int .u64 0, .int .u64 0] 24)).alloc (.cells c1 24)).alloc (.cells c2 24)).alloc (.cells c3 24)).alloc (.cells c5 24)).alloc (.cells #[.int .u64 p, .int .u64 0, .int .u64 0, .int .u64 0] 24)).drew).cell? ⟨w.heap.size + 1 + 1 + 1 + 1 + 1 + 1 + 1, 2, none⟩ = some (.int .u64 0) ∧ (((((((((w.alloc (.cells #[.int .u64 k0, .int .u64 0, .int .u64 0, .int .u64 0] 24)).alloc (.cells #[.int .u64 x0, .int .u64 x1, .int .u64 x2, .int .u64 x3] 24)).alloc (.cells #[.int .u64 0, .int .u64 0, .int .u64 0, .int .u64 0] 24)).alloc (.cells c1 24)).alloc (.cells c2 24)).alloc (.cells c3 24)).alloc (.cells c5 24)).alloc (.cells #[.int .u64 p, .int .u64 0, .int .u64 0, .int .u64 0] 24)).drew).cell? ⟨w.heap.size + 1 + 1 + 1 + 1 + 1 + 1 + 1, 3, none⟩ = some (.int .u64 0)) := by
    refine ⟨by simp, ?_, ?_, ?_, ?_, ?_, ?_, ?_, ?_⟩ <;> simp [go_sem, World.cell?_alloc_past]
  have r : ∀ k, k < 4 → (((((((((w.alloc (.cells #[.int .u64 k0, .int .u64 0, .int .u64 0, .int .u64 0] 24)).alloc (.cells #[.int .u64 x0, .int .u64 x1, .int .u64 x2, .int .u64 x3] 24)).alloc (.cells #[.int .u64 0, .int .u64 0, .int .u64 0, .int .u64 0] 24)).alloc (.cells c1 24)).alloc (.cells c2 24)).alloc (.cells c3 24)).alloc (.cells c5 24)).alloc (.cells #[.int .u64 p, .int .u64 0, .int .u64 0, .int .u64 0] 24)).drew).cell? ⟨w.heap.size + 1 + 1, k, none⟩ = some (.int .u64 0) := fun k hk => by
    rcases (by omega : k = 0 ∨ k = 1 ∨ k = 2 ∨ k = 3) with rfl | rfl | rfl | rfl <;> simp [go_sem, World.cell?_alloc_past]
  have fz : ∀ k, (((((((((w.alloc (.cells #[.int .u64 k0, .int .u64 0, .int .u64 0, .int .u64 0] 24)).alloc (.cells #[.int .u64 x0, .int .u64 x1, .int .u64 x2, .int .u64 x3] 24)).alloc (.cells #[.int .u64 0, .int .u64 0, .int .u64 0, .int .u64 0] 24)).alloc (.cells c1 24)).alloc (.cells c2 24)).alloc (.cells c3 24)).alloc (.cells c5 24)).alloc (.cells #[.int .u64 p, .int .u64 0, .int .u64 0, .int .u64 0] 24)).drew).frozen? ⟨w.heap.size + 1 + 1, k, none⟩ = false := fun k => by
    simp [go_sem, World.frozen?_alloc_past]
  have hB : Below w.heap.size w (((((((((w.alloc (.cells #[.int .u64 k0, .int .u64 0, .int .u64 0, .int .u64 0] 24)).alloc (.cells #[.int .u64 x0, .int .u64 x1, .int .u64 x2, .int .u64 x3] 24)).alloc (.cells #[.int .u64 0, .int .u64 0, .int .u64 0, .int .u64 0] 24)).alloc (.cells c1 24)).alloc (.cells c2 24)).alloc (.cells c3 24)).alloc (.cells c5 24)).alloc (.cells #[.int .u64 p, .int .u64 0, .int .u64 0, .int .u64 0] 24)).drew) := by go_grown
  generalize (((((((((w.alloc (.cells #[.int .u64 k0, .int .u64 0, .int .u64 0, .int .u64 0] 24)).alloc (.cells #[.int .u64 x0, .int .u64 x1, .int .u64 x2, .int .u64 x3] 24)).alloc (.cells #[.int .u64 0, .int .u64 0, .int .u64 0, .int .u64 0] 24)).alloc (.cells c1 24)).alloc (.cells c2 24)).alloc (.cells c3 24)).alloc (.cells c5 24)).alloc (.cells #[.int .u64 p, .int .u64 0, .int .u64 0, .int .u64 0] 24)).drew) = w1 at *
  have hz1 : w.heap.size + 1 + 1 < w1.heap.size := by have := s.out.1; omega
  go_region_held3 (fun w' => w.heap.size + 1 + 1 + 1 + 1 + 1 + 1 + 1 < w'.heap.size ∧ w'.cell? ⟨w.heap.size + 1, 0, none⟩ = some (.int .u64 x0) ∧ w'.cell? ⟨w.heap.size + 1, 1, none⟩ = some (.int .u64 x1) ∧ w'.cell? ⟨w.heap.size + 1, 2, none⟩ = some (.int .u64 x2) ∧ w'.cell? ⟨w.heap.size + 1, 3, none⟩ = some (.int .u64 x3) ∧ w'.cell? ⟨w.heap.size + 1 + 1 + 1 + 1 + 1 + 1 + 1, 0, none⟩ = some (.int .u64 p) ∧ w'.cell? ⟨w.heap.size + 1 + 1 + 1 + 1 + 1 + 1 + 1, 1, none⟩ = some (.int .u64 0) ∧ w'.cell? ⟨w.heap.size + 1 + 1 + 1 + 1 + 1 + 1 + 1, 2, none⟩ = some (.int .u64 0) ∧ w'.cell? ⟨w.heap.size + 1 + 1 + 1 + 1 + 1 + 1 + 1, 3, none⟩ = some (.int .u64 0)) (first | (refine keepX s.out ?_; go_grown; done) | exact keepXc (keepXc (keepXc (keepXc s.out (by omega) (by omega)) (by omega) (by omega)) (by omega) (by omega)) (by omega) (by omega))
    (first
      | (go_at_call 15; go_must (refine (shl_any p 0 0 0 x0 x1 x2 x3 (of_L4 hpL.out) HX.out _).mono ?_; rintro e w2 ⟨y0, y1, y2, y3, rfl, L, E, hw2⟩; have r := stepR hw2 (by have := s.out.1; go_size) r; have fz := stepF hw2 (by have := s.out.1; go_size) fz; have hB : Below w.heap.size w w2 := Below.trans (by go_grown) (hw2.mono (by have := s.out.1; go_size)); have s : Hid _ := keepXs s.out (by go_grown) hw2; have hz1 : w.heap.size + 1 + 1 < w2.heap.size := (by have := s.out.1; omega)))
      | (go_at_call 36; go_must (refine (sar_any p 0 0 0 y0 y1 y2 y3 (of_L4 hpL.out) L _).mono ?_; rintro e w3 ⟨z0, z1, z2, z3, rfl, L2, E2, hw3⟩; have r := stepR hw3 (by have := s.out.1; go_size) r; have fz := stepF hw3 (by have := s.out.1; go_size) fz; have hB : Below w.heap.size w w3 := Below.trans (by go_grown) (hw3.mono (by have := s.out.1; go_size)); have s : Hid _ := keepXs s.out (by go_grown) hw3; have hz1 : w.heap.size + 1 + 1 < w3.heap.size := (by have := s.out.1; omega))))
  go_wp2
  refine bodyPost_ret (v := W4 z0 z1 z2 z3) (by simp [results, Try.results35, go_sem, r, hz1]) rfl ?_
  have hEE : num z0 z1 z2 z3 = sarN (8 * (31 - k0)) (shlN (8 * (31 - k0)) (num x0 x1 x2 x3)) := by
    rw [E2.out, E.out, HP.out, of_num]
  have hs0 : w.heap.size ≤ w3.heap.size := hB.size
  exact ⟨_, _, _, _, rfl, L2, hEE, by go_grown⟩
set_option maxHeartbeats 1000000 in
theorem signext_out (k0 k1 k2 k3 x0 x1 x2 x3 : Int) (hk : L4 k0 k1 k2 k3) (h : 31 ≤ num k0 k1 k2 k3) (w : World) :
    Calls Try.prog 35 #[W4 k0 k1 k2 k3, W4 x0 x1 x2 x3] w fun e w' => e = .returned (W4 x0 x1 x2 x3) ∧ Below w.heap.size w w' := by
  have hb := below_no k0 k1 k2 k3 31 hk h
  have HB : Hid _ := hb
  clear hb hk h
  unfold W4 at *
  go_enter Try.func35, Try.ntmps35
  go_wp2_with fail
  refine (HB.out _).mono ?_
  rintro e w1 ⟨rfl, c1, c2, c3, rfl⟩
  clear HB
  go_wp2
  go_returns
  exact ⟨rfl, by go_grown⟩
end Go.Proofs.Ytjbdfmepeniglab
