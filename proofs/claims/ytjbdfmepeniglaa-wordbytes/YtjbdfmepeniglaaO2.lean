/- Walks over package word: which of two signed words is more. -/
import Derived.Test.YtjbdfmepeniglaaO1
import Derived.Test.YtjbdfmepeniglaaB2
namespace Go.Proofs.Ytjbdfmepeniglaa
open Go.RowKit
set_option linter.unusedSimpArgs false
set_option linter.unusedVariables false
/-- 2 to the 255. -/
def T255 : Int := 57896044618658097711785492504343953926634992332820282019728792003956564819968
theorem scmp_val (x y : Int) (hx : 0 ≤ x) (hx' : x < T256) (hy : 0 ≤ y) (hy' : y < T256) :
    cmpN ((x + T255) % T256) ((y + T255) % T256) = if neg x = neg y then cmpN x y else if neg x then -1 else 1 := by
  have e : ∀ z, 0 ≤ z → z < T256 → (neg z = true ∧ T255 ≤ z ∧ (z + T255) % T256 = z - T255) ∨ (neg z = false ∧ z < T255 ∧ (z + T255) % T256 = z + T255) := fun z h h' => by
    unfold neg T255 T256 at *
    rcases Int.lt_or_le z 57896044618658097711785492504343953926634992332820282019728792003956564819968 with g | g
    · right; refine ⟨by simp; omega, g, by omega⟩
    · left; refine ⟨by simp; omega, g, by omega⟩
  rcases e x hx hx' with ⟨nx, bx, ex⟩ | ⟨nx, bx, ex⟩ <;> rcases e y hy hy' with ⟨ny, by', ey⟩ | ⟨ny, by', ey⟩ <;> rw [nx, ny, ex, ey] <;> unfold cmpN T255 at * <;> clear e ex ey nx ny <;> unfold T256 at *
  · rw [if_pos rfl]; (repeat' split) <;> omega
  · rw [if_pos (by omega)]; rfl
  · rw [if_neg (by omega), if_pos (by omega)]; rfl
  · rw [if_pos rfl]; (repeat' split) <;> omega
theorem keepO {n : Nat} {a0 a1 a2 a3 b0 b1 b2 b3 : Int} {W w1 : World} (h : n + 1 < W.heap.size ∧ W.cell? ⟨n, 0, none⟩ = some (.int .u64 a0) ∧ W.cell? ⟨n, 1, none⟩ = some (.int .u64 a1) ∧ W.cell? ⟨n, 2, none⟩ = some (.int .u64 a2) ∧ W.cell? ⟨n, 3, none⟩ = some (.int .u64 a3) ∧ W.cell? ⟨n + 1, 0, none⟩ = some (.int .u64 b0) ∧ W.cell? ⟨n + 1, 1, none⟩ = some (.int .u64 b1) ∧ W.cell? ⟨n + 1, 2, none⟩ = some (.int .u64 b2) ∧ W.cell? ⟨n + 1, 3, none⟩ = some (.int .u64 b3)) (hb : Below (n + 1 + 1) W w1) : n + 1 < w1.heap.size ∧ w1.cell? ⟨n, 0, none⟩ = some (.int .u64 a0) ∧ w1.cell? ⟨n, 1, none⟩ = some (.int .u64 a1) ∧ w1.cell? ⟨n, 2, none⟩ = some (.int .u64 a2) ∧ w1.cell? ⟨n, 3, none⟩ = some (.int .u64 a3) ∧ w1.cell? ⟨n + 1, 0, none⟩ = some (.int .u64 b0) ∧ w1.cell? ⟨n + 1, 1, none⟩ = some (.int .u64 b1) ∧ w1.cell? ⟨n + 1, 2, none⟩ = some (.int .u64 b2) ∧ w1.cell? ⟨n + 1, 3, none⟩ = some (.int .u64 b3) := by
  obtain ⟨hz, c0_0, c0_1, c0_2, c0_3, c1_0, c1_1, c1_2, c1_3⟩ := h
  exact ⟨Nat.lt_of_lt_of_le hz hb.size, cells_below hb _ _ _ (by omega) c0_0, cells_below hb _ _ _ (by omega) c0_1, cells_below hb _ _ _ (by omega) c0_2, cells_below hb _ _ _ (by omega) c0_3, cells_below hb _ _ _ (by omega) c1_0, cells_below hb _ _ _ (by omega) c1_1, cells_below hb _ _ _ (by omega) c1_2, cells_below hb _ _ _ (by omega) c1_3⟩
theorem keepOb {n : Nat} {a0 a1 a2 a3 b0 b1 b2 b3 : Int} {W w1 : World} (h : n + 1 < W.heap.size ∧ W.cell? ⟨n, 0, none⟩ = some (.int .u64 a0) ∧ W.cell? ⟨n, 1, none⟩ = some (.int .u64 a1) ∧ W.cell? ⟨n, 2, none⟩ = some (.int .u64 a2) ∧ W.cell? ⟨n, 3, none⟩ = some (.int .u64 a3) ∧ W.cell? ⟨n + 1, 0, none⟩ = some (.int .u64 b0) ∧ W.cell? ⟨n + 1, 1, none⟩ = some (.int .u64 b1) ∧ W.cell? ⟨n + 1, 2, none⟩ = some (.int .u64 b2) ∧ W.cell? ⟨n + 1, 3, none⟩ = some (.int .u64 b3)) (hb : Below W.heap.size W w1) : n + 1 < w1.heap.size ∧ w1.cell? ⟨n, 0, none⟩ = some (.int .u64 a0) ∧ w1.cell? ⟨n, 1, none⟩ = some (.int .u64 a1) ∧ w1.cell? ⟨n, 2, none⟩ = some (.int .u64 a2) ∧ w1.cell? ⟨n, 3, none⟩ = some (.int .u64 a3) ∧ w1.cell? ⟨n + 1, 0, none⟩ = some (.int .u64 b0) ∧ w1.cell? ⟨n + 1, 1, none⟩ = some (.int .u64 b1) ∧ w1.cell? ⟨n + 1, 2, none⟩ = some (.int .u64 b2) ∧ w1.cell? ⟨n + 1, 3, none⟩ = some (.int .u64 b3) := keepO h (hb.mono (by have := h.1; omega))
theorem keepOs {n : Nat} {a0 a1 a2 a3 b0 b1 b2 b3 : Int} {W0 W w1 : World} (h : n + 1 < W0.heap.size ∧ W0.cell? ⟨n, 0, none⟩ = some (.int .u64 a0) ∧ W0.cell? ⟨n, 1, none⟩ = some (.int .u64 a1) ∧ W0.cell? ⟨n, 2, none⟩ = some (.int .u64 a2) ∧ W0.cell? ⟨n, 3, none⟩ = some (.int .u64 a3) ∧ W0.cell? ⟨n + 1, 0, none⟩ = some (.int .u64 b0) ∧ W0.cell? ⟨n + 1, 1, none⟩ = some (.int .u64 b1) ∧ W0.cell? ⟨n + 1, 2, none⟩ = some (.int .u64 b2) ∧ W0.cell? ⟨n + 1, 3, none⟩ = some (.int .u64 b3)) (h1 : Below (n + 1 + 1) W0 W) (hb : Below W.heap.size W w1) : n + 1 < w1.heap.size ∧ w1.cell? ⟨n, 0, none⟩ = some (.int .u64 a0) ∧ w1.cell? ⟨n, 1, none⟩ = some (.int .u64 a1) ∧ w1.cell? ⟨n, 2, none⟩ = some (.int .u64 a2) ∧ w1.cell? ⟨n, 3, none⟩ = some (.int .u64 a3) ∧ w1.cell? ⟨n + 1, 0, none⟩ = some (.int .u64 b0) ∧ w1.cell? ⟨n + 1, 1, none⟩ = some (.int .u64 b1) ∧ w1.cell? ⟨n + 1, 2, none⟩ = some (.int .u64 b2) ∧ w1.cell? ⟨n + 1, 3, none⟩ = some (.int .u64 b3) := keepOb (keepO h h1) hb
theorem keepOc {n : Nat} {a0 a1 a2 a3 b0 b1 b2 b3 : Int} {W : World} (h : n + 1 < W.heap.size ∧ W.cell? ⟨n, 0, none⟩ = some (.int .u64 a0) ∧ W.cell? ⟨n, 1, none⟩ = some (.int .u64 a1) ∧ W.cell? ⟨n, 2, none⟩ = some (.int .u64 a2) ∧ W.cell? ⟨n, 3, none⟩ = some (.int .u64 a3) ∧ W.cell? ⟨n + 1, 0, none⟩ = some (.int .u64 b0) ∧ W.cell? ⟨n + 1, 1, none⟩ = some (.int .u64 b1) ∧ W.cell? ⟨n + 1, 2, none⟩ = some (.int .u64 b2) ∧ W.cell? ⟨n + 1, 3, none⟩ = some (.int .u64 b3)) {c o : Nat} {v : Value} (e0 : c ≠ n) (e1 : c ≠ n + 1) : n + 1 < (W.setCell ⟨c, o, none⟩ v).heap.size ∧ (W.setCell ⟨c, o, none⟩ v).cell? ⟨n, 0, none⟩ = some (.int .u64 a0) ∧ (W.setCell ⟨c, o, none⟩ v).cell? ⟨n, 1, none⟩ = some (.int .u64 a1) ∧ (W.setCell ⟨c, o, none⟩ v).cell? ⟨n, 2, none⟩ = some (.int .u64 a2) ∧ (W.setCell ⟨c, o, none⟩ v).cell? ⟨n, 3, none⟩ = some (.int .u64 a3) ∧ (W.setCell ⟨c, o, none⟩ v).cell? ⟨n + 1, 0, none⟩ = some (.int .u64 b0) ∧ (W.setCell ⟨c, o, none⟩ v).cell? ⟨n + 1, 1, none⟩ = some (.int .u64 b1) ∧ (W.setCell ⟨c, o, none⟩ v).cell? ⟨n + 1, 2, none⟩ = some (.int .u64 b2) ∧ (W.setCell ⟨c, o, none⟩ v).cell? ⟨n + 1, 3, none⟩ = some (.int .u64 b3) := by
  obtain ⟨hz, c0_0, c0_1, c0_2, c0_3, c1_0, c1_1, c1_2, c1_3⟩ := h
  refine ⟨by simp [World.setCell]; exact hz, ?_, ?_, ?_, ?_, ?_, ?_, ?_, ?_⟩
  · rw [World.cell?_setCell_far _ _ _ _ (by simpa using e0)]; exact c0_0
  · rw [World.cell?_setCell_far _ _ _ _ (by simpa using e0)]; exact c0_1
  · rw [World.cell?_setCell_far _ _ _ _ (by simpa using e0)]; exact c0_2
  · rw [World.cell?_setCell_far _ _ _ _ (by simpa using e0)]; exact c0_3
  · rw [World.cell?_setCell_far _ _ _ _ (by simpa using e1)]; exact c1_0
  · rw [World.cell?_setCell_far _ _ _ _ (by simpa using e1)]; exact c1_1
  · rw [World.cell?_setCell_far _ _ _ _ (by simpa using e1)]; exact c1_2
  · rw [World.cell?_setCell_far _ _ _ _ (by simpa using e1)]; exact c1_3

set_option maxHeartbeats 4000000 in
theorem scmp_walk (a0 a1 a2 a3 b0 b1 b2 b3 z : Int) (x y : Bool) (HA : Hid (∀ w, Calls Try.prog 74 #[W4 a0 a1 a2 a3] w fun e w' => e = .returned (.bool x) ∧ Below w.heap.size w w')) (HB : Hid (∀ w, Calls Try.prog 74 #[W4 b0 b1 b2 b3] w fun e w' => e = .returned (.bool y) ∧ Below w.heap.size w w'))
    (HC : Hid (∀ w, Calls Try.prog 54 #[W4 a0 a1 a2 a3, W4 b0 b1 b2 b3] w fun e w' => e = .returned (.int .i64 z) ∧ Below w.heap.size w w')) (w : World) :
    Calls Try.prog 57 #[W4 a0 a1 a2 a3, W4 b0 b1 b2 b3] w fun e w' => e = .returned (.int .i64 (if x = y then z else if x then -1 else 1)) ∧ Below w.heap.size w w' := by
  unfold W4 at *
  go_enter Try.func57, Try.ntmps57
  go_wp2
  have s_ : Hid (w.heap.size + 1 < ((w.alloc (.cells #[.int .u64 a0, .int .u64 a1, .int .u64 a2, .int .u64 a3] 24)).alloc (.cells #[.int .u64 b0, .int .u64 b1, .int .u64 b2, .int .u64 b3] 24)).heap.size ∧ ((w.alloc (.cells #[.int .u64 a0, .int .u64 a1, .int .u64 a2, .int .u64 a3] 24)).alloc (.cells #[.int .u64 b0, .int .u64 b1, .int .u64 b2, .int .u64 b3] 24)).cell? ⟨w.heap.size, 0, none⟩ = some (.int .u64 a0) ∧ ((w.alloc (.cells #[.int .u64 a0, .int .u64 a1, .int .u64 a2, .int .u64 a3] 24)).alloc (.cells #[.int .u64 b0, .int .u64 b1, .int .u64 b2, .int .u64 b3] 24)).cell? ⟨w.heap.size, 1, none⟩ = some (.int .u64 a1) ∧ ((w.alloc (.cells #[.int .u64 a0, .int .u64 a1, .int .u64 a2, .int .u64 a3] 24)).alloc (.cells #[.int .u64 b0, .int .u64 b1, .int .u64 b2, .int .u64 b3] 24)).cell? ⟨w.heap.size, 2, none⟩ = some (.int .u64 a2) ∧ ((w.alloc (.cells #[.int .u64 a0, .int .u64 a1, .int .u64 a2, .int .u64 a3] 24)).alloc (.cells #[.int .u64 b0, .int .u64 b1, .int .u64 b2, .int .u64 b3] 24)).cell? ⟨w.heap.size, 3, none⟩ = some (.int .u64 a3) ∧ ((w.alloc (.cells #[.int .u64 a0, .int .u64 a1, .int .u64 a2, .int .u64 a3] 24)).alloc (.cells #[.int .u64 b0, .int .u64 b1, .int .u64 b2, .int .u64 b3] 24)).cell? ⟨w.heap.size + 1, 0, none⟩ = some (.int .u64 b0) ∧ ((w.alloc (.cells #[.int .u64 a0, .int .u64 a1, .int .u64 a2, .int .u64 a3] 24)).alloc (.cells #[.int .u64 b0, .int .u64 b1, .int .u64 b2, .int .u64 b3] 24)).cell? ⟨w.heap.size + 1, 1, none⟩ = some (.int .u64 b1) ∧ ((w.alloc (.cells #[.int .u64 a0, .int .u64 a1, .int .u64 a2, .int .u64 a3] 24)).alloc (.cells #[.int .u64 b0, .int .u64 b1, .int .u64 b2, .int .u64 b3] 24)).cell? ⟨w.heap.size + 1, 2, none⟩ = some (.int .u64 b2) ∧ ((w.alloc (.cells #[.int .u64 a0, .int .u64 a1, .int .u64 a2, .int .u64 a3] 24)).alloc (.cells #[.int .u64 b0, .int .u64 b1, .int .u64 b2, .int .u64 b3] 24)).cell? ⟨w.heap.size + 1, 3, none⟩ = some (.int .u64 b3)) := by
    refine ⟨by simp, ?_, ?_, ?_, ?_, ?_, ?_, ?_, ?_⟩ <;> simp [go_sem, World.cell?_alloc_past]
  have hB : Below w.heap.size w ((w.alloc (.cells #[.int .u64 a0, .int .u64 a1, .int .u64 a2, .int .u64 a3] 24)).alloc (.cells #[.int .u64 b0, .int .u64 b1, .int .u64 b2, .int .u64 b3] 24)) := by go_grown
  generalize ((w.alloc (.cells #[.int .u64 a0, .int .u64 a1, .int .u64 a2, .int .u64 a3] 24)).alloc (.cells #[.int .u64 b0, .int .u64 b1, .int .u64 b2, .int .u64 b3] 24)) = w0 at *
  have hs0 := hB.size
  cases x <;> cases y
  all_goals
    go_region_held3 (fun w' => w.heap.size + 1 < w'.heap.size ∧ w'.cell? ⟨w.heap.size, 0, none⟩ = some (.int .u64 a0) ∧ w'.cell? ⟨w.heap.size, 1, none⟩ = some (.int .u64 a1) ∧ w'.cell? ⟨w.heap.size, 2, none⟩ = some (.int .u64 a2) ∧ w'.cell? ⟨w.heap.size, 3, none⟩ = some (.int .u64 a3) ∧ w'.cell? ⟨w.heap.size + 1, 0, none⟩ = some (.int .u64 b0) ∧ w'.cell? ⟨w.heap.size + 1, 1, none⟩ = some (.int .u64 b1) ∧ w'.cell? ⟨w.heap.size + 1, 2, none⟩ = some (.int .u64 b2) ∧ w'.cell? ⟨w.heap.size + 1, 3, none⟩ = some (.int .u64 b3)) ((refine keepO s_.out ?_; go_grown; done))
      (first
        | (go_at_call_of 74 ([Value.agg #[Value.int .u64 a0, Value.int .u64 a1, Value.int .u64 a2, Value.int .u64 a3]]); go_must (refine Calls.mono (HA.out _) ?_; rintro e w2 ⟨rfl, hw2⟩; have hzs := s_.out.1; have hB : Below w.heap.size w w2 := Below.trans (by go_grown) (hw2.mono (by go_size)); have s_ : Hid _ := keepOs s_.out (by go_grown) hw2; have hs0 := hB.size; clear hw2 hzs)) | (go_at_call_of 74 ([Value.agg #[Value.int .u64 b0, Value.int .u64 b1, Value.int .u64 b2, Value.int .u64 b3]]); go_must (refine Calls.mono (HB.out _) ?_; rintro e w2 ⟨rfl, hw2⟩; have hzs := s_.out.1; have hB : Below w.heap.size w w2 := Below.trans (by go_grown) (hw2.mono (by go_size)); have s_ : Hid _ := keepOs s_.out (by go_grown) hw2; have hs0 := hB.size; clear hw2 hzs)))
    have hzs := s_.out.1
    obtain ⟨_, c0, c1, c2, c3, d0, d1, d2, d3⟩ := s_.out
    go_wp2_with (first
        | (go_at_call 54; go_must (refine Calls.mono (HC.out _) ?_; rintro e w3 ⟨rfl, hw3⟩; have hB : Below w.heap.size w w3 := Below.trans (by go_grown) (hw3.mono (by go_size))))
        | (go_at_call_of 74 ([Value.agg #[Value.int .u64 a0, Value.int .u64 a1, Value.int .u64 a2, Value.int .u64 a3]]); go_must (refine Calls.mono (HA.out _) ?_; rintro e w2 ⟨rfl, hw2⟩; have hzs := s_.out.1; have hB : Below w.heap.size w w2 := Below.trans (by go_grown) (hw2.mono (by go_size)); have s_ : Hid _ := keepOs s_.out (by go_grown) hw2; have hs0 := hB.size; clear hw2 hzs)) | (go_at_call_of 74 ([Value.agg #[Value.int .u64 b0, Value.int .u64 b1, Value.int .u64 b2, Value.int .u64 b3]]); go_must (refine Calls.mono (HB.out _) ?_; rintro e w2 ⟨rfl, hw2⟩; have hzs := s_.out.1; have hB : Below w.heap.size w w2 := Below.trans (by go_grown) (hw2.mono (by go_size)); have s_ : Hid _ := keepOs s_.out (by go_grown) hw2; have hs0 := hB.size; clear hw2 hzs)))
    go_ret
    exact ⟨rfl, by go_grown⟩
/-- word.Scmp -/
theorem scmp_any (a0 a1 a2 a3 b0 b1 b2 b3 : Int) (ha : L4 a0 a1 a2 a3) (hb : L4 b0 b1 b2 b3) (w : World) :
    Calls Try.prog 57 #[W4 a0 a1 a2 a3, W4 b0 b1 b2 b3] w fun e w' => e = .returned (.int .i64 (cmpN ((num a0 a1 a2 a3 + T255) % T256) ((num b0 b1 b2 b3 + T255) % T256))) ∧ Below w.heap.size w w' := by
  rw [scmp_val _ _ (num_bd ha).1 (num_bd ha).2 (num_bd hb).1 (num_bd hb).2]
  exact scmp_walk a0 a1 a2 a3 b0 b1 b2 b3 _ _ _ (fun w => negative_any a0 a1 a2 a3 ha w) (fun w => negative_any b0 b1 b2 b3 hb w) (fun w => cmp_any a0 a1 a2 a3 b0 b1 b2 b3 ha hb w) w
end Go.Proofs.Ytjbdfmepeniglaa
