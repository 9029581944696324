/- Walks over package word: what is left of sums. -/
import Derived.Test.YtionjibiemncbabGreatGFR
set_option linter.unusedSimpArgs false
set_option linter.unusedVariables false
namespace Go.Proofs.YtionjibiemncbabGreat
open Go.RowKit
set_option maxHeartbeats 1000000 in
theorem sum_exact (a0 a1 a2 a3 b0 b1 b2 b3 : Int) (ha : L4 a0 a1 a2 a3) (hb : L4 b0 b1 b2 b3) (w : World) :
    Calls Tryz.prog 50 #[W4 a0 a1 a2 a3, W4 b0 b1 b2 b3] w fun e w' =>
      ∃ s0 s1 s2 s3 c : Int, e = .returned (.tuple #[W4 s0 s1 s2 s3, .int .u64 c]) ∧ L4 s0 s1 s2 s3 ∧ (0 ≤ c ∧ c ≤ 1) ∧ Hid (num a0 a1 a2 a3 + num b0 b1 b2 b3 = num s0 s1 s2 s3 + T256 * c) ∧ ∃ c1 c2 c3 c4, w' = ((((w.alloc (.cells c1 24)).alloc (.cells c2 24)).alloc (.cells c3 24)).alloc (.cells c4 24)).drew.drew.drew.drew := by
  unfold W4
  obtain ⟨s0, c0, r0, l0, p0, q0, e0⟩ := add64_ex a0 b0 0 ha.1 hb.1 (by decide) (by decide)
  obtain ⟨s1, c1, r1, l1, p1, q1, e1⟩ := add64_ex a1 b1 c0 ha.2.1 hb.2.1 p0 q0
  obtain ⟨s2, c2, r2, l2, p2, q2, e2⟩ := add64_ex a2 b2 c1 ha.2.2.1 hb.2.2.1 p1 q1
  obtain ⟨s3, c3, r3, l3, p3, q3, e3⟩ := add64_ex a3 b3 c2 ha.2.2.2 hb.2.2.2 p2 q2
  have E := sum_num e0 e1 e2 e3
  have L : L4 s0 s1 s2 s3 := ⟨l0, l1, l2, l3⟩
  have hE : Hid _ := E
  clear E e0 e1 e2 e3
  clear l0 l1 l2 l3 p0 p1 p2 q0 q1 q2 ha hb
  go_enter Tryz.func50, Tryz.ntmps50
  go_wp2
  refine wp_loop_rounds 5 ?_
  iterate 4
    rw [rounds_succ]
    go_wp2
    go_region
    go_wp2
  rw [rounds_succ]
  go_wp2
  go_returns
  exact ⟨s0, s1, s2, s3, c3, rfl, L, ⟨p3, q3⟩, hE, _, _, _, _, rfl⟩
set_option maxHeartbeats 1000000 in
theorem widen_exact (a0 a1 a2 a3 x : Int) (w : World) :
    Calls Tryz.prog 69 #[W4 a0 a1 a2 a3, .int .u64 x] w fun e w' => e = .returned (W8 a0 a1 a2 a3 x 0 0 0) ∧ ∃ c1 c2, w' = (w.alloc (.cells c1 24)).alloc (.cells c2 99) := by
  unfold W4
  go_enter Tryz.func69, Tryz.ntmps69
  go_wp2
  go_returns
  exact ⟨rfl, _, _, rfl⟩
theorem carry_limb {x : Int} (h : 0 ≤ x ∧ x ≤ 1) : Limb x := ⟨h.1, by omega⟩
theorem num_carry (x : Int) : num x 0 0 0 = x := by unfold num; omega
set_option maxHeartbeats 20000000 in
theorem addmod_any (a0 a1 a2 a3 b0 b1 b2 b3 n0 n1 n2 n3 : Int) (ha : L4 a0 a1 a2 a3) (hb : L4 b0 b1 b2 b3) (hn : L4 n0 n1 n2 n3) (w : World) :
    Calls Tryz.prog 56 #[W4 a0 a1 a2 a3, W4 b0 b1 b2 b3, W4 n0 n1 n2 n3] w fun e w' =>
      ∃ s0 s1 s2 s3 : Int, e = .returned (W4 s0 s1 s2 s3) ∧ L4 s0 s1 s2 s3 ∧ Hid (num s0 s1 s2 s3 = remN (num a0 a1 a2 a3 + num b0 b1 b2 b3) (num n0 n1 n2 n3)) ∧ Below w.heap.size w w' := by
  have HA : Hid _ := ha
  have HB : Hid _ := hb
  have HN : Hid _ := hn
  clear ha hb hn
  unfold W4
  go_enter Tryz.func56, Tryz.ntmps56
  go_wp2
  have s : Hid (w.heap.size + 1 + 1 + 1 < ((((w.alloc (.cells #[.int .u64 a0, .int .u64 a1, .int .u64 a2, .int .u64 a3] 24)).alloc (.cells #[.int .u64 b0, .int .u64 b1, .int .u64 b2, .int .u64 b3] 24)).alloc (.cells #[.int .u64 n0, .int .u64 n1, .int .u64 n2, .int .u64 n3] 24)).alloc (.cells #[.int .u64 0, .int .u64 0, .int .u64 0, .int .u64 0] 24)).heap.size ∧ ((((w.alloc (.cells #[.int .u64 a0, .int .u64 a1, .int .u64 a2, .int .u64 a3] 24)).alloc (.cells #[.int .u64 b0, .int .u64 b1, .int .u64 b2, .int .u64 b3] 24)).alloc (.cells #[.int .u64 n0, .int .u64 n1, .int .u64 n2, .int .u64 n3] 24)).alloc (.cells #[.int .u64 0, .int .u64 0, .int .u64 0, .int .u64 0] 24)).cell? ⟨w.heap.size, 0, none⟩ = some (.int .u64 a0) ∧ ((((w.alloc (.cells #[.int .u64 a0, .int .u64 a1, .int .u64 a2, .int .u64 a3] 24)).alloc (.cells #[.int .u64 b0, .int .u64 b1, .int .u64 b2, .int .u64 b3] 24)).alloc (.cells #[.int .u64 n0, .int .u64 n1, .int .u64 n2, .int .u64 n3] 24)).alloc (.cells #[.int .u64 0, .int .u64 0, .int .u64 0, .int .u64 0] 24)).cell? ⟨w.heap.size, 1, none⟩ = some (.int .u64 a1) ∧ ((((w.alloc (.cells #[.int .u64 a0, .int .u64 a1, .int .u64 a2, .int .u64 a3] 24)).alloc (.cells #[.int .u64 b0, .int .u64 b1, .int .u64 b2, .int .u64 b3] 24)).alloc (.cells #[.int .u64 n0, .int .u64 n1, .int .u64 n2, .int .u64 n3] 24)).alloc (.cells #[.int .u64 0, .int .u64 0, .int .u64 0, .int .u64 0] 24)).cell? ⟨w.heap.size, 2, none⟩ = some (.int .u64 a2) ∧ ((((w.alloc (.cells #[.int .u64 a0, .int .u64 a1, .int .u64 a2, .int .u64 a3] 24)).alloc (.cells #[.int .u64 b0, .int .u64 b1, .int .u64 b2, .int .u64 b3] 24)).alloc (.cells #[.int .u64 n0, .int .u64 n1, .int .u64 n2, .int .u64 n3] 24)).alloc (.cells #[.int .u64 0, .int .u64 0, .int .u64 0, .int .u64 0] 24)).cell? ⟨w.heap.size, 3, none⟩ = some (.int .u64 a3) ∧ ((((w.alloc (.cells #[.int .u64 a0, .int .u64 a1, .int .u64 a2, .int .u64 a3] 24)).alloc (.cells #[.int .u64 b0, .int .u64 b1, .int .u64 b2, .int .u64 b3] 24)).alloc (.cells #[.int .u64 n0, .int .u64 n1, .int .u64 n2, .int .u64 n3] 24)).alloc (.cells #[.int .u64 0, .int .u64 0, .int .u64 0, .int .u64 0] 24)).cell? ⟨w.heap.size + 1, 0, none⟩ = some (.int .u64 b0) ∧ ((((w.alloc (.cells #[.int .u64 a0, .int .u64 a1, .int .u64 a2, .int .u64 a3] 24)).alloc (.cells #[.int .u64 b0, .int .u64 b1, .int .u64 b2, .int .u64 b3] 24)).alloc (.cells #[.int .u64 n0, .int .u64 n1, .int .u64 n2, .int .u64 n3] 24)).alloc (.cells #[.int .u64 0, .int .u64 0, .int .u64 0, .int .u64 0] 24)).cell? ⟨w.heap.size + 1, 1, none⟩ = some (.int .u64 b1) ∧ ((((w.alloc (.cells #[.int .u64 a0, .int .u64 a1, .int .u64 a2, .int .u64 a3] 24)).alloc (.cells #[.int .u64 b0, .int .u64 b1, .int .u64 b2, .int .u64 b3] 24)).alloc (.cells #[.int .u64 n0, .int .u64 n1, .int .u64 n2, .int .u64 n3] 24)).alloc (.cells #[.int .u64 0, .int .u64 0, .int .u64 0, .int .u64 0] 24)).cell? ⟨w.heap.size + 1, 2, none⟩ = some (.int .u64 b2) ∧ ((((w.alloc (.cells #[.int .u64 a0, .int .u64 a1, .int .u64 a2, .int .u64 a3] 24)).alloc (.cells #[.int .u64 b0, .int .u64 b1, .int .u64 b2, .int .u64 b3] 24)).alloc (.cells #[.int .u64 n0, .int .u64 n1, .int .u64 n2, .int .u64 n3] 24)).alloc (.cells #[.int .u64 0, .int .u64 0, .int .u64 0, .int .u64 0] 24)).cell? ⟨w.heap.size + 1, 3, none⟩ = some (.int .u64 b3) ∧ ((((w.alloc (.cells #[.int .u64 a0, .int .u64 a1, .int .u64 a2, .int .u64 a3] 24)).alloc (.cells #[.int .u64 b0, .int .u64 b1, .int .u64 b2, .int .u64 b3] 24)).alloc (.cells #[.int .u64 n0, .int .u64 n1, .int .u64 n2, .int .u64 n3] 24)).alloc (.cells #[.int .u64 0, .int .u64 0, .int .u64 0, .int .u64 0] 24)).cell? ⟨w.heap.size + 1 + 1, 0, none⟩ = some (.int .u64 n0) ∧ ((((w.alloc (.cells #[.int .u64 a0, .int .u64 a1, .int .u64 a2, .int .u64 a3] 24)).alloc (.cells #[.int .u64 b0, .int .u64 b1, .int .u64 b2, .int .u64 b3] 24)).alloc (.cells #[.int .u64 n0, .int .u64 n1, .int .u64 n2, .int .u64 n3] 24)).alloc (.cells #[.int .u64 0, .int .u64 0, .int .u64 0, .int .u64 0] 24)).cell? ⟨w.heap.size + 1 + 1, 1, none⟩ = some (.int .u64 n1) ∧ ((((w.alloc (.cells #[.int .u64 a0, .int .u64 a1, .int .u64 a2, .int .u64 a3] 24)).alloc (.cells #[.int .u64 b0, .int .u64 b1, .int .u64 b2, .int .u64 b3] 24)).alloc (.cells #[.int .u64 n0, .int .u64 n1, .int .u64 n2, .int .u64 n3] 24)).alloc (.cells #[.int .u64 0, .int .u64 0, .int .u64 0, .int .u64 0] 24)).cell? ⟨w.heap.size + 1 + 1, 2, none⟩ = some (.int .u64 n2) ∧ ((((w.alloc (.cells #[.int .u64 a0, .int .u64 a1, .int .u64 a2, .int .u64 a3] 24)).alloc (.cells #[.int .u64 b0, .int .u64 b1, .int .u64 b2, .int .u64 b3] 24)).alloc (.cells #[.int .u64 n0, .int .u64 n1, .int .u64 n2, .int .u64 n3] 24)).alloc (.cells #[.int .u64 0, .int .u64 0, .int .u64 0, .int .u64 0] 24)).cell? ⟨w.heap.size + 1 + 1, 3, none⟩ = some (.int .u64 n3)) := by
    refine ⟨by simp, ?_, ?_, ?_, ?_, ?_, ?_, ?_, ?_, ?_, ?_, ?_, ?_⟩ <;> simp [go_sem, World.cell?_alloc_past]
  have r : ∀ k, k < 4 → (((((w.alloc (.cells #[.int .u64 a0, .int .u64 a1, .int .u64 a2, .int .u64 a3] 24)).alloc (.cells #[.int .u64 b0, .int .u64 b1, .int .u64 b2, .int .u64 b3] 24)).alloc (.cells #[.int .u64 n0, .int .u64 n1, .int .u64 n2, .int .u64 n3] 24)).alloc (.cells #[.int .u64 0, .int .u64 0, .int .u64 0, .int .u64 0] 24))).cell? ⟨w.heap.size + 1 + 1 + 1, k, none⟩ = some (.int .u64 0) := fun k hk => by
    rcases (by omega : k = 0 ∨ k = 1 ∨ k = 2 ∨ k = 3) with rfl | rfl | rfl | rfl <;> simp [go_sem, World.cell?_alloc_past]
  have fz : ∀ k, (((((w.alloc (.cells #[.int .u64 a0, .int .u64 a1, .int .u64 a2, .int .u64 a3] 24)).alloc (.cells #[.int .u64 b0, .int .u64 b1, .int .u64 b2, .int .u64 b3] 24)).alloc (.cells #[.int .u64 n0, .int .u64 n1, .int .u64 n2, .int .u64 n3] 24)).alloc (.cells #[.int .u64 0, .int .u64 0, .int .u64 0, .int .u64 0] 24))).frozen? ⟨w.heap.size + 1 + 1 + 1, k, none⟩ = false := fun k => by
    simp [go_sem, World.frozen?_alloc_past]
  have hB : Below w.heap.size w (((((w.alloc (.cells #[.int .u64 a0, .int .u64 a1, .int .u64 a2, .int .u64 a3] 24)).alloc (.cells #[.int .u64 b0, .int .u64 b1, .int .u64 b2, .int .u64 b3] 24)).alloc (.cells #[.int .u64 n0, .int .u64 n1, .int .u64 n2, .int .u64 n3] 24)).alloc (.cells #[.int .u64 0, .int .u64 0, .int .u64 0, .int .u64 0] 24))) := by go_grown
  generalize (((((w.alloc (.cells #[.int .u64 a0, .int .u64 a1, .int .u64 a2, .int .u64 a3] 24)).alloc (.cells #[.int .u64 b0, .int .u64 b1, .int .u64 b2, .int .u64 b3] 24)).alloc (.cells #[.int .u64 n0, .int .u64 n1, .int .u64 n2, .int .u64 n3] 24)).alloc (.cells #[.int .u64 0, .int .u64 0, .int .u64 0, .int .u64 0] 24))) = w0 at *
  have hz0 : w.heap.size + 1 + 1 + 1 < w0.heap.size := s.out.1
  go_cut [8] (fun s8 wc => ∃ (c : Nat) (y0 y1 y2 y3 : Int), s8 = .pointer (some ⟨c, 0, none⟩) ∧ L4 y0 y1 y2 y3 ∧ Hid (num y0 y1 y2 y3 = remN (num a0 a1 a2 a3 + num b0 b1 b2 b3) (num n0 n1 n2 n3)) ∧ wc.cell? ⟨c, 0, none⟩ = some (.int .u64 y0) ∧ wc.cell? ⟨c, 1, none⟩ = some (.int .u64 y1) ∧ wc.cell? ⟨c, 2, none⟩ = some (.int .u64 y2) ∧ wc.cell? ⟨c, 3, none⟩ = some (.int .u64 y3) ∧ (∀ k, k < 4 → wc.cell? ⟨w.heap.size + 1 + 1 + 1, k, none⟩ = some (.int .u64 0)) ∧ (∀ k, wc.frozen? ⟨w.heap.size + 1 + 1 + 1, k, none⟩ = false) ∧ Below w.heap.size w wc ∧ w.heap.size + 1 + 1 + 1 < wc.heap.size)
  case rest =>
    obtain ⟨c, y0, y1, y2, y3, rfl, L, E, g0, g1, g2, g3, r, fz, hB, hz⟩ := hcut
    go_wp2
    refine bodyPost_ret (v := W4 y0 y1 y2 y3) (by simp [results, Tryz.results56, go_sem, r, hz]) rfl ?_
    have hs0 := hB.size
    exact ⟨y0, y1, y2, y3, rfl, L, E, by go_grown⟩
  case first =>
    go_region_held3 (fun w' => w.heap.size + 1 + 1 + 1 < w'.heap.size ∧ w'.cell? ⟨w.heap.size, 0, none⟩ = some (.int .u64 a0) ∧ w'.cell? ⟨w.heap.size, 1, none⟩ = some (.int .u64 a1) ∧ w'.cell? ⟨w.heap.size, 2, none⟩ = some (.int .u64 a2) ∧ w'.cell? ⟨w.heap.size, 3, none⟩ = some (.int .u64 a3) ∧ w'.cell? ⟨w.heap.size + 1, 0, none⟩ = some (.int .u64 b0) ∧ w'.cell? ⟨w.heap.size + 1, 1, none⟩ = some (.int .u64 b1) ∧ w'.cell? ⟨w.heap.size + 1, 2, none⟩ = some (.int .u64 b2) ∧ w'.cell? ⟨w.heap.size + 1, 3, none⟩ = some (.int .u64 b3) ∧ w'.cell? ⟨w.heap.size + 1 + 1, 0, none⟩ = some (.int .u64 n0) ∧ w'.cell? ⟨w.heap.size + 1 + 1, 1, none⟩ = some (.int .u64 n1) ∧ w'.cell? ⟨w.heap.size + 1 + 1, 2, none⟩ = some (.int .u64 n2) ∧ w'.cell? ⟨w.heap.size + 1 + 1, 3, none⟩ = some (.int .u64 n3)) ((refine keep3 s.out ?_; go_grown; done))
      (first
        | (go_at_call 50; go_must (refine (sum_exact a0 a1 a2 a3 b0 b1 b2 b3 HA.out HB.out _).mono ?_; rintro e w1 ⟨t0, t1, t2, t3, x, rfl, LT, hx, hE, f1, f2, f3, f4, rfl⟩))
        | (go_at_call 69; go_must (refine (widen_exact t0 t1 t2 t3 x _).mono ?_; rintro e w3 ⟨rfl, e1, e2, rfl⟩))
        | (go_at_call 68; go_must (refine (divide_any t0 t1 t2 t3 x 0 0 0 n0 n1 n2 n3 ⟨LT, of_L4 (carry_limb hx)⟩ HN.out _).mono ?_; rintro e w2 ⟨q0, q1, q2, q3, q4, q5, q6, q7, y0, y1, y2, y3, rfl, LQ, LY, hQ, hR, hw2⟩; obtain ⟨hc_w2, hf_w2, hl_w2⟩ := belt hw2; have hzs := s.out.1; have r := stepR2 r (by go_grown) hw2 (by go_size); have fz := stepF2 fz (by go_grown) hw2 (by go_size); have hB : Below w.heap.size w w2 := Below.trans (by go_grown) (hw2.mono (by have := s.out.1; go_size)); have s : Hid _ := keep3s s.out (by go_grown) hw2; have hz_w2 := s.out.1; try have k0_w2_0 : w0.heap.size < w2.heap.size := (by have := hw2.size; simp at this; omega); try have k1_w2_0 : w0.heap.size + 1 < w2.heap.size := (by have := hw2.size; simp at this; omega); try have k2_w2_0 : w0.heap.size + 1 + 1 < w2.heap.size := (by have := hw2.size; simp at this; omega); try have k3_w2_0 : w0.heap.size + 1 + 1 + 1 < w2.heap.size := (by have := hw2.size; simp at this; omega); try have k4_w2_0 : w0.heap.size + 1 + 1 + 1 + 1 < w2.heap.size := (by have := hw2.size; simp at this; omega); try have k5_w2_0 : w0.heap.size + 1 + 1 + 1 + 1 + 1 < w2.heap.size := (by have := hw2.size; simp at this; omega); try have k6_w2_0 : w0.heap.size + 1 + 1 + 1 + 1 + 1 + 1 < w2.heap.size := (by have := hw2.size; simp at this; omega); try have k7_w2_0 : w0.heap.size + 1 + 1 + 1 + 1 + 1 + 1 + 1 < w2.heap.size := (by have := hw2.size; simp at this; omega); try have k8_w2_0 : w0.heap.size + 1 + 1 + 1 + 1 + 1 + 1 + 1 + 1 < w2.heap.size := (by have := hw2.size; simp at this; omega))))
    all_goals go_wp2
    all_goals go_meet
    all_goals
      have hEE : num y0 y1 y2 y3 = remN (num a0 a1 a2 a3 + num b0 b1 b2 b3) (num n0 n1 n2 n3) := hR.out.trans (by rw [num_carry, ← hE.out])
      refine ⟨_, y0, y1, y2, y3, rfl, LY, hEE, ?_, ?_, ?_, ?_, fun k hk => (Below.cell (B := w.heap.size + 1 + 1 + 1 + 1) (w := w2) (by go_grown) (p := ⟨_, k, none⟩) (by simp)).trans (r k hk), fun k => (Below.frozen (B := w.heap.size + 1 + 1 + 1 + 1) (w := w2) (by go_grown) (p := ⟨_, k, none⟩) (by simp)).trans (fz k), Below.trans hB (by go_grown), Nat.lt_of_lt_of_le hz_w2 (Below.size (B := w.heap.size + 1 + 1 + 1) (w := w2) (by go_grown))⟩
      all_goals first | (simp [*, go_sem]; done) | ((try simp [*, go_sem]); exact World.cell?_setCell_same (u := .int .u64 0) _ _ _ (by simp [*, go_sem]))
end Go.Proofs.YtionjibiemncbabGreat
