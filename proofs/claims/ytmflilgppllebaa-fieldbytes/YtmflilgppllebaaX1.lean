/- Walks over package word: what is left. -/
import Derived.Test.YtmflilgppllebaaP2
namespace Go.Proofs.Ytmflilgppllebaa
open Go.RowKit
set_option linter.unusedSimpArgs false
set_option linter.unusedVariables false
theorem wide0 {a0 a1 a2 a3 : Int} : num a0 a1 a2 a3 + T256 * num 0 0 0 0 = num a0 a1 a2 a3 := by
  rw [show num 0 0 0 0 = 0 from by decide]; omega
set_option maxHeartbeats 20000000 in
/-- word.Mod -/
theorem mod_any (a0 a1 a2 a3 b0 b1 b2 b3 : Int) (ha : L4 a0 a1 a2 a3) (hb : L4 b0 b1 b2 b3) (w : World) :
    Calls Try.prog 68 #[W4 a0 a1 a2 a3, W4 b0 b1 b2 b3] w fun e w' =>
      ∃ s0 s1 s2 s3 : Int, e = .returned (W4 s0 s1 s2 s3) ∧ L4 s0 s1 s2 s3 ∧ Hid (num s0 s1 s2 s3 = remN (num a0 a1 a2 a3) (num b0 b1 b2 b3)) ∧ Below w.heap.size w w' := by
  have HA : Hid _ := ha
  have HB : Hid _ := hb
  clear ha hb
  unfold W4
  go_enter Try.func68, Try.ntmps68
  go_wp2
  have s : Hid (w.heap.size + 1 + 1 < (((w.alloc (.cells #[.int .u64 a0, .int .u64 a1, .int .u64 a2, .int .u64 a3] 24)).alloc (.cells #[.int .u64 b0, .int .u64 b1, .int .u64 b2, .int .u64 b3] 24)).alloc (.cells #[.int .u64 0, .int .u64 0, .int .u64 0, .int .u64 0] 24)).heap.size ∧ (((w.alloc (.cells #[.int .u64 a0, .int .u64 a1, .int .u64 a2, .int .u64 a3] 24)).alloc (.cells #[.int .u64 b0, .int .u64 b1, .int .u64 b2, .int .u64 b3] 24)).alloc (.cells #[.int .u64 0, .int .u64 0, .int .u64 0, .int .u64 0] 24)).cell? ⟨w.heap.size, 0, none⟩ = some (.int .u64 a0) ∧ (((w.alloc (.cells #[.int .u64 a0, .int .u64 a1, .int .u64 a2, .int .u64 a3] 24)).alloc (.cells #[.int .u64 b0, .int .u64 b1, .int .u64 b2, .int .u64 b3] 24)).alloc (.cells #[.int .u64 0, .int .u64 0, .int .u64 0, .int .u64 0] 24)).cell? ⟨w.heap.size, 1, none⟩ = some (.int .u64 a1) ∧ (((w.alloc (.cells #[.int .u64 a0, .int .u64 a1, .int .u64 a2, .int .u64 a3] 24)).alloc (.cells #[.int .u64 b0, .int .u64 b1, .int .u64 b2, .int .u64 b3] 24)).alloc (.cells #[.int .u64 0, .int .u64 0, .int .u64 0, .int .u64 0] 24)).cell? ⟨w.heap.size, 2, none⟩ = some (.int .u64 a2) ∧ (((w.alloc (.cells #[.int .u64 a0, .int .u64 a1, .int .u64 a2, .int .u64 a3] 24)).alloc (.cells #[.int .u64 b0, .int .u64 b1, .int .u64 b2, .int .u64 b3] 24)).alloc (.cells #[.int .u64 0, .int .u64 0, .int .u64 0, .int .u64 0] 24)).cell? ⟨w.heap.size, 3, none⟩ = some (.int .u64 a3) ∧ (((w.alloc (.cells #[.int .u64 a0, .int .u64 a1, .int .u64 a2, .int .u64 a3] 24)).alloc (.cells #[.int .u64 b0, .int .u64 b1, .int .u64 b2, .int .u64 b3] 24)).alloc (.cells #[.int .u64 0, .int .u64 0, .int .u64 0, .int .u64 0] 24)).cell? ⟨w.heap.size + 1, 0, none⟩ = some (.int .u64 b0) ∧ (((w.alloc (.cells #[.int .u64 a0, .int .u64 a1, .int .u64 a2, .int .u64 a3] 24)).alloc (.cells #[.int .u64 b0, .int .u64 b1, .int .u64 b2, .int .u64 b3] 24)).alloc (.cells #[.int .u64 0, .int .u64 0, .int .u64 0, .int .u64 0] 24)).cell? ⟨w.heap.size + 1, 1, none⟩ = some (.int .u64 b1) ∧ (((w.alloc (.cells #[.int .u64 a0, .int .u64 a1, .int .u64 a2, .int .u64 a3] 24)).alloc (.cells #[.int .u64 b0, .int .u64 b1, .int .u64 b2, .int .u64 b3] 24)).alloc (.cells #[.int .u64 0, .int .u64 0, .int .u64 0, .int .u64 0] 24)).cell? ⟨w.heap.size + 1, 2, none⟩ = some (.int .u64 b2) ∧ (((w.alloc (.cells #[.int .u64 a0, .int .u64 a1, .int .u64 a2, .int .u64 a3] 24)).alloc (.cells #[.int .u64 b0, .int .u64 b1, .int .u64 b2, .int .u64 b3] 24)).alloc (.cells #[.int .u64 0, .int .u64 0, .int .u64 0, .int .u64 0] 24)).cell? ⟨w.heap.size + 1, 3, none⟩ = some (.int .u64 b3)) := by
    refine ⟨by simp, ?_, ?_, ?_, ?_, ?_, ?_, ?_, ?_⟩ <;> simp [go_sem, World.cell?_alloc_past]
  have r : ∀ k, k < 4 → ((((w.alloc (.cells #[.int .u64 a0, .int .u64 a1, .int .u64 a2, .int .u64 a3] 24)).alloc (.cells #[.int .u64 b0, .int .u64 b1, .int .u64 b2, .int .u64 b3] 24)).alloc (.cells #[.int .u64 0, .int .u64 0, .int .u64 0, .int .u64 0] 24))).cell? ⟨w.heap.size + 1 + 1, k, none⟩ = some (.int .u64 0) := fun k hk => by
    rcases (by omega : k = 0 ∨ k = 1 ∨ k = 2 ∨ k = 3) with rfl | rfl | rfl | rfl <;> simp [go_sem, World.cell?_alloc_past]
  have fz : ∀ k, ((((w.alloc (.cells #[.int .u64 a0, .int .u64 a1, .int .u64 a2, .int .u64 a3] 24)).alloc (.cells #[.int .u64 b0, .int .u64 b1, .int .u64 b2, .int .u64 b3] 24)).alloc (.cells #[.int .u64 0, .int .u64 0, .int .u64 0, .int .u64 0] 24))).frozen? ⟨w.heap.size + 1 + 1, k, none⟩ = false := fun k => by
    simp [go_sem, World.frozen?_alloc_past]
  have hB : Below w.heap.size w ((((w.alloc (.cells #[.int .u64 a0, .int .u64 a1, .int .u64 a2, .int .u64 a3] 24)).alloc (.cells #[.int .u64 b0, .int .u64 b1, .int .u64 b2, .int .u64 b3] 24)).alloc (.cells #[.int .u64 0, .int .u64 0, .int .u64 0, .int .u64 0] 24))) := by go_grown
  generalize ((((w.alloc (.cells #[.int .u64 a0, .int .u64 a1, .int .u64 a2, .int .u64 a3] 24)).alloc (.cells #[.int .u64 b0, .int .u64 b1, .int .u64 b2, .int .u64 b3] 24)).alloc (.cells #[.int .u64 0, .int .u64 0, .int .u64 0, .int .u64 0] 24))) = w0 at *
  have hz0 : w.heap.size + 1 + 1 < w0.heap.size := s.out.1
  go_cut [6] (fun s8 wc => ∃ (c : Nat) (y0 y1 y2 y3 : Int), s8 = .pointer (some ⟨c, 0, none⟩) ∧ L4 y0 y1 y2 y3 ∧ Hid (num y0 y1 y2 y3 = remN (num a0 a1 a2 a3) (num b0 b1 b2 b3)) ∧ wc.cell? ⟨c, 0, none⟩ = some (.int .u64 y0) ∧ wc.cell? ⟨c, 1, none⟩ = some (.int .u64 y1) ∧ wc.cell? ⟨c, 2, none⟩ = some (.int .u64 y2) ∧ wc.cell? ⟨c, 3, none⟩ = some (.int .u64 y3) ∧ (∀ k, k < 4 → wc.cell? ⟨w.heap.size + 1 + 1, k, none⟩ = some (.int .u64 0)) ∧ (∀ k, wc.frozen? ⟨w.heap.size + 1 + 1, k, none⟩ = false) ∧ Below w.heap.size w wc ∧ w.heap.size + 1 + 1 < wc.heap.size)
  case rest =>
    obtain ⟨c, y0, y1, y2, y3, rfl, L, E, g0, g1, g2, g3, r, fz, hB, hz⟩ := hcut
    go_wp2
    refine bodyPost_ret (v := W4 y0 y1 y2 y3) (by simp [results, Try.results68, go_sem, r, hz]) rfl ?_
    have hs0 := hB.size
    exact ⟨y0, y1, y2, y3, rfl, L, E, by go_grown⟩
  case first =>
    go_region_held3 (fun w' => w.heap.size + 1 + 1 < w'.heap.size ∧ w'.cell? ⟨w.heap.size, 0, none⟩ = some (.int .u64 a0) ∧ w'.cell? ⟨w.heap.size, 1, none⟩ = some (.int .u64 a1) ∧ w'.cell? ⟨w.heap.size, 2, none⟩ = some (.int .u64 a2) ∧ w'.cell? ⟨w.heap.size, 3, none⟩ = some (.int .u64 a3) ∧ w'.cell? ⟨w.heap.size + 1, 0, none⟩ = some (.int .u64 b0) ∧ w'.cell? ⟨w.heap.size + 1, 1, none⟩ = some (.int .u64 b1) ∧ w'.cell? ⟨w.heap.size + 1, 2, none⟩ = some (.int .u64 b2) ∧ w'.cell? ⟨w.heap.size + 1, 3, none⟩ = some (.int .u64 b3)) ((refine keep2 s.out ?_; go_grown; done))
      (first
        | (go_at_call 81; go_must (refine (widen_any a0 a1 a2 a3 0 _).mono ?_; rintro e w1 ⟨rfl, hw⟩; obtain ⟨hc_w1, hf_w1, hl_w1⟩ := belt hw; have hzs := s.out.1; have r := stepR2 r (by go_grown) hw (by go_size); have fz := stepF2 fz (by go_grown) hw (by go_size); have hB : Below w.heap.size w w1 := Below.trans (by go_grown) (hw.mono (by have := s.out.1; go_size)); have s : Hid _ := keep2s s.out (by go_grown) hw; have hz_w1 := s.out.1; try have k0_w1_0 : w0.heap.size < w1.heap.size := (by have := hw.size; simp at this; omega); try have k1_w1_0 : w0.heap.size + 1 < w1.heap.size := (by have := hw.size; simp at this; omega)))
        | (go_at_call 80; go_must (refine (divide_any a0 a1 a2 a3 0 0 0 0 b0 b1 b2 b3 ⟨HA.out, of_L4 limb0⟩ HB.out _).mono ?_; rintro e w2 ⟨q0, q1, q2, q3, q4, q5, q6, q7, y0, y1, y2, y3, rfl, LQ, LY, hQ, hR, hw2⟩; obtain ⟨hc_w2, hf_w2, hl_w2⟩ := belt hw2; have hzs := s.out.1; have r := stepR2 r (by go_grown) hw2 (by go_size); have fz := stepF2 fz (by go_grown) hw2 (by go_size); have hB : Below w.heap.size w w2 := Below.trans (by go_grown) (hw2.mono (by have := s.out.1; go_size)); have s : Hid _ := keep2s s.out (by go_grown) hw2; have hz_w2 := s.out.1; try have k0_w2_0 : w0.heap.size < w2.heap.size := (by have := hw2.size; simp at this; omega); try have k1_w2_0 : w0.heap.size + 1 < w2.heap.size := (by have := hw2.size; simp at this; omega); try have k0_w2_1 : w1.heap.size < w2.heap.size := (by have := hw2.size; simp at this; omega); try have k1_w2_1 : w1.heap.size + 1 < w2.heap.size := (by have := hw2.size; simp at this; omega))))
    all_goals go_wp2
    all_goals go_meet
    all_goals
      have hEE : num y0 y1 y2 y3 = remN (num a0 a1 a2 a3) (num b0 b1 b2 b3) := hR.out.trans (by rw [wide0])
      refine ⟨_, y0, y1, y2, y3, rfl, LY, hEE, ?_, ?_, ?_, ?_, fun k hk => (Below.cell (B := w.heap.size + 1 + 1 + 1) (w := w2) (by go_grown) (p := ⟨_, k, none⟩) (by simp)).trans (r k hk), fun k => (Below.frozen (B := w.heap.size + 1 + 1 + 1) (w := w2) (by go_grown) (p := ⟨_, k, none⟩) (by simp)).trans (fz k), Below.trans hB (by go_grown), Nat.lt_of_lt_of_le hz_w2 (Below.size (B := w.heap.size + 1 + 1) (w := w2) (by go_grown))⟩
      all_goals first | (simp [*, go_sem]; done) | ((try simp [*, go_sem]); exact World.cell?_setCell_same (u := .int .u64 0) _ _ _ (by simp [*, go_sem]))
end Go.Proofs.Ytmflilgppllebaa
