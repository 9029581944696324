/- Walks over package word: quotients and what is left, signed. -/
import Derived.Test.YtjbdfmepeniglabX2
import Derived.Test.YtjbdfmepeniglabX4
namespace Go.Proofs.Ytjbdfmepeniglab
open Go.RowKit
set_option linter.unusedSimpArgs false
set_option linter.unusedVariables false
/-- A block of four limbs. -/
def Cel (w : World) (b : Nat) (x0 x1 x2 x3 : Int) : Prop := b < w.heap.size ∧ w.cell? ⟨b, 0, none⟩ = some (.int .u64 x0) ∧ w.cell? ⟨b, 1, none⟩ = some (.int .u64 x1) ∧ w.cell? ⟨b, 2, none⟩ = some (.int .u64 x2) ∧ w.cell? ⟨b, 3, none⟩ = some (.int .u64 x3)
theorem Cel.on {W0 W w1 : World} {b : Nat} {x0 x1 x2 x3 : Int} (h : Cel W0 b x0 x1 x2 x3) (e : W.heap = W0.heap) (hb : Below W.heap.size W w1) : Cel w1 b x0 x1 x2 x3 := by
  obtain ⟨hz, c0, c1, c2, c3⟩ := h
  have hz' : b < W.heap.size := by rw [e]; exact hz
  have hc : ∀ k, W.cell? ⟨b, k, none⟩ = W0.cell? ⟨b, k, none⟩ := fun k => by unfold World.cell?; rw [e]
  exact ⟨Nat.lt_of_lt_of_le hz' hb.size, ((hb.cell (p := ⟨b, 0, none⟩) hz').trans (hc 0)).trans c0, ((hb.cell (p := ⟨b, 1, none⟩) hz').trans (hc 1)).trans c1, ((hb.cell (p := ⟨b, 2, none⟩) hz').trans (hc 2)).trans c2, ((hb.cell (p := ⟨b, 3, none⟩) hz').trans (hc 3)).trans c3⟩
/-- The signed quotient. -/
def sdivN (x y : Int) : Int := if xor (neg x) (neg y) = true then minusN (quoN (sizeN x) (sizeN y)) else quoN (sizeN x) (sizeN y)
/-- What is left, signed as x is. -/
def smodN (x y : Int) : Int := if neg x = true then minusN (remN (sizeN x) (sizeN y)) else remN (sizeN x) (sizeN y)
set_option maxHeartbeats 20000000 in
theorem sdiv_walk (a0 a1 a2 a3 b0 b1 b2 b3 : Int) (ha : L4 a0 a1 a2 a3) (hb : L4 b0 b1 b2 b3) (x y : Bool) (HNA : Hid (∀ w, Calls Try.prog 24 #[W4 a0 a1 a2 a3] w fun e w' => e = .returned (.bool x) ∧ Below w.heap.size w w')) (HNB : Hid (∀ w, Calls Try.prog 24 #[W4 b0 b1 b2 b3] w fun e w' => e = .returned (.bool y) ∧ Below w.heap.size w w')) (w : World) :
    Calls Try.prog 9 #[W4 a0 a1 a2 a3, W4 b0 b1 b2 b3] w fun e w' =>
      ∃ s0 s1 s2 s3 : Int, e = .returned (W4 s0 s1 s2 s3) ∧ L4 s0 s1 s2 s3 ∧ Hid (num s0 s1 s2 s3 = if xor x y = true then minusN (quoN (sizeN (num a0 a1 a2 a3)) (sizeN (num b0 b1 b2 b3))) else quoN (sizeN (num a0 a1 a2 a3)) (sizeN (num b0 b1 b2 b3))) ∧ Below w.heap.size w w' := by
  have HA : Hid _ := ha
  have HB : Hid _ := hb
  clear ha hb
  unfold W4 at *
  go_enter Try.func9, Try.ntmps9
  go_wp2_with fail
  have s : Hid (w.heap.size + 1 + 1 < (((w.alloc (.cells #[.int .u64 a0, .int .u64 a1, .int .u64 a2, .int .u64 a3] 24)).alloc (.cells #[.int .u64 b0, .int .u64 b1, .int .u64 b2, .int .u64 b3] 24)).alloc (.cells #[.int .u64 0, .int .u64 0, .int .u64 0, .int .u64 0] 24)).heap.size ∧ (((w.alloc (.cells #[.int .u64 a0, .int .u64 a1, .int .u64 a2, .int .u64 a3] 24)).alloc (.cells #[.int .u64 b0, .int .u64 b1, .int .u64 b2, .int .u64 b3] 24)).alloc (.cells #[.int .u64 0, .int .u64 0, .int .u64 0, .int .u64 0] 24)).cell? ⟨w.heap.size, 0, none⟩ = some (.int .u64 a0) ∧ (((w.alloc (.cells #[.int .u64 a0, .int .u64 a1, .int .u64 a2, .int .u64 a3] 24)).alloc (.cells #[.int .u64 b0, .int .u64 b1, .int .u64 b2, .int .u64 b3] 24)).alloc (.cells #[.int .u64 0, .int .u64 0, .int .u64 0, .int .u64 0] 24)).cell? ⟨w.heap.size, 1, none⟩ = some (.int .u64 a1) ∧ (((w.alloc (.cells #[.int .u64 a0, .int .u64 a1, .int .u64 a2, .int .u64 a3] 24)).alloc (.cells #[.int .u64 b0, .int .u64 b1, .int .u64 b2, .int .u64 b3] 24)).alloc (.cells #[.int .u64 0, .int .u64 0, .int .u64 0, .int .u64 0] 24)).cell? ⟨w.heap.size, 2, none⟩ = some (.int .u64 a2) ∧ (((w.alloc (.cells #[.int .u64 a0, .int .u64 a1, .int .u64 a2, .int .u64 a3] 24)).alloc (.cells #[.int .u64 b0, .int .u64 b1, .int .u64 b2, .int .u64 b3] 24)).alloc (.cells #[.int .u64 0, .int .u64 0, .int .u64 0, .int .u64 0] 24)).cell? ⟨w.heap.size, 3, none⟩ = some (.int .u64 a3) ∧ (((w.alloc (.cells #[.int .u64 a0, .int .u64 a1, .int .u64 a2, .int .u64 a3] 24)).alloc (.cells #[.int .u64 b0, .int .u64 b1, .int .u64 b2, .int .u64 b3] 24)).alloc (.cells #[.int .u64 0, .int .u64 0, .int .u64 0, .int .u64 0] 24)).cell? ⟨w.heap.size + 1, 0, none⟩ = some (.int .u64 b0) ∧ (((w.alloc (.cells #[.int .u64 a0, .int .u64 a1, .int .u64 a2, .int .u64 a3] 24)).alloc (.cells #[.int .u64 b0, .int .u64 b1, .int .u64 b2, .int .u64 b3] 24)).alloc (.cells #[.int .u64 0, .int .u64 0, .int .u64 0, .int .u64 0] 24)).cell? ⟨w.heap.size + 1, 1, none⟩ = some (.int .u64 b1) ∧ (((w.alloc (.cells #[.int .u64 a0, .int .u64 a1, .int .u64 a2, .int .u64 a3] 24)).alloc (.cells #[.int .u64 b0, .int .u64 b1, .int .u64 b2, .int .u64 b3] 24)).alloc (.cells #[.int .u64 0, .int .u64 0, .int .u64 0, .int .u64 0] 24)).cell? ⟨w.heap.size + 1, 2, none⟩ = some (.int .u64 b2) ∧ (((w.alloc (.cells #[.int .u64 a0, .int .u64 a1, .int .u64 a2, .int .u64 a3] 24)).alloc (.cells #[.int .u64 b0, .int .u64 b1, .int .u64 b2, .int .u64 b3] 24)).alloc (.cells #[.int .u64 0, .int .u64 0, .int .u64 0, .int .u64 0] 24)).cell? ⟨w.heap.size + 1, 3, none⟩ = some (.int .u64 b3)) := by
    refine ⟨by simp, ?_, ?_, ?_, ?_, ?_, ?_, ?_, ?_⟩ <;> simp [go_sem, World.cell?_alloc_past]
  have r : ∀ k, k < 4 → ((((w.alloc (.cells #[.int .u64 a0, .int .u64 a1, .int .u64 a2, .int .u64 a3] 24)).alloc (.cells #[.int .u64 b0, .int .u64 b1, .int .u64 b2, .int .u64 b3] 24)).alloc (.cells #[.int .u64 0, .int .u64 0, .int .u64 0, .int .u64 0] 24))).cell? ⟨w.heap.size + 1 + 1, k, none⟩ = some (.int .u64 0) := fun k hk => by
    rcases (by omega : k = 0 ∨ k = 1 ∨ k = 2 ∨ k = 3) with rfl | rfl | rfl | rfl <;> simp [go_sem, World.cell?_alloc_past]
  have fz : ∀ k, ((((w.alloc (.cells #[.int .u64 a0, .int .u64 a1, .int .u64 a2, .int .u64 a3] 24)).alloc (.cells #[.int .u64 b0, .int .u64 b1, .int .u64 b2, .int .u64 b3] 24)).alloc (.cells #[.int .u64 0, .int .u64 0, .int .u64 0, .int .u64 0] 24))).frozen? ⟨w.heap.size + 1 + 1, k, none⟩ = false := fun k => by
    simp [go_sem, World.frozen?_alloc_past]
  have hB : Below w.heap.size w ((((w.alloc (.cells #[.int .u64 a0, .int .u64 a1, .int .u64 a2, .int .u64 a3] 24)).alloc (.cells #[.int .u64 b0, .int .u64 b1, .int .u64 b2, .int .u64 b3] 24)).alloc (.cells #[.int .u64 0, .int .u64 0, .int .u64 0, .int .u64 0] 24))) := by go_grown
  generalize ((((w.alloc (.cells #[.int .u64 a0, .int .u64 a1, .int .u64 a2, .int .u64 a3] 24)).alloc (.cells #[.int .u64 b0, .int .u64 b1, .int .u64 b2, .int .u64 b3] 24)).alloc (.cells #[.int .u64 0, .int .u64 0, .int .u64 0, .int .u64 0] 24))) = w0 at *
  have hz0 : w.heap.size + 1 + 1 < w0.heap.size := s.out.1
  go_cut [5] (fun s8 wc => ∃ (c : Nat) (y0 y1 y2 y3 : Int), s8 = .pointer (some ⟨c, 0, none⟩) ∧ L4 y0 y1 y2 y3 ∧ Hid (num y0 y1 y2 y3 = quoN (sizeN (num a0 a1 a2 a3)) (sizeN (num b0 b1 b2 b3))) ∧ Hid (Cel wc c y0 y1 y2 y3) ∧ Hid (w.heap.size + 1 + 1 < wc.heap.size ∧ wc.cell? ⟨w.heap.size, 0, none⟩ = some (.int .u64 a0) ∧ wc.cell? ⟨w.heap.size, 1, none⟩ = some (.int .u64 a1) ∧ wc.cell? ⟨w.heap.size, 2, none⟩ = some (.int .u64 a2) ∧ wc.cell? ⟨w.heap.size, 3, none⟩ = some (.int .u64 a3) ∧ wc.cell? ⟨w.heap.size + 1, 0, none⟩ = some (.int .u64 b0) ∧ wc.cell? ⟨w.heap.size + 1, 1, none⟩ = some (.int .u64 b1) ∧ wc.cell? ⟨w.heap.size + 1, 2, none⟩ = some (.int .u64 b2) ∧ wc.cell? ⟨w.heap.size + 1, 3, none⟩ = some (.int .u64 b3)) ∧ (∀ k, k < 4 → wc.cell? ⟨w.heap.size + 1 + 1, k, none⟩ = some (.int .u64 0)) ∧ (∀ k, wc.frozen? ⟨w.heap.size + 1 + 1, k, none⟩ = false) ∧ Below w.heap.size w wc)
  case rest =>
    clear s r fz hB hz0
    obtain ⟨c, y0, y1, y2, y3, rfl, L, E, G, s, r, fz, hB⟩ := hcut
    have hs0 := hB.size
    cases x <;> cases y
    all_goals
      go_wp2_with fail
      go_region_held3 (fun w' => w.heap.size + 1 + 1 < w'.heap.size ∧ w'.cell? ⟨w.heap.size, 0, none⟩ = some (.int .u64 a0) ∧ w'.cell? ⟨w.heap.size, 1, none⟩ = some (.int .u64 a1) ∧ w'.cell? ⟨w.heap.size, 2, none⟩ = some (.int .u64 a2) ∧ w'.cell? ⟨w.heap.size, 3, none⟩ = some (.int .u64 a3) ∧ w'.cell? ⟨w.heap.size + 1, 0, none⟩ = some (.int .u64 b0) ∧ w'.cell? ⟨w.heap.size + 1, 1, none⟩ = some (.int .u64 b1) ∧ w'.cell? ⟨w.heap.size + 1, 2, none⟩ = some (.int .u64 b2) ∧ w'.cell? ⟨w.heap.size + 1, 3, none⟩ = some (.int .u64 b3)) ((refine keep2 s.out ?_; go_grown; done)) (first | (go_at_call_of 24 ([Value.agg #[Value.int .u64 a0, Value.int .u64 a1, Value.int .u64 a2, Value.int .u64 a3]]); go_must (refine Calls.mono (HNA.out _) ?_; rintro e w6 ⟨rfl, hw6⟩; have hzs := s.out.1; have r := stepR2 r (by go_grown) hw6 (by go_size); have fz := stepF2 fz (by go_grown) hw6 (by go_size); have hB : Below w.heap.size w w6 := Below.trans (by go_grown) (hw6.mono (by have := s.out.1; go_size)); have G : Hid _ := Cel.on G.out (by rfl) hw6; have s : Hid _ := keep2s s.out (by go_grown) hw6; clear hw6 hzs)) | (go_at_call_of 24 ([Value.agg #[Value.int .u64 b0, Value.int .u64 b1, Value.int .u64 b2, Value.int .u64 b3]]); go_must (refine Calls.mono (HNB.out _) ?_; rintro e w6 ⟨rfl, hw6⟩; have hzs := s.out.1; have r := stepR2 r (by go_grown) hw6 (by go_size); have fz := stepF2 fz (by go_grown) hw6 (by go_size); have hB : Below w.heap.size w w6 := Below.trans (by go_grown) (hw6.mono (by have := s.out.1; go_size)); have G : Hid _ := Cel.on G.out (by rfl) hw6; have s : Hid _ := keep2s s.out (by go_grown) hw6; clear hw6 hzs)))
      obtain ⟨zc, g0, g1, g2, g3⟩ := G.out
      obtain ⟨hz1, c0, c1, c2, c3, d0, d1, d2, d3⟩ := s.out
      go_wp2_with (first | (go_at_call 25; go_must (refine (negate_any y0 y1 y2 y3 L _).mono ?_; rintro e w7 ⟨z0, z1, z2, z3, rfl, LZ, EZ, hw7⟩; have r := stepR2 r (by go_grown) hw7 (by go_size); have fz := stepF2 fz (by go_grown) hw7 (by go_size); have hz1 := Nat.lt_of_lt_of_le hz1 hw7.size; have hB : Below w.heap.size w w7 := Below.trans (by go_grown) (hw7.mono (by go_size)))))
      first
        | (refine bodyPost_ret (v := W4 z0 z1 z2 z3) (by simp [results, Try.results9, go_sem, r, hz1]) rfl ?_
           have hs0 := hB.size
           exact ⟨z0, z1, z2, z3, rfl, LZ, by (show _ = _; rw [EZ.out, E.out] <;> rfl), by go_grown⟩)
        | (have hzz := s.out.1
           refine bodyPost_ret (v := W4 y0 y1 y2 y3) (by simp [results, Try.results9, go_sem, r, hzz]) rfl ?_
           have hs0 := hB.size
           exact ⟨y0, y1, y2, y3, rfl, L, E, by go_grown⟩)
  case first =>
    go_region_held3 (fun w' => w.heap.size + 1 + 1 < w'.heap.size ∧ w'.cell? ⟨w.heap.size, 0, none⟩ = some (.int .u64 a0) ∧ w'.cell? ⟨w.heap.size, 1, none⟩ = some (.int .u64 a1) ∧ w'.cell? ⟨w.heap.size, 2, none⟩ = some (.int .u64 a2) ∧ w'.cell? ⟨w.heap.size, 3, none⟩ = some (.int .u64 a3) ∧ w'.cell? ⟨w.heap.size + 1, 0, none⟩ = some (.int .u64 b0) ∧ w'.cell? ⟨w.heap.size + 1, 1, none⟩ = some (.int .u64 b1) ∧ w'.cell? ⟨w.heap.size + 1, 2, none⟩ = some (.int .u64 b2) ∧ w'.cell? ⟨w.heap.size + 1, 3, none⟩ = some (.int .u64 b3)) ((refine keep2 s.out ?_; go_grown; done))
      (first
        | (go_at_call_of 23 ([Value.agg #[Value.int .u64 a0, Value.int .u64 a1, Value.int .u64 a2, Value.int .u64 a3]]); go_must (refine (size_any a0 a1 a2 a3 HA.out _).mono ?_; rintro e w1 ⟨t0, t1, t2, t3, rfl, LT, ET, hw1⟩; obtain ⟨hc_w1, hf_w1, hl_w1⟩ := belt hw1; have hzs := s.out.1; have r := stepR2 r (by go_grown) hw1 (by go_size); have fz := stepF2 fz (by go_grown) hw1 (by go_size); have hB : Below w.heap.size w w1 := Below.trans (by go_grown) (hw1.mono (by have := s.out.1; go_size)); have s : Hid _ := keep2s s.out (by go_grown) hw1; have hz_w1 := s.out.1; try have k0_w1_0 : w0.heap.size < w1.heap.size := (by have := hw1.size; simp at this; omega); try have k1_w1_0 : w0.heap.size + 1 < w1.heap.size := (by have := hw1.size; simp at this; omega)))
        | (go_at_call_of 23 ([Value.agg #[Value.int .u64 b0, Value.int .u64 b1, Value.int .u64 b2, Value.int .u64 b3]]); go_must (refine (size_any b0 b1 b2 b3 HB.out _).mono ?_; rintro e w2 ⟨p0, p1, p2, p3, rfl, LP, EP, hw2⟩; obtain ⟨hc_w2, hf_w2, hl_w2⟩ := belt hw2; have hzs := s.out.1; have r := stepR2 r (by go_grown) hw2 (by go_size); have fz := stepF2 fz (by go_grown) hw2 (by go_size); have hB : Below w.heap.size w w2 := Below.trans (by go_grown) (hw2.mono (by have := s.out.1; go_size)); have s : Hid _ := keep2s s.out (by go_grown) hw2; have hz_w2 := s.out.1; try have k0_w2_0 : w0.heap.size < w2.heap.size := (by have := hw2.size; simp at this; omega); try have k1_w2_0 : w0.heap.size + 1 < w2.heap.size := (by have := hw2.size; simp at this; omega); try have k0_w2_1 : w1.heap.size < w2.heap.size := (by have := hw2.size; simp at this; omega); try have k1_w2_1 : w1.heap.size + 1 < w2.heap.size := (by have := hw2.size; simp at this; omega)))
        | (go_at_call 6; go_must (refine (div_any t0 t1 t2 t3 p0 p1 p2 p3 LT LP _).mono ?_; rintro e w3 ⟨y0, y1, y2, y3, rfl, LY, EY, hw3⟩; obtain ⟨hc_w3, hf_w3, hl_w3⟩ := belt hw3; have hzs := s.out.1; have r := stepR2 r (by go_grown) hw3 (by go_size); have fz := stepF2 fz (by go_grown) hw3 (by go_size); have hB : Below w.heap.size w w3 := Below.trans (by go_grown) (hw3.mono (by have := s.out.1; go_size)); have s : Hid _ := keep2s s.out (by go_grown) hw3; have hz_w3 := s.out.1; try have k0_w3_0 : w0.heap.size < w3.heap.size := (by have := hw3.size; simp at this; omega); try have k1_w3_0 : w0.heap.size + 1 < w3.heap.size := (by have := hw3.size; simp at this; omega); try have k0_w3_1 : w1.heap.size < w3.heap.size := (by have := hw3.size; simp at this; omega); try have k1_w3_1 : w1.heap.size + 1 < w3.heap.size := (by have := hw3.size; simp at this; omega); try have k0_w3_2 : w2.heap.size < w3.heap.size := (by have := hw3.size; simp at this; omega); try have k1_w3_2 : w2.heap.size + 1 < w3.heap.size := (by have := hw3.size; simp at this; omega))))
    all_goals go_wp2
    all_goals go_meet
    all_goals
      have hEE : num y0 y1 y2 y3 = quoN (sizeN (num a0 a1 a2 a3)) (sizeN (num b0 b1 b2 b3)) := EY.out.trans (by rw [ET.out, EP.out])
      refine ⟨_, y0, y1, y2, y3, rfl, LY, hEE, ⟨?_, ?_, ?_, ?_, ?_⟩, keep2 s.out (by go_grown), fun k hk => (Below.cell (B := w.heap.size + 1 + 1 + 1) (w := w3) (by go_grown) (p := ⟨_, k, none⟩) (by simp)).trans (r k hk), fun k => (Below.frozen (B := w.heap.size + 1 + 1 + 1) (w := w3) (by go_grown) (p := ⟨_, k, none⟩) (by simp)).trans (fz k), Below.trans hB (by go_grown)⟩
      all_goals first | (simp [*, go_sem]; done) | (go_size; done) | ((try simp [*, go_sem]); exact World.cell?_setCell_same (u := .int .u64 0) _ _ _ (by simp [*, go_sem]))
/-- word.Sdiv -/
theorem sdiv_any (a0 a1 a2 a3 b0 b1 b2 b3 : Int) (ha : L4 a0 a1 a2 a3) (hb : L4 b0 b1 b2 b3) (w : World) :
    Calls Try.prog 9 #[W4 a0 a1 a2 a3, W4 b0 b1 b2 b3] w fun e w' => ∃ s0 s1 s2 s3 : Int, e = .returned (W4 s0 s1 s2 s3) ∧ L4 s0 s1 s2 s3 ∧ Hid (num s0 s1 s2 s3 = sdivN (num a0 a1 a2 a3) (num b0 b1 b2 b3)) ∧ Below w.heap.size w w' :=
  sdiv_walk a0 a1 a2 a3 b0 b1 b2 b3 ha hb _ _ (fun w => negative_any a0 a1 a2 a3 ha w) (fun w => negative_any b0 b1 b2 b3 hb w) w
end Go.Proofs.Ytjbdfmepeniglab
