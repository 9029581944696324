/- X1, FQ, FR -/
import Derived.Test.YtojfcdjgcgnajaaGreatGP2
import Derived.Test.YtojfcdjgcgnajaaGreatGW4
import Derived.Deep.RegionHeld3
namespace Go.Proofs.YtojfcdjgcgnajaaGreat
open Go.RowKit
set_option linter.unusedSimpArgs false
set_option linter.unusedVariables false
theorem wide0 {a0 a1 a2 a3 : Int} : num a0 a1 a2 a3 + T256 * num 0 0 0 0 = num a0 a1 a2 a3 := by
 rw [show num 0 0 0 0 = 0 from by decide]; omega
set_option maxHeartbeats 20000000 in
theorem mod_any (a0 a1 a2 a3 b0 b1 b2 b3 : Int) (ha : L4 a0 a1 a2 a3) (hb : L4 b0 b1 b2 b3) (h3 : 0 < b3) (w : World) :
 Calls Tryz.prog 96 #[W4 a0 a1 a2 a3, W4 b0 b1 b2 b3] w fun e w' =>
  ∃ s0 s1 s2 s3 : Int, e = .returned (W4 s0 s1 s2 s3) ∧ L4 s0 s1 s2 s3 ∧ Hid (num s0 s1 s2 s3 = remN (num a0 a1 a2 a3) (num b0 b1 b2 b3)) ∧ Below w.heap.size w w' := by
 have HA : Hid _ := ha; have HB : Hid _ := hb; have H3 : Hid _ := h3; clear h3; clear ha hb; unfold W4; go_enter Tryz.func96, Tryz.ntmps96; go_wp2; have s : Hid (w.heap.size + 1 + 1 < (((w.alloc (.cells #[.int .u64 a0, .int .u64 a1, .int .u64 a2, .int .u64 a3] 51)).alloc (.cells #[.int .u64 b0, .int .u64 b1, .int .u64 b2, .int .u64 b3] 51)).alloc (.cells #[.int .u64 0, .int .u64 0, .int .u64 0, .int .u64 0] 51)).heap.size ∧ (((w.alloc (.cells #[.int .u64 a0, .int .u64 a1, .int .u64 a2, .int .u64 a3] 51)).alloc (.cells #[.int .u64 b0, .int .u64 b1, .int .u64 b2, .int .u64 b3] 51)).alloc (.cells #[.int .u64 0, .int .u64 0, .int .u64 0, .int .u64 0] 51)).cell? ⟨w.heap.size, 0, none⟩ = some (.int .u64 a0) ∧ (((w.alloc (.cells #[.int .u64 a0, .int .u64 a1, .int .u64 a2, .int .u64 a3] 51)).alloc (.cells #[.int .u64 b0, .int .u64 b1, .int .u64 b2, .int .u64 b3] 51)).alloc (.cells #[.int .u64 0, .int .u64 0, .int .u64 0, .int .u64 0] 51)).cell? ⟨w.heap.size, 1, none⟩ = some (.int .u64 a1) ∧ (((w.alloc (.cells #[.int .u64 a0, .int .u64 a1, .int .u64 a2, .int .u64 a3] 51)).alloc (.cells #[.int .u64 b0, .int .u64 b1, .int .u64 b2, .int .u64 b3] 51)).alloc (.cells #[.int .u64 0, .int .u64 0, .int .u64 0, .int .u64 0] 51)).cell? ⟨w.heap.size, 2, none⟩ = some (.int .u64 a2) ∧ (((w.alloc (.cells #[.int .u64 a0, .int .u64 a1, .int .u64 a2, .int .u64 a3] 51)).alloc (.cells #[.int .u64 b0, .int .u64 b1, .int .u64 b2, .int .u64 b3] 51)).alloc (.cells #[.int .u64 0, .int .u64 0, .int .u64 0, .int .u64 0] 51)).cell? ⟨w.heap.size, 3, none⟩ = some (.int .u64 a3) ∧ (((w.alloc (.cells #[.int .u64 a0, .int .u64 a1, .int .u64 a2, .int .u64 a3] 51)).alloc (.cells #[.int .u64 b0, .int .u64 b1, .int .u64 b2, .int .u64 b3] 51)).alloc (.cells #[.int .u64 0, .int .u64 0, .int .u64 0, .int .u64 0] 51)).cell? ⟨w.heap.size + 1, 0, none⟩ = some (.int .u64 b0) ∧ (((w.alloc (.cells #[.int .u64 a0, .int .u64 a1, .int .u64 a2, .int .u64 a3] 51)).alloc (.cells #[.int .u64 b0, .int .u64 b1, .int .u64 b2, .int .u64 b3] 51)).alloc (.cells #[.int .u64 0, .int .u64 0, .int .u64 0, .int .u64 0] 51)).cell? ⟨w.heap.size + 1, 1, none⟩ = some (.int .u64 b1) ∧ (((w.alloc (.cells #[.int .u64 a0, .int .u64 a1, .int .u64 a2, .int .u64 a3] 51)).alloc (.cells #[.int .u64 b0, .int .u64 b1, .int .u64 b2, .int .u64 b3] 51)).alloc (.cells #[.int .u64 0, .int .u64 0, .int .u64 0, .int .u64 0] 51)).cell? ⟨w.heap.size + 1, 2, none⟩ = some (.int .u64 b2) ∧ (((w.alloc (.cells #[.int .u64 a0, .int .u64 a1, .int .u64 a2, .int .u64 a3] 51)).alloc (.cells #[.int .u64 b0, .int .u64 b1, .int .u64 b2, .int .u64 b3] 51)).alloc (.cells #[.int .u64 0, .int .u64 0, .int .u64 0, .int .u64 0] 51)).cell? ⟨w.heap.size + 1, 3, none⟩ = some (.int .u64 b3)) := by
  refine ⟨by simp, ?_, ?_, ?_, ?_, ?_, ?_, ?_, ?_⟩ <;> simp [go_sem, World.cell?_alloc_past]
 have r : ∀ k, k < 4 → ((((w.alloc (.cells #[.int .u64 a0, .int .u64 a1, .int .u64 a2, .int .u64 a3] 51)).alloc (.cells #[.int .u64 b0, .int .u64 b1, .int .u64 b2, .int .u64 b3] 51)).alloc (.cells #[.int .u64 0, .int .u64 0, .int .u64 0, .int .u64 0] 51))).cell? ⟨w.heap.size + 1 + 1, k, none⟩ = some (.int .u64 0) := fun k hk => by
  rcases (by omega : k = 0 ∨ k = 1 ∨ k = 2 ∨ k = 3) with rfl | rfl | rfl | rfl <;> simp [go_sem, World.cell?_alloc_past]
 have fz : ∀ k, ((((w.alloc (.cells #[.int .u64 a0, .int .u64 a1, .int .u64 a2, .int .u64 a3] 51)).alloc (.cells #[.int .u64 b0, .int .u64 b1, .int .u64 b2, .int .u64 b3] 51)).alloc (.cells #[.int .u64 0, .int .u64 0, .int .u64 0, .int .u64 0] 51))).frozen? ⟨w.heap.size + 1 + 1, k, none⟩ = false := fun k => by
  simp [go_sem, World.frozen?_alloc_past]
 have hB : Below w.heap.size w ((((w.alloc (.cells #[.int .u64 a0, .int .u64 a1, .int .u64 a2, .int .u64 a3] 51)).alloc (.cells #[.int .u64 b0, .int .u64 b1, .int .u64 b2, .int .u64 b3] 51)).alloc (.cells #[.int .u64 0, .int .u64 0, .int .u64 0, .int .u64 0] 51))) := by go_grown
 generalize ((((w.alloc (.cells #[.int .u64 a0, .int .u64 a1, .int .u64 a2, .int .u64 a3] 51)).alloc (.cells #[.int .u64 b0, .int .u64 b1, .int .u64 b2, .int .u64 b3] 51)).alloc (.cells #[.int .u64 0, .int .u64 0, .int .u64 0, .int .u64 0] 51))) = w0 at *; have hz0 : w.heap.size + 1 + 1 < w0.heap.size := s.out.1; go_cut [6] (fun s8 wc => ∃ (c : Nat) (y0 y1 y2 y3 : Int), s8 = .pointer (some ⟨c, 0, none⟩) ∧ L4 y0 y1 y2 y3 ∧ Hid (num y0 y1 y2 y3 = remN (num a0 a1 a2 a3) (num b0 b1 b2 b3)) ∧ wc.cell? ⟨c, 0, none⟩ = some (.int .u64 y0) ∧ wc.cell? ⟨c, 1, none⟩ = some (.int .u64 y1) ∧ wc.cell? ⟨c, 2, none⟩ = some (.int .u64 y2) ∧ wc.cell? ⟨c, 3, none⟩ = some (.int .u64 y3) ∧ (∀ k, k < 4 → wc.cell? ⟨w.heap.size + 1 + 1, k, none⟩ = some (.int .u64 0)) ∧ (∀ k, wc.frozen? ⟨w.heap.size + 1 + 1, k, none⟩ = false) ∧ Below w.heap.size w wc ∧ w.heap.size + 1 + 1 < wc.heap.size)
 case rest =>
  obtain ⟨c, y0, y1, y2, y3, rfl, L, E, g0, g1, g2, g3, r, fz, hB, hz⟩ := hcut; go_wp2; refine bodyPost_ret (v := W4 y0 y1 y2 y3) (by simp [results, Tryz.results96, go_sem, r, hz]) rfl ?_; have hs0 := hB.size; exact ⟨y0, y1, y2, y3, rfl, L, E, by go_grown⟩
 case first =>
  go_region_held3 (fun w' => w.heap.size + 1 + 1 < w'.heap.size ∧ w'.cell? ⟨w.heap.size, 0, none⟩ = some (.int .u64 a0) ∧ w'.cell? ⟨w.heap.size, 1, none⟩ = some (.int .u64 a1) ∧ w'.cell? ⟨w.heap.size, 2, none⟩ = some (.int .u64 a2) ∧ w'.cell? ⟨w.heap.size, 3, none⟩ = some (.int .u64 a3) ∧ w'.cell? ⟨w.heap.size + 1, 0, none⟩ = some (.int .u64 b0) ∧ w'.cell? ⟨w.heap.size + 1, 1, none⟩ = some (.int .u64 b1) ∧ w'.cell? ⟨w.heap.size + 1, 2, none⟩ = some (.int .u64 b2) ∧ w'.cell? ⟨w.heap.size + 1, 3, none⟩ = some (.int .u64 b3)) ((refine keep2 s.out ?_; go_grown; done))
   (first
     | (go_at_call 64; go_must (refine (widen_any a0 a1 a2 a3 0 _).mono ?_; rintro e w1 ⟨rfl, hw⟩; obtain ⟨hc_w1, hf_w1, hl_w1⟩ := belt hw; have hzs := s.out.1; have r := stepR2 r (by go_grown) hw (by go_size); have fz := stepF2 fz (by go_grown) hw (by go_size); have hB : Below w.heap.size w w1 := Below.trans (by go_grown) (hw.mono (by have := s.out.1; go_size)); have s : Hid _ := keep2s s.out (by go_grown) hw; have hz_w1 := s.out.1; try have k0_w1_0 : w0.heap.size < w1.heap.size := (by have := hw.size; simp at this; omega); try have k1_w1_0 : w0.heap.size + 1 < w1.heap.size := (by have := hw.size; simp at this; omega)))
     | (go_at_call 63; go_must (refine (divide_any a0 a1 a2 a3 0 0 0 0 b0 b1 b2 b3 ⟨HA.out, of_L4 limb0⟩ HB.out H3.out _).mono ?_; rintro e w2 ⟨q0, q1, q2, q3, q4, q5, q6, q7, y0, y1, y2, y3, rfl, LQ, LY, hQ, hR, hw2⟩; obtain ⟨hc_w2, hf_w2, hl_w2⟩ := belt hw2; have hzs := s.out.1; have r := stepR2 r (by go_grown) hw2 (by go_size); have fz := stepF2 fz (by go_grown) hw2 (by go_size); have hB : Below w.heap.size w w2 := Below.trans (by go_grown) (hw2.mono (by have := s.out.1; go_size)); have s : Hid _ := keep2s s.out (by go_grown) hw2; have hz_w2 := s.out.1; try have k0_w2_0 : w0.heap.size < w2.heap.size := (by have := hw2.size; simp at this; omega); try have k1_w2_0 : w0.heap.size + 1 < w2.heap.size := (by have := hw2.size; simp at this; omega); try have k0_w2_1 : w1.heap.size < w2.heap.size := (by have := hw2.size; simp at this; omega); try have k1_w2_1 : w1.heap.size + 1 < w2.heap.size := (by have := hw2.size; simp at this; omega))))
  all_goals go_wp2
  all_goals go_meet
  all_goals
   have hEE : num y0 y1 y2 y3 = remN (num a0 a1 a2 a3) (num b0 b1 b2 b3) := hR.out.trans (by rw [wide0]); refine ⟨_, y0, y1, y2, y3, rfl, LY, hEE, ?_, ?_, ?_, ?_, fun k hk => (Below.cell (B := w.heap.size + 1 + 1 + 1) (w := w2) (by go_grown) (p := ⟨_, k, none⟩) (by simp)).trans (r k hk), fun k => (Below.frozen (B := w.heap.size + 1 + 1 + 1) (w := w2) (by go_grown) (p := ⟨_, k, none⟩) (by simp)).trans (fz k), Below.trans hB (by go_grown), Nat.lt_of_lt_of_le hz_w2 (Below.size (B := w.heap.size + 1 + 1) (w := w2) (by go_grown))⟩
   all_goals first | (simp [*, go_sem]; done) | ((try simp [*, go_sem]); exact World.cell?_setCell_same (u := .int .u64 0) _ _ _ (by simp [*, go_sem]))
end Go.Proofs.YtojfcdjgcgnajaaGreat
namespace Go.Proofs.YtojfcdjgcgnajaaGreat
open Go.RowKit
set_option linter.unusedSimpArgs false
set_option linter.unusedVariables false
theorem modC : ModC := fun a0 a1 a2 a3 b0 b1 b2 b3 ha hb h0 w => by
 refine (mod_any a0 a1 a2 a3 b0 b1 b2 b3 ha hb h0 w).mono ?_; rintro e w' ⟨s0, s1, s2, s3, rfl, hL, hN, hw⟩; refine ⟨s0, s1, s2, s3, rfl, hL, ?_, hw⟩; show _ = _; rw [hN.out]; unfold remN; rw [if_neg (by have := hb.1.1; have := hb.2.1.1; have := hb.2.2.1.1; unfold num; omega)]
def IsW (v : Value) (x : Int) : Prop := ∃ s0 s1 s2 s3, v = W4 s0 s1 s2 s3 ∧ L4 s0 s1 s2 s3 ∧ num s0 s1 s2 s3 = x
def GivesW (f : Nat) (args : Array Value) (x : Int) : Prop := ∀ w : World, Calls Tryz.prog f args w fun e w' => ∃ v, e = .returned v ∧ IsW v x ∧ Below w.heap.size w w'
theorem IsW.bd {v : Value} {x : Int} (h : IsW v x) : 0 ≤ x ∧ x < T256 := by
 obtain ⟨s0, s1, s2, s3, _, hL, rfl⟩ := h; exact num_bd hL
theorem IsW.uniq {v u : Value} {x : Int} (h : IsW v x) (k : IsW u x) : v = u := by
 obtain ⟨s0, s1, s2, s3, rfl, hL, hx⟩ := h; obtain ⟨t0, t1, t2, t3, rfl, hK, rfl⟩ := k; obtain ⟨rfl, rfl, rfl, rfl⟩ := num_inj hL hK hx; rfl
theorem IsW.mk {s0 s1 s2 s3 : Int} (h : L4 s0 s1 s2 s3) : IsW (W4 s0 s1 s2 s3) (num s0 s1 s2 s3) := ⟨_, _, _, _, rfl, h, rfl⟩
theorem limb_lit (n : Nat) (h : n < 18446744073709551616) : Limb (n : Int) := ⟨by omega, by omega⟩
theorem isw_small (n : Nat) (h : n < 18446744073709551616) : IsW (W4 (n : Int) 0 0 0) (n : Int) := ⟨_, _, _, _, rfl, ⟨limb_lit n h, limb_lit 0 (by decide), limb_lit 0 (by decide), limb_lit 0 (by decide)⟩, by unfold num; omega⟩
theorem g_p : GivesW 83 #[] PP := fun w => (p_any w).mono (by rintro e w' ⟨rfl, hb⟩; exact ⟨_, rfl, ⟨_, _, _, _, rfl, p_L4, p_num⟩, hb⟩)
theorem g_of (n : Nat) (h : n < 18446744073709551616) : GivesW 43 #[.int .u64 (n : Int)] (n : Int) := fun w => (of_exact (n : Int) w).mono (by rintro e w' ⟨rfl, c, rfl⟩; exact ⟨_, rfl, isw_small n h, by go_grown⟩)
theorem g_add {va vb : Value} {x y : Int} (ha : IsW va x) (hb : IsW vb y) : GivesW 139 #[va, vb] ((x + y) % T256) := fun w => by
 obtain ⟨a0, a1, a2, a3, rfl, la, rfl⟩ := ha; obtain ⟨b0, b1, b2, b3, rfl, lb, rfl⟩ := hb; refine (add_any a0 a1 a2 a3 b0 b1 b2 b3 la lb w).mono ?_; rintro e w' ⟨s0, s1, s2, s3, rfl, hL, hN, hw⟩; exact ⟨_, rfl, ⟨s0, s1, s2, s3, rfl, hL, hN.out⟩, hw⟩
theorem g_sub {va vb : Value} {x y : Int} (ha : IsW va x) (hb : IsW vb y) : GivesW 142 #[va, vb] ((x - y) % T256) := fun w => by
 obtain ⟨a0, a1, a2, a3, rfl, la, rfl⟩ := ha; obtain ⟨b0, b1, b2, b3, rfl, lb, rfl⟩ := hb; refine (sub_any a0 a1 a2 a3 b0 b1 b2 b3 la lb w).mono ?_; rintro e w' ⟨s0, s1, s2, s3, rfl, hL, hN, hw⟩; exact ⟨_, rfl, ⟨s0, s1, s2, s3, rfl, hL, hN.out⟩, hw⟩
theorem g_shr {va vb : Value} {x y : Int} (ha : IsW va x) (hb : IsW vb y) : GivesW 102 #[va, vb] (shrN x y) := fun w => by
 obtain ⟨a0, a1, a2, a3, rfl, la, rfl⟩ := ha; obtain ⟨b0, b1, b2, b3, rfl, lb, rfl⟩ := hb; refine (shr_any a0 a1 a2 a3 b0 b1 b2 b3 la lb w).mono ?_; rintro e w' ⟨s0, s1, s2, s3, rfl, hL, hN, hw⟩; exact ⟨_, rfl, ⟨s0, s1, s2, s3, rfl, hL, hN.out⟩, hw⟩
theorem g_fadd {va vb : Value} {x y : Int} (ha : IsW va x) (hb : IsW vb y) : GivesW 86 #[va, vb] ((x + y) % PP) := fun w => by
 obtain ⟨a0, a1, a2, a3, rfl, la, rfl⟩ := ha; obtain ⟨b0, b1, b2, b3, rfl, lb, rfl⟩ := hb; refine (fadd_any modC a0 a1 a2 a3 b0 b1 b2 b3 la lb w).mono ?_; rintro e w' ⟨s0, s1, s2, s3, rfl, hL, hN, hw⟩; exact ⟨_, rfl, ⟨s0, s1, s2, s3, rfl, hL, hN.out⟩, hw⟩
theorem g_fsub {va vb : Value} {x y : Int} (ha : IsW va x) (hb : IsW vb y) : GivesW 85 #[va, vb] ((x - y) % PP) := fun w => by
 obtain ⟨a0, a1, a2, a3, rfl, la, rfl⟩ := ha; obtain ⟨b0, b1, b2, b3, rfl, lb, rfl⟩ := hb; refine (fsub_any modC a0 a1 a2 a3 b0 b1 b2 b3 la lb w).mono ?_; rintro e w' ⟨s0, s1, s2, s3, rfl, hL, hN, hw⟩; exact ⟨_, rfl, ⟨s0, s1, s2, s3, rfl, hL, hN.out⟩, hw⟩
theorem g_fmul {va vb : Value} {x y : Int} (ha : IsW va x) (hb : IsW vb y) : GivesW 84 #[va, vb] ((x * y) % PP) := fun w => by
 obtain ⟨a0, a1, a2, a3, rfl, la, rfl⟩ := ha; obtain ⟨b0, b1, b2, b3, rfl, lb, rfl⟩ := hb; refine (fmul_any modC a0 a1 a2 a3 b0 b1 b2 b3 la lb w).mono ?_; rintro e w' ⟨s0, s1, s2, s3, rfl, hL, hN, hw⟩; exact ⟨_, rfl, ⟨s0, s1, s2, s3, rfl, hL, hN.out⟩, hw⟩
theorem g_fbelow {va : Value} {x : Int} (ha : IsW va x) : GivesW 36 #[va] (x % PP) := fun w => by
 obtain ⟨a0, a1, a2, a3, rfl, la, rfl⟩ := ha; refine (fbelow_any modC a0 a1 a2 a3 la w).mono ?_; rintro e w' ⟨s0, s1, s2, s3, rfl, hL, hN, hw⟩; exact ⟨_, rfl, ⟨s0, s1, s2, s3, rfl, hL, hN.out⟩, hw⟩
theorem two256 : ((2 ^ 256 : Nat) : Int) = T256 := by decide
theorem g_fpow {va vb : Value} {x : Int} (E : Nat) (ha : IsW va x) (hb : IsW vb (E : Int)) : GivesW 138 #[va, vb] (x ^ E % PP) := fun w => by
 have hE := hb.bd; obtain ⟨a0, a1, a2, a3, rfl, la, hx⟩ := ha; obtain ⟨b0, b1, b2, b3, rfl, lb, hy⟩ := hb; refine (fpow_any modC a0 a1 a2 a3 b0 b1 b2 b3 la lb x hx E hy.symm (by have := two256; omega) w).mono ?_; rintro e w' ⟨s0, s1, s2, s3, rfl, hL, hN, hw⟩; exact ⟨_, rfl, ⟨s0, s1, s2, s3, rfl, hL, hN.out⟩, hw⟩
theorem g_bit0 {va : Value} {x : Int} (ha : IsW va x) (w : World) : Calls Tryz.prog 141 #[va, .int .i64 0] w fun e w' => e = .returned (.bool (decide (x % 2 = 1))) ∧ Below w.heap.size w w' := by
 obtain ⟨a0, a1, a2, a3, rfl, la, rfl⟩ := ha; have h := bit_any a0 a1 a2 a3 la 0 (by decide) w
 simpa using h
theorem eqW {va vb : Value} {x y : Int} (ha : IsW va x) (hb : IsW vb y) (w : World) : (Op.equalIn 10000 51 va vb).run Tryz.prog w = .ok (x == y) w := by
 obtain ⟨a0, a1, a2, a3, rfl, la, rfl⟩ := ha; obtain ⟨b0, b1, b2, b3, rfl, lb, rfl⟩ := hb; exact eq24_num la lb w
end Go.Proofs.YtojfcdjgcgnajaaGreat
namespace Go.Proofs.YtojfcdjgcgnajaaGreat
open Go.RowKit
set_option linter.unusedSimpArgs false
set_option linter.unusedVariables false
theorem run_load_exec {P : Program} {a : Act} {o : Oper} {w : World} {v : Value} (ty : TypeId) (x : Operand) (ho : o.op = .load ty x) (g : Addr) (hx : a.eval x = .pointer (some g)) (h : (loadVar ty g).run P w = .ok v w) : (execOp a.eval o).run P w = .ok (.value v) w := by
 unfold execOp; simp only [ho, hx, Instr.loadAt, Instr.sureAddr, Sem.run_bind, Sem.run_pure, Result.andThen_ok, h]
theorem step_store_row {P : Program} {ops : Array Oper} {o : Oper} {a : Act} {w : World} {K : Act → World → Prop} {Q : Exit → Act → World → Prop} {E : Prop} (hw : Region.wanted o (yielded ops a.tmps) = true) (ty : TypeId) (x y : Operand) (ho : o.op = .store ty x y)
 (g : Nat) (c : Array Value) (hx : a.eval x = .pointer (some ⟨g, 0, none⟩)) (hy : a.eval y = .agg c) (hrun : (storeVar ty ⟨g, 0, none⟩ (.agg c)).run P w = .ok () (w.setRow g c))
 (h : K (a.put o.dst undef) (w.setRow g c)) : if Region.wanted o (yielded ops a.tmps) = true then Oper.wp P o a w K Q else E := by
 rw [if_pos hw]; unfold Oper.wp execOp; simp only [ho, hx, hy, Instr.storeAt, Instr.sureAddr, Sem.run_bind, Sem.run_pure, Result.andThen_ok, hrun]; exact h
def E4 : Nat := 14474011154664524427946373126085988481658748083205070504932198000989141204987
def E2 : Nat := 57896044618658097711785492504343953926634992332820282019728792003956564819947
def E8 : Nat := 7237005577332262213973186563042994240829374041602535252466099000494570602494
theorem e4_val : shrN 2 ((PP - 1) % T256) = (E4 : Int) := by decide +kernel
theorem e2_val : (PP - 2) % T256 = (E2 : Int) := by decide +kernel
theorem e8_val : shrN 3 ((PP + 3) % T256) = (E8 : Int) := by decide +kernel
theorem kept {w u : World} {b : Nat} {o : Obj} (h : w.heap[b]? = some o) (hb : Below w.heap.size w u) : u.heap[b]? = some o := (hb.block _ (flt_of_some h)).trans h
theorem g_of1 : GivesW 43 #[.int .u64 1] 1 := g_of 1 (by decide)
theorem g_of2 : GivesW 43 #[.int .u64 2] 2 := g_of 2 (by decide)
theorem g_of3 : GivesW 43 #[.int .u64 3] 3 := g_of 3 (by decide)
set_option maxRecDepth 20000 in
set_option maxHeartbeats 1000000 in
theorem g_mroot : GivesW 140 #[] (2 ^ E4 % PP) := fun w => by
 have hA : (w.alloc (.cells (C4 0 0 0 0) 51)).heap[w.heap.size]? = some (.cells (C4 0 0 0 0) 51 (0, 0)) := heap_alloc_new _ _; have bA : Below w.heap.size w (w.alloc (.cells (C4 0 0 0 0) 51)) := by go_grown
 have HA : Hid (_ ∧ _) := ⟨hA, bA⟩
 clear hA bA; go_enter Tryz.func140, Tryz.ntmps140; go_wp2_with fail; refine Calls.mono (g_of2 _) ?_; rintro e w1 ⟨v1, rfl, h1, b1⟩; go_wp2_with fail; refine Calls.mono (g_of2 _) ?_; rintro e w2 ⟨v2, rfl, h2, b2⟩; go_wp2_with fail; refine Calls.mono (g_p _) ?_; rintro e w3 ⟨v3, rfl, h3, b3⟩; go_wp2_with fail; refine Calls.mono (g_of1 _) ?_; rintro e w4 ⟨v4, rfl, h4, b4⟩; go_wp2_with fail; refine Calls.mono (g_sub h3 h4 _) ?_; rintro e w5 ⟨v5, rfl, h5, b5⟩; go_wp2_with fail; refine Calls.mono (g_shr h2 h5 _) ?_; rintro e w6 ⟨v6, rfl, h6, b6⟩; rw [e4_val] at h6; have HG := g_fpow E4 h1 h6; have HG1 : Hid _ := HG; clear HG; go_wp2_with fail; refine Calls.mono (HG1.out _) ?_; rintro e w7 ⟨v7, rfl, h7, b7⟩; have k1 := b1.trans (b2.mono b1.size); have k2 := k1.trans (b3.mono k1.size); have k3 := k2.trans (b4.mono k2.size); have k4 := k3.trans (b5.mono k3.size); have k5 := k4.trans (b6.mono k4.size); have k6 := k5.trans (b7.mono k5.size); have hh := kept HA.out.1 k6; have hB : Below w.heap.size w w7 := HA.out.2.trans (k6.mono HA.out.2.size); have H7 : Hid _ := h7; clear k1 k2 k3 k4 k5 k6 b1 b2 b3 b4 b5 b6 b7 h1 h2 h3 h4 h5 h6 h7 HG1 HA; obtain ⟨s0, s1, s2, s3, rfl, hL, hN⟩ := H7.out; go_wp2_with (first | (refine wpList_store_row rfl 51 _ _ rfl w.heap.size (C4 s0 s1 s2 s3) rfl rfl 51 _ hh (info24c _ _ _ _) rfl (fone4 _ _ _ _) ?_)); exact bodyPost_ret (results_cell_row rfl _ _ _ _ _ _ _ rfl (setRow_heap _ _ _ _ _ _ hh) Tryz.underlying51 rfl (info24c _ _ _ _)) rfl ⟨_, rfl, ⟨s0, s1, s2, s3, rfl, hL, hN⟩, below_setRow hB (Nat.le_refl _) _⟩
end Go.Proofs.YtojfcdjgcgnajaaGreat
