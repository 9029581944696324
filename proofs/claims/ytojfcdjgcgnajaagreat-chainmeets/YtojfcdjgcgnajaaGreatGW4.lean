/- FP, W4 -/
import Derived.Test.YtojfcdjgcgnajaaGreatGFE
import Derived.Test.YtojfcdjgcgnajaaGreatGW3
import Derived.Deep.WholeRow
import Derived.Laws.Rows
import Derived.Laws.Tables
namespace Go.Proofs.YtojfcdjgcgnajaaGreat
open Go.RowKit
set_option linter.unusedSimpArgs false
set_option linter.unusedVariables false
abbrev C4 (a0 a1 a2 a3 : Int) : Array Value := #[.int .u64 a0, .int .u64 a1, .int .u64 a2, .int .u64 a3]
theorem info24c (a0 a1 a2 a3 : Int) : (Tryz.prog.info? 51).map (·.size) = some (C4 a0 a1 a2 a3).size := by kernel_rfl
theorem fone4 (a0 a1 a2 a3 : Int) : (C4 a0 a1 a2 a3).all (·.oneCell') = true := by simp [Value.oneCell']
theorem below_setRow {B z : Nat} {u v : World} (h : Below B u v) (hz : B ≤ z) (c : Array Value) : Below B u (v.setRow z c) :=
 ⟨h.os, h.tape, h.output, by simp; exact h.size, fun i hi => (setRow_other _ _ _ _ (by omega)).trans (h.block i hi)⟩
def PwIn (a0 a1 a2 a3 e0 e1 e2 e3 s0 s1 s2 s3 : Int) (z : Nat) (w wr : World) : Prop :=
 wr.heap[w.heap.size]? = some (.cells (C4 a0 a1 a2 a3) 51 (0, 0)) ∧ wr.heap[w.heap.size + 1]? = some (.cells (C4 e0 e1 e2 e3) 51 (0, 0)) ∧ wr.heap[w.heap.size + 2]? = some (.cells (C4 0 0 0 0) 51 (0, 0)) ∧ wr.heap[z]? = some (.cells (C4 s0 s1 s2 s3) 51 (0, 0)) ∧ w.heap.size + 2 < z ∧ Below w.heap.size w wr
theorem flt_of_some {w : World} {b : Nat} {o : Obj} (h : w.heap[b]? = some o) : b < w.heap.size := (Array.getElem?_eq_some_iff.1 h).1
theorem PwIn.more {a0 a1 a2 a3 e0 e1 e2 e3 s0 s1 s2 s3 : Int} {z : Nat} {w u v : World} (h : PwIn a0 a1 a2 a3 e0 e1 e2 e3 s0 s1 s2 s3 z w u) (hb : Below u.heap.size u v) : PwIn a0 a1 a2 a3 e0 e1 e2 e3 s0 s1 s2 s3 z w v :=
 ⟨(hb.block _ (flt_of_some h.1)).trans h.1, (hb.block _ (flt_of_some h.2.1)).trans h.2.1, (hb.block _ (flt_of_some h.2.2.1)).trans h.2.2.1, (hb.block _ (flt_of_some h.2.2.2.1)).trans h.2.2.2.1, h.2.2.2.2.1, h.2.2.2.2.2.trans (hb.mono h.2.2.2.2.2.size)⟩
theorem PwIn.put {a0 a1 a2 a3 e0 e1 e2 e3 s0 s1 s2 s3 : Int} {z : Nat} {w u : World} (h : PwIn a0 a1 a2 a3 e0 e1 e2 e3 s0 s1 s2 s3 z w u) (t0 t1 t2 t3 : Int) : PwIn a0 a1 a2 a3 e0 e1 e2 e3 t0 t1 t2 t3 z w (u.setRow z (C4 t0 t1 t2 t3)) :=
 ⟨(setRow_other _ _ _ _ (by have := h.2.2.2.2.1; omega)).trans h.1, (setRow_other _ _ _ _ (by have := h.2.2.2.2.1; omega)).trans h.2.1, (setRow_other _ _ _ _ (by have := h.2.2.2.2.1; omega)).trans h.2.2.1, setRow_heap _ _ _ _ _ _ h.2.2.2.1, h.2.2.2.2.1, below_setRow h.2.2.2.2.2 (by have := h.2.2.2.2.1; omega) _⟩
theorem fpw_sq (A : Int) (n : Nat) : ((A ^ n % PP) * (A ^ n % PP)) % PP = A ^ (2 * n) % PP := by
 rw [← Int.mul_emod, ← Int.pow_add]; congr 2; omega
theorem fpw_mul (A : Int) (n : Nat) : ((A ^ n % PP) * A) % PP = A ^ (n + 1) % PP := by
 rw [Int.pow_succ, Int.mul_emod (A ^ n) A, Int.mul_emod (A ^ n % PP) A, Int.emod_emod_of_dvd _ (Int.dvd_refl _)]
theorem fhalf_top (E i : Nat) (hi : i < 256) : E / 2 ^ (256 - i) = E / 2 ^ (255 - i) / 2 := by
 rw [Nat.div_div_eq_div_mul, ← Nat.pow_succ]; congr 2; omega
theorem ftop_one (E i : Nat) (hi : i < 256) (h : E / 2 ^ (255 - i) % 2 = 1) : 2 * (E / 2 ^ (256 - i)) + 1 = E / 2 ^ (255 - i) := by
 rw [fhalf_top E i hi]; omega
theorem ftop_zero (E i : Nat) (hi : i < 256) (h : ¬ E / 2 ^ (255 - i) % 2 = 1) : 2 * (E / 2 ^ (256 - i)) = E / 2 ^ (255 - i) := by
 rw [fhalf_top E i hi]; omega
theorem bit_nat (E j : Nat) (x : Int) (h : (E : Int) = x) : (decide (x / 2 ^ j % 2 = 1)) = decide (E / 2 ^ j % 2 = 1) := by
 rw [← h, Bool.eq_iff_iff, decide_eq_true_eq, decide_eq_true_eq]; have e : ((E : Int) / 2 ^ j) = ((E / 2 ^ j : Nat) : Int) := by simp
 rw [e]; omega
theorem pow_zero_top (E : Nat) (h : E < 2 ^ 256) (A : Int) : (1 : Int) = A ^ (E / 2 ^ (256 - 0)) % PP := by
 rw [Nat.sub_zero, Nat.div_eq_of_lt h, Int.pow_zero]; unfold PP; decide
theorem heapAt (w : World) (o : Obj) (n : Nat) (h : w.heap.size = n) : (w.alloc o).heap[n]? = some o := by subst h; exact heap_alloc_new w o
theorem pw_start (a0 a1 a2 a3 e0 e1 e2 e3 : Int) (c1 : Array Value) (w : World) :
 PwIn a0 a1 a2 a3 e0 e1 e2 e3 0 0 0 0 (w.heap.size + 4) w (((((w.alloc (.cells (C4 a0 a1 a2 a3) 51)).alloc (.cells (C4 e0 e1 e2 e3) 51)).alloc (.cells (C4 0 0 0 0) 51)).alloc (.cells c1 51)).alloc (.cells (C4 0 0 0 0) 51)) := by
 have old : ∀ (u : World) (o : Obj) (n : Nat) (x : Obj), u.heap[n]? = some x → (u.alloc o).heap[n]? = some x := fun u o n x h => (heap_alloc_old u o (flt_of_some h)).trans h
 exact ⟨old _ _ _ _ (old _ _ _ _ (old _ _ _ _ (old _ _ _ _ (heap_alloc_new _ _)))), old _ _ _ _ (old _ _ _ _ (old _ _ _ _ (heapAt _ _ _ (by simp)))), old _ _ _ _ (old _ _ _ _ (heapAt _ _ _ (by simp))), heapAt _ _ _ (by simp), by omega, by go_grown⟩
set_option maxRecDepth 20000 in
set_option maxHeartbeats 2000000 in
theorem fpow_any (hmod : ModC) (a0 a1 a2 a3 e0 e1 e2 e3 : Int) (ha : L4 a0 a1 a2 a3) (he : L4 e0 e1 e2 e3) (A : Int) (hA : num a0 a1 a2 a3 = A) (E : Nat) (hE : (E : Int) = num e0 e1 e2 e3) (hE2 : E < 2 ^ 256) (w : World) :
 Calls Tryz.prog 138 #[W4 a0 a1 a2 a3, W4 e0 e1 e2 e3] w fun e w' =>
  ∃ s0 s1 s2 s3 : Int, e = .returned (W4 s0 s1 s2 s3) ∧ L4 s0 s1 s2 s3 ∧ Hid (num s0 s1 s2 s3 = A ^ E % PP) ∧ Below w.heap.size w w' := by
 have HMul : Hid (∀ (s0 s1 s2 s3 t0 t1 t2 t3 : Int), L4 s0 s1 s2 s3 → L4 t0 t1 t2 t3 → ∀ w : World, Calls Tryz.prog 84 #[W4 s0 s1 s2 s3, W4 t0 t1 t2 t3] w fun e w' =>
  ∃ x0 x1 x2 x3 : Int, e = .returned (W4 x0 x1 x2 x3) ∧ L4 x0 x1 x2 x3 ∧ Hid (num x0 x1 x2 x3 = (num s0 s1 s2 s3 * num t0 t1 t2 t3) % PP) ∧ Below w.heap.size w w') := fun _ _ _ _ _ _ _ _ h1 h2 w => fmul_any hmod _ _ _ _ _ _ _ _ h1 h2 w
 have HBit : Hid (∀ (j : Nat), j < 256 → ∀ w : World, Calls Tryz.prog 141 #[W4 e0 e1 e2 e3, .int .i64 (j : Int)] w fun e w' => e = .returned (.bool (decide (E / 2 ^ j % 2 = 1))) ∧ Below w.heap.size w w') := fun j hj w => by
  have h := bit_any e0 e1 e2 e3 he j hj w; rw [bit_nat E j _ hE] at h; exact h
 have HL : Hid (L4 a0 a1 a2 a3 ∧ num a0 a1 a2 a3 = A) := ⟨ha, hA⟩
 have HE2 : Hid (E < 2 ^ 256) := hE2; clear hmod ha he hA hE hE2; go_enter Tryz.func138, Tryz.ntmps138; go_wp2_with (first | (go_at_call 43; refine (of_exact 1 _).mono ?_; rintro e w1 ⟨rfl, c1, rfl⟩) | (refine wpList_store_row rfl 51 _ _ rfl (w.heap.size + 4) (C4 1 0 0 0) rfl rfl 51 (C4 0 0 0 0) (pw_start a0 a1 a2 a3 e0 e1 e2 e3 c1 w).2.2.2.1 (info24c _ _ _ _) rfl (fone4 _ _ _ _) ?_)); have hS := (pw_start a0 a1 a2 a3 e0 e1 e2 e3 c1 w).put 1 0 0 0; generalize World.setRow _ (w.heap.size + 4) (C4 1 0 0 0) = W at hS ⊢; obtain ⟨z, hz⟩ : ∃ z, z = w.heap.size + 4 := ⟨_, rfl⟩
 have hz2 : w.heap.size + 1 + 1 + 1 + 1 = z := by omega
 rw [← hz] at hS; rw [hz2]; clear hz hz2; have HS : Hid (PwIn a0 a1 a2 a3 e0 e1 e2 e3 1 0 0 0 z w W) := hS; clear hS; go_loopw [8] (fun c wr => ∃ (i : Nat) (s0 s1 s2 s3 : Int), i ≤ 256 ∧ c = .int .i64 (i : Int) ∧ L4 s0 s1 s2 s3 ∧ Hid (num s0 s1 s2 s3 = A ^ (E / 2 ^ (256 - i)) % PP) ∧ PwIn a0 a1 a2 a3 e0 e1 e2 e3 s0 s1 s2 s3 z w wr) (fun c _ => 256 - (intOf c).toNat)
 case atStart => exact ⟨0, 1, 0, 0, 0, by omega, rfl, ⟨⟨by decide, by decide⟩, ⟨by decide, by decide⟩, ⟨by decide, by decide⟩, ⟨by decide, by decide⟩⟩, (pow_zero_top E HE2.out A), HS.out⟩
 case round =>
  obtain ⟨i, s0, s1, s2, s3, hi, rfl, hL, hN, hin⟩ := hrel; clear HS; have H1 : Hid (PwIn a0 a1 a2 a3 e0 e1 e2 e3 s0 s1 s2 s3 z w wr) := hin; have HLs : Hid (L4 s0 s1 s2 s3) := hL; clear hin hL; by_cases hlt : i < 256
  · go_wp2_with (first | (refine wpList_load_row rfl 51 _ rfl z rfl 51 _ (0, 0) _ H1.out.2.2.2.1 Tryz.underlying51 rfl (info24c _ _ _ _) ?_))
    refine Calls.mono (HMul.out s0 s1 s2 s3 s0 s1 s2 s3 HLs.out HLs.out _) ?_; rintro e w1 ⟨t0, t1, t2, t3, rfl, hLt, hNt, hb1⟩; have H2 : Hid (PwIn a0 a1 a2 a3 e0 e1 e2 e3 s0 s1 s2 s3 z w w1) := H1.out.more hb1; have H3 : Hid (PwIn a0 a1 a2 a3 e0 e1 e2 e3 t0 t1 t2 t3 z w (w1.setRow z (C4 t0 t1 t2 t3))) := H2.out.put _ _ _ _; have HT : Hid (L4 t0 t1 t2 t3 ∧ num t0 t1 t2 t3 = A ^ (2 * (E / 2 ^ (256 - i))) % PP) := ⟨hLt, by rw [hNt.out, hN.out]; exact fpw_sq A _⟩
    clear hLt hNt hb1 hN; go_wp2_with (first | (refine wpList_store_row rfl 51 _ _ rfl z (C4 t0 t1 t2 t3) rfl rfl 51 _ H2.out.2.2.2.1 (info24c _ _ _ _) rfl (fone4 _ _ _ _) ?_) | (refine wpList_load_row rfl 51 _ rfl (w.heap.size + 1) rfl 51 _ (0, 0) _ H3.out.2.1 Tryz.underlying51 rfl (info24c _ _ _ _) ?_)); generalize w1.setRow z (C4 t0 t1 t2 t3) = W2 at H3 ⊢; clear H1 H2; have hj : IntKind.i64.wrap (255 - (i : Int)) = ((255 - i : Nat) : Int) := by rw [IntKind.wrap_i64]; omega
    have hj2 : (255 : Int) - (i : Int) = ((255 - i : Nat) : Int) := by omega
    rw [hj2]; refine Calls.mono (HBit.out (255 - i) (by omega) _) ?_; rintro e w3 ⟨rfl, hb3⟩; have H4 : Hid (PwIn a0 a1 a2 a3 e0 e1 e2 e3 t0 t1 t2 t3 z w w3) := H3.out.more hb3; clear hb3 H3 hj hj2; by_cases hbit : E / 2 ^ (255 - i) % 2 = 1
    · rw [decide_eq_true hbit]
      have HX : Hid (2 * (E / 2 ^ (256 - i)) + 1 = E / 2 ^ (255 - i)) := ftop_one E i hlt hbit; clear hbit; go_wp2_with (first | (refine wpList_load_row rfl 51 _ rfl z rfl 51 _ (0, 0) _ H4.out.2.2.2.1 Tryz.underlying51 rfl (info24c _ _ _ _) ?_) | (refine wpList_load_row rfl 51 _ rfl w.heap.size rfl 51 _ (0, 0) _ H4.out.1 Tryz.underlying51 rfl (info24c _ _ _ _) ?_)); refine Calls.mono (HMul.out t0 t1 t2 t3 a0 a1 a2 a3 HT.out.1 HL.out.1 _) ?_; rintro e w5 ⟨x0, x1, x2, x3, rfl, hLx, hNx, hb5⟩; have H5 : Hid (PwIn a0 a1 a2 a3 e0 e1 e2 e3 t0 t1 t2 t3 z w w5) := H4.out.more hb5; have H6 : Hid (PwIn a0 a1 a2 a3 e0 e1 e2 e3 x0 x1 x2 x3 z w (w5.setRow z (C4 x0 x1 x2 x3))) := H5.out.put _ _ _ _; have HXN : Hid (L4 x0 x1 x2 x3 ∧ num x0 x1 x2 x3 = A ^ (E / 2 ^ (256 - (i + 1))) % PP) := ⟨hLx, by
       rw [hNx.out, HT.out.2, HL.out.2, fpw_mul, HX.out]; congr 4; omega⟩
      clear hLx hNx hb5 H4; go_wp2_with (first | (refine wpList_store_row rfl 51 _ _ rfl z (C4 x0 x1 x2 x3) rfl rfl 51 _ H5.out.2.2.2.1 (info24c _ _ _ _) rfl (fone4 _ _ _ _) ?_)); generalize w5.setRow z (C4 x0 x1 x2 x3) = W6 at H6 ⊢; go_roundw
      case rel => exact ⟨i + 1, x0, x1, x2, x3, by omega, by go_num, HXN.out.1, HXN.out.2, H6.out⟩
      case measure => simp [intOf]; omega
    · rw [decide_eq_false hbit]
      have HXN : Hid (num t0 t1 t2 t3 = A ^ (E / 2 ^ (256 - (i + 1))) % PP) := by
       show _ = _; rw [HT.out.2, ftop_zero E i hlt hbit]; congr 4; omega
      clear hbit; go_wp2; go_roundw
      case rel => exact ⟨i + 1, t0, t1, t2, t3, by omega, by go_num, HT.out.1, HXN, H4.out⟩
      case measure => simp [intOf]; omega
  · have hi6 : i = 256 := by omega
    rw [hi6] at hN; have hN2 : Hid (num s0 s1 s2 s3 = A ^ E % PP) := by
     show _ = _; rw [hN.out, Nat.sub_self, Nat.pow_zero, Nat.div_one]
    have hid : ¬ (i : Int) < 256 := by omega
    clear hN hi6; go_wp2_with (first | (refine wpList_load_row rfl 51 _ rfl z rfl 51 _ (0, 0) _ H1.out.2.2.2.1 Tryz.underlying51 rfl (info24c _ _ _ _) ?_) | (refine wpList_store_row rfl 51 _ _ rfl (w.heap.size + 2) (C4 s0 s1 s2 s3) rfl rfl 51 _ H1.out.2.2.1 (info24c _ _ _ _) rfl (fone4 _ _ _ _) ?_)); refine bodyPost_ret (results_cell_row rfl _ _ _ _ _ _ _ rfl (setRow_heap _ _ _ _ _ _ H1.out.2.2.1) Tryz.underlying51 rfl (info24c _ _ _ _)) rfl ⟨s0, s1, s2, s3, rfl, HLs.out, hN2, below_setRow H1.out.2.2.2.2.2 (by omega) _⟩
end Go.Proofs.YtojfcdjgcgnajaaGreat
namespace Go.Proofs.YtojfcdjgcgnajaaGreat
open Go.RowKit
set_option linter.unusedSimpArgs false
set_option linter.unusedVariables false
theorem down_parts (x y r : Int) (h0 : 0 ≤ r) (h1 : r < 64) : (x / 2 ^ r.toNat + (y % 2 ^ r.toNat) * 2 ^ (64 - r).toNat) * 2 ^ r.toNat = x - x % 2 ^ r.toNat + 18446744073709551616 * (y % 2 ^ r.toNat) := by
 have hp := pow_split r h0 h1; rw [Int.add_mul, Int.mul_assoc, Int.mul_comm (2 ^ (64 - r).toNat), hp]; have := Int.mul_ediv_add_emod x (2 ^ r.toNat); rw [Int.mul_comm] at this; omega
theorem top_parts (x r : Int) : x / 2 ^ r.toNat * 2 ^ r.toNat = x - x % 2 ^ r.toNat := by
 have := Int.mul_ediv_add_emod x (2 ^ r.toNat); rw [Int.mul_comm] at this; omega
theorem div_limb (x : Int) (n : Nat) (h : Limb x) : Limb (x / 2 ^ n) := by
 have hp := pow_pos' n; refine ⟨Int.ediv_nonneg h.1 (Int.le_of_lt hp), ?_⟩; have : x / 2 ^ n ≤ x := Int.ediv_le_self _ h.1; have := h.2; omega
theorem ediv_of (x q d r : Int) (h : x = q * d + r) (h0 : 0 ≤ r) (h1 : r < d) : x / d = q := by
 rw [h, Int.add_comm, Int.add_mul_ediv_right _ _ (by omega), Int.ediv_eq_zero_of_lt h0 h1]; omega
theorem shr_num0 {x0 x1 x2 x3 r : Int} (h0 : 0 ≤ r) (h1 : r < 64) (hx : L4 x0 x1 x2 x3) (n : Int) (hn : n = 0 + r) :
 num (bits .or .u64 (x0 / 2 ^ r.toNat) (IntKind.u64.wrap (x1 * 2 ^ (64 - r).toNat))) (bits .or .u64 (x1 / 2 ^ r.toNat) (IntKind.u64.wrap (x2 * 2 ^ (64 - r).toNat))) (bits .or .u64 (x2 / 2 ^ r.toNat) (IntKind.u64.wrap (x3 * 2 ^ (64 - r).toNat))) (x3 / 2 ^ r.toNat) = num x0 x1 x2 x3 / 2 ^ n.toNat := by
 obtain ⟨hx0, hx1, hx2, hx3⟩ := hx; rw [down_or x0 x1 r h0 h1 hx0 hx1, down_or x1 x2 r h0 h1 hx1 hx2, down_or x2 x3 r h0 h1 hx2 hx3]; have d0 := down_parts x0 x1 r h0 h1; have d1 := down_parts x1 x2 r h0 h1; have d2 := down_parts x2 x3 r h0 h1; have d3 := top_parts x3 r; have hP := pow_pos' r.toNat; have hpk : (2 : Int) ^ (64 * (0 : Int)).toNat = 1 := by decide
 rw [shl_pow n 0 r h0 (by decide) (by omega), hpk]; obtain ⟨_, _⟩ := hx0; obtain ⟨_, _⟩ := hx1; obtain ⟨_, _⟩ := hx2; obtain ⟨_, _⟩ := hx3; have t := Int.emod_nonneg x0 (Int.ne_of_gt hP); have t' := Int.emod_lt_of_pos x0 hP
 symm
 refine ediv_of _ _ _ ((x0 % 2 ^ r.toNat) * 1 + (0)) ?_ (by omega) (by omega); rw [← Int.mul_assoc, num_mul]; generalize hz : (0 : Int) * 2 ^ r.toNat = z; have hz0 : z = 0 := by rw [← hz, Int.zero_mul]
 rw [d0, d1, d2, d3]; clear d0 d1 d2 d3 t t'; generalize x0 % 2 ^ r.toNat = t0 at *; generalize x1 % 2 ^ r.toNat = t1 at *; generalize x2 % 2 ^ r.toNat = t2 at *; generalize x3 % 2 ^ r.toNat = t3 at *; unfold num; omega
set_option maxHeartbeats 1000000 in
theorem shr_walk0 (n0 r x0 x1 x2 x3 : Int) (hn0 : 0 ≤ n0) (hn1 : n0 < 64) (hm : n0 % 64 = r) (hr0 : 0 ≤ r) (hr1 : r < 64) (w : World) :
 Calls Tryz.prog 102 #[W4 n0 0 0 0, W4 x0 x1 x2 x3] w fun e w' => e = .returned (W4 (bits .or .u64 (x0 / 2 ^ r.toNat) (IntKind.u64.wrap (x1 * 2 ^ (64 - r).toNat))) (bits .or .u64 (x1 / 2 ^ r.toNat) (IntKind.u64.wrap (x2 * 2 ^ (64 - r).toNat))) (bits .or .u64 (x2 / 2 ^ r.toNat) (IntKind.u64.wrap (x3 * 2 ^ (64 - r).toNat))) (x3 / 2 ^ r.toNat)) ∧ Below w.heap.size w w' := by
 have hq : n0 / 64 = 0 := by omega
 have hb := below_yes n0 256 (by omega) (by omega) (by decide); have HB : Hid _ := hb; clear hb; unfold W4 at *; go_enter Tryz.func102, Tryz.ntmps102; go_wp2_with fail; refine (HB.out _).mono ?_; rintro e w1 ⟨rfl, c1, c2, c3, rfl⟩; clear HB; go_wp2; refine wp_loop_rounds 5 ?_; rw [rounds_succ]; go_wp2; go_region; go_wp2; rw [rounds_succ]; go_wp2; go_region; go_wp2; rw [rounds_succ]; go_wp2; go_region; go_wp2; rw [rounds_succ]; go_wp2; rw [rounds_succ]; go_wp2; go_returns; exact ⟨rfl, by go_grown⟩
theorem shr_in0 (n0 x0 x1 x2 x3 : Int) (hn0 : 0 ≤ n0) (hn1 : n0 < 64) (hx : L4 x0 x1 x2 x3) (w : World) :
 Calls Tryz.prog 102 #[W4 n0 0 0 0, W4 x0 x1 x2 x3] w fun e w' => ∃ s0 s1 s2 s3 : Int, e = .returned (W4 s0 s1 s2 s3) ∧ L4 s0 s1 s2 s3 ∧ Hid (num s0 s1 s2 s3 = num x0 x1 x2 x3 / 2 ^ n0.toNat) ∧ Below w.heap.size w w' := by
 refine (shr_walk0 n0 (n0 % 64) x0 x1 x2 x3 hn0 hn1 rfl (by omega) (by omega) w).mono ?_; rintro e w' ⟨rfl, hw⟩; exact ⟨_, _, _, _, rfl, ⟨limb_bits _ _ _, limb_bits _ _ _, limb_bits _ _ _, div_limb _ _ hx.2.2.2⟩, shr_num0 (by omega) (by omega) hx n0 (by omega), hw⟩
theorem shr_num1 {x0 x1 x2 x3 r : Int} (h0 : 0 ≤ r) (h1 : r < 64) (hx : L4 x0 x1 x2 x3) (n : Int) (hn : n = 64 + r) :
 num (bits .or .u64 (x1 / 2 ^ r.toNat) (IntKind.u64.wrap (x2 * 2 ^ (64 - r).toNat))) (bits .or .u64 (x2 / 2 ^ r.toNat) (IntKind.u64.wrap (x3 * 2 ^ (64 - r).toNat))) (x3 / 2 ^ r.toNat) 0 = num x0 x1 x2 x3 / 2 ^ n.toNat := by
 obtain ⟨hx0, hx1, hx2, hx3⟩ := hx; rw [down_or x1 x2 r h0 h1 hx1 hx2, down_or x2 x3 r h0 h1 hx2 hx3]; have d0 := down_parts x0 x1 r h0 h1; have d1 := down_parts x1 x2 r h0 h1; have d2 := down_parts x2 x3 r h0 h1; have d3 := top_parts x3 r; have hP := pow_pos' r.toNat; have hpk : (2 : Int) ^ (64 * (1 : Int)).toNat = 18446744073709551616 := by decide
 rw [shl_pow n 1 r h0 (by decide) (by omega), hpk]; obtain ⟨_, _⟩ := hx0; obtain ⟨_, _⟩ := hx1; obtain ⟨_, _⟩ := hx2; obtain ⟨_, _⟩ := hx3; have t := Int.emod_nonneg x1 (Int.ne_of_gt hP); have t' := Int.emod_lt_of_pos x1 hP
 symm
 refine ediv_of _ _ _ ((x1 % 2 ^ r.toNat) * 18446744073709551616 + (0 + 1 * x0)) ?_ (by omega) (by omega); rw [← Int.mul_assoc, num_mul]; generalize hz : (0 : Int) * 2 ^ r.toNat = z; have hz0 : z = 0 := by rw [← hz, Int.zero_mul]
 rw [d1, d2, d3]; clear d0 d1 d2 d3 t t'; generalize x0 % 2 ^ r.toNat = t0 at *; generalize x1 % 2 ^ r.toNat = t1 at *; generalize x2 % 2 ^ r.toNat = t2 at *; generalize x3 % 2 ^ r.toNat = t3 at *; unfold num; omega
set_option maxHeartbeats 1000000 in
theorem shr_walk1 (n0 r x0 x1 x2 x3 : Int) (hn0 : 64 ≤ n0) (hn1 : n0 < 128) (hm : n0 % 64 = r) (hr0 : 0 ≤ r) (hr1 : r < 64) (w : World) :
 Calls Tryz.prog 102 #[W4 n0 0 0 0, W4 x0 x1 x2 x3] w fun e w' => e = .returned (W4 (bits .or .u64 (x1 / 2 ^ r.toNat) (IntKind.u64.wrap (x2 * 2 ^ (64 - r).toNat))) (bits .or .u64 (x2 / 2 ^ r.toNat) (IntKind.u64.wrap (x3 * 2 ^ (64 - r).toNat))) (x3 / 2 ^ r.toNat) 0) ∧ Below w.heap.size w w' := by
 have hq : n0 / 64 = 1 := by omega
 have hb := below_yes n0 256 (by omega) (by omega) (by decide); have HB : Hid _ := hb; clear hb; unfold W4 at *; go_enter Tryz.func102, Tryz.ntmps102; go_wp2_with fail; refine (HB.out _).mono ?_; rintro e w1 ⟨rfl, c1, c2, c3, rfl⟩; clear HB; go_wp2; refine wp_loop_rounds 5 ?_; rw [rounds_succ]; go_wp2; go_region; go_wp2; rw [rounds_succ]; go_wp2; go_region; go_wp2; rw [rounds_succ]; go_wp2; rw [rounds_succ]; go_wp2; go_returns; exact ⟨rfl, by go_grown⟩
theorem shr_in1 (n0 x0 x1 x2 x3 : Int) (hn0 : 64 ≤ n0) (hn1 : n0 < 128) (hx : L4 x0 x1 x2 x3) (w : World) :
 Calls Tryz.prog 102 #[W4 n0 0 0 0, W4 x0 x1 x2 x3] w fun e w' => ∃ s0 s1 s2 s3 : Int, e = .returned (W4 s0 s1 s2 s3) ∧ L4 s0 s1 s2 s3 ∧ Hid (num s0 s1 s2 s3 = num x0 x1 x2 x3 / 2 ^ n0.toNat) ∧ Below w.heap.size w w' := by
 refine (shr_walk1 n0 (n0 % 64) x0 x1 x2 x3 hn0 hn1 rfl (by omega) (by omega) w).mono ?_; rintro e w' ⟨rfl, hw⟩; exact ⟨_, _, _, _, rfl, ⟨limb_bits _ _ _, limb_bits _ _ _, div_limb _ _ hx.2.2.2, limb0⟩, shr_num1 (by omega) (by omega) hx n0 (by omega), hw⟩
theorem shr_num2 {x0 x1 x2 x3 r : Int} (h0 : 0 ≤ r) (h1 : r < 64) (hx : L4 x0 x1 x2 x3) (n : Int) (hn : n = 128 + r) :
 num (bits .or .u64 (x2 / 2 ^ r.toNat) (IntKind.u64.wrap (x3 * 2 ^ (64 - r).toNat))) (x3 / 2 ^ r.toNat) 0 0 = num x0 x1 x2 x3 / 2 ^ n.toNat := by
 obtain ⟨hx0, hx1, hx2, hx3⟩ := hx; rw [down_or x2 x3 r h0 h1 hx2 hx3]; have d0 := down_parts x0 x1 r h0 h1; have d1 := down_parts x1 x2 r h0 h1; have d2 := down_parts x2 x3 r h0 h1; have d3 := top_parts x3 r; have hP := pow_pos' r.toNat; have hpk : (2 : Int) ^ (64 * (2 : Int)).toNat = 340282366920938463463374607431768211456 := by decide
 rw [shl_pow n 2 r h0 (by decide) (by omega), hpk]; obtain ⟨_, _⟩ := hx0; obtain ⟨_, _⟩ := hx1; obtain ⟨_, _⟩ := hx2; obtain ⟨_, _⟩ := hx3; have t := Int.emod_nonneg x2 (Int.ne_of_gt hP); have t' := Int.emod_lt_of_pos x2 hP
 symm
 refine ediv_of _ _ _ ((x2 % 2 ^ r.toNat) * 340282366920938463463374607431768211456 + (0 + 1 * x0 + 18446744073709551616 * x1)) ?_ (by omega) (by omega); rw [← Int.mul_assoc, num_mul]; generalize hz : (0 : Int) * 2 ^ r.toNat = z; have hz0 : z = 0 := by rw [← hz, Int.zero_mul]
 rw [d2, d3]; clear d0 d1 d2 d3 t t'; generalize x0 % 2 ^ r.toNat = t0 at *; generalize x1 % 2 ^ r.toNat = t1 at *; generalize x2 % 2 ^ r.toNat = t2 at *; generalize x3 % 2 ^ r.toNat = t3 at *; unfold num; omega
set_option maxHeartbeats 1000000 in
theorem shr_walk2 (n0 r x0 x1 x2 x3 : Int) (hn0 : 128 ≤ n0) (hn1 : n0 < 192) (hm : n0 % 64 = r) (hr0 : 0 ≤ r) (hr1 : r < 64) (w : World) :
 Calls Tryz.prog 102 #[W4 n0 0 0 0, W4 x0 x1 x2 x3] w fun e w' => e = .returned (W4 (bits .or .u64 (x2 / 2 ^ r.toNat) (IntKind.u64.wrap (x3 * 2 ^ (64 - r).toNat))) (x3 / 2 ^ r.toNat) 0 0) ∧ Below w.heap.size w w' := by
 have hq : n0 / 64 = 2 := by omega
 have hb := below_yes n0 256 (by omega) (by omega) (by decide); have HB : Hid _ := hb; clear hb; unfold W4 at *; go_enter Tryz.func102, Tryz.ntmps102; go_wp2_with fail; refine (HB.out _).mono ?_; rintro e w1 ⟨rfl, c1, c2, c3, rfl⟩; clear HB; go_wp2; refine wp_loop_rounds 5 ?_; rw [rounds_succ]; go_wp2; go_region; go_wp2; rw [rounds_succ]; go_wp2; rw [rounds_succ]; go_wp2; go_returns; exact ⟨rfl, by go_grown⟩
theorem shr_in2 (n0 x0 x1 x2 x3 : Int) (hn0 : 128 ≤ n0) (hn1 : n0 < 192) (hx : L4 x0 x1 x2 x3) (w : World) :
 Calls Tryz.prog 102 #[W4 n0 0 0 0, W4 x0 x1 x2 x3] w fun e w' => ∃ s0 s1 s2 s3 : Int, e = .returned (W4 s0 s1 s2 s3) ∧ L4 s0 s1 s2 s3 ∧ Hid (num s0 s1 s2 s3 = num x0 x1 x2 x3 / 2 ^ n0.toNat) ∧ Below w.heap.size w w' := by
 refine (shr_walk2 n0 (n0 % 64) x0 x1 x2 x3 hn0 hn1 rfl (by omega) (by omega) w).mono ?_; rintro e w' ⟨rfl, hw⟩; exact ⟨_, _, _, _, rfl, ⟨limb_bits _ _ _, div_limb _ _ hx.2.2.2, limb0, limb0⟩, shr_num2 (by omega) (by omega) hx n0 (by omega), hw⟩
theorem shr_num3 {x0 x1 x2 x3 r : Int} (h0 : 0 ≤ r) (h1 : r < 64) (hx : L4 x0 x1 x2 x3) (n : Int) (hn : n = 192 + r) :
 num (x3 / 2 ^ r.toNat) 0 0 0 = num x0 x1 x2 x3 / 2 ^ n.toNat := by
 obtain ⟨hx0, hx1, hx2, hx3⟩ := hx
 skip
 have d0 := down_parts x0 x1 r h0 h1; have d1 := down_parts x1 x2 r h0 h1; have d2 := down_parts x2 x3 r h0 h1; have d3 := top_parts x3 r; have hP := pow_pos' r.toNat; have hpk : (2 : Int) ^ (64 * (3 : Int)).toNat = 6277101735386680763835789423207666416102355444464034512896 := by decide
 rw [shl_pow n 3 r h0 (by decide) (by omega), hpk]; obtain ⟨_, _⟩ := hx0; obtain ⟨_, _⟩ := hx1; obtain ⟨_, _⟩ := hx2; obtain ⟨_, _⟩ := hx3; have t := Int.emod_nonneg x3 (Int.ne_of_gt hP); have t' := Int.emod_lt_of_pos x3 hP
 symm
 refine ediv_of _ _ _ ((x3 % 2 ^ r.toNat) * 6277101735386680763835789423207666416102355444464034512896 + (0 + 1 * x0 + 18446744073709551616 * x1 + 340282366920938463463374607431768211456 * x2)) ?_ (by omega) (by omega); rw [← Int.mul_assoc, num_mul]; generalize hz : (0 : Int) * 2 ^ r.toNat = z; have hz0 : z = 0 := by rw [← hz, Int.zero_mul]
 rw [d3]; clear d0 d1 d2 d3 t t'; generalize x0 % 2 ^ r.toNat = t0 at *; generalize x1 % 2 ^ r.toNat = t1 at *; generalize x2 % 2 ^ r.toNat = t2 at *; generalize x3 % 2 ^ r.toNat = t3 at *; unfold num; omega
set_option maxHeartbeats 1000000 in
theorem shr_walk3 (n0 r x0 x1 x2 x3 : Int) (hn0 : 192 ≤ n0) (hn1 : n0 < 256) (hm : n0 % 64 = r) (hr0 : 0 ≤ r) (hr1 : r < 64) (w : World) :
 Calls Tryz.prog 102 #[W4 n0 0 0 0, W4 x0 x1 x2 x3] w fun e w' => e = .returned (W4 (x3 / 2 ^ r.toNat) 0 0 0) ∧ Below w.heap.size w w' := by
 have hq : n0 / 64 = 3 := by omega
 have hb := below_yes n0 256 (by omega) (by omega) (by decide); have HB : Hid _ := hb; clear hb; unfold W4 at *; go_enter Tryz.func102, Tryz.ntmps102; go_wp2_with fail; refine (HB.out _).mono ?_; rintro e w1 ⟨rfl, c1, c2, c3, rfl⟩; clear HB; go_wp2; refine wp_loop_rounds 5 ?_; rw [rounds_succ]; go_wp2; rw [rounds_succ]; go_wp2; go_returns; exact ⟨rfl, by go_grown⟩
theorem shr_in3 (n0 x0 x1 x2 x3 : Int) (hn0 : 192 ≤ n0) (hn1 : n0 < 256) (hx : L4 x0 x1 x2 x3) (w : World) :
 Calls Tryz.prog 102 #[W4 n0 0 0 0, W4 x0 x1 x2 x3] w fun e w' => ∃ s0 s1 s2 s3 : Int, e = .returned (W4 s0 s1 s2 s3) ∧ L4 s0 s1 s2 s3 ∧ Hid (num s0 s1 s2 s3 = num x0 x1 x2 x3 / 2 ^ n0.toNat) ∧ Below w.heap.size w w' := by
 refine (shr_walk3 n0 (n0 % 64) x0 x1 x2 x3 hn0 hn1 rfl (by omega) (by omega) w).mono ?_; rintro e w' ⟨rfl, hw⟩; exact ⟨_, _, _, _, rfl, ⟨div_limb _ _ hx.2.2.2, limb0, limb0, limb0⟩, shr_num3 (by omega) (by omega) hx n0 (by omega), hw⟩
set_option maxHeartbeats 1000000 in
theorem shr_out (n0 n1 n2 n3 x0 x1 x2 x3 : Int) (hn : L4 n0 n1 n2 n3) (h : 256 ≤ num n0 n1 n2 n3) (w : World) :
 Calls Tryz.prog 102 #[W4 n0 n1 n2 n3, W4 x0 x1 x2 x3] w fun e w' => e = .returned (W4 0 0 0 0) ∧ Below w.heap.size w w' := by
 have hb := below_no n0 n1 n2 n3 256 hn h; have HB : Hid _ := hb; clear hb hn h; unfold W4 at *; go_enter Tryz.func102, Tryz.ntmps102; go_wp2_with fail; refine (HB.out _).mono ?_; rintro e w1 ⟨rfl, c1, c2, c3, rfl⟩; clear HB; go_wp2; go_returns; exact ⟨rfl, by go_grown⟩
def shrN (n x : Int) : Int := if n < 256 then x / 2 ^ n.toNat else 0
theorem shr_any (n0 n1 n2 n3 x0 x1 x2 x3 : Int) (hn : L4 n0 n1 n2 n3) (hx : L4 x0 x1 x2 x3) (w : World) :
 Calls Tryz.prog 102 #[W4 n0 n1 n2 n3, W4 x0 x1 x2 x3] w fun e w' => ∃ s0 s1 s2 s3 : Int, e = .returned (W4 s0 s1 s2 s3) ∧ L4 s0 s1 s2 s3 ∧ Hid (num s0 s1 s2 s3 = shrN (num n0 n1 n2 n3) (num x0 x1 x2 x3)) ∧ Below w.heap.size w w' := by
 by_cases h : num n0 n1 n2 n3 < 256
 · obtain ⟨rfl, rfl, rfl, he⟩ := num_small hn (by omega)
   have h0 := hn.1.1; have e : shrN (num n0 0 0 0) (num x0 x1 x2 x3) = num x0 x1 x2 x3 / 2 ^ n0.toNat := by unfold shrN; rw [if_pos h, he]
   rw [e]; rw [he] at h; rcases (by omega : n0 < 64 ∨ (64 ≤ n0 ∧ n0 < 128) ∨ (128 ≤ n0 ∧ n0 < 192) ∨ (192 ≤ n0 ∧ n0 < 256)) with g | ⟨g, g'⟩ | ⟨g, g'⟩ | ⟨g, g'⟩
   · exact shr_in0 n0 x0 x1 x2 x3 h0 g hx w
   · exact shr_in1 n0 x0 x1 x2 x3 g g' hx w
   · exact shr_in2 n0 x0 x1 x2 x3 g g' hx w
   · exact shr_in3 n0 x0 x1 x2 x3 g g' hx w
 · have e : shrN (num n0 n1 n2 n3) (num x0 x1 x2 x3) = 0 := by unfold shrN; rw [if_neg h]
   rw [e]; refine (shr_out n0 n1 n2 n3 x0 x1 x2 x3 hn (by omega) w).mono ?_; rintro e w' ⟨rfl, hw⟩; exact ⟨0, 0, 0, 0, rfl, of_L4 limb0, of_num 0, hw⟩
end Go.Proofs.YtojfcdjgcgnajaaGreat
