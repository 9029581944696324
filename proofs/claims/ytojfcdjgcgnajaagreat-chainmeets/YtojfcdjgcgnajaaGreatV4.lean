/- Walks over package word: long division, where the divisor has 4 limbs. -/
import Derived.Test.YtojfcdjgcgnajaaGreatGM3
import Derived.Laws.IdiomCopy
namespace Go.Proofs.YtojfcdjgcgnajaaGreat
open Go.RowKit
set_option linter.unusedSimpArgs false
set_option linter.unusedVariables false
theorem info22_4 : (Tryz.prog.info? 22).map (·.size) = some 1 := by kernel_rfl
theorem copy_run4 {wr : World} {bx : Nat} {X : Nat → Int} (hx : ∀ k, k < 4 → wr.cell? ⟨bx, k, none⟩ = some (.int .u64 (X k))) (hb : bx < wr.heap.size) :
 (Builtin.copy_ #[161, 161] 3 #[.slice (some ⟨wr.heap.size, 0, none⟩) 4 4, .slice (some ⟨bx, 0, none⟩) 4 9]).run Tryz.prog (wr.alloc (.cells #[.int .u64 0, .int .u64 0, .int .u64 0, .int .u64 0] 51)).drew = .ok (.int .i64 4) (wr.alloc (.cells #[.int .u64 (X 0), .int .u64 (X 1), .int .u64 (X 2), .int .u64 (X 3)] 51)).drew := by
 have h := run_copy_cells (P := Tryz.prog) (wr.alloc (.cells #[.int .u64 0, .int .u64 0, .int .u64 0, .int .u64 0] 51)).drew 161 161 3 22 wr.heap.size 0 4 4 ⟨bx, 0, none⟩ 4 9 [.int .u64 (X 0), .int .u64 (X 1), .int .u64 (X 2), .int .u64 (X 3)] Tryz.underlying161 info22_4 rfl
  (fun j v hj => by
    have hj' : j < 4 := by
     have := (List.getElem?_eq_some_iff.1 hj).1
     simpa using this
    have e : (⟨bx, 0, none⟩ : Addr).add j = ⟨bx, j, none⟩ := by unfold Addr.add; split <;> simp_all
    rw [e]; show (wr.alloc _).cell? ⟨bx, j, none⟩ = _; rw [World.cell?_alloc_past _ _ _ hb, hx j hj']; rcases (by omega : j = 0 ∨ j = 1 ∨ j = 2 ∨ j = 3) with rfl | rfl | rfl | rfl <;> simpa using hj)
  (fun j hj => by
    have hj' : j < 4 := by simpa using hj
    show ((wr.alloc _).cell? ⟨wr.heap.size, 0 + j, none⟩).isSome = true; rw [World.cell?_alloc_at _ _ _ _ rfl]; rcases (by omega : j = 0 ∨ j = 1 ∨ j = 2 ∨ j = 3) with rfl | rfl | rfl | rfl <;> rfl)
  (fun j hj => World.frozen?_alloc_at _ _ _ _ rfl) (by simp [Value.oneCell'])
 refine h.trans ?_; simp [World.setCells, go_sem, goInt]
theorem norm4 {v0 v1 v2 v3 t0 t1 t2 t3 s : Int} (hv : L4 v0 v1 v2 v3)  (hs0 : 0 ≤ s) (hs1 : s < 64) (hsa : Hid (9223372036854775808 ≤ v3 * 2 ^ s.toNat)) (hsb : Hid (v3 * 2 ^ s.toNat < 18446744073709551616))
 (ht : L4 t0 t1 t2 t3) (E : Hid (num t0 t1 t2 t3 = shlN (num s 0 0 0) (num v0 v1 v2 v3))) : 9223372036854775808 ≤ t3 ∧ val (f4 t0 t1 t2 t3) 4 = num v0 v1 v2 v3 * 2 ^ s.toNat ∧ 0 < num v0 v1 v2 v3 := by
 have hp := pow_split s hs0 hs1; have hP := pow_pos' s.toNat; have E1 : num t0 t1 t2 t3 = num v0 v1 v2 v3 * 2 ^ s.toNat % T256 := by
  have := E.out; rw [of_num] at this; unfold shlN at this; rw [if_pos (by omega)] at this; exact this
 have hsa := hsa.out; have hsb := hsb.out; have hlt : v3 < 2 ^ (64 - s).toNat := Int.lt_of_mul_lt_mul_right (a := 2 ^ s.toNat) (by rw [Int.mul_comm (2 ^ (64 - s).toNat), hp]; exact hsb) (by omega); have hle : (v3 + 1) * 2 ^ s.toNat ≤ 18446744073709551616 := by
  rw [← hp, Int.mul_comm (2 ^ s.toNat)]; exact Int.mul_le_mul_of_nonneg_right (by omega) (by omega)
 rw [Int.add_mul, Int.one_mul] at hle; obtain ⟨⟨a0, b0⟩, ⟨a1, b1⟩, ⟨a2, b2⟩, ⟨a3, b3⟩⟩ := hv; obtain ⟨⟨c0, d0⟩, ⟨c1, d1⟩, ⟨c2, d2⟩, ⟨c3, d3⟩⟩ := ht; rw [num_mul] at E1; have hV : val (f4 t0 t1 t2 t3) 4 = t0 + 18446744073709551616 * t1 + 340282366920938463463374607431768211456 * t2 + 6277101735386680763835789423207666416102355444464034512896 * t3 := by simp only [val, f4]; omega
 rw [hV, num_mul]; have l0 : 0 ≤ v0 * 2 ^ s.toNat := Int.mul_nonneg a0 (by omega); have m0 : v0 * 2 ^ s.toNat ≤ 18446744073709551615 * 2 ^ s.toNat := Int.mul_le_mul_of_nonneg_right (by omega) (by omega); have l1 : 0 ≤ v1 * 2 ^ s.toNat := Int.mul_nonneg a1 (by omega); have m1 : v1 * 2 ^ s.toNat ≤ 18446744073709551615 * 2 ^ s.toNat := Int.mul_le_mul_of_nonneg_right (by omega) (by omega); have l2 : 0 ≤ v2 * 2 ^ s.toNat := Int.mul_nonneg a2 (by omega); have m2 : v2 * 2 ^ s.toNat ≤ 18446744073709551615 * 2 ^ s.toNat := Int.mul_le_mul_of_nonneg_right (by omega) (by omega); have l3 : 0 ≤ v3 * 2 ^ s.toNat := Int.mul_nonneg a3 (by omega); have m3 : v3 * 2 ^ s.toNat ≤ 18446744073709551615 * 2 ^ s.toNat := Int.mul_le_mul_of_nonneg_right (by omega) (by omega); have hvp : 0 < v3 := by
  rcases Int.lt_or_le 0 v3 with g | g
  · exact g
  · exfalso
    have : v3 = 0 := by omega
    rw [this, Int.zero_mul] at hsa; omega
 generalize v0 * 2 ^ s.toNat = p0 at *; generalize v1 * 2 ^ s.toNat = p1 at *; generalize v2 * 2 ^ s.toNat = p2 at *; generalize v3 * 2 ^ s.toNat = p3 at *; generalize (2 : Int) ^ s.toNat = P at *; clear hp; unfold num T256 at *; refine ⟨by omega, by omega, by omega⟩
theorem init4 {u0 u1 u2 u3 u4 u5 u6 u7 t0 t1 t2 t3 x0 x1 x2 x3 x4 x5 x6 x7 x8 s : Int} (hs0 : 0 ≤ s) (hs1 : s < 64) (hu : L4 u0 u1 u2 u3 ∧ L4 u4 u5 u6 u7) (ht : L4 t0 t1 t2 t3) (hN : 9223372036854775808 ≤ t3) (hEx : Hid (num9 x0 x1 x2 x3 x4 x5 x6 x7 x8 = (num u0 u1 u2 u3 + T256 * num u4 u5 u6 u7) * 2 ^ s.toNat)) :
 num9 x0 x1 x2 x3 x4 x5 x6 x7 x8 < 18446744073709551616 ^ 5 * val (f4 t0 t1 t2 t3) 4 := by
 rw [hEx.out]; obtain ⟨a0, a1⟩ := num_bd hu.1; obtain ⟨b0, b1⟩ := num_bd hu.2; have hP := pow_pos' s.toNat; have hP2 : (2 : Int) ^ s.toNat ≤ 2 ^ 63 := by
  have : (2 : Nat) ^ s.toNat ≤ 2 ^ 63 := Nat.pow_le_pow_right (by decide) (by omega); have := Int.ofNat_le.2 this; rw [Int.natCast_pow, Int.natCast_pow] at this; exact this
 have hV : val (f4 t0 t1 t2 t3) 4 = t0 + 18446744073709551616 * t1 + 340282366920938463463374607431768211456 * t2 + 6277101735386680763835789423207666416102355444464034512896 * t3 := by simp only [val, f4]; omega
 rw [hV]; obtain ⟨⟨c0, d0⟩, ⟨c1, d1⟩, ⟨c2, d2⟩, ⟨c3, d3⟩⟩ := ht; have h1 : (num u0 u1 u2 u3 + T256 * num u4 u5 u6 u7) * 2 ^ s.toNat ≤ (num u0 u1 u2 u3 + T256 * num u4 u5 u6 u7) * 2 ^ 63 := Int.mul_le_mul_of_nonneg_left hP2 (by unfold T256; omega); generalize (num u0 u1 u2 u3 + T256 * num u4 u5 u6 u7) * 2 ^ s.toNat = Z at *; generalize num u0 u1 u2 u3 = A at *; generalize num u4 u5 u6 u7 = C at *; unfold T256 at *; omega
theorem fin4 {u0 u1 u2 u3 u4 u5 u6 u7 v0 v1 v2 v3 t0 t1 t2 t3 x0 x1 x2 x3 x4 x5 x6 x7 x8 y0 y1 y2 y3 s : Int} {Q X : Nat → Int} (hs0 : 0 ≤ s) (hs1 : s < 64) (hEx : Hid (num9 x0 x1 x2 x3 x4 x5 x6 x7 x8 = (num u0 u1 u2 u3 + T256 * num u4 u5 u6 u7) * 2 ^ s.toNat)) (hNN : Hid (num9 x0 x1 x2 x3 x4 x5 x6 x7 x8 = val Q 8 * val (f4 t0 t1 t2 t3) 4 + val X 9))
 (hlt : Hid (val X 9 < 18446744073709551616 ^ (5 - 5) * val (f4 t0 t1 t2 t3) 4)) (hVV : val (f4 t0 t1 t2 t3) 4 = num v0 v1 v2 v3 * 2 ^ s.toNat) (hVp : 0 < num v0 v1 v2 v3) (hLX : ∀ k, Limb (X k)) (hVB : val (f4 t0 t1 t2 t3) 4 < 18446744073709551616 ^ 4) (hEy : Hid (num y0 y1 y2 y3 = shrN (num s 0 0 0) (num (X 0) (X 1) (X 2) (X 3)))) :
 num (Q 0) (Q 1) (Q 2) (Q 3) + T256 * num (Q 4) (Q 5) (Q 6) (Q 7) = (num u0 u1 u2 u3 + T256 * num u4 u5 u6 u7) / num v0 v1 v2 v3 ∧ num y0 y1 y2 y3 = (num u0 u1 u2 u3 + T256 * num u4 u5 u6 u7) % num v0 v1 v2 v3 := by
 have hlt1 : val X 9 < val (f4 t0 t1 t2 t3) 4 := by
  have h := hlt.out; have e : (18446744073709551616 : Int) ^ (5 - 5) = 1 := by decide
  rw [e, Int.one_mul] at h; exact h
 have hQ : val Q 8 = num (Q 0) (Q 1) (Q 2) (Q 3) + T256 * num (Q 4) (Q 5) (Q 6) (Q 7) := by
  simp only [val]; unfold num T256; omega
 have hR : num (X 0) (X 1) (X 2) (X 3) = val X 9 := by
  have h1 := val_split X 4 5; obtain ⟨a0, a1⟩ := val_bd hLX 4; obtain ⟨b0, b1⟩ := val_bd (X := fun i => X (4 + i)) (fun i => hLX _) 5; have h2 : val X 9 = val X 4 + 18446744073709551616 ^ 4 * val (fun i => X (4 + i)) 5 := h1; have h3 : num (X 0) (X 1) (X 2) (X 3) = val X 4 := by
   simp only [val]; unfold num; omega
  rw [h3]; generalize val (fun i => X (4 + i)) 5 = z at *; omega
 have hR0 := (val_bd hLX 9).1; rw [hVV] at hNN hlt1; have E := whole_div (U := num u0 u1 u2 u3 + T256 * num u4 u5 u6 u7) hVp (pow_pos' s.toNat) (by rw [← hEx.out]; exact hNN.out) hR0 hlt1; have hy := hEy.out; rw [of_num, hR] at hy; unfold shrN at hy; rw [if_pos (by omega)] at hy; rw [hy, ← hQ]; exact E
set_option maxHeartbeats 4000000 in
theorem divide_walk4 (u0 u1 u2 u3 u4 u5 u6 u7 v0 v1 v2 v3 : Int) (hu : L4 u0 u1 u2 u3 ∧ L4 u4 u5 u6 u7) (hv : L4 v0 v1 v2 v3) (hn : usedN v0 v1 v2 v3 = 4) (hvp : 0 < v3)  (w : World) :
 Calls Tryz.prog 63 #[W8 u0 u1 u2 u3 u4 u5 u6 u7, W4 v0 v1 v2 v3] w fun e w' => ∃ q0 q1 q2 q3 q4 q5 q6 q7 y0 y1 y2 y3 : Int, e = .returned (.tuple #[W8 q0 q1 q2 q3 q4 q5 q6 q7, W4 y0 y1 y2 y3]) ∧ (L4 q0 q1 q2 q3 ∧ L4 q4 q5 q6 q7) ∧ L4 y0 y1 y2 y3 ∧ Hid (num q0 q1 q2 q3 + T256 * num q4 q5 q6 q7 = (num u0 u1 u2 u3 + T256 * num u4 u5 u6 u7) / num v0 v1 v2 v3) ∧ Hid (num y0 y1 y2 y3 = (num u0 u1 u2 u3 + T256 * num u4 u5 u6 u7) % num v0 v1 v2 v3) ∧ Below w.heap.size w w' := by
 obtain ⟨s, hs0, hs1, r88, hsa, hsb⟩ := lz_ex v3 hvp (by have := hv.2.2.2.2; omega); have HU : Hid _ := hu; have HV : Hid _ := hv; have R88 : Hid _ := r88; clear hu hv r88; unfold W4 W8; go_enter Tryz.func63, Tryz.ntmps63; go_wp2_with fail; refine (used_any v0 v1 v2 v3 _).mono ?_; rintro e w1 ⟨rfl, c, rfl⟩; rw [hn]; go_wp2_with fail; refine (R88.out _).mono ?_; rintro e w1 ⟨rfl, rfl⟩; clear R88; go_wp2_with fail; go_cut [] (fun wc => ∃ t0 t1 t2 t3 : Int, L4 t0 t1 t2 t3 ∧ Hid (num t0 t1 t2 t3 = shlN (num s 0 0 0) (num v0 v1 v2 v3)) ∧ Uc w u0 u1 u2 u3 u4 u5 u6 u7 t0 t1 t2 t3 wc)
 case first =>
  go_region_with (first | (go_at_call 43; refine (of_exact s _).mono ?_; rintro e w' ⟨rfl, d, rfl⟩) | (go_at_call 99; refine (shl_any s 0 0 0 v0 v1 v2 v3 (of_L4 ⟨hs0, by omega⟩) HV.out _).mono ?_; rintro e w' ⟨t0, t1, t2, t3, rfl, L, E, hb⟩; obtain ⟨hc, hf⟩ := bcell hb; have hz : w.heap.size + 1 < w'.heap.size := (by have := hb.size; simp at this; omega)))
  all_goals go_wp2
  all_goals go_meet
  all_goals exact ⟨t0, t1, t2, t3, L, E, Uc.mk' u0 u1 u2 u3 u4 u5 u6 u7 v0 v1 v2 v3 t0 t1 t2 t3 c d w w' hb⟩
 case rest =>
  obtain ⟨t0, t1, t2, t3, L, E, hUc⟩ := hcut; have hN := norm4 HV.out  hs0 hs1 hsa hsb L E; have HN : Hid _ := hN; have HUc : Hid _ := hUc; obtain ⟨hu0, hu1, hu2, hu3, hu4, hu5, hu6, hu7⟩ := hUc.u; have HT : Hid _ := L; clear L E hN hsa hsb hUc hvp; go_wp2_with fail; refine (shifted_any u0 u1 u2 u3 u4 u5 u6 u7 s HU.out hs0 hs1 _).mono ?_; rintro e w3 ⟨x0, x1, x2, x3, x4, x5, x6, x7, x8, rfl, hLx, hEx, hb3⟩; clear hu0 hu1 hu2 hu3 hu4 hu5 hu6 hu7; have Hbw : Hid _ := hb3; have HLx : Hid _ := hLx; clear hb3 hLx; unfold W9; go_wp2; have HTop : Hid (9223372036854775808 ≤ f4 t0 t1 t2 t3 3) := HN.out.1; have HVB : Hid (val (f4 t0 t1 t2 t3) 4 < 18446744073709551616 ^ 4) := (val_bd (f4_limb HT.out) 4).2; go_loopw [34] (fun si wr => ∃ (i : Nat) (Q X : Nat → Int), i ≤ 5 ∧ si = .int .i64 i ∧ Hid (∀ k, Limb (X k)) ∧ Hid (∀ k, Limb (Q k)) ∧ Hid (num9 x0 x1 x2 x3 x4 x5 x6 x7 x8 = val Q 8 * val (f4 t0 t1 t2 t3) 4 + val X 9) ∧
   Hid (val X 9 < 18446744073709551616 ^ (5 - i) * val (f4 t0 t1 t2 t3) 4) ∧ Hid (∀ k, k < 5 - i → Q k = 0) ∧ Hid (Dv w (w.heap.size + 1) (w.heap.size + 1 + 1) (w.heap.size + 1 + 1 + 1) (w.heap.size + 1 + 1 + 1 + 1) w3.heap.size (f4 t0 t1 t2 t3) Q X wr)) (fun si _ => 5 - (intOf si).toNat)
  case atStart =>
   refine ⟨0, fun _ => 0, f9 x0 x1 x2 x3 x4 x5 x6 x7 x8, by omega, rfl, f9_limb HLx.out.1 HLx.out.2.1 HLx.out.2.2, fun _ => limb0, ?_, ?_, fun _ _ => rfl, HUc.out.dv Hbw.out x0 x1 x2 x3 x4 x5 x6 x7 x8⟩
   · show _ = _
     rw [zero_val, f9_val]; omega
   · show _ < _
     rw [f9_val]; exact init4 hs0 hs1 HU.out HT.out HN.out.1 hEx
  case round =>
   obtain ⟨i, Q, X, hi, rfl, hLX, hLQ, hNN, hlt, hQz, D⟩ := hrel; rcases (by omega : i = 0 ∨ i = 1 ∨ i = 2 ∨ i = 3 ∨ i = 4 ∨ i = 5) with rfl | rfl | rfl | rfl | rfl | rfl
   · have hd : ∀ wr, Dv w (w.heap.size + 1) (w.heap.size + 1 + 1) (w.heap.size + 1 + 1 + 1) (w.heap.size + 1 + 1 + 1 + 1) w3.heap.size (f4 t0 t1 t2 t3) Q X wr → Calls Tryz.prog 101 #[.slice (some ⟨w3.heap.size, 4, none⟩) 5 5, .slice (some ⟨w.heap.size + 1, 0, none⟩) 4 4] wr fun e w' =>
      ∃ (Y : Nat → Int) (q : Int), e = .returned (.int .u64 q) ∧ Limb q ∧ (∀ i, Limb (Y i)) ∧ Hid (val (fun k => X (4 + k)) 5 = q * val (f4 t0 t1 t2 t3) 4 + val Y 4) ∧ Hid (val Y 4 < val (f4 t0 t1 t2 t3) 4) ∧ Hid (Y 4 = 0) ∧
        (∀ i, i ≤ 4 → w'.cell? ⟨w3.heap.size, 4 + i, none⟩ = some (.int .u64 (Y i))) ∧ Wr w3.heap.size 4 (4 + 4 + 1) wr w' :=
      fun wr D => digit_any 3 w3.heap.size 4 5 (w.heap.size + 1) 0 4 (fun k => X (4 + k)) (f4 t0 t1 t2 t3) (by decide) D.ne.2.1 (fun i => hLX.out _) (f4_limb HT.out) HTop.out (step_pre (t := 4) (n := 4) (i := 0) hLX.out HVB.out hlt.out).1 wr
       (fun i hi => D.x _ (by omega)) (fun i hi => (by rw [Nat.zero_add]; exact D.v i (by omega))) (fun i hi => D.fx _)
     have HD : Hid _ := hd wr.drew (D.out.drewN 1); have hq := D.out.q 4 (by decide); have hne := D.out.ne.2.2.2.2.2.2; have hfq := D.out.fq 4; have wza : IntKind.i64.wrap 8 = 8 := by decide
     have wzb : IntKind.i64.wrap 9 = 9 := by decide
     clear hd; go_wp2; go_region_held3 (fun _ => True) (trivial) (first | (go_at_call 101; go_must (refine Calls.mono HD.out ?_; rintro e w2 ⟨Y, q, rfl, hql, hLY, hE, hl, hz, hcY, hW⟩; have hq2 := (hW.other hne).trans hq; have hf2 := (hW.frozen _).trans hfq; clear hq hfq HD))); go_wp2; obtain ⟨hN1, hN2⟩ := step_post (t := 4) (n := 4) (i := 0) hLX.out hLY HVB.out hlt.out hNN.out hE.out hl.out hz.out; refine ⟨⟨1, put Q 4 q, splice X Y 4 4, by decide, by go_num, ?_, ?_, ?_, hN2, ?_, (D.out.drewN 1).step (q := q) hW hcY (by decide)⟩, by simp [intOf]⟩
     · intro k
       unfold splice; split
       · exact hLY _
       · exact hLX.out k
     · intro k
       unfold put; split
       · exact hql
       · exact hLQ.out k
     · show _ = _
       rw [val_put_add Q 4 q (hQz.out 4 (by decide)) 8 (by decide)]; exact hN1
     · intro k hk
       rw [put_other _ _ _ (by omega)]; exact hQz.out k (by omega)
   · have hd : ∀ wr, Dv w (w.heap.size + 1) (w.heap.size + 1 + 1) (w.heap.size + 1 + 1 + 1) (w.heap.size + 1 + 1 + 1 + 1) w3.heap.size (f4 t0 t1 t2 t3) Q X wr → Calls Tryz.prog 101 #[.slice (some ⟨w3.heap.size, 3, none⟩) 5 6, .slice (some ⟨w.heap.size + 1, 0, none⟩) 4 4] wr fun e w' =>
      ∃ (Y : Nat → Int) (q : Int), e = .returned (.int .u64 q) ∧ Limb q ∧ (∀ i, Limb (Y i)) ∧ Hid (val (fun k => X (3 + k)) 5 = q * val (f4 t0 t1 t2 t3) 4 + val Y 4) ∧ Hid (val Y 4 < val (f4 t0 t1 t2 t3) 4) ∧ Hid (Y 4 = 0) ∧
        (∀ i, i ≤ 4 → w'.cell? ⟨w3.heap.size, 3 + i, none⟩ = some (.int .u64 (Y i))) ∧ Wr w3.heap.size 3 (3 + 4 + 1) wr w' :=
      fun wr D => digit_any 3 w3.heap.size 3 6 (w.heap.size + 1) 0 4 (fun k => X (3 + k)) (f4 t0 t1 t2 t3) (by decide) D.ne.2.1 (fun i => hLX.out _) (f4_limb HT.out) HTop.out (step_pre (t := 3) (n := 4) (i := 1) hLX.out HVB.out hlt.out).1 wr
       (fun i hi => D.x _ (by omega)) (fun i hi => (by rw [Nat.zero_add]; exact D.v i (by omega))) (fun i hi => D.fx _)
     have HD : Hid _ := hd wr.drew (D.out.drewN 1); have hq := D.out.q 3 (by decide); have hne := D.out.ne.2.2.2.2.2.2; have hfq := D.out.fq 3; have wza : IntKind.i64.wrap 7 = 7 := by decide
     have wzb : IntKind.i64.wrap 8 = 8 := by decide
     clear hd; go_wp2; go_region_held3 (fun _ => True) (trivial) (first | (go_at_call 101; go_must (refine Calls.mono HD.out ?_; rintro e w2 ⟨Y, q, rfl, hql, hLY, hE, hl, hz, hcY, hW⟩; have hq2 := (hW.other hne).trans hq; have hf2 := (hW.frozen _).trans hfq; clear hq hfq HD))); go_wp2; obtain ⟨hN1, hN2⟩ := step_post (t := 3) (n := 4) (i := 1) hLX.out hLY HVB.out hlt.out hNN.out hE.out hl.out hz.out; refine ⟨⟨2, put Q 3 q, splice X Y 3 4, by decide, by go_num, ?_, ?_, ?_, hN2, ?_, (D.out.drewN 1).step (q := q) hW hcY (by decide)⟩, by simp [intOf]⟩
     · intro k
       unfold splice; split
       · exact hLY _
       · exact hLX.out k
     · intro k
       unfold put; split
       · exact hql
       · exact hLQ.out k
     · show _ = _
       rw [val_put_add Q 3 q (hQz.out 3 (by decide)) 8 (by decide)]; exact hN1
     · intro k hk
       rw [put_other _ _ _ (by omega)]; exact hQz.out k (by omega)
   · have hd : ∀ wr, Dv w (w.heap.size + 1) (w.heap.size + 1 + 1) (w.heap.size + 1 + 1 + 1) (w.heap.size + 1 + 1 + 1 + 1) w3.heap.size (f4 t0 t1 t2 t3) Q X wr → Calls Tryz.prog 101 #[.slice (some ⟨w3.heap.size, 2, none⟩) 5 7, .slice (some ⟨w.heap.size + 1, 0, none⟩) 4 4] wr fun e w' =>
      ∃ (Y : Nat → Int) (q : Int), e = .returned (.int .u64 q) ∧ Limb q ∧ (∀ i, Limb (Y i)) ∧ Hid (val (fun k => X (2 + k)) 5 = q * val (f4 t0 t1 t2 t3) 4 + val Y 4) ∧ Hid (val Y 4 < val (f4 t0 t1 t2 t3) 4) ∧ Hid (Y 4 = 0) ∧
        (∀ i, i ≤ 4 → w'.cell? ⟨w3.heap.size, 2 + i, none⟩ = some (.int .u64 (Y i))) ∧ Wr w3.heap.size 2 (2 + 4 + 1) wr w' :=
      fun wr D => digit_any 3 w3.heap.size 2 7 (w.heap.size + 1) 0 4 (fun k => X (2 + k)) (f4 t0 t1 t2 t3) (by decide) D.ne.2.1 (fun i => hLX.out _) (f4_limb HT.out) HTop.out (step_pre (t := 2) (n := 4) (i := 2) hLX.out HVB.out hlt.out).1 wr
       (fun i hi => D.x _ (by omega)) (fun i hi => (by rw [Nat.zero_add]; exact D.v i (by omega))) (fun i hi => D.fx _)
     have HD : Hid _ := hd wr.drew (D.out.drewN 1); have hq := D.out.q 2 (by decide); have hne := D.out.ne.2.2.2.2.2.2; have hfq := D.out.fq 2; have wza : IntKind.i64.wrap 6 = 6 := by decide
     have wzb : IntKind.i64.wrap 7 = 7 := by decide
     clear hd; go_wp2; go_region_held3 (fun _ => True) (trivial) (first | (go_at_call 101; go_must (refine Calls.mono HD.out ?_; rintro e w2 ⟨Y, q, rfl, hql, hLY, hE, hl, hz, hcY, hW⟩; have hq2 := (hW.other hne).trans hq; have hf2 := (hW.frozen _).trans hfq; clear hq hfq HD))); go_wp2; obtain ⟨hN1, hN2⟩ := step_post (t := 2) (n := 4) (i := 2) hLX.out hLY HVB.out hlt.out hNN.out hE.out hl.out hz.out; refine ⟨⟨3, put Q 2 q, splice X Y 2 4, by decide, by go_num, ?_, ?_, ?_, hN2, ?_, (D.out.drewN 1).step (q := q) hW hcY (by decide)⟩, by simp [intOf]⟩
     · intro k
       unfold splice; split
       · exact hLY _
       · exact hLX.out k
     · intro k
       unfold put; split
       · exact hql
       · exact hLQ.out k
     · show _ = _
       rw [val_put_add Q 2 q (hQz.out 2 (by decide)) 8 (by decide)]; exact hN1
     · intro k hk
       rw [put_other _ _ _ (by omega)]; exact hQz.out k (by omega)
   · have hd : ∀ wr, Dv w (w.heap.size + 1) (w.heap.size + 1 + 1) (w.heap.size + 1 + 1 + 1) (w.heap.size + 1 + 1 + 1 + 1) w3.heap.size (f4 t0 t1 t2 t3) Q X wr → Calls Tryz.prog 101 #[.slice (some ⟨w3.heap.size, 1, none⟩) 5 8, .slice (some ⟨w.heap.size + 1, 0, none⟩) 4 4] wr fun e w' =>
      ∃ (Y : Nat → Int) (q : Int), e = .returned (.int .u64 q) ∧ Limb q ∧ (∀ i, Limb (Y i)) ∧ Hid (val (fun k => X (1 + k)) 5 = q * val (f4 t0 t1 t2 t3) 4 + val Y 4) ∧ Hid (val Y 4 < val (f4 t0 t1 t2 t3) 4) ∧ Hid (Y 4 = 0) ∧
        (∀ i, i ≤ 4 → w'.cell? ⟨w3.heap.size, 1 + i, none⟩ = some (.int .u64 (Y i))) ∧ Wr w3.heap.size 1 (1 + 4 + 1) wr w' :=
      fun wr D => digit_any 3 w3.heap.size 1 8 (w.heap.size + 1) 0 4 (fun k => X (1 + k)) (f4 t0 t1 t2 t3) (by decide) D.ne.2.1 (fun i => hLX.out _) (f4_limb HT.out) HTop.out (step_pre (t := 1) (n := 4) (i := 3) hLX.out HVB.out hlt.out).1 wr
       (fun i hi => D.x _ (by omega)) (fun i hi => (by rw [Nat.zero_add]; exact D.v i (by omega))) (fun i hi => D.fx _)
     have HD : Hid _ := hd wr.drew (D.out.drewN 1); have hq := D.out.q 1 (by decide); have hne := D.out.ne.2.2.2.2.2.2; have hfq := D.out.fq 1; have wza : IntKind.i64.wrap 5 = 5 := by decide
     have wzb : IntKind.i64.wrap 6 = 6 := by decide
     clear hd; go_wp2; go_region_held3 (fun _ => True) (trivial) (first | (go_at_call 101; go_must (refine Calls.mono HD.out ?_; rintro e w2 ⟨Y, q, rfl, hql, hLY, hE, hl, hz, hcY, hW⟩; have hq2 := (hW.other hne).trans hq; have hf2 := (hW.frozen _).trans hfq; clear hq hfq HD))); go_wp2; obtain ⟨hN1, hN2⟩ := step_post (t := 1) (n := 4) (i := 3) hLX.out hLY HVB.out hlt.out hNN.out hE.out hl.out hz.out; refine ⟨⟨4, put Q 1 q, splice X Y 1 4, by decide, by go_num, ?_, ?_, ?_, hN2, ?_, (D.out.drewN 1).step (q := q) hW hcY (by decide)⟩, by simp [intOf]⟩
     · intro k
       unfold splice; split
       · exact hLY _
       · exact hLX.out k
     · intro k
       unfold put; split
       · exact hql
       · exact hLQ.out k
     · show _ = _
       rw [val_put_add Q 1 q (hQz.out 1 (by decide)) 8 (by decide)]; exact hN1
     · intro k hk
       rw [put_other _ _ _ (by omega)]; exact hQz.out k (by omega)
   · have hd : ∀ wr, Dv w (w.heap.size + 1) (w.heap.size + 1 + 1) (w.heap.size + 1 + 1 + 1) (w.heap.size + 1 + 1 + 1 + 1) w3.heap.size (f4 t0 t1 t2 t3) Q X wr → Calls Tryz.prog 101 #[.slice (some ⟨w3.heap.size, 0, none⟩) 5 9, .slice (some ⟨w.heap.size + 1, 0, none⟩) 4 4] wr fun e w' =>
      ∃ (Y : Nat → Int) (q : Int), e = .returned (.int .u64 q) ∧ Limb q ∧ (∀ i, Limb (Y i)) ∧ Hid (val (fun k => X (0 + k)) 5 = q * val (f4 t0 t1 t2 t3) 4 + val Y 4) ∧ Hid (val Y 4 < val (f4 t0 t1 t2 t3) 4) ∧ Hid (Y 4 = 0) ∧
        (∀ i, i ≤ 4 → w'.cell? ⟨w3.heap.size, 0 + i, none⟩ = some (.int .u64 (Y i))) ∧ Wr w3.heap.size 0 (0 + 4 + 1) wr w' :=
      fun wr D => digit_any 3 w3.heap.size 0 9 (w.heap.size + 1) 0 4 (fun k => X (0 + k)) (f4 t0 t1 t2 t3) (by decide) D.ne.2.1 (fun i => hLX.out _) (f4_limb HT.out) HTop.out (step_pre (t := 0) (n := 4) (i := 4) hLX.out HVB.out hlt.out).1 wr
       (fun i hi => D.x _ (by omega)) (fun i hi => (by rw [Nat.zero_add]; exact D.v i (by omega))) (fun i hi => D.fx _)
     have HD : Hid _ := hd wr.drew (D.out.drewN 1); have hq := D.out.q 0 (by decide); have hne := D.out.ne.2.2.2.2.2.2; have hfq := D.out.fq 0; have wza : IntKind.i64.wrap 4 = 4 := by decide
     have wzb : IntKind.i64.wrap 5 = 5 := by decide
     clear hd; go_wp2; go_region_held3 (fun _ => True) (trivial) (first | (go_at_call 101; go_must (refine Calls.mono HD.out ?_; rintro e w2 ⟨Y, q, rfl, hql, hLY, hE, hl, hz, hcY, hW⟩; have hq2 := (hW.other hne).trans hq; have hf2 := (hW.frozen _).trans hfq; clear hq hfq HD))); go_wp2; obtain ⟨hN1, hN2⟩ := step_post (t := 0) (n := 4) (i := 4) hLX.out hLY HVB.out hlt.out hNN.out hE.out hl.out hz.out; refine ⟨⟨5, put Q 0 q, splice X Y 0 4, by decide, by go_num, ?_, ?_, ?_, hN2, ?_, (D.out.drewN 1).step (q := q) hW hcY (by decide)⟩, by simp [intOf]⟩
     · intro k
       unfold splice; split
       · exact hLY _
       · exact hLX.out k
     · intro k
       unfold put; split
       · exact hql
       · exact hLQ.out k
     · show _ = _
       rw [val_put_add Q 0 q (hQz.out 0 (by decide)) 8 (by decide)]; exact hN1
     · intro k hk
       rw [put_other _ _ _ (by omega)]; exact hQz.out k (by omega)
   · have hcopy := copy_run4 (X := X) (fun k hk => D.out.x k (by omega)) D.out.sz.2.2.2.2
     have hq0 := D.out.q 0 (by decide); have hq1 := D.out.q 1 (by decide); have hq2 := D.out.q 2 (by decide); have hq3 := D.out.q 3 (by decide); have hq4 := D.out.q 4 (by decide); have hq5 := D.out.q 5 (by decide); have hq6 := D.out.q 6 (by decide); have hq7 := D.out.q 7 (by decide); have hz4 := D.out.sz.2.2.2.1; have ha0 := D.out.r1 0 (by decide); have ha1 := D.out.r1 1 (by decide); have ha2 := D.out.r1 2 (by decide); have ha3 := D.out.r1 3 (by decide); have ha4 := D.out.r1 4 (by decide); have ha5 := D.out.r1 5 (by decide); have ha6 := D.out.r1 6 (by decide); have ha7 := D.out.r1 7 (by decide); have hb0 := D.out.r2 0 (by decide); have hb1 := D.out.r2 1 (by decide); have hb2 := D.out.r2 2 (by decide); have hb3 := D.out.r2 3 (by decide); have hfa := D.out.f1; have hfb := D.out.f2; go_wp2; go_region; clear hcopy; go_wp2; have HLX4 : Hid (L4 (X 0) (X 1) (X 2) (X 3)) := ⟨hLX.out 0, hLX.out 1, hLX.out 2, hLX.out 3⟩
     have hne1 : w.heap.size + 1 + 1 ≠ wr.heap.size := by omega
     have hne2 : w.heap.size + 1 + 1 + 1 ≠ wr.heap.size := by omega
     have hz2 : w.heap.size + 1 + 1 < wr.heap.size := by omega
     have hz3 : w.heap.size + 1 + 1 + 1 < wr.heap.size := by omega
     go_region_held3 (fun w' => w'.cell? ⟨w.heap.size + 1 + 1 + 1 + 1, 0, none⟩ = some (.int .u64 (Q 0)) ∧ w'.cell? ⟨w.heap.size + 1 + 1 + 1 + 1, 1, none⟩ = some (.int .u64 (Q 1)) ∧ w'.cell? ⟨w.heap.size + 1 + 1 + 1 + 1, 2, none⟩ = some (.int .u64 (Q 2)) ∧ w'.cell? ⟨w.heap.size + 1 + 1 + 1 + 1, 3, none⟩ = some (.int .u64 (Q 3)) ∧ w'.cell? ⟨w.heap.size + 1 + 1 + 1 + 1, 4, none⟩ = some (.int .u64 (Q 4)) ∧ w'.cell? ⟨w.heap.size + 1 + 1 + 1 + 1, 5, none⟩ = some (.int .u64 (Q 5)) ∧ w'.cell? ⟨w.heap.size + 1 + 1 + 1 + 1, 6, none⟩ = some (.int .u64 (Q 6)) ∧ w'.cell? ⟨w.heap.size + 1 + 1 + 1 + 1, 7, none⟩ = some (.int .u64 (Q 7)) ∧ w'.cell? ⟨wr.heap.size, 0, none⟩ = some (.int .u64 (X 0)) ∧ w'.cell? ⟨wr.heap.size, 1, none⟩ = some (.int .u64 (X 1)) ∧ w'.cell? ⟨wr.heap.size, 2, none⟩ = some (.int .u64 (X 2)) ∧ w'.cell? ⟨wr.heap.size, 3, none⟩ = some (.int .u64 (X 3))) (simp [*, go_sem, World.cell?_alloc_past, World.cell?_setCell_far]) (first | (go_at_call 43; refine (of_exact s _).mono ?_; rintro e w' ⟨rfl, d, rfl⟩) | (go_at_call 102; go_must (refine (shr_any s 0 0 0 (X 0) (X 1) (X 2) (X 3) (of_L4 ⟨hs0, by omega⟩) HLX4.out _).mono ?_; rintro e w4 ⟨y0, y1, y2, y3, rfl, hLy, hEy, hb4⟩; have hbel : Below wr.heap.size wr w4 := Below.trans (by go_grown) (hb4.mono (by simp <;> omega)); have hz5 : wr.heap.size + 1 < w4.heap.size := (by have := hb4.size; simp at this; omega); have gq0 := (hbel.cell (p := ⟨_, 0, none⟩) hz4).trans hq0; have gq1 := (hbel.cell (p := ⟨_, 1, none⟩) hz4).trans hq1; have gq2 := (hbel.cell (p := ⟨_, 2, none⟩) hz4).trans hq2; have gq3 := (hbel.cell (p := ⟨_, 3, none⟩) hz4).trans hq3; have gq4 := (hbel.cell (p := ⟨_, 4, none⟩) hz4).trans hq4; have gq5 := (hbel.cell (p := ⟨_, 5, none⟩) hz4).trans hq5; have gq6 := (hbel.cell (p := ⟨_, 6, none⟩) hz4).trans hq6; have gq7 := (hbel.cell (p := ⟨_, 7, none⟩) hz4).trans hq7; have ga0 := (hbel.cell (p := ⟨_, 0, none⟩) hz2).trans ha0; have ga1 := (hbel.cell (p := ⟨_, 1, none⟩) hz2).trans ha1; have ga2 := (hbel.cell (p := ⟨_, 2, none⟩) hz2).trans ha2; have ga3 := (hbel.cell (p := ⟨_, 3, none⟩) hz2).trans ha3; have ga4 := (hbel.cell (p := ⟨_, 4, none⟩) hz2).trans ha4; have ga5 := (hbel.cell (p := ⟨_, 5, none⟩) hz2).trans ha5; have ga6 := (hbel.cell (p := ⟨_, 6, none⟩) hz2).trans ha6; have ga7 := (hbel.cell (p := ⟨_, 7, none⟩) hz2).trans ha7; have gb0 := (hbel.cell (p := ⟨_, 0, none⟩) hz3).trans hb0; have gb1 := (hbel.cell (p := ⟨_, 1, none⟩) hz3).trans hb1; have gb2 := (hbel.cell (p := ⟨_, 2, none⟩) hz3).trans hb2; have gb3 := (hbel.cell (p := ⟨_, 3, none⟩) hz3).trans hb3; have gr0 : w4.cell? ⟨wr.heap.size, 0, none⟩ = some (.int .u64 (X 0)) := (hb4.cell (p := ⟨wr.heap.size, 0, none⟩) (by simp <;> omega)).trans (by simp [go_sem]); have gr1 : w4.cell? ⟨wr.heap.size, 1, none⟩ = some (.int .u64 (X 1)) := (hb4.cell (p := ⟨wr.heap.size, 1, none⟩) (by simp <;> omega)).trans (by simp [go_sem]); have gr2 : w4.cell? ⟨wr.heap.size, 2, none⟩ = some (.int .u64 (X 2)) := (hb4.cell (p := ⟨wr.heap.size, 2, none⟩) (by simp <;> omega)).trans (by simp [go_sem]); have gr3 : w4.cell? ⟨wr.heap.size, 3, none⟩ = some (.int .u64 (X 3)) := (hb4.cell (p := ⟨wr.heap.size, 3, none⟩) (by simp <;> omega)).trans (by simp [go_sem]); have gfa := fun o => (hbel.frozen (p := ⟨_, o, none⟩) hz2).trans (hfa o); have gfb := fun o => (hbel.frozen (p := ⟨_, o, none⟩) hz3).trans (hfb o); clear hq0 hq1 hq2 hq3 hq4 hq5 hq6 hq7 ha0 ha1 ha2 ha3 ha4 ha5 ha6 ha7 hb0 hb1 hb2 hb3 hfa hfb)))
     all_goals
      obtain ⟨E1, E2⟩ := fin4 hs0 hs1 hEx hNN hlt HN.out.2.1 HN.out.2.2 hLX.out HVB.out hEy; have hbw : Below w.heap.size w w4 := D.out.below.trans (hbel.mono (by have := D.out.below.size; omega)); have hw0 : w.heap.size ≤ w4.heap.size := hbw.size; go_wp2; refine bodyPost_ret (v := .tuple #[W8 (Q 0) (Q 1) (Q 2) (Q 3) (Q 4) (Q 5) (Q 6) (Q 7), W4 y0 y1 y2 y3]) (by simp [results, Tryz.results63, go_sem, ga0, ga1, ga2, ga3, ga4, ga5, ga6, ga7, gb0, gb1, gb2, gb3]) rfl ?_; exact ⟨_, _, _, _, _, _, _, _, _, _, _, _, rfl, ⟨⟨hLQ.out 0, hLQ.out 1, hLQ.out 2, hLQ.out 3⟩, ⟨hLQ.out 4, hLQ.out 5, hLQ.out 6, hLQ.out 7⟩⟩, hLy, E1, E2, by go_grown⟩
end Go.Proofs.YtojfcdjgcgnajaaGreat
