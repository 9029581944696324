/- Walks over the document's own answers: powers. -/
import Derived.Test.YtjbdfmepeniglaaR8
import Derived.Test.YtjbdfmepeniglaaE2
namespace Go.Proofs.Ytjbdfmepeniglaa
open Go.RowKit
set_option linter.unusedSimpArgs false
set_option linter.unusedVariables false
theorem div_step (m k : Nat) : m / 2 ^ k = 2 * (m / 2 ^ (k + 1)) + m / 2 ^ k % 2 := by
  rw [Nat.pow_succ, ← Nat.div_div_eq_div_mul]; omega
theorem down_nil {na P q : Int} {k m : Nat} (hb : (m : Int) / 2 ^ k % 2 = 0) (hP : P = na ^ (m / 2 ^ (k + 1)) % T256) (hq : q = P * P % T256) : q = na ^ (m / 2 ^ k) % T256 := by
  have e : m / 2 ^ k % 2 = 0 := by
    have : (((m / 2 ^ k % 2 : Nat)) : Int) = 0 := by rw [← hb]; simp
    omega
  rw [hq, hP, ← Int.mul_emod, ← Int.pow_add, div_step m k, e]; congr 2; omega
theorem down_one {na P q s : Int} {k m : Nat} (hb : (m : Int) / 2 ^ k % 2 = 1) (hP : P = na ^ (m / 2 ^ (k + 1)) % T256) (hq : q = P * P % T256) (hs : s = q * na % T256) : s = na ^ (m / 2 ^ k) % T256 := by
  have e : m / 2 ^ k % 2 = 1 := by
    have : (((m / 2 ^ k % 2 : Nat)) : Int) = 1 := by rw [← hb]; simp
    omega
  rw [hs, hq, hP, ← Int.mul_emod, ← Int.pow_add, Int.mul_emod, Int.emod_emod_of_dvd _ (Int.dvd_refl _), ← Int.mul_emod, ← Int.pow_succ, div_step m k, e]; congr 2; omega
theorem down_start {na nb : Int} {m L l : Nat} {d : List Int} (hm : (m : Int) = nb) (h : St L d nb) (hl : d.length = l) : num 1 0 0 0 = na ^ (m / 2 ^ (8 * l)) % T256 := by
  obtain ⟨B, _, e⟩ := h
  have h1 := (valB_bd d B).2
  rw [hl, e, ← hm] at h1
  have h2 : (256 : Int) ^ l = ((2 ^ (8 * l) : Nat) : Int) := by rw [Nat.pow_mul]; simp
  rw [h2] at h1
  rw [Nat.div_eq_of_lt (by omega), Int.pow_zero]; decide
set_option maxHeartbeats 8000000 in
theorem expref_any (a0 a1 a2 a3 b0 b1 b2 b3 : Int) (ha : L4 a0 a1 a2 a3) (hb : L4 b0 b1 b2 b3) (w : World) :
    Calls Try.prog 16 #[W4 a0 a1 a2 a3, W4 b0 b1 b2 b3] w fun e w' => ∃ r0 r1 r2 r3, e = .returned (W4 r0 r1 r2 r3) ∧ L4 r0 r1 r2 r3 ∧ Hid (num r0 r1 r2 r3 = (num a0 a1 a2 a3 ^ (num b0 b1 b2 b3).toNat) % T256) ∧ Below w.heap.size w w' := by
  have HA : Hid _ := ha
  have HB : Hid _ := hb
  clear ha hb
  obtain ⟨m, hm⟩ : ∃ m : Nat, (m : Int) = num b0 b1 b2 b3 := ⟨(num b0 b1 b2 b3).toNat, by have := num_bd HB.out; omega⟩
  have hm' : (num b0 b1 b2 b3).toNat = m := by omega
  have HM : Hid _ := hm
  rw [hm']
  obtain ⟨na, hna⟩ : ∃ na, num a0 a1 a2 a3 = na := ⟨_, rfl⟩
  have HNA : Hid _ := hna
  rw [hna]
  clear hm hm' hna
  unfold W4
  go_enter Try.func16, Try.ntmps16
  go_wp2_with fail
  have KA_ : Hid (Blk ((((w.alloc (.cells #[.int .u64 a0, .int .u64 a1, .int .u64 a2, .int .u64 a3] 24)).alloc (.cells #[.int .u64 b0, .int .u64 b1, .int .u64 b2, .int .u64 b3] 24)).alloc (.cells #[.int .u64 0, .int .u64 0, .int .u64 0, .int .u64 0] 24)).alloc (.cells #[.int .u64 1, .int .u64 0, .int .u64 0, .int .u64 0] 24)) (w.heap.size) a0 a1 a2 a3) := by refine ⟨by simp; omega, ?_, ?_, ?_, ?_, fun k => ?_⟩ <;> simp [go_sem, World.cell?_alloc_past, World.frozen?_alloc_past]
  have KB_ : Hid (Blk ((((w.alloc (.cells #[.int .u64 a0, .int .u64 a1, .int .u64 a2, .int .u64 a3] 24)).alloc (.cells #[.int .u64 b0, .int .u64 b1, .int .u64 b2, .int .u64 b3] 24)).alloc (.cells #[.int .u64 0, .int .u64 0, .int .u64 0, .int .u64 0] 24)).alloc (.cells #[.int .u64 1, .int .u64 0, .int .u64 0, .int .u64 0] 24)) (w.heap.size + 1) b0 b1 b2 b3) := by refine ⟨by simp, ?_, ?_, ?_, ?_, fun k => ?_⟩ <;> simp [go_sem, World.cell?_alloc_past, World.frozen?_alloc_past]
  have KR_ : Hid (Blk ((((w.alloc (.cells #[.int .u64 a0, .int .u64 a1, .int .u64 a2, .int .u64 a3] 24)).alloc (.cells #[.int .u64 b0, .int .u64 b1, .int .u64 b2, .int .u64 b3] 24)).alloc (.cells #[.int .u64 0, .int .u64 0, .int .u64 0, .int .u64 0] 24)).alloc (.cells #[.int .u64 1, .int .u64 0, .int .u64 0, .int .u64 0] 24)) (w.heap.size + 1 + 1) 0 0 0 0) := by refine ⟨by simp, ?_, ?_, ?_, ?_, fun k => ?_⟩ <;> simp [go_sem, World.cell?_alloc_past, World.frozen?_alloc_past]
  have KP_ : Hid (Blk ((((w.alloc (.cells #[.int .u64 a0, .int .u64 a1, .int .u64 a2, .int .u64 a3] 24)).alloc (.cells #[.int .u64 b0, .int .u64 b1, .int .u64 b2, .int .u64 b3] 24)).alloc (.cells #[.int .u64 0, .int .u64 0, .int .u64 0, .int .u64 0] 24)).alloc (.cells #[.int .u64 1, .int .u64 0, .int .u64 0, .int .u64 0] 24)) (w.heap.size + 1 + 1 + 1) 1 0 0 0) := by refine ⟨by simp, ?_, ?_, ?_, ?_, fun k => ?_⟩ <;> simp [go_sem, World.cell?_alloc_past, World.frozen?_alloc_past]
  have hB : Below w.heap.size w ((((w.alloc (.cells #[.int .u64 a0, .int .u64 a1, .int .u64 a2, .int .u64 a3] 24)).alloc (.cells #[.int .u64 b0, .int .u64 b1, .int .u64 b2, .int .u64 b3] 24)).alloc (.cells #[.int .u64 0, .int .u64 0, .int .u64 0, .int .u64 0] 24)).alloc (.cells #[.int .u64 1, .int .u64 0, .int .u64 0, .int .u64 0] 24)) := by go_grown
  generalize ((((w.alloc (.cells #[.int .u64 a0, .int .u64 a1, .int .u64 a2, .int .u64 a3] 24)).alloc (.cells #[.int .u64 b0, .int .u64 b1, .int .u64 b2, .int .u64 b3] 24)).alloc (.cells #[.int .u64 0, .int .u64 0, .int .u64 0, .int .u64 0] 24)).alloc (.cells #[.int .u64 1, .int .u64 0, .int .u64 0, .int .u64 0] 24)) = w0 at *
  refine (of_st b0 b1 b2 b3 HB.out _).mono ?_
  rintro e w2 ⟨vd, d, rfl, ND, PD, hw2⟩
  have KA_ : Hid _ := Blk.below KA_.out hw2
  have KB_ : Hid _ := Blk.below KB_.out hw2
  have KR_ : Hid _ := Blk.below KR_.out hw2
  have KP_ : Hid _ := Blk.below KP_.out hw2
  have hB : Below w.heap.size w w2 := hB.trans (hw2.mono hB.size)
  clear hw2
  obtain ⟨ad, cd, rfl, hcd⟩ := ND.shape
  clear ND
  have hl : d.length ≤ 32 := PD.out.2.1
  have HS : Hid _ := down_start (na := na) HM.out PD.out rfl
  clear PD
  generalize d.length = l at *
  go_wp2_with fail
  go_loopw [6] (fun i wr => ∃ (k : Nat) (p0 p1 p2 p3 : Int), k ≤ 256 ∧ i = .int .i64 ((k : Int) - 1) ∧ Hid (L4 p0 p1 p2 p3) ∧ Hid (num p0 p1 p2 p3 = na ^ (m / 2 ^ k) % T256) ∧ Hid (Blk wr (w.heap.size) a0 a1 a2 a3) ∧ Hid (Blk wr (w.heap.size + 1) b0 b1 b2 b3) ∧ Hid (Blk wr (w.heap.size + 1 + 1) 0 0 0 0) ∧ Hid (Blk wr (w.heap.size + 1 + 1 + 1) p0 p1 p2 p3) ∧ Below w.heap.size w wr) (fun i _ => (intOf i + 1).toNat)
  case atStart => exact ⟨8 * l, 1, 0, 0, 0, by omega, by first | go_num | (simp; done) | (simp; omega), of_L4 ⟨by decide, by decide⟩, HS, KA_, KB_, KR_, KP_, hB⟩
  case round =>
    clear KA_ KB_ KR_ KP_ hB
    obtain ⟨k, p0, p1, p2, p3, hk, rfl, hLP, hNP, KA_, KB_, KR_, KP_, hB⟩ := hrel
    have hsz := hB.size
    rcases Nat.eq_zero_or_pos k with rfl | h0
    · have HE : Hid (num p0 p1 p2 p3 = na ^ m % T256) := by
        show _ = _
        rw [hNP.out, Nat.pow_zero, Nat.div_one]
      obtain ⟨zP, P0_, P1_, P2_, P3_, fP⟩ := KP_.out
      obtain ⟨zR, R0_, R1_, R2_, R3_, fR⟩ := KR_.out
      clear hNP KA_ KB_ HS
      rw [show ((0 : Nat) : Int) - 1 = -1 from rfl]
      go_wp2
      refine bodyPost_ret (v := W4 p0 p1 p2 p3) (by simp [results, Try.results16, go_sem, R0_, R1_, R2_, R3_, zR]) rfl ?_
      exact ⟨p0, p1, p2, p3, rfl, hLP.out, HE, by go_grown⟩
    · obtain ⟨k, rfl⟩ : ∃ k', k = k' + 1 := ⟨k - 1, by omega⟩
      have em : ((k + 1 : Nat) : Int) - 1 = k := by omega
      rw [em]
      clear em
      rcases (by omega : k < 64 ∨ (64 ≤ k ∧ k < 128) ∨ (128 ≤ k ∧ k < 192) ∨ (192 ≤ k ∧ k < 256)) with h8 | ⟨h8, h8'⟩ | ⟨h8, h8'⟩ | ⟨h8, h8'⟩
      all_goals (rcases (by omega : num b0 b1 b2 b3 / 2 ^ k % 2 = 0 ∨ num b0 b1 b2 b3 / 2 ^ k % 2 = 1) with hbit | hbit <;> rw [← HM.out] at hbit)
      · obtain ⟨r, hr, rfl⟩ : ∃ r, r < 64 ∧ k = 0 + r := ⟨k - 0, by omega, by omega⟩
        have e1 : ((0 + r : Nat) : Int) / 64 = 0 := by omega
        have e2 : ((0 + r : Nat) : Int) % 64 = r := by omega
        have hbits : bits .and .u64 (b0 / 2 ^ r) 1 = 0 := by
          rw [u64_and1, bit_num0 hr HB.out, ← HM.out]; exact hbit
        have hd := div_limb b0 r HB.out.1
        obtain ⟨hd0, hd1⟩ := hd
        have HP2 : Hid (∀ q : Int, q = num p0 p1 p2 p3 * num p0 p1 p2 p3 % T256 → q = na ^ (m / 2 ^ (0 + r)) % T256) := fun q hq => down_nil hbit hNP.out hq
        clear hbit hNP
        generalize hK : ((0 + r : Nat) : Int) = K at *
        obtain ⟨zA, A0_, A1_, A2_, A3_, fA⟩ := KA_.out
        obtain ⟨zB, B0_, B1_, B2_, B3_, fB⟩ := KB_.out
        obtain ⟨zP, P0_, P1_, P2_, P3_, fP⟩ := KP_.out
        go_wp2_with fail
        clear A0_ A1_ A2_ A3_ fA B0_ B1_ B2_ B3_ fB P0_ P1_ P2_ P3_ fP
        refine (mulref_any p0 p1 p2 p3 p0 p1 p2 p3 hLP.out hLP.out _).mono ?_
        rintro e w3 ⟨q0, q1, q2, q3, rfl, Lq, Eq, hw3⟩
        have KA_ : Hid _ := Blk.below KA_.out hw3
        have KB_ : Hid _ := Blk.below KB_.out hw3
        have KR_ : Hid _ := Blk.below KR_.out hw3
        have KP_ : Hid _ := Blk.below KP_.out hw3
        have hB : Below w.heap.size w w3 := hB.trans (hw3.mono hB.size)
        have Lq : Hid _ := Lq
        clear hw3
        obtain ⟨zA, A0_, A1_, A2_, A3_, fA⟩ := KA_.out
        obtain ⟨zB, B0_, B1_, B2_, B3_, fB⟩ := KB_.out
        obtain ⟨zP, P0_, P1_, P2_, P3_, fP⟩ := KP_.out
        unfold W4
        have HQ : Hid (num q0 q1 q2 q3 = na ^ (m / 2 ^ (0 + r)) % T256) := HP2.out _ Eq.out
        clear Eq HP2
        go_wp2
        exact ⟨⟨0 + r, q0, q1, q2, q3, by omega, by first | (rw [← hK]; go_num) | (simp [← hK]; done) | (simp; omega), Lq, HQ, Blk.put_far KA_.out (by omega), Blk.put_far KB_.out (by omega), Blk.put_far KR_.out (by omega), Blk.put_same KP_.out, below_put4 hB (by omega) _ _ _ _⟩, by simp [intOf]; omega⟩
      · obtain ⟨r, hr, rfl⟩ : ∃ r, r < 64 ∧ k = 0 + r := ⟨k - 0, by omega, by omega⟩
        have e1 : ((0 + r : Nat) : Int) / 64 = 0 := by omega
        have e2 : ((0 + r : Nat) : Int) % 64 = r := by omega
        have hbits : bits .and .u64 (b0 / 2 ^ r) 1 = 1 := by
          rw [u64_and1, bit_num0 hr HB.out, ← HM.out]; exact hbit
        have hd := div_limb b0 r HB.out.1
        obtain ⟨hd0, hd1⟩ := hd
        have HP2 : Hid (∀ q s : Int, q = num p0 p1 p2 p3 * num p0 p1 p2 p3 % T256 → s = q * num a0 a1 a2 a3 % T256 → s = na ^ (m / 2 ^ (0 + r)) % T256) := fun q s hq hs => down_one hbit hNP.out hq (by rw [HNA.out] at hs; exact hs)
        clear hbit hNP
        generalize hK : ((0 + r : Nat) : Int) = K at *
        obtain ⟨zA, A0_, A1_, A2_, A3_, fA⟩ := KA_.out
        obtain ⟨zB, B0_, B1_, B2_, B3_, fB⟩ := KB_.out
        obtain ⟨zP, P0_, P1_, P2_, P3_, fP⟩ := KP_.out
        go_wp2_with fail
        clear A0_ A1_ A2_ A3_ fA B0_ B1_ B2_ B3_ fB P0_ P1_ P2_ P3_ fP
        refine (mulref_any p0 p1 p2 p3 p0 p1 p2 p3 hLP.out hLP.out _).mono ?_
        rintro e w3 ⟨q0, q1, q2, q3, rfl, Lq, Eq, hw3⟩
        have KA_ : Hid _ := Blk.below KA_.out hw3
        have KB_ : Hid _ := Blk.below KB_.out hw3
        have KR_ : Hid _ := Blk.below KR_.out hw3
        have KP_ : Hid _ := Blk.below KP_.out hw3
        have hB : Below w.heap.size w w3 := hB.trans (hw3.mono hB.size)
        have Lq : Hid _ := Lq
        clear hw3
        obtain ⟨zA, A0_, A1_, A2_, A3_, fA⟩ := KA_.out
        obtain ⟨zB, B0_, B1_, B2_, B3_, fB⟩ := KB_.out
        obtain ⟨zP, P0_, P1_, P2_, P3_, fP⟩ := KP_.out
        unfold W4
        go_wp2_with fail
        have KA_ : Hid (Blk ((((w3.setCell ⟨w.heap.size + 1 + 1 + 1, 0, none⟩ (.int .u64 q0)).setCell ⟨w.heap.size + 1 + 1 + 1, 1, none⟩ (.int .u64 q1)).setCell ⟨w.heap.size + 1 + 1 + 1, 2, none⟩ (.int .u64 q2)).setCell ⟨w.heap.size + 1 + 1 + 1, 3, none⟩ (.int .u64 q3)) (w.heap.size) a0 a1 a2 a3) := Blk.put_far KA_.out (by omega)
        have KB_ : Hid (Blk ((((w3.setCell ⟨w.heap.size + 1 + 1 + 1, 0, none⟩ (.int .u64 q0)).setCell ⟨w.heap.size + 1 + 1 + 1, 1, none⟩ (.int .u64 q1)).setCell ⟨w.heap.size + 1 + 1 + 1, 2, none⟩ (.int .u64 q2)).setCell ⟨w.heap.size + 1 + 1 + 1, 3, none⟩ (.int .u64 q3)) (w.heap.size + 1) b0 b1 b2 b3) := Blk.put_far KB_.out (by omega)
        have KR_ : Hid (Blk ((((w3.setCell ⟨w.heap.size + 1 + 1 + 1, 0, none⟩ (.int .u64 q0)).setCell ⟨w.heap.size + 1 + 1 + 1, 1, none⟩ (.int .u64 q1)).setCell ⟨w.heap.size + 1 + 1 + 1, 2, none⟩ (.int .u64 q2)).setCell ⟨w.heap.size + 1 + 1 + 1, 3, none⟩ (.int .u64 q3)) (w.heap.size + 1 + 1) 0 0 0 0) := Blk.put_far KR_.out (by omega)
        have KP_ : Hid (Blk ((((w3.setCell ⟨w.heap.size + 1 + 1 + 1, 0, none⟩ (.int .u64 q0)).setCell ⟨w.heap.size + 1 + 1 + 1, 1, none⟩ (.int .u64 q1)).setCell ⟨w.heap.size + 1 + 1 + 1, 2, none⟩ (.int .u64 q2)).setCell ⟨w.heap.size + 1 + 1 + 1, 3, none⟩ (.int .u64 q3)) (w.heap.size + 1 + 1 + 1) q0 q1 q2 q3) := Blk.put_same KP_.out
        have hB : Below w.heap.size w ((((w3.setCell ⟨w.heap.size + 1 + 1 + 1, 0, none⟩ (.int .u64 q0)).setCell ⟨w.heap.size + 1 + 1 + 1, 1, none⟩ (.int .u64 q1)).setCell ⟨w.heap.size + 1 + 1 + 1, 2, none⟩ (.int .u64 q2)).setCell ⟨w.heap.size + 1 + 1 + 1, 3, none⟩ (.int .u64 q3)) := below_put4 hB (by omega) _ _ _ _
        clear A0_ A1_ A2_ A3_ fA B0_ B1_ B2_ B3_ fB P0_ P1_ P2_ P3_ fP
        generalize ((((w3.setCell ⟨w.heap.size + 1 + 1 + 1, 0, none⟩ (.int .u64 q0)).setCell ⟨w.heap.size + 1 + 1 + 1, 1, none⟩ (.int .u64 q1)).setCell ⟨w.heap.size + 1 + 1 + 1, 2, none⟩ (.int .u64 q2)).setCell ⟨w.heap.size + 1 + 1 + 1, 3, none⟩ (.int .u64 q3)) = w4 at *
        refine (mulref_any q0 q1 q2 q3 a0 a1 a2 a3 Lq.out HA.out _).mono ?_
        rintro e w5 ⟨y0, y1, y2, y3, rfl, Ly, Ey, hw3⟩
        have KA_ : Hid _ := Blk.below KA_.out hw3
        have KB_ : Hid _ := Blk.below KB_.out hw3
        have KR_ : Hid _ := Blk.below KR_.out hw3
        have KP_ : Hid _ := Blk.below KP_.out hw3
        have hB : Below w.heap.size w w5 := hB.trans (hw3.mono hB.size)
        have Ly : Hid _ := Ly
        clear hw3
        obtain ⟨zA, A0_, A1_, A2_, A3_, fA⟩ := KA_.out
        obtain ⟨zB, B0_, B1_, B2_, B3_, fB⟩ := KB_.out
        obtain ⟨zP, P0_, P1_, P2_, P3_, fP⟩ := KP_.out
        unfold W4
        have HQ : Hid (num y0 y1 y2 y3 = na ^ (m / 2 ^ (0 + r)) % T256) := HP2.out _ _ Eq.out Ey.out
        clear Eq Ey HP2
        go_wp2
        exact ⟨⟨0 + r, y0, y1, y2, y3, by omega, by first | (rw [← hK]; go_num) | (simp [← hK]; done) | (simp; omega), Ly, HQ, Blk.put_far KA_.out (by omega), Blk.put_far KB_.out (by omega), Blk.put_far KR_.out (by omega), Blk.put_same KP_.out, below_put4 hB (by omega) _ _ _ _⟩, by simp [intOf]; omega⟩
      · obtain ⟨r, hr, rfl⟩ : ∃ r, r < 64 ∧ k = 64 + r := ⟨k - 64, by omega, by omega⟩
        have e1 : ((64 + r : Nat) : Int) / 64 = 1 := by omega
        have e2 : ((64 + r : Nat) : Int) % 64 = r := by omega
        have hbits : bits .and .u64 (b1 / 2 ^ r) 1 = 0 := by
          rw [u64_and1, bit_num1 hr HB.out, ← HM.out]; exact hbit
        have hd := div_limb b1 r HB.out.2.1
        obtain ⟨hd0, hd1⟩ := hd
        have HP2 : Hid (∀ q : Int, q = num p0 p1 p2 p3 * num p0 p1 p2 p3 % T256 → q = na ^ (m / 2 ^ (64 + r)) % T256) := fun q hq => down_nil hbit hNP.out hq
        clear hbit hNP
        generalize hK : ((64 + r : Nat) : Int) = K at *
        obtain ⟨zA, A0_, A1_, A2_, A3_, fA⟩ := KA_.out
        obtain ⟨zB, B0_, B1_, B2_, B3_, fB⟩ := KB_.out
        obtain ⟨zP, P0_, P1_, P2_, P3_, fP⟩ := KP_.out
        go_wp2_with fail
        clear A0_ A1_ A2_ A3_ fA B0_ B1_ B2_ B3_ fB P0_ P1_ P2_ P3_ fP
        refine (mulref_any p0 p1 p2 p3 p0 p1 p2 p3 hLP.out hLP.out _).mono ?_
        rintro e w3 ⟨q0, q1, q2, q3, rfl, Lq, Eq, hw3⟩
        have KA_ : Hid _ := Blk.below KA_.out hw3
        have KB_ : Hid _ := Blk.below KB_.out hw3
        have KR_ : Hid _ := Blk.below KR_.out hw3
        have KP_ : Hid _ := Blk.below KP_.out hw3
        have hB : Below w.heap.size w w3 := hB.trans (hw3.mono hB.size)
        have Lq : Hid _ := Lq
        clear hw3
        obtain ⟨zA, A0_, A1_, A2_, A3_, fA⟩ := KA_.out
        obtain ⟨zB, B0_, B1_, B2_, B3_, fB⟩ := KB_.out
        obtain ⟨zP, P0_, P1_, P2_, P3_, fP⟩ := KP_.out
        unfold W4
        have HQ : Hid (num q0 q1 q2 q3 = na ^ (m / 2 ^ (64 + r)) % T256) := HP2.out _ Eq.out
        clear Eq HP2
        go_wp2
        exact ⟨⟨64 + r, q0, q1, q2, q3, by omega, by first | (rw [← hK]; go_num) | (simp [← hK]; done) | (simp; omega), Lq, HQ, Blk.put_far KA_.out (by omega), Blk.put_far KB_.out (by omega), Blk.put_far KR_.out (by omega), Blk.put_same KP_.out, below_put4 hB (by omega) _ _ _ _⟩, by simp [intOf]; omega⟩
      · obtain ⟨r, hr, rfl⟩ : ∃ r, r < 64 ∧ k = 64 + r := ⟨k - 64, by omega, by omega⟩
        have e1 : ((64 + r : Nat) : Int) / 64 = 1 := by omega
        have e2 : ((64 + r : Nat) : Int) % 64 = r := by omega
        have hbits : bits .and .u64 (b1 / 2 ^ r) 1 = 1 := by
          rw [u64_and1, bit_num1 hr HB.out, ← HM.out]; exact hbit
        have hd := div_limb b1 r HB.out.2.1
        obtain ⟨hd0, hd1⟩ := hd
        have HP2 : Hid (∀ q s : Int, q = num p0 p1 p2 p3 * num p0 p1 p2 p3 % T256 → s = q * num a0 a1 a2 a3 % T256 → s = na ^ (m / 2 ^ (64 + r)) % T256) := fun q s hq hs => down_one hbit hNP.out hq (by rw [HNA.out] at hs; exact hs)
        clear hbit hNP
        generalize hK : ((64 + r : Nat) : Int) = K at *
        obtain ⟨zA, A0_, A1_, A2_, A3_, fA⟩ := KA_.out
        obtain ⟨zB, B0_, B1_, B2_, B3_, fB⟩ := KB_.out
        obtain ⟨zP, P0_, P1_, P2_, P3_, fP⟩ := KP_.out
        go_wp2_with fail
        clear A0_ A1_ A2_ A3_ fA B0_ B1_ B2_ B3_ fB P0_ P1_ P2_ P3_ fP
        refine (mulref_any p0 p1 p2 p3 p0 p1 p2 p3 hLP.out hLP.out _).mono ?_
        rintro e w3 ⟨q0, q1, q2, q3, rfl, Lq, Eq, hw3⟩
        have KA_ : Hid _ := Blk.below KA_.out hw3
        have KB_ : Hid _ := Blk.below KB_.out hw3
        have KR_ : Hid _ := Blk.below KR_.out hw3
        have KP_ : Hid _ := Blk.below KP_.out hw3
        have hB : Below w.heap.size w w3 := hB.trans (hw3.mono hB.size)
        have Lq : Hid _ := Lq
        clear hw3
        obtain ⟨zA, A0_, A1_, A2_, A3_, fA⟩ := KA_.out
        obtain ⟨zB, B0_, B1_, B2_, B3_, fB⟩ := KB_.out
        obtain ⟨zP, P0_, P1_, P2_, P3_, fP⟩ := KP_.out
        unfold W4
        go_wp2_with fail
        have KA_ : Hid (Blk ((((w3.setCell ⟨w.heap.size + 1 + 1 + 1, 0, none⟩ (.int .u64 q0)).setCell ⟨w.heap.size + 1 + 1 + 1, 1, none⟩ (.int .u64 q1)).setCell ⟨w.heap.size + 1 + 1 + 1, 2, none⟩ (.int .u64 q2)).setCell ⟨w.heap.size + 1 + 1 + 1, 3, none⟩ (.int .u64 q3)) (w.heap.size) a0 a1 a2 a3) := Blk.put_far KA_.out (by omega)
        have KB_ : Hid (Blk ((((w3.setCell ⟨w.heap.size + 1 + 1 + 1, 0, none⟩ (.int .u64 q0)).setCell ⟨w.heap.size + 1 + 1 + 1, 1, none⟩ (.int .u64 q1)).setCell ⟨w.heap.size + 1 + 1 + 1, 2, none⟩ (.int .u64 q2)).setCell ⟨w.heap.size + 1 + 1 + 1, 3, none⟩ (.int .u64 q3)) (w.heap.size + 1) b0 b1 b2 b3) := Blk.put_far KB_.out (by omega)
        have KR_ : Hid (Blk ((((w3.setCell ⟨w.heap.size + 1 + 1 + 1, 0, none⟩ (.int .u64 q0)).setCell ⟨w.heap.size + 1 + 1 + 1, 1, none⟩ (.int .u64 q1)).setCell ⟨w.heap.size + 1 + 1 + 1, 2, none⟩ (.int .u64 q2)).setCell ⟨w.heap.size + 1 + 1 + 1, 3, none⟩ (.int .u64 q3)) (w.heap.size + 1 + 1) 0 0 0 0) := Blk.put_far KR_.out (by omega)
        have KP_ : Hid (Blk ((((w3.setCell ⟨w.heap.size + 1 + 1 + 1, 0, none⟩ (.int .u64 q0)).setCell ⟨w.heap.size + 1 + 1 + 1, 1, none⟩ (.int .u64 q1)).setCell ⟨w.heap.size + 1 + 1 + 1, 2, none⟩ (.int .u64 q2)).setCell ⟨w.heap.size + 1 + 1 + 1, 3, none⟩ (.int .u64 q3)) (w.heap.size + 1 + 1 + 1) q0 q1 q2 q3) := Blk.put_same KP_.out
        have hB : Below w.heap.size w ((((w3.setCell ⟨w.heap.size + 1 + 1 + 1, 0, none⟩ (.int .u64 q0)).setCell ⟨w.heap.size + 1 + 1 + 1, 1, none⟩ (.int .u64 q1)).setCell ⟨w.heap.size + 1 + 1 + 1, 2, none⟩ (.int .u64 q2)).setCell ⟨w.heap.size + 1 + 1 + 1, 3, none⟩ (.int .u64 q3)) := below_put4 hB (by omega) _ _ _ _
        clear A0_ A1_ A2_ A3_ fA B0_ B1_ B2_ B3_ fB P0_ P1_ P2_ P3_ fP
        generalize ((((w3.setCell ⟨w.heap.size + 1 + 1 + 1, 0, none⟩ (.int .u64 q0)).setCell ⟨w.heap.size + 1 + 1 + 1, 1, none⟩ (.int .u64 q1)).setCell ⟨w.heap.size + 1 + 1 + 1, 2, none⟩ (.int .u64 q2)).setCell ⟨w.heap.size + 1 + 1 + 1, 3, none⟩ (.int .u64 q3)) = w4 at *
        refine (mulref_any q0 q1 q2 q3 a0 a1 a2 a3 Lq.out HA.out _).mono ?_
        rintro e w5 ⟨y0, y1, y2, y3, rfl, Ly, Ey, hw3⟩
        have KA_ : Hid _ := Blk.below KA_.out hw3
        have KB_ : Hid _ := Blk.below KB_.out hw3
        have KR_ : Hid _ := Blk.below KR_.out hw3
        have KP_ : Hid _ := Blk.below KP_.out hw3
        have hB : Below w.heap.size w w5 := hB.trans (hw3.mono hB.size)
        have Ly : Hid _ := Ly
        clear hw3
        obtain ⟨zA, A0_, A1_, A2_, A3_, fA⟩ := KA_.out
        obtain ⟨zB, B0_, B1_, B2_, B3_, fB⟩ := KB_.out
        obtain ⟨zP, P0_, P1_, P2_, P3_, fP⟩ := KP_.out
        unfold W4
        have HQ : Hid (num y0 y1 y2 y3 = na ^ (m / 2 ^ (64 + r)) % T256) := HP2.out _ _ Eq.out Ey.out
        clear Eq Ey HP2
        go_wp2
        exact ⟨⟨64 + r, y0, y1, y2, y3, by omega, by first | (rw [← hK]; go_num) | (simp [← hK]; done) | (simp; omega), Ly, HQ, Blk.put_far KA_.out (by omega), Blk.put_far KB_.out (by omega), Blk.put_far KR_.out (by omega), Blk.put_same KP_.out, below_put4 hB (by omega) _ _ _ _⟩, by simp [intOf]; omega⟩
      · obtain ⟨r, hr, rfl⟩ : ∃ r, r < 64 ∧ k = 128 + r := ⟨k - 128, by omega, by omega⟩
        have e1 : ((128 + r : Nat) : Int) / 64 = 2 := by omega
        have e2 : ((128 + r : Nat) : Int) % 64 = r := by omega
        have hbits : bits .and .u64 (b2 / 2 ^ r) 1 = 0 := by
          rw [u64_and1, bit_num2 hr HB.out, ← HM.out]; exact hbit
        have hd := div_limb b2 r HB.out.2.2.1
        obtain ⟨hd0, hd1⟩ := hd
        have HP2 : Hid (∀ q : Int, q = num p0 p1 p2 p3 * num p0 p1 p2 p3 % T256 → q = na ^ (m / 2 ^ (128 + r)) % T256) := fun q hq => down_nil hbit hNP.out hq
        clear hbit hNP
        generalize hK : ((128 + r : Nat) : Int) = K at *
        obtain ⟨zA, A0_, A1_, A2_, A3_, fA⟩ := KA_.out
        obtain ⟨zB, B0_, B1_, B2_, B3_, fB⟩ := KB_.out
        obtain ⟨zP, P0_, P1_, P2_, P3_, fP⟩ := KP_.out
        go_wp2_with fail
        clear A0_ A1_ A2_ A3_ fA B0_ B1_ B2_ B3_ fB P0_ P1_ P2_ P3_ fP
        refine (mulref_any p0 p1 p2 p3 p0 p1 p2 p3 hLP.out hLP.out _).mono ?_
        rintro e w3 ⟨q0, q1, q2, q3, rfl, Lq, Eq, hw3⟩
        have KA_ : Hid _ := Blk.below KA_.out hw3
        have KB_ : Hid _ := Blk.below KB_.out hw3
        have KR_ : Hid _ := Blk.below KR_.out hw3
        have KP_ : Hid _ := Blk.below KP_.out hw3
        have hB : Below w.heap.size w w3 := hB.trans (hw3.mono hB.size)
        have Lq : Hid _ := Lq
        clear hw3
        obtain ⟨zA, A0_, A1_, A2_, A3_, fA⟩ := KA_.out
        obtain ⟨zB, B0_, B1_, B2_, B3_, fB⟩ := KB_.out
        obtain ⟨zP, P0_, P1_, P2_, P3_, fP⟩ := KP_.out
        unfold W4
        have HQ : Hid (num q0 q1 q2 q3 = na ^ (m / 2 ^ (128 + r)) % T256) := HP2.out _ Eq.out
        clear Eq HP2
        go_wp2
        exact ⟨⟨128 + r, q0, q1, q2, q3, by omega, by first | (rw [← hK]; go_num) | (simp [← hK]; done) | (simp; omega), Lq, HQ, Blk.put_far KA_.out (by omega), Blk.put_far KB_.out (by omega), Blk.put_far KR_.out (by omega), Blk.put_same KP_.out, below_put4 hB (by omega) _ _ _ _⟩, by simp [intOf]; omega⟩
      · obtain ⟨r, hr, rfl⟩ : ∃ r, r < 64 ∧ k = 128 + r := ⟨k - 128, by omega, by omega⟩
        have e1 : ((128 + r : Nat) : Int) / 64 = 2 := by omega
        have e2 : ((128 + r : Nat) : Int) % 64 = r := by omega
        have hbits : bits .and .u64 (b2 / 2 ^ r) 1 = 1 := by
          rw [u64_and1, bit_num2 hr HB.out, ← HM.out]; exact hbit
        have hd := div_limb b2 r HB.out.2.2.1
        obtain ⟨hd0, hd1⟩ := hd
        have HP2 : Hid (∀ q s : Int, q = num p0 p1 p2 p3 * num p0 p1 p2 p3 % T256 → s = q * num a0 a1 a2 a3 % T256 → s = na ^ (m / 2 ^ (128 + r)) % T256) := fun q s hq hs => down_one hbit hNP.out hq (by rw [HNA.out] at hs; exact hs)
        clear hbit hNP
        generalize hK : ((128 + r : Nat) : Int) = K at *
        obtain ⟨zA, A0_, A1_, A2_, A3_, fA⟩ := KA_.out
        obtain ⟨zB, B0_, B1_, B2_, B3_, fB⟩ := KB_.out
        obtain ⟨zP, P0_, P1_, P2_, P3_, fP⟩ := KP_.out
        go_wp2_with fail
        clear A0_ A1_ A2_ A3_ fA B0_ B1_ B2_ B3_ fB P0_ P1_ P2_ P3_ fP
        refine (mulref_any p0 p1 p2 p3 p0 p1 p2 p3 hLP.out hLP.out _).mono ?_
        rintro e w3 ⟨q0, q1, q2, q3, rfl, Lq, Eq, hw3⟩
        have KA_ : Hid _ := Blk.below KA_.out hw3
        have KB_ : Hid _ := Blk.below KB_.out hw3
        have KR_ : Hid _ := Blk.below KR_.out hw3
        have KP_ : Hid _ := Blk.below KP_.out hw3
        have hB : Below w.heap.size w w3 := hB.trans (hw3.mono hB.size)
        have Lq : Hid _ := Lq
        clear hw3
        obtain ⟨zA, A0_, A1_, A2_, A3_, fA⟩ := KA_.out
        obtain ⟨zB, B0_, B1_, B2_, B3_, fB⟩ := KB_.out
        obtain ⟨zP, P0_, P1_, P2_, P3_, fP⟩ := KP_.out
        unfold W4
        go_wp2_with fail
        have KA_ : Hid (Blk ((((w3.setCell ⟨w.heap.size + 1 + 1 + 1, 0, none⟩ (.int .u64 q0)).setCell ⟨w.heap.size + 1 + 1 + 1, 1, none⟩ (.int .u64 q1)).setCell ⟨w.heap.size + 1 + 1 + 1, 2, none⟩ (.int .u64 q2)).setCell ⟨w.heap.size + 1 + 1 + 1, 3, none⟩ (.int .u64 q3)) (w.heap.size) a0 a1 a2 a3) := Blk.put_far KA_.out (by omega)
        have KB_ : Hid (Blk ((((w3.setCell ⟨w.heap.size + 1 + 1 + 1, 0, none⟩ (.int .u64 q0)).setCell ⟨w.heap.size + 1 + 1 + 1, 1, none⟩ (.int .u64 q1)).setCell ⟨w.heap.size + 1 + 1 + 1, 2, none⟩ (.int .u64 q2)).setCell ⟨w.heap.size + 1 + 1 + 1, 3, none⟩ (.int .u64 q3)) (w.heap.size + 1) b0 b1 b2 b3) := Blk.put_far KB_.out (by omega)
        have KR_ : Hid (Blk ((((w3.setCell ⟨w.heap.size + 1 + 1 + 1, 0, none⟩ (.int .u64 q0)).setCell ⟨w.heap.size + 1 + 1 + 1, 1, none⟩ (.int .u64 q1)).setCell ⟨w.heap.size + 1 + 1 + 1, 2, none⟩ (.int .u64 q2)).setCell ⟨w.heap.size + 1 + 1 + 1, 3, none⟩ (.int .u64 q3)) (w.heap.size + 1 + 1) 0 0 0 0) := Blk.put_far KR_.out (by omega)
        have KP_ : Hid (Blk ((((w3.setCell ⟨w.heap.size + 1 + 1 + 1, 0, none⟩ (.int .u64 q0)).setCell ⟨w.heap.size + 1 + 1 + 1, 1, none⟩ (.int .u64 q1)).setCell ⟨w.heap.size + 1 + 1 + 1, 2, none⟩ (.int .u64 q2)).setCell ⟨w.heap.size + 1 + 1 + 1, 3, none⟩ (.int .u64 q3)) (w.heap.size + 1 + 1 + 1) q0 q1 q2 q3) := Blk.put_same KP_.out
        have hB : Below w.heap.size w ((((w3.setCell ⟨w.heap.size + 1 + 1 + 1, 0, none⟩ (.int .u64 q0)).setCell ⟨w.heap.size + 1 + 1 + 1, 1, none⟩ (.int .u64 q1)).setCell ⟨w.heap.size + 1 + 1 + 1, 2, none⟩ (.int .u64 q2)).setCell ⟨w.heap.size + 1 + 1 + 1, 3, none⟩ (.int .u64 q3)) := below_put4 hB (by omega) _ _ _ _
        clear A0_ A1_ A2_ A3_ fA B0_ B1_ B2_ B3_ fB P0_ P1_ P2_ P3_ fP
        generalize ((((w3.setCell ⟨w.heap.size + 1 + 1 + 1, 0, none⟩ (.int .u64 q0)).setCell ⟨w.heap.size + 1 + 1 + 1, 1, none⟩ (.int .u64 q1)).setCell ⟨w.heap.size + 1 + 1 + 1, 2, none⟩ (.int .u64 q2)).setCell ⟨w.heap.size + 1 + 1 + 1, 3, none⟩ (.int .u64 q3)) = w4 at *
        refine (mulref_any q0 q1 q2 q3 a0 a1 a2 a3 Lq.out HA.out _).mono ?_
        rintro e w5 ⟨y0, y1, y2, y3, rfl, Ly, Ey, hw3⟩
        have KA_ : Hid _ := Blk.below KA_.out hw3
        have KB_ : Hid _ := Blk.below KB_.out hw3
        have KR_ : Hid _ := Blk.below KR_.out hw3
        have KP_ : Hid _ := Blk.below KP_.out hw3
        have hB : Below w.heap.size w w5 := hB.trans (hw3.mono hB.size)
        have Ly : Hid _ := Ly
        clear hw3
        obtain ⟨zA, A0_, A1_, A2_, A3_, fA⟩ := KA_.out
        obtain ⟨zB, B0_, B1_, B2_, B3_, fB⟩ := KB_.out
        obtain ⟨zP, P0_, P1_, P2_, P3_, fP⟩ := KP_.out
        unfold W4
        have HQ : Hid (num y0 y1 y2 y3 = na ^ (m / 2 ^ (128 + r)) % T256) := HP2.out _ _ Eq.out Ey.out
        clear Eq Ey HP2
        go_wp2
        exact ⟨⟨128 + r, y0, y1, y2, y3, by omega, by first | (rw [← hK]; go_num) | (simp [← hK]; done) | (simp; omega), Ly, HQ, Blk.put_far KA_.out (by omega), Blk.put_far KB_.out (by omega), Blk.put_far KR_.out (by omega), Blk.put_same KP_.out, below_put4 hB (by omega) _ _ _ _⟩, by simp [intOf]; omega⟩
      · obtain ⟨r, hr, rfl⟩ : ∃ r, r < 64 ∧ k = 192 + r := ⟨k - 192, by omega, by omega⟩
        have e1 : ((192 + r : Nat) : Int) / 64 = 3 := by omega
        have e2 : ((192 + r : Nat) : Int) % 64 = r := by omega
        have hbits : bits .and .u64 (b3 / 2 ^ r) 1 = 0 := by
          rw [u64_and1, bit_num3 hr HB.out, ← HM.out]; exact hbit
        have hd := div_limb b3 r HB.out.2.2.2
        obtain ⟨hd0, hd1⟩ := hd
        have HP2 : Hid (∀ q : Int, q = num p0 p1 p2 p3 * num p0 p1 p2 p3 % T256 → q = na ^ (m / 2 ^ (192 + r)) % T256) := fun q hq => down_nil hbit hNP.out hq
        clear hbit hNP
        generalize hK : ((192 + r : Nat) : Int) = K at *
        obtain ⟨zA, A0_, A1_, A2_, A3_, fA⟩ := KA_.out
        obtain ⟨zB, B0_, B1_, B2_, B3_, fB⟩ := KB_.out
        obtain ⟨zP, P0_, P1_, P2_, P3_, fP⟩ := KP_.out
        go_wp2_with fail
        clear A0_ A1_ A2_ A3_ fA B0_ B1_ B2_ B3_ fB P0_ P1_ P2_ P3_ fP
        refine (mulref_any p0 p1 p2 p3 p0 p1 p2 p3 hLP.out hLP.out _).mono ?_
        rintro e w3 ⟨q0, q1, q2, q3, rfl, Lq, Eq, hw3⟩
        have KA_ : Hid _ := Blk.below KA_.out hw3
        have KB_ : Hid _ := Blk.below KB_.out hw3
        have KR_ : Hid _ := Blk.below KR_.out hw3
        have KP_ : Hid _ := Blk.below KP_.out hw3
        have hB : Below w.heap.size w w3 := hB.trans (hw3.mono hB.size)
        have Lq : Hid _ := Lq
        clear hw3
        obtain ⟨zA, A0_, A1_, A2_, A3_, fA⟩ := KA_.out
        obtain ⟨zB, B0_, B1_, B2_, B3_, fB⟩ := KB_.out
        obtain ⟨zP, P0_, P1_, P2_, P3_, fP⟩ := KP_.out
        unfold W4
        have HQ : Hid (num q0 q1 q2 q3 = na ^ (m / 2 ^ (192 + r)) % T256) := HP2.out _ Eq.out
        clear Eq HP2
        go_wp2
        exact ⟨⟨192 + r, q0, q1, q2, q3, by omega, by first | (rw [← hK]; go_num) | (simp [← hK]; done) | (simp; omega), Lq, HQ, Blk.put_far KA_.out (by omega), Blk.put_far KB_.out (by omega), Blk.put_far KR_.out (by omega), Blk.put_same KP_.out, below_put4 hB (by omega) _ _ _ _⟩, by simp [intOf]; omega⟩
      · obtain ⟨r, hr, rfl⟩ : ∃ r, r < 64 ∧ k = 192 + r := ⟨k - 192, by omega, by omega⟩
        have e1 : ((192 + r : Nat) : Int) / 64 = 3 := by omega
        have e2 : ((192 + r : Nat) : Int) % 64 = r := by omega
        have hbits : bits .and .u64 (b3 / 2 ^ r) 1 = 1 := by
          rw [u64_and1, bit_num3 hr HB.out, ← HM.out]; exact hbit
        have hd := div_limb b3 r HB.out.2.2.2
        obtain ⟨hd0, hd1⟩ := hd
        have HP2 : Hid (∀ q s : Int, q = num p0 p1 p2 p3 * num p0 p1 p2 p3 % T256 → s = q * num a0 a1 a2 a3 % T256 → s = na ^ (m / 2 ^ (192 + r)) % T256) := fun q s hq hs => down_one hbit hNP.out hq (by rw [HNA.out] at hs; exact hs)
        clear hbit hNP
        generalize hK : ((192 + r : Nat) : Int) = K at *
        obtain ⟨zA, A0_, A1_, A2_, A3_, fA⟩ := KA_.out
        obtain ⟨zB, B0_, B1_, B2_, B3_, fB⟩ := KB_.out
        obtain ⟨zP, P0_, P1_, P2_, P3_, fP⟩ := KP_.out
        go_wp2_with fail
        clear A0_ A1_ A2_ A3_ fA B0_ B1_ B2_ B3_ fB P0_ P1_ P2_ P3_ fP
        refine (mulref_any p0 p1 p2 p3 p0 p1 p2 p3 hLP.out hLP.out _).mono ?_
        rintro e w3 ⟨q0, q1, q2, q3, rfl, Lq, Eq, hw3⟩
        have KA_ : Hid _ := Blk.below KA_.out hw3
        have KB_ : Hid _ := Blk.below KB_.out hw3
        have KR_ : Hid _ := Blk.below KR_.out hw3
        have KP_ : Hid _ := Blk.below KP_.out hw3
        have hB : Below w.heap.size w w3 := hB.trans (hw3.mono hB.size)
        have Lq : Hid _ := Lq
        clear hw3
        obtain ⟨zA, A0_, A1_, A2_, A3_, fA⟩ := KA_.out
        obtain ⟨zB, B0_, B1_, B2_, B3_, fB⟩ := KB_.out
        obtain ⟨zP, P0_, P1_, P2_, P3_, fP⟩ := KP_.out
        unfold W4
        go_wp2_with fail
        have KA_ : Hid (Blk ((((w3.setCell ⟨w.heap.size + 1 + 1 + 1, 0, none⟩ (.int .u64 q0)).setCell ⟨w.heap.size + 1 + 1 + 1, 1, none⟩ (.int .u64 q1)).setCell ⟨w.heap.size + 1 + 1 + 1, 2, none⟩ (.int .u64 q2)).setCell ⟨w.heap.size + 1 + 1 + 1, 3, none⟩ (.int .u64 q3)) (w.heap.size) a0 a1 a2 a3) := Blk.put_far KA_.out (by omega)
        have KB_ : Hid (Blk ((((w3.setCell ⟨w.heap.size + 1 + 1 + 1, 0, none⟩ (.int .u64 q0)).setCell ⟨w.heap.size + 1 + 1 + 1, 1, none⟩ (.int .u64 q1)).setCell ⟨w.heap.size + 1 + 1 + 1, 2, none⟩ (.int .u64 q2)).setCell ⟨w.heap.size + 1 + 1 + 1, 3, none⟩ (.int .u64 q3)) (w.heap.size + 1) b0 b1 b2 b3) := Blk.put_far KB_.out (by omega)
        have KR_ : Hid (Blk ((((w3.setCell ⟨w.heap.size + 1 + 1 + 1, 0, none⟩ (.int .u64 q0)).setCell ⟨w.heap.size + 1 + 1 + 1, 1, none⟩ (.int .u64 q1)).setCell ⟨w.heap.size + 1 + 1 + 1, 2, none⟩ (.int .u64 q2)).setCell ⟨w.heap.size + 1 + 1 + 1, 3, none⟩ (.int .u64 q3)) (w.heap.size + 1 + 1) 0 0 0 0) := Blk.put_far KR_.out (by omega)
        have KP_ : Hid (Blk ((((w3.setCell ⟨w.heap.size + 1 + 1 + 1, 0, none⟩ (.int .u64 q0)).setCell ⟨w.heap.size + 1 + 1 + 1, 1, none⟩ (.int .u64 q1)).setCell ⟨w.heap.size + 1 + 1 + 1, 2, none⟩ (.int .u64 q2)).setCell ⟨w.heap.size + 1 + 1 + 1, 3, none⟩ (.int .u64 q3)) (w.heap.size + 1 + 1 + 1) q0 q1 q2 q3) := Blk.put_same KP_.out
        have hB : Below w.heap.size w ((((w3.setCell ⟨w.heap.size + 1 + 1 + 1, 0, none⟩ (.int .u64 q0)).setCell ⟨w.heap.size + 1 + 1 + 1, 1, none⟩ (.int .u64 q1)).setCell ⟨w.heap.size + 1 + 1 + 1, 2, none⟩ (.int .u64 q2)).setCell ⟨w.heap.size + 1 + 1 + 1, 3, none⟩ (.int .u64 q3)) := below_put4 hB (by omega) _ _ _ _
        clear A0_ A1_ A2_ A3_ fA B0_ B1_ B2_ B3_ fB P0_ P1_ P2_ P3_ fP
        generalize ((((w3.setCell ⟨w.heap.size + 1 + 1 + 1, 0, none⟩ (.int .u64 q0)).setCell ⟨w.heap.size + 1 + 1 + 1, 1, none⟩ (.int .u64 q1)).setCell ⟨w.heap.size + 1 + 1 + 1, 2, none⟩ (.int .u64 q2)).setCell ⟨w.heap.size + 1 + 1 + 1, 3, none⟩ (.int .u64 q3)) = w4 at *
        refine (mulref_any q0 q1 q2 q3 a0 a1 a2 a3 Lq.out HA.out _).mono ?_
        rintro e w5 ⟨y0, y1, y2, y3, rfl, Ly, Ey, hw3⟩
        have KA_ : Hid _ := Blk.below KA_.out hw3
        have KB_ : Hid _ := Blk.below KB_.out hw3
        have KR_ : Hid _ := Blk.below KR_.out hw3
        have KP_ : Hid _ := Blk.below KP_.out hw3
        have hB : Below w.heap.size w w5 := hB.trans (hw3.mono hB.size)
        have Ly : Hid _ := Ly
        clear hw3
        obtain ⟨zA, A0_, A1_, A2_, A3_, fA⟩ := KA_.out
        obtain ⟨zB, B0_, B1_, B2_, B3_, fB⟩ := KB_.out
        obtain ⟨zP, P0_, P1_, P2_, P3_, fP⟩ := KP_.out
        unfold W4
        have HQ : Hid (num y0 y1 y2 y3 = na ^ (m / 2 ^ (192 + r)) % T256) := HP2.out _ _ Eq.out Ey.out
        clear Eq Ey HP2
        go_wp2
        exact ⟨⟨192 + r, y0, y1, y2, y3, by omega, by first | (rw [← hK]; go_num) | (simp [← hK]; done) | (simp; omega), Ly, HQ, Blk.put_far KA_.out (by omega), Blk.put_far KB_.out (by omega), Blk.put_far KR_.out (by omega), Blk.put_same KP_.out, below_put4 hB (by omega) _ _ _ _⟩, by simp [intOf]; omega⟩
end Go.Proofs.Ytjbdfmepeniglaa
