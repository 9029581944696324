/- Walks over the document's own answers: signs drawn out. -/
import Derived.Test.YtjbdfmepeniglaaB6
namespace Go.Proofs.Ytjbdfmepeniglaa
open Go.RowKit
set_option linter.unusedSimpArgs false
set_option linter.unusedVariables false
set_option maxHeartbeats 4000000 in
theorem signextref_any (n0 n1 n2 n3 x0 x1 x2 x3 : Int) (hn : L4 n0 n1 n2 n3) (hx : L4 x0 x1 x2 x3) (w : World) :
    Calls Try.prog 43 #[W4 n0 n1 n2 n3, W4 x0 x1 x2 x3] w fun e w' => ∃ r0 r1 r2 r3 : Int, e = .returned (W4 r0 r1 r2 r3) ∧ L4 r0 r1 r2 r3 ∧ Hid (num r0 r1 r2 r3 = seN (num n0 n1 n2 n3) (num x0 x1 x2 x3)) ∧ Below w.heap.size w w' := by
  have HN : Hid _ := hn
  have HX : Hid _ := hx
  clear hn hx
  unfold W4
  go_enter Try.func43, Try.ntmps43
  go_wp2_with fail
  have KN : Hid (Blk (((w.alloc (.cells #[.int .u64 n0, .int .u64 n1, .int .u64 n2, .int .u64 n3] 24)).alloc (.cells #[.int .u64 x0, .int .u64 x1, .int .u64 x2, .int .u64 x3] 24)).alloc (.cells #[.int .u64 0, .int .u64 0, .int .u64 0, .int .u64 0] 24)) (w.heap.size) n0 n1 n2 n3) := by refine ⟨by simp; omega, ?_, ?_, ?_, ?_, fun k => ?_⟩ <;> simp [go_sem, World.cell?_alloc_past, World.frozen?_alloc_past]
  have KX : Hid (Blk (((w.alloc (.cells #[.int .u64 n0, .int .u64 n1, .int .u64 n2, .int .u64 n3] 24)).alloc (.cells #[.int .u64 x0, .int .u64 x1, .int .u64 x2, .int .u64 x3] 24)).alloc (.cells #[.int .u64 0, .int .u64 0, .int .u64 0, .int .u64 0] 24)) (w.heap.size + 1) x0 x1 x2 x3) := by refine ⟨by simp, ?_, ?_, ?_, ?_, fun k => ?_⟩ <;> simp [go_sem, World.cell?_alloc_past, World.frozen?_alloc_past]
  have KR : Hid (Blk (((w.alloc (.cells #[.int .u64 n0, .int .u64 n1, .int .u64 n2, .int .u64 n3] 24)).alloc (.cells #[.int .u64 x0, .int .u64 x1, .int .u64 x2, .int .u64 x3] 24)).alloc (.cells #[.int .u64 0, .int .u64 0, .int .u64 0, .int .u64 0] 24)) (w.heap.size + 1 + 1) 0 0 0 0) := by refine ⟨by simp, ?_, ?_, ?_, ?_, fun k => ?_⟩ <;> simp [go_sem, World.cell?_alloc_past, World.frozen?_alloc_past]
  have hB : Below w.heap.size w (((w.alloc (.cells #[.int .u64 n0, .int .u64 n1, .int .u64 n2, .int .u64 n3] 24)).alloc (.cells #[.int .u64 x0, .int .u64 x1, .int .u64 x2, .int .u64 x3] 24)).alloc (.cells #[.int .u64 0, .int .u64 0, .int .u64 0, .int .u64 0] 24)) := by go_grown
  generalize (((w.alloc (.cells #[.int .u64 n0, .int .u64 n1, .int .u64 n2, .int .u64 n3] 24)).alloc (.cells #[.int .u64 x0, .int .u64 x1, .int .u64 x2, .int .u64 x3] 24)).alloc (.cells #[.int .u64 0, .int .u64 0, .int .u64 0, .int .u64 0] 24)) = w0 at *
  refine (small_any n0 n1 n2 n3 31 HN.out (by decide) _).mono ?_
  rintro e w2 ⟨rfl, hw2⟩
  have KN : Hid _ := Blk.below KN.out hw2
  have KX : Hid _ := Blk.below KX.out hw2
  have KR : Hid _ := Blk.below KR.out hw2
  have hB : Below w.heap.size w w2 := hB.trans (hw2.mono hB.size)
  clear hw2
  obtain ⟨K, hK⟩ : ∃ K, smallN (num n0 n1 n2 n3) 31 = K := ⟨_, rfl⟩
  have HK : Hid _ := hK
  have hKm : K ≤ 31 := by rw [← hK]; exact small_le _ _
  rw [hK]
  clear hK
  by_cases h32 : K = 31
  · subst h32
    have HE : Hid (num x0 x1 x2 x3 = seN (num n0 n1 n2 n3) (num x0 x1 x2 x3)) := by
      show _ = _
      have := small_eq (num_bd HN.out).1 HK.out
      unfold seN; rw [if_pos (by omega)]
    obtain ⟨zKX, KX0, KX1, KX2, KX3, fKX⟩ := KX.out
    obtain ⟨zKR, KR0, KR1, KR2, KR3, fKR⟩ := KR.out
    try unfold W4
    go_wp2
    refine bodyPost_ret (v := W4 x0 x1 x2 x3) (by simp [results, Try.results43, go_sem, KR0, KR1, KR2, KR3, zKR]) rfl ?_
    exact ⟨x0, x1, x2, x3, rfl, HX.out, HE, by go_grown⟩
  · have HS : Hid _ := small_lt (num_bd HN.out).1 HK.out h32
    have hK31 : K < 31 := by omega
    have hd : ((K : Int) == 31) = false := by simp; omega
    have HP : Hid (∀ w, Calls Try.prog 65 #[.int .i64 (8 * (K : Int) + 8)] w fun e w' => ∃ (v : Value) (d : List Int), e = .returned v ∧ IsN w' v d ∧ Hid (St ((8 * K + 8) / 8 + 1) d (2 ^ (8 * K + 8))) ∧ Below w.heap.size w w') := fun w => by
      have := power_st (8 * K + 8) (by omega) w
      rw [show ((8 * K + 8 : Nat) : Int) = 8 * (K : Int) + 8 from by omega] at this
      exact this
    obtain ⟨zKX, KX0, KX1, KX2, KX3, fKX⟩ := KX.out
    go_wp2_with fail
    refine (of_st x0 x1 x2 x3 HX.out _).mono ?_
    rintro e w2 ⟨v1, d1, rfl, N1, P1, hw2⟩
    have KX : Hid _ := Blk.below KX.out hw2
    have KR : Hid _ := Blk.below KR.out hw2
    have hB : Below w.heap.size w w2 := hB.trans (hw2.mono hB.size)
    clear hw2
    clear zKX KX0 KX1 KX2 KX3 fKX
    go_wp2_with fail
    refine (HP.out _).mono ?_
    rintro e w2 ⟨v2, d2, rfl, N2, P2, hw2⟩
    have KX : Hid _ := Blk.below KX.out hw2
    have KR : Hid _ := Blk.below KR.out hw2
    have N1 := IsN.below N1 hw2
    have hB : Below w.heap.size w w2 := hB.trans (hw2.mono hB.size)
    clear hw2
    go_wp2_with fail
    refine (quo_st _ _ _ _ _ _ _ (by decide) (show (8 * K + 8) / 8 + 1 < 500 by omega) N1 N2 P1 P2 (pow_pos' _)).mono ?_
    rintro e w2 ⟨vq, vr, dq, dr, rfl, Nq, Nr, Pq, Pr, hw2⟩
    have KX : Hid _ := Blk.below KX.out hw2
    have KR : Hid _ := Blk.below KR.out hw2
    have hB : Below w.heap.size w w2 := hB.trans (hw2.mono hB.size)
    clear hw2
    clear N1 N2 P1 P2 Nq Pq
    rcases (by omega : K < 8 ∨ (8 ≤ K ∧ K < 16) ∨ (16 ≤ K ∧ K < 24) ∨ (24 ≤ K ∧ K < 31)) with h8 | ⟨h8, h8'⟩ | ⟨h8, h8'⟩ | ⟨h8, h8'⟩
    all_goals rcases (by omega : (num x0 x1 x2 x3) / 2 ^ (8 * K + 7) % 2 = 0 ∨ (num x0 x1 x2 x3) / 2 ^ (8 * K + 7) % 2 = 1) with hbit | hbit
    · obtain ⟨s, hs, hKs⟩ : ∃ s, s < 8 ∧ K = 0 + s := ⟨K - 0, by omega, by omega⟩
      have e1 : (K : Int) / 8 = 0 := by omega
      have e2 : (K : Int) % 8 = s := by omega
      have hbits : bits .and .u64 (x0 / 2 ^ (8 * s + 7)) 1 = 0 := by
        rw [u64_and1, bit_num0 (by omega) HX.out, show 0 + (8 * s + 7) = 8 * K + 7 from by omega]; exact hbit
      have hd2 := div_limb x0 (8 * s + 7) HX.out.1
      obtain ⟨hd20, hd21⟩ := hd2
      clear hKs
      have HV : Hid (∀ q : Int, q = ((num x0 x1 x2 x3) % 2 ^ (8 * K + 8)) % T256 → q = seN (num n0 n1 n2 n3) (num x0 x1 x2 x3)) := fun q hq => by rw [HS.out.1]; exact se_nil hK31 hbit hq
      clear hbit
      obtain ⟨zKX, KX0, KX1, KX2, KX3, fKX⟩ := KX.out
      go_wp2_with fail
      refine (word_st _ _ _ _ (by omega) Nr Pr).mono ?_
      rintro e w2 ⟨r0, r1, r2, r3, rfl, Lr, Er, hw2⟩
      have KX : Hid _ := Blk.below KX.out hw2
      have KR : Hid _ := Blk.below KR.out hw2
      have hB : Below w.heap.size w w2 := hB.trans (hw2.mono hB.size)
      clear hw2
      have HE : Hid (num r0 r1 r2 r3 = seN (num n0 n1 n2 n3) (num x0 x1 x2 x3)) := HV.out _ Er.out
      clear Er HV zKX KX0 KX1 KX2 KX3 fKX
      obtain ⟨zKR, KR0, KR1, KR2, KR3, fKR⟩ := KR.out
      try unfold W4
      go_wp2
      refine bodyPost_ret (v := W4 r0 r1 r2 r3) (by simp [results, Try.results43, go_sem, KR0, KR1, KR2, KR3, zKR]) rfl ?_
      exact ⟨r0, r1, r2, r3, rfl, Lr, HE, by go_grown⟩
    · obtain ⟨s, hs, hKs⟩ : ∃ s, s < 8 ∧ K = 0 + s := ⟨K - 0, by omega, by omega⟩
      have e1 : (K : Int) / 8 = 0 := by omega
      have e2 : (K : Int) % 8 = s := by omega
      have hbits : bits .and .u64 (x0 / 2 ^ (8 * s + 7)) 1 = 1 := by
        rw [u64_and1, bit_num0 (by omega) HX.out, show 0 + (8 * s + 7) = 8 * K + 7 from by omega]; exact hbit
      have hd2 := div_limb x0 (8 * s + 7) HX.out.1
      obtain ⟨hd20, hd21⟩ := hd2
      clear hKs
      have HV : Hid (∀ q : Int, q = ((num x0 x1 x2 x3) % 2 ^ (8 * K + 8) + (2 ^ 256 - 2 ^ (8 * K + 8))) % T256 → q = seN (num n0 n1 n2 n3) (num x0 x1 x2 x3)) := fun q hq => by rw [HS.out.1]; exact se_one hK31 hbit hq
      clear hbit
      obtain ⟨zKX, KX0, KX1, KX2, KX3, fKX⟩ := KX.out
      go_wp2_with fail
      refine (power_st 256 (by decide) _).mono ?_
      rintro e w2 ⟨v5, d5, rfl, N5, P5, hw2⟩
      have KX : Hid _ := Blk.below KX.out hw2
      have KR : Hid _ := Blk.below KR.out hw2
      have Nr := IsN.below Nr hw2
      have hB : Below w.heap.size w w2 := hB.trans (hw2.mono hB.size)
      clear hw2
      go_wp2_with fail
      refine (HP.out _).mono ?_
      rintro e w2 ⟨v6, d6, rfl, N6, P6, hw2⟩
      have KX : Hid _ := Blk.below KX.out hw2
      have KR : Hid _ := Blk.below KR.out hw2
      have Nr := IsN.below Nr hw2
      have N5 := IsN.below N5 hw2
      have hB : Below w.heap.size w w2 := hB.trans (hw2.mono hB.size)
      clear hw2
      go_wp2_with fail
      refine (less_st _ _ _ _ _ _ _ (by decide) (show (8 * K + 8) / 8 + 1 < 1000 by omega) N5 N6 P5 P6 ⟨by decide, (se_low hK31 (num x0 x1 x2 x3)).2.2⟩).mono ?_
      rintro e w2 ⟨v7, d7, rfl, N7, P7, hw2⟩
      have KX : Hid _ := Blk.below KX.out hw2
      have KR : Hid _ := Blk.below KR.out hw2
      have Nr := IsN.below Nr hw2
      have hB : Below w.heap.size w w2 := hB.trans (hw2.mono hB.size)
      clear hw2
      go_wp2_with fail
      refine (plus_st _ _ _ _ _ _ _ (show (8 * K + 8) / 8 + 1 + 1 < 1000 by omega) (by decide) Nr N7 Pr P7).mono ?_
      rintro e w2 ⟨v8, d8, rfl, N8, P8, hw2⟩
      have KX : Hid _ := Blk.below KX.out hw2
      have KR : Hid _ := Blk.below KR.out hw2
      have hB : Below w.heap.size w w2 := hB.trans (hw2.mono hB.size)
      clear hw2
      go_wp2_with fail
      refine (word_st _ _ _ _ (by omega) N8 P8).mono ?_
      rintro e w2 ⟨r0, r1, r2, r3, rfl, Lr, Er, hw2⟩
      have KX : Hid _ := Blk.below KX.out hw2
      have KR : Hid _ := Blk.below KR.out hw2
      have hB : Below w.heap.size w w2 := hB.trans (hw2.mono hB.size)
      clear hw2
      have HE : Hid (num r0 r1 r2 r3 = seN (num n0 n1 n2 n3) (num x0 x1 x2 x3)) := HV.out _ Er.out
      clear Er HV zKX KX0 KX1 KX2 KX3 fKX
      obtain ⟨zKR, KR0, KR1, KR2, KR3, fKR⟩ := KR.out
      try unfold W4
      go_wp2
      refine bodyPost_ret (v := W4 r0 r1 r2 r3) (by simp [results, Try.results43, go_sem, KR0, KR1, KR2, KR3, zKR]) rfl ?_
      exact ⟨r0, r1, r2, r3, rfl, Lr, HE, by go_grown⟩
    · obtain ⟨s, hs, hKs⟩ : ∃ s, s < 8 ∧ K = 8 + s := ⟨K - 8, by omega, by omega⟩
      have e1 : (K : Int) / 8 = 1 := by omega
      have e2 : (K : Int) % 8 = s := by omega
      have hbits : bits .and .u64 (x1 / 2 ^ (8 * s + 7)) 1 = 0 := by
        rw [u64_and1, bit_num1 (by omega) HX.out, show 64 + (8 * s + 7) = 8 * K + 7 from by omega]; exact hbit
      have hd2 := div_limb x1 (8 * s + 7) HX.out.2.1
      obtain ⟨hd20, hd21⟩ := hd2
      clear hKs
      have HV : Hid (∀ q : Int, q = ((num x0 x1 x2 x3) % 2 ^ (8 * K + 8)) % T256 → q = seN (num n0 n1 n2 n3) (num x0 x1 x2 x3)) := fun q hq => by rw [HS.out.1]; exact se_nil hK31 hbit hq
      clear hbit
      obtain ⟨zKX, KX0, KX1, KX2, KX3, fKX⟩ := KX.out
      go_wp2_with fail
      refine (word_st _ _ _ _ (by omega) Nr Pr).mono ?_
      rintro e w2 ⟨r0, r1, r2, r3, rfl, Lr, Er, hw2⟩
      have KX : Hid _ := Blk.below KX.out hw2
      have KR : Hid _ := Blk.below KR.out hw2
      have hB : Below w.heap.size w w2 := hB.trans (hw2.mono hB.size)
      clear hw2
      have HE : Hid (num r0 r1 r2 r3 = seN (num n0 n1 n2 n3) (num x0 x1 x2 x3)) := HV.out _ Er.out
      clear Er HV zKX KX0 KX1 KX2 KX3 fKX
      obtain ⟨zKR, KR0, KR1, KR2, KR3, fKR⟩ := KR.out
      try unfold W4
      go_wp2
      refine bodyPost_ret (v := W4 r0 r1 r2 r3) (by simp [results, Try.results43, go_sem, KR0, KR1, KR2, KR3, zKR]) rfl ?_
      exact ⟨r0, r1, r2, r3, rfl, Lr, HE, by go_grown⟩
    · obtain ⟨s, hs, hKs⟩ : ∃ s, s < 8 ∧ K = 8 + s := ⟨K - 8, by omega, by omega⟩
      have e1 : (K : Int) / 8 = 1 := by omega
      have e2 : (K : Int) % 8 = s := by omega
      have hbits : bits .and .u64 (x1 / 2 ^ (8 * s + 7)) 1 = 1 := by
        rw [u64_and1, bit_num1 (by omega) HX.out, show 64 + (8 * s + 7) = 8 * K + 7 from by omega]; exact hbit
      have hd2 := div_limb x1 (8 * s + 7) HX.out.2.1
      obtain ⟨hd20, hd21⟩ := hd2
      clear hKs
      have HV : Hid (∀ q : Int, q = ((num x0 x1 x2 x3) % 2 ^ (8 * K + 8) + (2 ^ 256 - 2 ^ (8 * K + 8))) % T256 → q = seN (num n0 n1 n2 n3) (num x0 x1 x2 x3)) := fun q hq => by rw [HS.out.1]; exact se_one hK31 hbit hq
      clear hbit
      obtain ⟨zKX, KX0, KX1, KX2, KX3, fKX⟩ := KX.out
      go_wp2_with fail
      refine (power_st 256 (by decide) _).mono ?_
      rintro e w2 ⟨v5, d5, rfl, N5, P5, hw2⟩
      have KX : Hid _ := Blk.below KX.out hw2
      have KR : Hid _ := Blk.below KR.out hw2
      have Nr := IsN.below Nr hw2
      have hB : Below w.heap.size w w2 := hB.trans (hw2.mono hB.size)
      clear hw2
      go_wp2_with fail
      refine (HP.out _).mono ?_
      rintro e w2 ⟨v6, d6, rfl, N6, P6, hw2⟩
      have KX : Hid _ := Blk.below KX.out hw2
      have KR : Hid _ := Blk.below KR.out hw2
      have Nr := IsN.below Nr hw2
      have N5 := IsN.below N5 hw2
      have hB : Below w.heap.size w w2 := hB.trans (hw2.mono hB.size)
      clear hw2
      go_wp2_with fail
      refine (less_st _ _ _ _ _ _ _ (by decide) (show (8 * K + 8) / 8 + 1 < 1000 by omega) N5 N6 P5 P6 ⟨by decide, (se_low hK31 (num x0 x1 x2 x3)).2.2⟩).mono ?_
      rintro e w2 ⟨v7, d7, rfl, N7, P7, hw2⟩
      have KX : Hid _ := Blk.below KX.out hw2
      have KR : Hid _ := Blk.below KR.out hw2
      have Nr := IsN.below Nr hw2
      have hB : Below w.heap.size w w2 := hB.trans (hw2.mono hB.size)
      clear hw2
      go_wp2_with fail
      refine (plus_st _ _ _ _ _ _ _ (show (8 * K + 8) / 8 + 1 + 1 < 1000 by omega) (by decide) Nr N7 Pr P7).mono ?_
      rintro e w2 ⟨v8, d8, rfl, N8, P8, hw2⟩
      have KX : Hid _ := Blk.below KX.out hw2
      have KR : Hid _ := Blk.below KR.out hw2
      have hB : Below w.heap.size w w2 := hB.trans (hw2.mono hB.size)
      clear hw2
      go_wp2_with fail
      refine (word_st _ _ _ _ (by omega) N8 P8).mono ?_
      rintro e w2 ⟨r0, r1, r2, r3, rfl, Lr, Er, hw2⟩
      have KX : Hid _ := Blk.below KX.out hw2
      have KR : Hid _ := Blk.below KR.out hw2
      have hB : Below w.heap.size w w2 := hB.trans (hw2.mono hB.size)
      clear hw2
      have HE : Hid (num r0 r1 r2 r3 = seN (num n0 n1 n2 n3) (num x0 x1 x2 x3)) := HV.out _ Er.out
      clear Er HV zKX KX0 KX1 KX2 KX3 fKX
      obtain ⟨zKR, KR0, KR1, KR2, KR3, fKR⟩ := KR.out
      try unfold W4
      go_wp2
      refine bodyPost_ret (v := W4 r0 r1 r2 r3) (by simp [results, Try.results43, go_sem, KR0, KR1, KR2, KR3, zKR]) rfl ?_
      exact ⟨r0, r1, r2, r3, rfl, Lr, HE, by go_grown⟩
    · obtain ⟨s, hs, hKs⟩ : ∃ s, s < 8 ∧ K = 16 + s := ⟨K - 16, by omega, by omega⟩
      have e1 : (K : Int) / 8 = 2 := by omega
      have e2 : (K : Int) % 8 = s := by omega
      have hbits : bits .and .u64 (x2 / 2 ^ (8 * s + 7)) 1 = 0 := by
        rw [u64_and1, bit_num2 (by omega) HX.out, show 128 + (8 * s + 7) = 8 * K + 7 from by omega]; exact hbit
      have hd2 := div_limb x2 (8 * s + 7) HX.out.2.2.1
      obtain ⟨hd20, hd21⟩ := hd2
      clear hKs
      have HV : Hid (∀ q : Int, q = ((num x0 x1 x2 x3) % 2 ^ (8 * K + 8)) % T256 → q = seN (num n0 n1 n2 n3) (num x0 x1 x2 x3)) := fun q hq => by rw [HS.out.1]; exact se_nil hK31 hbit hq
      clear hbit
      obtain ⟨zKX, KX0, KX1, KX2, KX3, fKX⟩ := KX.out
      go_wp2_with fail
      refine (word_st _ _ _ _ (by omega) Nr Pr).mono ?_
      rintro e w2 ⟨r0, r1, r2, r3, rfl, Lr, Er, hw2⟩
      have KX : Hid _ := Blk.below KX.out hw2
      have KR : Hid _ := Blk.below KR.out hw2
      have hB : Below w.heap.size w w2 := hB.trans (hw2.mono hB.size)
      clear hw2
      have HE : Hid (num r0 r1 r2 r3 = seN (num n0 n1 n2 n3) (num x0 x1 x2 x3)) := HV.out _ Er.out
      clear Er HV zKX KX0 KX1 KX2 KX3 fKX
      obtain ⟨zKR, KR0, KR1, KR2, KR3, fKR⟩ := KR.out
      try unfold W4
      go_wp2
      refine bodyPost_ret (v := W4 r0 r1 r2 r3) (by simp [results, Try.results43, go_sem, KR0, KR1, KR2, KR3, zKR]) rfl ?_
      exact ⟨r0, r1, r2, r3, rfl, Lr, HE, by go_grown⟩
    · obtain ⟨s, hs, hKs⟩ : ∃ s, s < 8 ∧ K = 16 + s := ⟨K - 16, by omega, by omega⟩
      have e1 : (K : Int) / 8 = 2 := by omega
      have e2 : (K : Int) % 8 = s := by omega
      have hbits : bits .and .u64 (x2 / 2 ^ (8 * s + 7)) 1 = 1 := by
        rw [u64_and1, bit_num2 (by omega) HX.out, show 128 + (8 * s + 7) = 8 * K + 7 from by omega]; exact hbit
      have hd2 := div_limb x2 (8 * s + 7) HX.out.2.2.1
      obtain ⟨hd20, hd21⟩ := hd2
      clear hKs
      have HV : Hid (∀ q : Int, q = ((num x0 x1 x2 x3) % 2 ^ (8 * K + 8) + (2 ^ 256 - 2 ^ (8 * K + 8))) % T256 → q = seN (num n0 n1 n2 n3) (num x0 x1 x2 x3)) := fun q hq => by rw [HS.out.1]; exact se_one hK31 hbit hq
      clear hbit
      obtain ⟨zKX, KX0, KX1, KX2, KX3, fKX⟩ := KX.out
      go_wp2_with fail
      refine (power_st 256 (by decide) _).mono ?_
      rintro e w2 ⟨v5, d5, rfl, N5, P5, hw2⟩
      have KX : Hid _ := Blk.below KX.out hw2
      have KR : Hid _ := Blk.below KR.out hw2
      have Nr := IsN.below Nr hw2
      have hB : Below w.heap.size w w2 := hB.trans (hw2.mono hB.size)
      clear hw2
      go_wp2_with fail
      refine (HP.out _).mono ?_
      rintro e w2 ⟨v6, d6, rfl, N6, P6, hw2⟩
      have KX : Hid _ := Blk.below KX.out hw2
      have KR : Hid _ := Blk.below KR.out hw2
      have Nr := IsN.below Nr hw2
      have N5 := IsN.below N5 hw2
      have hB : Below w.heap.size w w2 := hB.trans (hw2.mono hB.size)
      clear hw2
      go_wp2_with fail
      refine (less_st _ _ _ _ _ _ _ (by decide) (show (8 * K + 8) / 8 + 1 < 1000 by omega) N5 N6 P5 P6 ⟨by decide, (se_low hK31 (num x0 x1 x2 x3)).2.2⟩).mono ?_
      rintro e w2 ⟨v7, d7, rfl, N7, P7, hw2⟩
      have KX : Hid _ := Blk.below KX.out hw2
      have KR : Hid _ := Blk.below KR.out hw2
      have Nr := IsN.below Nr hw2
      have hB : Below w.heap.size w w2 := hB.trans (hw2.mono hB.size)
      clear hw2
      go_wp2_with fail
      refine (plus_st _ _ _ _ _ _ _ (show (8 * K + 8) / 8 + 1 + 1 < 1000 by omega) (by decide) Nr N7 Pr P7).mono ?_
      rintro e w2 ⟨v8, d8, rfl, N8, P8, hw2⟩
      have KX : Hid _ := Blk.below KX.out hw2
      have KR : Hid _ := Blk.below KR.out hw2
      have hB : Below w.heap.size w w2 := hB.trans (hw2.mono hB.size)
      clear hw2
      go_wp2_with fail
      refine (word_st _ _ _ _ (by omega) N8 P8).mono ?_
      rintro e w2 ⟨r0, r1, r2, r3, rfl, Lr, Er, hw2⟩
      have KX : Hid _ := Blk.below KX.out hw2
      have KR : Hid _ := Blk.below KR.out hw2
      have hB : Below w.heap.size w w2 := hB.trans (hw2.mono hB.size)
      clear hw2
      have HE : Hid (num r0 r1 r2 r3 = seN (num n0 n1 n2 n3) (num x0 x1 x2 x3)) := HV.out _ Er.out
      clear Er HV zKX KX0 KX1 KX2 KX3 fKX
      obtain ⟨zKR, KR0, KR1, KR2, KR3, fKR⟩ := KR.out
      try unfold W4
      go_wp2
      refine bodyPost_ret (v := W4 r0 r1 r2 r3) (by simp [results, Try.results43, go_sem, KR0, KR1, KR2, KR3, zKR]) rfl ?_
      exact ⟨r0, r1, r2, r3, rfl, Lr, HE, by go_grown⟩
    · obtain ⟨s, hs, hKs⟩ : ∃ s, s < 8 ∧ K = 24 + s := ⟨K - 24, by omega, by omega⟩
      have e1 : (K : Int) / 8 = 3 := by omega
      have e2 : (K : Int) % 8 = s := by omega
      have hbits : bits .and .u64 (x3 / 2 ^ (8 * s + 7)) 1 = 0 := by
        rw [u64_and1, bit_num3 (by omega) HX.out, show 192 + (8 * s + 7) = 8 * K + 7 from by omega]; exact hbit
      have hd2 := div_limb x3 (8 * s + 7) HX.out.2.2.2
      obtain ⟨hd20, hd21⟩ := hd2
      clear hKs
      have HV : Hid (∀ q : Int, q = ((num x0 x1 x2 x3) % 2 ^ (8 * K + 8)) % T256 → q = seN (num n0 n1 n2 n3) (num x0 x1 x2 x3)) := fun q hq => by rw [HS.out.1]; exact se_nil hK31 hbit hq
      clear hbit
      obtain ⟨zKX, KX0, KX1, KX2, KX3, fKX⟩ := KX.out
      go_wp2_with fail
      refine (word_st _ _ _ _ (by omega) Nr Pr).mono ?_
      rintro e w2 ⟨r0, r1, r2, r3, rfl, Lr, Er, hw2⟩
      have KX : Hid _ := Blk.below KX.out hw2
      have KR : Hid _ := Blk.below KR.out hw2
      have hB : Below w.heap.size w w2 := hB.trans (hw2.mono hB.size)
      clear hw2
      have HE : Hid (num r0 r1 r2 r3 = seN (num n0 n1 n2 n3) (num x0 x1 x2 x3)) := HV.out _ Er.out
      clear Er HV zKX KX0 KX1 KX2 KX3 fKX
      obtain ⟨zKR, KR0, KR1, KR2, KR3, fKR⟩ := KR.out
      try unfold W4
      go_wp2
      refine bodyPost_ret (v := W4 r0 r1 r2 r3) (by simp [results, Try.results43, go_sem, KR0, KR1, KR2, KR3, zKR]) rfl ?_
      exact ⟨r0, r1, r2, r3, rfl, Lr, HE, by go_grown⟩
    · obtain ⟨s, hs, hKs⟩ : ∃ s, s < 8 ∧ K = 24 + s := ⟨K - 24, by omega, by omega⟩
      have e1 : (K : Int) / 8 = 3 := by omega
      have e2 : (K : Int) % 8 = s := by omega
      have hbits : bits .and .u64 (x3 / 2 ^ (8 * s + 7)) 1 = 1 := by
        rw [u64_and1, bit_num3 (by omega) HX.out, show 192 + (8 * s + 7) = 8 * K + 7 from by omega]; exact hbit
      have hd2 := div_limb x3 (8 * s + 7) HX.out.2.2.2
      obtain ⟨hd20, hd21⟩ := hd2
      clear hKs
      have HV : Hid (∀ q : Int, q = ((num x0 x1 x2 x3) % 2 ^ (8 * K + 8) + (2 ^ 256 - 2 ^ (8 * K + 8))) % T256 → q = seN (num n0 n1 n2 n3) (num x0 x1 x2 x3)) := fun q hq => by rw [HS.out.1]; exact se_one hK31 hbit hq
      clear hbit
      obtain ⟨zKX, KX0, KX1, KX2, KX3, fKX⟩ := KX.out
      go_wp2_with fail
      refine (power_st 256 (by decide) _).mono ?_
      rintro e w2 ⟨v5, d5, rfl, N5, P5, hw2⟩
      have KX : Hid _ := Blk.below KX.out hw2
      have KR : Hid _ := Blk.below KR.out hw2
      have Nr := IsN.below Nr hw2
      have hB : Below w.heap.size w w2 := hB.trans (hw2.mono hB.size)
      clear hw2
      go_wp2_with fail
      refine (HP.out _).mono ?_
      rintro e w2 ⟨v6, d6, rfl, N6, P6, hw2⟩
      have KX : Hid _ := Blk.below KX.out hw2
      have KR : Hid _ := Blk.below KR.out hw2
      have Nr := IsN.below Nr hw2
      have N5 := IsN.below N5 hw2
      have hB : Below w.heap.size w w2 := hB.trans (hw2.mono hB.size)
      clear hw2
      go_wp2_with fail
      refine (less_st _ _ _ _ _ _ _ (by decide) (show (8 * K + 8) / 8 + 1 < 1000 by omega) N5 N6 P5 P6 ⟨by decide, (se_low hK31 (num x0 x1 x2 x3)).2.2⟩).mono ?_
      rintro e w2 ⟨v7, d7, rfl, N7, P7, hw2⟩
      have KX : Hid _ := Blk.below KX.out hw2
      have KR : Hid _ := Blk.below KR.out hw2
      have Nr := IsN.below Nr hw2
      have hB : Below w.heap.size w w2 := hB.trans (hw2.mono hB.size)
      clear hw2
      go_wp2_with fail
      refine (plus_st _ _ _ _ _ _ _ (show (8 * K + 8) / 8 + 1 + 1 < 1000 by omega) (by decide) Nr N7 Pr P7).mono ?_
      rintro e w2 ⟨v8, d8, rfl, N8, P8, hw2⟩
      have KX : Hid _ := Blk.below KX.out hw2
      have KR : Hid _ := Blk.below KR.out hw2
      have hB : Below w.heap.size w w2 := hB.trans (hw2.mono hB.size)
      clear hw2
      go_wp2_with fail
      refine (word_st _ _ _ _ (by omega) N8 P8).mono ?_
      rintro e w2 ⟨r0, r1, r2, r3, rfl, Lr, Er, hw2⟩
      have KX : Hid _ := Blk.below KX.out hw2
      have KR : Hid _ := Blk.below KR.out hw2
      have hB : Below w.heap.size w w2 := hB.trans (hw2.mono hB.size)
      clear hw2
      have HE : Hid (num r0 r1 r2 r3 = seN (num n0 n1 n2 n3) (num x0 x1 x2 x3)) := HV.out _ Er.out
      clear Er HV zKX KX0 KX1 KX2 KX3 fKX
      obtain ⟨zKR, KR0, KR1, KR2, KR3, fKR⟩ := KR.out
      try unfold W4
      go_wp2
      refine bodyPost_ret (v := W4 r0 r1 r2 r3) (by simp [results, Try.results43, go_sem, KR0, KR1, KR2, KR3, zKR]) rfl ?_
      exact ⟨r0, r1, r2, r3, rfl, Lr, HE, by go_grown⟩
end Go.Proofs.Ytjbdfmepeniglaa
