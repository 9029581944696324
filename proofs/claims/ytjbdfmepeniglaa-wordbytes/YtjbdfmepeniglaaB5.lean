/- Walks over the document's own answers: bytes, shifts up. -/
import Derived.Test.YtjbdfmepeniglaaB4
namespace Go.Proofs.Ytjbdfmepeniglaa
open Go.RowKit
set_option linter.unusedSimpArgs false
set_option linter.unusedVariables false
set_option maxHeartbeats 4000000 in
theorem byteref_any (n0 n1 n2 n3 x0 x1 x2 x3 : Int) (hn : L4 n0 n1 n2 n3) (hx : L4 x0 x1 x2 x3) (w : World) :
    Calls Try.prog 35 #[W4 n0 n1 n2 n3, W4 x0 x1 x2 x3] w fun e w' => ∃ r0 r1 r2 r3 : Int, e = .returned (W4 r0 r1 r2 r3) ∧ L4 r0 r1 r2 r3 ∧ Hid (num r0 r1 r2 r3 = byN (num n0 n1 n2 n3) (num x0 x1 x2 x3)) ∧ Below w.heap.size w w' := by
  have HN : Hid _ := hn
  have HX : Hid _ := hx
  clear hn hx
  unfold W4
  go_enter Try.func35, Try.ntmps35
  go_wp2_with fail
  have KN : Hid (Blk (((w.alloc (.cells #[.int .u64 n0, .int .u64 n1, .int .u64 n2, .int .u64 n3] 24)).alloc (.cells #[.int .u64 x0, .int .u64 x1, .int .u64 x2, .int .u64 x3] 24)).alloc (.cells #[.int .u64 0, .int .u64 0, .int .u64 0, .int .u64 0] 24)) (w.heap.size) n0 n1 n2 n3) := by refine ⟨by simp; omega, ?_, ?_, ?_, ?_, fun k => ?_⟩ <;> simp [go_sem, World.cell?_alloc_past, World.frozen?_alloc_past]
  have KX : Hid (Blk (((w.alloc (.cells #[.int .u64 n0, .int .u64 n1, .int .u64 n2, .int .u64 n3] 24)).alloc (.cells #[.int .u64 x0, .int .u64 x1, .int .u64 x2, .int .u64 x3] 24)).alloc (.cells #[.int .u64 0, .int .u64 0, .int .u64 0, .int .u64 0] 24)) (w.heap.size + 1) x0 x1 x2 x3) := by refine ⟨by simp, ?_, ?_, ?_, ?_, fun k => ?_⟩ <;> simp [go_sem, World.cell?_alloc_past, World.frozen?_alloc_past]
  have KR : Hid (Blk (((w.alloc (.cells #[.int .u64 n0, .int .u64 n1, .int .u64 n2, .int .u64 n3] 24)).alloc (.cells #[.int .u64 x0, .int .u64 x1, .int .u64 x2, .int .u64 x3] 24)).alloc (.cells #[.int .u64 0, .int .u64 0, .int .u64 0, .int .u64 0] 24)) (w.heap.size + 1 + 1) 0 0 0 0) := by refine ⟨by simp, ?_, ?_, ?_, ?_, fun k => ?_⟩ <;> simp [go_sem, World.cell?_alloc_past, World.frozen?_alloc_past]
  have hB : Below w.heap.size w (((w.alloc (.cells #[.int .u64 n0, .int .u64 n1, .int .u64 n2, .int .u64 n3] 24)).alloc (.cells #[.int .u64 x0, .int .u64 x1, .int .u64 x2, .int .u64 x3] 24)).alloc (.cells #[.int .u64 0, .int .u64 0, .int .u64 0, .int .u64 0] 24)) := by go_grown
  generalize (((w.alloc (.cells #[.int .u64 n0, .int .u64 n1, .int .u64 n2, .int .u64 n3] 24)).alloc (.cells #[.int .u64 x0, .int .u64 x1, .int .u64 x2, .int .u64 x3] 24)).alloc (.cells #[.int .u64 0, .int .u64 0, .int .u64 0, .int .u64 0] 24)) = w0 at *
  refine (small_any n0 n1 n2 n3 32 HN.out (by decide) _).mono ?_
  rintro e w2 ⟨rfl, hw2⟩
  have KN : Hid _ := Blk.below KN.out hw2
  have KX : Hid _ := Blk.below KX.out hw2
  have KR : Hid _ := Blk.below KR.out hw2
  have hB : Below w.heap.size w w2 := hB.trans (hw2.mono hB.size)
  clear hw2
  obtain ⟨K, hK⟩ : ∃ K, smallN (num n0 n1 n2 n3) 32 = K := ⟨_, rfl⟩
  have HK : Hid _ := hK
  have hKm : K ≤ 32 := by rw [← hK]; exact small_le _ _
  rw [hK]
  clear hK
  by_cases h32 : K = 32
  · subst h32
    have HE : Hid (num 0 0 0 0 = byN (num n0 n1 n2 n3) (num x0 x1 x2 x3)) := by
      show _ = _
      have := small_eq (num_bd HN.out).1 HK.out
      unfold byN; rw [if_neg (by omega), num0]
    obtain ⟨zKR, KR0, KR1, KR2, KR3, fKR⟩ := KR.out
    try unfold W4
    go_wp2
    refine bodyPost_ret (v := W4 0 0 0 0) (by simp [results, Try.results35, go_sem, KR0, KR1, KR2, KR3, zKR]) rfl ?_
    exact ⟨0, 0, 0, 0, rfl, of_L4 limb0, HE, by go_grown⟩
  · have HS : Hid _ := small_lt (num_bd HN.out).1 HK.out h32
    have hK32 : K < 32 := by omega
    have hd : ((K : Int) == 32) = false := by simp; omega
    obtain ⟨zKX, KX0, KX1, KX2, KX3, fKX⟩ := KX.out
    go_wp2_with fail
    refine (bytesref_any x0 x1 x2 x3 HX.out _).mono ?_
    rintro e w2 ⟨b, rfl, hbs, hrow, hw2⟩
    have KN : Hid _ := Blk.below KN.out hw2
    have KX : Hid _ := Blk.below KX.out hw2
    have KR : Hid _ := Blk.below KR.out hw2
    have hB : Below w.heap.size w w2 := hB.trans (hw2.mono hB.size)
    clear hw2
    have hc := World.rowIs.cell hrow (i := K) hK32
    have hval : 0 ≤ (num x0 x1 x2 x3) / 256 ^ (31 - K) % 256 ∧ (num x0 x1 x2 x3) / 256 ^ (31 - K) % 256 < 256 := by omega
    have HE : Hid (num ((num x0 x1 x2 x3) / 256 ^ (31 - K) % 256) 0 0 0 = byN (num n0 n1 n2 n3) (num x0 x1 x2 x3)) := by
      show _ = _
      obtain ⟨h1, h2⟩ := HS.out
      unfold byN; rw [if_pos (by omega), of_num, show (31 - (num n0 n1 n2 n3)).toNat = 31 - K from by omega]
    generalize (num x0 x1 x2 x3) / 256 ^ (31 - K) % 256 = z at *
    obtain ⟨hz0, hz1⟩ := hval
    have hwz : IntKind.u64.wrap z = z := by rw [IntKind.wrap_u64]; omega
    clear hrow HS
    obtain ⟨zKR, KR0, KR1, KR2, KR3, fKR⟩ := KR.out
    try unfold W4
    go_wp2
    refine bodyPost_ret (v := W4 z 0 0 0) (by simp [results, Try.results35, go_sem, KR0, KR1, KR2, KR3, zKR]) rfl ?_
    exact ⟨z, 0, 0, 0, rfl, of_L4 ⟨hz0, by omega⟩, HE, by go_grown⟩
set_option maxHeartbeats 4000000 in
theorem shlref_any (n0 n1 n2 n3 x0 x1 x2 x3 : Int) (hn : L4 n0 n1 n2 n3) (hx : L4 x0 x1 x2 x3) (w : World) :
    Calls Try.prog 37 #[W4 n0 n1 n2 n3, W4 x0 x1 x2 x3] w fun e w' => ∃ r0 r1 r2 r3 : Int, e = .returned (W4 r0 r1 r2 r3) ∧ L4 r0 r1 r2 r3 ∧ Hid (num r0 r1 r2 r3 = shlN (num n0 n1 n2 n3) (num x0 x1 x2 x3)) ∧ Below w.heap.size w w' := by
  have HN : Hid _ := hn
  have HX : Hid _ := hx
  clear hn hx
  unfold W4
  go_enter Try.func37, Try.ntmps37
  go_wp2_with fail
  have KN : Hid (Blk (((w.alloc (.cells #[.int .u64 n0, .int .u64 n1, .int .u64 n2, .int .u64 n3] 24)).alloc (.cells #[.int .u64 x0, .int .u64 x1, .int .u64 x2, .int .u64 x3] 24)).alloc (.cells #[.int .u64 0, .int .u64 0, .int .u64 0, .int .u64 0] 24)) (w.heap.size) n0 n1 n2 n3) := by refine ⟨by simp; omega, ?_, ?_, ?_, ?_, fun k => ?_⟩ <;> simp [go_sem, World.cell?_alloc_past, World.frozen?_alloc_past]
  have KX : Hid (Blk (((w.alloc (.cells #[.int .u64 n0, .int .u64 n1, .int .u64 n2, .int .u64 n3] 24)).alloc (.cells #[.int .u64 x0, .int .u64 x1, .int .u64 x2, .int .u64 x3] 24)).alloc (.cells #[.int .u64 0, .int .u64 0, .int .u64 0, .int .u64 0] 24)) (w.heap.size + 1) x0 x1 x2 x3) := by refine ⟨by simp, ?_, ?_, ?_, ?_, fun k => ?_⟩ <;> simp [go_sem, World.cell?_alloc_past, World.frozen?_alloc_past]
  have KR : Hid (Blk (((w.alloc (.cells #[.int .u64 n0, .int .u64 n1, .int .u64 n2, .int .u64 n3] 24)).alloc (.cells #[.int .u64 x0, .int .u64 x1, .int .u64 x2, .int .u64 x3] 24)).alloc (.cells #[.int .u64 0, .int .u64 0, .int .u64 0, .int .u64 0] 24)) (w.heap.size + 1 + 1) 0 0 0 0) := by refine ⟨by simp, ?_, ?_, ?_, ?_, fun k => ?_⟩ <;> simp [go_sem, World.cell?_alloc_past, World.frozen?_alloc_past]
  have hB : Below w.heap.size w (((w.alloc (.cells #[.int .u64 n0, .int .u64 n1, .int .u64 n2, .int .u64 n3] 24)).alloc (.cells #[.int .u64 x0, .int .u64 x1, .int .u64 x2, .int .u64 x3] 24)).alloc (.cells #[.int .u64 0, .int .u64 0, .int .u64 0, .int .u64 0] 24)) := by go_grown
  generalize (((w.alloc (.cells #[.int .u64 n0, .int .u64 n1, .int .u64 n2, .int .u64 n3] 24)).alloc (.cells #[.int .u64 x0, .int .u64 x1, .int .u64 x2, .int .u64 x3] 24)).alloc (.cells #[.int .u64 0, .int .u64 0, .int .u64 0, .int .u64 0] 24)) = w0 at *
  refine (small_any n0 n1 n2 n3 256 HN.out (by decide) _).mono ?_
  rintro e w2 ⟨rfl, hw2⟩
  have KN : Hid _ := Blk.below KN.out hw2
  have KX : Hid _ := Blk.below KX.out hw2
  have KR : Hid _ := Blk.below KR.out hw2
  have hB : Below w.heap.size w w2 := hB.trans (hw2.mono hB.size)
  clear hw2
  obtain ⟨K, hK⟩ : ∃ K, smallN (num n0 n1 n2 n3) 256 = K := ⟨_, rfl⟩
  have HK : Hid _ := hK
  have hKm : K ≤ 256 := by rw [← hK]; exact small_le _ _
  rw [hK]
  clear hK
  by_cases h32 : K = 256
  · subst h32
    have HE : Hid (num 0 0 0 0 = shlN (num n0 n1 n2 n3) (num x0 x1 x2 x3)) := by
      show _ = _
      rw [num0]; exact shl_zero (small_eq (num_bd HN.out).1 HK.out)
    obtain ⟨zKR, KR0, KR1, KR2, KR3, fKR⟩ := KR.out
    try unfold W4
    go_wp2
    refine bodyPost_ret (v := W4 0 0 0 0) (by simp [results, Try.results37, go_sem, KR0, KR1, KR2, KR3, zKR]) rfl ?_
    exact ⟨0, 0, 0, 0, rfl, of_L4 limb0, HE, by go_grown⟩
  · have HS : Hid _ := small_lt (num_bd HN.out).1 HK.out h32
    have hd : ((K : Int) == 256) = false := by simp; omega
    obtain ⟨zKX, KX0, KX1, KX2, KX3, fKX⟩ := KX.out
    go_wp2_with fail
    refine (of_st x0 x1 x2 x3 HX.out _).mono ?_
    rintro e w2 ⟨v1, d1, rfl, N1, P1, hw2⟩
    have KN : Hid _ := Blk.below KN.out hw2
    have KX : Hid _ := Blk.below KX.out hw2
    have KR : Hid _ := Blk.below KR.out hw2
    have hB : Below w.heap.size w w2 := hB.trans (hw2.mono hB.size)
    clear hw2
    go_wp2_with fail
    refine (power_st K (by omega) _).mono ?_
    rintro e w2 ⟨v2, d2, rfl, N2, P2, hw2⟩
    have KN : Hid _ := Blk.below KN.out hw2
    have KX : Hid _ := Blk.below KX.out hw2
    have KR : Hid _ := Blk.below KR.out hw2
    have N1 := IsN.below N1 hw2
    have hB : Below w.heap.size w w2 := hB.trans (hw2.mono hB.size)
    clear hw2
    go_wp2_with fail
    refine (times_st _ _ _ _ _ _ _ (by decide) (show K / 8 + 1 < 1000 by omega) N1 N2 P1 P2).mono ?_
    rintro e w2 ⟨v3, d3, rfl, N3, P3, hw2⟩
    have KN : Hid _ := Blk.below KN.out hw2
    have KX : Hid _ := Blk.below KX.out hw2
    have KR : Hid _ := Blk.below KR.out hw2
    have hB : Below w.heap.size w w2 := hB.trans (hw2.mono hB.size)
    clear hw2
    go_wp2_with fail
    refine (word_st _ _ _ _ (by omega) N3 P3).mono ?_
    rintro e w2 ⟨r0, r1, r2, r3, rfl, Lr, Er, hw2⟩
    have KN : Hid _ := Blk.below KN.out hw2
    have KX : Hid _ := Blk.below KX.out hw2
    have KR : Hid _ := Blk.below KR.out hw2
    have hB : Below w.heap.size w w2 := hB.trans (hw2.mono hB.size)
    clear hw2
    have HE : Hid (num r0 r1 r2 r3 = shlN (num n0 n1 n2 n3) (num x0 x1 x2 x3)) := Er.out.trans (shl_val HS.out.1 (by have := HS.out.2; omega))
    clear Er
    obtain ⟨zKR, KR0, KR1, KR2, KR3, fKR⟩ := KR.out
    try unfold W4
    go_wp2
    refine bodyPost_ret (v := W4 r0 r1 r2 r3) (by simp [results, Try.results37, go_sem, KR0, KR1, KR2, KR3, zKR]) rfl ?_
    exact ⟨r0, r1, r2, r3, rfl, Lr, HE, by go_grown⟩
end Go.Proofs.Ytjbdfmepeniglaa
