/- Walks over the document's own numbers: which of two signed words is more. -/
import Derived.Test.YtjbdfmepeniglaaR1
import Derived.Test.YtjbdfmepeniglaaR4
import Derived.Test.YtjbdfmepeniglaaO2
namespace Go.Proofs.Ytjbdfmepeniglaa
open Go.RowKit
set_option linter.unusedSimpArgs false
set_option linter.unusedVariables false
set_option maxHeartbeats 4000000 in
theorem scmpref_any (a0 a1 a2 a3 b0 b1 b2 b3 : Int) (ha : L4 a0 a1 a2 a3) (hb : L4 b0 b1 b2 b3) (w : World) :
    Calls Try.prog 58 #[W4 a0 a1 a2 a3, W4 b0 b1 b2 b3] w fun e w' => e = .returned (.int .i64 (cmpN ((num a0 a1 a2 a3 + T255) % T256) ((num b0 b1 b2 b3 + T255) % T256))) ∧ Below w.heap.size w w' := by
  have HA : Hid _ := ha
  have HB : Hid _ := hb
  clear ha hb
  unfold W4
  go_enter Try.func58, Try.ntmps58
  have e255 : (2 : Int) ^ 255 = T255 := by decide
  go_wp2_with fail
  have hB0 : Below w.heap.size w ((w.alloc (.cells #[.int .u64 a0, .int .u64 a1, .int .u64 a2, .int .u64 a3] 24)).alloc (.cells #[.int .u64 b0, .int .u64 b1, .int .u64 b2, .int .u64 b3] 24)) := by go_grown
  have hs0 : w.heap.size + 1 < ((w.alloc (.cells #[.int .u64 a0, .int .u64 a1, .int .u64 a2, .int .u64 a3] 24)).alloc (.cells #[.int .u64 b0, .int .u64 b1, .int .u64 b2, .int .u64 b3] 24)).heap.size := by simp
  have c0 : ((w.alloc (.cells #[.int .u64 a0, .int .u64 a1, .int .u64 a2, .int .u64 a3] 24)).alloc (.cells #[.int .u64 b0, .int .u64 b1, .int .u64 b2, .int .u64 b3] 24)).cell? ⟨w.heap.size + 1, 0, none⟩ = some (.int .u64 b0) := by simp [go_sem]
  have c1 : ((w.alloc (.cells #[.int .u64 a0, .int .u64 a1, .int .u64 a2, .int .u64 a3] 24)).alloc (.cells #[.int .u64 b0, .int .u64 b1, .int .u64 b2, .int .u64 b3] 24)).cell? ⟨w.heap.size + 1, 1, none⟩ = some (.int .u64 b1) := by simp [go_sem]
  have c2 : ((w.alloc (.cells #[.int .u64 a0, .int .u64 a1, .int .u64 a2, .int .u64 a3] 24)).alloc (.cells #[.int .u64 b0, .int .u64 b1, .int .u64 b2, .int .u64 b3] 24)).cell? ⟨w.heap.size + 1, 2, none⟩ = some (.int .u64 b2) := by simp [go_sem]
  have c3 : ((w.alloc (.cells #[.int .u64 a0, .int .u64 a1, .int .u64 a2, .int .u64 a3] 24)).alloc (.cells #[.int .u64 b0, .int .u64 b1, .int .u64 b2, .int .u64 b3] 24)).cell? ⟨w.heap.size + 1, 3, none⟩ = some (.int .u64 b3) := by simp [go_sem]
  generalize ((w.alloc (.cells #[.int .u64 a0, .int .u64 a1, .int .u64 a2, .int .u64 a3] 24)).alloc (.cells #[.int .u64 b0, .int .u64 b1, .int .u64 b2, .int .u64 b3] 24)) = w0 at *
  refine (of_ref a0 a1 a2 a3 HA.out _).mono ?_
  rintro e w1 ⟨v1, d1, rfl, N1, B1, l1, E1, hw1⟩
  have hB1 : Below w0.heap.size w0 w1 := hw1
  have hs1 := hB1.size
  clear hw1
  go_wp2_with fail
  refine (power_any 255 (by decide) _).mono ?_
  rintro e w2 ⟨v2, d2, rfl, N2, B2, l2, E2, hw2⟩
  have hB2 : Below w0.heap.size w0 w2 := hB1.trans (hw2.mono (by omega))
  have hs2 := hB2.size
  have N1 := N1.below hw2
  clear hw2 hB1
  go_wp2_with fail
  refine (plus_any _ v1 v2 d1 d2 N1 N2 (by omega) (by omega) B1 B2).mono ?_
  rintro e w3 ⟨x, dx, rfl, Nx, Bx, lx, Ex, hw3⟩
  have hB3 : Below w0.heap.size w0 w3 := hB2.trans (hw3.mono (by omega))
  have hs3 := hB3.size
  have Ex : Hid (valB dx = num a0 a1 a2 a3 + T255) := by
    show _ = _
    rw [Ex.out, E1.out, E2.out, e255]
  clear N1 hB2 hs2 hs1
  have c0 := (hB3.cell (p := ⟨w.heap.size + 1, 0, none⟩) hs0).trans c0
  have c1 := (hB3.cell (p := ⟨w.heap.size + 1, 1, none⟩) hs0).trans c1
  have c2 := (hB3.cell (p := ⟨w.heap.size + 1, 2, none⟩) hs0).trans c2
  have c3 := (hB3.cell (p := ⟨w.heap.size + 1, 3, none⟩) hs0).trans c3
  go_wp2_with fail
  refine (of_ref b0 b1 b2 b3 HB.out _).mono ?_
  rintro e w4 ⟨v4, d4, rfl, N4, B4, l4, E4, hw4⟩
  have hB4 : Below w0.heap.size w0 w4 := hB3.trans (hw4.mono (by omega))
  have hs4 := hB4.size
  have Nx := Nx.below hw4
  clear hw4 hB3
  go_wp2_with fail
  refine (power_any 255 (by decide) _).mono ?_
  rintro e w5 ⟨v5, d5, rfl, N5, B5, l5, E5, hw5⟩
  have hB5 : Below w0.heap.size w0 w5 := hB4.trans (hw5.mono (by omega))
  have hs5 := hB5.size
  have Nx := Nx.below hw5
  have N4 := N4.below hw5
  clear hw5 hB4
  go_wp2_with fail
  refine (plus_any _ v4 v5 d4 d5 N4 N5 (by omega) (by omega) B4 B5).mono ?_
  rintro e w6 ⟨y, dy, rfl, Ny, By, ly, Ey, hw6⟩
  have hB6 : Below w0.heap.size w0 w6 := hB5.trans (hw6.mono (by omega))
  have hs6 := hB6.size
  have Nx := Nx.below hw6
  have Ey : Hid (valB dy = num b0 b1 b2 b3 + T255) := by
    show _ = _
    rw [Ey.out, E4.out, E5.out, e255]
  clear hw6 hB5
  go_wp2_with fail
  refine (wordref_any _ x dx Nx (by omega) Bx).mono ?_
  rintro e w7 ⟨p0, p1, p2, p3, rfl, Lp, Ep, hw7⟩
  have hB7 : Below w0.heap.size w0 w7 := hB6.trans (hw7.mono (by omega))
  have hs7 := hB7.size
  have Ny := Ny.below hw7
  clear hw7 hB6
  go_wp2_with fail
  refine (of_ref p0 p1 p2 p3 Lp _).mono ?_
  rintro e w8 ⟨v8, d8, rfl, N8, B8, l8, E8, hw8⟩
  have hB8 : Below w0.heap.size w0 w8 := hB7.trans (hw8.mono (by omega))
  have hs8 := hB8.size
  have Ny := Ny.below hw8
  clear hw8 hB7
  go_wp2_with fail
  refine (wordref_any _ y dy Ny (by omega) By).mono ?_
  rintro e w9 ⟨q0, q1, q2, q3, rfl, Lq, Eq, hw9⟩
  have hB9 : Below w0.heap.size w0 w9 := hB8.trans (hw9.mono (by omega))
  have hs9 := hB9.size
  have N8 := N8.below hw9
  clear hw9 hB8
  go_wp2_with fail
  refine (of_ref q0 q1 q2 q3 Lq _).mono ?_
  rintro e wa ⟨va, da, rfl, Na, Ba, la, Ea, hwa⟩
  have hBa : Below w0.heap.size w0 wa := hB9.trans (hwa.mono (by omega))
  have hsa := hBa.size
  have N8 := N8.below hwa
  clear hwa hB9
  go_wp2_with fail
  refine (cmpref_any _ v8 va d8 da N8 Na (by omega) (by omega) B8 Ba).mono ?_
  rintro e wb ⟨rfl, rfl⟩
  have hE : Hid (cmpN (valB d8) (valB da) = cmpN ((num a0 a1 a2 a3 + T255) % T256) ((num b0 b1 b2 b3 + T255) % T256)) := by
    show _ = _
    rw [E8.out, Ea.out, Ep.out, Eq.out, Ex.out, Ey.out]
  clear E8 Ea Ep Eq Ex Ey
  go_wp2
  go_ret
  exact ⟨congrArg (fun z => Ending.returned (.int .i64 z)) hE.out, hB0.trans (hBa.mono (by omega))⟩
end Go.Proofs.Ytjbdfmepeniglaa
