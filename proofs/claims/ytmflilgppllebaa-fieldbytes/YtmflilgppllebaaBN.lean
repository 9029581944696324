/- The number of bytes, the lowest first: field.number. -/
import Derived.Test.YtmflilgppllebaaR4
namespace Go.Proofs.Ytmflilgppllebaa
open Go.RowKit
set_option linter.unusedSimpArgs false
set_option linter.unusedVariables false
/-- A slice of bytes that lies in memory; d: its numbers, the first first. -/
def IsD (w : World) (v : Value) (d : List Int) : Prop :=
  ∃ a cap, v = .slice a d.length cap ∧ d.length ≤ cap ∧ ∀ k, k < d.length → ∃ b o, a = some ⟨b, o, none⟩ ∧ b < w.heap.size ∧ w.cell? ⟨b, o + k, none⟩ = some (.int .u8 (d.getD k 0))
theorem IsD.below {w w' : World} {v : Value} {d : List Int} (h : IsD w v d) (hb : Below w.heap.size w w') : IsD w' v d := by
  obtain ⟨a, cap, rfl, hcap, h⟩ := h
  refine ⟨a, cap, rfl, hcap, fun k hk => ?_⟩
  obtain ⟨b, o, rfl, hlt, hc⟩ := h k hk
  exact ⟨b, o, rfl, Nat.lt_of_lt_of_le hlt hb.size, (hb.cell (p := ⟨b, o + k, none⟩) hlt).trans hc⟩
set_option maxHeartbeats 4000000 in
/-- field.number -/
theorem number_any (w : World) (v : Value) (d : List Int) (h : IsD w v d) (l : d.length ≤ 32) (B : Byt d) :
    Calls Try.prog 62 #[v] w fun e w' => ∃ r0 r1 r2 r3, e = .returned (W4 r0 r1 r2 r3) ∧ L4 r0 r1 r2 r3 ∧ Hid (num r0 r1 r2 r3 = valB d) ∧ Below w.heap.size w w' := by
  obtain ⟨aa, ca, rfl, hca, h⟩ := h
  have HC : Hid _ := h
  have HB : Hid (Byt d) := B
  clear h B
  unfold W4
  go_enter Try.func62, Try.ntmps62
  go_wp2
  go_loopw [7] (fun i wr => ∃ (k : Nat) (x0 x1 x2 x3 : Int) (n : Nat), k ≤ d.length ∧ i = .int .i64 k ∧ Hid (L4 x0 x1 x2 x3) ∧ Hid (num x0 x1 x2 x3 = valB (d.take k)) ∧ wr = ((w.alloc (.cells #[.int .u64 0, .int .u64 0, .int .u64 0, .int .u64 0] 24)).alloc (.cells #[.int .u64 x0, .int .u64 x1, .int .u64 x2, .int .u64 x3] 24)).drewN n) (fun i _ => 32 - (intOf i).toNat)
  case atStart => exact ⟨0, 0, 0, 0, 0, 0, by omega, rfl, ⟨⟨by decide, by decide⟩, ⟨by decide, by decide⟩, ⟨by decide, by decide⟩, ⟨by decide, by decide⟩⟩, rfl, rfl⟩
  case round =>
    obtain ⟨k, x0, x1, x2, x3, n, hkl, rfl, hL, hN, rfl⟩ := hrel
    by_cases hkd : k < d.length
    · obtain ⟨b, o, rfl, hb, hcell⟩ := HC.out k hkd
      have hy := HB.out k
      obtain ⟨y, hyd⟩ : ∃ y, y = d.getD k 0 := ⟨_, rfl⟩
      rw [← hyd] at hy hcell
      have hlow : num x0 x1 x2 x3 < 256 ^ k := by
        rw [hN.out]
        have h1 := (valB_bd (d.take k) (HB.out.take k)).2
        rw [List.length_take, Nat.min_eq_left hkl] at h1
        exact h1
      rcases (by omega : k < 8 ∨ (8 ≤ k ∧ k < 16) ∨ (16 ≤ k ∧ k < 24) ∨ (24 ≤ k ∧ k < 32)) with h8 | ⟨h8, h8'⟩ | ⟨h8, h8'⟩ | ⟨h8, h8'⟩
      · obtain ⟨r, hr, rfl⟩ : ∃ r, r < 8 ∧ k = 0 + r := ⟨k - 0, by omega, by omega⟩
        have e1 : ((0 + r : Nat) : Int) / 8 = 0 := by omega
        have e2 : ((0 + r : Nat) : Int) % 8 = r := by omega
        have hP := pow8_bd r hr
        have hp : (256 : Int) ^ (0 + r) = 1 * 2 ^ (8 * r) := by rw [Int.pow_add, Int.pow_mul]; rfl
        have hx : 0 ≤ x0 ∧ x0 < 2 ^ (8 * r) := by
          have h1 := hlow
          rw [hp] at h1
          obtain ⟨⟨_, _⟩, ⟨_, _⟩, ⟨_, _⟩, ⟨_, _⟩⟩ := hL.out
          unfold num at h1
          omega
        obtain ⟨hor, hl4⟩ := or_add x0 y r hr hx.1 hx.2 hy.1 hy.2
        have hL2 : Hid (L4 (x0 + y * 2 ^ (8 * r)) x1 x2 x3) := ⟨hl4, hL.out.2.1, hL.out.2.2.1, hL.out.2.2.2⟩
        have hN2 : Hid (num (x0 + y * 2 ^ (8 * r)) x1 x2 x3 = valB (d.take (0 + r + 1))) := by
          show _ = _
          have := hN.out
          rw [valB_take_succ, ← hN.out, ← hyd, hp, Int.mul_assoc, Int.mul_comm (2 ^ (8 * r)) y]
          unfold num; omega
        clear hp hx hlow hl4 hN hP
        have hKl : ((0 + r : Nat) : Int) < d.length := by omega
        generalize hK : ((0 + r : Nat) : Int) = K at *
        have hc : ((w.alloc (.cells #[.int .u64 0, .int .u64 0, .int .u64 0, .int .u64 0] 24)).alloc (.cells #[.int .u64 x0, .int .u64 x1, .int .u64 x2, .int .u64 x3] 24)).cell? ⟨b, o + K.toNat, none⟩ = some (.int .u8 y) := by
          rw [show K.toNat = 0 + r from by omega, World.cell?_alloc_past _ _ _ (by simp; omega), World.cell?_alloc_past _ _ _ hb, hcell]
        have hwy : IntKind.u64.wrap y = y := by rw [IntKind.wrap_u64]; exact Int.emod_eq_of_lt hy.1 (by omega)
        have hK0 : 0 ≤ K := by omega
        have hK1 : K < 32 := by omega
        clear hcell hyd HC
        go_wp2
        go_region
        go_wp2
        exact ⟨⟨0 + r + 1, (x0 + y * 2 ^ (8 * r)), x1, x2, x3, _, by omega, by go_num, hL2, hN2, set_new2 _ _ _ _ _ _ _⟩, by simp [intOf]; omega⟩
      · obtain ⟨r, hr, rfl⟩ : ∃ r, r < 8 ∧ k = 8 + r := ⟨k - 8, by omega, by omega⟩
        have e1 : ((8 + r : Nat) : Int) / 8 = 1 := by omega
        have e2 : ((8 + r : Nat) : Int) % 8 = r := by omega
        have hP := pow8_bd r hr
        have hp : (256 : Int) ^ (8 + r) = 18446744073709551616 * 2 ^ (8 * r) := by rw [Int.pow_add, Int.pow_mul]; rfl
        have hx : 0 ≤ x1 ∧ x1 < 2 ^ (8 * r) := by
          have h1 := hlow
          rw [hp] at h1
          obtain ⟨⟨_, _⟩, ⟨_, _⟩, ⟨_, _⟩, ⟨_, _⟩⟩ := hL.out
          unfold num at h1
          omega
        obtain ⟨hor, hl4⟩ := or_add x1 y r hr hx.1 hx.2 hy.1 hy.2
        have hL2 : Hid (L4 x0 (x1 + y * 2 ^ (8 * r)) x2 x3) := ⟨hL.out.1, hl4, hL.out.2.2.1, hL.out.2.2.2⟩
        have hN2 : Hid (num x0 (x1 + y * 2 ^ (8 * r)) x2 x3 = valB (d.take (8 + r + 1))) := by
          show _ = _
          have := hN.out
          rw [valB_take_succ, ← hN.out, ← hyd, hp, Int.mul_assoc, Int.mul_comm (2 ^ (8 * r)) y]
          unfold num; omega
        clear hp hx hlow hl4 hN hP
        have hKl : ((8 + r : Nat) : Int) < d.length := by omega
        generalize hK : ((8 + r : Nat) : Int) = K at *
        have hc : ((w.alloc (.cells #[.int .u64 0, .int .u64 0, .int .u64 0, .int .u64 0] 24)).alloc (.cells #[.int .u64 x0, .int .u64 x1, .int .u64 x2, .int .u64 x3] 24)).cell? ⟨b, o + K.toNat, none⟩ = some (.int .u8 y) := by
          rw [show K.toNat = 8 + r from by omega, World.cell?_alloc_past _ _ _ (by simp; omega), World.cell?_alloc_past _ _ _ hb, hcell]
        have hwy : IntKind.u64.wrap y = y := by rw [IntKind.wrap_u64]; exact Int.emod_eq_of_lt hy.1 (by omega)
        have hK0 : 0 ≤ K := by omega
        have hK1 : K < 32 := by omega
        clear hcell hyd HC
        go_wp2
        go_region
        go_wp2
        exact ⟨⟨8 + r + 1, x0, (x1 + y * 2 ^ (8 * r)), x2, x3, _, by omega, by go_num, hL2, hN2, set_new2 _ _ _ _ _ _ _⟩, by simp [intOf]; omega⟩
      · obtain ⟨r, hr, rfl⟩ : ∃ r, r < 8 ∧ k = 16 + r := ⟨k - 16, by omega, by omega⟩
        have e1 : ((16 + r : Nat) : Int) / 8 = 2 := by omega
        have e2 : ((16 + r : Nat) : Int) % 8 = r := by omega
        have hP := pow8_bd r hr
        have hp : (256 : Int) ^ (16 + r) = 340282366920938463463374607431768211456 * 2 ^ (8 * r) := by rw [Int.pow_add, Int.pow_mul]; rfl
        have hx : 0 ≤ x2 ∧ x2 < 2 ^ (8 * r) := by
          have h1 := hlow
          rw [hp] at h1
          obtain ⟨⟨_, _⟩, ⟨_, _⟩, ⟨_, _⟩, ⟨_, _⟩⟩ := hL.out
          unfold num at h1
          omega
        obtain ⟨hor, hl4⟩ := or_add x2 y r hr hx.1 hx.2 hy.1 hy.2
        have hL2 : Hid (L4 x0 x1 (x2 + y * 2 ^ (8 * r)) x3) := ⟨hL.out.1, hL.out.2.1, hl4, hL.out.2.2.2⟩
        have hN2 : Hid (num x0 x1 (x2 + y * 2 ^ (8 * r)) x3 = valB (d.take (16 + r + 1))) := by
          show _ = _
          have := hN.out
          rw [valB_take_succ, ← hN.out, ← hyd, hp, Int.mul_assoc, Int.mul_comm (2 ^ (8 * r)) y]
          unfold num; omega
        clear hp hx hlow hl4 hN hP
        have hKl : ((16 + r : Nat) : Int) < d.length := by omega
        generalize hK : ((16 + r : Nat) : Int) = K at *
        have hc : ((w.alloc (.cells #[.int .u64 0, .int .u64 0, .int .u64 0, .int .u64 0] 24)).alloc (.cells #[.int .u64 x0, .int .u64 x1, .int .u64 x2, .int .u64 x3] 24)).cell? ⟨b, o + K.toNat, none⟩ = some (.int .u8 y) := by
          rw [show K.toNat = 16 + r from by omega, World.cell?_alloc_past _ _ _ (by simp; omega), World.cell?_alloc_past _ _ _ hb, hcell]
        have hwy : IntKind.u64.wrap y = y := by rw [IntKind.wrap_u64]; exact Int.emod_eq_of_lt hy.1 (by omega)
        have hK0 : 0 ≤ K := by omega
        have hK1 : K < 32 := by omega
        clear hcell hyd HC
        go_wp2
        go_region
        go_wp2
        exact ⟨⟨16 + r + 1, x0, x1, (x2 + y * 2 ^ (8 * r)), x3, _, by omega, by go_num, hL2, hN2, set_new2 _ _ _ _ _ _ _⟩, by simp [intOf]; omega⟩
      · obtain ⟨r, hr, rfl⟩ : ∃ r, r < 8 ∧ k = 24 + r := ⟨k - 24, by omega, by omega⟩
        have e1 : ((24 + r : Nat) : Int) / 8 = 3 := by omega
        have e2 : ((24 + r : Nat) : Int) % 8 = r := by omega
        have hP := pow8_bd r hr
        have hp : (256 : Int) ^ (24 + r) = 6277101735386680763835789423207666416102355444464034512896 * 2 ^ (8 * r) := by rw [Int.pow_add, Int.pow_mul]; rfl
        have hx : 0 ≤ x3 ∧ x3 < 2 ^ (8 * r) := by
          have h1 := hlow
          rw [hp] at h1
          obtain ⟨⟨_, _⟩, ⟨_, _⟩, ⟨_, _⟩, ⟨_, _⟩⟩ := hL.out
          unfold num at h1
          omega
        obtain ⟨hor, hl4⟩ := or_add x3 y r hr hx.1 hx.2 hy.1 hy.2
        have hL2 : Hid (L4 x0 x1 x2 (x3 + y * 2 ^ (8 * r))) := ⟨hL.out.1, hL.out.2.1, hL.out.2.2.1, hl4⟩
        have hN2 : Hid (num x0 x1 x2 (x3 + y * 2 ^ (8 * r)) = valB (d.take (24 + r + 1))) := by
          show _ = _
          have := hN.out
          rw [valB_take_succ, ← hN.out, ← hyd, hp, Int.mul_assoc, Int.mul_comm (2 ^ (8 * r)) y]
          unfold num; omega
        clear hp hx hlow hl4 hN hP
        have hKl : ((24 + r : Nat) : Int) < d.length := by omega
        generalize hK : ((24 + r : Nat) : Int) = K at *
        have hc : ((w.alloc (.cells #[.int .u64 0, .int .u64 0, .int .u64 0, .int .u64 0] 24)).alloc (.cells #[.int .u64 x0, .int .u64 x1, .int .u64 x2, .int .u64 x3] 24)).cell? ⟨b, o + K.toNat, none⟩ = some (.int .u8 y) := by
          rw [show K.toNat = 24 + r from by omega, World.cell?_alloc_past _ _ _ (by simp; omega), World.cell?_alloc_past _ _ _ hb, hcell]
        have hwy : IntKind.u64.wrap y = y := by rw [IntKind.wrap_u64]; exact Int.emod_eq_of_lt hy.1 (by omega)
        have hK0 : 0 ≤ K := by omega
        have hK1 : K < 32 := by omega
        clear hcell hyd HC
        go_wp2
        go_region
        go_wp2
        exact ⟨⟨24 + r + 1, x0, x1, x2, (x3 + y * 2 ^ (8 * r)), _, by omega, by go_num, hL2, hN2, set_new2 _ _ _ _ _ _ _⟩, by simp [intOf]; omega⟩
    · have HE : Hid (num x0 x1 x2 x3 = valB d) := by
        show _ = _
        rw [hN.out, valB_take_all d k (by omega)]
      have HL : Hid (L4 x0 x1 x2 x3) := hL
      have hBW : Below w.heap.size w (((w.alloc (.cells #[.int .u64 0, .int .u64 0, .int .u64 0, .int .u64 0] 24)).alloc (.cells #[.int .u64 x0, .int .u64 x1, .int .u64 x2, .int .u64 x3] 24)).drewN n) := below_drew (by go_grown) n
      have hkl : k = d.length := by omega
      subst hkl
      clear hN hL
      go_wp2
      go_returns
      exact ⟨x0, x1, x2, x3, rfl, HL.out, HE, by go_grown⟩
end Go.Proofs.Ytmflilgppllebaa
