/- WdY1, WdY2, laid into one text. -/
import Derived.Test.YtmnlcpfehbpogaaM4
import Derived.Laws.AppendOwnNone
/- Walks over package word: which bytes are words. -/
namespace Go.Proofs.Ytmnlcpfehbpogaa.Wd
open Go.RowKit
set_option linter.unusedSimpArgs false
set_option linter.unusedVariables false
/-- A slice of bytes that lies in memory; d: its numbers, the last first. -/
def IsU (w : World) (v : Value) (d : List Int) : Prop :=
  ∃ a cap, v = .slice a d.length cap ∧ d.length ≤ cap ∧ ∀ k, k < d.length → ∃ b o, a = some ⟨b, o, none⟩ ∧ b < w.heap.size ∧ w.cell? ⟨b, o + (d.length - 1 - k), none⟩ = some (.int .u8 (d.getD k 0))
theorem IsU.below {w w' : World} {v : Value} {d : List Int} (h : IsU w v d) (hb : Below w.heap.size w w') : IsU w' v d := by
  obtain ⟨a, cap, rfl, hcap, h⟩ := h
  refine ⟨a, cap, rfl, hcap, fun k hk => ?_⟩
  obtain ⟨b, o, rfl, hlt, hc⟩ := h k hk
  exact ⟨b, o, rfl, Nat.lt_of_lt_of_le hlt hb.size, (hb.cell (p := ⟨b, o + (d.length - 1 - k), none⟩) hlt).trans hc⟩
set_option maxHeartbeats 1000000 in
theorem read_big (a : Option Addr) (l c : Nat) (hl : 32 < l) (hm : l ≤ 9223372036854775807) (w : World) :
    Calls Try.prog 57 #[.slice a l c] w fun e w' => e = .returned (.tuple #[W4 0 0 0 0, .int .i64 3]) ∧ Below w.heap.size w w' := by
  have hd : decide ((32 : Int) < l) = true := by simp; omega
  unfold W4
  go_enter Try.func57, Try.ntmps57
  go_wp2
  go_returns
  exact ⟨rfl, by go_grown⟩
set_option maxHeartbeats 4000000 in
/-- word.Read -/
theorem read_any (w : World) (v : Value) (d : List Int) (h : IsU w v d) (l : d.length ≤ 32) (B : Byt d) :
    Calls Try.prog 57 #[v] w fun e w' => ∃ r0 r1 r2 r3, e = .returned (.tuple #[W4 r0 r1 r2 r3, .int .i64 0]) ∧ L4 r0 r1 r2 r3 ∧ Hid (num r0 r1 r2 r3 = valB d) ∧ Below w.heap.size w w' := by
  obtain ⟨aa, ca, rfl, hca, h⟩ := h
  have HC : Hid _ := h
  have HB : Hid (Byt d) := B
  clear h B
  have hd : decide ((32 : Int) < d.length) = false := by simp; omega
  unfold W4
  go_enter Try.func57, Try.ntmps57
  go_wp2
  go_loopw [12] (fun i wr => ∃ (k : Nat) (x0 x1 x2 x3 : Int) (n : Nat), k ≤ d.length ∧ i = .int .i64 k ∧ Hid (L4 x0 x1 x2 x3) ∧ Hid (num x0 x1 x2 x3 = valB (d.take k)) ∧ wr = ((w.alloc (.cells #[.int .u64 0, .int .u64 0, .int .u64 0, .int .u64 0] 50)).alloc (.cells #[.int .u64 x0, .int .u64 x1, .int .u64 x2, .int .u64 x3] 50)).drewN n) (fun i _ => 32 - (intOf i).toNat)
  case atStart => exact ⟨0, 0, 0, 0, 0, 0, by omega, rfl, ⟨⟨by decide, by decide⟩, ⟨by decide, by decide⟩, ⟨by decide, by decide⟩, ⟨by decide, by decide⟩⟩, rfl, rfl⟩
  case round =>
    obtain ⟨k, x0, x1, x2, x3, n, hkl, rfl, hL, hN, rfl⟩ := hrel
    by_cases hkd : k < d.length
    · obtain ⟨b, o, rfl, hb, hcell⟩ := HC.out k hkd
      have hy := HB.out k
      obtain ⟨y, hyd⟩ : ∃ y, y = d.getD k 0 := ⟨_, rfl⟩
      rw [← hyd] at hy hcell
      have hlow : num x0 x1 x2 x3 < 256 ^ k := by
        rw [hN.out]
        have h1 := (valB_bd (d.take k) (HB.out.take k)).2
        rw [List.length_take, Nat.min_eq_left hkl] at h1
        exact h1
      rcases (by omega : k < 8 ∨ (8 ≤ k ∧ k < 16) ∨ (16 ≤ k ∧ k < 24) ∨ (24 ≤ k ∧ k < 32)) with h8 | ⟨h8, h8'⟩ | ⟨h8, h8'⟩ | ⟨h8, h8'⟩
      · obtain ⟨r, hr, rfl⟩ : ∃ r, r < 8 ∧ k = 0 + r := ⟨k - 0, by omega, by omega⟩
        have e1 : ((0 + r : Nat) : Int) / 8 = 0 := by omega
        have e2 : ((0 + r : Nat) : Int) % 8 = r := by omega
        have hP := pow8_bd r hr
        have hp : (256 : Int) ^ (0 + r) = 1 * 2 ^ (8 * r) := by rw [Int.pow_add, Int.pow_mul]; rfl
        have hx : 0 ≤ x0 ∧ x0 < 2 ^ (8 * r) := by
          have h1 := hlow
          rw [hp] at h1
          obtain ⟨⟨_, _⟩, ⟨_, _⟩, ⟨_, _⟩, ⟨_, _⟩⟩ := hL.out
          unfold num at h1
          omega
        obtain ⟨hor, hl4⟩ := or_add x0 y r hr hx.1 hx.2 hy.1 hy.2
        have hL2 : Hid (L4 (x0 + y * 2 ^ (8 * r)) x1 x2 x3) := ⟨hl4, hL.out.2.1, hL.out.2.2.1, hL.out.2.2.2⟩
        have hN2 : Hid (num (x0 + y * 2 ^ (8 * r)) x1 x2 x3 = valB (d.take (0 + r + 1))) := by
          show _ = _
          have := hN.out
          rw [valB_take_succ, ← hN.out, ← hyd, hp, Int.mul_assoc, Int.mul_comm (2 ^ (8 * r)) y]
          unfold num; omega
        clear hp hx hlow hl4 hN hP
        have hKl : ((0 + r : Nat) : Int) < d.length := by omega
        generalize hK : ((0 + r : Nat) : Int) = K at *
        have hc : ((w.alloc (.cells #[.int .u64 0, .int .u64 0, .int .u64 0, .int .u64 0] 50)).alloc (.cells #[.int .u64 x0, .int .u64 x1, .int .u64 x2, .int .u64 x3] 50)).cell? ⟨b, o + ((d.length : Int) - 1 - K).toNat, none⟩ = some (.int .u8 y) := by
          rw [show ((d.length : Int) - 1 - K).toNat = d.length - 1 - (0 + r) from by omega, World.cell?_alloc_past _ _ _ (by simp; omega), World.cell?_alloc_past _ _ _ hb, hcell]
        have hwy : IntKind.u64.wrap y = y := by rw [IntKind.wrap_u64]; exact Int.emod_eq_of_lt hy.1 (by omega)
        have hi0 : 0 ≤ (d.length : Int) - 1 - K := by omega
        have hi1 : (d.length : Int) - 1 - K < d.length := by omega
        have hK0 : 0 ≤ K := by omega
        have hK1 : K < 32 := by omega
        clear hcell hyd HC
        go_wp2
        go_region
        go_wp2
        exact ⟨⟨0 + r + 1, (x0 + y * 2 ^ (8 * r)), x1, x2, x3, _, by omega, by go_num, hL2, hN2, set_new2 _ _ _ _ _ _ _⟩, by simp [intOf]; omega⟩
      · obtain ⟨r, hr, rfl⟩ : ∃ r, r < 8 ∧ k = 8 + r := ⟨k - 8, by omega, by omega⟩
        have e1 : ((8 + r : Nat) : Int) / 8 = 1 := by omega
        have e2 : ((8 + r : Nat) : Int) % 8 = r := by omega
        have hP := pow8_bd r hr
        have hp : (256 : Int) ^ (8 + r) = 18446744073709551616 * 2 ^ (8 * r) := by rw [Int.pow_add, Int.pow_mul]; rfl
        have hx : 0 ≤ x1 ∧ x1 < 2 ^ (8 * r) := by
          have h1 := hlow
          rw [hp] at h1
          obtain ⟨⟨_, _⟩, ⟨_, _⟩, ⟨_, _⟩, ⟨_, _⟩⟩ := hL.out
          unfold num at h1
          omega
        obtain ⟨hor, hl4⟩ := or_add x1 y r hr hx.1 hx.2 hy.1 hy.2
        have hL2 : Hid (L4 x0 (x1 + y * 2 ^ (8 * r)) x2 x3) := ⟨hL.out.1, hl4, hL.out.2.2.1, hL.out.2.2.2⟩
        have hN2 : Hid (num x0 (x1 + y * 2 ^ (8 * r)) x2 x3 = valB (d.take (8 + r + 1))) := by
          show _ = _
          have := hN.out
          rw [valB_take_succ, ← hN.out, ← hyd, hp, Int.mul_assoc, Int.mul_comm (2 ^ (8 * r)) y]
          unfold num; omega
        clear hp hx hlow hl4 hN hP
        have hKl : ((8 + r : Nat) : Int) < d.length := by omega
        generalize hK : ((8 + r : Nat) : Int) = K at *
        have hc : ((w.alloc (.cells #[.int .u64 0, .int .u64 0, .int .u64 0, .int .u64 0] 50)).alloc (.cells #[.int .u64 x0, .int .u64 x1, .int .u64 x2, .int .u64 x3] 50)).cell? ⟨b, o + ((d.length : Int) - 1 - K).toNat, none⟩ = some (.int .u8 y) := by
          rw [show ((d.length : Int) - 1 - K).toNat = d.length - 1 - (8 + r) from by omega, World.cell?_alloc_past _ _ _ (by simp; omega), World.cell?_alloc_past _ _ _ hb, hcell]
        have hwy : IntKind.u64.wrap y = y := by rw [IntKind.wrap_u64]; exact Int.emod_eq_of_lt hy.1 (by omega)
        have hi0 : 0 ≤ (d.length : Int) - 1 - K := by omega
        have hi1 : (d.length : Int) - 1 - K < d.length := by omega
        have hK0 : 0 ≤ K := by omega
        have hK1 : K < 32 := by omega
        clear hcell hyd HC
        go_wp2
        go_region
        go_wp2
        exact ⟨⟨8 + r + 1, x0, (x1 + y * 2 ^ (8 * r)), x2, x3, _, by omega, by go_num, hL2, hN2, set_new2 _ _ _ _ _ _ _⟩, by simp [intOf]; omega⟩
      · obtain ⟨r, hr, rfl⟩ : ∃ r, r < 8 ∧ k = 16 + r := ⟨k - 16, by omega, by omega⟩
        have e1 : ((16 + r : Nat) : Int) / 8 = 2 := by omega
        have e2 : ((16 + r : Nat) : Int) % 8 = r := by omega
        have hP := pow8_bd r hr
        have hp : (256 : Int) ^ (16 + r) = 340282366920938463463374607431768211456 * 2 ^ (8 * r) := by rw [Int.pow_add, Int.pow_mul]; rfl
        have hx : 0 ≤ x2 ∧ x2 < 2 ^ (8 * r) := by
          have h1 := hlow
          rw [hp] at h1
          obtain ⟨⟨_, _⟩, ⟨_, _⟩, ⟨_, _⟩, ⟨_, _⟩⟩ := hL.out
          unfold num at h1
          omega
        obtain ⟨hor, hl4⟩ := or_add x2 y r hr hx.1 hx.2 hy.1 hy.2
        have hL2 : Hid (L4 x0 x1 (x2 + y * 2 ^ (8 * r)) x3) := ⟨hL.out.1, hL.out.2.1, hl4, hL.out.2.2.2⟩
        have hN2 : Hid (num x0 x1 (x2 + y * 2 ^ (8 * r)) x3 = valB (d.take (16 + r + 1))) := by
          show _ = _
          have := hN.out
          rw [valB_take_succ, ← hN.out, ← hyd, hp, Int.mul_assoc, Int.mul_comm (2 ^ (8 * r)) y]
          unfold num; omega
        clear hp hx hlow hl4 hN hP
        have hKl : ((16 + r : Nat) : Int) < d.length := by omega
        generalize hK : ((16 + r : Nat) : Int) = K at *
        have hc : ((w.alloc (.cells #[.int .u64 0, .int .u64 0, .int .u64 0, .int .u64 0] 50)).alloc (.cells #[.int .u64 x0, .int .u64 x1, .int .u64 x2, .int .u64 x3] 50)).cell? ⟨b, o + ((d.length : Int) - 1 - K).toNat, none⟩ = some (.int .u8 y) := by
          rw [show ((d.length : Int) - 1 - K).toNat = d.length - 1 - (16 + r) from by omega, World.cell?_alloc_past _ _ _ (by simp; omega), World.cell?_alloc_past _ _ _ hb, hcell]
        have hwy : IntKind.u64.wrap y = y := by rw [IntKind.wrap_u64]; exact Int.emod_eq_of_lt hy.1 (by omega)
        have hi0 : 0 ≤ (d.length : Int) - 1 - K := by omega
        have hi1 : (d.length : Int) - 1 - K < d.length := by omega
        have hK0 : 0 ≤ K := by omega
        have hK1 : K < 32 := by omega
        clear hcell hyd HC
        go_wp2
        go_region
        go_wp2
        exact ⟨⟨16 + r + 1, x0, x1, (x2 + y * 2 ^ (8 * r)), x3, _, by omega, by go_num, hL2, hN2, set_new2 _ _ _ _ _ _ _⟩, by simp [intOf]; omega⟩
      · obtain ⟨r, hr, rfl⟩ : ∃ r, r < 8 ∧ k = 24 + r := ⟨k - 24, by omega, by omega⟩
        have e1 : ((24 + r : Nat) : Int) / 8 = 3 := by omega
        have e2 : ((24 + r : Nat) : Int) % 8 = r := by omega
        have hP := pow8_bd r hr
        have hp : (256 : Int) ^ (24 + r) = 6277101735386680763835789423207666416102355444464034512896 * 2 ^ (8 * r) := by rw [Int.pow_add, Int.pow_mul]; rfl
        have hx : 0 ≤ x3 ∧ x3 < 2 ^ (8 * r) := by
          have h1 := hlow
          rw [hp] at h1
          obtain ⟨⟨_, _⟩, ⟨_, _⟩, ⟨_, _⟩, ⟨_, _⟩⟩ := hL.out
          unfold num at h1
          omega
        obtain ⟨hor, hl4⟩ := or_add x3 y r hr hx.1 hx.2 hy.1 hy.2
        have hL2 : Hid (L4 x0 x1 x2 (x3 + y * 2 ^ (8 * r))) := ⟨hL.out.1, hL.out.2.1, hL.out.2.2.1, hl4⟩
        have hN2 : Hid (num x0 x1 x2 (x3 + y * 2 ^ (8 * r)) = valB (d.take (24 + r + 1))) := by
          show _ = _
          have := hN.out
          rw [valB_take_succ, ← hN.out, ← hyd, hp, Int.mul_assoc, Int.mul_comm (2 ^ (8 * r)) y]
          unfold num; omega
        clear hp hx hlow hl4 hN hP
        have hKl : ((24 + r : Nat) : Int) < d.length := by omega
        generalize hK : ((24 + r : Nat) : Int) = K at *
        have hc : ((w.alloc (.cells #[.int .u64 0, .int .u64 0, .int .u64 0, .int .u64 0] 50)).alloc (.cells #[.int .u64 x0, .int .u64 x1, .int .u64 x2, .int .u64 x3] 50)).cell? ⟨b, o + ((d.length : Int) - 1 - K).toNat, none⟩ = some (.int .u8 y) := by
          rw [show ((d.length : Int) - 1 - K).toNat = d.length - 1 - (24 + r) from by omega, World.cell?_alloc_past _ _ _ (by simp; omega), World.cell?_alloc_past _ _ _ hb, hcell]
        have hwy : IntKind.u64.wrap y = y := by rw [IntKind.wrap_u64]; exact Int.emod_eq_of_lt hy.1 (by omega)
        have hi0 : 0 ≤ (d.length : Int) - 1 - K := by omega
        have hi1 : (d.length : Int) - 1 - K < d.length := by omega
        have hK0 : 0 ≤ K := by omega
        have hK1 : K < 32 := by omega
        clear hcell hyd HC
        go_wp2
        go_region
        go_wp2
        exact ⟨⟨24 + r + 1, x0, x1, x2, (x3 + y * 2 ^ (8 * r)), _, by omega, by go_num, hL2, hN2, set_new2 _ _ _ _ _ _ _⟩, by simp [intOf]; omega⟩
    · have HE : Hid (num x0 x1 x2 x3 = valB d) := by
        show _ = _
        rw [hN.out, valB_take_all d k (by omega)]
      have HL : Hid (L4 x0 x1 x2 x3) := hL
      have hBW : Below w.heap.size w (((w.alloc (.cells #[.int .u64 0, .int .u64 0, .int .u64 0, .int .u64 0] 50)).alloc (.cells #[.int .u64 x0, .int .u64 x1, .int .u64 x2, .int .u64 x3] 50)).drewN n) := below_drew (by go_grown) n
      have hkl : k = d.length := by omega
      subst hkl
      clear hN hL
      go_wp2
      go_returns
      exact ⟨x0, x1, x2, x3, rfl, HL.out, HE, by go_grown⟩
end Go.Proofs.Ytmnlcpfehbpogaa.Wd
/- Walks over the document's own answers: which bytes are words. -/
namespace Go.Proofs.Ytmnlcpfehbpogaa.Wd
open Go.RowKit
set_option linter.unusedSimpArgs false
set_option linter.unusedVariables false
set_option maxHeartbeats 1000000 in
theorem trim_nil (w : World) :
    Calls Try.prog 59 #[.slice none 0 0] w fun e w' => ∃ (v' : Value), e = .returned v' ∧ IsN w' v' [] ∧ Below w.heap.size w w' := by
  obtain ⟨i0, hi, hz0, hz1, hz2⟩ := info_parts Try.info3
  have HI : Hid _ := hi
  clear hi
  go_enter Try.func59, Try.ntmps59
  go_wp2
  refine wp_loop_rounds 1 ?_
  rw [rounds_succ]
  go_wp2_with (first | (at_builtin; go_must (refine wpList_append_own_none rfl _ _ 93 rfl w.heap.size 3 i0 1 Try.underlying93 HI.out _ _ _ rfl (World.ownsRow_made w #[] 0 (Nat.le_refl _) (by decide) rfl) rfl ?_)))
  go_ret
  exact ⟨_, rfl, ⟨_, 0, rfl, Nat.le_refl _, fun h => absurd h (by simp)⟩, by go_grown⟩
set_option maxHeartbeats 1000000 in
theorem readref_big (a : Option Addr) (l c : Nat) (hl : 32 < l) (hm : l ≤ 9223372036854775807) (w : World) :
    Calls Try.prog 41 #[.slice a l c] w fun e w' => e = .returned (.tuple #[W4 0 0 0 0, .int .i64 3]) ∧ Below w.heap.size w w' := by
  have hd : decide ((32 : Int) < l) = true := by simp; omega
  unfold W4
  go_enter Try.func41, Try.ntmps41
  go_wp2
  go_returns
  exact ⟨rfl, by go_grown⟩
theorem take_app (d : List Int) (k : Nat) (h : k < d.length) : d.take k ++ [d.getD k 0] = d.take (k + 1) := by
  rw [List.take_succ_eq_append_getElem h]; simp [List.getD, List.getElem?_eq_getElem h]
set_option maxHeartbeats 4000000 in
/-- conclaveref01.Read -/
theorem readref_any (w : World) (v : Value) (d : List Int) (h : IsU w v d) (l : d.length ≤ 32) (B : Byt d) :
    Calls Try.prog 41 #[v] w fun e w' => ∃ r0 r1 r2 r3, e = .returned (.tuple #[W4 r0 r1 r2 r3, .int .i64 0]) ∧ L4 r0 r1 r2 r3 ∧ Hid (num r0 r1 r2 r3 = valB d) ∧ Below w.heap.size w w' := by
  obtain ⟨aa, ca, rfl, hca, h⟩ := h
  have HC : Hid _ := h
  have HB : Hid (Byt d) := B
  clear h B
  obtain ⟨i0, hi, hz0, hz1, hz2⟩ := info_parts Try.info3
  have HI : Hid _ := hi
  clear hi
  have hd : decide ((32 : Int) < d.length) = false := by simp; omega
  unfold W4
  go_enter Try.func41, Try.ntmps41
  go_wp2
  have KR : Hid (Blk (w.alloc (.cells #[.int .u64 0, .int .u64 0, .int .u64 0, .int .u64 0] 50)) w.heap.size 0 0 0 0) := by refine ⟨by simp, ?_, ?_, ?_, ?_, fun k => ?_⟩ <;> simp [go_sem]
  have hA : Below w.heap.size w (w.alloc (.cells #[.int .u64 0, .int .u64 0, .int .u64 0, .int .u64 0] 50)) := by go_grown
  have hsA : (w.alloc (.cells #[.int .u64 0, .int .u64 0, .int .u64 0, .int .u64 0] 50)).heap.size = w.heap.size + 1 := by simp
  generalize (w.alloc (.cells #[.int .u64 0, .int .u64 0, .int .u64 0, .int .u64 0] 50)) = w0 at *
  go_loopw [4, 5] (fun s i wr => ∃ (k : Nat), k ≤ d.length ∧ i = .int .i64 ((d.length : Int) - 1 - k) ∧ wr.ownsRow (w.heap.size + 1) 3 1 s k ((d.take k).map (Value.int .i64)) ∧ (k = 0 → s = .slice none 0 0) ∧ Below (w.heap.size + 1) w0 wr) (fun _ i _ => (intOf i + 1).toNat)
  case atStart => exact ⟨0, by omega, by simp, World.ownsRow_nil _ _ _ _, fun _ => rfl, Below.refl _ _⟩
  case round =>
    obtain ⟨k, hk, rfl, hown, hnil, hbw⟩ := hrel
    have hsz : w.heap.size + 1 ≤ wr.heap.size := by have := hbw.size; omega
    by_cases hlt : k < d.length
    · obtain ⟨b, o, rfl, hb, hcell⟩ := HC.out k hlt
      have hx := HB.out k
      have hc1 := (hbw.cell (p := ⟨b, o + (d.length - 1 - k), none⟩) (by show b < _; omega)).trans ((hA.cell (p := ⟨b, o + (d.length - 1 - k), none⟩) hb).trans hcell)
      have happ := take_app d k hlt
      have HO : Hid _ := hown
      clear hown hcell hnil
      generalize d.getD k 0 = x at *
      obtain ⟨hx0, hx1⟩ := hx
      have hiK : ((d.length : Int) - 1 - k).toNat = d.length - 1 - k := by omega
      rw [← hiK] at hc1
      have hi0 : 0 ≤ (d.length : Int) - 1 - k := by omega
      have hi1 : (d.length : Int) - 1 - k < d.length := by omega
      clear hiK
      generalize hI : (d.length : Int) - 1 - k = I at *
      have hIm : I < 32 := by omega
      have hwx : IntKind.i64.wrap x = x := by rw [IntKind.wrap_i64]; omega
      go_wp2_with (first | (at_builtin; go_must (refine wpList_append_own _ rfl _ _ 93 rfl (w.heap.size + 1) 3 i0 (.int .i64 0) 1 8 Try.underlying93 HI.out hz0 hz1 hz2 rfl (by decide) _ _ _ rfl (World.ownsRow.alloc HO.out _) ⟨wr.heap.size, 0, none⟩ 1 1 [.int .i64 x] rfl rfl ?c1 ?c2 ?c3 ?c4 ?c5 ?_)))
      any_goals (first
        | (intro q u hq; exact one_cell hq)
        | (intro u hu; simp at hu; subst hu; rfl)
        | (unfold maxLen; omega)
        | omega
        | (simp; omega))
      intro v' w1 hown' hg hnn
      have HO2 : Hid _ := hown'
      have HG : Hid _ := hg
      clear hown' hg hnn
      go_wp2
      refine ⟨⟨k + 1, by omega, by first | (simp [← hI]; omega) | go_num, ?_, fun h => absurd h (by omega), ?_⟩, ?_⟩
      · rw [← happ, List.map_append, List.map_take]; exact HO2.out
      · exact of_grown hbw HG.out (fun g hg => (World.ownsRow.lt HO.out g hg).1) hsz
      · simp [intOf]; omega
    · have hkl : k = d.length := by omega
      subst hkl
      have KR : Hid (Blk wr w.heap.size 0 0 0 0) := by
        obtain ⟨hz, c0, c1, c2, c3, f⟩ := KR.out
        exact ⟨by omega, (hbw.cell (p := ⟨_, 0, none⟩) (by simp)).trans c0, (hbw.cell (p := ⟨_, 1, none⟩) (by simp)).trans c1, (hbw.cell (p := ⟨_, 2, none⟩) (by simp)).trans c2, (hbw.cell (p := ⟨_, 3, none⟩) (by simp)).trans c3, fun k => (hbw.frozen (p := ⟨_, k, none⟩) (by simp)).trans (f k)⟩
      have HO : Hid _ := hown
      rw [List.take_length] at hown
      have hB : Below w.heap.size w wr := hA.trans (hbw.mono (by omega))
      have HT : Hid (Calls Try.prog 59 #[u4] wr fun e w' => ∃ (v' : Value) (d' : List Int), e = .returned v' ∧ IsN w' v' d' ∧ Hid (St 32 d' (valB d)) ∧ Below wr.heap.size wr w') := by
        rcases Nat.eq_zero_or_pos d.length with h0 | h0
        · rw [hnil h0]
          have e : d = [] := List.eq_nil_of_length_eq_zero h0
          exact (trim_nil wr).mono fun e' w' ⟨v', he, hN, hw⟩ => ⟨v', [], he, hN, ⟨byt_nil, by simp, by rw [e]⟩, hw⟩
        · exact (trim_any wr u4 d (IsN.of_owns hown) h0 (by omega) HB.out).mono fun e' w' ⟨v', d', he, hN, hB', hl', hV, hw⟩ => ⟨v', d', he, hN, ⟨hB', by omega, hV.out⟩, hw⟩
      clear hown HO hnil
      have e1 : (d.length : Int) - 1 - d.length = -1 := by omega
      rw [e1]
      go_wp2_with fail
      refine Calls.mono HT.out ?_
      rintro e w2 ⟨v2, d2, rfl, N2, P2, hw2⟩
      have KR : Hid _ := Blk.below KR.out hw2
      have hB : Below w.heap.size w w2 := hB.trans (hw2.mono hB.size)
      clear hw2
      go_wp2_with fail
      refine (word_st _ _ _ _ (by decide) N2 P2).mono ?_
      rintro e w3 ⟨r0, r1, r2, r3, rfl, Lr, Er, hw3⟩
      have KR : Hid _ := Blk.below KR.out hw3
      have hB : Below w.heap.size w w3 := hB.trans (hw3.mono hB.size)
      clear hw3
      have HE : Hid (num r0 r1 r2 r3 = valB d) := by
        show _ = _
        have h1 := valB_bd d HB.out
        have h2 : (256 : Int) ^ d.length ≤ 256 ^ 32 := Int.pow_le_pow_of_le_right' l
        have e : (256 : Int) ^ 32 = T256 := by decide
        rw [Er.out, Int.emod_eq_of_lt h1.1 (by omega)]
      clear Er
      obtain ⟨zR, R0_, R1_, R2_, R3_, fR⟩ := KR.out
      unfold W4
      go_wp2
      refine bodyPost_ret (v := .tuple #[W4 r0 r1 r2 r3, .int .i64 0]) (by simp [results, Try.results41, go_sem, R0_, R1_, R2_, R3_, zR]) rfl ?_
      exact ⟨r0, r1, r2, r3, rfl, Lr, HE, by go_grown⟩
end Go.Proofs.Ytmnlcpfehbpogaa.Wd
