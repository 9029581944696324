/- Words and bytes: Read, Len, Short. -/
import Derived.Test.YtjbdfmepeniglabE2
import Derived.Test.YtjbdfmepeniglabW5
import Derived.Deep.OwnRows
namespace Go.Proofs.Ytjbdfmepeniglab
open Go.RowKit
set_option linter.unusedSimpArgs false
set_option linter.unusedVariables false
/-- The number of a list of digits, the lowest first. -/
def valB : List Int → Int
  | [] => 0
  | x :: r => x + 256 * valB r
/-- All digits are bytes. -/
def Byt (d : List Int) : Prop := ∀ k, 0 ≤ d.getD k 0 ∧ d.getD k 0 < 256
theorem getD_cons_zero' (x : Int) (r : List Int) : (x :: r).getD 0 0 = x := rfl
theorem getD_cons_succ' (x : Int) (r : List Int) (k : Nat) : (x :: r).getD (k + 1) 0 = r.getD k 0 := by simp [List.getD]
theorem Byt.take {d : List Int} (h : Byt d) (k : Nat) : Byt (d.take k) := fun j => by
  rcases Nat.lt_or_ge j k with g | g
  · have : (d.take k).getD j 0 = d.getD j 0 := by simp [List.getD, List.getElem?_take_of_lt g]
    rw [this]; exact h j
  · have : (d.take k).getD j 0 = 0 := by
      simp only [List.getD]
      rw [List.getElem?_eq_none (by simp; omega)]; rfl
    rw [this]; exact ⟨by decide, by decide⟩
theorem valB_bd : ∀ (d : List Int), Byt d → 0 ≤ valB d ∧ valB d < 256 ^ d.length
  | [], _ => ⟨Int.le_refl _, by decide⟩
  | x :: r, h => by
    have h0 := h 0
    rw [getD_cons_zero'] at h0
    obtain ⟨a, b⟩ := valB_bd r (fun k => by have := h (k + 1); rwa [getD_cons_succ'] at this)
    rw [valB, List.length_cons, Int.pow_succ]
    exact ⟨by omega, by omega⟩
theorem valB_take_succ : ∀ (d : List Int) (k : Nat), valB (d.take (k + 1)) = valB (d.take k) + 256 ^ k * d.getD k 0
  | [], k => by simp [valB]
  | x :: r, 0 => by simp [valB]
  | x :: r, k + 1 => by
    rw [List.take_succ_cons, List.take_succ_cons, valB, valB, valB_take_succ r k, getD_cons_succ', Int.pow_succ, Int.mul_add, Int.mul_comm (256 ^ k) 256, Int.mul_assoc]
    omega
theorem valB_take_all (d : List Int) (k : Nat) (h : d.length ≤ k) : valB (d.take k) = valB d := by rw [List.take_of_length_le h]
theorem pow8_bd (r : Nat) (h : r < 8) : (1 : Int) ≤ 2 ^ (8 * r) ∧ (2 : Int) ^ (8 * r) ≤ 72057594037927936 := by
  rcases (by omega : r = 0 ∨ r = 1 ∨ r = 2 ∨ r = 3 ∨ r = 4 ∨ r = 5 ∨ r = 6 ∨ r = 7) with rfl | rfl | rfl | rfl | rfl | rfl | rfl | rfl <;> decide
/-- A byte that is laid above what is there. -/
theorem or_add (x y : Int) (r : Nat) (hr : r < 8) (hx0 : 0 ≤ x) (hx : x < 2 ^ (8 * r)) (hy0 : 0 ≤ y) (hy : y < 256) :
    bits .or .u64 x (IntKind.u64.wrap (y * 2 ^ (8 * r))) = x + y * 2 ^ (8 * r) ∧ Limb (x + y * 2 ^ (8 * r)) := by
  have hP := pow8_bd r hr
  obtain ⟨x, rfl⟩ := Int.eq_ofNat_of_zero_le hx0
  obtain ⟨y, rfl⟩ := Int.eq_ofNat_of_zero_le hy0
  have hk : (2 : Int) ^ (8 * r) = ((2 ^ (8 * r) : Nat) : Int) := by simp
  rw [hk] at hP hx ⊢
  have hlt : x < 2 ^ (8 * r) := Int.ofNat_lt.1 hx
  have hsh : y * 2 ^ (8 * r) ||| x = y * 2 ^ (8 * r) + x := by rw [← Nat.shiftLeft_eq, ← Nat.shiftLeft_add_eq_or_of_lt hlt]
  generalize (2 ^ (8 * r) : Nat) = P at *
  have h1 : y * P ≤ 255 * 72057594037927936 := Nat.mul_le_mul (by omega) (by omega)
  have h2 : (y : Int) * (P : Int) = ((y * P : Nat) : Int) := by simp
  rw [h2]
  generalize y * P = z at *
  have h3 : IntKind.u64.wrap (z : Int) = z := by
    rw [IntKind.wrap_u64]; exact Int.emod_eq_of_lt (by omega) (by omega)
  refine ⟨?_, by omega, by omega⟩
  rw [h3, bits_or_u64_nat _ _ (by omega) (by omega), Nat.or_comm, hsh]
  simp; omega
theorem below_drew {w w' : World} (h : Below w.heap.size w w') (n : Nat) : Below w.heap.size w (w'.drewN n) := h.trans ⟨rfl, rfl, rfl, Nat.le_refl _, fun _ _ => rfl⟩
theorem set_drew (w : World) (n : Nat) (a : Addr) (v : Value) : (w.drewN n).setCell a v = (w.setCell a v).drewN n := by
  cases w; rfl
theorem set_new2 (w : World) (o : Obj) (c : Array Value) (t : TypeId) (i n : Nat) (v : Value) : (((w.alloc o).alloc (.cells c t)).drewN n).setCell ⟨w.heap.size + 1, i, none⟩ v = ((w.alloc o).alloc (.cells (c.setIfInBounds i v) t)).drewN n := by
  rw [set_drew, World.setCell_alloc_at _ _ _ _ _ (by simp)]
theorem pow256 (m : Nat) : (256 : Int) ^ m = 2 ^ (8 * m) := by rw [Int.pow_mul]; rfl
/-- A slice of bytes that lies in memory; d: its numbers, the last first. -/
def IsU (w : World) (v : Value) (d : List Int) : Prop :=
  ∃ a cap, v = .slice a d.length cap ∧ d.length ≤ cap ∧ ∀ k, k < d.length → ∃ b o, a = some ⟨b, o, none⟩ ∧ b < w.heap.size ∧ w.cell? ⟨b, o + (d.length - 1 - k), none⟩ = some (.int .u8 (d.getD k 0))
theorem IsU.below {w w' : World} {v : Value} {d : List Int} (h : IsU w v d) (hb : Below w.heap.size w w') : IsU w' v d := by
  obtain ⟨a, cap, rfl, hcap, h⟩ := h
  refine ⟨a, cap, rfl, hcap, fun k hk => ?_⟩
  obtain ⟨b, o, rfl, hlt, hc⟩ := h k hk
  exact ⟨b, o, rfl, Nat.lt_of_lt_of_le hlt hb.size, (hb.cell (p := ⟨b, o + (d.length - 1 - k), none⟩) hlt).trans hc⟩
set_option maxHeartbeats 4000000 in
/-- word.Read -/
theorem read_any (w : World) (v : Value) (d : List Int) (h : IsU w v d) (l : d.length ≤ 32) (B : Byt d) :
    Calls Try.prog 13 #[v] w fun e w' => ∃ r0 r1 r2 r3, e = .returned (.tuple #[W4 r0 r1 r2 r3, .int .i64 0]) ∧ L4 r0 r1 r2 r3 ∧ Hid (num r0 r1 r2 r3 = valB d) ∧ Below w.heap.size w w' := by
  obtain ⟨aa, ca, rfl, hca, h⟩ := h
  have HC : Hid _ := h
  have HB : Hid (Byt d) := B
  clear h B
  have hd : decide ((32 : Int) < d.length) = false := by simp; omega
  unfold W4
  go_enter Try.func13, Try.ntmps13
  go_wp2
  go_loopw [12] (fun i wr => ∃ (k : Nat) (x0 x1 x2 x3 : Int) (n : Nat), k ≤ d.length ∧ i = .int .i64 k ∧ Hid (L4 x0 x1 x2 x3) ∧ Hid (num x0 x1 x2 x3 = valB (d.take k)) ∧ wr = ((w.alloc (.cells #[.int .u64 0, .int .u64 0, .int .u64 0, .int .u64 0] 24)).alloc (.cells #[.int .u64 x0, .int .u64 x1, .int .u64 x2, .int .u64 x3] 24)).drewN n) (fun i _ => 32 - (intOf i).toNat)
  case atStart => exact ⟨0, 0, 0, 0, 0, 0, by omega, rfl, ⟨⟨by decide, by decide⟩, ⟨by decide, by decide⟩, ⟨by decide, by decide⟩, ⟨by decide, by decide⟩⟩, rfl, rfl⟩
  case round =>
    obtain ⟨k, x0, x1, x2, x3, n, hkl, rfl, hL, hN, rfl⟩ := hrel
    by_cases hkd : k < d.length
    · obtain ⟨b, o, rfl, hb, hcell⟩ := HC.out k hkd
      have hy := HB.out k
      obtain ⟨y, hyd⟩ : ∃ y, y = d.getD k 0 := ⟨_, rfl⟩
      rw [← hyd] at hy hcell
      have hlow : num x0 x1 x2 x3 < 256 ^ k := by
        rw [hN.out]
        have h1 := (valB_bd (d.take k) (HB.out.take k)).2
        rw [List.length_take, Nat.min_eq_left hkl] at h1
        exact h1
      rcases (by omega : k < 8 ∨ (8 ≤ k ∧ k < 16) ∨ (16 ≤ k ∧ k < 24) ∨ (24 ≤ k ∧ k < 32)) with h8 | ⟨h8, h8'⟩ | ⟨h8, h8'⟩ | ⟨h8, h8'⟩
      · obtain ⟨r, hr, rfl⟩ : ∃ r, r < 8 ∧ k = 0 + r := ⟨k - 0, by omega, by omega⟩
        have e1 : ((0 + r : Nat) : Int) / 8 = 0 := by omega
        have e2 : ((0 + r : Nat) : Int) % 8 = r := by omega
        have hP := pow8_bd r hr
        have hp : (256 : Int) ^ (0 + r) = 1 * 2 ^ (8 * r) := by rw [Int.pow_add, Int.pow_mul]; rfl
        have hx : 0 ≤ x0 ∧ x0 < 2 ^ (8 * r) := by
          have h1 := hlow
          rw [hp] at h1
          obtain ⟨⟨_, _⟩, ⟨_, _⟩, ⟨_, _⟩, ⟨_, _⟩⟩ := hL.out
          unfold num at h1
          omega
        obtain ⟨hor, hl4⟩ := or_add x0 y r hr hx.1 hx.2 hy.1 hy.2
        have hL2 : Hid (L4 (x0 + y * 2 ^ (8 * r)) x1 x2 x3) := ⟨hl4, hL.out.2.1, hL.out.2.2.1, hL.out.2.2.2⟩
        have hN2 : Hid (num (x0 + y * 2 ^ (8 * r)) x1 x2 x3 = valB (d.take (0 + r + 1))) := by
          show _ = _
          have := hN.out
          rw [valB_take_succ, ← hN.out, ← hyd, hp, Int.mul_assoc, Int.mul_comm (2 ^ (8 * r)) y]
          unfold num; omega
        clear hp hx hlow hl4 hN hP
        have hKl : ((0 + r : Nat) : Int) < d.length := by omega
        generalize hK : ((0 + r : Nat) : Int) = K at *
        have hc : ((w.alloc (.cells #[.int .u64 0, .int .u64 0, .int .u64 0, .int .u64 0] 24)).alloc (.cells #[.int .u64 x0, .int .u64 x1, .int .u64 x2, .int .u64 x3] 24)).cell? ⟨b, o + ((d.length : Int) - 1 - K).toNat, none⟩ = some (.int .u8 y) := by
          rw [show ((d.length : Int) - 1 - K).toNat = d.length - 1 - (0 + r) from by omega, World.cell?_alloc_past _ _ _ (by simp; omega), World.cell?_alloc_past _ _ _ hb, hcell]
        have hwy : IntKind.u64.wrap y = y := by rw [IntKind.wrap_u64]; exact Int.emod_eq_of_lt hy.1 (by omega)
        have hi0 : 0 ≤ (d.length : Int) - 1 - K := by omega
        have hi1 : (d.length : Int) - 1 - K < d.length := by omega
        have hK0 : 0 ≤ K := by omega
        have hK1 : K < 32 := by omega
        clear hcell hyd HC
        go_wp2
        go_region
        go_wp2
        exact ⟨⟨0 + r + 1, (x0 + y * 2 ^ (8 * r)), x1, x2, x3, _, by omega, by go_num, hL2, hN2, set_new2 _ _ _ _ _ _ _⟩, by simp [intOf]; omega⟩
      · obtain ⟨r, hr, rfl⟩ : ∃ r, r < 8 ∧ k = 8 + r := ⟨k - 8, by omega, by omega⟩
        have e1 : ((8 + r : Nat) : Int) / 8 = 1 := by omega
        have e2 : ((8 + r : Nat) : Int) % 8 = r := by omega
        have hP := pow8_bd r hr
        have hp : (256 : Int) ^ (8 + r) = 18446744073709551616 * 2 ^ (8 * r) := by rw [Int.pow_add, Int.pow_mul]; rfl
        have hx : 0 ≤ x1 ∧ x1 < 2 ^ (8 * r) := by
          have h1 := hlow
          rw [hp] at h1
          obtain ⟨⟨_, _⟩, ⟨_, _⟩, ⟨_, _⟩, ⟨_, _⟩⟩ := hL.out
          unfold num at h1
          omega
        obtain ⟨hor, hl4⟩ := or_add x1 y r hr hx.1 hx.2 hy.1 hy.2
        have hL2 : Hid (L4 x0 (x1 + y * 2 ^ (8 * r)) x2 x3) := ⟨hL.out.1, hl4, hL.out.2.2.1, hL.out.2.2.2⟩
        have hN2 : Hid (num x0 (x1 + y * 2 ^ (8 * r)) x2 x3 = valB (d.take (8 + r + 1))) := by
          show _ = _
          have := hN.out
          rw [valB_take_succ, ← hN.out, ← hyd, hp, Int.mul_assoc, Int.mul_comm (2 ^ (8 * r)) y]
          unfold num; omega
        clear hp hx hlow hl4 hN hP
        have hKl : ((8 + r : Nat) : Int) < d.length := by omega
        generalize hK : ((8 + r : Nat) : Int) = K at *
        have hc : ((w.alloc (.cells #[.int .u64 0, .int .u64 0, .int .u64 0, .int .u64 0] 24)).alloc (.cells #[.int .u64 x0, .int .u64 x1, .int .u64 x2, .int .u64 x3] 24)).cell? ⟨b, o + ((d.length : Int) - 1 - K).toNat, none⟩ = some (.int .u8 y) := by
          rw [show ((d.length : Int) - 1 - K).toNat = d.length - 1 - (8 + r) from by omega, World.cell?_alloc_past _ _ _ (by simp; omega), World.cell?_alloc_past _ _ _ hb, hcell]
        have hwy : IntKind.u64.wrap y = y := by rw [IntKind.wrap_u64]; exact Int.emod_eq_of_lt hy.1 (by omega)
        have hi0 : 0 ≤ (d.length : Int) - 1 - K := by omega
        have hi1 : (d.length : Int) - 1 - K < d.length := by omega
        have hK0 : 0 ≤ K := by omega
        have hK1 : K < 32 := by omega
        clear hcell hyd HC
        go_wp2
        go_region
        go_wp2
        exact ⟨⟨8 + r + 1, x0, (x1 + y * 2 ^ (8 * r)), x2, x3, _, by omega, by go_num, hL2, hN2, set_new2 _ _ _ _ _ _ _⟩, by simp [intOf]; omega⟩
      · obtain ⟨r, hr, rfl⟩ : ∃ r, r < 8 ∧ k = 16 + r := ⟨k - 16, by omega, by omega⟩
        have e1 : ((16 + r : Nat) : Int) / 8 = 2 := by omega
        have e2 : ((16 + r : Nat) : Int) % 8 = r := by omega
        have hP := pow8_bd r hr
        have hp : (256 : Int) ^ (16 + r) = 340282366920938463463374607431768211456 * 2 ^ (8 * r) := by rw [Int.pow_add, Int.pow_mul]; rfl
        have hx : 0 ≤ x2 ∧ x2 < 2 ^ (8 * r) := by
          have h1 := hlow
          rw [hp] at h1
          obtain ⟨⟨_, _⟩, ⟨_, _⟩, ⟨_, _⟩, ⟨_, _⟩⟩ := hL.out
          unfold num at h1
          omega
        obtain ⟨hor, hl4⟩ := or_add x2 y r hr hx.1 hx.2 hy.1 hy.2
        have hL2 : Hid (L4 x0 x1 (x2 + y * 2 ^ (8 * r)) x3) := ⟨hL.out.1, hL.out.2.1, hl4, hL.out.2.2.2⟩
        have hN2 : Hid (num x0 x1 (x2 + y * 2 ^ (8 * r)) x3 = valB (d.take (16 + r + 1))) := by
          show _ = _
          have := hN.out
          rw [valB_take_succ, ← hN.out, ← hyd, hp, Int.mul_assoc, Int.mul_comm (2 ^ (8 * r)) y]
          unfold num; omega
        clear hp hx hlow hl4 hN hP
        have hKl : ((16 + r : Nat) : Int) < d.length := by omega
        generalize hK : ((16 + r : Nat) : Int) = K at *
        have hc : ((w.alloc (.cells #[.int .u64 0, .int .u64 0, .int .u64 0, .int .u64 0] 24)).alloc (.cells #[.int .u64 x0, .int .u64 x1, .int .u64 x2, .int .u64 x3] 24)).cell? ⟨b, o + ((d.length : Int) - 1 - K).toNat, none⟩ = some (.int .u8 y) := by
          rw [show ((d.length : Int) - 1 - K).toNat = d.length - 1 - (16 + r) from by omega, World.cell?_alloc_past _ _ _ (by simp; omega), World.cell?_alloc_past _ _ _ hb, hcell]
        have hwy : IntKind.u64.wrap y = y := by rw [IntKind.wrap_u64]; exact Int.emod_eq_of_lt hy.1 (by omega)
        have hi0 : 0 ≤ (d.length : Int) - 1 - K := by omega
        have hi1 : (d.length : Int) - 1 - K < d.length := by omega
        have hK0 : 0 ≤ K := by omega
        have hK1 : K < 32 := by omega
        clear hcell hyd HC
        go_wp2
        go_region
        go_wp2
        exact ⟨⟨16 + r + 1, x0, x1, (x2 + y * 2 ^ (8 * r)), x3, _, by omega, by go_num, hL2, hN2, set_new2 _ _ _ _ _ _ _⟩, by simp [intOf]; omega⟩
      · obtain ⟨r, hr, rfl⟩ : ∃ r, r < 8 ∧ k = 24 + r := ⟨k - 24, by omega, by omega⟩
        have e1 : ((24 + r : Nat) : Int) / 8 = 3 := by omega
        have e2 : ((24 + r : Nat) : Int) % 8 = r := by omega
        have hP := pow8_bd r hr
        have hp : (256 : Int) ^ (24 + r) = 6277101735386680763835789423207666416102355444464034512896 * 2 ^ (8 * r) := by rw [Int.pow_add, Int.pow_mul]; rfl
        have hx : 0 ≤ x3 ∧ x3 < 2 ^ (8 * r) := by
          have h1 := hlow
          rw [hp] at h1
          obtain ⟨⟨_, _⟩, ⟨_, _⟩, ⟨_, _⟩, ⟨_, _⟩⟩ := hL.out
          unfold num at h1
          omega
        obtain ⟨hor, hl4⟩ := or_add x3 y r hr hx.1 hx.2 hy.1 hy.2
        have hL2 : Hid (L4 x0 x1 x2 (x3 + y * 2 ^ (8 * r))) := ⟨hL.out.1, hL.out.2.1, hL.out.2.2.1, hl4⟩
        have hN2 : Hid (num x0 x1 x2 (x3 + y * 2 ^ (8 * r)) = valB (d.take (24 + r + 1))) := by
          show _ = _
          have := hN.out
          rw [valB_take_succ, ← hN.out, ← hyd, hp, Int.mul_assoc, Int.mul_comm (2 ^ (8 * r)) y]
          unfold num; omega
        clear hp hx hlow hl4 hN hP
        have hKl : ((24 + r : Nat) : Int) < d.length := by omega
        generalize hK : ((24 + r : Nat) : Int) = K at *
        have hc : ((w.alloc (.cells #[.int .u64 0, .int .u64 0, .int .u64 0, .int .u64 0] 24)).alloc (.cells #[.int .u64 x0, .int .u64 x1, .int .u64 x2, .int .u64 x3] 24)).cell? ⟨b, o + ((d.length : Int) - 1 - K).toNat, none⟩ = some (.int .u8 y) := by
          rw [show ((d.length : Int) - 1 - K).toNat = d.length - 1 - (24 + r) from by omega, World.cell?_alloc_past _ _ _ (by simp; omega), World.cell?_alloc_past _ _ _ hb, hcell]
        have hwy : IntKind.u64.wrap y = y := by rw [IntKind.wrap_u64]; exact Int.emod_eq_of_lt hy.1 (by omega)
        have hi0 : 0 ≤ (d.length : Int) - 1 - K := by omega
        have hi1 : (d.length : Int) - 1 - K < d.length := by omega
        have hK0 : 0 ≤ K := by omega
        have hK1 : K < 32 := by omega
        clear hcell hyd HC
        go_wp2
        go_region
        go_wp2
        exact ⟨⟨24 + r + 1, x0, x1, x2, (x3 + y * 2 ^ (8 * r)), _, by omega, by go_num, hL2, hN2, set_new2 _ _ _ _ _ _ _⟩, by simp [intOf]; omega⟩
    · have HE : Hid (num x0 x1 x2 x3 = valB d) := by
        show _ = _
        rw [hN.out, valB_take_all d k (by omega)]
      have HL : Hid (L4 x0 x1 x2 x3) := hL
      have hBW : Below w.heap.size w (((w.alloc (.cells #[.int .u64 0, .int .u64 0, .int .u64 0, .int .u64 0] 24)).alloc (.cells #[.int .u64 x0, .int .u64 x1, .int .u64 x2, .int .u64 x3] 24)).drewN n) := below_drew (by go_grown) n
      have hkl : k = d.length := by omega
      subst hkl
      clear hN hL
      go_wp2
      go_returns
      exact ⟨x0, x1, x2, x3, rfl, HL.out, HE, by go_grown⟩
theorem two_pow_le {j k : Nat} (h : j ≤ k) : (2 : Int) ^ j ≤ 2 ^ k := by
  have := Nat.pow_le_pow_right (n := 2) (by decide) h
  have e : ∀ k : Nat, (2 : Int) ^ k = ((2 ^ k : Nat) : Int) := fun k => by simp
  rw [e, e]; omega
/-- How many bytes a number has. -/
def lenN (n : Int) (l : Nat) : Prop := n < 256 ^ l ∧ (l = 0 ∨ 256 ^ (l - 1) ≤ n)
theorem lenN_bits {n : Int} {k : Nat} (h : n < 2 ^ k ∧ (k = 0 ∨ 2 ^ (k - 1) ≤ n)) : lenN n ((k + 7) / 8) := by
  obtain ⟨h1, h2⟩ := h
  refine ⟨?_, ?_⟩
  · rw [pow256]; exact Int.lt_of_lt_of_le h1 (two_pow_le (by omega))
  · rcases h2 with h | h
    · left; omega
    · rcases Nat.eq_zero_or_pos ((k + 7) / 8) with g | g
      · exact Or.inl g
      · right
        rw [pow256]; exact Int.le_trans (two_pow_le (by omega)) h
theorem Int.pow_le_pow_of_le_right' {m n : Nat} (h : m ≤ n) : (256 : Int) ^ m ≤ 256 ^ n := by
  have := Nat.pow_le_pow_right (n := 256) (by decide) h
  have e : ∀ k : Nat, (256 : Int) ^ k = ((256 ^ k : Nat) : Int) := fun k => by simp
  rw [e, e]; omega
theorem pow_lt_of {a b : Nat} (h : (256 : Int) ^ a < 256 ^ b) : a < b := by
  rcases Nat.lt_or_ge a b with g | g
  · exact g
  · have := Int.pow_le_pow_of_le_right' g; omega
theorem lenN_eq {n : Int} {a b : Nat} (h0 : 0 ≤ n) (ha : lenN n a) (hb : lenN n b) : a = b := by
  obtain ⟨a1, a2⟩ := ha
  obtain ⟨b1, b2⟩ := hb
  have key : ∀ x y : Nat, n < 256 ^ y → (x = 0 ∨ 256 ^ (x - 1) ≤ n) → x ≤ y := fun x y h1 h2 => by
    rcases h2 with h | h
    · omega
    · have := pow_lt_of (Int.lt_of_le_of_lt h h1); omega
  have h1 := key a b b1 a2
  have h2 := key b a a1 b2
  omega
theorem lenN_ex (X : Int) (h0 : 0 ≤ X) : ∀ m : Nat, X < 256 ^ m → ∃ l, l ≤ m ∧ lenN X l
  | 0, h => ⟨0, Nat.le_refl _, h, Or.inl rfl⟩
  | m + 1, h => by
    by_cases g : X < 256 ^ m
    · obtain ⟨l, h1, h2⟩ := lenN_ex X h0 m g
      exact ⟨l, by omega, h2⟩
    · exact ⟨m + 1, Nat.le_refl _, h, Or.inr (by rw [Nat.add_sub_cancel]; omega)⟩
set_option maxHeartbeats 1000000 in
/-- word.Len -/
theorem len_any (a0 a1 a2 a3 : Int) (ha : L4 a0 a1 a2 a3) (w : World) :
    Calls Try.prog 28 #[W4 a0 a1 a2 a3] w fun e w' => ∃ l : Nat, e = .returned (.int .i64 l) ∧ l ≤ 32 ∧ Hid (lenN (num a0 a1 a2 a3) l) ∧ Below w.heap.size w w' := by
  have HA : Hid _ := ha
  clear ha
  unfold W4
  go_enter Try.func28, Try.ntmps28
  go_wp2_with fail
  refine (bitLen_any a0 a1 a2 a3 HA.out _).mono ?_
  rintro e w1 ⟨n, rfl, hn, HN, hw⟩
  have hB : Below w.heap.size w w1 := Below.trans (by go_grown) (hw.mono (by simp))
  clear hw
  have HL : Hid _ := lenN_bits HN.out
  clear HN
  go_wp2
  go_ret
  exact ⟨(n + 7) / 8, by first | go_num | (simp; done) | (simp; omega), by omega, HL, by go_grown⟩
/-- The byte number j of n, the highest first, laid up to k from the lowest on. -/
def laidN (X : Int) (n k : Nat) (j : Nat) : Value := .int .u8 (if n - 1 - j < k then X / 256 ^ (n - 1 - j) % 256 else 0)
theorem laidN_step {w : World} {c : Nat} {X : Int} {n k : Nat} (h : w.rowIs c 5 n (laidN X n k)) (hk : k < n) : (w.setCell ⟨c, n - 1 - k, none⟩ (.int .u8 (X / 256 ^ k % 256))).rowIs c 5 n (laidN X n (k + 1)) :=
  World.rowIs.congr (World.rowIs.set h (n - 1 - k) (.int .u8 (X / 256 ^ k % 256))) (fun i hi => by
    by_cases e : i = n - 1 - k
    · rw [if_pos e]; unfold laidN; rw [if_pos (by omega), show n - 1 - i = k from by omega]
    · rw [if_neg e]; unfold laidN
      by_cases h : n - 1 - i < k
      · rw [if_pos h, if_pos (by omega)]
      · rw [if_neg h, if_neg (by omega)])
theorem blk_far {w : World} {b c : Nat} {x0 x1 x2 x3 : Int} (h : Blk w b x0 x1 x2 x3) (e : c ≠ b) (o : Nat) (v : Value) : Blk (w.setCell ⟨c, o, none⟩ v) b x0 x1 x2 x3 := by
  obtain ⟨hz, c0, c1, c2, c3, f⟩ := h
  refine ⟨by rw [size_set]; exact hz, ?_, ?_, ?_, ?_, fun k => frozen_set (f k)⟩
  all_goals (rw [World.cell?_setCell_far _ _ _ _ (by simpa using e)]; assumption)
theorem Blk.onto {w : World} {b : Nat} {x0 x1 x2 x3 : Int} (h : Blk w b x0 x1 x2 x3) (o : Obj) : Blk (w.alloc o) b x0 x1 x2 x3 := by
  obtain ⟨hz, c0, c1, c2, c3, f⟩ := h
  refine ⟨by simp; omega, ?_, ?_, ?_, ?_, fun k => ?_⟩
  · rw [World.cell?_alloc_past _ _ _ hz]; exact c0
  · rw [World.cell?_alloc_past _ _ _ hz]; exact c1
  · rw [World.cell?_alloc_past _ _ _ hz]; exact c2
  · rw [World.cell?_alloc_past _ _ _ hz]; exact c3
  · rw [World.frozen?_alloc_past _ _ _ hz]; exact f k
theorem Try.info5 : (Try.prog.info? 5).map (fun i => (i.zero, i.size, i.bytes)) = some (some (.int .u8 0), 1, 1) := by kernel_rfl
set_option maxHeartbeats 4000000 in
/-- word.Short -/
theorem short_any (a0 a1 a2 a3 : Int) (ha : L4 a0 a1 a2 a3) (w : World) :
    Calls Try.prog 14 #[W4 a0 a1 a2 a3] w fun e w' => ∃ l : Nat, l ≤ 32 ∧ Hid (lenN (num a0 a1 a2 a3) l) ∧ ∃ b, e = .returned (.slice (some ⟨b, 0, none⟩) l l) ∧ w.heap.size ≤ b ∧ w'.rowIs b 5 l (fun j => .int .u8 (num a0 a1 a2 a3 / 256 ^ (l - 1 - j) % 256)) ∧ Below w.heap.size w w' := by
  have HA : Hid _ := ha
  clear ha
  have hmk0 : ∀ (l : Nat), l ≤ 32 → ∀ w : World, (Instr.makeSlice 31 (.int .i64 l) (.int .i64 l)).run Try.prog w = .ok (.slice (some ⟨w.heap.size, 0, none⟩) l l) (w.alloc (.cells (madeCells #[.int .u8 0] l) 5)) := fun l hl => run_make_row' (P := Try.prog) 31 5 (.int .u8 0) 1 Try.underlying31 Try.info5 rfl .i64 .i64 l (by omega) (by omega)
  unfold W4
  go_enter Try.func14, Try.ntmps14
  go_wp2_with fail
  have KW : Hid (Blk (w.alloc (.cells #[.int .u64 a0, .int .u64 a1, .int .u64 a2, .int .u64 a3] 24)) w.heap.size a0 a1 a2 a3) := by refine ⟨by simp, ?_, ?_, ?_, ?_, fun k => ?_⟩ <;> simp [go_sem]
  have hB : Below w.heap.size w (w.alloc (.cells #[.int .u64 a0, .int .u64 a1, .int .u64 a2, .int .u64 a3] 24)) := by go_grown
  generalize (w.alloc (.cells #[.int .u64 a0, .int .u64 a1, .int .u64 a2, .int .u64 a3] 24)) = w0 at *
  refine (len_any a0 a1 a2 a3 HA.out _).mono ?_
  rintro e w1 ⟨l, rfl, hl, HL, hw⟩
  have KW : Hid _ := Blk.below KW.out hw
  have hB : Below w.heap.size w w1 := hB.trans (hw.mono hB.size)
  clear hw
  have hmk := hmk0 l hl
  clear hmk0
  go_wp2
  have hz1 : w.heap.size < w1.heap.size := KW.out.1
  have KW : Hid (Blk (w1.alloc (.cells (madeCells #[.int .u8 0] l) 5)) w.heap.size a0 a1 a2 a3) := Blk.onto KW.out _
  have hrow : (w1.alloc (.cells (madeCells #[.int .u8 0] l) 5)).rowIs w1.heap.size 5 l (laidN (num a0 a1 a2 a3) l 0) := World.rowIs.congr (World.rowIs_made w1 (.int .u8 0) l 5) (fun i hi => by unfold laidN; rw [if_neg (by omega)])
  have hB : Below w.heap.size w (w1.alloc (.cells (madeCells #[.int .u8 0] l) 5)) := hB.alloc hB.size _
  clear hmk
  have hcw : w.heap.size ≤ w1.heap.size := by omega
  have hne : w1.heap.size ≠ w.heap.size := by omega
  clear hz1
  generalize w1.heap.size = c at *
  generalize (w1.alloc (.cells (madeCells #[.int .u8 0] l) 5)) = w2 at *
  go_loopw [11] (fun i wr => ∃ (k : Nat), k ≤ l ∧ i = .int .i64 k ∧ wr.rowIs c 5 l (laidN (num a0 a1 a2 a3) l k) ∧ Hid (Blk wr w.heap.size a0 a1 a2 a3) ∧ Below w.heap.size w wr) (fun i _ => 32 - (intOf i).toNat)
  case atStart => exact ⟨0, by omega, rfl, hrow, KW, hB⟩
  case round =>
    clear hrow KW hB
    obtain ⟨k, hk, rfl, hrow, KW, hB⟩ := hrel
    by_cases hlt : k < l
    · have HLB : Hid _ := lowByte_any a0 a1 a2 a3 (k : Int) HA.out (by omega) (by omega)
      have hlow : lowN (num a0 a1 a2 a3) (k : Int) = num a0 a1 a2 a3 / 256 ^ k % 256 := by unfold lowN; rw [pow256, show (8 * (k : Int)).toNat = 8 * k from by omega]
      have hx : 0 ≤ num a0 a1 a2 a3 / 256 ^ k % 256 ∧ num a0 a1 a2 a3 / 256 ^ k % 256 < 256 := by omega
      rw [hlow] at HLB
      have hrow2 : Hid (∀ o, ((wr.setCell ⟨c, l - 1 - k, none⟩ (.int .u8 (num a0 a1 a2 a3 / 256 ^ k % 256))).alloc o).rowIs c 5 l (laidN (num a0 a1 a2 a3) l (k + 1))) := fun o => World.rowIs.alloc (laidN_step hrow hlt) o
      have hcl := World.rowIs.lt hrow
      have hc2 : ∀ o, (wr.alloc o).cell? ⟨c, l - 1 - k, none⟩ = some (laidN (num a0 a1 a2 a3) l k (l - 1 - k)) := fun o => World.rowIs.cell (World.rowIs.alloc hrow o) (by omega)
      have hfz : ∀ o, (wr.alloc o).frozen? ⟨c, l - 1 - k, none⟩ = false := fun o => World.rowIs.frozen (World.rowIs.alloc hrow o) _
      obtain ⟨old, hold⟩ : ∃ old, laidN (num a0 a1 a2 a3) l k (l - 1 - k) = .int .u8 old := ⟨_, rfl⟩
      rw [hold] at hc2
      have e31 : ((l : Int) - 1 - (k : Int)).toNat = l - 1 - k := by omega
      generalize num a0 a1 a2 a3 / 256 ^ k % 256 = x at *
      obtain ⟨hx0, hx1⟩ := hx
      clear hlow hold hrow
      obtain ⟨zW, W0_, W1_, W2_, W3_, fW⟩ := KW.out
      
      go_wp2_with fail
      refine Calls.mono (HLB.out _) ?_
      rintro e w3 ⟨rfl, cc, rfl⟩
      have hc3 := hc2 (.cells cc 24)
      have hfz3 := hfz (.cells cc 24)
      clear hc2 hfz
      go_wp2
      exact ⟨⟨k + 1, by omega, by go_num, hrow2.out _, Blk.onto (blk_far KW.out hne _ _) _, by go_grown⟩, by simp [intOf]; omega⟩
    · have hkl : k = l := by omega
      have hrow3 : Hid (wr.rowIs c 5 l (fun j => .int .u8 (num a0 a1 a2 a3 / 256 ^ (l - 1 - j) % 256))) := World.rowIs.congr hrow (fun i hi => by
        unfold laidN; rw [if_pos (by omega)])
      clear hrow hkl
      have hd' : decide ((k : Int) < (l : Int)) = false := by simp; omega
      go_wp2
      go_ret
      exact ⟨l, hl, HL, c, rfl, hcw, hrow3.out, hB⟩

end Go.Proofs.Ytjbdfmepeniglab
