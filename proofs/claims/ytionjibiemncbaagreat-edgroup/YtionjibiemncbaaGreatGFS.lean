/- R0, R2, R3, R4, BN, FS -/
import Derived.Test.YtionjibiemncbaaGreatGShH1
import Derived.Deep.OwnRows
import Derived.Laws.IdiomStrings
set_option linter.unusedSimpArgs false
set_option linter.unusedVariables false
namespace Go.Proofs.YtionjibiemncbaaGreat
open Go.RowKit
def IsN (w : World) (v : Value) (d : List Int) : Prop :=
  ∃ a cap, v = .slice a d.length cap ∧ d.length ≤ cap ∧ (0 < d.length → ∃ b o, a = some ⟨b, o, none⟩ ∧ b < w.heap.size ∧ ∀ k, k < d.length → w.cell? ⟨b, o + k, none⟩ = some (.int .i64 (d.getD k 0)))
def valB : List Int → Int
  | [] => 0
  | x :: r => x + 256 * valB r
def Byt (d : List Int) : Prop := ∀ k, 0 ≤ d.getD k 0 ∧ d.getD k 0 < 256
theorem getD_cons_zero' (x : Int) (r : List Int) : (x :: r).getD 0 0 = x := rfl
theorem getD_cons_succ' (x : Int) (r : List Int) (k : Nat) : (x :: r).getD (k + 1) 0 = r.getD k 0 := by simp [List.getD]
theorem Byt.take {d : List Int} (h : Byt d) (k : Nat) : Byt (d.take k) := fun j => by
  rcases Nat.lt_or_ge j k with g | g
  · have : (d.take k).getD j 0 = d.getD j 0 := by simp [List.getD, List.getElem?_take_of_lt g]
    rw [this]; exact h j
  · have : (d.take k).getD j 0 = 0 := by
      simp only [List.getD]
      rw [List.getElem?_eq_none (by simp; omega)]; rfl
    rw [this]; exact ⟨by decide, by decide⟩
theorem IsN.below {w w' : World} {v : Value} {d : List Int} (h : IsN w v d) (hb : Below w.heap.size w w') : IsN w' v d := by
  obtain ⟨a, cap, rfl, hcap, h⟩ := h
  refine ⟨a, cap, rfl, hcap, fun h0 => ?_⟩
  obtain ⟨b, o, rfl, hlt, hc⟩ := h h0
  exact ⟨b, o, rfl, Nat.lt_of_lt_of_le hlt hb.size, fun k hk => (hb.cell (p := ⟨b, o + k, none⟩) hlt).trans (hc k hk)⟩
theorem valB_bd : ∀ (d : List Int), Byt d → 0 ≤ valB d ∧ valB d < 256 ^ d.length
  | [], _ => ⟨Int.le_refl _, by decide⟩
  | x :: r, h => by
    have h0 := h 0
    rw [getD_cons_zero'] at h0
    obtain ⟨a, b⟩ := valB_bd r (fun k => by have := h (k + 1); rwa [getD_cons_succ'] at this)
    rw [valB, List.length_cons, Int.pow_succ]
    exact ⟨by omega, by omega⟩
end Go.Proofs.YtionjibiemncbaaGreat
namespace Go.Proofs.YtionjibiemncbaaGreat
open Go.RowKit
theorem Byt.tail {x : Int} {r : List Int} (h : Byt (x :: r)) : Byt r := fun k => by have := h (k + 1); rwa [getD_cons_succ'] at this
def cmpN (x y : Int) : Int := if x < y then -1 else if y < x then 1 else 0
theorem cmpN_lt {x y : Int} (h : x < y) : cmpN x y = -1 := if_pos h
theorem cmpN_gt {x y : Int} (h : y < x) : cmpN x y = 1 := by unfold cmpN; rw [if_neg (by omega), if_pos h]
theorem cmpN_eq {x y : Int} (h : x = y) : cmpN x y = 0 := by unfold cmpN; rw [if_neg (by omega), if_neg (by omega)]
theorem IsN.drew {w : World} {v : Value} {d : List Int} (h : IsN w v d) (n : Nat) : IsN (w.drewN n) v d := h
end Go.Proofs.YtionjibiemncbaaGreat
namespace Go.Proofs.YtionjibiemncbaaGreat
open Go.RowKit
set_option maxRecDepth 20000
theorem valB_take_succ : ∀ (d : List Int) (k : Nat), valB (d.take (k + 1)) = valB (d.take k) + 256 ^ k * d.getD k 0
  | [], k => by simp [valB]
  | x :: r, 0 => by simp [valB]
  | x :: r, k + 1 => by
    rw [List.take_succ_cons, List.take_succ_cons, valB, valB, valB_take_succ r k, getD_cons_succ', Int.pow_succ, Int.mul_add, Int.mul_comm (256 ^ k) 256, Int.mul_assoc]
    omega
theorem valB_take_all (d : List Int) (k : Nat) (h : d.length ≤ k) : valB (d.take k) = valB d := by rw [List.take_of_length_le h]
end Go.Proofs.YtionjibiemncbaaGreat
namespace Go.Proofs.YtionjibiemncbaaGreat
open Go.RowKit
set_option maxRecDepth 20000
theorem pow8_bd (r : Nat) (h : r < 8) : (1 : Int) ≤ 2 ^ (8 * r) ∧ (2 : Int) ^ (8 * r) ≤ 72057594037927936 := by
  rcases (by omega : r = 0 ∨ r = 1 ∨ r = 2 ∨ r = 3 ∨ r = 4 ∨ r = 5 ∨ r = 6 ∨ r = 7) with rfl | rfl | rfl | rfl | rfl | rfl | rfl | rfl <;> decide
theorem or_add (x y : Int) (r : Nat) (hr : r < 8) (hx0 : 0 ≤ x) (hx : x < 2 ^ (8 * r)) (hy0 : 0 ≤ y) (hy : y < 256) :
    bits .or .u64 x (IntKind.u64.wrap (y * 2 ^ (8 * r))) = x + y * 2 ^ (8 * r) ∧ Limb (x + y * 2 ^ (8 * r)) := by
  have hP := pow8_bd r hr
  obtain ⟨x, rfl⟩ := Int.eq_ofNat_of_zero_le hx0
  obtain ⟨y, rfl⟩ := Int.eq_ofNat_of_zero_le hy0
  have hk : (2 : Int) ^ (8 * r) = ((2 ^ (8 * r) : Nat) : Int) := by simp
  rw [hk] at hP hx ⊢
  have hlt : x < 2 ^ (8 * r) := Int.ofNat_lt.1 hx
  have hsh : y * 2 ^ (8 * r) ||| x = y * 2 ^ (8 * r) + x := by rw [← Nat.shiftLeft_eq, ← Nat.shiftLeft_add_eq_or_of_lt hlt]
  generalize (2 ^ (8 * r) : Nat) = P at *
  have h1 : y * P ≤ 255 * 72057594037927936 := Nat.mul_le_mul (by omega) (by omega)
  have h2 : (y : Int) * (P : Int) = ((y * P : Nat) : Int) := by simp
  rw [h2]
  generalize y * P = z at *
  have h3 : IntKind.u64.wrap (z : Int) = z := by
    rw [IntKind.wrap_u64]; exact Int.emod_eq_of_lt (by omega) (by omega)
  refine ⟨?_, by omega, by omega⟩
  rw [h3, bits_or_u64_nat _ _ (by omega) (by omega), Nat.or_comm, hsh]
  simp; omega
theorem valB_split : ∀ (d : List Int) (k : Nat), valB d = valB (d.take k) + 256 ^ k * valB (d.drop k)
  | d, 0 => by simp [valB]
  | [], k + 1 => by simp [valB]
  | x :: r, k + 1 => by
    rw [List.take_succ_cons, List.drop_succ_cons, valB, valB, valB_split r k, Int.pow_succ, Int.mul_add, Int.mul_comm (256 ^ k) 256, Int.mul_assoc]
    have := valB_split r k
    omega
theorem below_drew {w w' : World} (h : Below w.heap.size w w') (n : Nat) : Below w.heap.size w (w'.drewN n) := h.trans ⟨rfl, rfl, rfl, Nat.le_refl _, fun _ _ => rfl⟩
theorem set_drew (w : World) (n : Nat) (a : Addr) (v : Value) : (w.drewN n).setCell a v = (w.setCell a v).drewN n := by
  cases w; rfl
theorem set_new2 (w : World) (o : Obj) (c : Array Value) (t : TypeId) (i n : Nat) (v : Value) : (((w.alloc o).alloc (.cells c t)).drewN n).setCell ⟨w.heap.size + 1, i, none⟩ v = ((w.alloc o).alloc (.cells (c.setIfInBounds i v) t)).drewN n := by
  rw [set_drew, World.setCell_alloc_at _ _ _ _ _ (by simp)]
end Go.Proofs.YtionjibiemncbaaGreat
namespace Go.Proofs.YtionjibiemncbaaGreat
open Go.RowKit
def IsD (w : World) (v : Value) (d : List Int) : Prop :=
  ∃ a cap, v = .slice a d.length cap ∧ d.length ≤ cap ∧ ∀ k, k < d.length → ∃ b o, a = some ⟨b, o, none⟩ ∧ b < w.heap.size ∧ w.cell? ⟨b, o + k, none⟩ = some (.int .u8 (d.getD k 0))
theorem IsD.below {w w' : World} {v : Value} {d : List Int} (h : IsD w v d) (hb : Below w.heap.size w w') : IsD w' v d := by
  obtain ⟨a, cap, rfl, hcap, h⟩ := h
  refine ⟨a, cap, rfl, hcap, fun k hk => ?_⟩
  obtain ⟨b, o, rfl, hlt, hc⟩ := h k hk
  exact ⟨b, o, rfl, Nat.lt_of_lt_of_le hlt hb.size, (hb.cell (p := ⟨b, o + k, none⟩) hlt).trans hc⟩
set_option maxHeartbeats 4000000 in
theorem number_any (w : World) (v : Value) (d : List Int) (h : IsD w v d) (l : d.length ≤ 32) (B : Byt d) :
    Calls Tryz.prog 108 #[v] w fun e w' => ∃ r0 r1 r2 r3, e = .returned (W4 r0 r1 r2 r3) ∧ L4 r0 r1 r2 r3 ∧ Hid (num r0 r1 r2 r3 = valB d) ∧ Below w.heap.size w w' := by
  obtain ⟨aa, ca, rfl, hca, h⟩ := h
  have HC : Hid _ := h
  have HB : Hid (Byt d) := B
  clear h B
  unfold W4
  go_enter Tryz.func108, Tryz.ntmps108
  go_wp2
  go_loopw [7] (fun i wr => ∃ (k : Nat) (x0 x1 x2 x3 : Int) (n : Nat), k ≤ d.length ∧ i = .int .i64 k ∧ Hid (L4 x0 x1 x2 x3) ∧ Hid (num x0 x1 x2 x3 = valB (d.take k)) ∧ wr = ((w.alloc (.cells #[.int .u64 0, .int .u64 0, .int .u64 0, .int .u64 0] 24)).alloc (.cells #[.int .u64 x0, .int .u64 x1, .int .u64 x2, .int .u64 x3] 24)).drewN n) (fun i _ => 32 - (intOf i).toNat)
  case atStart => exact ⟨0, 0, 0, 0, 0, 0, by omega, rfl, ⟨⟨by decide, by decide⟩, ⟨by decide, by decide⟩, ⟨by decide, by decide⟩, ⟨by decide, by decide⟩⟩, rfl, rfl⟩
  case round =>
    obtain ⟨k, x0, x1, x2, x3, n, hkl, rfl, hL, hN, rfl⟩ := hrel
    by_cases hkd : k < d.length
    · obtain ⟨b, o, rfl, hb, hcell⟩ := HC.out k hkd
      have hy := HB.out k
      obtain ⟨y, hyd⟩ : ∃ y, y = d.getD k 0 := ⟨_, rfl⟩
      rw [← hyd] at hy hcell
      have hlow : num x0 x1 x2 x3 < 256 ^ k := by
        rw [hN.out]
        have h1 := (valB_bd (d.take k) (HB.out.take k)).2
        rw [List.length_take, Nat.min_eq_left hkl] at h1
        exact h1
      rcases (by omega : k < 8 ∨ (8 ≤ k ∧ k < 16) ∨ (16 ≤ k ∧ k < 24) ∨ (24 ≤ k ∧ k < 32)) with h8 | ⟨h8, h8'⟩ | ⟨h8, h8'⟩ | ⟨h8, h8'⟩
      · obtain ⟨r, hr, rfl⟩ : ∃ r, r < 8 ∧ k = 0 + r := ⟨k - 0, by omega, by omega⟩
        have e1 : ((0 + r : Nat) : Int) / 8 = 0 := by omega
        have e2 : ((0 + r : Nat) : Int) % 8 = r := by omega
        have hP := pow8_bd r hr
        have hp : (256 : Int) ^ (0 + r) = 1 * 2 ^ (8 * r) := by rw [Int.pow_add, Int.pow_mul]; rfl
        have hx : 0 ≤ x0 ∧ x0 < 2 ^ (8 * r) := by
          have h1 := hlow
          rw [hp] at h1
          obtain ⟨⟨_, _⟩, ⟨_, _⟩, ⟨_, _⟩, ⟨_, _⟩⟩ := hL.out
          unfold num at h1
          omega
        obtain ⟨hor, hl4⟩ := or_add x0 y r hr hx.1 hx.2 hy.1 hy.2
        have hL2 : Hid (L4 (x0 + y * 2 ^ (8 * r)) x1 x2 x3) := ⟨hl4, hL.out.2.1, hL.out.2.2.1, hL.out.2.2.2⟩
        have hN2 : Hid (num (x0 + y * 2 ^ (8 * r)) x1 x2 x3 = valB (d.take (0 + r + 1))) := by
          show _ = _
          have := hN.out
          rw [valB_take_succ, ← hN.out, ← hyd, hp, Int.mul_assoc, Int.mul_comm (2 ^ (8 * r)) y]
          unfold num; omega
        clear hp hx hlow hl4 hN hP
        have hKl : ((0 + r : Nat) : Int) < d.length := by omega
        generalize hK : ((0 + r : Nat) : Int) = K at *
        have hc : ((w.alloc (.cells #[.int .u64 0, .int .u64 0, .int .u64 0, .int .u64 0] 24)).alloc (.cells #[.int .u64 x0, .int .u64 x1, .int .u64 x2, .int .u64 x3] 24)).cell? ⟨b, o + K.toNat, none⟩ = some (.int .u8 y) := by
          rw [show K.toNat = 0 + r from by omega, World.cell?_alloc_past _ _ _ (by simp; omega), World.cell?_alloc_past _ _ _ hb, hcell]
        have hwy : IntKind.u64.wrap y = y := by rw [IntKind.wrap_u64]; exact Int.emod_eq_of_lt hy.1 (by omega)
        have hK0 : 0 ≤ K := by omega
        have hK1 : K < 32 := by omega
        clear hcell hyd HC
        go_wp2
        go_region
        go_wp2
        exact ⟨⟨0 + r + 1, (x0 + y * 2 ^ (8 * r)), x1, x2, x3, _, by omega, by go_num, hL2, hN2, set_new2 _ _ _ _ _ _ _⟩, by simp [intOf]; omega⟩
      · obtain ⟨r, hr, rfl⟩ : ∃ r, r < 8 ∧ k = 8 + r := ⟨k - 8, by omega, by omega⟩
        have e1 : ((8 + r : Nat) : Int) / 8 = 1 := by omega
        have e2 : ((8 + r : Nat) : Int) % 8 = r := by omega
        have hP := pow8_bd r hr
        have hp : (256 : Int) ^ (8 + r) = 18446744073709551616 * 2 ^ (8 * r) := by rw [Int.pow_add, Int.pow_mul]; rfl
        have hx : 0 ≤ x1 ∧ x1 < 2 ^ (8 * r) := by
          have h1 := hlow
          rw [hp] at h1
          obtain ⟨⟨_, _⟩, ⟨_, _⟩, ⟨_, _⟩, ⟨_, _⟩⟩ := hL.out
          unfold num at h1
          omega
        obtain ⟨hor, hl4⟩ := or_add x1 y r hr hx.1 hx.2 hy.1 hy.2
        have hL2 : Hid (L4 x0 (x1 + y * 2 ^ (8 * r)) x2 x3) := ⟨hL.out.1, hl4, hL.out.2.2.1, hL.out.2.2.2⟩
        have hN2 : Hid (num x0 (x1 + y * 2 ^ (8 * r)) x2 x3 = valB (d.take (8 + r + 1))) := by
          show _ = _
          have := hN.out
          rw [valB_take_succ, ← hN.out, ← hyd, hp, Int.mul_assoc, Int.mul_comm (2 ^ (8 * r)) y]
          unfold num; omega
        clear hp hx hlow hl4 hN hP
        have hKl : ((8 + r : Nat) : Int) < d.length := by omega
        generalize hK : ((8 + r : Nat) : Int) = K at *
        have hc : ((w.alloc (.cells #[.int .u64 0, .int .u64 0, .int .u64 0, .int .u64 0] 24)).alloc (.cells #[.int .u64 x0, .int .u64 x1, .int .u64 x2, .int .u64 x3] 24)).cell? ⟨b, o + K.toNat, none⟩ = some (.int .u8 y) := by
          rw [show K.toNat = 8 + r from by omega, World.cell?_alloc_past _ _ _ (by simp; omega), World.cell?_alloc_past _ _ _ hb, hcell]
        have hwy : IntKind.u64.wrap y = y := by rw [IntKind.wrap_u64]; exact Int.emod_eq_of_lt hy.1 (by omega)
        have hK0 : 0 ≤ K := by omega
        have hK1 : K < 32 := by omega
        clear hcell hyd HC
        go_wp2
        go_region
        go_wp2
        exact ⟨⟨8 + r + 1, x0, (x1 + y * 2 ^ (8 * r)), x2, x3, _, by omega, by go_num, hL2, hN2, set_new2 _ _ _ _ _ _ _⟩, by simp [intOf]; omega⟩
      · obtain ⟨r, hr, rfl⟩ : ∃ r, r < 8 ∧ k = 16 + r := ⟨k - 16, by omega, by omega⟩
        have e1 : ((16 + r : Nat) : Int) / 8 = 2 := by omega
        have e2 : ((16 + r : Nat) : Int) % 8 = r := by omega
        have hP := pow8_bd r hr
        have hp : (256 : Int) ^ (16 + r) = 340282366920938463463374607431768211456 * 2 ^ (8 * r) := by rw [Int.pow_add, Int.pow_mul]; rfl
        have hx : 0 ≤ x2 ∧ x2 < 2 ^ (8 * r) := by
          have h1 := hlow
          rw [hp] at h1
          obtain ⟨⟨_, _⟩, ⟨_, _⟩, ⟨_, _⟩, ⟨_, _⟩⟩ := hL.out
          unfold num at h1
          omega
        obtain ⟨hor, hl4⟩ := or_add x2 y r hr hx.1 hx.2 hy.1 hy.2
        have hL2 : Hid (L4 x0 x1 (x2 + y * 2 ^ (8 * r)) x3) := ⟨hL.out.1, hL.out.2.1, hl4, hL.out.2.2.2⟩
        have hN2 : Hid (num x0 x1 (x2 + y * 2 ^ (8 * r)) x3 = valB (d.take (16 + r + 1))) := by
          show _ = _
          have := hN.out
          rw [valB_take_succ, ← hN.out, ← hyd, hp, Int.mul_assoc, Int.mul_comm (2 ^ (8 * r)) y]
          unfold num; omega
        clear hp hx hlow hl4 hN hP
        have hKl : ((16 + r : Nat) : Int) < d.length := by omega
        generalize hK : ((16 + r : Nat) : Int) = K at *
        have hc : ((w.alloc (.cells #[.int .u64 0, .int .u64 0, .int .u64 0, .int .u64 0] 24)).alloc (.cells #[.int .u64 x0, .int .u64 x1, .int .u64 x2, .int .u64 x3] 24)).cell? ⟨b, o + K.toNat, none⟩ = some (.int .u8 y) := by
          rw [show K.toNat = 16 + r from by omega, World.cell?_alloc_past _ _ _ (by simp; omega), World.cell?_alloc_past _ _ _ hb, hcell]
        have hwy : IntKind.u64.wrap y = y := by rw [IntKind.wrap_u64]; exact Int.emod_eq_of_lt hy.1 (by omega)
        have hK0 : 0 ≤ K := by omega
        have hK1 : K < 32 := by omega
        clear hcell hyd HC
        go_wp2
        go_region
        go_wp2
        exact ⟨⟨16 + r + 1, x0, x1, (x2 + y * 2 ^ (8 * r)), x3, _, by omega, by go_num, hL2, hN2, set_new2 _ _ _ _ _ _ _⟩, by simp [intOf]; omega⟩
      · obtain ⟨r, hr, rfl⟩ : ∃ r, r < 8 ∧ k = 24 + r := ⟨k - 24, by omega, by omega⟩
        have e1 : ((24 + r : Nat) : Int) / 8 = 3 := by omega
        have e2 : ((24 + r : Nat) : Int) % 8 = r := by omega
        have hP := pow8_bd r hr
        have hp : (256 : Int) ^ (24 + r) = 6277101735386680763835789423207666416102355444464034512896 * 2 ^ (8 * r) := by rw [Int.pow_add, Int.pow_mul]; rfl
        have hx : 0 ≤ x3 ∧ x3 < 2 ^ (8 * r) := by
          have h1 := hlow
          rw [hp] at h1
          obtain ⟨⟨_, _⟩, ⟨_, _⟩, ⟨_, _⟩, ⟨_, _⟩⟩ := hL.out
          unfold num at h1
          omega
        obtain ⟨hor, hl4⟩ := or_add x3 y r hr hx.1 hx.2 hy.1 hy.2
        have hL2 : Hid (L4 x0 x1 x2 (x3 + y * 2 ^ (8 * r))) := ⟨hL.out.1, hL.out.2.1, hL.out.2.2.1, hl4⟩
        have hN2 : Hid (num x0 x1 x2 (x3 + y * 2 ^ (8 * r)) = valB (d.take (24 + r + 1))) := by
          show _ = _
          have := hN.out
          rw [valB_take_succ, ← hN.out, ← hyd, hp, Int.mul_assoc, Int.mul_comm (2 ^ (8 * r)) y]
          unfold num; omega
        clear hp hx hlow hl4 hN hP
        have hKl : ((24 + r : Nat) : Int) < d.length := by omega
        generalize hK : ((24 + r : Nat) : Int) = K at *
        have hc : ((w.alloc (.cells #[.int .u64 0, .int .u64 0, .int .u64 0, .int .u64 0] 24)).alloc (.cells #[.int .u64 x0, .int .u64 x1, .int .u64 x2, .int .u64 x3] 24)).cell? ⟨b, o + K.toNat, none⟩ = some (.int .u8 y) := by
          rw [show K.toNat = 24 + r from by omega, World.cell?_alloc_past _ _ _ (by simp; omega), World.cell?_alloc_past _ _ _ hb, hcell]
        have hwy : IntKind.u64.wrap y = y := by rw [IntKind.wrap_u64]; exact Int.emod_eq_of_lt hy.1 (by omega)
        have hK0 : 0 ≤ K := by omega
        have hK1 : K < 32 := by omega
        clear hcell hyd HC
        go_wp2
        go_region
        go_wp2
        exact ⟨⟨24 + r + 1, x0, x1, x2, (x3 + y * 2 ^ (8 * r)), _, by omega, by go_num, hL2, hN2, set_new2 _ _ _ _ _ _ _⟩, by simp [intOf]; omega⟩
    · have HE : Hid (num x0 x1 x2 x3 = valB d) := by
        show _ = _
        rw [hN.out, valB_take_all d k (by omega)]
      have HL : Hid (L4 x0 x1 x2 x3) := hL
      have hBW : Below w.heap.size w (((w.alloc (.cells #[.int .u64 0, .int .u64 0, .int .u64 0, .int .u64 0] 24)).alloc (.cells #[.int .u64 x0, .int .u64 x1, .int .u64 x2, .int .u64 x3] 24)).drewN n) := below_drew (by go_grown) n
      have hkl : k = d.length := by omega
      subst hkl
      clear hN hL
      go_wp2
      go_returns
      exact ⟨x0, x1, x2, x3, rfl, HL.out, HE, by go_grown⟩
end Go.Proofs.YtionjibiemncbaaGreat
namespace Go.Proofs.YtionjibiemncbaaGreat
open Go.RowKit
def toY (d : List Int) : List UInt8 := d.map fun x => UInt8.ofNat x.toNat
theorem IsD.conv {w : World} {v : Value} {d : List Int} (h : IsD w v d) (B : Byt d) (h0 : 0 < d.length) : (convert 50 9 v).run Tryz.prog w = .ok (.string ⟨(toY d).toArray⟩) w := by
  obtain ⟨a, cap, rfl, hcap, hc⟩ := h
  obtain ⟨b, o, rfl, _, _⟩ := hc 0 h0
  have hl : (toY d).length = d.length := by simp [toY]
  rw [← hl]
  refine run_convert_bytes_back (P := Tryz.prog) w 50 9 5 ⟨b, o, none⟩ cap (toY d) Tryz.underlying50 Tryz.underlying5 Tryz.underlying9 (fun j hj => ?_)
  have e : (⟨b, o, none⟩ : Addr).add j = ⟨b, o + j, none⟩ := by unfold Addr.add; split <;> simp_all
  rw [hl] at hj
  obtain ⟨b', o', hb', _, hcell⟩ := hc j hj
  cases hb'
  rw [e, hcell]
  have e2 : (toY d)[j]'(by rw [hl]; exact hj) = UInt8.ofNat (d.getD j 0).toNat := by
    simp [toY, List.getD_eq_getElem?_getD, List.getElem?_eq_getElem hj]
  rw [e2]
  have := B j
  congr 2
  simp only [UInt8.toNat_ofNat']
  omega
def dL (x : Int) : List Int := (List.range 32).map fun j => x / 256 ^ j % 256
theorem dL_len (x : Int) : (dL x).length = 32 := by simp [dL]
theorem dL_get (x : Int) (k : Nat) (hk : k < 32) : (dL x).getD k 0 = x / 256 ^ k % 256 := by
  simp [dL, List.getD_eq_getElem?_getD, hk]
theorem dL_byt (x : Int) : Byt (dL x) := fun k => by
  by_cases hk : k < 32
  · rw [dL_get x k hk]; omega
  · rw [List.getD_eq_getElem?_getD, List.getElem?_eq_none (by rw [dL_len]; omega)]; simp
theorem emod_mul' (x p : Int) (hp : 0 < p) : x % (p * 256) = x % p + p * (x / p % 256) := by
  have e1 := Int.mul_ediv_add_emod x p
  have e2 := Int.mul_ediv_add_emod (x / p) 256
  have hr := Int.emod_nonneg x (show p ≠ 0 by omega)
  have hr2 := Int.emod_lt_of_pos x hp
  have hq : 0 ≤ x / p % 256 ∧ x / p % 256 < 256 := by omega
  generalize x % p = r at *
  generalize hQ : x / p = q at *
  generalize q % 256 = s at *
  generalize q / 256 = t at *
  have e : x = (r + p * s) + p * 256 * t := by rw [← e1, ← e2]; grind
  have b1 : 0 ≤ p * s := Int.mul_nonneg (by omega) hq.1
  have b2 : p * s ≤ p * 255 := Int.mul_le_mul_of_nonneg_left (by omega) (by omega)
  rw [e, Int.add_mul_emod_self_left, Int.emod_eq_of_lt (by omega) (by omega)]
theorem valB_dL_take (x : Int) (h0 : 0 ≤ x) : ∀ k, k ≤ 32 → valB ((dL x).take k) = x % 256 ^ k
  | 0, _ => by simp [valB]
  | k + 1, hk => by
    rw [valB_take_succ, valB_dL_take x h0 k (by omega), dL_get x k (by omega)]
    have hp : (0 : Int) < 256 ^ k := Int.pow_pos (by decide)
    rw [show (256 : Int) ^ (k + 1) = 256 ^ k * 256 from Int.pow_succ _ _]
    rw [emod_mul' x (256 ^ k) hp]
theorem valB_dL (x : Int) (h0 : 0 ≤ x) (h : x < T256) : valB (dL x) = x := by
  have := valB_dL_take x h0 32 (Nat.le_refl _)
  rw [valB_take_all _ _ (by rw [dL_len]; exact Nat.le_refl _)] at this
  rw [this, Int.emod_eq_of_lt h0 (by unfold T256 at h; omega)]
end Go.Proofs.YtionjibiemncbaaGreat
