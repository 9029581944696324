/- Walks over package word: numbers that fit, shifts. -/
import Derived.Test.YtmflilgppllebaaW2
import Derived.Test.YtmflilgppllebaaM1
namespace Go.Proofs.Ytmflilgppllebaa
open Go.RowKit
set_option linter.unusedSimpArgs false
set_option linter.unusedVariables false

set_option maxHeartbeats 1000000 in
theorem of_exact (n : Int) (w : World) :
    Calls Try.prog 45 #[.int .u64 n] w fun e w' => e = .returned (W4 n 0 0 0) ∧ ∃ c, w' = w.alloc (.cells c 24) := by
  go_enter Try.func45, Try.ntmps45
  go_wp2
  go_returns
  exact ⟨rfl, _, rfl⟩
set_option maxHeartbeats 1000000 in
theorem uint_core (a0 a1 a2 a3 : Int) (r : Bool) (hr : (a0 == a0 && (a1 == 0 && (a2 == 0 && a3 == 0))) = r) (w : World) :
    Calls Try.prog 84 #[W4 a0 a1 a2 a3] w fun e w' => e = .returned (.tuple #[.int .u64 (bif r then a0 else 0), .bool r]) ∧ ∃ c1 c2, w' = ((w.alloc (.cells c1 24)).alloc (.cells c2 24)).drew := by
  have q : ∀ w, (Op.equalIn 10000 24 (W4 a0 a1 a2 a3) (W4 a0 0 0 0)).run Try.prog w = .ok r w := fun w => by rw [eq24, hr]
  clear hr
  unfold W4 at *
  cases r with
  | true =>
    go_enter Try.func84, Try.ntmps84
    go_wp2
    go_region_held3 (fun w' => w'.cell? ⟨w.heap.size, 0, none⟩ = some (.int .u64 a0) ∧ w'.cell? ⟨w.heap.size, 1, none⟩ = some (.int .u64 a1) ∧ w'.cell? ⟨w.heap.size, 2, none⟩ = some (.int .u64 a2) ∧ w'.cell? ⟨w.heap.size, 3, none⟩ = some (.int .u64 a3)) (simp [go_sem, World.cell?_alloc_past])
      (first | (go_at_call 45; refine (of_exact _ _).mono ?_; rintro e w' ⟨rfl, c, rfl⟩))
    go_wp2
    go_ret2
    exact ⟨rfl, _, _, rfl⟩
  | false =>
    go_enter Try.func84, Try.ntmps84
    go_wp2
    go_region_held3 (fun w' => w'.cell? ⟨w.heap.size, 0, none⟩ = some (.int .u64 a0) ∧ w'.cell? ⟨w.heap.size, 1, none⟩ = some (.int .u64 a1) ∧ w'.cell? ⟨w.heap.size, 2, none⟩ = some (.int .u64 a2) ∧ w'.cell? ⟨w.heap.size, 3, none⟩ = some (.int .u64 a3)) (simp [go_sem, World.cell?_alloc_past])
      (first | (go_at_call 45; refine (of_exact _ _).mono ?_; rintro e w' ⟨rfl, c, rfl⟩))
    go_wp2
    go_ret2
    exact ⟨rfl, _, _, rfl⟩
/-- word.Uint -/
theorem uint_yes (a0 : Int) (w : World) :
    Calls Try.prog 84 #[W4 a0 0 0 0] w fun e w' => e = .returned (.tuple #[.int .u64 a0, .bool true]) ∧ ∃ c1 c2, w' = ((w.alloc (.cells c1 24)).alloc (.cells c2 24)).drew :=
  uint_core a0 0 0 0 true (by simp) w
theorem num_small {a0 a1 a2 a3 : Int} (h : L4 a0 a1 a2 a3) (hn : num a0 a1 a2 a3 < 18446744073709551616) : a1 = 0 ∧ a2 = 0 ∧ a3 = 0 ∧ num a0 a1 a2 a3 = a0 := by
  obtain ⟨⟨_, _⟩, ⟨_, _⟩, ⟨_, _⟩, ⟨_, _⟩⟩ := h
  unfold num at *; omega
theorem uint_no (a0 a1 a2 a3 : Int) (ha : L4 a0 a1 a2 a3) (hn : 18446744073709551616 ≤ num a0 a1 a2 a3) (w : World) :
    Calls Try.prog 84 #[W4 a0 a1 a2 a3] w fun e w' => e = .returned (.tuple #[.int .u64 0, .bool false]) ∧ ∃ c1 c2, w' = ((w.alloc (.cells c1 24)).alloc (.cells c2 24)).drew := by
  refine uint_core a0 a1 a2 a3 false ?_ w
  by_cases h : a1 = 0 ∧ a2 = 0 ∧ a3 = 0
  · exfalso
    obtain ⟨rfl, rfl, rfl⟩ := h
    have := ha.1.2
    unfold num at hn; omega
  · by_cases h1 : a1 = 0 <;> by_cases h2 : a2 = 0 <;> by_cases h3 : a3 = 0 <;> simp_all
set_option maxHeartbeats 1000000 in
/-- word.below, where it is. -/
theorem below_yes (a0 lim : Int) (h0 : 0 ≤ a0) (h1 : a0 < lim) (h2 : lim ≤ 4096) (w : World) :
    Calls Try.prog 74 #[W4 a0 0 0 0, .int .u64 lim] w fun e w' => e = .returned (.tuple #[.int .i64 a0, .bool true]) ∧ ∃ c1 c2 c3, w' = (((w.alloc (.cells c1 24)).alloc (.cells c2 24)).alloc (.cells c3 24)).drew := by
  unfold W4
  go_enter Try.func74, Try.ntmps74
  go_wp2_with fail
  refine (uint_yes a0 _).mono ?_
  rintro e w1 ⟨rfl, c1, c2, rfl⟩
  go_wp2
  go_ret2
  exact ⟨rfl, _, _, _, rfl⟩
set_option maxHeartbeats 1000000 in
/-- word.below, where it is not. -/
theorem below_no (a0 a1 a2 a3 lim : Int) (ha : L4 a0 a1 a2 a3) (h1 : lim ≤ num a0 a1 a2 a3) (w : World) :
    Calls Try.prog 74 #[W4 a0 a1 a2 a3, .int .u64 lim] w fun e w' => e = .returned (.tuple #[.int .i64 0, .bool false]) ∧ ∃ c1 c2 c3, w' = (((w.alloc (.cells c1 24)).alloc (.cells c2 24)).alloc (.cells c3 24)).drew := by
  by_cases hn : num a0 a1 a2 a3 < 18446744073709551616
  · obtain ⟨rfl, rfl, rfl, he⟩ := num_small ha hn
    rw [he] at h1
    clear he hn
    have ⟨hl0, hl1⟩ := ha.1
    clear ha
    unfold W4
    go_enter Try.func74, Try.ntmps74
    go_wp2_with fail
    refine (uint_yes a0 _).mono ?_
    rintro e w1 ⟨rfl, c1, c2, rfl⟩
    go_wp2
    go_ret2
    exact ⟨rfl, _, _, _, rfl⟩
  · have hu := uint_no a0 a1 a2 a3 ha (by omega)
    have HU : Hid _ := hu
    clear hu h1 hn
    unfold W4 at *
    go_enter Try.func74, Try.ntmps74
    go_wp2_with fail
    refine (HU.out _).mono ?_
    rintro e w1 ⟨rfl, c1, c2, rfl⟩
    go_wp2
    go_ret2
    exact ⟨rfl, _, _, _, rfl⟩

theorem limb_wrap (x : Int) : Limb (IntKind.u64.wrap x) := by rw [IntKind.wrap_u64]; exact ⟨by omega, by omega⟩
theorem limb_of_wf {x : Int} (h : (Lit.int .u64 x).wf = true) : Limb x := by
  simp [Lit.wf, IntKind.min, IntKind.max, IntKind.signed, IntKind.bits] at h
  exact ⟨by omega, by omega⟩
theorem limb_bits (op : BinOp) (a b : Int) : Limb (bits op .u64 a b) := limb_of_wf (wf_bits ..)

theorem shl_pow (n k r : Int) (hr0 : 0 ≤ r) (hk : 0 ≤ k) (hn : n = 64 * k + r) : (2 : Int) ^ n.toNat = 2 ^ r.toNat * 2 ^ (64 * k).toNat := by
  rw [← Int.pow_add]; congr 1; omega
theorem shl_num0 {x0 x1 x2 x3 r : Int} (h0 : 0 ≤ r) (h1 : r < 64) (hx : L4 x0 x1 x2 x3) (n : Int) (hn : n = 0 + r) :
    num (IntKind.u64.wrap (x0 * 2 ^ r.toNat)) (bits .or .u64 (IntKind.u64.wrap (x1 * 2 ^ r.toNat)) (x0 / 2 ^ (64 - r).toNat)) (bits .or .u64 (IntKind.u64.wrap (x2 * 2 ^ r.toNat)) (x1 / 2 ^ (64 - r).toNat)) (bits .or .u64 (IntKind.u64.wrap (x3 * 2 ^ r.toNat)) (x2 / 2 ^ (64 - r).toNat)) = (num x0 x1 x2 x3 * 2 ^ n.toNat) % T256 := by
  have hL : L4 (IntKind.u64.wrap (x0 * 2 ^ r.toNat)) (bits .or .u64 (IntKind.u64.wrap (x1 * 2 ^ r.toNat)) (x0 / 2 ^ (64 - r).toNat)) (bits .or .u64 (IntKind.u64.wrap (x2 * 2 ^ r.toNat)) (x1 / 2 ^ (64 - r).toNat)) (bits .or .u64 (IntKind.u64.wrap (x3 * 2 ^ r.toNat)) (x2 / 2 ^ (64 - r).toNat)) := ⟨limb_wrap _, limb_bits _ _ _, limb_bits _ _ _, limb_bits _ _ _⟩
  have hbd := num_bd hL
  clear hL
  obtain ⟨hx0, hx1, hx2, hx3⟩ := hx
  have e0 := up_parts x0 r h0 h1
  have e1 := up_parts x1 r h0 h1
  have e2 := up_parts x2 r h0 h1
  have e3 := up_parts x3 r h0 h1
  rw [up_or x1 x0 r h0 h1 hx1 hx0, up_or x2 x1 r h0 h1 hx2 hx1, up_or x3 x2 r h0 h1 hx3 hx2] at *
  rw [shl_pow n 0 r h0 (by decide) (by omega), ← Int.mul_assoc, num_mul]
  generalize IntKind.u64.wrap (x0 * 2 ^ r.toNat) = m0 at *
  generalize IntKind.u64.wrap (x1 * 2 ^ r.toNat) = m1 at *
  generalize IntKind.u64.wrap (x2 * 2 ^ r.toNat) = m2 at *
  generalize IntKind.u64.wrap (x3 * 2 ^ r.toNat) = m3 at *
  generalize x0 / 2 ^ (64 - r).toNat = g0 at *
  generalize x1 / 2 ^ (64 - r).toNat = g1 at *
  generalize x2 / 2 ^ (64 - r).toNat = g2 at *
  generalize x3 / 2 ^ (64 - r).toNat = g3 at *
  rw [e0, e1, e2, e3]
  clear e0 e1 e2 e3
  have hpk : (2 : Int) ^ (64 * (0 : Int)).toNat = 1 := by decide
  rw [hpk]
  unfold num T256 at *
  omega
set_option maxHeartbeats 1000000 in
theorem shl_walk0 (n0 r x0 x1 x2 x3 : Int) (hn0 : 0 ≤ n0) (hn1 : n0 < 64) (hm : n0 % 64 = r) (hr0 : 0 ≤ r) (hr1 : r < 64) (w : World) :
    Calls Try.prog 87 #[W4 n0 0 0 0, W4 x0 x1 x2 x3] w fun e w' => e = .returned (W4 (IntKind.u64.wrap (x0 * 2 ^ r.toNat)) (bits .or .u64 (IntKind.u64.wrap (x1 * 2 ^ r.toNat)) (x0 / 2 ^ (64 - r).toNat)) (bits .or .u64 (IntKind.u64.wrap (x2 * 2 ^ r.toNat)) (x1 / 2 ^ (64 - r).toNat)) (bits .or .u64 (IntKind.u64.wrap (x3 * 2 ^ r.toNat)) (x2 / 2 ^ (64 - r).toNat))) ∧ Below w.heap.size w w' := by
  have hq : n0 / 64 = 0 := by omega
  have hb := below_yes n0 256 (by omega) (by omega) (by decide)
  have HB : Hid _ := hb
  clear hb
  unfold W4 at *
  go_enter Try.func87, Try.ntmps87
  go_wp2_with fail
  refine (HB.out _).mono ?_
  rintro e w1 ⟨rfl, c1, c2, c3, rfl⟩
  clear HB
  go_wp2
  refine wp_loop_rounds 5 ?_
  rw [rounds_succ]
  go_wp2
  rw [rounds_succ]
  go_wp2
  go_region
  go_wp2
  rw [rounds_succ]
  go_wp2
  go_region
  go_wp2
  rw [rounds_succ]
  go_wp2
  go_region
  go_wp2
  rw [rounds_succ]
  go_wp2
  go_returns
  exact ⟨rfl, by go_grown⟩
theorem shl_in0 (n0 x0 x1 x2 x3 : Int) (hn0 : 0 ≤ n0) (hn1 : n0 < 64) (hx : L4 x0 x1 x2 x3) (w : World) :
    Calls Try.prog 87 #[W4 n0 0 0 0, W4 x0 x1 x2 x3] w fun e w' => ∃ s0 s1 s2 s3 : Int, e = .returned (W4 s0 s1 s2 s3) ∧ L4 s0 s1 s2 s3 ∧ Hid (num s0 s1 s2 s3 = (num x0 x1 x2 x3 * 2 ^ n0.toNat) % T256) ∧ Below w.heap.size w w' := by
  refine (shl_walk0 n0 (n0 % 64) x0 x1 x2 x3 hn0 hn1 rfl (by omega) (by omega) w).mono ?_
  rintro e w' ⟨rfl, hw⟩
  exact ⟨_, _, _, _, rfl, ⟨limb_wrap _, limb_bits _ _ _, limb_bits _ _ _, limb_bits _ _ _⟩, shl_num0 (by omega) (by omega) hx n0 (by omega), hw⟩
theorem shl_num1 {x0 x1 x2 x3 r : Int} (h0 : 0 ≤ r) (h1 : r < 64) (hx : L4 x0 x1 x2 x3) (n : Int) (hn : n = 64 + r) :
    num 0 (IntKind.u64.wrap (x0 * 2 ^ r.toNat)) (bits .or .u64 (IntKind.u64.wrap (x1 * 2 ^ r.toNat)) (x0 / 2 ^ (64 - r).toNat)) (bits .or .u64 (IntKind.u64.wrap (x2 * 2 ^ r.toNat)) (x1 / 2 ^ (64 - r).toNat)) = (num x0 x1 x2 x3 * 2 ^ n.toNat) % T256 := by
  have hL : L4 0 (IntKind.u64.wrap (x0 * 2 ^ r.toNat)) (bits .or .u64 (IntKind.u64.wrap (x1 * 2 ^ r.toNat)) (x0 / 2 ^ (64 - r).toNat)) (bits .or .u64 (IntKind.u64.wrap (x2 * 2 ^ r.toNat)) (x1 / 2 ^ (64 - r).toNat)) := ⟨limb0, limb_wrap _, limb_bits _ _ _, limb_bits _ _ _⟩
  have hbd := num_bd hL
  clear hL
  obtain ⟨hx0, hx1, hx2, hx3⟩ := hx
  have e0 := up_parts x0 r h0 h1
  have e1 := up_parts x1 r h0 h1
  have e2 := up_parts x2 r h0 h1
  have e3 := up_parts x3 r h0 h1
  rw [up_or x1 x0 r h0 h1 hx1 hx0, up_or x2 x1 r h0 h1 hx2 hx1] at *
  rw [shl_pow n 1 r h0 (by decide) (by omega), ← Int.mul_assoc, num_mul]
  generalize IntKind.u64.wrap (x0 * 2 ^ r.toNat) = m0 at *
  generalize IntKind.u64.wrap (x1 * 2 ^ r.toNat) = m1 at *
  generalize IntKind.u64.wrap (x2 * 2 ^ r.toNat) = m2 at *
  generalize IntKind.u64.wrap (x3 * 2 ^ r.toNat) = m3 at *
  generalize x0 / 2 ^ (64 - r).toNat = g0 at *
  generalize x1 / 2 ^ (64 - r).toNat = g1 at *
  generalize x2 / 2 ^ (64 - r).toNat = g2 at *
  generalize x3 / 2 ^ (64 - r).toNat = g3 at *
  rw [e0, e1, e2, e3]
  clear e0 e1 e2 e3
  have hpk : (2 : Int) ^ (64 * (1 : Int)).toNat = 18446744073709551616 := by decide
  rw [hpk]
  unfold num T256 at *
  omega
set_option maxHeartbeats 1000000 in
theorem shl_walk1 (n0 r x0 x1 x2 x3 : Int) (hn0 : 64 ≤ n0) (hn1 : n0 < 128) (hm : n0 % 64 = r) (hr0 : 0 ≤ r) (hr1 : r < 64) (w : World) :
    Calls Try.prog 87 #[W4 n0 0 0 0, W4 x0 x1 x2 x3] w fun e w' => e = .returned (W4 0 (IntKind.u64.wrap (x0 * 2 ^ r.toNat)) (bits .or .u64 (IntKind.u64.wrap (x1 * 2 ^ r.toNat)) (x0 / 2 ^ (64 - r).toNat)) (bits .or .u64 (IntKind.u64.wrap (x2 * 2 ^ r.toNat)) (x1 / 2 ^ (64 - r).toNat))) ∧ Below w.heap.size w w' := by
  have hq : n0 / 64 = 1 := by omega
  have hb := below_yes n0 256 (by omega) (by omega) (by decide)
  have HB : Hid _ := hb
  clear hb
  unfold W4 at *
  go_enter Try.func87, Try.ntmps87
  go_wp2_with fail
  refine (HB.out _).mono ?_
  rintro e w1 ⟨rfl, c1, c2, c3, rfl⟩
  clear HB
  go_wp2
  refine wp_loop_rounds 5 ?_
  rw [rounds_succ]
  go_wp2
  rw [rounds_succ]
  go_wp2
  go_region
  go_wp2
  rw [rounds_succ]
  go_wp2
  go_region
  go_wp2
  rw [rounds_succ]
  go_wp2
  go_returns
  exact ⟨rfl, by go_grown⟩
theorem shl_in1 (n0 x0 x1 x2 x3 : Int) (hn0 : 64 ≤ n0) (hn1 : n0 < 128) (hx : L4 x0 x1 x2 x3) (w : World) :
    Calls Try.prog 87 #[W4 n0 0 0 0, W4 x0 x1 x2 x3] w fun e w' => ∃ s0 s1 s2 s3 : Int, e = .returned (W4 s0 s1 s2 s3) ∧ L4 s0 s1 s2 s3 ∧ Hid (num s0 s1 s2 s3 = (num x0 x1 x2 x3 * 2 ^ n0.toNat) % T256) ∧ Below w.heap.size w w' := by
  refine (shl_walk1 n0 (n0 % 64) x0 x1 x2 x3 hn0 hn1 rfl (by omega) (by omega) w).mono ?_
  rintro e w' ⟨rfl, hw⟩
  exact ⟨_, _, _, _, rfl, ⟨limb0, limb_wrap _, limb_bits _ _ _, limb_bits _ _ _⟩, shl_num1 (by omega) (by omega) hx n0 (by omega), hw⟩
theorem shl_num2 {x0 x1 x2 x3 r : Int} (h0 : 0 ≤ r) (h1 : r < 64) (hx : L4 x0 x1 x2 x3) (n : Int) (hn : n = 128 + r) :
    num 0 0 (IntKind.u64.wrap (x0 * 2 ^ r.toNat)) (bits .or .u64 (IntKind.u64.wrap (x1 * 2 ^ r.toNat)) (x0 / 2 ^ (64 - r).toNat)) = (num x0 x1 x2 x3 * 2 ^ n.toNat) % T256 := by
  have hL : L4 0 0 (IntKind.u64.wrap (x0 * 2 ^ r.toNat)) (bits .or .u64 (IntKind.u64.wrap (x1 * 2 ^ r.toNat)) (x0 / 2 ^ (64 - r).toNat)) := ⟨limb0, limb0, limb_wrap _, limb_bits _ _ _⟩
  have hbd := num_bd hL
  clear hL
  obtain ⟨hx0, hx1, hx2, hx3⟩ := hx
  have e0 := up_parts x0 r h0 h1
  have e1 := up_parts x1 r h0 h1
  have e2 := up_parts x2 r h0 h1
  have e3 := up_parts x3 r h0 h1
  rw [up_or x1 x0 r h0 h1 hx1 hx0] at *
  rw [shl_pow n 2 r h0 (by decide) (by omega), ← Int.mul_assoc, num_mul]
  generalize IntKind.u64.wrap (x0 * 2 ^ r.toNat) = m0 at *
  generalize IntKind.u64.wrap (x1 * 2 ^ r.toNat) = m1 at *
  generalize IntKind.u64.wrap (x2 * 2 ^ r.toNat) = m2 at *
  generalize IntKind.u64.wrap (x3 * 2 ^ r.toNat) = m3 at *
  generalize x0 / 2 ^ (64 - r).toNat = g0 at *
  generalize x1 / 2 ^ (64 - r).toNat = g1 at *
  generalize x2 / 2 ^ (64 - r).toNat = g2 at *
  generalize x3 / 2 ^ (64 - r).toNat = g3 at *
  rw [e0, e1, e2, e3]
  clear e0 e1 e2 e3
  have hpk : (2 : Int) ^ (64 * (2 : Int)).toNat = 340282366920938463463374607431768211456 := by decide
  rw [hpk]
  unfold num T256 at *
  omega
set_option maxHeartbeats 1000000 in
theorem shl_walk2 (n0 r x0 x1 x2 x3 : Int) (hn0 : 128 ≤ n0) (hn1 : n0 < 192) (hm : n0 % 64 = r) (hr0 : 0 ≤ r) (hr1 : r < 64) (w : World) :
    Calls Try.prog 87 #[W4 n0 0 0 0, W4 x0 x1 x2 x3] w fun e w' => e = .returned (W4 0 0 (IntKind.u64.wrap (x0 * 2 ^ r.toNat)) (bits .or .u64 (IntKind.u64.wrap (x1 * 2 ^ r.toNat)) (x0 / 2 ^ (64 - r).toNat))) ∧ Below w.heap.size w w' := by
  have hq : n0 / 64 = 2 := by omega
  have hb := below_yes n0 256 (by omega) (by omega) (by decide)
  have HB : Hid _ := hb
  clear hb
  unfold W4 at *
  go_enter Try.func87, Try.ntmps87
  go_wp2_with fail
  refine (HB.out _).mono ?_
  rintro e w1 ⟨rfl, c1, c2, c3, rfl⟩
  clear HB
  go_wp2
  refine wp_loop_rounds 5 ?_
  rw [rounds_succ]
  go_wp2
  rw [rounds_succ]
  go_wp2
  go_region
  go_wp2
  rw [rounds_succ]
  go_wp2
  go_returns
  exact ⟨rfl, by go_grown⟩
theorem shl_in2 (n0 x0 x1 x2 x3 : Int) (hn0 : 128 ≤ n0) (hn1 : n0 < 192) (hx : L4 x0 x1 x2 x3) (w : World) :
    Calls Try.prog 87 #[W4 n0 0 0 0, W4 x0 x1 x2 x3] w fun e w' => ∃ s0 s1 s2 s3 : Int, e = .returned (W4 s0 s1 s2 s3) ∧ L4 s0 s1 s2 s3 ∧ Hid (num s0 s1 s2 s3 = (num x0 x1 x2 x3 * 2 ^ n0.toNat) % T256) ∧ Below w.heap.size w w' := by
  refine (shl_walk2 n0 (n0 % 64) x0 x1 x2 x3 hn0 hn1 rfl (by omega) (by omega) w).mono ?_
  rintro e w' ⟨rfl, hw⟩
  exact ⟨_, _, _, _, rfl, ⟨limb0, limb0, limb_wrap _, limb_bits _ _ _⟩, shl_num2 (by omega) (by omega) hx n0 (by omega), hw⟩
theorem shl_num3 {x0 x1 x2 x3 r : Int} (h0 : 0 ≤ r) (h1 : r < 64) (hx : L4 x0 x1 x2 x3) (n : Int) (hn : n = 192 + r) :
    num 0 0 0 (IntKind.u64.wrap (x0 * 2 ^ r.toNat)) = (num x0 x1 x2 x3 * 2 ^ n.toNat) % T256 := by
  have hL : L4 0 0 0 (IntKind.u64.wrap (x0 * 2 ^ r.toNat)) := ⟨limb0, limb0, limb0, limb_wrap _⟩
  have hbd := num_bd hL
  clear hL
  obtain ⟨hx0, hx1, hx2, hx3⟩ := hx
  have e0 := up_parts x0 r h0 h1
  have e1 := up_parts x1 r h0 h1
  have e2 := up_parts x2 r h0 h1
  have e3 := up_parts x3 r h0 h1
  skip
  rw [shl_pow n 3 r h0 (by decide) (by omega), ← Int.mul_assoc, num_mul]
  generalize IntKind.u64.wrap (x0 * 2 ^ r.toNat) = m0 at *
  generalize IntKind.u64.wrap (x1 * 2 ^ r.toNat) = m1 at *
  generalize IntKind.u64.wrap (x2 * 2 ^ r.toNat) = m2 at *
  generalize IntKind.u64.wrap (x3 * 2 ^ r.toNat) = m3 at *
  generalize x0 / 2 ^ (64 - r).toNat = g0 at *
  generalize x1 / 2 ^ (64 - r).toNat = g1 at *
  generalize x2 / 2 ^ (64 - r).toNat = g2 at *
  generalize x3 / 2 ^ (64 - r).toNat = g3 at *
  rw [e0, e1, e2, e3]
  clear e0 e1 e2 e3
  have hpk : (2 : Int) ^ (64 * (3 : Int)).toNat = 6277101735386680763835789423207666416102355444464034512896 := by decide
  rw [hpk]
  unfold num T256 at *
  omega
set_option maxHeartbeats 1000000 in
theorem shl_walk3 (n0 r x0 x1 x2 x3 : Int) (hn0 : 192 ≤ n0) (hn1 : n0 < 256) (hm : n0 % 64 = r) (hr0 : 0 ≤ r) (hr1 : r < 64) (w : World) :
    Calls Try.prog 87 #[W4 n0 0 0 0, W4 x0 x1 x2 x3] w fun e w' => e = .returned (W4 0 0 0 (IntKind.u64.wrap (x0 * 2 ^ r.toNat))) ∧ Below w.heap.size w w' := by
  have hq : n0 / 64 = 3 := by omega
  have hb := below_yes n0 256 (by omega) (by omega) (by decide)
  have HB : Hid _ := hb
  clear hb
  unfold W4 at *
  go_enter Try.func87, Try.ntmps87
  go_wp2_with fail
  refine (HB.out _).mono ?_
  rintro e w1 ⟨rfl, c1, c2, c3, rfl⟩
  clear HB
  go_wp2
  refine wp_loop_rounds 5 ?_
  rw [rounds_succ]
  go_wp2
  rw [rounds_succ]
  go_wp2
  go_returns
  exact ⟨rfl, by go_grown⟩
theorem shl_in3 (n0 x0 x1 x2 x3 : Int) (hn0 : 192 ≤ n0) (hn1 : n0 < 256) (hx : L4 x0 x1 x2 x3) (w : World) :
    Calls Try.prog 87 #[W4 n0 0 0 0, W4 x0 x1 x2 x3] w fun e w' => ∃ s0 s1 s2 s3 : Int, e = .returned (W4 s0 s1 s2 s3) ∧ L4 s0 s1 s2 s3 ∧ Hid (num s0 s1 s2 s3 = (num x0 x1 x2 x3 * 2 ^ n0.toNat) % T256) ∧ Below w.heap.size w w' := by
  refine (shl_walk3 n0 (n0 % 64) x0 x1 x2 x3 hn0 hn1 rfl (by omega) (by omega) w).mono ?_
  rintro e w' ⟨rfl, hw⟩
  exact ⟨_, _, _, _, rfl, ⟨limb0, limb0, limb0, limb_wrap _⟩, shl_num3 (by omega) (by omega) hx n0 (by omega), hw⟩
set_option maxHeartbeats 1000000 in
theorem shl_out (n0 n1 n2 n3 x0 x1 x2 x3 : Int) (hn : L4 n0 n1 n2 n3) (h : 256 ≤ num n0 n1 n2 n3) (w : World) :
    Calls Try.prog 87 #[W4 n0 n1 n2 n3, W4 x0 x1 x2 x3] w fun e w' => e = .returned (W4 0 0 0 0) ∧ Below w.heap.size w w' := by
  have hb := below_no n0 n1 n2 n3 256 hn h
  have HB : Hid _ := hb
  clear hb hn h
  unfold W4 at *
  go_enter Try.func87, Try.ntmps87
  go_wp2_with fail
  refine (HB.out _).mono ?_
  rintro e w1 ⟨rfl, c1, c2, c3, rfl⟩
  clear HB
  go_wp2
  go_returns
  exact ⟨rfl, by go_grown⟩
/-- x by n bits towards the high end. -/
def shlN (n x : Int) : Int := if n < 256 then (x * 2 ^ n.toNat) % T256 else 0
/-- word.Shl -/
theorem shl_any (n0 n1 n2 n3 x0 x1 x2 x3 : Int) (hn : L4 n0 n1 n2 n3) (hx : L4 x0 x1 x2 x3) (w : World) :
    Calls Try.prog 87 #[W4 n0 n1 n2 n3, W4 x0 x1 x2 x3] w fun e w' => ∃ s0 s1 s2 s3 : Int, e = .returned (W4 s0 s1 s2 s3) ∧ L4 s0 s1 s2 s3 ∧ Hid (num s0 s1 s2 s3 = shlN (num n0 n1 n2 n3) (num x0 x1 x2 x3)) ∧ Below w.heap.size w w' := by
  by_cases h : num n0 n1 n2 n3 < 256
  · obtain ⟨rfl, rfl, rfl, he⟩ := num_small hn (by omega)
    have h0 := hn.1.1
    have e : shlN (num n0 0 0 0) (num x0 x1 x2 x3) = (num x0 x1 x2 x3 * 2 ^ n0.toNat) % T256 := by unfold shlN; rw [if_pos h, he]
    rw [e]
    rw [he] at h
    rcases (by omega : n0 < 64 ∨ (64 ≤ n0 ∧ n0 < 128) ∨ (128 ≤ n0 ∧ n0 < 192) ∨ (192 ≤ n0 ∧ n0 < 256)) with g | ⟨g, g'⟩ | ⟨g, g'⟩ | ⟨g, g'⟩
    · exact shl_in0 n0 x0 x1 x2 x3 h0 g hx w
    · exact shl_in1 n0 x0 x1 x2 x3 g g' hx w
    · exact shl_in2 n0 x0 x1 x2 x3 g g' hx w
    · exact shl_in3 n0 x0 x1 x2 x3 g g' hx w
  · have e : shlN (num n0 n1 n2 n3) (num x0 x1 x2 x3) = 0 := by unfold shlN; rw [if_neg h]
    rw [e]
    refine (shl_out n0 n1 n2 n3 x0 x1 x2 x3 hn (by omega) w).mono ?_
    rintro e w' ⟨rfl, hw⟩
    exact ⟨0, 0, 0, 0, rfl, of_L4 limb0, of_num 0, hw⟩
end Go.Proofs.Ytmflilgppllebaa
