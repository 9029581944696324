/- Walks over the document's own numbers: powers of two, and a number as a word. -/
import Derived.Test.YtmflilgppllebaaR3
import Derived.Deep.OwnRows
namespace Go.Proofs.Ytmflilgppllebaa
open Go.RowKit
set_option linter.unusedSimpArgs false
set_option maxRecDepth 20000
set_option linter.unusedVariables false
theorem rep_valB : ∀ (m : Nat) (x : Int), valB (List.replicate m 0 ++ [x]) = 256 ^ m * x
  | 0, x => by simp [valB]
  | m + 1, x => by rw [List.replicate_succ, List.cons_append, valB, rep_valB m x, Int.pow_succ, Int.mul_comm (256 ^ m) 256, Int.mul_assoc]; omega
theorem rep_getD (m : Nat) (x : Int) (k : Nat) (hk : k < m + 1) : (List.replicate m 0 ++ [x]).getD k 0 = if k = m then x else 0 := by
  rcases Nat.lt_or_ge k m with h | h
  · rw [if_neg (by omega)]; simp [List.getD, List.getElem?_append_left, h]
  · have e : k = m := by omega
    subst e; simp [List.getD]
theorem byt_rep (m : Nat) (x : Int) (h0 : 0 ≤ x) (h1 : x < 256) : Byt (List.replicate m 0 ++ [x]) :=
  Byt.append (fun k => by
    have : (List.replicate m (0 : Int)).getD k 0 = 0 := by
      simp only [List.getD]
      rcases Nat.lt_or_ge k m with h | h
      · simp [h]
      · rw [List.getElem?_eq_none (by simp; omega)]; rfl
    rw [this]; exact ⟨by decide, by decide⟩) h0 h1
/-- A row of ints that is nought but at its end. -/
theorem IsN.of_row {w : World} {b m : Nat} {x : Int} (h : w.rowIs b 3 (m + 1) (fun j => if j = m then .int .i64 x else .int .i64 0)) : IsN w (.slice (some ⟨b, 0, none⟩) (m + 1) (m + 1)) (List.replicate m 0 ++ [x]) := by
  have hl : (List.replicate m (0 : Int) ++ [x]).length = m + 1 := by simp
  refine ⟨some ⟨b, 0, none⟩, m + 1, by rw [hl], by omega, fun _ => ⟨b, 0, rfl, h.lt, fun k hk => ?_⟩⟩
  rw [hl] at hk
  rw [Nat.zero_add, h.cell hk, rep_getD m x k hk]
  split <;> rfl
theorem made_row (w : World) (m : Nat) (x : Int) : (w.alloc (.cells ((madeCells #[Value.int .i64 0] (m + 1)).setIfInBounds m (.int .i64 x)) 3)).rowIs w.heap.size 3 (m + 1) (fun j => if j = m then .int .i64 x else .int .i64 0) := by
  have h := World.rowIs_alloc w ((madeCells #[Value.int .i64 0] (m + 1)).setIfInBounds m (.int .i64 x)) 3 (fun j => if j = m then .int .i64 x else .int .i64 0) (fun i hi => by
    simp [size_madeCells] at hi
    rw [Array.getElem?_setIfInBounds]
    by_cases e : m = i
    · subst e; simp [size_madeCells]
    · rw [if_neg e, if_neg (by omega)]; simp [madeCells, Nat.mod_one, hi])
  simpa [size_madeCells] using h
set_option maxHeartbeats 2000000 in
theorem power_any (n : Nat) (hn : n < 2000) (w : World) :
    Calls Try.prog 71 #[.int .i64 n] w fun e w' => ∃ (v : Value) (d : List Int), e = .returned v ∧ IsN w' v d ∧ Byt d ∧ d.length = n / 8 + 1 ∧ Hid (valB d = 2 ^ n) ∧ Below w.heap.size w w' := by
  obtain ⟨m, r, hr, rfl⟩ : ∃ m r, r < 8 ∧ n = 8 * m + r := ⟨n / 8, n % 8, by omega, by omega⟩
  have hmk := run_make_row' (P := Try.prog) 46 3 (.int .i64 0) 8 Try.underlying46 Try.info3 rfl .i64 .i64 (m + 1) (by omega) (by omega)
  have em : ((m + 1 : Nat) : Int) = (m : Int) + 1 := by omega
  rw [em] at hmk
  have e1 : ((8 * m + r : Nat) : Int) / 8 = m := by omega
  have e2 : ((8 * m + r : Nat) : Int) % 8 = r := by omega
  have e3 : (8 * m + r) / 8 = m := by omega
  have hp : Hid ((2 : Int) ^ (8 * m + r) = 256 ^ m * 2 ^ r) := by
    show _ = _
    rw [Int.pow_add, Int.pow_mul]; rfl
  rw [e3]
  clear e3
  generalize ((8 * m + r : Nat) : Int) = N at *
  have hcell : (madeCells #[Value.int .i64 0] (m + 1))[m]? = some (.int .i64 0) := by simp [madeCells, Nat.mod_one]
  have hv' : (0 : Int) ≤ 2 ^ r ∧ (2 : Int) ^ r < 256 := by
    rcases (by omega : r = 0 ∨ r = 1 ∨ r = 2 ∨ r = 3 ∨ r = 4 ∨ r = 5 ∨ r = 6 ∨ r = 7) with rfl | rfl | rfl | rfl | rfl | rfl | rfl | rfl <;> decide
  have hv : wrap64 (2 ^ r) = 2 ^ r := by unfold wrap64; omega
  go_enter Try.func71, Try.ntmps71
  go_wp2
  go_ret
  refine ⟨_, List.replicate m 0 ++ [2 ^ r], rfl, IsN.of_row (made_row w m _), byt_rep m _ hv'.1 hv'.2, by simp, ?_, by go_grown⟩
  exact (rep_valB m _).trans hp.out.symm
theorem pow8_bd (r : Nat) (h : r < 8) : (1 : Int) ≤ 2 ^ (8 * r) ∧ (2 : Int) ^ (8 * r) ≤ 72057594037927936 := by
  rcases (by omega : r = 0 ∨ r = 1 ∨ r = 2 ∨ r = 3 ∨ r = 4 ∨ r = 5 ∨ r = 6 ∨ r = 7) with rfl | rfl | rfl | rfl | rfl | rfl | rfl | rfl <;> decide
/-- A byte that is laid above what is there. -/
theorem or_add (x y : Int) (r : Nat) (hr : r < 8) (hx0 : 0 ≤ x) (hx : x < 2 ^ (8 * r)) (hy0 : 0 ≤ y) (hy : y < 256) :
    bits .or .u64 x (IntKind.u64.wrap (y * 2 ^ (8 * r))) = x + y * 2 ^ (8 * r) ∧ Limb (x + y * 2 ^ (8 * r)) := by
  have hP := pow8_bd r hr
  obtain ⟨x, rfl⟩ := Int.eq_ofNat_of_zero_le hx0
  obtain ⟨y, rfl⟩ := Int.eq_ofNat_of_zero_le hy0
  have hk : (2 : Int) ^ (8 * r) = ((2 ^ (8 * r) : Nat) : Int) := by simp
  rw [hk] at hP hx ⊢
  have hlt : x < 2 ^ (8 * r) := Int.ofNat_lt.1 hx
  have hsh : y * 2 ^ (8 * r) ||| x = y * 2 ^ (8 * r) + x := by rw [← Nat.shiftLeft_eq, ← Nat.shiftLeft_add_eq_or_of_lt hlt]
  generalize (2 ^ (8 * r) : Nat) = P at *
  have h1 : y * P ≤ 255 * 72057594037927936 := Nat.mul_le_mul (by omega) (by omega)
  have h2 : (y : Int) * (P : Int) = ((y * P : Nat) : Int) := by simp
  rw [h2]
  generalize y * P = z at *
  have h3 : IntKind.u64.wrap (z : Int) = z := by
    rw [IntKind.wrap_u64]; exact Int.emod_eq_of_lt (by omega) (by omega)
  refine ⟨?_, by omega, by omega⟩
  rw [h3, bits_or_u64_nat _ _ (by omega) (by omega), Nat.or_comm, hsh]
  simp; omega
theorem cells_le {w : World} {a : Option Addr} {d : List Int} (h : 0 < d.length → ∃ b o, a = some ⟨b, o, none⟩ ∧ b < w.heap.size ∧ ∀ k, k < d.length → w.cell? ⟨b, o + k, none⟩ = some (.int .i64 (d.getD k 0))) (k : Nat) (hk : k < d.length) :
    ∃ b o, a = some ⟨b, o, none⟩ ∧ b < w.heap.size ∧ w.cell? ⟨b, o + k, none⟩ = some (.int .i64 (d.getD k 0)) := by
  obtain ⟨b, o, e, hb, hc⟩ := h (by omega)
  exact ⟨b, o, e, hb, hc k hk⟩
theorem valB_split : ∀ (d : List Int) (k : Nat), valB d = valB (d.take k) + 256 ^ k * valB (d.drop k)
  | d, 0 => by simp [valB]
  | [], k + 1 => by simp [valB]
  | x :: r, k + 1 => by
    rw [List.take_succ_cons, List.drop_succ_cons, valB, valB, valB_split r k, Int.pow_succ, Int.mul_add, Int.mul_comm (256 ^ k) 256, Int.mul_assoc]
    have := valB_split r k
    omega
theorem valB_mod (d : List Int) (h : Byt d) (k : Nat) : valB (d.take k) = valB d % 256 ^ k := by
  have h1 := valB_bd (d.take k) (h.take k)
  have h2 : (256 : Int) ^ (d.take k).length ≤ 256 ^ k := Int.pow_le_pow_of_le_right' (by simp; omega)
  rw [valB_split d k, Int.add_mul_emod_self_left, Int.emod_eq_of_lt h1.1 (by omega)]
theorem word_end (d : List Int) (k : Nat) (h : Byt d) (hk : k ≤ 32) (hkd : k ≤ d.length) (he : ¬(k < 32 ∧ k < d.length)) : valB (d.take k) = valB d % T256 := by
  have e : (256 : Int) ^ 32 = T256 := by decide
  rcases Nat.lt_or_ge k 32 with h32 | h32
  · rw [valB_take_all d k (by omega), ← e, ← valB_mod d h 32, valB_take_all d 32 (by omega)]
  · rw [show k = 32 from by omega, valB_mod d h 32, e]
theorem below_drew {w w' : World} (h : Below w.heap.size w w') (n : Nat) : Below w.heap.size w (w'.drewN n) := h.trans ⟨rfl, rfl, rfl, Nat.le_refl _, fun _ _ => rfl⟩
theorem set_drew (w : World) (n : Nat) (a : Addr) (v : Value) : (w.drewN n).setCell a v = (w.setCell a v).drewN n := by
  cases w; rfl
theorem set_new2 (w : World) (o : Obj) (c : Array Value) (t : TypeId) (i n : Nat) (v : Value) : (((w.alloc o).alloc (.cells c t)).drewN n).setCell ⟨w.heap.size + 1, i, none⟩ v = ((w.alloc o).alloc (.cells (c.setIfInBounds i v) t)).drewN n := by
  rw [set_drew, World.setCell_alloc_at _ _ _ _ _ (by simp)]
set_option maxHeartbeats 4000000 in
theorem wordref_any (w : World) (v : Value) (d : List Int) (h : IsN w v d) (l : d.length < 1000) (B : Byt d) :
    Calls Try.prog 51 #[v] w fun e w' => ∃ r0 r1 r2 r3, e = .returned (W4 r0 r1 r2 r3) ∧ L4 r0 r1 r2 r3 ∧ Hid (num r0 r1 r2 r3 = valB d % T256) ∧ Below w.heap.size w w' := by
  obtain ⟨aa, ca, rfl, hca, h⟩ := h
  have HC : Hid _ := cells_le h
  have HB : Hid (Byt d) := B
  clear h B
  unfold W4
  go_enter Try.func51, Try.ntmps51
  go_wp2
  go_loopw [4] (fun i wr => ∃ (k : Nat) (x0 x1 x2 x3 : Int) (n : Nat), k ≤ 32 ∧ k ≤ d.length ∧ i = .int .i64 k ∧ Hid (L4 x0 x1 x2 x3) ∧ Hid (num x0 x1 x2 x3 = valB (d.take k)) ∧ wr = ((w.alloc (.cells #[.int .u64 0, .int .u64 0, .int .u64 0, .int .u64 0] 24)).alloc (.cells #[.int .u64 x0, .int .u64 x1, .int .u64 x2, .int .u64 x3] 24)).drewN n) (fun i _ => 32 - (intOf i).toNat)
  case atStart => exact ⟨0, 0, 0, 0, 0, 0, by omega, by omega, rfl, ⟨⟨by decide, by decide⟩, ⟨by decide, by decide⟩, ⟨by decide, by decide⟩, ⟨by decide, by decide⟩⟩, rfl, rfl⟩
  case round =>
    obtain ⟨k, x0, x1, x2, x3, n, hk, hkl, rfl, hL, hN, rfl⟩ := hrel
    by_cases hgo : k < 32 ∧ k < d.length
    · obtain ⟨h32, hkd⟩ := hgo
      obtain ⟨b, o, rfl, hb, hcell⟩ := HC.out k hkd
      have hy := HB.out k
      obtain ⟨y, hyd⟩ : ∃ y, y = d.getD k 0 := ⟨_, rfl⟩
      rw [← hyd] at hy hcell
      have hlow : num x0 x1 x2 x3 < 256 ^ k := by
        rw [hN.out]
        have h1 := (valB_bd (d.take k) (HB.out.take k)).2
        rw [List.length_take, Nat.min_eq_left hkl] at h1
        exact h1
      rcases (by omega : k < 8 ∨ (8 ≤ k ∧ k < 16) ∨ (16 ≤ k ∧ k < 24) ∨ (24 ≤ k ∧ k < 32)) with h8 | ⟨h8, h8'⟩ | ⟨h8, h8'⟩ | ⟨h8, h8'⟩
      · obtain ⟨r, hr, rfl⟩ : ∃ r, r < 8 ∧ k = 0 + r := ⟨k - 0, by omega, by omega⟩
        have e1 : ((0 + r : Nat) : Int) / 8 = 0 := by omega
        have e2 : ((0 + r : Nat) : Int) % 8 = r := by omega
        have hP := pow8_bd r hr
        have hp : (256 : Int) ^ (0 + r) = 1 * 2 ^ (8 * r) := by rw [Int.pow_add, Int.pow_mul]; rfl
        have hx : 0 ≤ x0 ∧ x0 < 2 ^ (8 * r) := by
          have h1 := hlow
          rw [hp] at h1
          obtain ⟨⟨_, _⟩, ⟨_, _⟩, ⟨_, _⟩, ⟨_, _⟩⟩ := hL.out
          unfold num at h1
          omega
        obtain ⟨hor, hl4⟩ := or_add x0 y r hr hx.1 hx.2 hy.1 hy.2
        have hL2 : Hid (L4 (x0 + y * 2 ^ (8 * r)) x1 x2 x3) := ⟨hl4, hL.out.2.1, hL.out.2.2.1, hL.out.2.2.2⟩
        have hN2 : Hid (num (x0 + y * 2 ^ (8 * r)) x1 x2 x3 = valB (d.take (0 + r + 1))) := by
          show _ = _
          have := hN.out
          rw [valB_take_succ, ← hN.out, ← hyd, hp, Int.mul_assoc, Int.mul_comm (2 ^ (8 * r)) y]
          unfold num; omega
        clear hp hx hlow hl4 hN hP
        generalize hK : ((0 + r : Nat) : Int) = K at *
        have hc : ((w.alloc (.cells #[.int .u64 0, .int .u64 0, .int .u64 0, .int .u64 0] 24)).alloc (.cells #[.int .u64 x0, .int .u64 x1, .int .u64 x2, .int .u64 x3] 24)).cell? ⟨b, o + K.toNat, none⟩ = some (.int .i64 y) := by
          rw [show K.toNat = 0 + r from by omega, World.cell?_alloc_past _ _ _ (by simp; omega), World.cell?_alloc_past _ _ _ hb, hcell]
        have hwy : IntKind.u64.wrap y = y := by rw [IntKind.wrap_u64]; exact Int.emod_eq_of_lt hy.1 (by omega)
        clear hcell hyd HC
        go_wp2
        go_region
        go_wp2
        exact ⟨⟨0 + r + 1, (x0 + y * 2 ^ (8 * r)), x1, x2, x3, _, by omega, by omega, by go_num, hL2, hN2, set_new2 _ _ _ _ _ _ _⟩, by simp [intOf]; omega⟩
      · obtain ⟨r, hr, rfl⟩ : ∃ r, r < 8 ∧ k = 8 + r := ⟨k - 8, by omega, by omega⟩
        have e1 : ((8 + r : Nat) : Int) / 8 = 1 := by omega
        have e2 : ((8 + r : Nat) : Int) % 8 = r := by omega
        have hP := pow8_bd r hr
        have hp : (256 : Int) ^ (8 + r) = 18446744073709551616 * 2 ^ (8 * r) := by rw [Int.pow_add, Int.pow_mul]; rfl
        have hx : 0 ≤ x1 ∧ x1 < 2 ^ (8 * r) := by
          have h1 := hlow
          rw [hp] at h1
          obtain ⟨⟨_, _⟩, ⟨_, _⟩, ⟨_, _⟩, ⟨_, _⟩⟩ := hL.out
          unfold num at h1
          omega
        obtain ⟨hor, hl4⟩ := or_add x1 y r hr hx.1 hx.2 hy.1 hy.2
        have hL2 : Hid (L4 x0 (x1 + y * 2 ^ (8 * r)) x2 x3) := ⟨hL.out.1, hl4, hL.out.2.2.1, hL.out.2.2.2⟩
        have hN2 : Hid (num x0 (x1 + y * 2 ^ (8 * r)) x2 x3 = valB (d.take (8 + r + 1))) := by
          show _ = _
          have := hN.out
          rw [valB_take_succ, ← hN.out, ← hyd, hp, Int.mul_assoc, Int.mul_comm (2 ^ (8 * r)) y]
          unfold num; omega
        clear hp hx hlow hl4 hN hP
        generalize hK : ((8 + r : Nat) : Int) = K at *
        have hc : ((w.alloc (.cells #[.int .u64 0, .int .u64 0, .int .u64 0, .int .u64 0] 24)).alloc (.cells #[.int .u64 x0, .int .u64 x1, .int .u64 x2, .int .u64 x3] 24)).cell? ⟨b, o + K.toNat, none⟩ = some (.int .i64 y) := by
          rw [show K.toNat = 8 + r from by omega, World.cell?_alloc_past _ _ _ (by simp; omega), World.cell?_alloc_past _ _ _ hb, hcell]
        have hwy : IntKind.u64.wrap y = y := by rw [IntKind.wrap_u64]; exact Int.emod_eq_of_lt hy.1 (by omega)
        clear hcell hyd HC
        go_wp2
        go_region
        go_wp2
        exact ⟨⟨8 + r + 1, x0, (x1 + y * 2 ^ (8 * r)), x2, x3, _, by omega, by omega, by go_num, hL2, hN2, set_new2 _ _ _ _ _ _ _⟩, by simp [intOf]; omega⟩
      · obtain ⟨r, hr, rfl⟩ : ∃ r, r < 8 ∧ k = 16 + r := ⟨k - 16, by omega, by omega⟩
        have e1 : ((16 + r : Nat) : Int) / 8 = 2 := by omega
        have e2 : ((16 + r : Nat) : Int) % 8 = r := by omega
        have hP := pow8_bd r hr
        have hp : (256 : Int) ^ (16 + r) = 340282366920938463463374607431768211456 * 2 ^ (8 * r) := by rw [Int.pow_add, Int.pow_mul]; rfl
        have hx : 0 ≤ x2 ∧ x2 < 2 ^ (8 * r) := by
          have h1 := hlow
          rw [hp] at h1
          obtain ⟨⟨_, _⟩, ⟨_, _⟩, ⟨_, _⟩, ⟨_, _⟩⟩ := hL.out
          unfold num at h1
          omega
        obtain ⟨hor, hl4⟩ := or_add x2 y r hr hx.1 hx.2 hy.1 hy.2
        have hL2 : Hid (L4 x0 x1 (x2 + y * 2 ^ (8 * r)) x3) := ⟨hL.out.1, hL.out.2.1, hl4, hL.out.2.2.2⟩
        have hN2 : Hid (num x0 x1 (x2 + y * 2 ^ (8 * r)) x3 = valB (d.take (16 + r + 1))) := by
          show _ = _
          have := hN.out
          rw [valB_take_succ, ← hN.out, ← hyd, hp, Int.mul_assoc, Int.mul_comm (2 ^ (8 * r)) y]
          unfold num; omega
        clear hp hx hlow hl4 hN hP
        generalize hK : ((16 + r : Nat) : Int) = K at *
        have hc : ((w.alloc (.cells #[.int .u64 0, .int .u64 0, .int .u64 0, .int .u64 0] 24)).alloc (.cells #[.int .u64 x0, .int .u64 x1, .int .u64 x2, .int .u64 x3] 24)).cell? ⟨b, o + K.toNat, none⟩ = some (.int .i64 y) := by
          rw [show K.toNat = 16 + r from by omega, World.cell?_alloc_past _ _ _ (by simp; omega), World.cell?_alloc_past _ _ _ hb, hcell]
        have hwy : IntKind.u64.wrap y = y := by rw [IntKind.wrap_u64]; exact Int.emod_eq_of_lt hy.1 (by omega)
        clear hcell hyd HC
        go_wp2
        go_region
        go_wp2
        exact ⟨⟨16 + r + 1, x0, x1, (x2 + y * 2 ^ (8 * r)), x3, _, by omega, by omega, by go_num, hL2, hN2, set_new2 _ _ _ _ _ _ _⟩, by simp [intOf]; omega⟩
      · obtain ⟨r, hr, rfl⟩ : ∃ r, r < 8 ∧ k = 24 + r := ⟨k - 24, by omega, by omega⟩
        have e1 : ((24 + r : Nat) : Int) / 8 = 3 := by omega
        have e2 : ((24 + r : Nat) : Int) % 8 = r := by omega
        have hP := pow8_bd r hr
        have hp : (256 : Int) ^ (24 + r) = 6277101735386680763835789423207666416102355444464034512896 * 2 ^ (8 * r) := by rw [Int.pow_add, Int.pow_mul]; rfl
        have hx : 0 ≤ x3 ∧ x3 < 2 ^ (8 * r) := by
          have h1 := hlow
          rw [hp] at h1
          obtain ⟨⟨_, _⟩, ⟨_, _⟩, ⟨_, _⟩, ⟨_, _⟩⟩ := hL.out
          unfold num at h1
          omega
        obtain ⟨hor, hl4⟩ := or_add x3 y r hr hx.1 hx.2 hy.1 hy.2
        have hL2 : Hid (L4 x0 x1 x2 (x3 + y * 2 ^ (8 * r))) := ⟨hL.out.1, hL.out.2.1, hL.out.2.2.1, hl4⟩
        have hN2 : Hid (num x0 x1 x2 (x3 + y * 2 ^ (8 * r)) = valB (d.take (24 + r + 1))) := by
          show _ = _
          have := hN.out
          rw [valB_take_succ, ← hN.out, ← hyd, hp, Int.mul_assoc, Int.mul_comm (2 ^ (8 * r)) y]
          unfold num; omega
        clear hp hx hlow hl4 hN hP
        generalize hK : ((24 + r : Nat) : Int) = K at *
        have hc : ((w.alloc (.cells #[.int .u64 0, .int .u64 0, .int .u64 0, .int .u64 0] 24)).alloc (.cells #[.int .u64 x0, .int .u64 x1, .int .u64 x2, .int .u64 x3] 24)).cell? ⟨b, o + K.toNat, none⟩ = some (.int .i64 y) := by
          rw [show K.toNat = 24 + r from by omega, World.cell?_alloc_past _ _ _ (by simp; omega), World.cell?_alloc_past _ _ _ hb, hcell]
        have hwy : IntKind.u64.wrap y = y := by rw [IntKind.wrap_u64]; exact Int.emod_eq_of_lt hy.1 (by omega)
        clear hcell hyd HC
        go_wp2
        go_region
        go_wp2
        exact ⟨⟨24 + r + 1, x0, x1, x2, (x3 + y * 2 ^ (8 * r)), _, by omega, by omega, by go_num, hL2, hN2, set_new2 _ _ _ _ _ _ _⟩, by simp [intOf]; omega⟩
    · have HE : Hid (num x0 x1 x2 x3 = valB d % T256) := hN.out.trans (word_end d k HB.out hk hkl (by omega))
      have HL : Hid (L4 x0 x1 x2 x3) := hL
      clear hN hL
      have hBW : Below w.heap.size w (((w.alloc (.cells #[.int .u64 0, .int .u64 0, .int .u64 0, .int .u64 0] 24)).alloc (.cells #[.int .u64 x0, .int .u64 x1, .int .u64 x2, .int .u64 x3] 24)).drewN n) := below_drew (by go_grown) n
      rcases Nat.lt_or_ge k 32 with h32 | h32
      · have hkd : k = d.length := by omega
        subst hkd
        go_wp2
        go_returns
        exact ⟨x0, x1, x2, x3, rfl, HL.out, HE, by go_grown⟩
      · have h32' : k = 32 := by omega
        subst h32'
        go_wp2
        go_returns
        exact ⟨x0, x1, x2, x3, rfl, HL.out, HE, by go_grown⟩
end Go.Proofs.Ytmflilgppllebaa
