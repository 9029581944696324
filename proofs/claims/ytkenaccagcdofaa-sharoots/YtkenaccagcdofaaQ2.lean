/- conclaveref03.Root. -/
import Derived.Test.YtkenaccagcdofaaQ1
import Derived.Test.YtkenaccagcdofaaG0
namespace Go.Proofs.Ytkenaccagcdofaa
open Go.RowKit
set_option linter.unusedSimpArgs false
set_option linter.unusedVariables false

/-- The whole part of the root. -/
def whl (g i : Nat) : Nat := if g = 2 then ([1, 1, 2, 2, 3, 3, 4, 4, 4, 5, 5, 6, 6, 6, 6, 7, 7, 7, 8, 8, 8, 8, 9, 9, 9, 10, 10, 10, 10, 10, 11, 11, 11, 11, 12, 12, 12, 12, 12, 13, 13, 13, 13, 13, 14, 14, 14, 14, 15, 15, 15, 15, 15, 15, 16, 16, 16, 16, 16, 16, 16, 17, 17, 17, 17, 17, 18, 18, 18, 18, 18, 18, 19, 19, 19, 19, 19, 19, 20, 20] : List Nat).getD i 0 else ([1, 1, 1, 1, 2, 2, 2, 2, 2, 3, 3, 3, 3, 3, 3, 3, 3, 3, 4, 4, 4, 4, 4, 4, 4, 4, 4, 4, 4, 4, 5, 5, 5, 5, 5, 5, 5, 5, 5, 5, 5, 5, 5, 5, 5, 5, 5, 6, 6, 6, 6, 6, 6, 6, 6, 6, 6, 6, 6, 6, 6, 6, 6, 6, 6, 6, 6, 6, 7, 7, 7, 7, 7, 7, 7, 7, 7, 7, 7, 7] : List Nat).getD i 0
theorem whl_all : ([2, 3] : List Nat).all (fun g => (List.range 80).all fun i => decide (whl g i ^ g ≤ pr i) && decide (pr i < (whl g i + 1) ^ g) && decide (whl g i ≤ 20)) = true := by decide +kernel
theorem whl_spec (g i : Nat) (hg : g = 2 ∨ g = 3) (hi : i < 80) : whl g i ^ g ≤ pr i ∧ pr i < (whl g i + 1) ^ g ∧ whl g i ≤ 20 := by
  have h := List.all_eq_true.1 (List.all_eq_true.1 whl_all g (by rcases hg with rfl | rfl <;> simp)) i (by simpa using hi)
  simp at h
  exact ⟨h.1.1, h.1.2, h.2⟩
/-- Is k what stands behind the point of the root of the prime i of degree g? -/
def isRoot (i g k : Nat) : Bool :=
  decide (((k : Int) + 18446744073709551616 * (whl g i : Int)) ^ g ≤ (pr i : Int) * 2 ^ (64 * g)) && decide ((pr i : Int) * 2 ^ (64 * g) < ((k : Int) + 18446744073709551616 * (whl g i : Int) + 1) ^ g)
/-- The bytes of a number of 64 bits, the lowest first. -/
def lowB (k : Nat) : Nat → List Int
  | 0 => []
  | c + 1 => lowB k c ++ [((k / 2 ^ (8 * c) % 256 : Nat) : Int)]
theorem lowB_length (k : Nat) : ∀ c, (lowB k c).length = c
  | 0 => rfl
  | c + 1 => by simp [lowB, lowB_length k c]
theorem lowB_byt (k : Nat) : ∀ c, Byt (lowB k c)
  | 0 => byt_nil
  | c + 1 => (lowB_byt k c).append (by omega) (by omega)
theorem lowB_val (k : Nat) : ∀ c, valB (lowB k c) = ((k % 2 ^ (8 * c) : Nat) : Int)
  | 0 => by simp [lowB, valB, Nat.mod_one]
  | c + 1 => by
    rw [lowB, valB_append, lowB_val k c, lowB_length]
    have e1 : (256 : Int) ^ c = ((2 ^ (8 * c) : Nat) : Int) := by
      rw [Nat.pow_mul]; simp
    have e2 : (2 : Nat) ^ (8 * (c + 1)) = 2 ^ (8 * c) * 256 := by rw [Nat.mul_add, Nat.pow_add]
    rw [e1, ← Int.natCast_mul, ← Int.natCast_add, e2, Nat.mod_mul]
/-- The value of one digit at the top. -/
theorem top_val (k W : Nat) (hk : k < 18446744073709551616) : valB (lowB k 8 ++ [(W : Int)]) = (k : Int) + 18446744073709551616 * (W : Int) := by
  rw [valB_append, lowB_val, lowB_length, show (2 : Nat) ^ (8 * 8) = 18446744073709551616 from by decide, Nat.mod_eq_of_lt hk]
  have : (256 : Int) ^ 8 = 18446744073709551616 := by decide
  rw [this]
theorem is_one (w : World) (x : Int) : IsN (w.alloc (.cells #[.int .i64 x] 3)) (.slice (some ⟨w.heap.size, 0, none⟩) 1 1) [x] := by
  refine ⟨_, 1, rfl, Nat.le_refl _, fun _ => ⟨w.heap.size, 0, rfl, by simp, fun k hk => ?_⟩⟩
  obtain rfl : k = 0 := by simpa using hk
  rw [cell_of_row _ w.heap.size (0 + 0) _ 3 (0, 0) (heap_alloc_new _ _)]
  rfl
theorem is_two (w : World) (x y : Int) : IsN (w.alloc (.cells #[.int .i64 x, .int .i64 y] 3)) (.slice (some ⟨w.heap.size, 0, none⟩) 2 2) [x, y] := by
  refine ⟨_, 2, rfl, Nat.le_refl _, fun _ => ⟨w.heap.size, 0, rfl, by simp, fun k hk => ?_⟩⟩
  rw [cell_of_row _ w.heap.size (0 + k) _ 3 (0, 0) (heap_alloc_new _ _), Nat.zero_add]
  match k, hk with
  | 0, _ => rfl
  | 1, _ => rfl
theorem byt_one (x : Int) (h0 : 0 ≤ x) (h1 : x < 256) : Byt [x] := byt_nil.append (d := []) h0 h1
theorem byt_two (x y : Int) (h0 : 0 ≤ x) (h1 : x < 256) (h2 : 0 ≤ y) (h3 : y < 256) : Byt [x, y] := (byt_one x h0 h1).append (d := [x]) h2 h3
theorem pow_mono {a b : Nat} (h : a ≤ b) (g : Nat) : a ^ g ≤ b ^ g := Nat.pow_le_pow_left h g
theorem cmp_le (x y : Int) : decide (cmpN x y ≤ 0) = decide (x ≤ y) := by
  unfold cmpN
  by_cases h1 : x < y
  · rw [if_pos h1]; simp; omega
  · rw [if_neg h1]
    by_cases h2 : y < x
    · rw [if_pos h2]; simp; omega
    · rw [if_neg h2]; simp; omega
theorem cmp_gt (x y : Int) : decide (0 < cmpN x y) = decide (y < x) := by
  unfold cmpN
  by_cases h1 : x < y
  · rw [if_pos h1]; simp; omega
  · rw [if_neg h1]
    by_cases h2 : y < x
    · rw [if_pos h2]; simp; omega
    · rw [if_neg h2]; simp; omega
theorem and_byte (y : Nat) : bits .and .i64 (wrap64 (y : Int)) 255 = (y : Int) % 256 := by
  have h255 : (BitVec.ofInt 64 255).toNat = 2 ^ 8 - 1 := by decide
  have key : ∀ n : Int, (BitVec.ofInt 64 n &&& BitVec.ofInt 64 255).toNat = (n % ((2 ^ 64 : Nat) : Int)).toNat % 2 ^ 8 := fun n => by
    rw [BitVec.toNat_and, BitVec.toNat_ofInt, h255, Nat.and_two_pow_sub_one_eq_mod]
  show IntKind.i64.wrap ((BitVec.ofInt 64 (wrap64 (y : Int)) &&& BitVec.ofInt 64 255).toNat : Nat) = (y : Int) % 256
  rw [key, IntKind.wrap_i64]
  unfold wrap64
  omega
/-- A number that lies in memory. -/
def Num (w : World) (v : Value) (L : Nat) (x : Int) : Prop := ∃ d, IsN w v d ∧ Byt d ∧ d.length ≤ L ∧ valB d = x
theorem Num.below {w w' : World} {v : Value} {L : Nat} {x : Int} (h : Num w v L x) (hb : Below w.heap.size w w') : Num w' v L x := by
  obtain ⟨d, h1, h2, h3, h4⟩ := h; exact ⟨d, h1.below hb, h2, h3, h4⟩
theorem times_num (w : World) (va vb : Value) (La Lb : Nat) (x y : Int) (ha : Num w va La x) (hb : Num w vb Lb y) (la : La < 400) (lb : Lb < 400) :
    Calls Try.prog 22 #[va, vb] w fun e w' => ∃ v, e = .returned v ∧ Num w' v (La + Lb + 1) (x * y) ∧ Below w.heap.size w w' := by
  obtain ⟨a, a1, a2, a3, a4⟩ := ha
  obtain ⟨b, b1, b2, b3, b4⟩ := hb
  refine (times_any w va vb a b a1 b1 (by omega) (by omega) a2 b2).mono ?_
  rintro e w' ⟨v, d, rfl, h1, h2, h3, h4, h5⟩
  exact ⟨v, rfl, ⟨d, h1, h2, by omega, by rw [h4.out, a4, b4]⟩, h5⟩
theorem cmp_num (w : World) (va vb : Value) (La Lb : Nat) (x y : Int) (ha : Num w va La x) (hb : Num w vb Lb y) (la : La < 400) (lb : Lb < 400) :
    Calls Try.prog 24 #[va, vb] w fun e w' => e = .returned (.int .i64 (cmpN x y)) ∧ w' = w := by
  obtain ⟨a, a1, a2, a3, a4⟩ := ha
  obtain ⟨b, b1, b2, b3, b4⟩ := hb
  have h := cmpref_any w va vb a b a1 b1 (by omega) (by omega) a2 b2
  rw [a4, b4] at h
  exact h
theorem slice_num {w : World} {v : Value} {L : Nat} {x : Int} (h : Num w v L x) : ∃ a n c, v = .slice a n c := by
  obtain ⟨d, ⟨a, c, rfl, _⟩, _⟩ := h; exact ⟨a, _, c, rfl⟩
theorem Num.le {w : World} {v : Value} {L M : Nat} {x : Int} (h : Num w v L x) (hl : L ≤ M) : Num w v M x := by
  obtain ⟨d, h1, h2, h3, h4⟩ := h; exact ⟨d, h1, h2, by omega, h4⟩
theorem plus_num (w : World) (va vb : Value) (La : Nat) (x : Int) (ha : Num w va La x) (hb : Num w vb 1 1) (la : La < 400) (l1 : 1 ≤ La) :
    Calls Try.prog 21 #[va, vb] w fun e w' => ∃ v, e = .returned v ∧ Num w' v (La + 1) (x + 1) ∧ Below w.heap.size w w' := by
  obtain ⟨a, a1, a2, a3, a4⟩ := ha
  obtain ⟨b, b1, b2, b3, b4⟩ := hb
  refine (plus_any w va vb a b a1 b1 (by omega) (by omega) a2 b2).mono ?_
  rintro e w' ⟨v, d, rfl, h1, h2, h3, h4, h5⟩
  exact ⟨v, rfl, ⟨d, h1, h2, by omega, by rw [h4.out, a4, b4]⟩, h5⟩
theorem trim_num (w : World) (v : Value) (d : List Int) (h : IsN w v d) (h0 : 0 < d.length) (hd : d.length < 400) (hB : Byt d) :
    Calls Try.prog 20 #[v] w fun e w' => ∃ v', e = .returned v' ∧ Num w' v' d.length (valB d) ∧ Below w.heap.size w w' := by
  refine (trim_any w v d h h0 (by omega) hB).mono ?_
  rintro e w' ⟨v', d', rfl, h1, h2, h3, h4, h5⟩
  exact ⟨v', rfl, ⟨d', h1, h2, h3, h4.out⟩, h5⟩
theorem power_num (n : Nat) (hn : n < 2000) (w : World) :
    Calls Try.prog 23 #[.int .i64 n] w fun e w' => ∃ v, e = .returned v ∧ Num w' v (n / 8 + 1) (2 ^ n) ∧ Below w.heap.size w w' := by
  refine (power_any n hn w).mono ?_
  rintro e w' ⟨v, d, rfl, h1, h2, h3, h4, h5⟩
  exact ⟨v, rfl, ⟨d, h1, h2, by omega, h4.out⟩, h5⟩
theorem one_num (w : World) : Num (w.alloc (.cells #[.int .i64 1] 3)) (.slice (some ⟨w.heap.size, 0, none⟩) 1 1) 1 1 := ⟨[1], is_one w 1, byt_one 1 (by decide) (by decide), Nat.le_refl _, rfl⟩
/-- The worlds of the powers' loop. -/
def Rt (w : World) (vx vy a b : Value) (X : Int) (d : Nat) (wr : World) : Prop :=
  Num wr vx 9 X ∧ Num wr vy 10 (X + 1) ∧ Num wr a (1 + 12 * d) (X ^ d) ∧ Num wr b (1 + 12 * d) ((X + 1) ^ d) ∧ Below w.heap.size w wr
theorem Rt.bel {w : World} {vx vy a b : Value} {X : Int} {d : Nat} {u v : World} (h : Rt w vx vy a b X d u) (hb : Below u.heap.size u v) : Rt w vx vy a b X d v :=
  ⟨h.1.below hb, h.2.1.below hb, h.2.2.1.below hb, h.2.2.2.1.below hb, h.2.2.2.2.trans (hb.mono h.2.2.2.2.size)⟩
set_option maxRecDepth 20000 in
set_option maxHeartbeats 4000000 in
theorem root_any (i g k : Nat) (hi : i < 80) (hg : g = 2 ∨ g = 3) (hk : k < 18446744073709551616) (w : World) :
    Calls Try.prog 11 #[.int .i64 (i : Int), .int .i64 (g : Int), .int .u64 (k : Int)] w fun e w' => e = .returned (.bool (isRoot i g k)) ∧ Below w.heap.size w w' := by
  obtain ⟨hw1, hw2, hw3⟩ := whl_spec g i hg hi
  obtain ⟨_, _, hp3, hp4⟩ := pr_tab i hi
  have HPR : Hid (∀ w, Calls Try.prog 19 #[.int .i64 (i : Int)] w fun e w' => e = .returned (.int .i64 (pr i : Int)) ∧ w' = w) := fun w => prime_any i hi w
  have HRES : Hid (isRoot i g k = (decide (((k : Int) + 18446744073709551616 * (whl g i : Int)) ^ g ≤ (pr i : Int) * 2 ^ (64 * g)) && decide ((pr i : Int) * 2 ^ (64 * g) < ((k : Int) + 18446744073709551616 * (whl g i : Int) + 1) ^ g))) := rfl
  generalize isRoot i g k = R at HRES ⊢
  generalize whl g i = W at *
  generalize pr i = p at *
  have HW : Hid (W ^ g ≤ p ∧ p < (W + 1) ^ g) := ⟨hw1, hw2⟩
  have hg2 : 2 ≤ g ∧ g ≤ 3 := by omega
  clear hw1 hw2 hg
  obtain ⟨hg2, hg3⟩ := hg2
  go_enter Try.func11, Try.ntmps11
  go_wp2_with (go_at_call 19; refine Calls.mono (HPR.out _) ?_; rintro e w' ⟨rfl, hs⟩; obtain rfl := hs.symm)
  clear HPR
  go_loop [8] (fun a => ∃ x : Nat, x ≤ W ∧ a = .int .i64 (x : Int)) (fun a => 500 - (intOf a).toNat)
  case atStart => exact ⟨0, by omega, rfl⟩
  case round =>
    obtain ⟨x, hx, rfl⟩ := hrel
    go_wp2
    go_loop [9, 10] (fun a b => ∃ d : Nat, d ≤ g ∧ a = .int .i64 (((x + 1) ^ d : Nat) : Int) ∧ b = .int .i64 (d : Int)) (fun a b => 500 - (intOf b).toNat)
    case atStart => exact ⟨0, by omega, by simp, rfl⟩
    case round =>
      obtain ⟨d, hd, rfl, rfl⟩ := hrel
      obtain ⟨q, hq⟩ : ∃ q, q = (x + 1) ^ d := ⟨_, rfl⟩
      rw [← hq]
      by_cases hlt : d < g
      · have hq1 : q ≤ 21 ^ 2 := by rw [hq]; exact Nat.le_trans (Nat.pow_le_pow_left (by omega) d) (Nat.pow_le_pow_right (by decide) (by omega))
        have hqm : q * (x + 1) ≤ 441 * 21 := Nat.mul_le_mul hq1 (by omega)
        have HM : Hid (((x + 1) ^ (d + 1) : Nat) = q * (x + 1)) := by show _ = _; rw [hq, Nat.pow_succ]
        have hcast : (q : Int) * ((x : Int) + 1) = ((q * (x + 1) : Nat) : Int) := by simp
        have hb1 : (q : Int) * ((x : Int) + 1) ≤ 9261 := by rw [hcast]; omega
        have hb0 : 0 ≤ (q : Int) * ((x : Int) + 1) := by rw [hcast]; omega
        have HCA : Hid ((q : Int) * ((x : Int) + 1) = ((q * (x + 1) : Nat) : Int)) := hcast
        clear hcast hqm hq
        have hdi : (d : Int) < (g : Int) := by omega
        go_wp2
        exact ⟨⟨d + 1, by omega, by rw [HM.out, ← HCA.out], by go_num⟩, by simp [intOf]; omega⟩
      · have hdg : d = g := by omega
        rw [hdg] at hq
        have hdi : ¬ (d : Int) < (g : Int) := by omega
        by_cases hxW : x < W
        · have hle : q ≤ p := by rw [hq]; exact Nat.le_trans (Nat.pow_le_pow_left (show x + 1 ≤ W by omega) g) HW.out.1
          have hli : ¬ (p : Int) < (q : Int) := by omega
          clear hq hdg
          go_wp2
          exact ⟨⟨x + 1, by omega, by go_num⟩, by simp [intOf]; omega⟩
        · obtain rfl : x = W := by omega
          have hlp : p < q := by rw [hq]; exact HW.out.2
          have hli : (p : Int) < (q : Int) := by omega
          clear hq hdg hlp hxW HW
          obtain ⟨i0, hi3, hz0, hz1, hz2⟩ := info_parts Try.info3
          have HI : Hid _ := hi3
          clear hi3
          go_wp2
          clear hli hdi hlt hd
          go_loopw [11, 12] (fun s c wr => ∃ m : Nat, m ≤ 8 ∧ c = .int .i64 (m : Int) ∧ wr.ownsRow w.heap.size 3 1 s m ((lowB k m).map (Value.int .i64)) ∧ Below w.heap.size w wr) (fun _ c _ => 500 - (intOf c).toNat)
          case atStart => exact ⟨0, by omega, rfl, World.ownsRow_nil _ _ _ _, Below.refl _ _⟩
          case round =>
            obtain ⟨m, hm, rfl, hown, hbw⟩ := hrel
            have hsz : w.heap.size ≤ wr.heap.size := hbw.size
            have HO : Hid (wr.ownsRow w.heap.size 3 1 u11 m ((lowB k m).map (Value.int .i64)) ∧ Below w.heap.size w wr) := ⟨hown, hbw⟩
            clear hown hbw
            by_cases hlt : m < 8
            · have hn1 : (8 * (m : Int)).toNat = 8 * m := by omega
              have hn2 : IntKind.u64.wrap (8 * (m : Int)) = 8 * (m : Int) := by rw [IntKind.wrap_u64]; omega
              obtain ⟨y, hy⟩ : ∃ y : Nat, y = k / 2 ^ (8 * m) := ⟨_, rfl⟩
              have hyl : y < 18446744073709551616 := by rw [hy]; exact Nat.lt_of_le_of_lt (Nat.div_le_self _ _) hk
              have hdv : (k : Int) / 2 ^ (8 * m) = (y : Int) := by rw [hy]; simp
              have hand : bits .and .i64 (wrap64 (y : Int)) 255 = (y : Int) % 256 := and_byte y
              have HL : Hid (lowB k (m + 1) = lowB k m ++ [(y : Int) % 256]) := by show _ = _; rw [hy]; rfl
              clear hy
              go_wp2_with (first | (at_builtin; go_must (refine wpList_append_own _ rfl _ _ 45 rfl w.heap.size 3 i0 (.int .i64 0) 1 8 Try.underlying45 HI.out hz0 hz1 hz2 rfl (by decide) _ _ _ rfl (World.ownsRow.alloc HO.out.1 _) ⟨wr.heap.size, 0, none⟩ 1 1 [.int .i64 ((y : Int) % 256)] rfl rfl ?c10 ?c20 ?c30 ?c40 ?c50 ?_)))
              any_goals (first
                | (intro q u hq; exact one_cell hq)
                | (intro u hu; simp at hu; subst hu; rfl)
                | rfl
                | (unfold maxLen; omega)
                | omega
                | (simp; omega))
              intro v' w1 hown' hg hnn
              have HP : Hid (w1.ownsRow w.heap.size 3 1 v' (m + 1) ((lowB k (m + 1)).map (Value.int .i64)) ∧ Below w.heap.size w w1) := ⟨by rw [HL.out, List.map_append]; exact hown', of_grown HO.out.2 hg (fun q e => (HO.out.1.lt q e).1) hsz⟩
              clear hown' hg hnn hand hdv hn1 hn2
              go_wp2
              go_roundw
              case rel => exact ⟨m + 1, by omega, by go_num, HP.out.1, HP.out.2⟩
              case measure => simp [intOf]; omega
            · have hm8 : m = 8 := by omega
              have hmi : ¬ (m : Int) < 8 := by omega
              have HO8 : Hid (wr.ownsRow w.heap.size 3 1 u11 8 ((lowB k 8).map (Value.int .i64)) ∧ Below w.heap.size w wr) := hm8 ▸ HO.out
              clear HO hm8
              go_wp2_with (first | (at_builtin; go_must (refine wpList_append_own _ rfl _ _ 45 rfl w.heap.size 3 i0 (.int .i64 0) 1 8 Try.underlying45 HI.out hz0 hz1 hz2 rfl (by decide) _ _ _ rfl (World.ownsRow.alloc HO8.out.1 _) ⟨wr.heap.size, 0, none⟩ 1 1 [.int .i64 (x : Int)] rfl rfl ?c11 ?c21 ?c31 ?c41 ?c51 ?_)))
              any_goals (first
                | (intro q u hq; exact one_cell hq)
                | (intro u hu; simp at hu; subst hu; rfl)
                | rfl
                | (unfold maxLen; omega)
                | omega
                | (simp; omega))
              intro v' w1 hown' hg hnn
              have hTN : IsN w1 v' (lowB k 8 ++ [(x : Int)]) := IsN.of_owns (by rw [List.map_append]; exact hown')
              have HB1 : Hid (Below w.heap.size w w1) := of_grown HO8.out.2 hg (fun q e => (HO8.out.1.lt q e).1) hsz
              obtain ⟨X, hX⟩ : ∃ X : Int, X = (k : Int) + 18446744073709551616 * (x : Int) := ⟨_, rfl⟩
              have HTR := trim_num w1 v' _ hTN (by simp) (by simp [lowB_length]) ((lowB_byt k 8).append (by omega) (by omega))
              rw [top_val k x hk, ← hX, show (lowB k 8 ++ [(x : Int)]).length = 9 from by simp [lowB_length]] at HTR
              rw [← hX] at HRES
              have HT : Hid _ := HTR
              clear hown' hg hnn HO8 hTN HTR hsz hX
              go_wp2_with fail
              refine Calls.mono HT.out ?_
              rintro e w2 ⟨vx, rfl, hNx, hb2⟩
              have HB2 : Hid (Below w.heap.size w w2) := HB1.out.trans (hb2.mono HB1.out.size)
              have HNx : Hid (Num w2 vx 9 X) := hNx
              clear HT hb2 hNx HB1
              go_wp2_with fail
              have h1b : Below w2.heap.size w2 (w2.alloc (.cells #[.int .i64 1] 3)) := by go_grown
              refine (plus_num _ _ _ 9 X (HNx.out.below h1b) (one_num w2) (by decide) (by decide)).mono ?_
              rintro e w3 ⟨vy, rfl, hNy, hb3⟩
              have hb4 : Below w2.heap.size w2 w3 := h1b.trans (hb3.mono h1b.size)
              have H3 : Hid (Num w3 vx 9 X ∧ Num w3 vy 10 (X + 1) ∧ Below w.heap.size w w3) := ⟨HNx.out.below hb4, hNy, HB2.out.trans (hb4.mono HB2.out.size)⟩
              clear h1b hNy hb3 hb4 HNx HB2
              go_wp2
              have hg1 : Below w3.heap.size w3 ((w3.alloc (.cells #[.int .i64 1] 3)).alloc (.cells #[.int .i64 1] 3)) := by go_grown
              have HS : Hid (Rt w vx vy (.slice (some ⟨w3.heap.size, 0, none⟩) 1 1) (.slice (some ⟨w3.heap.size + 1, 0, none⟩) 1 1) X 0 ((w3.alloc (.cells #[.int .i64 1] 3)).alloc (.cells #[.int .i64 1] 3))) :=
                ⟨H3.out.1.below hg1, H3.out.2.1.below hg1, by have h := (one_num w3).below ((Below.refl _ _).alloc (Nat.le_refl _) (.cells #[.int .i64 1] 3)); simpa using h, by have h := one_num (w3.alloc (.cells #[.int .i64 1] 3)); simpa using h, H3.out.2.2.trans (hg1.mono H3.out.2.2.size)⟩
              clear hg1 H3
              generalize (w3.alloc (.cells #[.int .i64 1] 3)).alloc (.cells #[.int .i64 1] 3) = w4 at HS ⊢
              clear hmi hlt hm
              go_loopw [15, 16, 17] (fun a b c wr => ∃ d : Nat, d ≤ g ∧ c = .int .i64 (d : Int) ∧ Rt w vx vy a b X d wr) (fun _ _ c _ => 500 - (intOf c).toNat)
              case atStart => exact ⟨0, by omega, rfl, HS.out⟩
              case round =>
                obtain ⟨d, hd, rfl, hin⟩ := hrel
                clear HS
                have H1 : Hid (Rt w vx vy u15 u16 X d wr) := hin
                clear hin
                by_cases hlt : d < g
                · have hdi : decide ((d : Int) < (g : Int)) = true := by simp; omega
                  go_wp2_with fail
                  refine (times_num _ _ _ (1 + 12 * d) 9 (X ^ d) X H1.out.2.2.1 H1.out.1 (by omega) (by decide)).mono ?_
                  rintro e w5 ⟨va, rfl, hNa, hb5⟩
                  have H2 : Hid (Rt w vx vy u15 u16 X d w5 ∧ Num w5 va (1 + 12 * (d + 1)) (X ^ (d + 1))) := ⟨H1.out.bel hb5, by rw [Int.pow_succ]; exact hNa.le (by omega)⟩
                  clear hNa hb5 H1
                  go_wp2_with fail
                  refine (times_num _ _ _ (1 + 12 * d) 10 ((X + 1) ^ d) (X + 1) H2.out.1.2.2.2.1 H2.out.1.2.1 (by omega) (by decide)).mono ?_
                  rintro e w6 ⟨vb, rfl, hNb, hb6⟩
                  have H3 : Hid (Rt w vx vy va vb X (d + 1) w6) := ⟨H2.out.1.1.below hb6, H2.out.1.2.1.below hb6, H2.out.2.below hb6, by rw [Int.pow_succ]; exact hNb.le (by omega), H2.out.1.2.2.2.2.trans (hb6.mono H2.out.1.2.2.2.2.size)⟩
                  clear hNb hb6 H2
                  go_wp2
                  go_roundw
                  case rel => exact ⟨d + 1, by omega, by go_num, H3.out⟩
                  case measure => simp [intOf]; omega
                · have hdi : decide ((d : Int) < (g : Int)) = false := by simp; omega
                  have hdi2 : (g : Int) ≤ (d : Int) := by omega
                  have hdg : d = g := by omega
                  have H2 : Hid (Num wr u15 37 (X ^ g) ∧ Num wr u16 37 ((X + 1) ^ g) ∧ Below w.heap.size w wr) := by
                    have h := H1.out
                    rw [hdg] at h
                    exact ⟨h.2.2.1.le (by omega), h.2.2.2.1.le (by omega), h.2.2.2.2⟩
                  clear H1 hdg
                  have HPm : Hid (valB [(p : Int) % 256, (p : Int) / 256] = (p : Int)) := by
                    show (p : Int) % 256 + 256 * ((p : Int) / 256 + 256 * 0) = _
                    omega
                  go_wp2_with fail
                  have h1b : Below wr.heap.size wr (wr.alloc (.cells #[.int .i64 ((p : Int) % 256), .int .i64 ((p : Int) / 256)] 3)) := by go_grown
                  refine (trim_num _ _ [(p : Int) % 256, (p : Int) / 256] (is_two _ _ _) (by simp) (by simp) (byt_two _ _ (by omega) (by omega) (by omega) (by omega))).mono ?_
                  rintro e w5 ⟨vp, rfl, hNp, hb5⟩
                  rw [HPm.out] at hNp
                  have hb6 : Below wr.heap.size wr w5 := h1b.trans (hb5.mono h1b.size)
                  have H3 : Hid (Num w5 u15 37 (X ^ g) ∧ Num w5 u16 37 ((X + 1) ^ g) ∧ Below w.heap.size w w5 ∧ Num w5 vp 2 (p : Int)) := ⟨H2.out.1.below hb6, H2.out.2.1.below hb6, H2.out.2.2.trans (hb6.mono H2.out.2.2.size), hNp⟩
                  clear h1b hNp hb5 hb6 H2 HPm
                  go_wp2_with fail
                  refine (power_num (64 * g) (by omega) _).mono ?_
                  rintro e w6 ⟨vq, rfl, hNq, hb6⟩
                  have H4 : Hid (Num w6 u15 37 (X ^ g) ∧ Num w6 u16 37 ((X + 1) ^ g) ∧ Below w.heap.size w w6 ∧ Num w6 vp 2 (p : Int) ∧ Num w6 vq 30 (2 ^ (64 * g))) := ⟨H3.out.1.below hb6, H3.out.2.1.below hb6, H3.out.2.2.1.trans (hb6.mono H3.out.2.2.1.size), H3.out.2.2.2.below hb6, hNq.le (by omega)⟩
                  clear hNq hb6 H3
                  go_wp2_with fail
                  refine (times_num _ _ _ 2 30 _ _ H4.out.2.2.2.1 H4.out.2.2.2.2 (by decide) (by decide)).mono ?_
                  rintro e w7 ⟨vw, rfl, hNw, hb7⟩
                  have H5 : Hid (Num w7 u15 37 (X ^ g) ∧ Num w7 u16 37 ((X + 1) ^ g) ∧ Below w.heap.size w w7 ∧ Num w7 vw 33 ((p : Int) * 2 ^ (64 * g))) := ⟨H4.out.1.below hb7, H4.out.2.1.below hb7, H4.out.2.2.1.trans (hb7.mono H4.out.2.2.1.size), hNw⟩
                  clear hNw hb7 H4
                  generalize X ^ g = A at H5 HRES
                  generalize (X + 1) ^ g = B at H5 HRES
                  generalize (p : Int) * 2 ^ (64 * g) = C at H5 HRES
                  have hc1 := cmp_le A C
                  have hc2 := cmp_gt B C
                  have HC1 : Hid (∀ w', w' = w7 → Calls Try.prog 24 #[u15, vw] w' fun e w'' => e = .returned (.int .i64 (cmpN A C)) ∧ w'' = w') := fun w' e => by subst e; exact cmp_num _ _ _ 37 33 A C H5.out.1 H5.out.2.2.2 (by decide) (by decide)
                  have HC2 : Hid (∀ w', w' = w7 → Calls Try.prog 24 #[u16, vw] w' fun e w'' => e = .returned (.int .i64 (cmpN B C)) ∧ w'' = w') := fun w' e => by subst e; exact cmp_num _ _ _ 37 33 B C H5.out.2.1 H5.out.2.2.2 (by decide) (by decide)
                  generalize cmpN A C = c1 at hc1 HC1
                  generalize cmpN B C = c2 at hc2 HC2
                  cases hA : decide (A ≤ C) with
                  | false =>
                    rw [hA] at hc1 HRES
                    go_wp2_with fail
                    refine Calls.mono (HC1.out _ rfl) ?_
                    rintro e w8 ⟨rfl, hs⟩
                    obtain rfl := hs.symm
                    have hc3 : ¬ c1 ≤ 0 := of_decide_eq_false hc1
                    go_wp2
                    go_ret
                    exact ⟨by rw [HRES.out]; rfl, H5.out.2.2.1⟩
                  | true =>
                    rw [hA] at hc1 HRES
                    go_wp2_with fail
                    refine Calls.mono (HC1.out _ rfl) ?_
                    rintro e w8 ⟨rfl, hs⟩
                    obtain rfl := hs.symm
                    have hc3 : c1 ≤ 0 := of_decide_eq_true hc1
                    go_wp2_with (first | (go_at_call 24; refine Calls.mono (HC2.out _ rfl) ?_; rintro e w9 ⟨rfl, hs⟩; obtain rfl := hs.symm))
                    go_ret
                    exact ⟨by rw [HRES.out, ← hc2]; rfl, H5.out.2.2.1⟩
end Go.Proofs.Ytkenaccagcdofaa
