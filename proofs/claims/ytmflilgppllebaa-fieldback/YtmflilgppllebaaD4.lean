/- Walks over package word: one digit of long division, whole. -/
import Derived.Test.YtmflilgppllebaaD3
namespace Go.Proofs.Ytmflilgppllebaa
open Go.RowKit
set_option linter.unusedSimpArgs false
set_option linter.unusedVariables false

theorem calls_quiet {f : FuncId} {args : Array Value} {W : World} {n : Nat} {v : Value} (h : ∀ w, Calls Try.prog f args w fun e w' => e = .returned v ∧ ∃ k, w' = w.drewN k) : Calls Try.prog f args (W.drewN n) fun e w'' => e = .returned v ∧ ∃ m, w'' = W.drewN m :=
  (h _).mono fun e w' ⟨he, k, hk⟩ => ⟨he, n + k, by rw [hk]; simp [World.drewN, Nat.add_assoc]⟩
theorem calls_quiet2 {f : FuncId} {args : Array Value} {W : World} {q n : Nat} {v : Value} (h : ∀ w, Calls Try.prog f args w fun e w' => e = .returned v ∧ ∃ k, w' = w.drewN k) : Calls Try.prog f args (W.drewN (q + n)) fun e w'' => e = .returned v ∧ ∃ m, w'' = W.drewN (q + m) :=
  (h _).mono fun e w' ⟨he, k, hk⟩ => ⟨he, n + k, by rw [hk]; simp [World.drewN, Nat.add_assoc]⟩
theorem top_lt {x y v : Int} (h : x < v) (hy : y < 18446744073709551616) (hv : 0 < v) : (x * 18446744073709551616 + y) / v < 18446744073709551616 := by
  apply Int.ediv_lt_of_lt_mul hv
  omega
set_option maxHeartbeats 1000000 in
/-- word.guess: never too little. -/
theorem guess_any (m bx ox cx bv ov cv : Nat) (X V : Nat → Int) (hm : m ≤ 3) (hX : ∀ i, Limb (X i)) (hV : ∀ i, Limb (V i)) (hv : 9223372036854775808 ≤ V m) (hlt : val X (m + 2) < 18446744073709551616 * val V (m + 1)) (w : World)
    (cX : ∀ i, i ≤ m + 1 → w.cell? ⟨bx, ox + i, none⟩ = some (.int .u64 (X i))) (cV : ∀ i, i < m + 1 → w.cell? ⟨bv, ov + i, none⟩ = some (.int .u64 (V i))) :
    Calls Try.prog 92 #[.slice (some ⟨bx, ox, none⟩) (m + 2) cx, .slice (some ⟨bv, ov, none⟩) (m + 1) cv] w fun e w' =>
      ∃ q : Int, e = .returned (.int .u64 q) ∧ Limb q ∧ val X (m + 2) / val V (m + 1) ≤ q ∧ ∃ n, w' = w.drewN n := by
  have c1 := cX (m + 1) (Nat.le_refl _)
  have c2 := cX m (by omega)
  have c3 := cV m (by omega)
  have hVp : 0 < val V (m + 1) := by
    have h1 := (val_bd hV m).1
    have h2 : 0 < 18446744073709551616 ^ m * V m := Int.mul_pos (pow64_pos m) (by omega)
    show 0 < val V m + _
    omega
  have hQ : val X (m + 2) / val V (m + 1) < 18446744073709551616 := Int.ediv_lt_of_lt_mul hVp hlt
  have hg := guess_le hX hV (m := m) (by omega)
  have g1 := hX (m + 1); have g2 := hX m; have g3 := hV m
  clear cX cV hX hV hlt hVp
  generalize val X (m + 2) / val V (m + 1) = Q at *
  generalize X (m + 1) = x1 at *
  generalize X m = x0 at *
  generalize V m = v at *
  obtain ⟨g10, g11⟩ := g1
  obtain ⟨g20, g21⟩ := g2
  obtain ⟨g30, g31⟩ := g3
  by_cases h : v ≤ x1
  · clear hg
    have HQ : Hid _ := hQ
    clear hQ
    go_enter Try.func92, Try.ntmps92
    go_wp2
    go_quiet (fail)
    go_wp2
    go_ret
    exact ⟨_, rfl, ⟨by decide, by decide⟩, by have := HQ.out; omega, _, rfl⟩
  · obtain ⟨u, hd⟩ := div64_ex x1 x0 v hv g31 g10 (by omega) ⟨g20, g21⟩
    have hq1 := top_lt (x := x1) (y := x0) (v := v) (by omega) g21 (by omega)
    have hq0 : 0 ≤ (x1 * 18446744073709551616 + x0) / v := Int.ediv_nonneg (by omega) (by omega)
    generalize (x1 * 18446744073709551616 + x0) / v = q at *
    have HD : Hid _ := hd
    have HQ : Hid _ := hg
    clear hd hg hQ
    go_enter Try.func92, Try.ntmps92
    go_wp2
    go_quiet (fail)
    go_wp2
    go_quiet ((go_at_call 95; exact calls_quiet2 HD.out))
    go_wp2
    go_ret
    exact ⟨_, rfl, ⟨hq0, hq1⟩, HQ.out, _, World.drewN_drewN _ _ _⟩

theorem quo_lt {x v q : Int} (hv : 0 < v) (h : x - q * v < 0) : x / v < q := Int.ediv_lt_of_lt_mul hv (by omega)
theorem quo_eq {x v q : Int} (hv : 0 < v) (h0 : 0 ≤ x - q * v) (hq : x / v ≤ q) : x - q * v < v := by
  have h1 : q ≤ x / v := (Int.le_ediv_iff_mul_le hv).2 (by omega)
  have h2 : x / v = q := by omega
  have := Int.lt_ediv_add_one_mul_self x hv
  rw [h2, Int.add_mul] at this
  omega
theorem val_top {Y : Nat → Int} {n : Nat} (hY : ∀ i, Limb (Y i)) (h : val Y (n + 1) < 18446744073709551616 ^ n) : Y n = 0 ∧ val Y (n + 1) = val Y n := by
  obtain ⟨h0, h1⟩ := val_bd hY n
  have hp := pow64_pos n
  have e : val Y (n + 1) = val Y n + 18446744073709551616 ^ n * Y n := rfl
  have hz : Y n = 0 := by
    rcases Int.lt_or_le 0 (Y n) with g | g
    · have : 18446744073709551616 ^ n * 1 ≤ 18446744073709551616 ^ n * Y n := Int.mul_le_mul_of_nonneg_left (by omega) (by omega)
      omega
    · have := (hY n).1; omega
  refine ⟨hz, ?_⟩
  rw [e, hz]; omega
theorem sub_step {x v y z P q b c : Int} (h : Hid (x - q * v = y - P * b)) (hb : b = 1) (k : Hid (y + v = z + P * c)) : Hid (x - (q - 1) * v = z - P * (b - c)) := by
  unfold Hid at *
  subst hb
  rw [Int.sub_mul, Int.mul_sub]
  omega
set_option maxHeartbeats 1000000 in
/-- word.digit -/
theorem digit_any (m bx ox cx bv ov cv : Nat) (X V : Nat → Int) (hm : m ≤ 3) (hne : bv ≠ bx) (hX : ∀ i, Limb (X i)) (hV : ∀ i, Limb (V i)) (hv : 9223372036854775808 ≤ V m) (hlt : val X (m + 2) < 18446744073709551616 * val V (m + 1)) (w : World)
    (cX : ∀ i, i ≤ m + 1 → w.cell? ⟨bx, ox + i, none⟩ = some (.int .u64 (X i))) (cV : ∀ i, i < m + 1 → w.cell? ⟨bv, ov + i, none⟩ = some (.int .u64 (V i))) (fX : ∀ i, i ≤ m + 1 → w.frozen? ⟨bx, ox + i, none⟩ = false) :
    Calls Try.prog 89 #[.slice (some ⟨bx, ox, none⟩) (m + 2) cx, .slice (some ⟨bv, ov, none⟩) (m + 1) cv] w fun e w' =>
      ∃ (Y : Nat → Int) (q : Int), e = .returned (.int .u64 q) ∧ Limb q ∧ (∀ i, Limb (Y i)) ∧ Hid (val X (m + 2) = q * val V (m + 1) + val Y (m + 1)) ∧ Hid (val Y (m + 1) < val V (m + 1)) ∧ Hid (Y (m + 1) = 0) ∧
        (∀ i, i ≤ m + 1 → w'.cell? ⟨bx, ox + i, none⟩ = some (.int .u64 (Y i))) ∧ Wr bx ox (ox + m + 2) w w' := by
  have hVp : 0 < val V (m + 1) := by
    have h1 := (val_bd hV m).1
    have h2 : 0 < 18446744073709551616 ^ m * V m := Int.mul_pos (pow64_pos m) (by omega)
    show 0 < val V m + _
    omega
  have HG : Hid _ := guess_any m bx ox cx bv ov cv X V hm hX hV hv hlt w cX cV
  have HX : Hid _ := cX
  have HV : Hid _ := cV
  have HF : Hid _ := fX
  have HLX : Hid _ := hX
  have HLV : Hid _ := hV
  have HP : Hid _ := hVp
  have hQ0 : 0 ≤ val X (m + 2) / val V (m + 1) := Int.ediv_nonneg (val_bd hX _).1 (by omega)
  clear cX cV fX hX hV hVp hlt
  generalize hVV : val V (m + 1) = VV at *
  generalize hXX : val X (m + 2) = XX at *
  have HVV : Hid _ := hVV
  have HXX : Hid _ := hXX
  clear hVV hXX
  generalize hQ : XX / VV = Q at *
  have HQ : Hid _ := hQ
  clear hQ
  go_enter Try.func89, Try.ntmps89
  go_wp2_with fail
  refine Calls.mono HG.out ?_
  rintro e w1 ⟨q, rfl, hq, hQq, n1, rfl⟩
  go_wp2_with fail
  refine (takeTimes_any (m + 1) bx ox cx bv ov cv X V q (by omega) hne hq HLX.out HLV.out (w.drewN n1) (fun i hi => HX.out i hi) (fun i hi => HV.out i hi) (fun i hi => HF.out i hi)).mono ?_
  rintro e w2 ⟨Y, b, rfl, ⟨hb0, hb1⟩, hLY, hE, hcY, hW⟩
  rw [HXX.out, HVV.out] at hE
  have hW : Wr bx ox (ox + m + 2) w w2 := ((Wr.refl _ _ _ _).drewN _).trans hW
  have hLY : Hid _ := hLY
  have hcY : Hid _ := hcY
  clear HG
  go_wp2
  go_loopw [5, 6] (fun sq sb wr => ∃ (q b : Int) (Y : Nat → Int), sq = .int .u64 q ∧ sb = .int .u64 b ∧ Limb q ∧ 0 ≤ b ∧ b ≤ 1 ∧ Q ≤ q ∧ Hid (∀ i, Limb (Y i)) ∧
      Hid (XX - q * VV = val Y (m + 2) - 18446744073709551616 ^ (m + 2) * b) ∧ Hid (∀ i, i ≤ m + 1 → wr.cell? ⟨bx, ox + i, none⟩ = some (.int .u64 (Y i))) ∧ Wr bx ox (ox + m + 2) w wr) (fun sq _ _ => (intOf sq).toNat)
  case atStart => exact ⟨q, b, Y, rfl, rfl, hq, hb0, hb1, hQq, hLY, hE, hcY, hW⟩
  case round =>
    clear hq hQq hb0 hb1 hLY hE hcY hW
    obtain ⟨q, b, Y, rfl, rfl, hq, hb0, hb1, hQq, hLY, hE, hcY, hW⟩ := hrel
    obtain ⟨hq0, hq1⟩ := hq
    by_cases hb : b = 0
    · subst hb
      go_wp2
      go_ret
      have hE' : XX - q * VV = val Y (m + 2) := by have := hE.out; rw [Int.mul_zero] at this; omega
      have h0 := (val_bd hLY.out (m + 2)).1
      have hr := quo_eq HP.out (by omega : 0 ≤ XX - q * VV) (by have := HQ.out; omega)
      have hVb := (val_bd HLV.out (m + 1)).2
      rw [HVV.out] at hVb
      obtain ⟨hz, ht⟩ := val_top (n := m + 1) hLY.out (by show val Y (m + 2) < _; omega)
      have ht : val Y (m + 2) = val Y (m + 1) := ht
      refine ⟨Y, q, rfl, ⟨hq0, hq1⟩, hLY.out, ?_, ?_, hz, hcY.out, hW⟩
      · show _ = _; omega
      · show _ < _; omega
    · have hb1' : b = 1 := by omega
      have hlt := quo_lt HP.out (by
        have := hE.out; rw [hb1', Int.mul_one] at this
        have := (val_bd hLY.out (m + 2)).2
        omega : XX - q * VV < 0)
      rw [HQ.out] at hlt
      subst hb1'
      go_wp2_with fail
      refine (putBack_any (m + 1) bx ox cx bv ov cv Y V (by omega) hne hLY.out HLV.out _ hcY.out (fun i hi => (hW.other hne).trans (HV.out i hi)) (fun i hi => (hW.frozen _).trans (HF.out i hi))).mono ?_
      rintro e w2 ⟨Z, c, rfl, ⟨hc0, hc1⟩, hLZ, hEZ, hcZ, hWZ⟩
      rw [HVV.out] at hEZ
      have hLZ : Hid _ := hLZ
      have hcZ : Hid _ := hcZ
      have hE2 := sub_step hE rfl hEZ
      clear hb hb1 hb0
      go_wp2
      exact ⟨⟨q - 1, 1 - c, Z, rfl, rfl, ⟨by omega, by omega⟩, by omega, by omega, by omega, hLZ, hE2, hcZ, hW.trans hWZ⟩, by simp [intOf]; omega⟩
end Go.Proofs.Ytmflilgppllebaa
