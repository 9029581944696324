/- Walks over the document's own numbers: products. -/
import Derived.Test.YtmflilgppllebaaR6
namespace Go.Proofs.Ytmflilgppllebaa
open Go.RowKit
set_option linter.unusedSimpArgs false
set_option maxRecDepth 20000
set_option linter.unusedVariables false
theorem valB_set : ∀ (d : List Int) (j : Nat) (x : Int), j < d.length → valB (d.set j x) = valB d + 256 ^ j * (x - d.getD j 0)
  | [], j, x, h => by simp at h
  | y :: r, 0, x, h => by rw [List.set_cons_zero, valB, valB, getD_cons_zero']; omega
  | y :: r, j + 1, x, h => by
    rw [List.set_cons_succ, valB, valB, getD_cons_succ', valB_set r j x (by simpa using h), Int.mul_add, Int.pow_succ, Int.mul_comm (256 ^ j) 256, Int.mul_assoc]
    omega
theorem getD_set (d : List Int) (j : Nat) (x : Int) (i : Nat) (hj : j < d.length) : (d.set j x).getD i 0 = if i = j then x else d.getD i 0 := by
  simp only [List.getD]
  rw [List.getElem?_set]
  by_cases h : j = i
  · subst h; simp [hj]
  · rw [if_neg h, if_neg (fun e => h e.symm)]
theorem Byt.set {d : List Int} (h : Byt d) {j : Nat} {x : Int} (hj : j < d.length) (h0 : 0 ≤ x) (h1 : x < 256) : Byt (d.set j x) := fun k => by
  rw [getD_set d j x k hj]
  split
  · exact ⟨h0, h1⟩
  · exact h k
/-- A block that holds a list of digits. -/
def RowD (w : World) (b : Nat) (d : List Int) : Prop := w.rowIs b 3 d.length (fun j => .int .i64 (d.getD j 0))
theorem RowD.cell {w : World} {b : Nat} {d : List Int} (h : RowD w b d) {j : Nat} (hj : j < d.length) : w.cell? ⟨b, j, none⟩ = some (.int .i64 (d.getD j 0)) := World.rowIs.cell h hj
theorem RowD.set {w : World} {b : Nat} {d : List Int} (h : RowD w b d) {j : Nat} (hj : j < d.length) (x : Int) : RowD (w.setCell ⟨b, j, none⟩ (.int .i64 x)) b (d.set j x) := by
  have h1 := World.rowIs.set h j (.int .i64 x)
  unfold RowD
  rw [List.length_set]
  refine World.rowIs.congr h1 (fun i hi => ?_)
  rw [getD_set d j x i hj]
  by_cases e : i = j
  · rw [if_pos e, if_pos e]
  · rw [if_neg e, if_neg e]
theorem RowD.drew {w : World} {b : Nat} {d : List Int} (h : RowD w b d) (n : Nat) : RowD (w.drewN n) b d := h
theorem RowD.isN {w : World} {b n : Nat} {d : List Int} (h : RowD w b d) (hl : d.length = n) : IsN w (.slice (some ⟨b, 0, none⟩) n n) d := by
  subst hl
  refine ⟨some ⟨b, 0, none⟩, d.length, rfl, Nat.le_refl _, fun _ => ⟨b, 0, rfl, World.rowIs.lt h, fun k hk => ?_⟩⟩
  rw [Nat.zero_add]; exact h.cell hk
theorem byt_zero (n : Nat) : Byt (List.replicate n 0) := fun k => by
  have : (List.replicate n (0 : Int)).getD k 0 = 0 := by
    simp only [List.getD]
    rcases Nat.lt_or_ge k n with h | h
    · simp [h]
    · rw [List.getElem?_eq_none (by simp; omega)]; rfl
  rw [this]; exact ⟨by decide, by decide⟩
theorem valB_rep0 : ∀ n : Nat, valB (List.replicate n 0) = 0
  | 0 => rfl
  | n + 1 => by rw [List.replicate_succ, valB, valB_rep0 n]; rfl
theorem RowD.made (w : World) (n : Nat) : RowD (w.alloc (.cells (madeCells #[.int .i64 0] n) 3)) w.heap.size (List.replicate n 0) := by
  have h := World.rowIs_made w (.int .i64 0) n 3
  unfold RowD
  rw [List.length_replicate]
  refine World.rowIs.congr h (fun i hi => ?_)
  simp [List.getD, hi]
/-- One round of the inner sum. -/
theorem times_step (D P Q R V c c' dj ai bk Bk : Int) (hP : P = Q * R) (hc : c' = c + dj + ai * bk) (he : D + P * c = V + Q * (ai * Bk)) :
    D + P * (c' % 256 - dj) + P * 256 * (c' / 256) = V + Q * (ai * (Bk + R * bk)) := by
  have h1 : P * (c' % 256 - dj) + P * 256 * (c' / 256) = P * (c' - dj) := by
    rw [Int.mul_assoc, ← Int.mul_add]; congr 1; omega
  have h2 : P * (c' - dj) = P * c + P * (ai * bk) := by rw [← Int.mul_add]; congr 1; omega
  have h3 : Q * (ai * (Bk + R * bk)) = Q * (ai * Bk) + P * (ai * bk) := by
    rw [hP, Int.mul_add, Int.mul_add]; congr 1; simp only [Int.mul_assoc, Int.mul_left_comm]
  omega
theorem mul_bytes {x y : Int} (hx : 0 ≤ x ∧ x < 256) (hy : 0 ≤ y ∧ y < 256) : 0 ≤ x * y ∧ x * y ≤ 65025 :=
  ⟨Int.mul_nonneg hx.1 hy.1, Int.le_trans (Int.mul_le_mul (show x ≤ 255 by omega) (show y ≤ 255 by omega) hy.1 (by decide)) (by decide)⟩
/-- Where a carry is left the place is inside. -/
theorem times_in (D V c ai B : Int) (i k lb : Nat) (hD : 0 ≤ D) (hc : 0 < c) (hV : V + 256 ^ i * (ai * B) < 256 ^ (i + 1 + lb)) (he : D + 256 ^ (i + k) * c = V + 256 ^ i * (ai * B)) : k ≤ lb := by
  rcases Nat.lt_or_ge lb k with h | h
  · have h1 : (256 : Int) ^ (i + 1 + lb) ≤ 256 ^ (i + k) := Int.pow_le_pow_of_le_right' (by omega)
    have h2 : (256 : Int) ^ (i + k) * 1 ≤ 256 ^ (i + k) * c := Int.mul_le_mul_of_nonneg_left (by omega) (Int.le_of_lt (Int.pow_pos (by decide)))
    omega
  · exact h
theorem times_bd (a b : List Int) (Ba : Byt a) (Bb : Byt b) (i : Nat) : valB (a.take i) * valB b + 256 ^ i * (a.getD i 0 * valB b) < 256 ^ (i + 1 + b.length) := by
  have h0 := valB_take_succ a i
  have h1 := valB_bd (a.take (i + 1)) (Ba.take _)
  have h2 := valB_bd b Bb
  have h3 : (256 : Int) ^ (a.take (i + 1)).length ≤ 256 ^ (i + 1) := Int.pow_le_pow_of_le_right' (by simp; omega)
  have h4 : valB (a.take i) * valB b + 256 ^ i * (a.getD i 0 * valB b) = valB (a.take (i + 1)) * valB b := by rw [h0, Int.add_mul, Int.mul_assoc]
  rw [h4, Int.pow_add]
  have h5 : valB (a.take (i + 1)) * valB b ≤ valB (a.take (i + 1)) * 256 ^ b.length := Int.mul_le_mul_of_nonneg_left (by omega) h1.1
  have h6 : valB (a.take (i + 1)) * 256 ^ b.length < 256 ^ (i + 1) * 256 ^ b.length := Int.mul_lt_mul_of_pos_right (by omega) (Int.pow_pos (by decide))
  omega
theorem times_below {w wr : World} (h : Below w.heap.size w wr) (n j : Nat) (v : Value) : Below w.heap.size w ((wr.drewN n).setCell ⟨w.heap.size, j, none⟩ v) := by
  have h1 := below_drew h n
  generalize wr.drewN n = w1 at *
  go_grown
set_option maxHeartbeats 4000000 in
theorem times_any (w : World) (va vb : Value) (a b : List Int) (ha : IsN w va a) (hb : IsN w vb b) (la : a.length < 1000) (lb : b.length < 1000) (Ba : Byt a) (Bb : Byt b) :
    Calls Try.prog 42 #[va, vb] w fun e w' => ∃ (v : Value) (d : List Int), e = .returned v ∧ IsN w' v d ∧ Byt d ∧ d.length ≤ a.length + b.length + 1 ∧ Hid (valB d = valB a * valB b) ∧ Below w.heap.size w w' := by
  have HB : Hid (∀ wr, Below w.heap.size w wr → ∀ (i : Nat), i < 4096 → Calls Try.prog 69 #[vb, .int .i64 i] wr fun e w' => e = .returned (.int .i64 (b.getD i 0)) ∧ w' = wr) := fun wr hw i hi => at_any _ vb b i (hb.below hw) (by omega) hi
  obtain ⟨ab, cb, rfl, hcb⟩ := hb.shape
  obtain ⟨aa, ca, rfl, hca, ha⟩ := ha
  have HC : Hid _ := cells_le ha
  have hmk := run_make_row' (P := Try.prog) 46 3 (.int .i64 0) 8 Try.underlying46 Try.info3 rfl .i64 .i64 (a.length + b.length + 1) (by omega) (by omega)
  have em : ((a.length + b.length + 1 : Nat) : Int) = (a.length : Int) + b.length + 1 := by omega
  rw [em] at hmk
  have HBa : Hid (Byt a) := Ba
  have HBb : Hid (Byt b) := Bb
  clear ha hb Ba Bb
  go_enter Try.func42, Try.ntmps42
  go_wp2
  clear hmk em
  have hrow := RowD.made w (a.length + b.length + 1)
  have hbw0 : Below w.heap.size w (w.alloc (.cells (madeCells #[.int .i64 0] (a.length + b.length + 1)) 3)) := by go_grown
  generalize (w.alloc (.cells (madeCells #[.int .i64 0] (a.length + b.length + 1)) 3)) = w0 at *
  go_loopw [6] (fun i wr => ∃ (k : Nat) (d : List Int), k ≤ a.length ∧ i = .int .i64 k ∧ d.length = a.length + b.length + 1 ∧ RowD wr w.heap.size d ∧ Hid (Byt d) ∧ Hid (valB d = valB (a.take k) * valB b) ∧ Below w.heap.size w wr) (fun i _ => 2000 - (intOf i).toNat)
  case atStart => exact ⟨0, _, by omega, rfl, by simp, hrow, byt_zero _, by show _ = _; rw [valB_rep0]; simp [valB], hbw0⟩
  case round =>
    obtain ⟨i, d, hi, rfl, hl, hrow, hB, hE, hbw⟩ := hrel
    by_cases hlt : i < a.length
    · obtain ⟨ba, oa, rfl, hba, hca⟩ := HC.out i hlt
      have hai := HBa.out i
      have HT : Hid (valB (a.take (i + 1)) * valB b = valB (a.take i) * valB b + 256 ^ i * (a.getD i 0 * valB b)) := by
        show _ = _
        rw [valB_take_succ, Int.add_mul, Int.mul_assoc]
      have HTB : Hid _ := times_bd a b HBa.out HBb.out i
      generalize hx : a.getD i 0 = ai at *
      clear hx
      go_wp2
      go_loopw [7, 8] (fun c j wr => ∃ (k : Nat) (c' : Int) (d : List Int), k ≤ b.length + 1 ∧ c = .int .i64 c' ∧ j = .int .i64 k ∧ 0 ≤ c' ∧ c' ≤ 255 ∧ d.length = a.length + b.length + 1 ∧ RowD wr w.heap.size d ∧ Hid (Byt d) ∧ Hid (valB d + 256 ^ (i + k) * c' = valB (a.take i) * valB b + 256 ^ i * (ai * valB (b.take k))) ∧ Below w.heap.size w wr) (fun _ j _ => 2000 - (intOf j).toNat)
      case atStart => exact ⟨0, 0, d, by omega, rfl, rfl, by omega, by omega, hl, hrow, hB, by show _ = _; rw [hE.out]; simp [valB], hbw⟩
      case round =>
        obtain ⟨k, c, d, hk, rfl, rfl, hc0, hc1, hl, hrow, hB, hE, hbw⟩ := hrel
        by_cases hgo : k < b.length ∨ 0 < c
        · have hkl : k ≤ b.length := by
            rcases Nat.lt_or_ge k b.length with h | h
            · omega
            · refine times_in _ _ c ai (valB b) i k b.length (valB_bd d hB.out).1 (by omega) HTB.out ?_
              have := hE.out
              rw [valB_take_all b k h] at this
              exact this
          have hj : i + k < d.length := by omega
          have hdj := hB.out (i + k)
          have hbk := HBb.out k
          have hm := mul_bytes hai hbk
          have hcell := hrow.cell hj
          have hcell2 := (hbw.cell (p := ⟨ba, oa + i, none⟩) hba).trans hca
          have HY : Hid (∀ n, Calls Try.prog 69 #[.slice ab b.length cb, .int .i64 k] (wr.drewN n) fun e w' => e = .returned (.int .i64 (b.getD k 0)) ∧ w' = wr.drewN n) := fun n => HB.out (wr.drewN n) (below_drew hbw n) k (by omega)
          have HSet : Hid (∀ x, valB (d.set (i + k) x) = valB d + 256 ^ (i + k) * (x - d.getD (i + k) 0)) := fun x => valB_set d (i + k) x hj
          have HTk := valB_take_succ b k
          generalize d.getD (i + k) 0 = dj at *
          generalize b.getD k 0 = bk at *
          obtain ⟨hm0, hm1⟩ := hm
          obtain ⟨hdj0, hdj1⟩ := hdj
          have HE2 : Hid (valB (d.set (i + k) ((c + dj + ai * bk) % 256)) + 256 ^ (i + (k + 1)) * ((c + dj + ai * bk) / 256) = valB (a.take i) * valB b + 256 ^ i * (ai * valB (b.take (k + 1)))) := by
            show _ = _
            rw [HSet.out, HTk, show i + (k + 1) = (i + k) + 1 from rfl, Int.pow_succ]
            exact times_step _ _ _ _ _ c _ dj ai bk _ (Int.pow_add _ _ _) rfl hE.out
          have HB2 : Hid (Byt (d.set (i + k) ((c + dj + ai * bk) % 256))) := hB.out.set hj (by omega) (by omega)
          have hrow2 : Hid (∀ n, RowD ((wr.drewN n).setCell ⟨w.heap.size, i + k, none⟩ (.int .i64 ((c + dj + ai * bk) % 256))) w.heap.size (d.set (i + k) ((c + dj + ai * bk) % 256))) := fun n => (hrow.drew n).set hj _
          have hlen : (d.set (i + k) ((c + dj + ai * bk) % 256)).length = a.length + b.length + 1 := by rw [List.length_set]; exact hl
          have hfz : wr.frozen? ⟨w.heap.size, i + k, none⟩ = false := World.rowIs.frozen hrow (i + k)
          clear HTk HSet hE hB hai hbk HTB HT
          rcases Nat.lt_or_ge k b.length with hkb | hkb
          · go_wp2
            go_quiet (first | (go_at_call 69; refine Calls.quiet_of_same (HY.out _)))
            go_wp2
            exact ⟨⟨k + 1, (c + dj + ai * bk) / 256, d.set (i + k) ((c + dj + ai * bk) % 256), by omega, by go_num, by go_num, by omega, by omega, hlen, hrow2.out _, HB2, HE2, times_below hbw _ _ _⟩, by simp [intOf]; omega⟩
          · have hkb' : decide ((k : Int) < b.length) = false := by simp; omega
            go_wp2
            go_quiet (first | (go_at_call 69; refine Calls.quiet_of_same (HY.out _)))
            go_wp2
            exact ⟨⟨k + 1, (c + dj + ai * bk) / 256, d.set (i + k) ((c + dj + ai * bk) % 256), by omega, by go_num, by go_num, by omega, by omega, hlen, hrow2.out _, HB2, HE2, times_below hbw _ _ _⟩, by simp [intOf]; omega⟩
        · have hkb : decide ((k : Int) < b.length) = false := by simp; omega
          have hc : c = 0 := by omega
          subst hc
          have HE2 : Hid (valB d = valB (a.take (i + 1)) * valB b) := by
            show _ = _
            have he := hE.out
            rw [valB_take_all b k (by omega)] at he
            rw [HT.out, ← he]; omega
          clear hE HT HTB
          go_wp2
          exact ⟨⟨i + 1, d, by omega, by go_num, hl, hrow, hB, HE2, hbw⟩, by simp [intOf]; omega⟩
    · have hil : i = a.length := by omega
      have HE : Hid (valB d = valB a * valB b) := by
        show _ = _
        rw [hE.out, valB_take_all a i (by omega)]
      subst hil
      clear hE
      go_wp2_with fail
      refine (trim_any _ _ d (hrow.isN hl) (by omega) (by omega) hB.out).mono ?_
      rintro e w2 ⟨v, d', rfl, hN, hBd, hld, hV, hw2⟩
      have hB2 : Below w.heap.size w w2 := Below.trans hbw (hw2.mono hbw.size)
      go_wp2
      go_ret
      exact ⟨v, d', rfl, hN, hBd, by omega, hV.out.trans HE.out, hB2⟩
end Go.Proofs.Ytmflilgppllebaa
