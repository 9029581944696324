/- Walks over the document's own numbers: sums. -/
import Derived.Test.YtmflilgppllebaaR2
namespace Go.Proofs.Ytmflilgppllebaa
open Go.RowKit
set_option linter.unusedSimpArgs false
set_option maxRecDepth 20000
set_option linter.unusedVariables false
theorem valB_take_succ : ∀ (d : List Int) (k : Nat), valB (d.take (k + 1)) = valB (d.take k) + 256 ^ k * d.getD k 0
  | [], k => by simp [valB]
  | x :: r, 0 => by simp [valB]
  | x :: r, k + 1 => by
    rw [List.take_succ_cons, List.take_succ_cons, valB, valB, valB_take_succ r k, getD_cons_succ', Int.pow_succ, Int.mul_add, Int.mul_comm (256 ^ k) 256, Int.mul_assoc]
    omega
theorem valB_take_all (d : List Int) (k : Nat) (h : d.length ≤ k) : valB (d.take k) = valB d := by rw [List.take_of_length_le h]
theorem one_cell {w : World} {x : Value} {q : Nat} {u : Value} (h : [x][q]? = some u) : (w.alloc (.cells #[x] 3)).cell? ((⟨w.heap.size, 0, none⟩ : Addr).add q) = some u := by
  match q, h with
  | 0, h => simp at h; subst h; simp [Addr.add]
theorem of_grown {B : Nat} {w0 wr w1 : World} {o : Obj} {row : Option Nat} (h : Below B w0 wr) (hg : (wr.alloc o).grownBy w1 row) (hr : ∀ k, row = some k → B ≤ k) (hB : B ≤ wr.heap.size) : Below B w0 w1 :=
  Below.grown (h.alloc hB _) hg (by simp; omega) hr
theorem Int.pow_le_pow_of_le_right' {m n : Nat} (h : m ≤ n) : (256 : Int) ^ m ≤ 256 ^ n := by
  have := Nat.pow_le_pow_right (n := 256) (by decide) h
  have e : ∀ k : Nat, (256 : Int) ^ k = ((256 ^ k : Nat) : Int) := fun k => by simp
  rw [e, e]; omega
set_option maxHeartbeats 2000000 in
theorem plus_any (w : World) (va vb : Value) (a b : List Int) (ha : IsN w va a) (hb : IsN w vb b) (la : a.length < 1000) (lb : b.length < 1000) (Ba : Byt a) (Bb : Byt b) :
    Calls Try.prog 38 #[va, vb] w fun e w' => ∃ (v : Value) (d : List Int), e = .returned v ∧ IsN w' v d ∧ Byt d ∧ d.length ≤ max a.length b.length + 1 ∧ Hid (valB d = valB a + valB b) ∧ Below w.heap.size w w' := by
  have HA : Hid (∀ wr, Below w.heap.size w wr → ∀ (i : Nat), i < 4096 → Calls Try.prog 69 #[va, .int .i64 i] wr fun e w' => e = .returned (.int .i64 (a.getD i 0)) ∧ w' = wr) := fun wr hw i hi => at_any _ va a i (ha.below hw) (by omega) hi
  have HB : Hid (∀ wr, Below w.heap.size w wr → ∀ (i : Nat), i < 4096 → Calls Try.prog 69 #[vb, .int .i64 i] wr fun e w' => e = .returned (.int .i64 (b.getD i 0)) ∧ w' = wr) := fun wr hw i hi => at_any _ vb b i (hb.below hw) (by omega) hi
  obtain ⟨aa, ca, rfl, hca⟩ := ha.shape
  obtain ⟨ab, cb, rfl, hcb⟩ := hb.shape
  clear ha hb
  have HBa : Hid (Byt a) := Ba
  have HBb : Hid (Byt b) := Bb
  clear Ba Bb
  obtain ⟨i0, hi, hz0, hz1, hz2⟩ := info_parts Try.info3
  have HI : Hid _ := hi
  clear hi
  go_enter Try.func38, Try.ntmps38
  go_wp2
  go_loopw [5, 6, 7] (fun s c i wr => ∃ (k : Nat) (d : List Int) (c' : Int), k ≤ max a.length b.length + 1 ∧ c = .int .i64 c' ∧ i = .int .i64 k ∧ 0 ≤ c' ∧ c' ≤ 1 ∧ d.length = k ∧ wr.ownsRow w.heap.size 3 1 s k (d.map (Value.int .i64)) ∧ Hid (Byt d) ∧ Hid (valB d + 256 ^ k * c' = valB (a.take k) + valB (b.take k)) ∧ Below w.heap.size w wr) (fun _ _ i _ => 2000 - (intOf i).toNat)
  case atStart => exact ⟨0, [], 0, by omega, rfl, rfl, by omega, by omega, rfl, World.ownsRow_nil _ _ _ _, byt_nil, by show _ = _; simp [valB], Below.refl _ _⟩
  case round =>
    obtain ⟨k, d, c, hk, rfl, rfl, hc0, hc1, hl, hown, hB, hE, hbw⟩ := hrel
    have hsz : w.heap.size ≤ wr.heap.size := hbw.size
    have HO : Hid _ := hown
    clear hown
    have hx0 := HBa.out k
    have hy0 := HBb.out k
    have HX : Hid _ := HA.out wr hbw k (by omega)
    have HY : Hid _ := HB.out wr hbw k (by omega)
    have hta := valB_take_succ a k
    have htb := valB_take_succ b k
    generalize a.getD k 0 = x at *
    generalize b.getD k 0 = y at *
    obtain ⟨hx0, hx1⟩ := hx0
    obtain ⟨hy0, hy1⟩ := hy0
    have HB2 : Hid (Byt (d ++ [(c + x + y) % 256])) := hB.out.append (by omega) (by omega)
    have HE2 : Hid (valB (d ++ [(c + x + y) % 256]) + 256 ^ (k + 1) * ((c + x + y) / 256) = valB (a.take (k + 1)) + valB (b.take (k + 1))) := by
      show _ = _
      have he := hE.out
      rw [valB_append, hl, hta, htb, Int.pow_succ, Int.mul_assoc]
      have h1 : (256 : Int) ^ k * (c + x + y) = 256 ^ k * ((c + x + y) % 256) + 256 ^ k * (256 * ((c + x + y) / 256)) := by rw [← Int.mul_add]; congr 1; omega
      have h2 : (256 : Int) ^ k * (c + x + y) = 256 ^ k * c + 256 ^ k * x + 256 ^ k * y := by rw [Int.mul_add, Int.mul_add]
      omega
    clear hta htb
    by_cases hlt : k ≤ a.length
    · skip
      go_wp2_with (first
        | (go_at_call_of 69 ([Value.slice aa a.length ca, Value.int .i64 k]); go_must (refine Calls.mono HX.out ?_; rintro e w' ⟨rfl, rfl⟩))
        | (go_at_call_of 69 ([Value.slice ab b.length cb, Value.int .i64 k]); go_must (refine Calls.mono HY.out ?_; rintro e w' ⟨rfl, rfl⟩))
        | (at_builtin; go_must (refine wpList_append_own _ rfl _ _ 46 rfl w.heap.size 3 i0 (.int .i64 0) 1 8 Try.underlying46 HI.out hz0 hz1 hz2 rfl (by decide) _ _ _ rfl (World.ownsRow.alloc HO.out _) ⟨w'.heap.size, 0, none⟩ 1 1 [.int .i64 ((c + x + y) % 256)] rfl rfl ?c10 ?c20 ?c30 ?c40 ?c50 ?_)))
      any_goals (first
        | (intro q u hq; exact one_cell hq)
        | (intro u hu; simp at hu; subst hu; rfl)
        | (unfold maxLen; omega)
        | omega
        | (simp; omega))
      intro v' w1 hown' hg hnn
      have HO2 : Hid _ := hown'
      have HG : Hid _ := hg
      clear hown' hg hnn
      go_wp2
      refine ⟨⟨k + 1, d ++ [(c + x + y) % 256], (c + x + y) / 256, by omega, by go_num, by go_num, by omega, by omega, ?_, ?_, HB2, HE2, ?_⟩, ?_⟩
      · rw [List.length_append, hl]; rfl
      · rw [List.map_append]; exact HO2.out
      · exact of_grown hbw HG.out (fun g hg => (World.ownsRow.lt HO.out g hg).1) hsz
      · simp [intOf]; omega

    · by_cases hlt' : k ≤ b.length
      · skip
        go_wp2_with (first
          | (go_at_call_of 69 ([Value.slice aa a.length ca, Value.int .i64 k]); go_must (refine Calls.mono HX.out ?_; rintro e w' ⟨rfl, rfl⟩))
          | (go_at_call_of 69 ([Value.slice ab b.length cb, Value.int .i64 k]); go_must (refine Calls.mono HY.out ?_; rintro e w' ⟨rfl, rfl⟩))
          | (at_builtin; go_must (refine wpList_append_own _ rfl _ _ 46 rfl w.heap.size 3 i0 (.int .i64 0) 1 8 Try.underlying46 HI.out hz0 hz1 hz2 rfl (by decide) _ _ _ rfl (World.ownsRow.alloc HO.out _) ⟨w'.heap.size, 0, none⟩ 1 1 [.int .i64 ((c + x + y) % 256)] rfl rfl ?c11 ?c21 ?c31 ?c41 ?c51 ?_)))
        any_goals (first
          | (intro q u hq; exact one_cell hq)
          | (intro u hu; simp at hu; subst hu; rfl)
          | (unfold maxLen; omega)
          | omega
          | (simp; omega))
        intro v' w1 hown' hg hnn
        have HO2 : Hid _ := hown'
        have HG : Hid _ := hg
        clear hown' hg hnn
        go_wp2
        refine ⟨⟨k + 1, d ++ [(c + x + y) % 256], (c + x + y) / 256, by omega, by go_num, by go_num, by omega, by omega, ?_, ?_, HB2, HE2, ?_⟩, ?_⟩
        · rw [List.length_append, hl]; rfl
        · rw [List.map_append]; exact HO2.out
        · exact of_grown hbw HG.out (fun g hg => (World.ownsRow.lt HO.out g hg).1) hsz
        · simp [intOf]; omega

      · have hc : c = 0 := by
          have h1 := valB_bd a HBa.out
          have h2 := valB_bd b HBb.out
          have h3 := valB_bd d hB.out
          have he := hE.out
          rw [valB_take_all a k (by omega), valB_take_all b k (by omega)] at he
          have p1 : (256 : Int) ^ a.length ≤ 256 ^ (k - 1) := Int.pow_le_pow_of_le_right' (by omega)
          have p2 : (256 : Int) ^ b.length ≤ 256 ^ (k - 1) := Int.pow_le_pow_of_le_right' (by omega)
          have p3 : (256 : Int) ^ k = 256 ^ (k - 1) * 256 := by rw [← Int.pow_succ]; congr 1; omega
          have p4 : (0 : Int) < 256 ^ (k - 1) := Int.pow_pos (by decide)
          rcases (by omega : c = 0 ∨ c = 1) with h | h
          · exact h
          · subst h; omega
        have HE : Hid (valB d = valB a + valB b) := by
          show _ = _
          have he := hE.out
          rw [valB_take_all a k (by omega), valB_take_all b k (by omega), hc] at he
          omega
        clear HX HY HB2 HE2 hE
        go_wp2_with fail
        refine (trim_any _ _ d (IsN.of_owns HO.out) (by omega) (by omega) hB.out).mono ?_
        rintro e w2 ⟨v, d', rfl, hN, hBd, hld, hV, hw2⟩
        have hB2 : Below w.heap.size w w2 := Below.trans hbw (hw2.mono (by omega))
        go_wp2
        go_ret
        exact ⟨v, d', rfl, hN, hBd, by omega, hV.out.trans HE.out, hB2⟩
end Go.Proofs.Ytmflilgppllebaa
