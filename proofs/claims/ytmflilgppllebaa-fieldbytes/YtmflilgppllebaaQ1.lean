/- Walks over the document's own numbers: quotients. -/
import Derived.Test.YtmflilgppllebaaQ0
namespace Go.Proofs.Ytmflilgppllebaa
open Go.RowKit
set_option linter.unusedSimpArgs false
set_option maxRecDepth 20000
set_option linter.unusedVariables false
theorem trim_made (w : World) (b : Nat) (d : List Int) (hd : d.length < 4096) (h : RowD w b d) (hB : Byt d) :
    Calls Try.prog 70 #[.slice (some ⟨b, 0, none⟩) d.length d.length] w fun e w' => ∃ (v' : Value) (d' : List Int), e = .returned v' ∧ IsN w' v' d' ∧ Byt d' ∧ d'.length ≤ d.length ∧ Hid (valB d' = valB d) ∧ Below w.heap.size w w' := by
  refine (trim_some w b 0 d.length d hd (Nat.le_refl _) (World.rowIs.lt h) (fun k hk => by rw [Nat.zero_add]; exact h.cell hk)).mono ?_
  rintro e w' ⟨v, k, rfl, hN, hk, hw⟩
  exact ⟨v, _, rfl, hN, hB.take k, by simp; omega, valB_take d k hk.out.2, hw⟩
set_option maxRecDepth 100000 in
set_option maxHeartbeats 8000000 in
theorem quo_any (w : World) (va vb : Value) (a b : List Int) (ha : IsN w va a) (hb : IsN w vb b) (la : a.length < 500) (lb : b.length < 500) (Ba : Byt a) (Bb : Byt b) (h0 : 0 < valB b) :
    Calls Try.prog 59 #[va, vb] w fun e w' => ∃ (vq vr : Value) (q r : List Int), e = .returned (.tuple #[vq, vr]) ∧ IsN w' vq q ∧ IsN w' vr r ∧ Byt q ∧ Byt r ∧ q.length ≤ a.length ∧ r.length ≤ b.length + 1 ∧ Hid (valB q = valB a / valB b ∧ valB r = valB a % valB b) ∧ Below w.heap.size w w' := by
  have HB : Hid (∀ wr, Below w.heap.size w wr → ∀ (i : Nat), i < 4096 → Calls Try.prog 69 #[vb, .int .i64 i] wr fun e w' => e = .returned (.int .i64 (b.getD i 0)) ∧ w' = wr) := fun wr hw i hi => at_any _ vb b i (hb.below hw) (by omega) hi
  have HIb : Hid (IsN w vb b) := hb
  obtain ⟨ab, cb, rfl, hcb⟩ := hb.shape
  obtain ⟨aa, ca, rfl, hca, ha⟩ := ha
  have HC : Hid _ := cells_le ha
  have hmk := run_make_row' (P := Try.prog) 46 3 (.int .i64 0) 8 Try.underlying46 Try.info3 rfl .i64 .i64 (b.length + 1) (by omega) (by omega)
  have em : ((b.length + 1 : Nat) : Int) = (b.length : Int) + 1 := by omega
  rw [em] at hmk
  have hmk2 := run_make_row' (P := Try.prog) 46 3 (.int .i64 0) 8 Try.underlying46 Try.info3 rfl .i64 .i64 a.length (by omega) (by omega)
  have HBa : Hid (Byt a) := Ba
  have HBb : Hid (Byt b) := Bb
  have HS : Hid _ := quo_start a Ba (valB b) h0 a.length (b.length + 1)
  clear ha hb Ba Bb h0
  go_enter Try.func59, Try.ntmps59
  go_wp2
  clear hmk hmk2 em
  have hq0 := (RowD.made w a.length).onto (.cells (madeCells #[.int .i64 0] (b.length + 1)) 3)
  have hr0 := RowD.made (w.alloc (.cells (madeCells #[.int .i64 0] a.length) 3)) (b.length + 1)
  have hsz0 : (w.alloc (.cells (madeCells #[.int .i64 0] a.length) 3)).heap.size = w.heap.size + 1 := by simp
  rw [hsz0] at hr0
  clear hsz0
  have hbw0 : Below w.heap.size w ((w.alloc (.cells (madeCells #[.int .i64 0] a.length) 3)).alloc (.cells (madeCells #[.int .i64 0] (b.length + 1)) 3)) := by go_grown
  generalize ((w.alloc (.cells (madeCells #[.int .i64 0] a.length) 3)).alloc (.cells (madeCells #[.int .i64 0] (b.length + 1)) 3)) = w0 at *
  go_loopw [9] (fun i wr => ∃ (k : Nat) (q r : List Int), k ≤ 8 * a.length ∧ i = .int .i64 ((k : Int) - 1) ∧ q.length = a.length ∧ r.length = b.length + 1 ∧ RowD wr w.heap.size q ∧ RowD wr (w.heap.size + 1) r ∧ Hid (Byt q) ∧ Hid (Byt r) ∧ Hid (QInv (valB a) (valB b) k q r) ∧ Below w.heap.size w wr) (fun i _ => (intOf i + 1).toNat)
  case atStart => exact ⟨8 * a.length, _, _, by omega, by first | go_num | (simp; done) | (simp; omega), by simp, by simp, hq0, hr0, byt_zero _, byt_zero _, HS, hbw0⟩
  case round =>
    clear hq0 hr0 hbw0 HS
    obtain ⟨k, q, r, hk, rfl, hlq, hlr, hq, hrr, hBq, hBr, HQ, hbw⟩ := hrel
    rcases Nat.eq_zero_or_pos k with rfl | hk0
    · have HE : Hid (valB q = valB a / valB b ∧ valB r = valB a % valB b) := quo_end HQ.out
      clear HQ
      rw [show ((0 : Nat) : Int) - 1 = -1 from rfl]
      have HT1 : Hid _ := trim_made wr _ q (by omega) hq hBq.out
      rw [hlq] at HT1
      go_wp2_with fail
      refine Calls.mono HT1.out ?_
      rintro e w2 ⟨v1, d1, rfl, hN1, hB1, hl1, hV1, hw2⟩
      have hrr2 : RowD w2 (w.heap.size + 1) r := World.rowIs.of_block hrr (hw2.block _ (World.rowIs.lt hrr))
      have HT2 : Hid _ := trim_made w2 _ r (by omega) hrr2 hBr.out
      rw [hlr] at HT2
      go_wp2_with fail
      refine Calls.mono HT2.out ?_
      rintro e w3 ⟨v2, d2, rfl, hN2, hB2, hl2, hV2, hw3⟩
      have hBB : Below w.heap.size w w3 := (hbw.trans (hw2.mono hbw.size)).trans (hw3.mono (Nat.le_trans hbw.size hw2.size))
      have hN1 := hN1.below hw3
      go_wp2
      go_ret2
      exact ⟨v1, v2, d1, d2, rfl, hN1, hN2, hB1, hB2, by omega, by omega, ⟨hV1.out.trans HE.out.1, hV2.out.trans HE.out.2⟩, hBB⟩
    · obtain ⟨k, rfl⟩ : ∃ k', k = k' + 1 := ⟨k - 1, by omega⟩
      have em : ((k + 1 : Nat) : Int) - 1 = k := by omega
      rw [em]
      clear em
      obtain ⟨m, s, hs, rfl⟩ : ∃ m s, s < 8 ∧ k = 8 * m + s := ⟨k / 8, k % 8, by omega, by omega⟩
      obtain ⟨ba, oa, rfl, hba, hca⟩ := HC.out m (by omega)
      have hcella := (hbw.cell (p := ⟨ba, oa + m, none⟩) hba).trans hca
      have ham := HBa.out m
      obtain ⟨c0, hc0e⟩ : ∃ c0, c0 = valB a / 2 ^ (8 * m + s) % 2 := ⟨_, rfl⟩
      have hc00 : 0 ≤ c0 := by omega
      have hc01 : c0 ≤ 1 := by omega
      have hbit : bits .and .i64 (a.getD m 0 / 2 ^ s) 1 = c0 := by rw [i64_and1, bit_valB a HBa.out m s hs, hc0e]
      have HC0 : Hid _ := hc0e
      have HI2 : Hid (valB r < valB b) := by obtain ⟨_, _, _, _, h⟩ := HQ.out; exact h
      clear hc0e
      have e1 : ((8 * m + s : Nat) : Int) / 8 = m := by omega
      have e2 : ((8 * m + s : Nat) : Int) % 8 = s := by omega
      have hx2 : 0 ≤ a.getD m 0 / 2 ^ s ∧ a.getD m 0 / 2 ^ s < 256 := by
        have hp := pow_pos' s
        exact ⟨Int.ediv_nonneg ham.1 (Int.le_of_lt hp), Int.lt_of_le_of_lt (Int.ediv_le_self _ ham.1) ham.2⟩
      generalize a.getD m 0 = am at *
      obtain ⟨ham0, ham1⟩ := ham
      obtain ⟨hx20, hx21⟩ := hx2
      generalize hK : ((8 * m + s : Nat) : Int) = K at *
      have hK0 : 0 ≤ K ∧ K < 4000 := by omega
      obtain ⟨hK0, hK1⟩ := hK0
      go_wp2
      go_loopw [10, 11] (fun c j wr => ∃ (t : Nat) (c' : Int) (d : List Int), t ≤ b.length + 1 ∧ c = .int .i64 c' ∧ j = .int .i64 t ∧ 0 ≤ c' ∧ c' ≤ 1 ∧ d.length = b.length + 1 ∧ RowD wr w.heap.size q ∧ RowD wr (w.heap.size + 1) d ∧ Hid (Byt d) ∧ Hid (∀ s, t ≤ s → d.getD s 0 = r.getD s 0) ∧ Hid (valB d + 256 ^ t * c' = valB r + valB (r.take t) + c0) ∧ Below w.heap.size w wr) (fun _ j _ => 2000 - (intOf j).toNat)
      case atStart => exact ⟨0, c0, r, by omega, rfl, rfl, hc00, hc01, hlr, hq, hrr, hBr, fun _ _ => rfl, by show _ = _; simp [valB], hbw⟩
      case round =>
        obtain ⟨t, c, d, ht, rfl, rfl, hc0, hc1, hld, hq, hrd, hBd, hsame, hE, hbw⟩ := hrel
        by_cases hlt : t < b.length + 1
        · have hx := hBd.out t
          have hcell := hrd.cell (j := t) (by omega)
          have hfz : wr.frozen? ⟨w.heap.size + 1, t, none⟩ = false := World.rowIs.frozen hrd t
          have HSet : Hid (∀ x, valB (d.set t x) = valB d + 256 ^ t * (x - d.getD t 0)) := fun x => valB_set d t x (by omega)
          have HTk := valB_take_succ r t
          have hxr := hsame.out t (Nat.le_refl _)
          rw [← hxr] at HTk
          clear hxr
          have hsame2 : Hid (∀ x s, t + 1 ≤ s → (d.set t x).getD s 0 = r.getD s 0) := fun x s hs => by
            rw [getD_set d t x s (by omega), if_neg (by omega)]; exact hsame.out s (by omega)
          have hrow2 : Hid (∀ x, RowD (wr.setCell ⟨w.heap.size + 1, t, none⟩ (.int .i64 x)) (w.heap.size + 1) (d.set t x)) := fun x => hrd.set (by omega) x
          have hset := fun x => hBd.out.set (j := t) (x := x) (by omega)
          generalize d.getD t 0 = x at *
          obtain ⟨hx0, hx1⟩ := hx
          have h255 : bits .and .i64 (c + 2 * x) 255 = (c + 2 * x) % 256 := i64_and255 _
          have HE2 : Hid (valB (d.set t ((c + 2 * x) % 256)) + 256 ^ (t + 1) * ((c + 2 * x) / 256) = valB r + valB (r.take (t + 1)) + c0) := by
            show _ = _
            rw [HSet.out, HTk, Int.pow_succ, row_step _ _ c (c + 2 * x) x x _ (by omega) hE.out]
            omega
          have HB2 : Hid (Byt (d.set t ((c + 2 * x) % 256))) := hset _ (by omega) (by omega)
          clear HTk HSet hE hBd hsame hset
          go_wp2
          exact ⟨⟨t + 1, (c + 2 * x) / 256, d.set t ((c + 2 * x) % 256), by omega, by go_num, by go_num, by omega, by omega, by rw [List.length_set]; exact hld, hq.far (by omega) _ _, hrow2.out _, HB2, hsame2.out _, HE2, below_set0 hbw (by omega) _ _⟩, by simp [intOf]; omega⟩
        · have htn : t = b.length + 1 := by omega
          have HR : Hid (valB d = 2 * valB r + c0) := by
            show _ = _
            have he := hE.out
            rw [valB_take_all r t (by omega)] at he
            have hd := valB_bd d hBd.out
            rw [hld, ← htn] at hd
            exact double_end htn he hd hc0 hc00 hc01 HI2.out (Int.le_of_lt (valB_bd b HBb.out).2)
          clear hE hsame
          clear htn
          have hd' : decide ((t : Int) < b.length + 1) = false := by simp; omega
          have HCMP : Hid (Calls Try.prog 76 #[.slice (some ⟨w.heap.size + 1, 0, none⟩) (b.length + 1) (b.length + 1), .slice ab b.length cb] wr fun e w' => e = .returned (.int .i64 (cmpN (valB d) (valB b))) ∧ w' = wr) := cmpref_any _ _ _ d b (hrd.isN hld) (IsN.below HIb.out hbw) (by omega) (by omega) hBd.out HBb.out
          by_cases hcmp : valB d < valB b
          · rw [cmpN_lt hcmp] at HCMP
            have HQ2 : Hid (QInv (valB a) (valB b) (8 * m + s) q d) := quo_skip HQ.out (by rw [HR.out, HC0.out]) hcmp
            clear HR hcmp
            go_wp2_with (first | (go_at_call 76; go_must (refine Calls.mono HCMP.out ?_; rintro e w' ⟨rfl, rfl⟩)))
            exact ⟨⟨8 * m + s, q, d, by omega, by first | (rw [hK]) | go_num | (simp; omega), hlq, hld, hq, hrd, hBq, hBd, HQ2, hbw⟩, by simp [intOf]; omega⟩
          · have HCMP2 : Hid (∃ z : Int, 0 ≤ z ∧ Calls Try.prog 76 #[.slice (some ⟨w.heap.size + 1, 0, none⟩) (b.length + 1) (b.length + 1), .slice ab b.length cb] wr fun e w' => e = .returned (.int .i64 z) ∧ w' = wr) := ⟨_, by unfold cmpN; rw [if_neg hcmp]; split <;> decide, HCMP.out⟩
            have HGE : Hid (valB b ≤ valB d) := by show _ ≤ _; omega
            obtain ⟨z, hz0, HCMP3⟩ := HCMP2.out
            have HCMP3 : Hid _ := HCMP3
            clear hcmp HCMP HCMP2
            have hzz : decide (z < 0) = false := by simp; omega
            go_wp2_with (first | (go_at_call 76; go_must (refine Calls.mono HCMP3.out ?_; rintro e w' ⟨rfl, rfl⟩)))
            go_loopw [10, 12] (fun c j wr => ∃ (t : Nat) (c' : Int) (f : List Int), t ≤ b.length + 1 ∧ c = .int .i64 c' ∧ j = .int .i64 t ∧ -1 ≤ c' ∧ c' ≤ 0 ∧ f.length = b.length + 1 ∧ RowD wr w.heap.size q ∧ RowD wr (w.heap.size + 1) f ∧ Hid (Byt f) ∧ Hid (valB f + 256 ^ t * c' = valB d - valB (b.take t)) ∧ Below w.heap.size w wr) (fun _ j _ => 2000 - (intOf j).toNat)
            case atStart => exact ⟨0, 0, d, by omega, rfl, rfl, by omega, by omega, hld, hq, hrd, hBd, by show _ = _; simp [valB], hbw⟩
            case round =>
              obtain ⟨t, c, f, ht, rfl, rfl, hc0, hc1, hlf, hq, hrf, hBf, hE, hbw⟩ := hrel
              by_cases hlt : t < b.length + 1
              · have hx := hBf.out t
                have hy := HBb.out t
                have hcell := hrf.cell (j := t) (by omega)
                have hfz : wr.frozen? ⟨w.heap.size + 1, t, none⟩ = false := World.rowIs.frozen hrf t
                have HSet : Hid (∀ x, valB (f.set t x) = valB f + 256 ^ t * (x - f.getD t 0)) := fun x => valB_set f t x (by omega)
                have HTk := valB_take_succ b t
                have hrow2 : Hid (∀ n x, RowD ((wr.drewN n).setCell ⟨w.heap.size + 1, t, none⟩ (.int .i64 x)) (w.heap.size + 1) (f.set t x)) := fun n x => (hrf.drew n).set (by omega) x
                have hset := fun x => hBf.out.set (j := t) (x := x) (by omega)
                have HY : Hid (∀ n, Calls Try.prog 69 #[.slice ab b.length cb, .int .i64 t] (wr.drewN n) fun e w' => e = .returned (.int .i64 (b.getD t 0)) ∧ w' = wr.drewN n) := fun n => HB.out (wr.drewN n) (below_drew hbw n) t (by omega)
                generalize f.getD t 0 = x at *
                generalize b.getD t 0 = y at *
                obtain ⟨hx0, hx1⟩ := hx
                obtain ⟨hy0, hy1⟩ := hy
                have h255 : bits .and .i64 (c + x - y) 255 = (c + x - y) % 256 := i64_and255 _
                have HE2 : Hid (valB (f.set t ((c + x - y) % 256)) + 256 ^ (t + 1) * ((c + x - y) / 256) = valB d - valB (b.take (t + 1))) := by
                  show _ = _
                  rw [HSet.out, HTk, Int.pow_succ, row_step _ _ c (c + x - y) x (-y) _ (by omega) hE.out, Int.mul_neg]
                  omega
                have HB2 : Hid (Byt (f.set t ((c + x - y) % 256))) := hset _ (by omega) (by omega)
                clear HTk HSet hE hBf hset
                go_wp2
                go_quiet (first | (go_at_call 69; refine Calls.quiet_of_same (HY.out _)))
                go_wp2
                exact ⟨⟨t + 1, (c + x - y) / 256, f.set t ((c + x - y) % 256), by omega, by go_num, by go_num, by omega, by omega, by rw [List.length_set]; exact hlf, (hq.drew _).far (by omega) _ _, hrow2.out _ _, HB2, HE2, below_set hbw _ (by omega) _ _⟩, by simp [intOf]; omega⟩
              · have htn : t = b.length + 1 := by omega
                have HR2 : Hid (valB f = valB d - valB b) := by
                  show _ = _
                  have he := hE.out
                  rw [valB_take_all b t (by omega)] at he
                  have hd := valB_bd f hBf.out
                  rw [hlf, ← htn] at hd
                  have := HGE.out
                  exact less_end he hd hc0 hc1 (by omega)
                clear hE htn
                have hd'' : decide ((t : Int) < b.length + 1) = false := by simp; omega
                have hx := hBq.out m
                have hcell := hq.cell (j := m) (by omega)
                have hfz : wr.frozen? ⟨w.heap.size, m, none⟩ = false := World.rowIs.frozen hq m
                have hdig : q.getD m 0 % 2 ^ (s + 1) = 0 := by
                  obtain ⟨Q, hQ, _⟩ := HQ.out
                  exact digit_div q hBq.out m s Q hs (by rw [hQ])
                have HSet := valB_set q m (q.getD m 0 + 2 ^ s) (by omega)
                have hrow2 : Hid (RowD (wr.setCell ⟨w.heap.size, m, none⟩ (.int .i64 (q.getD m 0 + 2 ^ s))) w.heap.size (q.set m (q.getD m 0 + 2 ^ s))) := hq.set (by omega) _
                have hset := hBq.out.set (j := m) (x := q.getD m 0 + 2 ^ s) (by omega)
                generalize q.getD m 0 = x at *
                obtain ⟨hx0, hx1⟩ := hx
                obtain ⟨hor, ho0, ho1⟩ := or_bit x s hx0 hx1 hs hdig
                have HB2 : Hid (Byt (q.set m (x + 2 ^ s))) := hset ho0 ho1
                have HQ2 : Hid (QInv (valB a) (valB b) (8 * m + s) (q.set m (x + 2 ^ s)) f) := quo_take HQ.out (by rw [HR.out, HC0.out]) HGE.out HR2.out (by
                  rw [HSet, show x + 2 ^ s - x = (2 : Int) ^ s from by omega, pow256, ← Int.pow_add])
                have hv : wrap64 (2 ^ s) = 2 ^ s := by unfold wrap64; omega
                clear HSet hset hdig HQ HR HR2 HGE HC0 HI2
                go_wp2
                exact ⟨⟨8 * m + s, q.set m (x + 2 ^ s), f, by omega, by first | go_num | (simp; done) | (simp; omega), by rw [List.length_set]; exact hlq, hlf, hrow2.out, hrf.far (by omega) _ _, HB2, hBf, HQ2, below_set0 hbw (by omega) _ _⟩, by simp [intOf]; omega⟩
end Go.Proofs.Ytmflilgppllebaa
