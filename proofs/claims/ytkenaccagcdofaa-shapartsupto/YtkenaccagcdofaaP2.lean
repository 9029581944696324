/- ShaParts: the walk. -/
import Derived.Test.YtkenaccagcdofaaP1
namespace Go.Proofs.Ytkenaccagcdofaa
open Go.RowKit Go.Shelf
set_option linter.unusedSimpArgs false
set_option linter.unusedVariables false

set_option maxRecDepth 100000 in
set_option maxHeartbeats 1000000 in
theorem write_nil (ao : Option Addr) (len cap : Nat) (w : World) : Calls Try.prog 13 #[.pointer none, .slice ao len cap] w fun e w' => e = .returned (.tuple #[]) ∧ Below w.heap.size w w' := by
  go_enter Try.func13, Try.ntmps13
  go_wp2
  refine bodyPost_ret (results_none rfl _ _ _) rfl ⟨rfl, by go_grown⟩
/-- The parts, as they lie in memory. -/
def Parts (W : World) (lb lo L : Nat) (ao : Nat → Option Addr) (ln cp : Nat → Nat) (ms : Nat → Nat → BitVec 8) : Prop :=
  ∀ i, i < L → W.cell? ⟨lb, lo + i, none⟩ = some (.slice (ao i) (ln i) (cp i)) ∧ Bytes W (ao i) (ln i) (cp i) (ms i) ∧ (ao i = none → ln i = 0 ∧ cp i = 0)
/-- The worlds of the loop: what the Hasher holds, what lies in all. -/
def Pt (W : World) (s : Value) (msg : Nat → BitVec 8) (n : Nat) (wr : World) : Prop :=
  wr.ownsRow (W.heap.size + 2) 5 1 s n (bl msg n) ∧ HasIn wr (W.heap.size + 1) msg n ∧ Below W.heap.size W wr
theorem HasIn.gb {u v : World} {hb n : Nat} {m : Nat → BitVec 8} {r : Option Nat} (h : HasIn u hb m n) (hg : u.grownBy v r) (hne : some hb ≠ r) : HasIn v hb m n := by
  obtain ⟨p, hr, hp⟩ := h
  exact ⟨p, hr.of_block (hg.block _ hr.lt hne), hp⟩
theorem HasIn.bel {u v : World} {hb n : Nat} {m : Nat → BitVec 8} (h : HasIn u hb m n) (hg : Below u.heap.size u v) : HasIn v hb m n := by
  obtain ⟨p, hr, hp⟩ := h
  exact ⟨p, hr.of_block (hg.block _ hr.lt), hp⟩
theorem own_bel {u v : World} {base n : Nat} {s : Value} {xs : List Value} (h : u.ownsRow base 5 1 s n xs) (hg : Below u.heap.size u v) : v.ownsRow base 5 1 s n xs :=
  h.kept (row := none) ⟨hg.os, hg.tape, hg.output, hg.size, fun k hk _ => hg.block k hk⟩ (by cases s.ownBlock <;> simp)
theorem Pt.bel {W : World} {s : Value} {msg : Nat → BitVec 8} {n : Nat} {u v : World} (h : Pt W s msg n u) (hg : Below u.heap.size u v) : Pt W s msg n v :=
  ⟨own_bel h.1 hg, h.2.1.bel hg, h.2.2.trans (hg.mono h.2.2.size)⟩
theorem own_gb {u v : World} {base n hb : Nat} {s : Value} {xs : List Value} (h : u.ownsRow base 5 1 s n xs) (hg : u.grownBy v (some hb)) (hlt : hb < base) : v.ownsRow base 5 1 s n xs :=
  h.kept hg (by
    cases e : s.ownBlock with
    | none => exact .inl rfl
    | some k => exact .inr (by have := (h.lt k e).1; simp; omega))
set_option maxRecDepth 100000 in
set_option maxHeartbeats 4000000 in
theorem parts_any (lao : Option Addr) (L C lb lo : Nat) (ao : Nat → Option Addr) (ln cp : Nat → Nat) (ms : Nat → Nat → BitVec 8) (W : World) (hl : 0 < L → lao = some ⟨lb, lo, none⟩) (hrow : Parts W lb lo L ao ln cp ms) (hL : L ≤ 1048576) (htot : ∀ i, i ≤ L → tot ln i ≤ 1048576) :
    Calls Try.prog 5 #[.slice lao L C] W fun e w' => e = .returned (.bool true) ∧ Below W.heap.size W w' := by
  have H0 : Hid (True ∧ True ∧ (0 < L → lao = some ⟨lb, lo, none⟩) ∧ Parts W lb lo L ao ln cp ms ∧ (∀ i, i ≤ L → tot ln i ≤ 1048576)) := ⟨trivial, trivial, hl, hrow, htot⟩
  have HD : Hid (∀ (n : Nat) (msg : Nat → BitVec 8), ∃ D, digest msg n = D) := fun n msg => ⟨_, rfl⟩
  clear hl hrow htot
  go_enter Try.func5, Try.ntmps5
  go_wp2_with (first | (go_at_call 12; refine (new_any _).mono ?_; rintro e w1 ⟨rfl, rfl⟩))
  have hW1 : Below W.heap.size W ((W.alloc (.cells (vec 8 (lan HH)) 38)).alloc (.cells (vec 137 has0) 52)) := by go_grown
  have hH1 : HasIn ((W.alloc (.cells (vec 8 (lan HH)) 38)).alloc (.cells (vec 137 has0) 52)) (W.heap.size + 1) (cat ln ms 0) 0 := has_new _ _
  generalize (W.alloc (.cells (vec 8 (lan HH)) 38)).alloc (.cells (vec 137 has0) 52) = W1 at hW1 hH1 ⊢
  have HW : Hid (Below W.heap.size W W1 ∧ HasIn W1 (W.heap.size + 1) (cat ln ms 0) 0) := ⟨hW1, hH1⟩
  clear hW1 hH1
  go_wp2_with (first | (go_at_call 8; refine (alive_any _).mono ?_; rintro e w3 ⟨rfl, hb4⟩))
  have HS : Hid (Pt W (.slice none 0 0) (cat ln ms 0) 0 w3) := ⟨World.ownsRow_nil _ _ _ _, HW.out.2.bel hb4, HW.out.1.trans (hb4.mono HW.out.1.size)⟩
  clear hb4 HW
  go_loopw [4, 5] (fun s i wr => ∃ k : Nat, k ≤ L ∧ i = .int .i64 (k : Int) ∧ Pt W s (cat ln ms k) (tot ln k) wr) (fun _ i _ => L - (intOf i).toNat)
  case atStart => exact ⟨0, by omega, rfl, HS.out⟩
  case round =>
    obtain ⟨k, hk, rfl, hin⟩ := hrel
    clear HS
    have HP : Hid (Pt W u4 (cat ln ms k) (tot ln k) wr ∧ True) := ⟨hin, trivial⟩
    clear hin
    by_cases hlt : k < L
    · have hle := H0.out.2.2.1 (by omega)
      subst hle
      obtain ⟨hc, hB, hno⟩ := H0.out.2.2.2.1 k hlt
      have hcw : wr.cell? ⟨lb, lo + k, none⟩ = some (.slice (ao k) (ln k) (cp k)) := (HP.out.1.2.2.cell (p := ⟨lb, lo + k, none⟩) (block_lt_of_cell hc)).trans hc
      have hclt : lb < W.heap.size := block_lt_of_cell hc
      have htk := H0.out.2.2.2.2 (k + 1) (by omega)
      have htk' : tot ln k + ln k ≤ 1048576 := htk
      have HBW : Hid (Bytes wr (ao k) (ln k) (cp k) (ms k)) := hB.below HP.out.1.2.2
      have HBB : Hid (Bytes W (ao k) (ln k) (cp k) (ms k)) := hB
      have HNO : Hid (ao k = none → ln k = 0 ∧ cp k = 0) := hno
      clear hc hB hno htk
      have hd : decide ((k : Int) < (L : Int)) = true := by simp; omega
      go_wp2_with fail
      obtain ⟨bb, off, b1, b2, b3, b4, b5⟩ := HBW.out
      have hbb : 0 < ln k → bb < W.heap.size := fun h => by
        obtain ⟨bb', off', c1, c2, _⟩ := HBB.out
        have e := (b1 h).symm.trans (c1 h)
        cases e
        exact block_lt_of_cell (c2 0 h)
      refine (write_any (W.heap.size + 1) (tot ln k) (ln k) (cp k) bb off (ao k) (cat ln ms (k + 1)) wr (HP.out.1.2.1.congr (fun i hi => cat_old ln ms k i hi)) b1 (fun j hj => by rw [cat_new]; exact b2 j hj) (fun h => by have := hbb h; omega) b3 b4 b5 (by omega)).mono ?_
      rintro e w2 ⟨rfl, hg2, hin2⟩
      have hB2 : Below W.heap.size W w2 := HP.out.1.2.2.grown hg2 HP.out.1.2.2.size (fun k e => by cases e; omega)
      have hcw2 : w2.cell? ⟨lb, lo + k, none⟩ = some (.slice (ao k) (ln k) (cp k)) := hg2.cell hcw (by simp; omega)
      have H2 : Hid (Below W.heap.size W w2 ∧ HasIn w2 (W.heap.size + 1) (cat ln ms (k + 1)) (tot ln k + ln k) ∧ w2.ownsRow (W.heap.size + 2) 5 1 u4 (tot ln k) (bl (cat ln ms k) (tot ln k)) ∧ Bytes w2 (ao k) (ln k) (cp k) (ms k)) := ⟨hB2, hin2, own_gb HP.out.1.1 hg2 (by omega), HBB.out.below hB2⟩
      have hsz2 : W.heap.size + 2 ≤ w2.heap.size := by obtain ⟨_, hr, _⟩ := hin2; have := hr.lt; omega
      clear hg2 hin2 hB2 b1 b2 b3 b4 b5 hbb HBW hcw
      go_wp2_with (first | (at_builtin; go_must (refine wpList_append_bytes rfl _ _ rfl (W.heap.size + 2) _ (tot ln k) _ rfl H2.out.2.2.1 (ao k) (ln k) (cp k) (ms k) rfl H2.out.2.2.2 HNO.out (by omega) hsz2 ?_)))
      intro v3 w3 ho3 hg3
      rw [bl_cat] at ho3
      have hlt3 := H2.out.2.2.1.lt
      have hP3 : Pt W v3 (cat ln ms (k + 1)) (tot ln (k + 1)) w3 := ⟨ho3, H2.out.2.1.gb hg3 (fun e => by have := (hlt3 _ e.symm).1; omega), H2.out.1.grown hg3 H2.out.1.size (fun g e => by have := (hlt3 g e).1; omega)⟩
      obtain ⟨A, c, rfl, hbs, hnos⟩ := own_bytes hP3.1 (by have : tot ln (k + 1) ≤ 1048576 := htk'; omega)
      have HQ : Hid (Pt W (.slice A (tot ln (k + 1)) c) (cat ln ms (k + 1)) (tot ln (k + 1)) w3 ∧ True ∧ Bytes w3 A (tot ln (k + 1)) c (cat ln ms (k + 1))) := ⟨hP3, trivial, hbs⟩
      have HC : Hid ((∀ w, HasIn w (W.heap.size + 1) (cat ln ms (k + 1)) (tot ln (k + 1)) → Calls Try.prog 14 #[.pointer (some ⟨W.heap.size + 1, 0, none⟩)] w fun e w' => e = .returned (.agg (vec 64 (byt (digest (cat ln ms (k + 1)) (tot ln (k + 1)))))) ∧ Below w.heap.size w w') ∧ (∀ w, Bytes w A (tot ln (k + 1)) c (cat ln ms (k + 1)) → Calls Try.prog 7 #[.slice A (tot ln (k + 1)) c] w fun e w' => e = .returned (.agg (vec 64 (byt (digest (cat ln ms (k + 1)) (tot ln (k + 1)))))) ∧ Below w.heap.size w w')) :=
        ⟨fun w h2 => hsum_any _ _ _ w (by have : tot ln (k + 1) ≤ 1048576 := htk'; omega) h2, fun w h => rsum_any _ _ _ _ w h hnos⟩
      clear ho3 hg3 hlt3 hP3 hbs hnos H2 hcw2
      generalize digest (cat ln ms (k + 1)) (tot ln (k + 1)) = D at HC
      obtain ⟨N, hN⟩ : ∃ N, tot ln (k + 1) = N := ⟨_, rfl⟩
      rw [hN] at HC HQ ⊢
      have HN : Hid (tot ln (k + 1) = N) := hN
      clear hN
      go_wp2_with fail
      refine (HC.out.1 _ HQ.out.1.2.1).mono ?_
      rintro e w4 ⟨rfl, hb4⟩
      have HB4 : Hid (Below w3.heap.size w3 w4) := hb4
      clear hb4
      go_wp2_with fail
      refine (HC.out.2 _ (HQ.out.2.2.below HB4.out)).mono ?_
      rintro e w5 ⟨rfl, hb5⟩
      have HB5 : Hid (Below w4.heap.size w4 w5) := hb5
      clear hb5
      have q := eq_dig D w5
      go_wp2
      go_roundw
      case rel => exact ⟨k + 1, by omega, by go_num, by rw [HN.out]; exact (HQ.out.1.bel HB4.out).bel HB5.out⟩
      case measure => simp [intOf]; omega
    · have hd : decide ((k : Int) < (L : Int)) = false := by simp; omega
      obtain ⟨A, c, rfl, hbs, hnos⟩ := own_bytes HP.out.1.1 (by have := H0.out.2.2.2.2 k hk; omega)
      have HQ : Hid (Bytes wr A (tot ln k) c (cat ln ms k)) := hbs
      have HC : Hid ((∀ w, HasIn w (W.heap.size + 1) (cat ln ms k) (tot ln k) → Calls Try.prog 14 #[.pointer (some ⟨W.heap.size + 1, 0, none⟩)] w fun e w' => e = .returned (.agg (vec 64 (byt (digest (cat ln ms k) (tot ln k))))) ∧ Below w.heap.size w w') ∧ (∀ w, Bytes w A (tot ln k) c (cat ln ms k) → Calls Try.prog 6 #[.slice A (tot ln k) c] w fun e w' => e = .returned (.agg (vec 64 (byt (digest (cat ln ms k) (tot ln k))))) ∧ Below w.heap.size w w')) :=
        ⟨fun w h2 => hsum_any _ _ _ w (by have := H0.out.2.2.2.2 k hk; omega) h2, fun w h2 => sum_any _ _ _ _ w h2⟩
      clear hbs hnos
      generalize digest (cat ln ms k) (tot ln k) = D at HC
      go_wp2_with fail
      refine (write_nil _ _ _ _).mono ?_
      rintro e w2 ⟨rfl, hb2⟩
      have H2 : Hid (Pt W (.slice A (tot ln k) c) (cat ln ms k) (tot ln k) w2 ∧ True ∧ Bytes w2 A (tot ln k) c (cat ln ms k)) := ⟨HP.out.1.bel hb2, trivial, HQ.out.below hb2⟩
      clear hb2 HQ HP
      go_wp2_with fail
      refine (HC.out.1 _ H2.out.1.2.1).mono ?_
      rintro e w4 ⟨rfl, hb4⟩
      have H4 : Hid (Below W.heap.size W w4 ∧ Bytes w4 A (tot ln k) c (cat ln ms k)) := ⟨H2.out.1.2.2.trans (hb4.mono H2.out.1.2.2.size), H2.out.2.2.below hb4⟩
      clear hb4 H2
      go_wp2_with fail
      refine (HC.out.2 _ H4.out.2).mono ?_
      rintro e w5 ⟨rfl, hb5⟩
      have HB5 : Hid (Below W.heap.size W w5) := H4.out.1.trans (hb5.mono H4.out.1.size)
      clear hb5 H4
      have q := eq_dig D w5
      have q2 := fun w => eq_dig (fun _ => 0#8) w
      go_wp2_with (first | (go_at_call 14; refine (hsum_nil _).mono ?_; rintro e w6 ⟨rfl, hb6⟩) | (refine wpList_val (by rfl) (build23 rfl _) ?_))
      go_ret
      exact ⟨rfl, HB5.out.trans (hb6.mono HB5.out.size)⟩
end Go.Proofs.Ytkenaccagcdofaa
