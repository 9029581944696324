/- The document's field: Times. -/
import Derived.Test.YtmflilgppllebaaGC
namespace Go.Proofs.Ytmflilgppllebaa
open Go.RowKit
set_option linter.unusedSimpArgs false
set_option linter.unusedVariables false
/-- What n rows of the product give at the place j. -/
def acc (f g : Nat → Int) : Nat → Nat → Int
  | 0, _ => 0
  | i + 1, j => acc f g i j + (if i ≤ j ∧ j < i + 16 then f i * g (j - i) else 0)
/-- And k places of the next row. -/
def acS (f g : Nat → Int) (i k j : Nat) : Int := acc f g i j + (if i ≤ j ∧ j < i + k then f i * g (j - i) else 0)
def foF (f g : Nat → Int) (j : Nat) : Int := acc f g 16 j + (if j < 15 then 38 * acc f g 16 (j + 16) else 0)
def foS (f g : Nat → Int) (k j : Nat) : Int := if j < k then foF f g j else 0
theorem mul_bd {a b A B : Int} (hA : 0 ≤ A) (ha : -A ≤ a ∧ a ≤ A) (hb : -B ≤ b ∧ b ≤ B) : -(A * B) ≤ a * b ∧ a * b ≤ A * B := by
  have hB : 0 ≤ B := by omega
  have key : ∀ x y : Int, -A ≤ x → x ≤ A → 0 ≤ y → y ≤ B → -(A * B) ≤ x * y ∧ x * y ≤ A * B := by
    intro x y h1 h2 h3 h4
    have p1 : x * y ≤ A * y := Int.mul_le_mul_of_nonneg_right h2 h3
    have p2 : A * y ≤ A * B := Int.mul_le_mul_of_nonneg_left h4 hA
    have p3 : -A * y ≤ x * y := Int.mul_le_mul_of_nonneg_right h1 h3
    have p4 : -A * y = -(A * y) := Int.neg_mul A y
    omega
  rcases Int.le_total 0 b with h | h
  · exact key a b ha.1 ha.2 h hb.2
  · have := key a (-b) ha.1 ha.2 (by omega) (by omega)
    rw [Int.mul_neg] at this
    omega
theorem acc_bd {f g : Nat → Int} (hf : Sm 16777216 f) (hg : Sm 16777216 g) : ∀ (i : Nat), i ≤ 16 → ∀ j, -(281474976710656 * (i : Int)) ≤ acc f g i j ∧ acc f g i j ≤ 281474976710656 * (i : Int)
  | 0, _, j => by unfold acc; omega
  | i + 1, hi, j => by
    have ih := acc_bd hf hg i (by omega) j
    unfold acc
    split
    · rename_i h
      have := mul_bd (by decide) (hf i (by omega)) (hg (j - i) (by omega))
      omega
    · omega
theorem acS_bd {f g : Nat → Int} (hf : Sm 16777216 f) (hg : Sm 16777216 g) (i k j : Nat) (hi : i < 16) (hk : k ≤ 16) : -4785074604081152 ≤ acS f g i k j ∧ acS f g i k j ≤ 4785074604081152 := by
  have := acc_bd hf hg i (by omega) j
  unfold acS
  split
  · rename_i h
    have := mul_bd (by decide) (hf i (by omega)) (hg (j - i) (by omega))
    omega
  · omega
theorem foF_bd {f g : Nat → Int} (hf : Sm 16777216 f) (hg : Sm 16777216 g) (j : Nat) : -175640385467449344 ≤ foF f g j ∧ foF f g j ≤ 175640385467449344 := by
  have h1 := acc_bd hf hg 16 (by omega) j
  have h2 := acc_bd hf hg 16 (by omega) (j + 16)
  unfold foF
  split <;> omega
theorem acS_next (f g : Nat → Int) (i k j : Nat) : acS f g i (k + 1) j = if j = i + k then acS f g i k (i + k) + f i * g k else acS f g i k j := by
  unfold acS
  by_cases h : j = i + k
  · subst h
    rw [if_pos rfl, if_pos (by omega), if_neg (by omega), show i + k - i = k from by omega]; omega
  · rw [if_neg h]
    by_cases h2 : i ≤ j ∧ j < i + k
    · rw [if_pos h2, if_pos (by omega)]
    · rw [if_neg h2, if_neg (by omega)]
theorem acS_row (f g : Nat → Int) (i j : Nat) : acS f g i 16 j = acS f g (i + 1) 0 j := by
  unfold acS
  rw [show acc f g (i + 1) j = acc f g i j + (if i ≤ j ∧ j < i + 16 then f i * g (j - i) else 0) from rfl]
  rw [if_neg (c := i + 1 ≤ j ∧ j < i + 1 + 0) (by omega)]; omega
theorem zero31 : (#[.int .i64 0, .int .i64 0, .int .i64 0, .int .i64 0, .int .i64 0, .int .i64 0, .int .i64 0, .int .i64 0, .int .i64 0, .int .i64 0, .int .i64 0, .int .i64 0, .int .i64 0, .int .i64 0, .int .i64 0, .int .i64 0, .int .i64 0, .int .i64 0, .int .i64 0, .int .i64 0, .int .i64 0, .int .i64 0, .int .i64 0, .int .i64 0, .int .i64 0, .int .i64 0, .int .i64 0, .int .i64 0, .int .i64 0, .int .i64 0, .int .i64 0] : Array Value) = vec 31 (gv fun _ => 0) := by kernel_rfl
/-- The worlds of the loops. -/
def TmIn (f g : Nat → Int) (w : World) (t : Nat → Int) (wr : World) : Prop :=
  wr.rowIs w.heap.size 55 16 (gv f) ∧ wr.rowIs (w.heap.size + 1) 55 16 (gv g) ∧ wr.rowIs (w.heap.size + 2) 55 16 (gv fun _ => 0) ∧ wr.rowIs (w.heap.size + 3) 73 31 (gv t) ∧ Below w.heap.size w wr
theorem tm_start (f g : Nat → Int) (w : World) : TmIn f g w (acS f g 0 0) ((((w.alloc (.cells (vec 16 (gv f)) 55)).alloc (.cells (vec 16 (gv g)) 55)).alloc (.cells (vec 16 (gv fun _ => 0)) 55)).alloc (.cells (vec 31 (gv fun _ => 0)) 73)) := by
  refine ⟨(((heap_row (heap_alloc_new w _)).alloc _).alloc _).alloc _, ((heap_row (gheap_n _ _ _ (by simp))).alloc _).alloc _, (heap_row (gheap_n _ _ _ (by simp))).alloc _, (heap_row (gheap_n _ _ _ (by simp))).congr (fun i hi => ?_), by go_grown⟩
  simp only [gv, acS, acc]
  rw [if_neg (by omega)]; rfl
theorem TmIn.drewN {f g t : Nat → Int} {w wr : World} (h : TmIn f g w t wr) (m : Nat) : TmIn f g w t (wr.drewN m) :=
  ⟨row_drewN h.1 m, row_drewN h.2.1 m, row_drewN h.2.2.1 m, row_drewN h.2.2.2.1 m, ⟨h.2.2.2.2.os, h.2.2.2.2.tape, h.2.2.2.2.output, h.2.2.2.2.size, h.2.2.2.2.block⟩⟩
theorem TmIn.set {f g t t' : Nat → Int} {w wr : World} (h : TmIn f g w t wr) (p : Nat) (x : Int) (ht : ∀ i, i < 31 → t' i = if i = p then x else t i) : TmIn f g w t' (wr.setCell ⟨w.heap.size + 3, p, none⟩ (.int .i64 x)) :=
  ⟨h.1.setOther (by show w.heap.size ≠ w.heap.size + 3; omega) _, h.2.1.setOther (by show w.heap.size + 1 ≠ w.heap.size + 3; omega) _, h.2.2.1.setOther (by show w.heap.size + 2 ≠ w.heap.size + 3; omega) _,
    (h.2.2.2.1.set _ _).congr (fun i hi => by
      simp only [gv]; rw [ht i hi]; split <;> rfl), h.2.2.2.2.setCell (by show w.heap.size ≤ w.heap.size + 3; omega) _⟩
theorem TmIn.to {f g t t' : Nat → Int} {w wr : World} (h : TmIn f g w t wr) (ht : ∀ i, i < 31 → t i = t' i) : TmIn f g w t' wr :=
  ⟨h.1, h.2.1, h.2.2.1, h.2.2.2.1.congr (fun i hi => by simp only [gv]; rw [ht i hi]), h.2.2.2.2⟩
theorem TmIn.more {f g t : Nat → Int} {w u v : World} (h : TmIn f g w t u) (hb : Below u.heap.size u v) : TmIn f g w t v :=
  ⟨h.1.of_block (hb.block _ h.1.lt), h.2.1.of_block (hb.block _ h.2.1.lt), h.2.2.1.of_block (hb.block _ h.2.2.1.lt), h.2.2.2.1.of_block (hb.block _ h.2.2.2.1.lt), h.2.2.2.2.trans (hb.mono h.2.2.2.2.size)⟩
theorem TmIn.far {f g t : Nat → Int} {w wr : World} (h : TmIn f g w t wr) {bo : Nat} (hb : w.heap.size + 3 < bo) (p : Nat) (v : Value) : TmIn f g w t (wr.setCell ⟨bo, p, none⟩ v) :=
  ⟨h.1.setOther (by show w.heap.size ≠ bo; omega) _, h.2.1.setOther (by show w.heap.size + 1 ≠ bo; omega) _, h.2.2.1.setOther (by show w.heap.size + 2 ≠ bo; omega) _, h.2.2.2.1.setOther (by show w.heap.size + 3 ≠ bo; omega) _, h.2.2.2.2.setCell (by show w.heap.size ≤ bo; omega) _⟩
theorem foS_step {f g : Nat → Int} {k : Nat} {x : Int} (hx : foF f g k = x) (i : Nat) (hi : i < 16) : (if i = k then Value.int .i64 x else gv (foS f g k) i) = gv (foS f g (k + 1)) i := by
  simp only [gv, foS]
  by_cases h : i = k
  · rw [if_pos h, if_pos (by omega), h, hx]
  · rw [if_neg h]
    by_cases h2 : i < k
    · rw [if_pos h2, if_pos (by omega)]
    · rw [if_neg h2, if_neg (by omega)]
theorem foS_step2 {f g : Nat → Int} {k : Nat} {x : Int} {v : Value} (hx : foF f g k = x) (i : Nat) (hi : i < 16) : (if i = k then Value.int .i64 x else if i = k then v else gv (foS f g k) i) = gv (foS f g (k + 1)) i := by
  rw [← foS_step hx i hi]
  split <;> simp_all
theorem caF_sm {f : Nat → Int} (h : Sm 1152921504606846976 f) : Sm 1152921504606846976 (caF f) := fun j hj => by
  have h1 := tt_bd h j hj
  have h2 := tt_bd h 0 (by omega)
  have h3 := tt_bd h 15 (by omega)
  unfold caF cc
  split <;> omega
set_option maxRecDepth 20000 in
set_option maxHeartbeats 2000000 in
/-- conclaveref04.Times -/
theorem gtimes_any (f g : Nat → Int) (hf : Sm 16777216 f) (hg : Sm 16777216 g) (w : World) :
    Calls Try.prog 48 #[.agg (vec 16 (gv f)), .agg (vec 16 (gv g))] w fun e w' => e = .returned (.agg (vec 16 (gv (caF (caF (foF f g)))))) ∧ Below w.heap.size w w' := by
  have HS : Hid _ := tm_start f g w
  rw [← zero16, ← zero31] at HS
  have HF : Hid (Sm 16777216 f) := hf
  have HG : Hid (Sm 16777216 g) := hg
  clear hf hg
  go_enter Try.func48, Try.ntmps48
  go_wp2
  go_loopw [6] (fun i wr => ∃ k : Nat, k ≤ 16 ∧ i = .int .i64 (k : Int) ∧ TmIn f g w (acS f g k 0) wr) (fun i _ => 16 - (intOf i).toNat)
  case atStart => exact ⟨0, by omega, rfl, HS.out⟩
  case round =>
    obtain ⟨i, hi, rfl, hin⟩ := hrel
    clear HS
    by_cases hlt : i < 16
    · have HI : Hid (TmIn f g w (acS f g i 0) wr) := hin
      clear hin
      have hdx : decide ((i : Int) < 16) = true := by simp; omega
      go_wp2
      go_loopw [7] (fun j wv => ∃ k : Nat, k ≤ 16 ∧ j = .int .i64 (k : Int) ∧ TmIn f g w (acS f g i k) wv) (fun i _ => 16 - (intOf i).toNat)
      case atStart => exact ⟨0, by omega, rfl, HI.out⟩
      case round =>
        obtain ⟨k, hk, rfl, hin⟩ := hrel
        clear HI
        by_cases hkl : k < 16
        · have c1 : wr.cell? ⟨w.heap.size, i, none⟩ = some (.int .i64 (f i)) := hin.1.cell hlt
          have c2 : wr.cell? ⟨w.heap.size + 1, k, none⟩ = some (.int .i64 (g k)) := hin.2.1.cell hkl
          have c3 : wr.cell? ⟨w.heap.size + 3, i + k, none⟩ = some (.int .i64 (acS f g i k (i + k))) := hin.2.2.2.1.cell (by omega)
          have hfz : wr.frozen? ⟨w.heap.size + 3, i + k, none⟩ = false := hin.2.2.2.1.frozen _
          have hb1 := mul_bd (by decide) (HF.out i hlt) (HG.out k hkl)
          have hb2 := acS_bd HF.out HG.out i k (i + k) hlt (by omega)
          have HX : Hid (∀ j, j < 31 → acS f g i (k + 1) j = if j = i + k then acS f g i k (i + k) + f i * g k else acS f g i k j) := fun j _ => acS_next f g i k j
          have H1 : Hid (TmIn f g w (acS f g i k) wr) := hin
          clear hin
          generalize hp : f i * g k = p at *
          generalize acS f g i k (i + k) = s at *
          go_wp2
          go_region
          go_wp2
          go_roundw
          case rel => exact ⟨k + 1, by omega, by go_num, (H1.out.drewN 1).set (i + k) _ HX.out⟩
          case measure => simp [intOf]; omega
        · have HI : Hid (TmIn f g w (acS f g (i + 1) 0) wr) := hin.to (fun j _ => by rw [show k = 16 from by omega]; exact acS_row f g i j)
          clear hin
          have hkd : decide ((k : Int) < 16) = false := by simp; omega
          go_wp2
          go_roundw
          case rel => exact ⟨i + 1, by omega, by go_num, HI.out⟩
          case measure => simp [intOf]; omega
    · have hT : TmIn f g w (acc f g 16) wr := hin.to (fun j _ => by rw [show i = 16 from by omega]; unfold acS; rw [if_neg (by omega)]; omega)
      clear hin
      have hid : decide ((i : Int) < 16) = false := by simp; omega
      go_wp2
      rw [zero16]
      have hA : TmIn f g w (acc f g 16) (wr.alloc (.cells (vec 16 (gv fun _ => 0)) 55)) := hT.more ((Below.refl _ _).alloc (Nat.le_refl _) _)
      have hB : (wr.alloc (.cells (vec 16 (gv fun _ => 0)) 55)).rowIs wr.heap.size 55 16 (gv (foS f g 0)) := (heap_row (heap_alloc_new _ _)).congr (fun i _ => by simp [gv, foS])
      have hbo : w.heap.size + 3 < wr.heap.size := hT.2.2.2.1.lt
      generalize wr.alloc (.cells (vec 16 (gv fun _ => 0)) 55) = W6 at hA hB ⊢
      obtain ⟨bo, hbo'⟩ : ∃ bo, wr.heap.size = bo := ⟨_, rfl⟩
      rw [hbo'] at hB hbo ⊢
      have HA : Hid (TmIn f g w (acc f g 16) W6 ∧ W6.rowIs bo 55 16 (gv (foS f g 0))) := ⟨hA, hB⟩
      clear hA hB hbo' hT
      go_loopw [9] (fun i wv => ∃ k : Nat, k ≤ 16 ∧ i = .int .i64 (k : Int) ∧ TmIn f g w (acc f g 16) wv ∧ wv.rowIs bo 55 16 (gv (foS f g k))) (fun i _ => 16 - (intOf i).toNat)
      case atStart => exact ⟨0, by omega, rfl, HA.out⟩
      case round =>
        obtain ⟨k, hk, rfl, hin, hrow⟩ := hrel
        clear HA
        by_cases hkl : k < 16
        · have c1 : wr.cell? ⟨w.heap.size + 3, k, none⟩ = some (.int .i64 (acc f g 16 k)) := hin.2.2.2.1.cell (by omega)
          obtain ⟨u, c2⟩ : ∃ u, wr.cell? ⟨bo, k, none⟩ = some u := ⟨_, hrow.cell hkl⟩
          have hfz : wr.frozen? ⟨bo, k, none⟩ = false := hrow.frozen _
          have H1 : Hid (TmIn f g w (acc f g 16) wr ∧ wr.rowIs bo 55 16 (gv (foS f g k))) := ⟨hin, hrow⟩
          have hb1 := acc_bd HF.out HG.out 16 (by omega) k
          have hb2 := acc_bd HF.out HG.out 16 (by omega) (k + 16)
          by_cases hk15 : k < 15
          · have c3 : wr.cell? ⟨w.heap.size + 3, k + 16, none⟩ = some (.int .i64 (acc f g 16 (k + 16))) := hin.2.2.2.1.cell (by omega)
            have HX : Hid (foF f g k = acc f g 16 k + 38 * acc f g 16 (k + 16)) := by show _ = _; unfold foF; rw [if_pos hk15]
            have hne : w.heap.size + 3 ≠ bo := by omega
            clear hin hrow
            generalize acc f g 16 k = x at *
            generalize acc f g 16 (k + 16) = y at *
            go_wp2
            go_region
            go_wp2
            go_roundw
            case rel => exact ⟨k + 1, by omega, by go_num, ((H1.out.1.far hbo _ _).far hbo _ _).drewN 1, ((H1.out.2.set _ _).set _ _ |>.congr (foS_step2 HX.out)).drew⟩
            case measure => simp [intOf]; omega
          · have HX : Hid (foF f g k = acc f g 16 k) := by show _ = _; unfold foF; rw [if_neg hk15]; omega
            clear hin hrow
            generalize acc f g 16 k = x at *
            go_wp2
            go_roundw
            case rel => exact ⟨k + 1, by omega, by go_num, H1.out.1.far hbo _ _, (H1.out.2.set _ _).congr (foS_step HX.out)⟩
            case measure => simp [intOf]; omega
        · have hrow2 : wr.rowIs bo 55 16 (gv (foF f g)) := hrow.congr (fun i hi => by simp only [gv, foS]; rw [if_pos (by omega)])
          clear hrow
          have hkd : decide ((k : Int) < 16) = false := by simp; omega
          have H1 : Hid (TmIn f g w (acc f g 16) wr ∧ wr.rowIs bo 55 16 (gv (foF f g))) := ⟨hin, hrow2⟩
          have HB1 : Hid (Sm 1152921504606846976 (foF f g)) := fun j _ => by have := foF_bd HF.out HG.out j; omega
          clear hin hrow2
          go_wp2_with (first | (refine wpList_load_row rfl 55 _ rfl bo rfl 55 _ (0, 0) _ (row_heap H1.out.2) Try.underlying55 rfl (info55v _) ?_))
          refine Calls.mono (carry_any _ HB1.out _) ?_
          rintro e w1 ⟨rfl, b1⟩
          have HB2 : Hid (Sm 1152921504606846976 (caF (foF f g))) := caF_sm HB1.out
          go_wp2_with fail
          refine Calls.mono (carry_any _ HB2.out _) ?_
          rintro e w2 ⟨rfl, b2⟩
          have hz := row_heap ((H1.out.1.more b1).more b2).2.2.1
          have hB := ((H1.out.1.more b1).more b2).2.2.2.2
          clear H1 b1 b2
          go_wp2_with (first | (refine wpList_store_row rfl 55 _ _ rfl (w.heap.size + 2) _ rfl rfl 55 _ hz (info55v _) (by simp) (one_gv _ _) ?_))
          have hz2 : (w2.setRow (w.heap.size + 2) (vec 16 (gv (caF (caF (foF f g)))))).heap[w.heap.size + 2]? = some (.cells (vec 16 (gv (caF (caF (foF f g))))) 55 (0, 0)) := setRow_heap _ _ _ _ _ _ hz
          refine bodyPost_ret (results_cell_row rfl _ _ _ _ _ _ _ rfl hz2 Try.underlying55 rfl (info55v _)) rfl ⟨rfl, ?_⟩
          exact hB.trans ⟨rfl, rfl, rfl, by simp, fun i hi => setRow_other _ _ _ _ (by omega)⟩
end Go.Proofs.Ytmflilgppllebaa
