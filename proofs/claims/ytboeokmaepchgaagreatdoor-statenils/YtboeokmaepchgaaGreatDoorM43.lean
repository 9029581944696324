/- VX, VY, laid into one text. -/
import Derived.Test.YtboeokmaepchgaaGreatDoorM44
import Derived.Test.YtboeokmaepchgaaGreatDoorM41
/- The numbers of the example; Root of a state without accounts, and of one with five. -/
namespace Go.Proofs.YtboeokmaepchgaaGreatDoor
open Go.RowKit Go.Maps Go.Joins Go.Shelf
set_option linter.unusedSimpArgs false
set_option linter.unusedVariables false
set_option maxRecDepth 100000
theorem rw_of {n : Nat} {H H' : Nat → BitVec 8} (h : ∀ i, i < n → H i = H' i) : rwB n H = rwB n H' := by
  unfold rwB
  refine List.map_congr_left (fun j hj => ?_)
  rw [h j (List.mem_range.1 hj)]
def dB : List Int := [86, 232, 31, 23, 27, 204, 85, 166, 255, 131, 69, 230, 146, 192, 248, 110, 91, 72, 224, 27, 153, 108, 173, 192, 1, 98, 47, 181, 227, 99, 180, 33]
def eB : List Int := [197, 210, 70, 1, 134, 247, 35, 60, 146, 126, 125, 178, 220, 199, 3, 192, 229, 0, 182, 83, 202, 130, 39, 59, 123, 250, 216, 4, 93, 133, 164, 112]
def cB : List Int := [242, 43, 180, 110, 223, 49, 175, 133, 89, 56, 190, 250, 168, 112, 237, 61, 134, 164, 173, 147, 169, 236, 247, 198, 60, 234, 168, 13, 174, 169, 172, 77]
def nB : List Int := [248, 68, 128, 5, 160, 86, 232, 31, 23, 27, 204, 85, 166, 255, 131, 69, 230, 146, 192, 248, 110, 91, 72, 224, 27, 153, 108, 173, 192, 1, 98, 47, 181, 227, 99, 180, 33, 160, 197, 210, 70, 1, 134, 247, 35, 60, 146, 126, 125, 178, 220, 199, 3, 192, 229, 0, 182, 83, 202, 130, 39, 59, 123, 250, 216, 4, 93, 133, 164, 112]
abbrev A1 : Nat → BitVec 8 := fun j => if j = 0 then 1 else 0
theorem rw_d {D : Nat → BitVec 8} (h : D = Kc.digest (Kc.mB Kc.eM) 1) : rwB 32 D = dB := by rw [h, rw_of Kc.eD]; kernel_rfl
theorem rw_e {E : Nat → BitVec 8} (h : E = Kc.digest (Kc.mB Kc.nM) 0) : rwB 32 E = eB := by rw [h, rw_of Kc.nD]; kernel_rfl
theorem rw_a : rwB 20 A1 = Kc.adM := by kernel_rfl
theorem rw_c {C : Nat → BitVec 8} (h : C = Kc.digest (Kc.mB (rwB 20 A1)) 20) : rwB 32 C = cB := by rw [h, rw_a, rw_of Kc.adD]; kernel_rfl
theorem nd_b {D E : Nat → BitVec 8} (h : Two D E) : encR (ndT D E) = nB := by
  unfold ndT
  rw [rw_d h.d, rw_e h.e]
  kernel_rfl
theorem lf_b : lfB cB nB = Kc.lfM := by kernel_rfl
theorem lf_byt : Byt Kc.lfM := by unfold Byt; decide
theorem y_ne_d {D Y : Nat → BitVec 8} (hD : D = Kc.digest (Kc.mB Kc.eM) 1) (hY : Y = Kc.digest (Kc.mB Kc.lfM) 108) : D 0 ≠ Y 0 := by
  rw [hD, hY, Kc.eD 0 (by decide), Kc.lfD 0 (by decide)]
  decide
set_option maxHeartbeats 4000000 in
theorem sroot_none {w : World} {b m1 m2 tr : Nat} {lg jr sn : Value} {rf : Int} {D : Nat → BitVec 8} {c : Nat} (hD : D = Kc.digest (Kc.mB Kc.eM) 1) (hs : w.heap[b]? = some (.cells (Kc.vec 43 (stF D 0 m1 m2 tr rf lg jr sn)) 101)) (hm1 : w.heap[m1]? = some (.map #[] c)) (hm2 : w.heap[m2]? = some (.map #[] 0)) (hp : Kc.PathIn w) :
    Calls Tryz.prog 23 #[.pointer (some ⟨b, 0, none⟩)] w fun e w' => Below w.heap.size w w' ∧ ∃ p cap, e = .returned (.tuple #[.agg (Kc.vec 32 (Kc.byt D)), .slice p 0 cap]) := by
  refine sroot_gen (N := 0) (Q := D) (es := #[]) (fun _ v => v = .slice none 0 0) (fun _ _ _ h _ => h) hs hm1 hm2 hp ?_ ?_
  · intro t k U _ _ _ hst _
    refine (accounts_none hst).mono ?_
    rintro e U' ⟨rfl, hb⟩
    exact ⟨_, rfl, rfl, hb⟩
  · rintro t k U v _ _ _ hst _ hpU rfl
    refine (changed_none D hD hpU hst.te hst.st).mono ?_
    rintro e U' ⟨rfl, hb⟩
    exact ⟨rfl, GrowT.of_below hb, none, 0, (hb.block _ (heap_lt hst.te)).trans hst.te⟩
set_option maxHeartbeats 4000000 in
theorem sroot_one {w : World} {b m1 m2 tr : Nat} {lg jr sn : Value} {rf : Int} {D E Y : Nat → BitVec 8} (hT : Two D E) (hY : Y = Kc.digest (Kc.mB Kc.lfM) 108) (hs : w.heap[b]? = some (.cells (Kc.vec 43 (stF D 0 m1 m2 tr rf lg jr sn)) 101)) (hm1 : w.heap[m1]? = some (.map #[⟨.agg (adV A1), .agg (fvA D E), 0⟩] 1)) (hm2 : w.heap[m2]? = some (.map #[] 0)) (hp : Kc.PathIn w) :
    Calls Tryz.prog 23 #[.pointer (some ⟨b, 0, none⟩)] w fun e w' => Below w.heap.size w w' ∧ ∃ p cap, e = .returned (.tuple #[.agg (Kc.vec 32 (Kc.byt Y)), .slice p 1 cap]) := by
  obtain ⟨C, hC⟩ : ∃ C, C = Kc.digest (Kc.mB (rwB 20 A1)) 20 := ⟨_, rfl⟩
  have hc := rw_c hC
  have hn := nd_b hT
  have hl : lfB (rwB 32 C) (encR (ndT D E)) = Kc.lfM := by rw [hc, hn]; exact lf_b
  have hl1 : (lfB (rwB 32 C) (encR (ndT D E))).length = 108 := by rw [hl]; rfl
  refine sroot_gen (N := 1) (Q := Y) (es := #[⟨.agg (adV A1), .agg (fvA D E), 0⟩]) (c := 1) (fun U v => OneP U v C (encR (ndT D E))) (fun _ _ _ h hb => h.below hb) hs hm1 hm2 hp ?_ ?_
  · intro t k U _ _ _ hst hpU
    exact accounts_one A1 D E C hT.d hC hpU hst
  · intro t k U v _ _ _ hst hk hpU hv
    exact changed_one D C Y hT.d (by rw [hl1, hl]; exact hY) hpU hst.te hk hst.st hv (by rw [hn]; decide) (by rw [hn]; decide) (by rw [hc]; decide) (by rw [hl]; exact lf_byt) (by rw [hl1]; decide)
end Go.Proofs.YtboeokmaepchgaaGreatDoor
/- state: alive. -/
namespace Go.Proofs.YtboeokmaepchgaaGreatDoor
open Go.RowKit Go.Maps Go.Joins Go.Shelf
set_option linter.unusedSimpArgs false
set_option linter.unusedVariables false
theorem ne33 {D Y : Nat → BitVec 8} (h : D 0 ≠ Y 0) (w : World) : (Op.equalIn 10000 33 (.agg (Kc.vec 32 (Kc.byt Y))) (.agg (Kc.vec 32 (Kc.byt D)))).run Tryz.prog w = .ok false w := by
  have := eq_arr (P := Tryz.prog) 33 5 32 .u8 Tryz.underlying33 Tryz.sizeOf5 Tryz.isAgg5 Tryz.underlying5 (fun j => Kc.I8 (Y j)) (fun j => Kc.I8 (D j)) w
  rw [decide_eq_false (fun h2 => h (BitVec.eq_of_toNat_eq (by have := h2 0 (by decide); unfold Kc.I8 at this; omega)))] at this
  exact this
theorem eq5 (w : World) : (Op.equalIn 10000 46 w5V w5V).run Tryz.prog w = .ok true w := by kernel_rfl
theorem find_a1 {D E : Nat → BitVec 8} : findA 20 (fun j => Kc.I8 (A1 j)) [(fun j => Kc.I8 (A1 j), .agg (fvA D E), 0)] 0 = some (0, .agg (fvA D E)) := by
  unfold findA
  rw [if_pos (fun _ _ => rfl)]
set_option maxRecDepth 100000 in
set_option maxHeartbeats 16000000 in
theorem salive_any {w : World} (D E Y : Nat → BitVec 8) (hT : Two D E) (hY : Y = Kc.digest (Kc.mB Kc.lfM) 108) (hp : Kc.PathIn w) : Calls Tryz.prog 38 #[] w fun e w' => e = .returned (.bool true) ∧ Below w.heap.size w w' := by
  have HP : Hid (Kc.PathIn w ∧ 1 < w.heap.size ∧ Two D E ∧ Y = Kc.digest (Kc.mB Kc.lfM) 108) := ⟨hp, Kc.pathIn_pos hp, hT, hY⟩
  have HC : Hid _ := empty_d D hT.d hp
  have HNE : Hid (D 0 ≠ Y 0) := y_ne_d hT.d hY
  clear hp hT hY
  go_enter Tryz.func38, Tryz.ntmps38
  go_wp2_with fail
  refine Calls.mono HC.out ?_
  rintro e W0 ⟨rfl, hb0⟩
  have HB0 : Hid (Below w.heap.size w W0) := hb0
  clear hb0 HC
  go_wp2_with fail
  refine Calls.mono (sopen_any D) ?_
  rintro e W1 ⟨hb1, b, rfl, hf⟩
  obtain ⟨m1, m2, tr, hst, hm1, hm2, _, _, _, gm1, gm2, _, hm12, _, _, gb⟩ := hf.ex
  have hwm : w.heap.size ≤ m1 := Nat.le_trans HB0.out.size gm1
  have H1 : Hid (Below w.heap.size w W1 ∧ W1.heap[b]? = some (.cells (Kc.vec 43 (stF D 0 m1 m2 tr 0 (.slice none 0 0) (.slice none 0 0) (.slice none 0 0))) 101) ∧ W1.heap[m1]? = some (.map #[] 0) ∧ W1.heap[m2]? = some (.map #[] 0) ∧ m1 ≠ m2 ∧ w.heap.size ≤ m1) := ⟨HB0.out.trans (hb1.mono HB0.out.size), hst, hm1, hm2, hm12, hwm⟩
  clear hb1 hst hm1 hm2 hm12 hwm gm1 gm2 gb hf HB0
  go_wp2_with fail
  refine Calls.mono (sroot_none HP.out.2.2.1.d H1.out.2.1 H1.out.2.2.1 H1.out.2.2.2.1 (HP.out.1.below H1.out.1 HP.out.2.1)) ?_
  rintro e W2 ⟨hb2, p2, c2, rfl⟩
  have H2 : Hid (Below w.heap.size w W2 ∧ W2.heap[b]? = some (.cells (Kc.vec 43 (stF D 0 m1 m2 tr 0 (.slice none 0 0) (.slice none 0 0) (.slice none 0 0))) 101) ∧ W2.heap[m1]? = some (.map #[] 0) ∧ W2.heap[m2]? = some (.map #[] 0) ∧ m1 ≠ m2 ∧ w.heap.size ≤ m1) := ⟨H1.out.1.trans (hb2.mono H1.out.1.size), (hb2.block _ (heap_lt H1.out.2.1)).trans H1.out.2.1, (hb2.block _ (heap_lt H1.out.2.2.1)).trans H1.out.2.2.1, (hb2.block _ (heap_lt H1.out.2.2.2.1)).trans H1.out.2.2.2.1, H1.out.2.2.2.2⟩
  clear hb2 H1
  go_wp2_with (first | (refine wpList_store_row (o := { dst := none, op := Op.store 33 (Operand.tmp 2) (Operand.tmp 13), type := 0, pos := "law.go:28", after := _, guard := none }) rfl 33 _ _ rfl W2.heap.size (Kc.vec 32 (Kc.byt D)) rfl rfl 33 _ (heap_alloc_new _ _) (Kc.info29v _) (by simp) (Kc.one_byt _ _) ?_; rw [World.setRow_alloc_new]) | (refine wpList_build rfl 43 _ rfl (by kernel_rfl) ?_; generalize hG : (Program.built _ _ _).getD #[] = G; obtain rfl : G = adV A1 := by rw [← hG]; kernel_rfl))
  have hb3 : Below W2.heap.size W2 (W2.alloc (.cells (Kc.vec 32 (Kc.byt D)) 33)) := by go_grown
  have hbw : Below w.heap.size w (W2.alloc (.cells (Kc.vec 32 (Kc.byt D)) 33)) := H2.out.1.trans (hb3.mono H2.out.1.size)
  have H3 : Hid (Below w.heap.size w (W2.alloc (.cells (Kc.vec 32 (Kc.byt D)) 33)) ∧ (W2.alloc (.cells (Kc.vec 32 (Kc.byt D)) 33)).heap[b]? = some (.cells (Kc.vec 43 (stF D 0 m1 m2 tr 0 (.slice none 0 0) (.slice none 0 0) (.slice none 0 0))) 101) ∧ (W2.alloc (.cells (Kc.vec 32 (Kc.byt D)) 33)).heap[m1]? = some (.map #[] 0) ∧ (W2.alloc (.cells (Kc.vec 32 (Kc.byt D)) 33)).heap[m2]? = some (.map #[] 0) ∧ (W2.alloc (.cells (Kc.vec 32 (Kc.byt D)) 33)).heap[W2.heap.size]? = some (.cells (Kc.vec 32 (Kc.byt D)) 33) ∧ m1 ≠ m2 ∧ w.heap.size ≤ m1 ∧ m1 < W2.heap.size) := ⟨hbw, (hb3.block _ (heap_lt H2.out.2.1)).trans H2.out.2.1, (hb3.block _ (heap_lt H2.out.2.2.1)).trans H2.out.2.2.1, (hb3.block _ (heap_lt H2.out.2.2.2.1)).trans H2.out.2.2.2.1, heap_alloc_new _ _, H2.out.2.2.2.2.1, H2.out.2.2.2.2.2, heap_lt H2.out.2.2.1⟩
  clear hb3 hbw H2
  obtain ⟨r, hr⟩ : ∃ r, r = W2.heap.size := ⟨_, rfl⟩
  rw [← hr] at H3 ⊢
  clear hr
  generalize W2.alloc (.cells (Kc.vec 32 (Kc.byt D)) 33) = W3 at H3 ⊢
  refine Calls.mono (setBalance_five (w := W3) (l := []) (ck := 0) A1 E ⟨H3.out.2.1, H3.out.2.2.1⟩ HP.out.2.2.1 (HP.out.1.below H3.out.1 HP.out.2.1) rfl) ?_
  rintro e W4 ⟨rfl, hm4, hg4⟩
  have hbm : b ≠ m1 := fun he => by have h1 := H3.out.2.1; have h2 := H3.out.2.2.1; rw [he, h2] at h1; cases h1
  have H4 : Hid (Below w.heap.size w W4 ∧ W4.heap[b]? = some (.cells (Kc.vec 43 (stF D 0 m1 m2 tr 0 (.slice none 0 0) (.slice none 0 0) (.slice none 0 0))) 101) ∧ W4.heap[m1]? = some (.map #[⟨.agg (adV A1), .agg (fvA D E), 0⟩] 1) ∧ W4.heap[m2]? = some (.map #[] 0) ∧ W4.heap[r]? = some (.cells (Kc.vec 32 (Kc.byt D)) 33)) := ⟨⟨hg4.os.trans H3.out.1.os, hg4.tape.trans H3.out.1.tape, hg4.output.trans H3.out.1.output, Nat.le_trans H3.out.1.size hg4.size, fun i hi => (hg4.block i (Nat.lt_of_lt_of_le hi H3.out.1.size) (by have := H3.out.2.2.2.2.2.2.1; omega)).trans (H3.out.1.block i hi)⟩, (hg4.block _ (heap_lt H3.out.2.1) hbm).trans H3.out.2.1, hm4, (hg4.block _ (heap_lt H3.out.2.2.2.1) (fun h => H3.out.2.2.2.2.2.1 h.symm)).trans H3.out.2.2.2.1, (hg4.block _ (heap_lt H3.out.2.2.2.2.1) (by have := H3.out.2.2.2.2.2.2.2; omega)).trans H3.out.2.2.2.2.1⟩
  clear hm4 hg4 hbm H3
  go_wp2_with fail
  refine Calls.mono (sroot_one (w := W4) HP.out.2.2.1 HP.out.2.2.2 H4.out.2.1 H4.out.2.2.1 H4.out.2.2.2.1 (HP.out.1.below H4.out.1 HP.out.2.1)) ?_
  rintro e W5 ⟨hb5, p5, c5, rfl⟩
  have H5 : Hid (Below w.heap.size w W5 ∧ W5.heap[b]? = some (.cells (Kc.vec 43 (stF D 0 m1 m2 tr 0 (.slice none 0 0) (.slice none 0 0) (.slice none 0 0))) 101) ∧ W5.heap[m1]? = some (.map #[⟨.agg (adV A1), .agg (fvA D E), 0⟩] 1) ∧ W5.heap[r]? = some (.cells (Kc.vec 32 (Kc.byt D)) 33)) := ⟨H4.out.1.trans (hb5.mono H4.out.1.size), (hb5.block _ (heap_lt H4.out.2.1)).trans H4.out.2.1, (hb5.block _ (heap_lt H4.out.2.2.1)).trans H4.out.2.2.1, (hb5.block _ (heap_lt H4.out.2.2.2.2)).trans H4.out.2.2.2.2⟩
  clear hb5 H4
  go_wp2_with (first | (refine wpList_store_row (o := { dst := none, op := Op.store 33 (Operand.tmp 4) (Operand.tmp 22), type := 0, pos := "law.go:30", after := _, guard := none }) rfl 33 _ _ rfl W5.heap.size (Kc.vec 32 (Kc.byt Y)) rfl rfl 33 _ (heap_alloc_new _ _) (Kc.info29v _) (by simp) (Kc.one_byt _ _) ?_; rw [World.setRow_alloc_new]))
  have hb6 : Below W5.heap.size W5 (W5.alloc (.cells (Kc.vec 32 (Kc.byt Y)) 33)) := by go_grown
  have H6 : Hid (Below w.heap.size w (W5.alloc (.cells (Kc.vec 32 (Kc.byt Y)) 33)) ∧ (W5.alloc (.cells (Kc.vec 32 (Kc.byt Y)) 33)).heap[b]? = some (.cells (Kc.vec 43 (stF D 0 m1 m2 tr 0 (.slice none 0 0) (.slice none 0 0) (.slice none 0 0))) 101) ∧ (W5.alloc (.cells (Kc.vec 32 (Kc.byt Y)) 33)).heap[m1]? = some (.map #[⟨.agg (adV A1), .agg (fvA D E), 0⟩] 1) ∧ (W5.alloc (.cells (Kc.vec 32 (Kc.byt Y)) 33)).heap[r]? = some (.cells (Kc.vec 32 (Kc.byt D)) 33) ∧ (W5.alloc (.cells (Kc.vec 32 (Kc.byt Y)) 33)).heap[W5.heap.size]? = some (.cells (Kc.vec 32 (Kc.byt Y)) 33)) := ⟨H5.out.1.trans (hb6.mono H5.out.1.size), (hb6.block _ (heap_lt H5.out.2.1)).trans H5.out.2.1, (hb6.block _ (heap_lt H5.out.2.2.1)).trans H5.out.2.2.1, (hb6.block _ (heap_lt H5.out.2.2.2)).trans H5.out.2.2.2, heap_alloc_new _ _⟩
  clear hb6 H5
  obtain ⟨q, hq⟩ : ∃ q, q = W5.heap.size := ⟨_, rfl⟩
  rw [← hq] at H6 ⊢
  clear hq
  generalize W5.alloc (.cells (Kc.vec 32 (Kc.byt Y)) 33) = W6 at H6 ⊢
  refine wp_noP ?_
  refine wp_region_held_drew (S := (fun w' : World => w'.heap[b]? = some (.cells (Kc.vec 43 (stF D 0 m1 m2 tr 0 (.slice none 0 0) (.slice none 0 0) (.slice none 0 0))) 101) ∧ w'.heap[m1]? = some (.map #[⟨.agg (adV A1), .agg (fvA D E), 0⟩] 1) ∧ w'.heap[r]? = some (.cells (Kc.vec 32 (Kc.byt D)) 33) ∧ w'.heap[q]? = some (.cells (Kc.vec 32 (Kc.byt Y)) 33) ∧ Kc.PathIn w' ∧ 1 < w'.heap.size)) (by kernel_rfl) ⟨H6.out.2.1, H6.out.2.2.1, H6.out.2.2.2.1, H6.out.2.2.2.2, (show Kc.PathIn W6 from HP.out.1.below H6.out.1 HP.out.2.1), (show 1 < W6.heap.size from Nat.lt_of_lt_of_le HP.out.2.1 H6.out.1.size)⟩ (fun hHeld => ?_)
  have G0 : Hid (Below w.heap.size w W6.drew) := ⟨H6.out.1.os, H6.out.1.tape, H6.out.1.output, H6.out.1.size, H6.out.1.block⟩
  clear H6
  generalize W6.drew = U0 at G0 hHeld ⊢
  refine wpAnyH_take (i := 0) (v := .agg (Kc.vec 32 (Kc.byt D))) rfl (by kernel_rfl) (by kernel_rfl) (by kernel_rfl) (fun _ _ _ h => h) (Or.inl ⟨by rfl, fun w9 hSw => ?_⟩) hHeld ?_
  · exact Kc.run_load_exec 33 _ rfl _ rfl (load33 hSw.2.2.1)
  simp only [List.getElem_toArray, List.getElem_cons_succ, List.getElem_cons_zero, Act.put, List.setIfInBounds_toArray, List.set_cons_zero, List.set_cons_succ]
  refine wpAnyH_ready (rs := [1]) (by kernel_rfl) (by simp) ?_
  refine AllReadyH.cons rfl (fun K hK => ?_) AllReadyH.nil
  have hC := empty_d (w := U0) D HP.out.2.2.1.d hHeld.2.2.2.2.1
  go_simp
  refine Calls.mono hC ?_
  clear hC
  rintro e U1 ⟨rfl, hb⟩
  have hx : (fun w' : World => w'.heap[b]? = some (.cells (Kc.vec 43 (stF D 0 m1 m2 tr 0 (.slice none 0 0) (.slice none 0 0) (.slice none 0 0))) 101) ∧ w'.heap[m1]? = some (.map #[⟨.agg (adV A1), .agg (fvA D E), 0⟩] 1) ∧ w'.heap[r]? = some (.cells (Kc.vec 32 (Kc.byt D)) 33) ∧ w'.heap[q]? = some (.cells (Kc.vec 32 (Kc.byt Y)) 33) ∧ Kc.PathIn w' ∧ 1 < w'.heap.size) U1 := ⟨(hb.block _ (heap_lt hHeld.1)).trans hHeld.1, (hb.block _ (heap_lt hHeld.2.1)).trans hHeld.2.1, (hb.block _ (heap_lt hHeld.2.2.1)).trans hHeld.2.2.1, (hb.block _ (heap_lt hHeld.2.2.2.1)).trans hHeld.2.2.2.1, hHeld.2.2.2.2.1.below hb hHeld.2.2.2.2.2, Nat.lt_of_lt_of_le hHeld.2.2.2.2.2 hb.size⟩
  have G1 : Hid (Below w.heap.size w U1) := G0.out.trans (hb.mono G0.out.size)
  clear hb G0
  refine hK.out _ _ hx (fun hHeld => ?_)
  clear hK K
  try simp only [List.getElem_toArray, List.getElem_cons_succ, List.getElem_cons_zero, Act.put, List.setIfInBounds_toArray, List.set_cons_zero, List.set_cons_succ]
  refine wpAnyH_take (i := 2) (v := .bool true) rfl (by kernel_rfl) (by kernel_rfl) (by kernel_rfl) (fun _ _ _ h => h) (Or.inl ⟨by rfl, fun w9 hSw => ?_⟩) hHeld ?_
  · have he := eq33 D w9
    go_simp
  simp only [List.getElem_toArray, List.getElem_cons_succ, List.getElem_cons_zero, Act.put, List.setIfInBounds_toArray, List.set_cons_zero, List.set_cons_succ]
  refine wpAnyH_take (i := 3) (v := .bool true) rfl (by kernel_rfl) (by kernel_rfl) (by kernel_rfl) (fun _ _ _ h => h) (Or.inl ⟨by rfl, fun w9 hSw => ?_⟩) hHeld ?_
  · go_simp
  simp only [List.getElem_toArray, List.getElem_cons_succ, List.getElem_cons_zero, Act.put, List.setIfInBounds_toArray, List.set_cons_zero, List.set_cons_succ]
  refine wpAnyH_take (i := 4) (v := .agg (Kc.vec 32 (Kc.byt Y))) rfl (by kernel_rfl) (by kernel_rfl) (by kernel_rfl) (fun _ _ _ h => h) (Or.inl ⟨by rfl, fun w9 hSw => ?_⟩) hHeld ?_
  · exact Kc.run_load_exec 33 _ rfl _ rfl (load33 hSw.2.2.2.1)
  simp only [List.getElem_toArray, List.getElem_cons_succ, List.getElem_cons_zero, Act.put, List.setIfInBounds_toArray, List.set_cons_zero, List.set_cons_succ]
  refine wpAnyH_take (i := 5) (v := .agg (Kc.vec 32 (Kc.byt D))) rfl (by kernel_rfl) (by kernel_rfl) (by kernel_rfl) (fun _ _ _ h => h) (Or.inl ⟨by rfl, fun w9 hSw => ?_⟩) hHeld ?_
  · exact Kc.run_load_exec 33 _ rfl _ rfl (load33 hSw.2.2.1)
  simp only [List.getElem_toArray, List.getElem_cons_succ, List.getElem_cons_zero, Act.put, List.setIfInBounds_toArray, List.set_cons_zero, List.set_cons_succ]
  refine wpAnyH_take (i := 6) (v := .bool true) rfl (by kernel_rfl) (by kernel_rfl) (by kernel_rfl) (fun _ _ _ h => h) (Or.inl ⟨by rfl, fun w9 hSw => ?_⟩) hHeld ?_
  · have he := ne33 (HNE.out) w9
    go_simp
  simp only [List.getElem_toArray, List.getElem_cons_succ, List.getElem_cons_zero, Act.put, List.setIfInBounds_toArray, List.set_cons_zero, List.set_cons_succ]
  refine wpAnyH_take (i := 7) (v := .bool true) rfl (by kernel_rfl) (by kernel_rfl) (by kernel_rfl) (fun _ _ _ h => h) (Or.inl ⟨by rfl, fun w9 hSw => ?_⟩) hHeld ?_
  · go_simp
  simp only [List.getElem_toArray, List.getElem_cons_succ, List.getElem_cons_zero, Act.put, List.setIfInBounds_toArray, List.set_cons_zero, List.set_cons_succ]
  refine wpAnyH_take (i := 8) (v := .bool true) rfl (by kernel_rfl) (by kernel_rfl) (by kernel_rfl) (fun _ _ _ h => h) (Or.inl ⟨by rfl, fun w9 hSw => ?_⟩) hHeld ?_
  · go_simp
  simp only [List.getElem_toArray, List.getElem_cons_succ, List.getElem_cons_zero, Act.put, List.setIfInBounds_toArray, List.set_cons_zero, List.set_cons_succ]
  refine wpAnyH_take (i := 9) (v := .slice p5 1 c5) rfl (by kernel_rfl) (by kernel_rfl) (by kernel_rfl) (fun _ _ _ h => h) (Or.inl ⟨by rfl, fun w9 hSw => ?_⟩) hHeld ?_
  · go_simp
  simp only [List.getElem_toArray, List.getElem_cons_succ, List.getElem_cons_zero, Act.put, List.setIfInBounds_toArray, List.set_cons_zero, List.set_cons_succ]
  refine wpAnyH_take (i := 10) (v := .int .i64 1) rfl (by kernel_rfl) (by kernel_rfl) (by kernel_rfl) (fun _ _ _ h => h) (Or.inl ⟨by rfl, fun w9 hSw => ?_⟩) hHeld ?_
  · go_simp
  simp only [List.getElem_toArray, List.getElem_cons_succ, List.getElem_cons_zero, Act.put, List.setIfInBounds_toArray, List.set_cons_zero, List.set_cons_succ]
  refine wpAnyH_take (i := 11) (v := .bool true) rfl (by kernel_rfl) (by kernel_rfl) (by kernel_rfl) (fun _ _ _ h => h) (Or.inl ⟨by rfl, fun w9 hSw => ?_⟩) hHeld ?_
  · go_simp
  simp only [List.getElem_toArray, List.getElem_cons_succ, List.getElem_cons_zero, Act.put, List.setIfInBounds_toArray, List.set_cons_zero, List.set_cons_succ]
  refine wpAnyH_take (i := 12) (v := .bool true) rfl (by kernel_rfl) (by kernel_rfl) (by kernel_rfl) (fun _ _ _ h => h) (Or.inl ⟨by rfl, fun w9 hSw => ?_⟩) hHeld ?_
  · go_simp
  simp only [List.getElem_toArray, List.getElem_cons_succ, List.getElem_cons_zero, Act.put, List.setIfInBounds_toArray, List.set_cons_zero, List.set_cons_succ]
  refine wpAnyH_take (i := 13) (v := .bool true) rfl (by kernel_rfl) (by kernel_rfl) (by kernel_rfl) (fun _ _ _ h => h) (Or.inl ⟨by rfl, fun w9 hSw => ?_⟩) hHeld ?_
  · go_simp
  simp only [List.getElem_toArray, List.getElem_cons_succ, List.getElem_cons_zero, Act.put, List.setIfInBounds_toArray, List.set_cons_zero, List.set_cons_succ]
  refine wpAnyH_take (i := 14) (v := .pointer (some ⟨b, 0, none⟩)) rfl (by kernel_rfl) (by kernel_rfl) (by kernel_rfl) (fun _ _ _ h => h) (Or.inl ⟨by rfl, fun w9 hSw => ?_⟩) hHeld ?_
  · go_simp
  simp only [List.getElem_toArray, List.getElem_cons_succ, List.getElem_cons_zero, Act.put, List.setIfInBounds_toArray, List.set_cons_zero, List.set_cons_succ]
  refine wpAnyH_take (i := 15) (v := .agg (adV A1)) rfl (by kernel_rfl) (by kernel_rfl) (by kernel_rfl) (fun _ _ _ h => h) (Or.inl ⟨by rfl, fun w9 hSw => ?_⟩) hHeld ?_
  · exact exec_build 43 _ rfl #[(0, .int .u8 1)] (by kernel_rfl) (by kernel_rfl)
  simp only [List.getElem_toArray, List.getElem_cons_succ, List.getElem_cons_zero, Act.put, List.setIfInBounds_toArray, List.set_cons_zero, List.set_cons_succ]
  refine wpAnyH_take (i := 17) (v := w5V) rfl (by kernel_rfl) (by kernel_rfl) (by kernel_rfl) (fun _ _ _ h => h) (Or.inl ⟨by rfl, fun w9 hSw => ?_⟩) hHeld ?_
  · exact exec_build 46 _ rfl #[(0, .int .u64 5)] (by kernel_rfl) (by kernel_rfl)
  simp only [List.getElem_toArray, List.getElem_cons_succ, List.getElem_cons_zero, Act.put, List.setIfInBounds_toArray, List.set_cons_zero, List.set_cons_succ]
  refine wpAnyH_ready (rs := [16]) (by kernel_rfl) (by simp) ?_
  refine AllReadyH.cons rfl (fun K hK => ?_) AllReadyH.nil
  have hC := balance_five (w := U1) (l := [(fun j => Kc.I8 (A1 j), .agg (fvA D E), 0)]) (ck := 1) A1 E ⟨hHeld.1, hHeld.2.1⟩ (i := 0) find_a1
  go_simp
  refine Calls.mono hC ?_
  clear hC
  rintro e U2 ⟨rfl, hb⟩
  have hx : (fun w' : World => w'.heap[b]? = some (.cells (Kc.vec 43 (stF D 0 m1 m2 tr 0 (.slice none 0 0) (.slice none 0 0) (.slice none 0 0))) 101) ∧ w'.heap[m1]? = some (.map #[⟨.agg (adV A1), .agg (fvA D E), 0⟩] 1) ∧ w'.heap[r]? = some (.cells (Kc.vec 32 (Kc.byt D)) 33) ∧ w'.heap[q]? = some (.cells (Kc.vec 32 (Kc.byt Y)) 33) ∧ Kc.PathIn w' ∧ 1 < w'.heap.size) U2 := ⟨(hb.block _ (heap_lt hHeld.1)).trans hHeld.1, (hb.block _ (heap_lt hHeld.2.1)).trans hHeld.2.1, (hb.block _ (heap_lt hHeld.2.2.1)).trans hHeld.2.2.1, (hb.block _ (heap_lt hHeld.2.2.2.1)).trans hHeld.2.2.2.1, hHeld.2.2.2.2.1.below hb hHeld.2.2.2.2.2, Nat.lt_of_lt_of_le hHeld.2.2.2.2.2 hb.size⟩
  have G2 : Hid (Below w.heap.size w U2) := G1.out.trans (hb.mono G1.out.size)
  clear hb G1
  refine hK.out _ _ hx (fun hHeld => ?_)
  clear hK K
  try simp only [List.getElem_toArray, List.getElem_cons_succ, List.getElem_cons_zero, Act.put, List.setIfInBounds_toArray, List.set_cons_zero, List.set_cons_succ]
  refine wpAnyH_take (i := 18) (v := .bool true) rfl (by kernel_rfl) (by kernel_rfl) (by kernel_rfl) (fun _ _ _ h => h) (Or.inl ⟨by rfl, fun w9 hSw => ?_⟩) hHeld ?_
  · have he := eq5 w9
    go_simp
  simp only [List.getElem_toArray, List.getElem_cons_succ, List.getElem_cons_zero, Act.put, List.setIfInBounds_toArray, List.set_cons_zero, List.set_cons_succ]
  refine wpAnyH_take (i := 19) (v := .bool true) rfl (by kernel_rfl) (by kernel_rfl) (by kernel_rfl) (fun _ _ _ h => h) (Or.inl ⟨by rfl, fun w9 hSw => ?_⟩) hHeld ?_
  · go_simp
  simp only [List.getElem_toArray, List.getElem_cons_succ, List.getElem_cons_zero, Act.put, List.setIfInBounds_toArray, List.set_cons_zero, List.set_cons_succ]
  refine wpAnyH_take (i := 20) (v := .bool true) rfl (by kernel_rfl) (by kernel_rfl) (by kernel_rfl) (fun _ _ _ h => h) (Or.inl ⟨by rfl, fun w9 hSw => ?_⟩) hHeld ?_
  · go_simp
  simp only [List.getElem_toArray, List.getElem_cons_succ, List.getElem_cons_zero, Act.put, List.setIfInBounds_toArray, List.set_cons_zero, List.set_cons_succ]
  refine wpAnyH_take (i := 21) (v := .pointer (some ⟨b, 0, none⟩)) rfl (by kernel_rfl) (by kernel_rfl) (by kernel_rfl) (fun _ _ _ h => h) (Or.inl ⟨by rfl, fun w9 hSw => ?_⟩) hHeld ?_
  · go_simp
  simp only [List.getElem_toArray, List.getElem_cons_succ, List.getElem_cons_zero, Act.put, List.setIfInBounds_toArray, List.set_cons_zero, List.set_cons_succ]
  refine wpAnyH_take (i := 22) (v := .agg (adV A1)) rfl (by kernel_rfl) (by kernel_rfl) (by kernel_rfl) (fun _ _ _ h => h) (Or.inl ⟨by rfl, fun w9 hSw => ?_⟩) hHeld ?_
  · exact exec_build 43 _ rfl #[(0, .int .u8 1)] (by kernel_rfl) (by kernel_rfl)
  simp only [List.getElem_toArray, List.getElem_cons_succ, List.getElem_cons_zero, Act.put, List.setIfInBounds_toArray, List.set_cons_zero, List.set_cons_succ]
  refine wpAnyH_ready (rs := [23]) (by kernel_rfl) (by simp) ?_
  refine AllReadyH.cons rfl (fun K hK => ?_) AllReadyH.nil
  have hC := exists_five (w := U2) (l := [(fun j => Kc.I8 (A1 j), .agg (fvA D E), 0)]) (ck := 1) A1 E ⟨hHeld.1, hHeld.2.1⟩ (i := 0) find_a1
  go_simp
  refine Calls.mono hC ?_
  clear hC
  rintro e U3 ⟨rfl, hb⟩
  have hx : (fun w' : World => w'.heap[b]? = some (.cells (Kc.vec 43 (stF D 0 m1 m2 tr 0 (.slice none 0 0) (.slice none 0 0) (.slice none 0 0))) 101) ∧ w'.heap[m1]? = some (.map #[⟨.agg (adV A1), .agg (fvA D E), 0⟩] 1) ∧ w'.heap[r]? = some (.cells (Kc.vec 32 (Kc.byt D)) 33) ∧ w'.heap[q]? = some (.cells (Kc.vec 32 (Kc.byt Y)) 33) ∧ Kc.PathIn w' ∧ 1 < w'.heap.size) U3 := ⟨(hb.block _ (heap_lt hHeld.1)).trans hHeld.1, (hb.block _ (heap_lt hHeld.2.1)).trans hHeld.2.1, (hb.block _ (heap_lt hHeld.2.2.1)).trans hHeld.2.2.1, (hb.block _ (heap_lt hHeld.2.2.2.1)).trans hHeld.2.2.2.1, hHeld.2.2.2.2.1.below hb hHeld.2.2.2.2.2, Nat.lt_of_lt_of_le hHeld.2.2.2.2.2 hb.size⟩
  have G3 : Hid (Below w.heap.size w U3) := G2.out.trans (hb.mono G2.out.size)
  clear hb G2
  refine hK.out _ _ hx (fun hHeld => ?_)
  clear hK K
  try simp only [List.getElem_toArray, List.getElem_cons_succ, List.getElem_cons_zero, Act.put, List.setIfInBounds_toArray, List.set_cons_zero, List.set_cons_succ]
  refine wpAnyH_take (i := 24) (v := .bool true) rfl (by kernel_rfl) (by kernel_rfl) (by kernel_rfl) (fun _ _ _ h => h) (Or.inl ⟨by rfl, fun w9 hSw => ?_⟩) hHeld ?_
  · go_simp
  simp only [List.getElem_toArray, List.getElem_cons_succ, List.getElem_cons_zero, Act.put, List.setIfInBounds_toArray, List.set_cons_zero, List.set_cons_succ]
  refine wpAnyH_take (i := 25) (v := .bool true) rfl (by kernel_rfl) (by kernel_rfl) (by kernel_rfl) (fun _ _ _ h => h) (Or.inl ⟨by rfl, fun w9 hSw => ?_⟩) hHeld ?_
  · go_simp
  simp only [List.getElem_toArray, List.getElem_cons_succ, List.getElem_cons_zero, Act.put, List.setIfInBounds_toArray, List.set_cons_zero, List.set_cons_succ]
  refine wpAnyH_take (i := 26) (v := .pointer (some ⟨b, 0, none⟩)) rfl (by kernel_rfl) (by kernel_rfl) (by kernel_rfl) (fun _ _ _ h => h) (Or.inl ⟨by rfl, fun w9 hSw => ?_⟩) hHeld ?_
  · go_simp
  simp only [List.getElem_toArray, List.getElem_cons_succ, List.getElem_cons_zero, Act.put, List.setIfInBounds_toArray, List.set_cons_zero, List.set_cons_succ]
  refine wpAnyH_ready (rs := [27]) (by kernel_rfl) (by simp) ?_
  refine AllReadyH.cons rfl (fun K hK => ?_) AllReadyH.nil
  have hC := serr_ok (w := U3) hHeld.1
  go_simp
  refine Calls.mono hC ?_
  clear hC
  rintro e U4 ⟨rfl, hu⟩
  obtain rfl := hu.symm
  clear hu
  have hx : (fun w' : World => w'.heap[b]? = some (.cells (Kc.vec 43 (stF D 0 m1 m2 tr 0 (.slice none 0 0) (.slice none 0 0) (.slice none 0 0))) 101) ∧ w'.heap[m1]? = some (.map #[⟨.agg (adV A1), .agg (fvA D E), 0⟩] 1) ∧ w'.heap[r]? = some (.cells (Kc.vec 32 (Kc.byt D)) 33) ∧ w'.heap[q]? = some (.cells (Kc.vec 32 (Kc.byt Y)) 33) ∧ Kc.PathIn w' ∧ 1 < w'.heap.size) U3 := hHeld
  refine hK.out _ _ hx (fun hHeld => ?_)
  clear hK K
  try simp only [List.getElem_toArray, List.getElem_cons_succ, List.getElem_cons_zero, Act.put, List.setIfInBounds_toArray, List.set_cons_zero, List.set_cons_succ]
  refine wpAnyH_take (i := 28) (v := .bool true) rfl (by kernel_rfl) (by kernel_rfl) (by kernel_rfl) (fun _ _ _ h => h) (Or.inl ⟨by rfl, fun w9 hSw => ?_⟩) hHeld ?_
  · go_simp
  simp only [List.getElem_toArray, List.getElem_cons_succ, List.getElem_cons_zero, Act.put, List.setIfInBounds_toArray, List.set_cons_zero, List.set_cons_succ]
  refine wpAnyH_take (i := 29) (v := .bool true) rfl (by kernel_rfl) (by kernel_rfl) (by kernel_rfl) (fun _ _ _ h => h) (Or.inl ⟨by rfl, fun w9 hSw => ?_⟩) hHeld ?_
  · go_simp
  simp only [List.getElem_toArray, List.getElem_cons_succ, List.getElem_cons_zero, Act.put, List.setIfInBounds_toArray, List.set_cons_zero, List.set_cons_succ]
  refine wpAnyH_take (i := 30) (v := .bool true) rfl (by kernel_rfl) (by kernel_rfl) (by kernel_rfl) (fun _ _ _ h => h) (Or.inl ⟨by rfl, fun w9 hSw => ?_⟩) hHeld ?_
  · go_simp
  simp only [List.getElem_toArray, List.getElem_cons_succ, List.getElem_cons_zero, Act.put, List.setIfInBounds_toArray, List.set_cons_zero, List.set_cons_succ]
  refine wpAnyH_done (by kernel_rfl) ?_ _
  simp only [noP]
  clear hHeld hx
  go_wp2_with fail
  go_ret
  exact ⟨rfl, G3.out⟩
end Go.Proofs.YtboeokmaepchgaaGreatDoor
