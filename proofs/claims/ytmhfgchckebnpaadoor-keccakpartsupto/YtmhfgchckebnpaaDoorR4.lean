/- The document's answer: the permutation. -/
import Derived.Test.YtmhfgchckebnpaaDoorR3
namespace Go.Proofs.YtmhfgchckebnpaaDoor
open Go.RowKit
set_option linter.unusedSimpArgs false
set_option linter.unusedVariables false

theorem zero25' : (#[.int .u64 0, .int .u64 0, .int .u64 0, .int .u64 0, .int .u64 0, .int .u64 0, .int .u64 0, .int .u64 0, .int .u64 0, .int .u64 0, .int .u64 0, .int .u64 0, .int .u64 0, .int .u64 0, .int .u64 0, .int .u64 0, .int .u64 0, .int .u64 0, .int .u64 0, .int .u64 0, .int .u64 0, .int .u64 0, .int .u64 0, .int .u64 0, .int .u64 0] : Array Value) = vec 25 (lan fun _ => 0#64) := by kernel_rfl
theorem zero5' : (#[.int .u64 0, .int .u64 0, .int .u64 0, .int .u64 0, .int .u64 0] : Array Value) = vec 5 (lan fun _ => 0#64) := by kernel_rfl
theorem rp_start (S : Nat → BitVec 64) (w w1 w2 : World) (h1 : Below (w.heap.size + 2) ((w.alloc (.cells (vec 25 (lan S)) 23)).alloc (.cells (vec 25 (lan fun _ => 0#64)) 23)) w1) (h2 : Below (w1.heap.size + 1) (w1.alloc (.cells (vec 25 (offv 24)) 44)) w2) :
    w.heap.size + 1 < w1.heap.size ∧ w1.heap.size < w2.heap.size ∧ Rp w w1.heap.size w2.heap.size S (w2.alloc (.cells (vec 24 (lan RC)) 39)) := by
  have s1 := h1.size
  have s2 := h2.size
  simp at s1 s2
  have r0 : w1.rowIs w.heap.size 23 25 (lan S) := World.rowIs.of_block (heap_row (heap_alloc2_old w (.cells (vec 25 (lan S)) 23) _)) (h1.block _ (by omega))
  have r1 : w1.rowIs (w.heap.size + 1) 23 25 (lan fun _ => 0#64) := World.rowIs.of_block (heap_row (heap_alloc2_new w _ (.cells (vec 25 (lan fun _ => 0#64)) 23))) (h1.block _ (by omega))
  have b1 : Below w.heap.size w w1 := (((Below.refl _ w).alloc (Nat.le_refl _) _).alloc (by simp) _).trans (h1.mono (by omega))
  have r2 : (w1.alloc (.cells (vec 25 (offv 24)) 44)).rowIs w1.heap.size 44 25 (offv 24) := heap_row (heap_alloc_new _ _)
  have b2 : Below w1.heap.size w1 w2 := ((Below.refl _ w1).alloc (Nat.le_refl _) _).trans (h2.mono (by omega))
  refine ⟨by omega, by omega, (r0.of_block (b2.block _ r0.lt)).alloc _, (r1.of_block (b2.block _ r1.lt)).alloc _, (r2.of_block (h2.block _ (by omega))).alloc _, heap_row (heap_alloc_new _ _), (b1.trans (b2.mono b1.size)).alloc (by have := b1.size; omega) _⟩
theorem iota23 {S : Nat → BitVec 64} {c : BitVec 64} {b : Nat} {w : World} (h : w.rowIs b 23 25 (lan S)) {v : Value} (hv : v = .int .u64 (I (S 0 ^^^ c))) : (w.setCell ⟨b, 0, none⟩ v).rowIs b 23 25 (lan (iota c S)) := by
  refine (h.set _ _).congr ?_
  intro i hi
  subst hv
  simp only [lan, iota]
  by_cases e : i = 0
  · subst e; rw [if_pos rfl, if_pos rfl]
  · rw [if_neg e, if_neg e]
theorem off_le (t j : Nat) : offTo t j ≤ 1000 := by unfold offTo; split <;> omega
theorem below_drewN {B : Nat} {a w : World} (h : Below B a w) (n : Nat) : Below B a (w.drewN n) := ⟨h.os, h.tape, h.output, h.size, h.block⟩
theorem bnot (a : BitVec 64) : bits .xor .u64 (if IntKind.u64.signed = true then -1 else IntKind.u64.max) (I a) = I (~~~ a) := by
  have h : (if IntKind.u64.signed = true then -1 else IntKind.u64.max) = I (BitVec.allOnes 64) := by decide
  rw [h, bx, BitVec.allOnes_xor]
set_option maxRecDepth 100000 in
set_option maxHeartbeats 4000000 in
/-- conclaveref02.Permute -/
theorem rpermute_any (S : Nat → BitVec 64) (w : World) :
    Calls Tryd.prog 8 #[.agg (vec 25 (lan S))] w fun e w' => e = .returned (.agg (vec 25 (lan (permute RCs S)))) ∧ Below w.heap.size w w' := by
  go_enter Tryd.func8, Tryd.ntmps8
  go_wp2_with fail
  rw [zero25']
  refine (offsets_any _).mono ?_
  rintro e w1 ⟨rfl, hb1⟩
  have h1 : Below (w.heap.size + 2) ((w.alloc (.cells (vec 25 (lan S)) 23)).alloc (.cells (vec 25 (lan fun _ => 0#64)) 23)) w1 := hb1.mono (by simp)
  have H1 : Hid _ := h1
  clear hb1 h1
  go_wp2_with (first | (refine wpList_store_row rfl 44 _ _ rfl w1.heap.size (vec 25 (offv 24)) rfl rfl 44 _ (heap_alloc_new _ _) (info44v _) rfl (one_off _) ?_; rw [World.setRow_alloc_new]))
  refine (rconstants_any _).mono ?_
  rintro e w2 ⟨rfl, hb2⟩
  have h2 : Below (w1.heap.size + 1) (w1.alloc (.cells (vec 25 (offv 24)) 44)) w2 := hb2.mono (by simp)
  obtain ⟨hbo, hbc, hRp⟩ := rp_start S w w1 w2 H1.out h2
  obtain ⟨W, hW⟩ : ∃ W, w2.alloc (.cells (vec 24 (lan RC)) 39) = W := ⟨_, rfl⟩
  rw [hW] at hRp
  have HW : Hid _ := hW
  have HP : Hid _ := hRp
  clear hb2 h2 H1 hW hRp
  go_wp2_with (first | (refine wpList_store_row rfl 39 _ _ rfl w2.heap.size (vec 24 (lan RC)) rfl rfl 39 _ (heap_alloc_new _ _) (info39v' _) rfl (one_lan _ _) ?_; rw [World.setRow_alloc_new, HW.out]))
  clear HW
  obtain ⟨bo, hbo'⟩ : ∃ bo, w1.heap.size = bo := ⟨_, rfl⟩
  obtain ⟨bc, hbc'⟩ : ∃ bc, w2.heap.size = bc := ⟨_, rfl⟩
  rw [hbo', hbc'] at HP hbc ⊢
  rw [hbo'] at hbo
  clear hbo' hbc'
  go_loopw [5] (fun i wr => ∃ r : Nat, r ≤ 24 ∧ i = .int .i64 (r : Int) ∧ Rp w bo bc (permTo S r) wr) (fun i _ => 24 - (intOf i).toNat)
  case atStart => exact ⟨0, by omega, rfl, HP.out⟩
  case round =>
    obtain ⟨r, hr, rfl, hin⟩ := hrel
    clear HP
    by_cases hlt : r < 24
    · obtain ⟨R, hR⟩ : ∃ R, permTo S r = R := ⟨_, rfl⟩
      rw [hR] at hin
      have HR : Hid _ := hR
      clear hR
      have hd : decide ((r : Int) < 24) = true := by simp; omega
      go_wp2
      rw [zero5']
      have hA : Rp w bo bc R (wr.alloc (.cells (vec 5 (lan fun _ => 0#64)) 46)) := hin.more ((Below.refl _ _).alloc (Nat.le_refl _) _)
      have hB : (wr.alloc (.cells (vec 5 (lan fun _ => 0#64)) 46)).rowIs wr.heap.size 46 5 (lan (colTo R 0)) := heap_row (heap_alloc_new _ _)
      have hb6 : bc < wr.heap.size := hin.2.2.2.1.lt
      generalize wr.alloc (.cells (vec 5 (lan fun _ => 0#64)) 46) = W6 at hA hB ⊢
      obtain ⟨b6, hb6'⟩ : ∃ b6, wr.heap.size = b6 := ⟨_, rfl⟩
      rw [hb6'] at hB hb6 ⊢
      have HA : Hid (Rp w bo bc R W6 ∧ W6.rowIs b6 46 5 (lan (colTo R 0))) := ⟨hA, hB⟩
      clear hA hB hb6' hin
      go_loopw [7] (fun i wv => ∃ k : Nat, k ≤ 25 ∧ i = .int .i64 (k : Int) ∧ Rp w bo bc R wv ∧ wv.rowIs b6 46 5 (lan (colTo R k))) (fun i _ => 25 - (intOf i).toNat)
      case atStart => exact ⟨0, by omega, rfl, HA.out⟩
      case round =>
        obtain ⟨k, hk, rfl, hin, hrow⟩ := hrel
        clear HA
        by_cases hkl : k < 25
        · have c1 : wr.cell? ⟨b6, k % 5, none⟩ = some (.int .u64 (I (colTo R k (k % 5)))) := hrow.cell (by omega)
          have c2 : wr.cell? ⟨w.heap.size, k, none⟩ = some (.int .u64 (I (R k))) := hin.1.cell hkl
          have f1 : wr.frozen? ⟨b6, k % 5, none⟩ = false := hrow.frozen _
          have H1 : Hid (Rp w bo bc R wr ∧ wr.rowIs b6 46 5 (lan (colTo R k))) := ⟨hin, hrow⟩
          clear hin hrow
          go_wp2
          go_region
          go_wp2
          go_roundw
          case rel => exact ⟨k + 1, by omega, by go_num, H1.out.1.off hbo hbc hb6 ((Only.refl _ _).setCell _ _).drew, (col_row H1.out.2 (by rw [bx])).drew⟩
          case measure => simp [intOf]; omega
        · have hcol : wr.rowIs b6 46 5 (lan (sums R)) := hrow.congr (fun i hi => by simp only [lan]; rw [show k = 25 from by omega, col25 R i hi])
          have hkd : decide ((k : Int) < 25) = false := by simp; omega
          clear hrow
          go_wp2
          rw [zero25']
          have hA : Rp w bo bc R (wr.alloc (.cells (vec 25 (lan fun _ => 0#64)) 23)) := hin.more ((Below.refl _ _).alloc (Nat.le_refl _) _)
          have hB : (wr.alloc (.cells (vec 25 (lan fun _ => 0#64)) 23)).rowIs wr.heap.size 23 25 (lan (bTo (theta R) (5 * 0))) := (heap_row (heap_alloc_new _ _)).congr (fun i _ => by simp only [lan, bTo]; rw [if_neg (by omega)])
          have hC : (wr.alloc (.cells (vec 25 (lan fun _ => 0#64)) 23)).rowIs b6 46 5 (lan (sums R)) := hcol.alloc _
          have hb8 : b6 < wr.heap.size := hcol.lt
          generalize wr.alloc (.cells (vec 25 (lan fun _ => 0#64)) 23) = W8 at hA hB hC ⊢
          obtain ⟨b8, hb8'⟩ : ∃ b8, wr.heap.size = b8 := ⟨_, rfl⟩
          rw [hb8'] at hB hb8 ⊢
          have HA : Hid (Rp w bo bc R W8 ∧ W8.rowIs b6 46 5 (lan (sums R)) ∧ W8.rowIs b8 23 25 (lan (bTo (theta R) (5 * 0)))) := ⟨hA, hC, hB⟩
          clear hA hB hC hb8' hin hcol
          go_loopw [9] (fun i wu => ∃ x : Nat, x ≤ 5 ∧ i = .int .i64 (x : Int) ∧ Rp w bo bc R wu ∧ wu.rowIs b6 46 5 (lan (sums R)) ∧ wu.rowIs b8 23 25 (lan (bTo (theta R) (5 * x)))) (fun i _ => 5 - (intOf i).toNat)
          case atStart => exact ⟨0, by omega, rfl, HA.out⟩
          case round =>
            obtain ⟨x, hx, rfl, hin, hsum, hrow⟩ := hrel
            clear HA
            by_cases hxl : x < 5
            · have HA : Hid (Rp w bo bc R wr ∧ wr.rowIs b6 46 5 (lan (sums R)) ∧ wr.rowIs b8 23 25 (lan (bTo (theta R) (5 * x)))) := ⟨hin, hsum, hrow⟩
              clear hin hsum hrow
              have hdx : decide ((x : Int) < 5) = true := by simp; omega
              go_wp2
              go_loopw [10] (fun i wt => ∃ y : Nat, y ≤ 5 ∧ i = .int .i64 (y : Int) ∧ Rp w bo bc R wt ∧ wt.rowIs b6 46 5 (lan (sums R)) ∧ wt.rowIs b8 23 25 (lan (bTo (theta R) (5 * x + y)))) (fun i _ => 5 - (intOf i).toNat)
              case atStart => exact ⟨0, by omega, rfl, HA.out⟩
              case round =>
                obtain ⟨y, hy, rfl, hin, hsum, hrow⟩ := hrel
                clear HA
                by_cases hyl : y < 5
                · have c1 : wr.cell? ⟨w.heap.size, x + 5 * y, none⟩ = some (.int .u64 (I (R (x + 5 * y)))) := hin.1.cell (by omega)
                  have c2 : wr.cell? ⟨b6, (x + 4) % 5, none⟩ = some (.int .u64 (I (sums R ((x + 4) % 5)))) := hsum.cell (by omega)
                  have c3 : wr.cell? ⟨b6, (x + 1) % 5, none⟩ = some (.int .u64 (I (sums R ((x + 1) % 5)))) := hsum.cell (by omega)
                  have c4 : wr.cell? ⟨bo, x + 5 * y, none⟩ = some (.int .i64 ((offTo 24 (x + 5 * y) : Nat) : Int)) := hin.2.2.1.cell (by omega)
                  obtain ⟨u, c5⟩ : ∃ u, wr.cell? ⟨b8, y + 5 * ((2 * x + 3 * y) % 5), none⟩ = some u := ⟨_, hrow.cell (by omega)⟩
                  have f5 : wr.frozen? ⟨b8, y + 5 * ((2 * x + 3 * y) % 5), none⟩ = false := hrow.frozen _
                  obtain ⟨O, hO⟩ : ∃ O, offTo 24 (x + 5 * y) = O := ⟨_, rfl⟩
                  rw [hO] at c4
                  have hOl : O ≤ 1000 := by rw [← hO]; exact off_le _ _
                  have hpi : y + 5 * ((2 * x + 3 * y) % 5) = piOf (x + 5 * y) := by unfold piOf; rw [show (x + 5 * y) / 5 = y from by omega, show (x + 5 * y) % 5 = x from by omega]
                  have H1 : Hid (Rp w bo bc R wr ∧ wr.rowIs b6 46 5 (lan (sums R)) ∧ wr.rowIs b8 23 25 (lan (bTo (theta R) (5 * x + y))) ∧ offTo 24 (x + 5 * y) = O ∧ y + 5 * ((2 * x + 3 * y) % 5) = piOf (x + 5 * y)) := ⟨hin, hsum, hrow, hO, hpi⟩
                  clear hin hsum hrow hO hpi
                  have e1 := bx (R (x + 5 * y)) (sums R ((x + 4) % 5))
                  have e2 : bits .xor .u64 (I (R (x + 5 * y) ^^^ sums R ((x + 4) % 5))) (I ((sums R ((x + 1) % 5)).rotateLeft 1)) = I (theta R (x + 5 * y)) := by rw [bx, theta_at R x y hxl]
                  go_wp2
                  go_quiet ((go_at_call 23; exact Calls.quiet_of_same (rturn_any _ 1 (by decide) _)))
                  go_wp2_with fail
                  refine (rturn_any _ O hOl _).mono ?_
                  rintro e w' ⟨rfl, hs⟩
                  obtain rfl := hs.symm
                  clear e1 e2
                  go_wp2
                  go_roundw
                  case rel =>
                    refine ⟨y + 1, by omega, by go_num, H1.out.1.off hbo hbc (by omega) (((Only.refl _ _).drewN _).setCell _ _), (row_drewN H1.out.2.1 _).setOther (by show b6 ≠ b8; omega) _, ?_⟩
                    rw [← Nat.add_assoc]
                    exact b_row hxl hyl H1.out.2.2.2.2 (row_drewN H1.out.2.2.1 _) (by rw [H1.out.2.2.2.1])
                  case measure => simp [intOf]; omega
                · obtain rfl : y = 5 := by omega
                  have HA : Hid (Rp w bo bc R wr ∧ wr.rowIs b6 46 5 (lan (sums R)) ∧ wr.rowIs b8 23 25 (lan (bTo (theta R) (5 * (x + 1))))) := ⟨hin, hsum, by rw [show 5 * (x + 1) = 5 * x + 5 from by omega]; exact hrow⟩
                  clear hin hsum hrow
                  go_wp2
                  go_roundw
                  case rel => exact ⟨x + 1, by omega, by go_num, HA.out⟩
                  case measure => simp [intOf]; omega
            · obtain rfl : x = 5 := by omega
              have hbf : wr.rowIs b8 23 25 (lan (walk (theta R))) := hrow.congr (fun i hi => by simp only [lan]; rw [show 5 * 5 = 25 from rfl, b_full _ i hi])
              obtain ⟨V, hV⟩ : ∃ V, walk (theta R) = V := ⟨_, rfl⟩
              rw [hV] at hbf
              have HA : Hid (Rp w bo bc (sTo R V (5 * 0)) wr ∧ wr.rowIs b8 23 25 (lan V) ∧ walk (theta R) = V) := ⟨⟨hin.1.congr (fun i _ => by simp only [lan, sTo]; rw [if_neg (by omega)]), hin.2⟩, hbf, hV⟩
              clear hin hsum hrow hbf hV
              go_wp2
              go_loopw [12] (fun i wu => ∃ x : Nat, x ≤ 5 ∧ i = .int .i64 (x : Int) ∧ Rp w bo bc (sTo R V (5 * x)) wu ∧ wu.rowIs b8 23 25 (lan V)) (fun i _ => 5 - (intOf i).toNat)
              case atStart => exact ⟨0, by omega, rfl, HA.out.1, HA.out.2.1⟩
              case round =>
                obtain ⟨x, hx, rfl, hin, hrow⟩ := hrel
                by_cases hxl : x < 5
                · have HB : Hid (Rp w bo bc (sTo R V (5 * x)) wr ∧ wr.rowIs b8 23 25 (lan V)) := ⟨hin, hrow⟩
                  clear hin hrow
                  go_wp2
                  go_loopw [13] (fun i wt => ∃ y : Nat, y ≤ 5 ∧ i = .int .i64 (y : Int) ∧ Rp w bo bc (sTo R V (5 * x + y)) wt ∧ wt.rowIs b8 23 25 (lan V)) (fun i _ => 5 - (intOf i).toNat)
                  case atStart => exact ⟨0, by omega, rfl, HB.out⟩
                  case round =>
                    obtain ⟨y, hy, rfl, hin, hrow⟩ := hrel
                    clear HB
                    by_cases hyl : y < 5
                    · have c1 : wr.cell? ⟨b8, x + 5 * y, none⟩ = some (.int .u64 (I (V (x + 5 * y)))) := hrow.cell (by omega)
                      have c2 : wr.cell? ⟨b8, (x + 1) % 5 + 5 * y, none⟩ = some (.int .u64 (I (V ((x + 1) % 5 + 5 * y)))) := hrow.cell (by omega)
                      have c3 : wr.cell? ⟨b8, (x + 2) % 5 + 5 * y, none⟩ = some (.int .u64 (I (V ((x + 2) % 5 + 5 * y)))) := hrow.cell (by omega)
                      obtain ⟨u, c4⟩ : ∃ u, wr.cell? ⟨w.heap.size, x + 5 * y, none⟩ = some u := ⟨_, hin.1.cell (by omega)⟩
                      have f4 : wr.frozen? ⟨w.heap.size, x + 5 * y, none⟩ = false := hin.1.frozen _
                      have H1 : Hid (Rp w bo bc (sTo R V (5 * x + y)) wr ∧ wr.rowIs b8 23 25 (lan V)) := ⟨hin, hrow⟩
                      clear hin hrow
                      go_wp2
                      go_region
                      go_wp2
                      go_roundw
                      case rel =>
                        have hm : (Value.int .u64 (bits .xor .u64 (I (V (x + 5 * y))) (bits .and .u64 (bits .xor .u64 (if IntKind.u64.signed = true then -1 else IntKind.u64.max) (I (V ((x + 1) % 5 + 5 * y)))) (I (V ((x + 2) % 5 + 5 * y)))))) = .int .u64 (I (mix V (x + 5 * y))) := by rw [bnot, ba, bx, mix_at V x y hxl]
                        refine ⟨y + 1, by omega, by go_num, ?_, (H1.out.2.setOther (by show b8 ≠ w.heap.size; omega) _).drew⟩
                        rw [← Nat.add_assoc]
                        exact H1.out.1.state hbo hbc (s_row hxl hyl rfl H1.out.1.1 hm).drew ((Only.refl _ _).setCell _ _).drew
                      case measure => simp [intOf]; omega
                    · obtain rfl : y = 5 := by omega
                      have HB : Hid (Rp w bo bc (sTo R V (5 * (x + 1))) wr ∧ wr.rowIs b8 23 25 (lan V)) := ⟨by rw [show 5 * (x + 1) = 5 * x + 5 from by omega]; exact hin, hrow⟩
                      clear hin hrow
                      go_wp2
                      go_roundw
                      case rel => exact ⟨x + 1, by omega, by go_num, HB.out⟩
                      case measure => simp [intOf]; omega
                · obtain rfl : x = 5 := by omega
                  have hfull : ∀ i, i < 25 → sTo R V (5 * 5) i = mix V i := fun i hi => by unfold sTo; rw [if_pos (ord_lt hi)]
                  have hin2 : Rp w bo bc (mix V) wr := ⟨hin.1.congr (fun i hi => by simp only [lan]; rw [hfull i hi]), hin.2⟩
                  have c1 : wr.cell? ⟨w.heap.size, 0, none⟩ = some (.int .u64 (I (mix V 0))) := hin2.1.cell (by decide)
                  have c2 : wr.cell? ⟨bc, r, none⟩ = some (.int .u64 (I (RC r))) := hin2.2.2.2.1.cell hlt
                  have f1 : wr.frozen? ⟨w.heap.size, 0, none⟩ = false := hin2.1.frozen _
                  have H1 : Hid (Rp w bo bc (mix V) wr) := hin2
                  clear hin hrow hin2 hfull
                  go_wp2
                  go_region
                  go_wp2
                  go_roundw
                  case rel =>
                    refine ⟨r + 1, by omega, by go_num, ?_⟩
                    have hp : permTo S (r + 1) = iota (RC r) (mix V) := by rw [← HA.out.2.2, ← HR.out]; rfl
                    rw [hp]
                    exact H1.out.state hbo hbc (iota23 H1.out.1 (by rw [bx])).drew ((Only.refl _ _).setCell _ _).drew
                  case measure => simp [intOf]; omega
    · obtain rfl : r = 24 := by omega
      go_wp2_with (first | (refine wpList_load_row rfl 23 _ rfl w.heap.size rfl 23 _ (0, 0) _ (row_heap hin.1) Tryd.underlying23 rfl (info23v _) ?_) | (refine wpList_store_row rfl 23 _ _ rfl (w.heap.size + 1) _ rfl rfl 23 _ (row_heap hin.2.1) (info23v _) (by simp) (one_lan _ _) ?_))
      refine bodyPost_ret (results_cell_row rfl _ _ _ _ _ _ _ rfl (setRow_heap _ _ _ _ _ _ (row_heap hin.2.1)) Tryd.underlying23 rfl (info23v _)) rfl ⟨rfl, ?_⟩
      exact ((Only.refl _ _).setRow _).below hin.2.2.2.2 (by omega)
end Go.Proofs.YtmhfgchckebnpaaDoor
