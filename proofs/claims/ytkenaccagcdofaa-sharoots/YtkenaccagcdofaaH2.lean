/- sha.schedule. -/
import Derived.Test.YtkenaccagcdofaaG0
namespace Go.Proofs.Ytkenaccagcdofaa
open Go.RowKit Go.Shelf
set_option linter.unusedSimpArgs false
set_option linter.unusedVariables false

theorem info41v (f : Nat → Value) : (Try.prog.info? 41).map (·.size) = some (vec 80 f).size := by rw [size_vec]; kernel_rfl
theorem info50v (f : Nat → Value) : (Try.prog.info? 50).map (·.size) = some (vec 128 f).size := by rw [size_vec]; kernel_rfl
theorem info38v (f : Nat → Value) : (Try.prog.info? 38).map (·.size) = some (vec 8 f).size := by rw [size_vec]; kernel_rfl
theorem info23v (f : Nat → Value) : (Try.prog.info? 23).map (·.size) = some (vec 64 f).size := by rw [size_vec]; kernel_rfl
theorem zero41 : (Try.prog.info? 41).map (fun i => (i.zero, i.size)) = some (some (.agg (vec 80 (lan fun _ => 0#64))), 80) := by kernel_rfl
theorem zero50 : (Try.prog.info? 50).map (fun i => (i.zero, i.size)) = some (some (.agg (vec 128 (byt fun _ => 0#8))), 128) := by kernel_rfl
theorem zero23 : (Try.prog.info? 23).map (fun i => (i.zero, i.size)) = some (some (.agg (vec 64 (byt fun _ => 0#8))), 64) := by kernel_rfl
theorem zero38 : (Try.prog.info? 38).map (fun i => (i.zero, i.size)) = some (some (.agg (vec 8 (lan fun _ => 0#64))), 8) := by kernel_rfl

theorem wd_val (a : BitVec 64) (x : BitVec 8) : bits .or .u64 (IntKind.u64.wrap (I a * 256)) (I8 x) = I (a <<< 8 ||| x.setWidth 64) := by
  have h : I a * 256 = I a * 2 ^ 8 := by congr 1
  rw [h, I_byte, I_shl, bo]
theorem wd_row {b : Nat → BitVec 8} {k g t : Nat} {w : World} (h : w.rowIs g t 80 (lan (wdTo b k))) {v : Value} (hv : v = .int .u64 (I (wdTo b k (k / 8) <<< 8 ||| (b k).setWidth 64))) :
    (w.setCell ⟨g, k / 8, none⟩ v).rowIs g t 80 (lan (wdTo b (k + 1))) := by
  refine (h.set _ _).congr ?_
  intro i hi
  subst hv
  simp only [lan, wdTo]
  by_cases e : i = k / 8
  · subst e; rw [if_pos rfl, if_pos rfl]
  · rw [if_neg e, if_neg e]
theorem sch_row {x : Nat → BitVec 64} {k g t : Nat} {w : World} (h : w.rowIs g t 80 (lan (schTo x k))) {v : Value} (hv : v = .int .u64 (I (sg1 (schTo x k (k + 14)) + schTo x k (k + 9) + sg0 (schTo x k (k + 1)) + schTo x k k))) :
    (w.setCell ⟨g, k + 16, none⟩ v).rowIs g t 80 (lan (schTo x (k + 1))) := by
  refine (h.set _ _).congr ?_
  intro i hi
  subst hv
  simp only [lan, schTo]
  by_cases e : i = k + 16
  · subst e; rw [if_pos rfl, if_pos rfl]
  · rw [if_neg e, if_neg e]
theorem I_add (a b : BitVec 64) : IntKind.u64.wrap (I a + I b) = I (a + b) := by
  rw [IntKind.wrap_u64]
  unfold I
  rw [BitVec.toNat_add]
  omega
/-- The worlds of the loops: the block, the answer's place, the words. -/
def ScIn (R : Nat → BitVec 64) (w wr : World) : Prop :=
  wr.rowIs (w.heap.size + 1) 41 80 (lan fun _ => 0#64) ∧ wr.rowIs (w.heap.size + 2) 41 80 (lan R) ∧ Below w.heap.size w wr
theorem sc_start (b : Nat → BitVec 8) (w : World) : ScIn (wdTo b 0) w (((w.alloc (.cells (vec 128 (byt b)) 50)).alloc (.cells (vec 80 (lan fun _ => 0#64)) 41)).alloc (.cells (vec 80 (lan fun _ => 0#64)) 41)) := by
  exact ⟨heap_row (heap2of3 _ _ _ _), heap_row (heap3of3 _ _ _ _), by go_grown⟩
theorem ScIn.step {R R' : Nat → BitVec 64} {w w1 w2 : World} (h : ScIn R w w1) (hr : w2.rowIs (w.heap.size + 2) 41 80 (lan R')) (o : Only (w.heap.size + 2) w1 w2) : ScIn R' w w2 :=
  ⟨o.row (by omega) h.1, hr, o.below h.2.2 (by omega)⟩
theorem ScIn.more {R : Nat → BitVec 64} {w w1 w2 : World} (h : ScIn R w w1) (o : Below w1.heap.size w1 w2) : ScIn R w w2 :=
  ⟨h.1.of_block (o.block _ h.1.lt), h.2.1.of_block (o.block _ h.2.1.lt), h.2.2.trans (o.mono h.2.2.size)⟩
set_option maxRecDepth 20000 in
set_option maxHeartbeats 2000000 in
theorem schedule_any (b : Nat → BitVec 8) (w : World) :
    Calls Try.prog 32 #[.agg (vec 128 (byt b))] w fun e w' => e = .returned (.agg (vec 80 (lan (schTo (wdTo b 128) 64)))) ∧ Below w.heap.size w w' := by
  have hix := run_index_vec (P := Try.prog) 50 5 128 (fun w => run_underlying Try.underlying50 w) Try.sizeOf5 Try.isAgg5 (byt b)
  have HS : Hid _ := sc_start b w
  have hz := (zero_of_info zero41).1
  go_enter Try.func32, Try.ntmps32
  go_wp2_with (first | (refine wpList_load_row rfl 50 _ rfl w.heap.size rfl 50 _ (0, 0) _ (heap1of3 _ _ _ _) Try.underlying50 rfl (info50v _) ?_))
  go_loopw [8] (fun i wr => ∃ k : Nat, k ≤ 128 ∧ i = .int .i64 (k : Int) ∧ ScIn (wdTo b k) w wr) (fun i _ => 128 - (intOf i).toNat)
  case atStart => exact ⟨0, by omega, rfl, HS.out⟩
  case round =>
    obtain ⟨k, hk, rfl, hin⟩ := hrel
    clear HS hz
    by_cases hlt : k < 128
    · have hik := hix k hlt
      have hbd := I8_bd (b k)
      have c0 : wr.cell? ⟨w.heap.size + 2, k / 8, none⟩ = some (.int .u64 (I (wdTo b k (k / 8)))) := hin.2.1.cell (by omega)
      have f0 : wr.frozen? ⟨w.heap.size + 2, k / 8, none⟩ = false := hin.2.1.frozen _
      have H1 : Hid (ScIn (wdTo b k) w wr) := hin
      clear hix hin
      obtain ⟨hb0, hb1⟩ := hbd
      go_wp2
      go_roundw
      case rel => exact ⟨k + 1, by omega, by go_num, (H1.out.step (wd_row H1.out.2.1 (by rw [wd_val])) ((Only.refl _ _).setCell _ _))⟩
      case measure => simp [intOf]; omega
    · have hk2 : k = 128 := by omega
      clear hix
      have H1 : Hid (ScIn (wdTo b 128) w wr) := hk2 ▸ hin
      have hd : ¬ (k : Int) < 128 := by omega
      clear hin hk2
      go_wp2
      obtain ⟨x, hx⟩ : ∃ x, x = wdTo b 128 := ⟨_, rfl⟩
      rw [← hx] at H1
      have HX : Hid (x = wdTo b 128) := hx
      clear hx
      go_loopw [6] (fun i wr => ∃ k : Nat, k ≤ 64 ∧ i = .int .i64 ((k : Int) + 16) ∧ ScIn (schTo x k) w wr) (fun i _ => 80 - (intOf i).toNat)
      case atStart => exact ⟨0, by omega, rfl, H1.out⟩
      case round =>
        clear hlt hk hd
        obtain ⟨k, hk, rfl, hin⟩ := hrel
        clear H1
        by_cases hlt : k < 64
        · have c0 : wr.cell? ⟨w.heap.size + 2, k + 14, none⟩ = some (.int .u64 (I (schTo x k (k + 14)))) := hin.2.1.cell (by omega)
          have c1 : wr.cell? ⟨w.heap.size + 2, k + 9, none⟩ = some (.int .u64 (I (schTo x k (k + 9)))) := hin.2.1.cell (by omega)
          have c2 : wr.cell? ⟨w.heap.size + 2, k + 1, none⟩ = some (.int .u64 (I (schTo x k (k + 1)))) := hin.2.1.cell (by omega)
          have c3 : wr.cell? ⟨w.heap.size + 2, k, none⟩ = some (.int .u64 (I (schTo x k k))) := hin.2.1.cell (by omega)
          obtain ⟨u, cu⟩ : ∃ u, wr.cell? ⟨w.heap.size + 2, k + 16, none⟩ = some u := ⟨_, hin.2.1.cell (by omega)⟩
          have f0 := hin.2.1.frozen
          have H1 : Hid (ScIn (schTo x k) w wr) := hin
          clear hin
          go_wp2
          refine wp_region_held_drew (S := fun w' => w'.cell? ⟨w.heap.size + 2, k + 14, none⟩ = some (.int .u64 (I (schTo x k (k + 14)))) ∧ w'.cell? ⟨w.heap.size + 2, k + 9, none⟩ = some (.int .u64 (I (schTo x k (k + 9)))) ∧ w'.cell? ⟨w.heap.size + 2, k + 1, none⟩ = some (.int .u64 (I (schTo x k (k + 1)))) ∧ w'.cell? ⟨w.heap.size + 2, k, none⟩ = some (.int .u64 (I (schTo x k k)))) (by kernel_rfl) ⟨c0, c1, c2, c3⟩ (fun hHeld => ?_)
          refine wpAnyH_take (i := 0) (v := .int .i64 ((k : Int) + 16)) rfl (by kernel_rfl) (by kernel_rfl) (by kernel_rfl) (fun _ _ _ h => h) (Or.inl ⟨by rfl, fun w hSw => ?_⟩) hHeld ?_
          · obtain ⟨h1, h2, h3, h4⟩ := hSw; go_simp
          simp only [List.getElem_toArray, List.getElem_cons_succ, List.getElem_cons_zero, Act.put, List.setIfInBounds_toArray, List.set_cons_zero, List.set_cons_succ]
          refine wpAnyH_take (i := 1) (v := .int .i64 ((k : Int) + 16)) rfl (by kernel_rfl) (by kernel_rfl) (by kernel_rfl) (fun _ _ _ h => h) (Or.inl ⟨by rfl, fun w hSw => ?_⟩) hHeld ?_
          · obtain ⟨h1, h2, h3, h4⟩ := hSw; go_simp
          simp only [List.getElem_toArray, List.getElem_cons_succ, List.getElem_cons_zero, Act.put, List.setIfInBounds_toArray, List.set_cons_zero, List.set_cons_succ]
          refine wpAnyH_take (i := 2) (v := .int .i64 ((k + 14 : Nat) : Int)) rfl (by kernel_rfl) (by kernel_rfl) (by kernel_rfl) (fun _ _ _ h => h) (Or.inl ⟨by rfl, fun w hSw => ?_⟩) hHeld ?_
          · have a : IntKind.i64.wrap ((k : Int) + 16 - 2) = (k : Int) + 14 := by rw [IntKind.wrap_i64]; omega
            go_simp
          simp only [List.getElem_toArray, List.getElem_cons_succ, List.getElem_cons_zero, Act.put, List.setIfInBounds_toArray, List.set_cons_zero, List.set_cons_succ]
          refine wpAnyH_take (i := 3) (v := .pointer (some ⟨w.heap.size + 2, k + 14, none⟩)) rfl (by kernel_rfl) (by kernel_rfl) (by kernel_rfl) (fun _ _ _ h => h) (Or.inl ⟨by rfl, fun w hSw => ?_⟩) hHeld ?_
          · have a1 : (0 : Int) ≤ (k : Int) + 14 := (by omega)
            have a2 : (k : Int) + 14 < 80 := (by omega)
            have a3 : ((k : Int) + 14).toNat = k + 14 := (by omega)
            go_simp
          simp only [List.getElem_toArray, List.getElem_cons_succ, List.getElem_cons_zero, Act.put, List.setIfInBounds_toArray, List.set_cons_zero, List.set_cons_succ]
          refine wpAnyH_take (i := 4) (v := .int .u64 (I (schTo x k (k + 14)))) rfl (by kernel_rfl) (by kernel_rfl) (by kernel_rfl) (fun _ _ _ h => h) (Or.inl ⟨by rfl, fun w hSw => ?_⟩) hHeld ?_
          · obtain ⟨h1, h2, h3, h4⟩ := hSw; go_simp
          simp only [List.getElem_toArray, List.getElem_cons_succ, List.getElem_cons_zero, Act.put, List.setIfInBounds_toArray, List.set_cons_zero, List.set_cons_succ]
          refine wpAnyH_take (i := 6) (v := .int .i64 ((k : Int) + 16)) rfl (by kernel_rfl) (by kernel_rfl) (by kernel_rfl) (fun _ _ _ h => h) (Or.inl ⟨by rfl, fun w hSw => ?_⟩) hHeld ?_
          · obtain ⟨h1, h2, h3, h4⟩ := hSw; go_simp
          simp only [List.getElem_toArray, List.getElem_cons_succ, List.getElem_cons_zero, Act.put, List.setIfInBounds_toArray, List.set_cons_zero, List.set_cons_succ]
          refine wpAnyH_take (i := 7) (v := .int .i64 ((k + 9 : Nat) : Int)) rfl (by kernel_rfl) (by kernel_rfl) (by kernel_rfl) (fun _ _ _ h => h) (Or.inl ⟨by rfl, fun w hSw => ?_⟩) hHeld ?_
          · have a : IntKind.i64.wrap ((k : Int) + 16 - 7) = (k : Int) + 9 := by rw [IntKind.wrap_i64]; omega
            go_simp
          simp only [List.getElem_toArray, List.getElem_cons_succ, List.getElem_cons_zero, Act.put, List.setIfInBounds_toArray, List.set_cons_zero, List.set_cons_succ]
          refine wpAnyH_take (i := 8) (v := .pointer (some ⟨w.heap.size + 2, k + 9, none⟩)) rfl (by kernel_rfl) (by kernel_rfl) (by kernel_rfl) (fun _ _ _ h => h) (Or.inl ⟨by rfl, fun w hSw => ?_⟩) hHeld ?_
          · have a1 : (0 : Int) ≤ (k : Int) + 9 := (by omega)
            have a2 : (k : Int) + 9 < 80 := (by omega)
            have a3 : ((k : Int) + 9).toNat = k + 9 := (by omega)
            go_simp
          simp only [List.getElem_toArray, List.getElem_cons_succ, List.getElem_cons_zero, Act.put, List.setIfInBounds_toArray, List.set_cons_zero, List.set_cons_succ]
          refine wpAnyH_take (i := 9) (v := .int .u64 (I (schTo x k (k + 9)))) rfl (by kernel_rfl) (by kernel_rfl) (by kernel_rfl) (fun _ _ _ h => h) (Or.inl ⟨by rfl, fun w hSw => ?_⟩) hHeld ?_
          · obtain ⟨h1, h2, h3, h4⟩ := hSw; go_simp
          simp only [List.getElem_toArray, List.getElem_cons_succ, List.getElem_cons_zero, Act.put, List.setIfInBounds_toArray, List.set_cons_zero, List.set_cons_succ]
          refine wpAnyH_take (i := 11) (v := .int .i64 ((k : Int) + 16)) rfl (by kernel_rfl) (by kernel_rfl) (by kernel_rfl) (fun _ _ _ h => h) (Or.inl ⟨by rfl, fun w hSw => ?_⟩) hHeld ?_
          · obtain ⟨h1, h2, h3, h4⟩ := hSw; go_simp
          simp only [List.getElem_toArray, List.getElem_cons_succ, List.getElem_cons_zero, Act.put, List.setIfInBounds_toArray, List.set_cons_zero, List.set_cons_succ]
          refine wpAnyH_take (i := 12) (v := .int .i64 ((k + 1 : Nat) : Int)) rfl (by kernel_rfl) (by kernel_rfl) (by kernel_rfl) (fun _ _ _ h => h) (Or.inl ⟨by rfl, fun w hSw => ?_⟩) hHeld ?_
          · have a : IntKind.i64.wrap ((k : Int) + 16 - 15) = (k : Int) + 1 := by rw [IntKind.wrap_i64]; omega
            go_simp
          simp only [List.getElem_toArray, List.getElem_cons_succ, List.getElem_cons_zero, Act.put, List.setIfInBounds_toArray, List.set_cons_zero, List.set_cons_succ]
          refine wpAnyH_take (i := 13) (v := .pointer (some ⟨w.heap.size + 2, k + 1, none⟩)) rfl (by kernel_rfl) (by kernel_rfl) (by kernel_rfl) (fun _ _ _ h => h) (Or.inl ⟨by rfl, fun w hSw => ?_⟩) hHeld ?_
          · have a1 : (0 : Int) ≤ (k : Int) + 1 := (by omega)
            have a2 : (k : Int) + 1 < 80 := (by omega)
            have a3 : ((k : Int) + 1).toNat = k + 1 := (by omega)
            go_simp
          simp only [List.getElem_toArray, List.getElem_cons_succ, List.getElem_cons_zero, Act.put, List.setIfInBounds_toArray, List.set_cons_zero, List.set_cons_succ]
          refine wpAnyH_take (i := 14) (v := .int .u64 (I (schTo x k (k + 1)))) rfl (by kernel_rfl) (by kernel_rfl) (by kernel_rfl) (fun _ _ _ h => h) (Or.inl ⟨by rfl, fun w hSw => ?_⟩) hHeld ?_
          · obtain ⟨h1, h2, h3, h4⟩ := hSw; go_simp
          simp only [List.getElem_toArray, List.getElem_cons_succ, List.getElem_cons_zero, Act.put, List.setIfInBounds_toArray, List.set_cons_zero, List.set_cons_succ]
          refine wpAnyH_take (i := 17) (v := .int .i64 ((k : Int) + 16)) rfl (by kernel_rfl) (by kernel_rfl) (by kernel_rfl) (fun _ _ _ h => h) (Or.inl ⟨by rfl, fun w hSw => ?_⟩) hHeld ?_
          · obtain ⟨h1, h2, h3, h4⟩ := hSw; go_simp
          simp only [List.getElem_toArray, List.getElem_cons_succ, List.getElem_cons_zero, Act.put, List.setIfInBounds_toArray, List.set_cons_zero, List.set_cons_succ]
          refine wpAnyH_take (i := 18) (v := .int .i64 ((k : Nat) : Int)) rfl (by kernel_rfl) (by kernel_rfl) (by kernel_rfl) (fun _ _ _ h => h) (Or.inl ⟨by rfl, fun w hSw => ?_⟩) hHeld ?_
          · have a : IntKind.i64.wrap ((k : Int) + 16 - 16) = (k : Int) := (by rw [IntKind.wrap_i64]; omega)
            have a4 : (k : Int) + 16 - 16 = (k : Int) := (by omega)
            rw [a4] at a
            go_simp
          simp only [List.getElem_toArray, List.getElem_cons_succ, List.getElem_cons_zero, Act.put, List.setIfInBounds_toArray, List.set_cons_zero, List.set_cons_succ]
          refine wpAnyH_take (i := 19) (v := .pointer (some ⟨w.heap.size + 2, k, none⟩)) rfl (by kernel_rfl) (by kernel_rfl) (by kernel_rfl) (fun _ _ _ h => h) (Or.inl ⟨by rfl, fun w hSw => ?_⟩) hHeld ?_
          · have a1 : (0 : Int) ≤ (k : Int) := (by omega)
            have a2 : (k : Int) < 80 := (by omega)
            have a3 : ((k : Int)).toNat = k := (by omega)
            go_simp
          simp only [List.getElem_toArray, List.getElem_cons_succ, List.getElem_cons_zero, Act.put, List.setIfInBounds_toArray, List.set_cons_zero, List.set_cons_succ]
          refine wpAnyH_take (i := 20) (v := .int .u64 (I (schTo x k k))) rfl (by kernel_rfl) (by kernel_rfl) (by kernel_rfl) (fun _ _ _ h => h) (Or.inl ⟨by rfl, fun w hSw => ?_⟩) hHeld ?_
          · obtain ⟨h1, h2, h3, h4⟩ := hSw; go_simp
          simp only [List.getElem_toArray, List.getElem_cons_succ, List.getElem_cons_zero, Act.put, List.setIfInBounds_toArray, List.set_cons_zero, List.set_cons_succ]
          refine wpAnyH_ready (rs := [5]) (by kernel_rfl) (by simp) ?_
          refine AllReadyH.cons rfl (fun K hK => ?_) AllReadyH.nil
          go_simp
          refine (sg1_any _ _).mono ?_
          rintro e w' ⟨rfl, hs⟩
          obtain rfl := hs.symm
          go_wp2_with fail
          refine hK.out _ _ ?_ (fun hHeld => ?_)
          · exact hHeld
          clear hK K
          try simp only [List.getElem_toArray, List.getElem_cons_succ, List.getElem_cons_zero, Act.put, List.setIfInBounds_toArray, List.set_cons_zero, List.set_cons_succ]
          refine wpAnyH_take (i := 10) (v := .int .u64 (I (sg1 (schTo x k (k + 14)) + schTo x k (k + 9)))) rfl (by kernel_rfl) (by kernel_rfl) (by kernel_rfl) (fun _ _ _ h => h) (Or.inl ⟨by rfl, fun w hSw => ?_⟩) hHeld ?_
          · have a := I_add (sg1 (schTo x k (k + 14))) (schTo x k (k + 9)); go_simp
          simp only [List.getElem_toArray, List.getElem_cons_succ, List.getElem_cons_zero, Act.put, List.setIfInBounds_toArray, List.set_cons_zero, List.set_cons_succ]
          refine wpAnyH_ready (rs := [15]) (by kernel_rfl) (by simp) ?_
          refine AllReadyH.cons rfl (fun K hK => ?_) AllReadyH.nil
          go_simp
          refine (sg0_any _ _).mono ?_
          rintro e w' ⟨rfl, hs⟩
          obtain rfl := hs.symm
          go_wp2_with fail
          refine hK.out _ _ ?_ (fun hHeld => ?_)
          · exact hHeld
          clear hK K
          try simp only [List.getElem_toArray, List.getElem_cons_succ, List.getElem_cons_zero, Act.put, List.setIfInBounds_toArray, List.set_cons_zero, List.set_cons_succ]
          refine wpAnyH_take (i := 16) (v := .int .u64 (I (sg1 (schTo x k (k + 14)) + schTo x k (k + 9) + sg0 (schTo x k (k + 1))))) rfl (by kernel_rfl) (by kernel_rfl) (by kernel_rfl) (fun _ _ _ h => h) (Or.inl ⟨by rfl, fun w hSw => ?_⟩) hHeld ?_
          · have a := I_add (sg1 (schTo x k (k + 14)) + schTo x k (k + 9)) (sg0 (schTo x k (k + 1))); go_simp
          simp only [List.getElem_toArray, List.getElem_cons_succ, List.getElem_cons_zero, Act.put, List.setIfInBounds_toArray, List.set_cons_zero, List.set_cons_succ]
          refine wpAnyH_take (i := 21) (v := .int .u64 (I (sg1 (schTo x k (k + 14)) + schTo x k (k + 9) + sg0 (schTo x k (k + 1)) + schTo x k k))) rfl (by kernel_rfl) (by kernel_rfl) (by kernel_rfl) (fun _ _ _ h => h) (Or.inl ⟨by rfl, fun w hSw => ?_⟩) hHeld ?_
          · have a := I_add (sg1 (schTo x k (k + 14)) + schTo x k (k + 9) + sg0 (schTo x k (k + 1))) (schTo x k k); go_simp
          simp only [List.getElem_toArray, List.getElem_cons_succ, List.getElem_cons_zero, Act.put, List.setIfInBounds_toArray, List.set_cons_zero, List.set_cons_succ]
          refine wpAnyH_take (i := 22) (v := .pointer (some ⟨w.heap.size + 2, k + 16, none⟩)) rfl (by kernel_rfl) (by kernel_rfl) (by kernel_rfl) (fun _ _ _ h => h) (Or.inl ⟨by rfl, fun w hSw => ?_⟩) hHeld ?_
          · have a1 : (0 : Int) ≤ (k : Int) + 16 := (by omega)
            have a2 : (k : Int) + 16 < 80 := (by omega)
            have a3 : ((k : Int) + 16).toNat = k + 16 := (by omega)
            go_simp
          simp only [List.getElem_toArray, List.getElem_cons_succ, List.getElem_cons_zero, Act.put, List.setIfInBounds_toArray, List.set_cons_zero, List.set_cons_succ]
          refine wpAnyH_ready (rs := [23]) (by kernel_rfl) (by simp) ?_
          refine AllReadyH.cons rfl (fun K hK => ?_) AllReadyH.nil
          go_simp
          refine hK.out _ _ ?_ (fun hHeld => ?_)
          · have hn : ∀ j, j < k + 16 → (⟨w.heap.size + 1 + 1, k + 16, none⟩ : Addr) ≠ ⟨w.heap.size + 2, j, none⟩ := fun j hj e => by injection e with _ e2; omega
            have hc : ∀ j, j < k + 16 → ∀ v, wr.drew.cell? ⟨w.heap.size + 2, j, none⟩ = some v → (wr.drew.setCell ⟨w.heap.size + 1 + 1, k + 16, none⟩ (.int .u64 (I (sg1 (schTo x k (k + 14)) + schTo x k (k + 9) + sg0 (schTo x k (k + 1)) + schTo x k k)))).cell? ⟨w.heap.size + 2, j, none⟩ = some v := fun j hj v hv => (World.cell?_setCell_other _ _ _ _ (hn j hj)).trans hv
            exact ⟨hc _ (by omega) _ hHeld.1, hc _ (by omega) _ hHeld.2.1, hc _ (by omega) _ hHeld.2.2.1, hc _ (by omega) _ hHeld.2.2.2⟩
          clear hK K
          try simp only [List.getElem_toArray, List.getElem_cons_succ, List.getElem_cons_zero, Act.put, List.setIfInBounds_toArray, List.set_cons_zero, List.set_cons_succ]
          refine wpAnyH_done (by kernel_rfl) ?_ _
          clear hHeld c0 c1 c2 c3
          go_wp2
          go_roundw
          case rel => exact ⟨k + 1, by omega, by go_num, (H1.out.more (Below.drew (Below.refl _ _))).step (sch_row H1.out.2.1.drew rfl) ((Only.refl _ _).setCell _ _)⟩
          case measure => simp [intOf]; omega
        · have : k = 64 := by omega
          subst this
          go_wp2_with (first | (refine wpList_load_row rfl 41 _ rfl (w.heap.size + 2) rfl 41 _ (0, 0) _ (row_heap hin.2.1) Try.underlying41 rfl (info41v _) ?_) | (refine wpList_store_row rfl 41 _ _ rfl (w.heap.size + 1) _ rfl rfl 41 _ (row_heap hin.1) (info41v _) (by simp) (one_lan _ _) ?_))
          refine bodyPost_ret (results_cell_row rfl _ _ _ _ _ _ _ rfl (setRow_heap _ _ _ _ _ _ (row_heap hin.1)) Try.underlying41 rfl (info41v _)) rfl ⟨?_, ?_⟩
          · rw [HX.out]
          · exact ((Only.refl _ _).setRow _).below hin.2.2 (by omega)
end Go.Proofs.Ytkenaccagcdofaa
