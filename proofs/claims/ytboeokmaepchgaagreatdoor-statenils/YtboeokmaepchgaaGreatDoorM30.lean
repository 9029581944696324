/- UP, UQ, UR, laid into one text. -/
import Derived.Test.YtboeokmaepchgaaGreatDoorM29
/- state: note with no snapshot, put of an account that is not there. -/
namespace Go.Proofs.YtboeokmaepchgaaGreatDoor
open Go.RowKit Go.Maps Go.Joins Go.Shelf
set_option linter.unusedSimpArgs false
set_option linter.unusedVariables false
/-- Block m alone has changed of those that were there. -/
structure GrowO (m : Nat) (w w' : World) : Prop where
  os : w'.os = w.os
  tape : w'.tape = w.tape
  output : w'.output = w.output
  size : w.heap.size ≤ w'.heap.size
  block : ∀ k, k < w.heap.size → k ≠ m → w'.heap[k]? = w.heap[k]?
set_option maxRecDepth 100000 in
theorem note_quiet {w : World} {b : Nat} {D : Nat → BitVec 8} {m1 m2 t : Nat} {rf : Int} {lg jr fv : Value} (h : w.heap[b]? = some (.cells (Kc.vec 43 (stF D 0 m1 m2 t rf lg jr (.slice none 0 0))) 101)) : Calls Tryz.prog 96 #[.pointer (some ⟨b, 0, none⟩), fv] w fun e w' => e = .returned (.tuple #[]) ∧ w' = w := by
  have k0 : w.cell? ⟨b, 42, none⟩ = some (.slice none 0 0) := st_cell h 42 (by decide)
  clear h
  go_enter Tryz.func96, Tryz.ntmps96
  go_wp2
  go_end0
  exact ⟨rfl, rfl⟩
set_option maxRecDepth 100000 in
set_option maxHeartbeats 16000000 in
theorem put_new {w : World} {b : Nat} {D : Nat → BitVec 8} {m1 m2 t : Nat} {rf : Int} {lg jr : Value} {l : List ((Nat → Int) × Value × Nat)} {ck : Nat} (A : Nat → BitVec 8) (f : Nat → Value) (hs : StA w b D m1 m2 t rf lg jr (.slice none 0 0) l ck) (hl : findA 20 (fun j => Kc.I8 (A j)) l 0 = none) :
    Calls Tryz.prog 92 #[.pointer (some ⟨b, 0, none⟩), .map (some m1), .agg (adV A), .agg (Kc.vec 70 f)] w fun e w' => e = .returned (.tuple #[]) ∧ w'.heap[m1]? = some (.map (entA 20 .u8 (l ++ [(fun j => Kc.I8 (A j), .agg (Kc.vec 70 f), ck)])).toArray (ck + 1)) ∧ GrowO m1 w w' := by
  have hmf : ∀ (fn : Fn) (first cap : Array Value) (w : World), (Instr.makeFunc fn first cap).run Tryz.prog w = .ok (.func fn first cap) w := fun _ _ _ _ => rfl
  have B0 : ([Obj.cells #[.map (some m1)] 92, .cells (adV A) 43, .cells (Kc.vec 70 f) 86].foldl World.alloc w) = (((w.alloc (.cells #[.map (some m1)] 92)).alloc (.cells (adV A) 43)).alloc (.cells (Kc.vec 70 f) 86)) := rfl
  have hB0 := allocs_below [Obj.cells #[.map (some m1)] 92, .cells (adV A) 43, .cells (Kc.vec 70 f) 86] w
  have r0 := allocs_heap [Obj.cells #[.map (some m1)] 92, .cells (adV A) 43, .cells (Kc.vec 70 f) 86] w 0 _ rfl
  have r1 := allocs_heap [Obj.cells #[.map (some m1)] 92, .cells (adV A) 43, .cells (Kc.vec 70 f) 86] w 1 _ rfl
  rw [B0] at hB0 r0 r1
  have B5 : ([Obj.cells #[.map (some m1)] 92, .cells (adV A) 43, .cells (Kc.vec 70 f) 86, .cells zAc 86, .cells #[.bool false] 4].foldl World.alloc w) = (((((w.alloc (.cells #[.map (some m1)] 92)).alloc (.cells (adV A) 43)).alloc (.cells (Kc.vec 70 f) 86)).alloc (.cells zAc 86)).alloc (.cells #[.bool false] 4)) := rfl
  have hB5 := allocs_below [Obj.cells #[.map (some m1)] 92, .cells (adV A) 43, .cells (Kc.vec 70 f) 86, .cells zAc 86, .cells #[.bool false] 4] w
  have q0 := allocs_heap [Obj.cells #[.map (some m1)] 92, .cells (adV A) 43, .cells (Kc.vec 70 f) 86, .cells zAc 86, .cells #[.bool false] 4] w 0 _ rfl
  have q1 := allocs_heap [Obj.cells #[.map (some m1)] 92, .cells (adV A) 43, .cells (Kc.vec 70 f) 86, .cells zAc 86, .cells #[.bool false] 4] w 1 _ rfl
  have q2 := allocs_heap [Obj.cells #[.map (some m1)] 92, .cells (adV A) 43, .cells (Kc.vec 70 f) 86, .cells zAc 86, .cells #[.bool false] 4] w 2 _ rfl
  have q3 := allocs_heap [Obj.cells #[.map (some m1)] 92, .cells (adV A) 43, .cells (Kc.vec 70 f) 86, .cells zAc 86, .cells #[.bool false] 4] w 3 _ rfl
  have q4 := allocs_heap [Obj.cells #[.map (some m1)] 92, .cells (adV A) 43, .cells (Kc.vec 70 f) 86, .cells zAc 86, .cells #[.bool false] 4] w 4 _ rfl
  rw [B5] at hB5 q0 q1 q2 q3 q4
  have HF : Hid _ := And.intro (hs.below hB5) (And.intro q0 (And.intro q1 (And.intro q2 (And.intro q3 (And.intro q4 hB5)))))
  have H0 : Hid _ := r1
  have HL : Hid (findA 20 (fun j => Kc.I8 (A j)) l 0 = none ∧ m1 < w.heap.size ∧ b < w.heap.size) := ⟨hl, heap_lt hs.mp, heap_lt hs.st⟩
  have hk := look92 (hs.below hB0).mp A
  have hLA : lookA 20 (fun j => Kc.I8 (A j)) l (.agg zAc) = .tuple #[.agg zAc, .bool false] := by unfold lookA; rw [hl]
  rw [hLA] at hk
  have k0 : (((w.alloc (.cells #[.map (some m1)] 92)).alloc (.cells (adV A) 43)).alloc (.cells (Kc.vec 70 f) 86)).cell? ⟨w.heap.size, 0, none⟩ = some (.map (some m1)) := (cell_of_block r0 0).trans rfl
  clear hs hl B0 hB0 r0 r1 hLA B5 hB5 q0 q1 q2 q3 q4
  go_enter Tryz.func92, Tryz.ntmps92
  go_wp2_with (first | (refine wpList_load_row rfl 43 _ rfl (w.heap.size + 1) rfl 43 _ (0, 0) _ H0.out Tryz.underlying43 rfl (info43v _) ?_)
                        | (rw [z86]
                           generalize (((((w.alloc (.cells #[.map (some m1)] 92)).alloc (.cells (adV A) 43)).alloc (.cells (Kc.vec 70 f) 86)).alloc (.cells zAc 86)).alloc (.cells #[.bool false] 4)) = W5 at HF ⊢
                           refine wpList_store_row rfl 86 _ _ rfl (w.heap.size + 3) zAc rfl rfl 86 _ HF.out.2.2.2.2.1 (info86v _) (by simp) one_zac ?_
                           have o6 : Kc.Only (w.heap.size + 3) W5 (W5.setRow (w.heap.size + 3) zAc) := (Kc.Only.refl _ _).setRow _
                           have b6 := o6.below HF.out.2.2.2.2.2.2 (by omega)
                           have H6 : Hid (StA (W5.setRow (w.heap.size + 3) zAc) b D m1 m2 t rf lg jr (.slice none 0 0) l ck ∧ (W5.setRow (w.heap.size + 3) zAc).heap[w.heap.size]? = some (.cells #[.map (some m1)] 92) ∧ (W5.setRow (w.heap.size + 3) zAc).heap[w.heap.size + 1]? = some (.cells (adV A) 43) ∧ (W5.setRow (w.heap.size + 3) zAc).heap[w.heap.size + 2]? = some (.cells (Kc.vec 70 f) 86) ∧ Below w.heap.size w (W5.setRow (w.heap.size + 3) zAc)) := ⟨⟨(o6.block b (by have := HL.out.2.2; omega)).trans HF.out.1.st, (o6.block m1 (by have := HL.out.2.1; omega)).trans HF.out.1.mp⟩, (o6.block _ (by omega)).trans HF.out.2.1, (o6.block _ (by omega)).trans HF.out.2.2.1, (o6.block _ (by omega)).trans HF.out.2.2.2.1, b6⟩
                           have k6 : (W5.setRow (w.heap.size + 3) zAc).cell? ⟨w.heap.size + 1 + 1 + 1 + 1, 0, none⟩ = some (.bool false) := (cell_of_block ((o6.block (w.heap.size + 4) (by omega)).trans HF.out.2.2.2.2.2.1) 0).trans rfl
                           have f6 : (W5.setRow (w.heap.size + 3) zAc).frozen? ⟨w.heap.size + 1 + 1 + 1 + 1, 0, none⟩ = false := by simp [World.frozen?, ((o6.block (w.heap.size + 4) (by omega)).trans HF.out.2.2.2.2.2.1)]
                           clear o6 b6
                           generalize W5.setRow (w.heap.size + 3) zAc = W6 at H6 k6 f6 ⊢))
  have o7 : Kc.Only (w.heap.size + 1 + 1 + 1 + 1) W6 (W6.setCell ⟨w.heap.size + 1 + 1 + 1 + 1, 0, none⟩ (.bool false)) := (Kc.Only.refl _ _).setCell _ _
  have b7 := o7.below H6.out.2.2.2.2 (by omega)
  have H7 : Hid (StA (W6.setCell ⟨w.heap.size + 1 + 1 + 1 + 1, 0, none⟩ (.bool false)) b D m1 m2 t rf lg jr (.slice none 0 0) l ck ∧ (W6.setCell ⟨w.heap.size + 1 + 1 + 1 + 1, 0, none⟩ (.bool false)).heap[w.heap.size]? = some (.cells #[.map (some m1)] 92) ∧ (W6.setCell ⟨w.heap.size + 1 + 1 + 1 + 1, 0, none⟩ (.bool false)).heap[w.heap.size + 1]? = some (.cells (adV A) 43) ∧ (W6.setCell ⟨w.heap.size + 1 + 1 + 1 + 1, 0, none⟩ (.bool false)).heap[w.heap.size + 2]? = some (.cells (Kc.vec 70 f) 86) ∧ Below w.heap.size w (W6.setCell ⟨w.heap.size + 1 + 1 + 1 + 1, 0, none⟩ (.bool false))) := ⟨⟨(o7.block b (by have := HL.out.2.2; omega)).trans H6.out.1.st, (o7.block m1 (by have := HL.out.2.1; omega)).trans H6.out.1.mp⟩, (o7.block _ (by omega)).trans H6.out.2.1, (o7.block _ (by omega)).trans H6.out.2.2.1, (o7.block _ (by omega)).trans H6.out.2.2.2.1, b7⟩
  clear o7 b7 H6 k6 f6 HF H0 hk k0
  generalize W6.setCell ⟨w.heap.size + 1 + 1 + 1 + 1, 0, none⟩ (.bool false) = W7 at H7 ⊢
  refine Calls.mono (note_quiet H7.out.1.st) ?_
  rintro e w8 ⟨rfl, h8⟩
  obtain rfl := h8.symm
  clear h8
  have k7 : W7.cell? ⟨w.heap.size, 0, none⟩ = some (.map (some m1)) := (cell_of_block H7.out.2.1 0).trans rfl
  have hu : (Instr.mapUpdate 92 (.map (some m1)) (.agg (adV A)) (.agg (Kc.vec 70 f))).run Tryz.prog W7 = .ok () (W7.putObj m1 (.map (entA 20 .u8 (l ++ [(fun j => Kc.I8 (A j), .agg (Kc.vec 70 f), ck)])).toArray (ck + 1))) :=
    run_update_new 92 43 86 5 20 .u8 Tryz.underlying92 Tryz.underlying43 Tryz.sizeOf5 Tryz.isAgg5 Tryz.underlying5 l H7.out.1.mp (fun j => Kc.I8 (A j)) (.agg (Kc.vec 70 f)) HL.out.1
  go_wp2_with (first | (refine wpList_load_row rfl 43 _ rfl (w.heap.size + 1) rfl 43 _ (0, 0) _ H7.out.2.2.1 Tryz.underlying43 rfl (info43v _) ?_) | (refine wpList_load_row rfl 86 _ rfl (w.heap.size + 2) rfl 86 _ (0, 0) _ H7.out.2.2.2.1 Tryz.underlying86 rfl (info86v _) ?_))
  go_end0
  refine ⟨rfl, World.putObj_heap_same (Nat.lt_of_lt_of_le HL.out.2.1 H7.out.2.2.2.2.size), ⟨H7.out.2.2.2.2.os, H7.out.2.2.2.2.tape, H7.out.2.2.2.2.output, ?_, fun k hk hn => ?_⟩⟩
  · rw [World.putObj_size]; exact H7.out.2.2.2.2.size
  · rw [World.putObj_heap_other hn]; exact H7.out.2.2.2.2.block k hk
end Go.Proofs.YtboeokmaepchgaaGreatDoor
/- state: SetBalance's closure. -/
namespace Go.Proofs.YtboeokmaepchgaaGreatDoor
open Go.RowKit Go.Maps Go.Joins Go.Shelf
set_option linter.unusedSimpArgs false
set_option linter.unusedVariables false
set_option maxRecDepth 100000 in
set_option maxHeartbeats 4000000 in
theorem fill_five {w : World} {g h : Nat} {D E : Nat → BitVec 8} (hg : w.heap[g]? = some (.cells (newAc D E) 86)) (hh : w.heap[h]? = some (.cells #[.int .u64 5, .int .u64 0, .int .u64 0, .int .u64 0] 46)) : Calls Tryz.prog 52 #[.pointer (some ⟨g, 0, none⟩), .pointer (some ⟨h, 0, none⟩)] w fun e w' => e = .returned (.tuple #[]) ∧ Kc.Only g w w' ∧ w'.heap[g]? = some (.cells (fvA D E) 86) := by
  have k0 : w.cell? ⟨h, 0, none⟩ = some (.int .u64 5) := (cell_of_block hh 0).trans rfl
  have k1 : w.cell? ⟨h, 1, none⟩ = some (.int .u64 0) := (cell_of_block hh 1).trans rfl
  have k2 : w.cell? ⟨h, 2, none⟩ = some (.int .u64 0) := (cell_of_block hh 2).trans rfl
  have k3 : w.cell? ⟨h, 3, none⟩ = some (.int .u64 0) := (cell_of_block hh 3).trans rfl
  have HG : Hid _ := hg
  have c1 : w.cell? ⟨g, 1, none⟩ = some (.int .u64 0) := ac_cell hg 1 (by decide)
  have c2 : w.cell? ⟨g, 2, none⟩ = some (.int .u64 0) := ac_cell hg 2 (by decide)
  have c3 : w.cell? ⟨g, 3, none⟩ = some (.int .u64 0) := ac_cell hg 3 (by decide)
  have c4 : w.cell? ⟨g, 4, none⟩ = some (.int .u64 0) := ac_cell hg 4 (by decide)
  have f1 : ∀ i, w.frozen? ⟨g, i, none⟩ = false := (Kc.heap_row hg).frozen
  clear hg hh
  go_enter Tryz.func52, Tryz.ntmps52
  go_wp2
  go_end0
  refine ⟨rfl, ((((Kc.Only.refl _ _).setCell _ _).setCell _ _).setCell _ _).setCell _ _, ?_⟩
  have r := ((((Kc.heap_row HG.out).set 1 (.int .u64 5)).set 2 (.int .u64 0)).set 3 (.int .u64 0)).set 4 (.int .u64 0)
  refine Kc.row_heap (r.congr (fun j hj => ?_))
  by_cases h4 : j = 4
  · subst h4; rfl
  by_cases h3 : j = 3
  · subst h3; rfl
  by_cases h2 : j = 2
  · subst h2; rfl
  by_cases h1 : j = 1
  · subst h1; rfl
  simp only [h4, h3, h2, h1, if_false, fvF, acF]
theorem StA.only {w w' : World} {b g : Nat} {D : Nat → BitVec 8} {m1 m2 t : Nat} {rf : Int} {lg jr sn : Value} {l : List ((Nat → Int) × Value × Nat)} {ck : Nat} (h : StA w b D m1 m2 t rf lg jr sn l ck) (o : Kc.Only g w w') (hb : b ≠ g) (hm : m1 ≠ g) : StA w' b D m1 m2 t rf lg jr sn l ck :=
  ⟨(o.block b hb).trans h.st, (o.block m1 hm).trans h.mp⟩
set_option maxRecDepth 100000 in
set_option maxHeartbeats 16000000 in
theorem sset_five {w : World} {b h : Nat} {D : Nat → BitVec 8} {m1 m2 t : Nat} {rf : Int} {lg jr : Value} {l : List ((Nat → Int) × Value × Nat)} {ck : Nat} (A E : Nat → BitVec 8) (hs : StA w b D m1 m2 t rf lg jr (.slice none 0 0) l ck) (hT : Two D E) (hp : Kc.PathIn w) (hl : findA 20 (fun j => Kc.I8 (A j)) l 0 = none) (hh : w.heap[h]? = some (.cells #[.int .u64 5, .int .u64 0, .int .u64 0, .int .u64 0] 46)) :
    Calls Tryz.prog 51 #[.pointer (some ⟨b, 0, none⟩), .agg (adV A), .func (.func 52) #[] #[.pointer (some ⟨h, 0, none⟩)]] w fun e w' => e = .returned (.tuple #[]) ∧ w'.heap[m1]? = some (.map (entA 20 .u8 (l ++ [(fun j => Kc.I8 (A j), .agg (fvA D E), ck)])).toArray (ck + 1)) ∧ GrowO m1 w w' := by
  have hB0 : Below w.heap.size w (w.alloc (.cells (adV A) 43)) := by go_grown
  have HC : Hid _ := account_absent (w := w.alloc (.cells (adV A) 43)) A (hs.below hB0) E hT (hp.below hB0 (Kc.pathIn_pos hp)) hl
  have HB : Hid (Below w.heap.size w (w.alloc (.cells (adV A) 43)) ∧ (w.alloc (.cells (adV A) 43)).heap[w.heap.size]? = some (.cells (adV A) 43)) := ⟨hB0, heap_alloc_new _ _⟩
  have HS : Hid _ := And.intro hs (And.intro hl (And.intro hh (And.intro (heap_lt hs.st) (And.intro (heap_lt hs.mp) (heap_lt hh)))))
  clear hs hl hh hp hB0 hT
  go_enter Tryz.func51, Tryz.ntmps51
  go_wp2_with (first | (refine wpList_load_row rfl 43 _ rfl w.heap.size rfl 43 _ (0, 0) _ HB.out.2 Tryz.underlying43 rfl (info43v _) ?_))
  generalize w.alloc (.cells (adV A) 43) = W0 at HB HC ⊢
  refine Calls.mono HC.out ?_
  rintro e W1 ⟨rfl, hb1⟩
  have hb01 : Below w.heap.size w W1 := HB.out.1.trans (hb1.mono HB.out.1.size)
  have hA : Below W1.heap.size W1 (W1.alloc (.cells (newAc D E) 86)) := by go_grown
  have hb02 := hb01.trans (hA.mono hb01.size)
  have H1 : Hid (Below w.heap.size w (W1.alloc (.cells (newAc D E) 86)) ∧ StA (W1.alloc (.cells (newAc D E) 86)) b D m1 m2 t rf lg jr (.slice none 0 0) l ck ∧ (W1.alloc (.cells (newAc D E) 86)).heap[w.heap.size]? = some (.cells (adV A) 43) ∧ (W1.alloc (.cells (newAc D E) 86)).heap[W1.heap.size]? = some (.cells (newAc D E) 86) ∧ (W1.alloc (.cells (newAc D E) 86)).heap[h]? = some (.cells #[.int .u64 5, .int .u64 0, .int .u64 0, .int .u64 0] 46) ∧ w.heap.size < W1.heap.size) := ⟨hb02, HS.out.1.below hb02, (hA.block _ (Nat.lt_of_lt_of_le (heap_lt HB.out.2) hb1.size)).trans ((hb1.block _ (heap_lt HB.out.2)).trans HB.out.2), heap_alloc_new _ _, (hb02.block _ HS.out.2.2.2.2.2).trans HS.out.2.2.1, Nat.lt_of_lt_of_le (heap_lt HB.out.2) hb1.size⟩
  clear hb1 hb01 hA hb02 HB HC
  go_wp2_with (first | (refine wpList_store_row rfl 86 _ _ rfl W1.heap.size (newAc D E) rfl rfl 86 _ (heap_alloc_new _ _) (info86v _) (by rw [z86]; simp) (one_ac _ _ _ _ _ _ _ _ _ _) ?_; rw [World.setRow_alloc_new]; obtain ⟨g, hg⟩ : ∃ g, g = W1.heap.size := ⟨_, rfl⟩; rw [← hg] at H1 ⊢; generalize W1.alloc (.cells (newAc D E) 86) = W2 at H1 ⊢) | (go_at_call 57; refine Calls.mono (broken_ok H1.out.2.1.st) ?_; rintro e w8 ⟨rfl, h8⟩; obtain rfl := h8.symm; clear h8))
  rw [← hg]
  refine Calls.mono (fill_five H1.out.2.2.2.1 H1.out.2.2.2.2.1) ?_
  rintro e W3 ⟨rfl, o3, hg3⟩
  have hgw : w.heap.size < g := H1.out.2.2.2.2.2
  have hbm : b ≠ m1 := fun he => by have a1 := HS.out.1.st; have a2 := HS.out.1.mp; rw [he, a2] at a1; cases a1
  have H3 : Hid (Below w.heap.size w W3 ∧ StA W3 b D m1 m2 t rf lg jr (.slice none 0 0) l ck ∧ W3.heap[w.heap.size]? = some (.cells (adV A) 43) ∧ W3.heap[g]? = some (.cells (fvA D E) 86) ∧ w.heap.size < g ∧ b ≠ m1) := ⟨o3.below H1.out.1 (by omega), H1.out.2.1.only o3 (by have := HS.out.2.2.2.1; omega) (by have := HS.out.2.2.2.2.1; omega), (o3.block _ (by omega)).trans H1.out.2.2.1, hg3, hgw, hbm⟩
  clear o3 hg3 H1 hgw hbm
  go_wp2_with fail
  rw [← hg]
  clear hg
  refine wp_noP ?_
  refine wp_region_held_drew (S := (fun w' : World => w'.heap[b]? = some (.cells (Kc.vec 43 (stF D 0 m1 m2 t rf lg jr (.slice none 0 0))) 101) ∧ w'.heap[w.heap.size]? = some (.cells (adV A) 43) ∧ w'.heap[g]? = some (.cells (fvA D E) 86))) (by kernel_rfl) ⟨H3.out.2.1.st, H3.out.2.2.1, H3.out.2.2.2.1⟩ (fun hHeld => ?_)
  have G0 : Hid (Below w.heap.size w W3.drew ∧ StA W3.drew b D m1 m2 t rf lg jr (.slice none 0 0) l ck ∧ w.heap.size < g ∧ b ≠ m1) := ⟨⟨H3.out.1.os, H3.out.1.tape, H3.out.1.output, H3.out.1.size, H3.out.1.block⟩, ⟨H3.out.2.1.st, H3.out.2.1.mp⟩, H3.out.2.2.2.2⟩
  clear H3
  generalize W3.drew = U0 at G0 hHeld ⊢
  refine wpAnyH_take (i := 0) (v := .pointer (some ⟨b, 0, none⟩)) rfl (by kernel_rfl) (by kernel_rfl) (by kernel_rfl) (fun _ _ _ h => h) (Or.inl ⟨by rfl, fun w9 hSw => ?_⟩) hHeld ?_
  · go_simp
  simp only [List.getElem_toArray, List.getElem_cons_succ, List.getElem_cons_zero, Act.put, List.setIfInBounds_toArray, List.set_cons_zero, List.set_cons_succ]
  refine wpAnyH_take (i := 1) (v := .pointer (some ⟨b, 0, none⟩)) rfl (by kernel_rfl) (by kernel_rfl) (by kernel_rfl) (fun _ _ _ h => h) (Or.inl ⟨by rfl, fun w9 hSw => ?_⟩) hHeld ?_
  · go_simp
  simp only [List.getElem_toArray, List.getElem_cons_succ, List.getElem_cons_zero, Act.put, List.setIfInBounds_toArray, List.set_cons_zero, List.set_cons_succ]
  refine wpAnyH_take (i := 2) (v := .pointer (some ⟨b, 0, none⟩)) rfl (by kernel_rfl) (by kernel_rfl) (by kernel_rfl) (fun _ _ _ h => h) (Or.inl ⟨by rfl, fun w9 hSw => ?_⟩) hHeld ?_
  · go_simp
  simp only [List.getElem_toArray, List.getElem_cons_succ, List.getElem_cons_zero, Act.put, List.setIfInBounds_toArray, List.set_cons_zero, List.set_cons_succ]
  refine wpAnyH_take (i := 3) (v := .pointer (some ⟨b, 34, none⟩)) rfl (by kernel_rfl) (by kernel_rfl) (by kernel_rfl) (fun _ _ _ h => h) (Or.inl ⟨by rfl, fun w9 hSw => ?_⟩) hHeld ?_
  · go_simp
  simp only [List.getElem_toArray, List.getElem_cons_succ, List.getElem_cons_zero, Act.put, List.setIfInBounds_toArray, List.set_cons_zero, List.set_cons_succ]
  refine wpAnyH_take (i := 4) (v := .map (some m1)) rfl (by kernel_rfl) (by kernel_rfl) (by kernel_rfl) (fun _ _ _ h => h) (Or.inl ⟨by rfl, fun w9 hSw => ?_⟩) hHeld ?_
  · have k0 : w9.cell? ⟨b, 34, none⟩ = some (.map (some m1)) := st_cell hSw.1 34 (by decide)
    go_simp
  simp only [List.getElem_toArray, List.getElem_cons_succ, List.getElem_cons_zero, Act.put, List.setIfInBounds_toArray, List.set_cons_zero, List.set_cons_succ]
  refine wpAnyH_take (i := 5) (v := .agg (adV A)) rfl (by kernel_rfl) (by kernel_rfl) (by kernel_rfl) (fun _ _ _ h => h) (Or.inl ⟨by rfl, fun w9 hSw => ?_⟩) hHeld ?_
  · exact Kc.run_load_exec 43 _ rfl _ rfl (load43 hSw.2.1)
  simp only [List.getElem_toArray, List.getElem_cons_succ, List.getElem_cons_zero, Act.put, List.setIfInBounds_toArray, List.set_cons_zero, List.set_cons_succ]
  refine wpAnyH_take (i := 6) (v := .agg (fvA D E)) rfl (by kernel_rfl) (by kernel_rfl) (by kernel_rfl) (fun _ _ _ h => h) (Or.inl ⟨by rfl, fun w9 hSw => ?_⟩) hHeld ?_
  · exact Kc.run_load_exec 86 _ rfl _ rfl (load86 hSw.2.2)
  simp only [List.getElem_toArray, List.getElem_cons_succ, List.getElem_cons_zero, Act.put, List.setIfInBounds_toArray, List.set_cons_zero, List.set_cons_succ]
  refine wpAnyH_ready (rs := [7]) (by kernel_rfl) (by simp) ?_
  refine AllReadyH.cons rfl (fun K hK => ?_) AllReadyH.nil
  have hC := put_new (w := U0) A (fvF D E) G0.out.2.1 HS.out.2.1
  go_simp
  refine Calls.mono hC ?_
  clear hC
  rintro e U1 ⟨rfl, hm, hgr⟩
  have hx1 : (fun w' : World => w'.heap[b]? = some (.cells (Kc.vec 43 (stF D 0 m1 m2 t rf lg jr (.slice none 0 0))) 101) ∧ w'.heap[w.heap.size]? = some (.cells (adV A) 43) ∧ w'.heap[g]? = some (.cells (fvA D E) 86)) U1 := ⟨(hgr.block _ (heap_lt hHeld.1) G0.out.2.2.2).trans hHeld.1, (hgr.block _ (heap_lt hHeld.2.1) (by have := HS.out.2.2.2.2.1; omega)).trans hHeld.2.1, (hgr.block _ (heap_lt hHeld.2.2) (by have := HS.out.2.2.2.2.1; have := G0.out.2.2.1; omega)).trans hHeld.2.2⟩
  have HE : Hid (U1.heap[m1]? = some (.map (entA 20 .u8 (l ++ [(fun j => Kc.I8 (A j), .agg (fvA D E), ck)])).toArray (ck + 1)) ∧ GrowO m1 w U1) := ⟨hm, ⟨hgr.os.trans G0.out.1.os, hgr.tape.trans G0.out.1.tape, hgr.output.trans G0.out.1.output, Nat.le_trans G0.out.1.size hgr.size, fun k hk hn => (hgr.block k (Nat.lt_of_lt_of_le hk G0.out.1.size) hn).trans (G0.out.1.block k hk)⟩⟩
  clear hm hgr G0
  refine hK.out _ _ hx1 (fun hHeld => ?_)
  clear hK K
  try simp only [List.getElem_toArray, List.getElem_cons_succ, List.getElem_cons_zero, Act.put, List.setIfInBounds_toArray, List.set_cons_zero, List.set_cons_succ]
  refine wpAnyH_done (by kernel_rfl) ?_ _
  simp only [noP]
  clear hHeld hx1
  go_wp2
  go_end0
  exact ⟨rfl, HE.out.1, HE.out.2⟩
end Go.Proofs.YtboeokmaepchgaaGreatDoor
/- state: SetBalance of five, of an account that is not there. -/
namespace Go.Proofs.YtboeokmaepchgaaGreatDoor
open Go.RowKit Go.Maps Go.Joins Go.Shelf
set_option linter.unusedSimpArgs false
set_option linter.unusedVariables false
theorem GrowO.after {m : Nat} {u v w : World} (h : Below u.heap.size u v) (k : GrowO m v w) : GrowO m u w :=
  ⟨k.os.trans h.os, k.tape.trans h.tape, k.output.trans h.output, Nat.le_trans h.size k.size, fun i hi hn => (k.block i (Nat.lt_of_lt_of_le hi h.size) hn).trans (h.block i hi)⟩
set_option maxRecDepth 100000 in
set_option maxHeartbeats 4000000 in
theorem setBalance_five {w : World} {b : Nat} {D : Nat → BitVec 8} {m1 m2 t : Nat} {rf : Int} {lg jr : Value} {l : List ((Nat → Int) × Value × Nat)} {ck : Nat} (A E : Nat → BitVec 8) (hs : StA w b D m1 m2 t rf lg jr (.slice none 0 0) l ck) (hT : Two D E) (hp : Kc.PathIn w) (hl : findA 20 (fun j => Kc.I8 (A j)) l 0 = none) :
    Calls Tryz.prog 16 #[.pointer (some ⟨b, 0, none⟩), .agg (adV A), .agg #[.int .u64 5, .int .u64 0, .int .u64 0, .int .u64 0]] w fun e w' => e = .returned (.tuple #[]) ∧ w'.heap[m1]? = some (.map (entA 20 .u8 (l ++ [(fun j => Kc.I8 (A j), .agg (fvA D E), ck)])).toArray (ck + 1)) ∧ GrowO m1 w w' := by
  have hmf : ∀ (fn : Fn) (first cap : Array Value) (w : World), (Instr.makeFunc fn first cap).run Tryz.prog w = .ok (.func fn first cap) w := fun _ _ _ _ => rfl
  have hB0 : Below w.heap.size w ((w.alloc (.cells (adV A) 43)).alloc (.cells #[.int .u64 5, .int .u64 0, .int .u64 0, .int .u64 0] 46)) := by go_grown
  have HC : Hid _ := sset_five (w := (w.alloc (.cells (adV A) 43)).alloc (.cells #[.int .u64 5, .int .u64 0, .int .u64 0, .int .u64 0] 46)) (h := w.heap.size + 1) A E (hs.below hB0) hT (hp.below hB0 (Kc.pathIn_pos hp)) hl (allocs_heap [.cells (adV A) 43, .cells #[.int .u64 5, .int .u64 0, .int .u64 0, .int .u64 0] 46] w 1 _ rfl)
  have HB : Hid (Below w.heap.size w ((w.alloc (.cells (adV A) 43)).alloc (.cells #[.int .u64 5, .int .u64 0, .int .u64 0, .int .u64 0] 46)) ∧ ((w.alloc (.cells (adV A) 43)).alloc (.cells #[.int .u64 5, .int .u64 0, .int .u64 0, .int .u64 0] 46)).heap[w.heap.size]? = some (.cells (adV A) 43)) := ⟨hB0, allocs_heap [.cells (adV A) 43, .cells #[.int .u64 5, .int .u64 0, .int .u64 0, .int .u64 0] 46] w 0 _ rfl⟩
  clear hp hT hB0 hs hl
  go_enter Tryz.func16, Tryz.ntmps16
  go_wp2_with (first | (refine wpList_load_row rfl 43 _ rfl w.heap.size rfl 43 _ (0, 0) _ HB.out.2 Tryz.underlying43 rfl (info43v _) ?_))
  generalize (w.alloc (.cells (adV A) 43)).alloc (.cells #[.int .u64 5, .int .u64 0, .int .u64 0, .int .u64 0] 46) = W0 at HB HC ⊢
  refine Calls.mono HC.out ?_
  rintro e W1 ⟨rfl, hm, hg⟩
  go_wp2
  go_end0
  exact ⟨rfl, hm, GrowO.after HB.out.1 hg⟩
end Go.Proofs.YtboeokmaepchgaaGreatDoor
