/- keccak.Undo. -/
import Derived.Test.YtmhfgchckebnpaaDoorKA
namespace Go.Proofs.YtmhfgchckebnpaaDoor
open Go.RowKit Go.Shelf
set_option linter.unusedSimpArgs false
set_option linter.unusedVariables false
attribute [local go_sem] Oper.semAt_some

theorem info39v (f : Nat → Value) : (Tryd.prog.info? 39).map (·.size) = some (vec 24 f).size := by rw [size_vec]; kernel_rfl
theorem zero24 : (#[.int .u64 0, .int .u64 0, .int .u64 0, .int .u64 0, .int .u64 0, .int .u64 0, .int .u64 0, .int .u64 0, .int .u64 0, .int .u64 0, .int .u64 0, .int .u64 0, .int .u64 0, .int .u64 0, .int .u64 0, .int .u64 0, .int .u64 0, .int .u64 0, .int .u64 0, .int .u64 0, .int .u64 0, .int .u64 0, .int .u64 0, .int .u64 0] : Array Value) = vec 24 (lan fun _ => 0) := by kernel_rfl
/-- slices.Backward -/
theorem backward_any (a : Option Addr) (len cap : Nat) (w : World) :
    Calls Tryd.prog 24 #[.slice a len cap] w fun e w' => e = .returned (.func (.func 34) #[] #[.pointer (some ⟨w.heap.size, 0, none⟩)]) ∧ w' = w.alloc (.cells #[.slice a len cap] 51) := by
  go_enter Tryd.func24, Tryd.ntmps24
  go_wp2
  go_ret
  exact ⟨rfl, rfl⟩
theorem backward_stops (F : Fence) (n : Nat) (h34 : F.fn 34) (hro : F.round = none) (hn : 1 ≤ n) (t x : Nat) (w : World) (hx : w.cell? ⟨x, 0, none⟩ = some (.slice (some ⟨t, 0, none⟩) 24 24)) (ht : w.rowIs t 39 24 (lan RC)) :
    SeqStopsK F n Tryd.prog 34 #[.pointer (some ⟨x, 0, none⟩)] encB (KpB t x) (fun ys => ys = down 24) (fun _ => True) 24 w := fun l J Jx W hW _ _ hY h0 => by
  have hx' : W.cell? ⟨x, 0, none⟩ = some (.slice (some ⟨t, 0, none⟩) 24 24) := (World.cell?_of_block (w := w) (hW.block _ (block_lt_of_cell hx))).trans hx
  exact back1_in F n h34 hro hn l t x J Jx hY W hx' (ht.of_block (hW.block _ ht.lt)) h0
theorem Only.others {b : Nat} {w w' : World} (h : Only b w w') {t : TypeId} {n : Nat} {f : Nat → Value} (hr : w.rowIs b t n f) : KeepsOthers w w' :=
  ⟨Nat.le_of_eq h.size.symm, fun k o hk ho => by
    by_cases e : k = b
    · subst e
      rw [row_heap hr] at hk
      cases hk
      cases ho
    · exact (h.block k e).trans hk⟩
theorem below_others {w w' : World} (h : Below w.heap.size w w') : KeepsOthers w w' :=
  ⟨h.size, fun k o hk _ => (h.block k (Array.getElem?_eq_some_iff.1 hk).1).trans hk⟩
def undoTo (S : Nat → BitVec 64) (pre : List Nat) : Nat → BitVec 64 := pre.foldl (fun S i => unround (RC i) S) S
set_option maxRecDepth 100000 in
theorem undo24 (S : Nat → BitVec 64) : undoTo S (down 24) = undo RCs S := rfl
theorem undoTo_snoc (S : Nat → BitVec 64) (pre : List Nat) (i : Nat) : undoTo S (pre ++ [i]) = unround (RC i) (undoTo S pre) := by simp [undoTo]
/-- PmIn abides what is done to blocks that are no cells. -/
theorem pm_own (w : World) (B m : Nat) (hB : w.heap.size ≤ B) (S : Nat → BitVec 64) : OwnFrom B (fun pre W => PmIn (undoTo S pre) w W ∧ m ≤ W.heap.size) := by
  rintro pre W W' row ⟨h, hm⟩ hg hr
  have hk : ∀ k t n f, W.rowIs k t n f → W'.rowIs k t n f := fun k t n f hrow => hrow.of_block (hg.block k hrow.lt (fun e => by
    obtain ⟨_, o, ho, hc⟩ := hr k e.symm
    rw [row_heap hrow] at ho
    cases ho
    cases hc))
  exact ⟨⟨hk _ _ _ _ h.1, hk _ _ _ _ h.2.1, h.2.2.grown hg h.2.2.size (fun k e => Nat.le_trans hB (hr k e).1)⟩, Nat.le_trans hm hg.size⟩
/-- What a round has done so far. -/
def UnR (R : Nat → BitVec 64) (w : World) (t : Nat) (W W' : World) : Prop := PmIn R w W' ∧ KeepsOthers W W' ∧ KpB t (t + 1) W W' ∧ t + 2 ≤ W'.heap.size
theorem UnR.only {R R' : Nat → BitVec 64} {w W W1 W2 : World} {t : Nat} (ht : w.heap.size + 2 < t) (h : UnR R w t W W1) (hr : W2.rowIs (w.heap.size + 2) 38 25 (lan R')) (o : Only (w.heap.size + 2) W1 W2) : UnR R' w t W W2 :=
  ⟨h.1.only hr o, h.2.1.trans (o.others h.1.1), h.2.2.1.tr ⟨o.block _ (by omega), o.block _ (by omega)⟩, by rw [o.size]; exact h.2.2.2⟩
theorem UnR.more {R : Nat → BitVec 64} {w W W1 W2 : World} {t : Nat} (h : UnR R w t W W1) (o : Below W1.heap.size W1 W2) : UnR R w t W W2 :=
  ⟨h.1.more o, h.2.1.trans (below_others o), h.2.2.1.tr ⟨o.block _ (by have := h.2.2.2; omega), o.block _ (by have := h.2.2.2; omega)⟩, Nat.le_trans h.2.2.2 o.size⟩
theorem heap_n (w : World) (o : Obj) (n : Nat) (h : w.heap.size = n) : (w.alloc o).heap[n]? = some o := by subst h; exact heap_alloc_new w o
theorem setRow_n (w : World) (c c' : Array Value) (t : TypeId) (n : Nat) (h : w.heap.size = n) : (w.alloc (.cells c t)).setRow n c' = w.alloc (.cells c' t) := by subst h; exact World.setRow_alloc_new w c c' t
set_option maxRecDepth 100000 in
set_option maxHeartbeats 2000000 in
/-- keccak.Undo -/
theorem undo_any (S : Nat → BitVec 64) (w : World) (hp : PathIn w) :
    Calls Tryd.prog 10 #[.agg (vec 25 (lan S))] w fun e w' => e = .returned (.agg (vec 25 (lan (undo RCs S)))) ∧ Below w.heap.size w w' := by
  refine (callsIn_wide (n := 4)).1 ?_
  have H0 : Hid (PathIn w ∧ 0 < w.heap.size) := ⟨hp, pathIn_pos hp⟩
  have HS : Hid _ := pm_start S w
  clear hp
  refine callsIn_of_wp_marks Tryd.func10 rfl trivial ?_ rfl
  simp only [Tryd.ntmps10, List.size_toArray, List.length_cons, List.length_nil, Nat.reduceAdd, Nat.reduceSub, Array.replicate_succ, Array.replicate_zero, List.push_toArray, List.append_toArray, List.nil_append, List.cons_append]
  gi_wp2_with (first | (refine wpListIn_load_row rfl 23 _ rfl w.heap.size rfl 23 _ (0, 0) _ (pm_heap0 S w _) Tryd.underlying23 rfl (info23v _) ?_) | (refine wpListIn_store_row rfl 38 _ _ rfl (w.heap.size + 1 + 1) (vec 25 (lan S)) rfl rfl 38 _ (heap3 _ _ _ _) (info38v _) rfl (one_lan _ _) ?_; rw [setRow3, zero25]) | (refine ⟨trivial, ?_⟩; gi_at_call 16; refine (callsIn_wide.2 (constants_any _)).mono ?_; rintro e w1 ⟨rfl, hw1⟩; have HW : Hid (PmIn S w w1) := (by rw [hw1]; exact PmIn.more HS.out ((Below.refl _ _).alloc (Nat.le_refl _) _)); clear hw1 HS) | (refine wpListIn_store_row rfl 39 _ _ rfl w1.heap.size (vec 24 (lan RC)) rfl rfl 39 _ (heap_alloc_new _ _) (info39v _) rfl (one_lan _ _) ?_; rw [World.setRow_alloc_new]) | (refine ⟨trivial, ?_⟩; gi_at_call 24; refine (callsIn_wide.2 (backward_any _ _ _ _)).mono ?_; rintro e w2 ⟨rfl, rfl⟩))
  have ht : w.heap.size + 2 < w1.heap.size := HW.out.1.lt
  have hx : ((w1.alloc (.cells (vec 24 (lan RC)) 39)).alloc (.cells #[.slice (some ⟨w1.heap.size, 0, none⟩) 24 24] 51)).cell? ⟨w1.heap.size + 1, 0, none⟩ = some (.slice (some ⟨w1.heap.size, 0, none⟩) 24 24) := by
    rw [World.cell?_alloc_at _ _ _ _ (by simp)]; rfl
  have hr : ((w1.alloc (.cells (vec 24 (lan RC)) 39)).alloc (.cells #[.slice (some ⟨w1.heap.size, 0, none⟩) 24 24] 51)).rowIs w1.heap.size 39 24 (lan RC) := (heap_row (heap_alloc_new _ _)).alloc _
  have hI0 : PmIn (undoTo S []) w ((w1.alloc (.cells (vec 24 (lan RC)) 39)).alloc (.cells #[.slice (some ⟨w1.heap.size, 0, none⟩) 24 24] 51)) ∧ w1.heap.size + 2 ≤ ((w1.alloc (.cells (vec 24 (lan RC)) 39)).alloc (.cells #[.slice (some ⟨w1.heap.size, 0, none⟩) 24 24] 51)).heap.size := by
    refine ⟨(HW.out.more ((Below.refl _ _).alloc (Nat.le_refl _) _)).more ((Below.refl _ _).alloc (Nat.le_refl _) _), by simp⟩
  have hB2 : w.heap.size ≤ ((w1.alloc (.cells (vec 24 (lan RC)) 39)).alloc (.cells #[.slice (some ⟨w1.heap.size, 0, none⟩) 24 24] 51)).heap.size := by simp; omega
  obtain ⟨W0, hW0⟩ : ∃ W0, (w1.alloc (.cells (vec 24 (lan RC)) 39)).alloc (.cells #[.slice (some ⟨w1.heap.size, 0, none⟩) 24 24] 51) = W0 := ⟨_, rfl⟩
  have hsz : W0.heap.size = w1.heap.size + 2 := by rw [← hW0]; simp
  rw [hW0] at hx hr hI0 hB2 ⊢
  clear hW0 HW
  have hne : w.heap.size + 2 ≠ 0 := by omega
  refine wpIn_rangeFunc_ownF rfl (by decide) (gf := 34) (lb := #[.pointer (some ⟨w1.heap.size + 1, 0, none⟩)]) rfl trivial (enters_of Tryd.func34 (by kernel_rfl) rfl)
    (backward_stops Fence.wide 3 trivial rfl (by decide) w1.heap.size (w1.heap.size + 1) W0 hx hr) KpB.tr (KpB.put (by omega) (by omega)) (Below.refl _ _) (fun _ => rfl)
    (fun pre W => PmIn (undoTo S pre) w W ∧ w1.heap.size + 2 ≤ W.heap.size) (fun _ _ _ => False) (pm_own w _ _ hB2 S) (fun _ _ _ _ _ hs _ _ => hs) hI0
    (fun i => { tmps := #[.agg (vec 25 (lan S)), .pointer (some ⟨w.heap.size, 0, none⟩), .pointer (some ⟨w.heap.size + 1, 0, none⟩), .pointer (some ⟨w.heap.size + 1 + 1, 0, none⟩), .pointer (some ⟨w1.heap.size, 0, none⟩), undef, .int .u64 (I (RC i)), .agg (vec 25 (lan S)), .agg (vec 24 (lan RC)), .slice (some ⟨w1.heap.size, 0, none⟩) 24 24, .func (.func 34) #[] #[.pointer (some ⟨w1.heap.size + 1, 0, none⟩)], .int .i64 (i : Int), .int .u64 (I (RC i)), undef, undef, undef, undef, undef, undef, undef, undef, undef, undef, undef, undef, undef, undef, undef, undef, undef, undef, undef, undef, undef], defers := [] }) ?assign ?body ?done ?stop
  case assign =>
    intro l x W K hK
    gi_wp2
    exact hK
  case body =>
    rintro l pre i W ⟨hin, hm⟩ _
    clear hx hr hI0
    have H1 : Hid (UnR (undoTo S pre) w w1.heap.size W W) := ⟨hin, KeepsOthers.refl _, ⟨rfl, rfl⟩, hm⟩
    have c0 : W.cell? ⟨w.heap.size + 1 + 1, 0, none⟩ = some (.int .u64 (I (undoTo S pre 0))) := hin.1.cell (by decide)
    have f0 : W.frozen? ⟨w.heap.size + 1 + 1, 0, none⟩ = false := hin.1.frozen 0
    have hs0 := iota_row (c := RC i) hin.1 rfl
    rw [← bx] at hs0
    have H2 : Hid (UnR (iota (RC i) (undoTo S pre)) w w1.heap.size W (W.setCell ⟨w.heap.size + 1 + 1, 0, none⟩ (.int .u64 (bits .xor .u64 (I (undoTo S pre 0)) (I (RC i)))))) := H1.out.only ht hs0 ((Only.refl _ _).setCell _ _)
    clear hin hm H1 hs0
    gi_wp2_with fail
    refine ⟨trivial, ?_⟩
    refine (CallsIn.inRound l (callsIn_wide.2 (unmix_any _ _ _ H2.out.1.1))).mono ?_
    rintro e W1 ⟨rfl, r1, o1⟩
    have H3 : Hid (UnR (mix (mix (mix (iota (RC i) (undoTo S pre))))) w w1.heap.size W W1) := H2.out.only ht r1 o1
    clear H2 r1 o1 c0 f0
    gi_wp2_with fail
    refine ⟨trivial, ?_⟩
    refine (CallsIn.inRound l (callsIn_wide.2 (walkBack_any _ _ _ H3.out.1.1 (H0.out.1.below H3.out.1.2.2 H0.out.2) hne))).mono ?_
    rintro e W2 ⟨rfl, r1, o1⟩
    have H4 : Hid (UnR (back (mix (mix (mix (iota (RC i) (undoTo S pre)))))) w w1.heap.size W W2) := H3.out.only ht r1 o1
    clear H3 r1 o1
    obtain ⟨R, hR⟩ : ∃ R, R = back (mix (mix (mix (iota (RC i) (undoTo S pre))))) := ⟨_, rfl⟩
    rw [← hR] at H4
    have HR : Hid _ := hR
    clear hR
    gi_wp2_with fail
    refine ⟨trivial, ?_⟩
    refine (CallsIn.inRound l (callsIn_wide.2 (sums_any R _ _ H4.out.1.1))).mono ?_
    rintro e W3 ⟨rfl, hs⟩
    obtain rfl := hs.symm
    gi_wp2_with fail
    refine ⟨trivial, ?_⟩
    refine (CallsIn.inRound l (callsIn_wide.2 (sumsBefore_any (sums R) _))).mono ?_
    rintro e W4 ⟨rfl, o1⟩
    have H5 : Hid (UnR R w w1.heap.size W W4) := H4.out.more o1
    clear H4 o1
    gi_wp2_with fail
    refine ⟨trivial, ?_⟩
    refine (CallsIn.inRound l (callsIn_wide.2 (spread_any R (before (sums R)) _ _ H5.out.1.1))).mono ?_
    rintro e W5 ⟨rfl, r1, o1⟩
    have H6 : Hid (UnR (untheta R) w w1.heap.size W W5) := H5.out.only ht r1 o1
    clear H5 r1 o1
    gi_wp2
    refine ⟨H6.out.2.1, H6.out.2.2.1, ?_, H6.out.2.2.2⟩
    rw [undoTo_snoc]
    have := H6.out.1
    rw [HR.out] at this
    exact this
  case done =>
    rintro D ys W hD rfl ⟨hin, hm⟩ hK
    rw [undo24] at hin
    clear hx hr hI0
    gi_wp2_with (first | (refine wpListIn_load_row rfl 38 _ rfl (w.heap.size + 2) rfl 38 _ (0, 0) _ (row_heap hin.1) Tryd.underlying38 rfl (info38v _) ?_) | (refine wpListIn_store_row rfl 23 _ _ rfl (w.heap.size + 1) _ rfl rfl 23 _ (row_heap hin.2.1) (info23v _) (by simp) (one_lan _ _) ?_))
    have hK' : (W.setRow (w.heap.size + 1) (vec 25 (lan (undo RCs S)))).heap[D]? = some (.deferred (some [])) := (setRow_other _ _ _ _ (by omega)).trans hK
    refine ⟨by simp, .inl ⟨_, _, rfl, run_takeDeferred hK', ?_⟩⟩
    have hz : ((W.setRow (w.heap.size + 1) (vec 25 (lan (undo RCs S)))).putObj D (.deferred none)).heap[w.heap.size + 1]? = some (.cells (vec 25 (lan (undo RCs S))) 23 (0, 0)) := (World.putObj_heap_other (by omega)).trans (setRow_heap _ _ _ _ _ _ (row_heap hin.2.1))
    have hbl : Below w.heap.size w (W.setRow (w.heap.size + 1) (vec 25 (lan (undo RCs S)))) := ((Only.refl _ _).setRow _).below hin.2.2 (by omega)
    refine ⟨_, results_cell_row rfl _ _ _ _ _ _ _ rfl hz Tryd.underlying23 rfl (info23v _), rfl, ?_⟩
    exact hbl.trans (belowK_b (w := w) (Nat.le_refl _) _ D _ _ (by omega) hK' rfl rfl)
  case stop =>
    rintro D c pre W _ _ h _
    exact h.elim
end Go.Proofs.YtmhfgchckebnpaaDoor
