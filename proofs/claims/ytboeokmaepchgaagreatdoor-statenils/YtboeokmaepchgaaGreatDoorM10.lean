/- TB, TC, TD, TE, laid into one text. -/
import Derived.Test.YtboeokmaepchgaaGreatDoorTA
import Derived.Test.YtboeokmaepchgaaGreatDoorM9
/- trie: the reference's nibbles; joined. -/
namespace Go.Proofs.YtboeokmaepchgaaGreatDoor
open Go.RowKit Go.Maps Go.Joins Go.Shelf
set_option linter.unusedSimpArgs false
set_option linter.unusedVariables false
/-- append of bytes, as a step of a region. -/
theorem step_append_b {w : World} {ops : Array Oper} {op : Oper} {a : Act} {K : Act → World → Prop} {Q : Exit → Act → World → Prop} {E : Prop} (hgd : op.guard = none) (s x : Operand)
    (ho : op.op = .call { callee := .builtin .append, args := #[s, x], argTypes := #[22, 22] }) (base : Nat) (v u : Value) (bs news : List Int) (hs : a.eval s = v) (hown : w.ownsRow base 5 1 v bs.length (vB bs)) (hx : a.eval x = u) (hn : BytesV w u news)
    (hbytes : bs.length + news.length ≤ 140737488355328) (hbase : base ≤ w.heap.size)
    (h : ∀ v' w', w'.ownsRow base 5 1 v' (bs ++ news).length (vB (bs ++ news)) → w.grownBy w' v.ownBlock → (v'.ownBlock = v.ownBlock ∨ v'.ownBlock = some w.heap.size) → K (a.put op.dst v') w') :
    if Region.wanted op (yielded ops a.tmps) = true then Oper.wp Tryz.prog op a w K Q else E := by
  have hw : Region.wanted op (yielded ops a.tmps) = true := by simp [Region.wanted, hgd]
  rw [if_pos hw]
  obtain ⟨i0, hi, hz0, hz1, hz2⟩ := info5c
  rcases hn with ⟨rfl, rfl⟩ | ⟨ad, cap, rfl, hc⟩
  · have hr := run_append_owned_none (P := Tryz.prog) (w := w) base 22 op.type 5 i0 1 Tryz.underlying22 hi v bs.length (vB bs) hown
    unfold Oper.wp execOp
    simp only [ho, resolve, invoke, builtin, Sem.run_bind, Sem.run_pure, Result.andThen_ok, List.map_toArray, List.map_cons, List.map_nil, hs, hx, hr]
    exact h v w (by simpa using hown) (World.grownBy.refl _ _) (Or.inl rfl)
  · obtain ⟨v', w', hr, h2, h3, _, h5⟩ := run_append_own_at (P := Tryz.prog) w base 22 op.type 5 i0 (.int .u8 0) 1 1 Tryz.underlying22 hi hz0 hz1 hz2 rfl (by decide) v bs.length (vB bs) hown ad news.length cap (vB news) (by rw [vB_length, Nat.mul_one]) hc (vB_one news) (by unfold maxLen; omega) (by omega) hbase
    unfold Oper.wp execOp
    simp only [ho, resolve, invoke, builtin, Sem.run_bind, Sem.run_pure, Result.andThen_ok, List.map_toArray, List.map_cons, List.map_nil, hs, hx, hr]
    exact h v' w' (by rw [List.length_append, vB_append]; exact h2) h3 h5
/-- A row of one's own that grows. -/
structure RbJ (w W : World) (v : Value) (out : List Int) : Prop where
  row : W.ownsRow w.heap.size 5 1 v out.length (vB out)
  bl : Below w.heap.size w W
theorem RbJ.below {w W W2 : World} {v : Value} {out : List Int} (h : RbJ w W v out) (hb : Below W.heap.size W W2) : RbJ w W2 v out :=
  ⟨ownsRow_heap h.row (fun b hb' => hb.block b (h.row.lt b hb').2), h.bl.trans (hb.mono h.bl.size)⟩
theorem RbJ.add {w W W2 : World} {v v' : Value} {out o2 : List Int} (h : RbJ w W v out) (ho : W2.ownsRow w.heap.size 5 1 v' o2.length (vB o2)) (hg : W.grownBy W2 v.ownBlock) : RbJ w W2 v' o2 :=
  ⟨ho, h.bl.grown hg h.bl.size (fun k hk => (h.row.lt k hk).1)⟩
theorem RbJ.drew {w W : World} {v : Value} {out : List Int} (h : RbJ w W v out) : RbJ w W.drew v out := ⟨h.row, ⟨h.bl.os, h.bl.tape, h.bl.output, h.bl.size, h.bl.block⟩⟩
theorem one_b (V : World) (x : Int) : BytesV (V.alloc (.cells #[.int .u8 x] 5)) (.slice (some ⟨V.heap.size, 0, none⟩) 1 1) [x] :=
  Or.inr ⟨⟨V.heap.size, 0, none⟩, 1, rfl, fun j u hu => by rw [Addr.add_lit, Nat.zero_add, cell_of_block (heap_alloc_new V _)]; simpa [vB] using hu⟩
set_option maxRecDepth 100000 in
set_option maxHeartbeats 8000000 in
/-- The reference's nibbles -/
theorem nibbles_any {w : World} {a : Option Addr} {cap : Nat} {bs : List Int} (h : BytesV w (.slice a bs.length cap) bs) (hb : Byt bs) (hl : bs.length ≤ 16777216) :
    Calls Tryz.prog 41 #[.slice a bs.length cap] w fun e w' => ∃ v, e = .returned v ∧ w'.ownsRow w.heap.size 5 1 v (hvB bs).length (vB (hvB bs)) ∧ Below w.heap.size w w' := by
  have HS : Hid (BytesV w (.slice a bs.length cap) bs) := h
  have HB : Hid (Byt bs) := hb
  obtain ⟨N, hN⟩ : ∃ N, N = bs.length := ⟨_, rfl⟩
  rw [← hN] at hl HS ⊢
  have HN : Hid (N = bs.length) := hN
  clear h hb hN
  go_enter Tryz.func41, Tryz.ntmps41
  go_wp2_with fail
  go_loopw [3, 4] (fun u i wr => ∃ (j : Nat) (v : Value) (out : List Int), j ≤ N ∧ u = v ∧ i = .int .i64 j ∧ Hid (out = hvB (bs.take j) ∧ out.length = 2 * j ∧ RbJ w wr v out)) (fun _ i _ => N - (intOf i).toNat)
  case atStart => exact ⟨0, _, [], Nat.zero_le _, rfl, rfl, rfl, rfl, World.ownsRow_nil _ _ _ _, Below.refl _ _⟩
  case round =>
    obtain ⟨j, v, out, hj, rfl, rfl, HI⟩ := hrel
    obtain ⟨a', c, rfl⟩ := row_form HI.out.2.2.row
    obtain ⟨no, hno⟩ : ∃ no, no = out.length := ⟨_, rfl⟩
    rw [← hno] at HI ⊢
    have HNO : Hid (no = out.length) := hno
    clear hno
    by_cases hjk : j < N
    · have hki : (j : Int) < N := by omega
      obtain ⟨y, hy⟩ : ∃ y, bs[j]? = some y := ⟨_, List.getElem?_eq_getElem (by have := HN.out; omega)⟩
      have hyb := HB.out y (List.mem_of_getElem? hy)
      obtain ⟨g, o, rfl, kc⟩ := HS.out.at hy
      have HP : Hid (∀ W : World, Below w.heap.size w W → (fun w' : World => w'.cell? ⟨g, o + j, none⟩ = some (.int .u8 y)) W) := fun W hb => (hb.cell (p := ⟨g, o + j, none⟩) (cell_lt kc)).trans kc
      have h15 := and15 y hyb.1 hyb.2
      have HT : Hid (hvB (bs.take (j + 1)) = hvB (bs.take j) ++ [y / 16, y % 16]) := hvB_take hy
      clear hy kc
      go_wp2_with fail
      refine wp_noP ?_
      refine wp_region_held_drew (S := (fun w' : World => w'.cell? ⟨g, o + j, none⟩ = some (.int .u8 y))) (by kernel_rfl) (HP.out wr.drew HI.out.2.2.drew.bl) (fun hHeld => ?_)
      have G0 : Hid (RbJ w wr.drew (.slice a' no c) out) := HI.out.2.2.drew
      generalize wr.drew = U at G0 hHeld ⊢
      refine wpAnyH_take (i := 0) (v := .slice a' no c) rfl (by kernel_rfl) (by kernel_rfl) (by kernel_rfl) (fun _ _ _ h => h) (Or.inl ⟨by rfl, fun w9 hSw => ?_⟩) hHeld ?_
      · go_simp
      simp only [List.getElem_toArray, List.getElem_cons_succ, List.getElem_cons_zero, Act.put, List.setIfInBounds_toArray, List.set_cons_zero, List.set_cons_succ]
      refine wpAnyH_take (i := 1) (v := .slice (some ⟨g, o, none⟩) N cap) rfl (by kernel_rfl) (by kernel_rfl) (by kernel_rfl) (fun _ _ _ h => h) (Or.inl ⟨by rfl, fun w9 hSw => ?_⟩) hHeld ?_
      · go_simp
      simp only [List.getElem_toArray, List.getElem_cons_succ, List.getElem_cons_zero, Act.put, List.setIfInBounds_toArray, List.set_cons_zero, List.set_cons_succ]
      refine wpAnyH_take (i := 2) (v := .int .i64 j) rfl (by kernel_rfl) (by kernel_rfl) (by kernel_rfl) (fun _ _ _ h => h) (Or.inl ⟨by rfl, fun w9 hSw => ?_⟩) hHeld ?_
      · go_simp
      simp only [List.getElem_toArray, List.getElem_cons_succ, List.getElem_cons_zero, Act.put, List.setIfInBounds_toArray, List.set_cons_zero, List.set_cons_succ]
      refine wpAnyH_take (i := 3) (v := .pointer (some ⟨g, o + j, none⟩)) rfl (by kernel_rfl) (by kernel_rfl) (by kernel_rfl) (fun _ _ _ h => h) (Or.inl ⟨by rfl, fun w9 hSw => ?_⟩) hHeld ?_
      · go_simp
      simp only [List.getElem_toArray, List.getElem_cons_succ, List.getElem_cons_zero, Act.put, List.setIfInBounds_toArray, List.set_cons_zero, List.set_cons_succ]
      refine wpAnyH_take (i := 4) (v := .int .u8 y) rfl (by kernel_rfl) (by kernel_rfl) (by kernel_rfl) (fun _ _ _ h => h) (Or.inl ⟨by rfl, fun w9 hSw => ?_⟩) hHeld ?_
      · go_simp
      simp only [List.getElem_toArray, List.getElem_cons_succ, List.getElem_cons_zero, Act.put, List.setIfInBounds_toArray, List.set_cons_zero, List.set_cons_succ]
      refine wpAnyH_take (i := 5) (v := .int .u8 (y / 16)) rfl (by kernel_rfl) (by kernel_rfl) (by kernel_rfl) (fun _ _ _ h => h) (Or.inl ⟨by rfl, fun w9 hSw => ?_⟩) hHeld ?_
      · go_simp
      simp only [List.getElem_toArray, List.getElem_cons_succ, List.getElem_cons_zero, Act.put, List.setIfInBounds_toArray, List.set_cons_zero, List.set_cons_succ]
      refine wpAnyH_take (i := 6) (v := .slice (some ⟨g, o, none⟩) N cap) rfl (by kernel_rfl) (by kernel_rfl) (by kernel_rfl) (fun _ _ _ h => h) (Or.inl ⟨by rfl, fun w9 hSw => ?_⟩) hHeld ?_
      · go_simp
      simp only [List.getElem_toArray, List.getElem_cons_succ, List.getElem_cons_zero, Act.put, List.setIfInBounds_toArray, List.set_cons_zero, List.set_cons_succ]
      refine wpAnyH_take (i := 7) (v := .int .i64 j) rfl (by kernel_rfl) (by kernel_rfl) (by kernel_rfl) (fun _ _ _ h => h) (Or.inl ⟨by rfl, fun w9 hSw => ?_⟩) hHeld ?_
      · go_simp
      simp only [List.getElem_toArray, List.getElem_cons_succ, List.getElem_cons_zero, Act.put, List.setIfInBounds_toArray, List.set_cons_zero, List.set_cons_succ]
      refine wpAnyH_take (i := 8) (v := .pointer (some ⟨g, o + j, none⟩)) rfl (by kernel_rfl) (by kernel_rfl) (by kernel_rfl) (fun _ _ _ h => h) (Or.inl ⟨by rfl, fun w9 hSw => ?_⟩) hHeld ?_
      · go_simp
      simp only [List.getElem_toArray, List.getElem_cons_succ, List.getElem_cons_zero, Act.put, List.setIfInBounds_toArray, List.set_cons_zero, List.set_cons_succ]
      refine wpAnyH_take (i := 9) (v := .int .u8 y) rfl (by kernel_rfl) (by kernel_rfl) (by kernel_rfl) (fun _ _ _ h => h) (Or.inl ⟨by rfl, fun w9 hSw => ?_⟩) hHeld ?_
      · go_simp
      simp only [List.getElem_toArray, List.getElem_cons_succ, List.getElem_cons_zero, Act.put, List.setIfInBounds_toArray, List.set_cons_zero, List.set_cons_succ]
      refine wpAnyH_take (i := 10) (v := .int .u8 (y % 16)) rfl (by kernel_rfl) (by kernel_rfl) (by kernel_rfl) (fun _ _ _ h => h) (Or.inl ⟨by rfl, fun w9 hSw => ?_⟩) hHeld ?_
      · go_simp
      simp only [List.getElem_toArray, List.getElem_cons_succ, List.getElem_cons_zero, Act.put, List.setIfInBounds_toArray, List.set_cons_zero, List.set_cons_succ]
      refine wpAnyH_ready (rs := [11]) (by kernel_rfl) (by simp) ?_
      refine AllReadyH.cons rfl (fun K hK => ?_) AllReadyH.nil
      go_simp
      have hA : Below U.heap.size U (U.alloc (.cells #[.int .u8 (y / 16), .int .u8 (y % 16)] 5)) := by go_grown
      have G1 : Hid (RbJ w (U.alloc (.cells #[.int .u8 (y / 16), .int .u8 (y % 16)] 5)) (.slice a' no c) out ∧ BytesV (U.alloc (.cells #[.int .u8 (y / 16), .int .u8 (y % 16)] 5)) (.slice (some ⟨U.heap.size, 0, none⟩) 2 2) [y / 16, y % 16]) := ⟨G0.out.below hA, two_b U _ _⟩
      clear hA G0
      generalize U.alloc (.cells #[.int .u8 (y / 16), .int .u8 (y % 16)] 5) = U1 at G1 ⊢
      refine hK.out _ _ (HP.out _ G1.out.1.bl) (fun hHeld => ?_)
      clear hK K
      try simp only [List.getElem_toArray, List.getElem_cons_succ, List.getElem_cons_zero, Act.put, List.setIfInBounds_toArray, List.set_cons_zero, List.set_cons_succ]
      refine wpAnyH_ready (rs := [12]) (by kernel_rfl) (by simp) ?_
      refine AllReadyH.cons rfl (fun K hK => ?_) AllReadyH.nil
      refine step_append_b (by rfl) _ _ (by rfl) w.heap.size (.slice a' no c) (.slice (some ⟨U.heap.size, 0, none⟩) 2 2) out [y / 16, y % 16] (by rfl) (by have := G1.out.1.row; rw [HNO.out] at this ⊢; exact this) (by rfl) G1.out.2 (by have := HI.out.2.1; have := HNO.out; simp; omega) G1.out.1.bl.size ?_
      intro v1 B1 ho hg ha
      obtain ⟨a1, d1, rfl⟩ := row_form ho
      have G2 : Hid (RbJ w B1 (.slice a1 (out ++ [y / 16, y % 16]).length d1) (out ++ [y / 16, y % 16])) := G1.out.1.add ho hg
      obtain ⟨q1, hq1⟩ : ∃ q1, q1 = (out ++ [y / 16, y % 16]).length := ⟨_, rfl⟩
      rw [← hq1] at G2 ⊢
      clear ho hg ha hq1 G1
      refine hK.out _ _ (HP.out _ G2.out.bl) (fun hHeld => ?_)
      clear hK K
      try simp only [List.getElem_toArray, List.getElem_cons_succ, List.getElem_cons_zero, Act.put, List.setIfInBounds_toArray, List.set_cons_zero, List.set_cons_succ]
      refine wpAnyH_take (i := 13) (v := .slice a1 q1 d1) rfl (by kernel_rfl) (by kernel_rfl) (by kernel_rfl) (fun _ _ _ h => h) (Or.inl ⟨by rfl, fun w9 hSw => ?_⟩) hHeld ?_
      · go_simp
      simp only [List.getElem_toArray, List.getElem_cons_succ, List.getElem_cons_zero, Act.put, List.setIfInBounds_toArray, List.set_cons_zero, List.set_cons_succ]
      refine wpAnyH_done (by kernel_rfl) ?_ _
      simp only [noP]
      clear hHeld
      go_wp2
      go_roundw
      case rel => exact ⟨j + 1, _, _, by omega, rfl, by go_num, by rw [HI.out.1, HT.out], by have := HI.out.2.1; have := HNO.out; simp; omega, G2.out⟩
      case measure => simp [intOf]; omega
    · have hki : ¬ (j : Int) < N := by omega
      go_wp2
      go_ret
      have e : out = hvB bs := by rw [HI.out.1, List.take_of_length_le (by have := HN.out; omega)]
      have h1 := HI.out.2.2.row
      rw [e] at h1
      have hn : no = (hvB bs).length := by rw [HNO.out, e]
      rw [hn] at h1 ⊢
      exact ⟨_, rfl, h1, HI.out.2.2.bl⟩
end Go.Proofs.YtboeokmaepchgaaGreatDoor
/- trie: joined, compact, Compact. -/
namespace Go.Proofs.YtboeokmaepchgaaGreatDoor
open Go.RowKit Go.Maps Go.Joins Go.Shelf
set_option linter.unusedSimpArgs false
set_option linter.unusedVariables false
/-- Within the rounds of joined: a block of bytes, the first j done. -/
structure JnJ (w W : World) (j : Nat) (ns M : List Int) : Prop where
  len : M.length = ns.length / 2
  blk : W.heap[w.heap.size]? = some (.cells (vB M).toArray 5)
  at' : ∀ i, i < j → M[i]? = (jnB ns)[i]?
  bl : Below w.heap.size w W
theorem JnJ.put {w W : World} {j : Nat} {ns M : List Int} (h : JnJ w W j ns M) {a b : Int} (ha : ns[2 * j]? = some a) (hb : ns[2 * j + 1]? = some b) (hj : j < ns.length / 2) : JnJ w (W.setCell ⟨w.heap.size, j, none⟩ (.int .u8 (16 * a + b))) (j + 1) ns (M.set j (16 * a + b)) := by
  refine ⟨by rw [List.length_set]; exact h.len, ?_, ?_, h.bl.setCell (p := ⟨w.heap.size, j, none⟩) (Nat.le_refl _) _⟩
  · rw [heap_setCell_same _ _ _ _ 5 _ h.blk]
    congr 2
    simp [vB, List.map_set]
  · intro i hi
    by_cases e : i = j
    · subst e
      rw [List.getElem?_set_self (by have := h.len; omega), jnB_at ns i a b ha hb]
    · rw [List.getElem?_set_ne (Ne.symm e)]
      exact h.at' i (by omega)
theorem JnJ.drew {w W : World} {j : Nat} {ns M : List Int} (h : JnJ w W j ns M) : JnJ w W.drew j ns M := ⟨h.len, h.blk, h.at', ⟨h.bl.os, h.bl.tape, h.bl.output, h.bl.size, h.bl.block⟩⟩
theorem JnJ.done {w W : World} {ns M : List Int} (h : JnJ w W (ns.length / 2) ns M) : M = jnB ns := by
  apply List.ext_getElem?
  intro i
  by_cases hi : i < ns.length / 2
  · exact h.at' i hi
  · rw [List.getElem?_eq_none (by have := h.len; omega), List.getElem?_eq_none (by rw [jnB_length]; omega)]
set_option maxRecDepth 100000 in
set_option maxHeartbeats 8000000 in
/-- trie.joined -/
theorem joined_any {w : World} {a : Option Addr} {cap : Nat} {ns : List Int} (h : BytesV w (.slice a ns.length cap) ns) (hb : Nib ns) (hl : ns.length ≤ 16777216) :
    Calls Tryz.prog 78 #[.slice a ns.length cap] w fun e w' => ∃ v, e = .returned v ∧ w'.ownsRow w.heap.size 5 1 v (jnB ns).length (vB (jnB ns)) ∧ Below w.heap.size w w' := by
  have HS : Hid (BytesV w (.slice a ns.length cap) ns) := h
  have HB : Hid (Nib ns) := hb
  obtain ⟨N, hN⟩ : ∃ N, N = ns.length := ⟨_, rfl⟩
  rw [← hN] at hl HS ⊢
  have HN : Hid (N = ns.length) := hN
  clear h hb hN
  obtain ⟨m, hm⟩ : ∃ m, m = N / 2 := ⟨_, rfl⟩
  have hq : Int.tdiv (N : Int) 2 = (m : Int) := by rw [Int.tdiv_eq_ediv_of_nonneg (by omega), hm]; omega
  have hml : m ≤ 16777216 := by omega
  have HM : Hid (m = N / 2) := hm
  clear hm
  have hmk := mk5 m m (by omega) (by omega) w
  have hB0 : Below w.heap.size w (w.alloc (.cells (vB (List.replicate m 0)).toArray 5)) := by go_grown
  have H0 : Hid (JnJ w (w.alloc (.cells (vB (List.replicate m 0)).toArray 5)) 0 ns (List.replicate m 0)) := ⟨by rw [List.length_replicate, HM.out, HN.out], heap_alloc_new _ _, fun i hi => (by omega), hB0⟩
  clear hB0
  go_enter Tryz.func78, Tryz.ntmps78
  go_wp2_with fail
  generalize w.alloc (.cells (vB (List.replicate m 0)).toArray 5) = W0 at H0 ⊢
  go_loopw [11] (fun i wr => ∃ (j : Nat) (M : List Int), j ≤ m ∧ i = .int .i64 j ∧ JnJ w wr j ns M) (fun i _ => m - (intOf i).toNat)
  case atStart => exact ⟨0, _, Nat.zero_le _, rfl, H0.out⟩
  case round =>
    obtain ⟨j, M, hj, rfl, hJ⟩ := hrel
    by_cases hjl : j < m
    · have hki : (j : Int) < m := by omega
      have hkN : 2 * j + 1 < N := by have := HM.out; omega
      obtain ⟨x, hx⟩ : ∃ x, ns[2 * j]? = some x := ⟨_, List.getElem?_eq_getElem (by have := HN.out; omega)⟩
      obtain ⟨y, hy⟩ : ∃ y, ns[2 * j + 1]? = some y := ⟨_, List.getElem?_eq_getElem (by have := HN.out; omega)⟩
      have hxb := HB.out x (List.mem_of_getElem? hx)
      have hyb := HB.out y (List.mem_of_getElem? hy)
      obtain ⟨g, o, rfl, kx⟩ := HS.out.at hx
      obtain ⟨g', o', e', ky⟩ := HS.out.at hy
      cases e'
      have kx : wr.cell? ⟨g, o + 2 * j, none⟩ = some (.int .u8 x) := (hJ.bl.cell (p := ⟨g, o + 2 * j, none⟩) (cell_lt kx)).trans kx
      have ky : wr.cell? ⟨g, o + (2 * j + 1), none⟩ = some (.int .u8 y) := (hJ.bl.cell (p := ⟨g, o + (2 * j + 1), none⟩) (cell_lt ky)).trans ky
      have hw2 : IntKind.u8.wrap (x * 16) = x * 16 := by rw [IntKind.wrap_u8]; omega
      have hor := or16 x y hxb.1 hxb.2 hyb.1 hyb.2
      obtain ⟨z, hz⟩ : ∃ z, M[j]? = some z := ⟨_, List.getElem?_eq_getElem (by have := hJ.len; have := HM.out; have := HN.out; omega)⟩
      have kz : wr.cell? ⟨w.heap.size, j, none⟩ = some (.int .u8 z) := (cell_of_block hJ.blk j).trans (by simp [vB, hz])
      have kf := unfrozen_of_block hJ.blk j
      have HR : Hid (JnJ w (wr.setCell ⟨w.heap.size, j, none⟩ (.int .u8 (16 * x + y))) (j + 1) ns (M.set j (16 * x + y))) := hJ.put hx hy (by have := HM.out; have := HN.out; omega)
      clear hJ hx hy hz
      go_wp2
      go_region
      go_wp2
      go_roundw
      case rel => exact ⟨j + 1, _, by omega, by go_num, HR.out.drew⟩
      case measure => simp [intOf]; omega
    · have hki : ¬ (j : Int) < m := by omega
      obtain rfl : j = m := by omega
      have H9 : Hid _ := hJ
      clear hJ
      go_wp2
      go_ret
      have h9 := H9.out
      rw [HM.out, HN.out] at h9
      have e := h9.done
      have hlen : (jnB ns).length = j := by rw [jnB_length, HM.out, HN.out]
      rw [e] at h9
      refine ⟨_, rfl, ?_, h9.bl⟩
      rw [hlen]
      exact ⟨by rw [vB_length, hlen, Nat.mul_one], Or.inr ⟨w.heap.size, j, _, rfl, Nat.le_refl _, h9.blk, Nat.le_refl _, by unfold maxLen; omega, by simp [vB, hlen], by rw [List.take_of_length_le (by show (vB (jnB ns)).length ≤ _; rw [vB_length, hlen]; omega)]⟩⟩
end Go.Proofs.YtboeokmaepchgaaGreatDoor
/- trie: compact, Compact. -/
namespace Go.Proofs.YtboeokmaepchgaaGreatDoor
open Go.RowKit Go.Maps Go.Joins Go.Shelf
set_option linter.unusedSimpArgs false
set_option linter.unusedVariables false
theorem ownsRow_le {w : World} {base base' size n : Nat} {e : TypeId} {v : Value} {xs : List Value} (h : w.ownsRow base e size v n xs) (hb : base' ≤ base) : w.ownsRow base' e size v n xs := by
  obtain ⟨h1, h2⟩ := h
  refine ⟨h1, ?_⟩
  rcases h2 with h2 | ⟨g, cap, cur, rfl, hg, hr⟩
  · exact Or.inl h2
  · exact Or.inr ⟨g, cap, cur, rfl, Nat.le_trans hb hg, hr⟩
theorem own_newL (w : World) (base : Nat) (xs : List Int) (q : Nat × Nat) (hb : base ≤ w.heap.size) (hl : xs.length ≤ 1000) (hq : q = (0, 0)) : (w.alloc (.cells (vB xs).toArray 5 q)).ownsRow base 5 1 (.slice (some ⟨w.heap.size, 0, none⟩) xs.length xs.length) xs.length (vB xs) :=
  ⟨by rw [vB_length, Nat.mul_one], Or.inr ⟨w.heap.size, xs.length, _, rfl, hb, by subst hq; exact heap_alloc_new _ _, Nat.le_refl _, by unfold maxLen; omega, by simp [vB], by rw [List.take_of_length_le (by show (vB xs).length ≤ _; rw [vB_length]; omega)]⟩⟩
/-- The flags of a head. -/
def flB (b : Bool) : Int := if b then 2 else 0
/-- What Compact makes of nibbles. -/
def cpB (ns : List Int) (b : Bool) : List Int := jnB (if ns.length % 2 = 1 then (flB b + 1) :: ns else flB b :: 0 :: ns)
theorem cpB_odd {ns : List Int} {b : Bool} (h : ns.length % 2 = 1) : cpB ns b = jnB ([flB b + 1] ++ ns) := by unfold cpB; rw [if_pos h]; rfl
theorem cpB_even {ns : List Int} {b : Bool} (h : ¬ ns.length % 2 = 1) : cpB ns b = jnB ([flB b, 0] ++ ns) := by unfold cpB; rw [if_neg h]; rfl
theorem nib_cons {c : Int} {ns : List Int} (h0 : 0 ≤ c) (h1 : c < 16) (h : Nib ns) : Nib (c :: ns) := by
  intro x hx
  rcases List.mem_cons.1 hx with rfl | hx
  · exact ⟨h0, h1⟩
  · exact h x hx
set_option maxRecDepth 100000 in
set_option maxHeartbeats 8000000 in
/-- trie.compact -/
theorem compact_any {w : World} {a : Option Addr} {cap : Nat} {ns : List Int} (b : Bool) (h : BytesV w (.slice a ns.length cap) ns) (hb : Nib ns) (hl : ns.length ≤ 16000000) :
    Calls Tryz.prog 39 #[.slice a ns.length cap, .bool b] w fun e w' => ∃ v, e = .returned v ∧ w'.ownsRow w.heap.size 5 1 v (cpB ns b).length (vB (cpB ns b)) ∧ Below w.heap.size w w' := by
  have HS : Hid (BytesV w (.slice a ns.length cap) ns) := h
  have HL : Hid (∀ x, dBlock (.slice a ns.length cap) ns.length = some x → x < w.heap.size) := fun x hx => by
    unfold dBlock at hx
    split at hx
    · cases hx
    · obtain ⟨y, hy⟩ : ∃ y, ns[0]? = some y := ⟨_, List.getElem?_eq_getElem (by omega)⟩
      obtain ⟨g, o, e, kc⟩ := h.at hy
      subst e
      simp [Value.ownBlock] at hx
      subst hx
      exact cell_lt kc
  have HNB : Hid (Nib ([flB b + 1] ++ ns) ∧ Nib ([flB b, 0] ++ ns)) := ⟨nib_cons (by unfold flB; split <;> decide) (by unfold flB; split <;> decide) hb, nib_cons (by unfold flB; split <;> decide) (by unfold flB; split <;> decide) (nib_cons (by decide) (by decide) hb)⟩
  obtain ⟨N, hN⟩ : ∃ N, N = ns.length := ⟨_, rfl⟩
  rw [← hN] at hl HS HL ⊢
  have HN : Hid (N = ns.length) := hN
  clear h hb hN
  by_cases hp : N % 2 = 1
  · cases b with
    | true =>
      have hr : Int.tmod (N : Int) 2 = (1 : Int) := by rw [Int.tmod_eq_emod_of_nonneg (by omega)]; have := HN.out; omega
      have hob : bits .or .u8 2 1 = 3 := by decide
      have HO : Hid ((((w.alloc (.cells #[.int .u8 2, .int .u8 0] 5)).alloc (.cells #[.int .u8 3] 5))).ownsRow w.heap.size 5 1 (.slice (some ⟨w.heap.size + 1, 0, none⟩) 1 1) [3].length (vB [3])) := by
        have := own_newL (w.alloc (.cells #[.int .u8 2, .int .u8 0] 5)) w.heap.size [3] (0, 0) (by simp) (by decide) rfl
        rw [show ((w.alloc (.cells #[.int .u8 2, .int .u8 0] 5))).heap.size = w.heap.size + 1 from by simp] at this
        exact this
      have HBl : Hid (Below w.heap.size w ((w.alloc (.cells #[.int .u8 2, .int .u8 0] 5)).alloc (.cells #[.int .u8 3] 5))) := by show Below _ _ _; go_grown
      have HNw : Hid (BytesV ((w.alloc (.cells #[.int .u8 2, .int .u8 0] 5)).alloc (.cells #[.int .u8 3] 5)) (.slice a N cap) ns) := HS.out.kept (fun b hb => HBl.out.block b (HL.out b (by rw [← HN.out] at hb; exact hb)))
      go_enter Tryz.func39, Tryz.ntmps39
      go_wp2_with (first
        | (at_builtin
           refine wpList_append_b rfl _ _ rfl w.heap.size (.slice (some ⟨w.heap.size + 1, 0, none⟩) 1 1) (.slice a N cap) [(3 : Int)] ns rfl HO.out rfl HNw.out (by have := HN.out; simp; omega) (by simp; try omega) ?_
           intro v' w2 ho hg ha
           have hB2 : Below w.heap.size w w2 := HBl.out.grown hg (by simp; try omega) (fun j hj => by have h9 : w.heap.size + 1 = j := (by simpa [Value.ownBlock] using hj); omega)
           obtain ⟨a2, c2, rfl⟩ := row_form ho
           have hC := joined_any (BytesV.of_own ho) (by first | exact HNB.out.1 | exact HNB.out.2) (by have := HN.out; simp; omega)
           have H2 : Hid (Below w.heap.size w w2) := hB2
           clear ho hg ha hB2)
        | (refine Calls.mono hC ?_
           rintro e w3 ⟨v3, rfl, ho3, hb3⟩
           obtain ⟨a3, c3, rfl⟩ := row_form ho3))
      go_ret
      rw [cpB_odd (by have := HN.out; omega)]
      exact ⟨_, rfl, ownsRow_le ho3 H2.out.size, H2.out.trans (hb3.mono H2.out.size)⟩
    | false =>
      have hr : Int.tmod (N : Int) 2 = (1 : Int) := by rw [Int.tmod_eq_emod_of_nonneg (by omega)]; have := HN.out; omega
      have hob : bits .or .u8 0 1 = 1 := by decide
      have HO : Hid ((((w.alloc (.cells #[.int .u8 0, .int .u8 0] 5)).alloc (.cells #[.int .u8 1] 5))).ownsRow w.heap.size 5 1 (.slice (some ⟨w.heap.size + 1, 0, none⟩) 1 1) [1].length (vB [1])) := by
        have := own_newL (w.alloc (.cells #[.int .u8 0, .int .u8 0] 5)) w.heap.size [1] (0, 0) (by simp) (by decide) rfl
        rw [show ((w.alloc (.cells #[.int .u8 0, .int .u8 0] 5))).heap.size = w.heap.size + 1 from by simp] at this
        exact this
      have HBl : Hid (Below w.heap.size w ((w.alloc (.cells #[.int .u8 0, .int .u8 0] 5)).alloc (.cells #[.int .u8 1] 5))) := by show Below _ _ _; go_grown
      have HNw : Hid (BytesV ((w.alloc (.cells #[.int .u8 0, .int .u8 0] 5)).alloc (.cells #[.int .u8 1] 5)) (.slice a N cap) ns) := HS.out.kept (fun b hb => HBl.out.block b (HL.out b (by rw [← HN.out] at hb; exact hb)))
      go_enter Tryz.func39, Tryz.ntmps39
      go_wp2_with (first
        | (at_builtin
           refine wpList_append_b rfl _ _ rfl w.heap.size (.slice (some ⟨w.heap.size + 1, 0, none⟩) 1 1) (.slice a N cap) [(1 : Int)] ns rfl HO.out rfl HNw.out (by have := HN.out; simp; omega) (by simp; try omega) ?_
           intro v' w2 ho hg ha
           have hB2 : Below w.heap.size w w2 := HBl.out.grown hg (by simp; try omega) (fun j hj => by have h9 : w.heap.size + 1 = j := (by simpa [Value.ownBlock] using hj); omega)
           obtain ⟨a2, c2, rfl⟩ := row_form ho
           have hC := joined_any (BytesV.of_own ho) (by first | exact HNB.out.1 | exact HNB.out.2) (by have := HN.out; simp; omega)
           have H2 : Hid (Below w.heap.size w w2) := hB2
           clear ho hg ha hB2)
        | (refine Calls.mono hC ?_
           rintro e w3 ⟨v3, rfl, ho3, hb3⟩
           obtain ⟨a3, c3, rfl⟩ := row_form ho3))
      go_ret
      rw [cpB_odd (by have := HN.out; omega)]
      exact ⟨_, rfl, ownsRow_le ho3 H2.out.size, H2.out.trans (hb3.mono H2.out.size)⟩
  · cases b with
    | true =>
      have hr : Int.tmod (N : Int) 2 = (0 : Int) := by rw [Int.tmod_eq_emod_of_nonneg (by omega)]; have := HN.out; omega
      have HO : Hid (((w.alloc (.cells #[.int .u8 2, .int .u8 0] 5))).ownsRow w.heap.size 5 1 (.slice (some ⟨w.heap.size, 0, none⟩) 2 2) [(2 : Int), 0].length (vB [2, 0])) := own_newL w w.heap.size [2, 0] (0, 0) (Nat.le_refl _) (by decide) rfl
      have HBl : Hid (Below w.heap.size w (w.alloc (.cells #[.int .u8 2, .int .u8 0] 5))) := by show Below _ _ _; go_grown
      have HNw : Hid (BytesV (w.alloc (.cells #[.int .u8 2, .int .u8 0] 5)) (.slice a N cap) ns) := HS.out.kept (fun b hb => HBl.out.block b (HL.out b (by rw [← HN.out] at hb; exact hb)))
      go_enter Tryz.func39, Tryz.ntmps39
      go_wp2_with (first
        | (at_builtin
           refine wpList_append_b rfl _ _ rfl w.heap.size (.slice (some ⟨w.heap.size, 0, none⟩) 2 2) (.slice a N cap) [(2 : Int), 0] ns rfl HO.out rfl HNw.out (by have := HN.out; simp; omega) (by simp; try omega) ?_
           intro v' w2 ho hg ha
           have hB2 : Below w.heap.size w w2 := HBl.out.grown hg (by simp; try omega) (fun j hj => by have h9 : w.heap.size = j := (by simpa [Value.ownBlock] using hj); omega)
           obtain ⟨a2, c2, rfl⟩ := row_form ho
           have hC := joined_any (BytesV.of_own ho) (by first | exact HNB.out.1 | exact HNB.out.2) (by have := HN.out; simp; omega)
           have H2 : Hid (Below w.heap.size w w2) := hB2
           clear ho hg ha hB2)
        | (refine Calls.mono hC ?_
           rintro e w3 ⟨v3, rfl, ho3, hb3⟩
           obtain ⟨a3, c3, rfl⟩ := row_form ho3))
      go_ret
      rw [cpB_even (by have := HN.out; omega)]
      exact ⟨_, rfl, ownsRow_le ho3 H2.out.size, H2.out.trans (hb3.mono H2.out.size)⟩
    | false =>
      have hr : Int.tmod (N : Int) 2 = (0 : Int) := by rw [Int.tmod_eq_emod_of_nonneg (by omega)]; have := HN.out; omega
      have HO : Hid (((w.alloc (.cells #[.int .u8 0, .int .u8 0] 5))).ownsRow w.heap.size 5 1 (.slice (some ⟨w.heap.size, 0, none⟩) 2 2) [(0 : Int), 0].length (vB [0, 0])) := own_newL w w.heap.size [0, 0] (0, 0) (Nat.le_refl _) (by decide) rfl
      have HBl : Hid (Below w.heap.size w (w.alloc (.cells #[.int .u8 0, .int .u8 0] 5))) := by show Below _ _ _; go_grown
      have HNw : Hid (BytesV (w.alloc (.cells #[.int .u8 0, .int .u8 0] 5)) (.slice a N cap) ns) := HS.out.kept (fun b hb => HBl.out.block b (HL.out b (by rw [← HN.out] at hb; exact hb)))
      go_enter Tryz.func39, Tryz.ntmps39
      go_wp2_with (first
        | (at_builtin
           refine wpList_append_b rfl _ _ rfl w.heap.size (.slice (some ⟨w.heap.size, 0, none⟩) 2 2) (.slice a N cap) [(0 : Int), 0] ns rfl HO.out rfl HNw.out (by have := HN.out; simp; omega) (by simp; try omega) ?_
           intro v' w2 ho hg ha
           have hB2 : Below w.heap.size w w2 := HBl.out.grown hg (by simp; try omega) (fun j hj => by have h9 : w.heap.size = j := (by simpa [Value.ownBlock] using hj); omega)
           obtain ⟨a2, c2, rfl⟩ := row_form ho
           have hC := joined_any (BytesV.of_own ho) (by first | exact HNB.out.1 | exact HNB.out.2) (by have := HN.out; simp; omega)
           have H2 : Hid (Below w.heap.size w w2) := hB2
           clear ho hg ha hB2)
        | (refine Calls.mono hC ?_
           rintro e w3 ⟨v3, rfl, ho3, hb3⟩
           obtain ⟨a3, c3, rfl⟩ := row_form ho3))
      go_ret
      rw [cpB_even (by have := HN.out; omega)]
      exact ⟨_, rfl, ownsRow_le ho3 H2.out.size, H2.out.trans (hb3.mono H2.out.size)⟩
end Go.Proofs.YtboeokmaepchgaaGreatDoor
/- trie: Compact, the program's and the reference's. -/
namespace Go.Proofs.YtboeokmaepchgaaGreatDoor
open Go.RowKit Go.Maps Go.Joins Go.Shelf
set_option linter.unusedSimpArgs false
set_option linter.unusedVariables false
/-- Bytes that came in. -/
structure SrcN (w : World) (a : Option Addr) (cap : Nat) (bs : List Int) : Prop where
  is : BytesV w (.slice a bs.length cap) bs
  cp : bs.length ≤ cap
  by' : Byt bs
  le : bs.length ≤ 15000000
theorem SrcN.below {w w' : World} {a : Option Addr} {cap : Nat} {bs : List Int} (h : SrcN w a cap bs) (hb : Below w.heap.size w w') : SrcN w' a cap bs := ⟨h.is.below hb, h.cp, h.by', h.le⟩
def nibOk (ns : List Int) : Bool := ns.all fun c => decide (c < 16)
theorem nibOk_nib {ns : List Int} (h : nibOk ns = true) (hb : Byt ns) : Nib ns := fun c hc => ⟨(hb c hc).1, by have := List.all_eq_true.1 h c hc; simpa using this⟩
theorem nibOk_not {ns : List Int} {k : Nat} {c : Int} (h : ns[k]? = some c) (hc : 15 < c) : nibOk ns = false := by
  cases e : nibOk ns with
  | false => rfl
  | true =>
    have := List.all_eq_true.1 e c (List.mem_of_getElem? h)
    simp at this
    omega
theorem nibOk_of {ns : List Int} (h : ∀ c ∈ ns, c ≤ 15) : nibOk ns = true := List.all_eq_true.2 fun c hc => by have := h c hc; simp; omega
def cpE (ns : List Int) : Int := if nibOk ns then 0 else 1
def cpR (ns : List Int) (b : Bool) : List Int := if nibOk ns then cpB ns b else []
/-- What Compact tells. -/
def CpQ (w w' : World) (ns : List Int) (b : Bool) (e : Ending) : Prop := ∃ v, e = .returned (.tuple #[v, .int .i64 (cpE ns)]) ∧ w'.ownsRow w.heap.size 5 1 v (cpR ns b).length (vB (cpR ns b))
theorem cpq_no {w : World} {ns : List Int} {b : Bool} (h : nibOk ns = false) : CpQ w w ns b (.returned (.tuple #[.slice none 0 0, .int .i64 1])) := by
  unfold CpQ cpE cpR
  rw [h]
  exact ⟨_, rfl, World.ownsRow_nil _ _ _ _⟩
theorem cpq_yes {w w' : World} {ns : List Int} {b : Bool} {v : Value} (h : nibOk ns = true) (ho : w'.ownsRow w.heap.size 5 1 v (cpB ns b).length (vB (cpB ns b))) : CpQ w w' ns b (.returned (.tuple #[v, .int .i64 0])) := by
  unfold CpQ cpE cpR
  rw [h]
  exact ⟨_, rfl, ho⟩
theorem BytesV.drop' {w : World} {g o N cap l : Nat} {bs : List Int} (h : BytesV w (.slice (some ⟨g, o, none⟩) N cap) bs) (hl : l ≤ bs.length) (hc : bs.length ≤ cap) : BytesV w (.slice (some ⟨g, if cap = l then o else o + l, none⟩) (N - l) (cap - l)) (bs.drop l) := by
  have hn := h.len
  subst hn
  refine Or.inr ⟨_, _, by rw [List.length_drop], fun j u hu => ?_⟩
  have hj : j < bs.length - l := by
    have := (List.getElem?_eq_some_iff.1 hu).1
    rw [vB_length, List.length_drop] at this
    exact this
  rw [if_neg (by omega)]
  rw [vB_drop, List.getElem?_drop] at hu
  obtain ⟨x, hx⟩ : ∃ x, bs[l + j]? = some x := ⟨_, List.getElem?_eq_getElem (by omega)⟩
  obtain ⟨g', o', e, kc⟩ := h.at hx
  cases e
  rw [show (vB bs)[l + j]? = some (.int .u8 x) from by simp [vB, hx]] at hu
  cases hu
  rw [Addr.add_lit, Nat.add_assoc]
  exact kc
set_option maxRecDepth 100000 in
set_option maxHeartbeats 8000000 in
/-- trie.Compact -/
theorem Compact_any {w : World} {a : Option Addr} {cap : Nat} {ns : List Int} (b : Bool) (h : SrcN w a cap ns) :
    Calls Tryz.prog 5 #[.slice a ns.length cap, .bool b] w fun e w' => Below w.heap.size w w' ∧ CpQ w w' ns b e := by
  have HS : Hid (SrcN w a cap ns) := h
  obtain ⟨N, hN⟩ : ∃ N, N = ns.length := ⟨_, rfl⟩
  have HV : Hid (BytesV w (.slice a N cap) ns) := by show BytesV _ _ _; rw [hN]; exact h.is
  have hl := h.le
  rw [← hN] at hl ⊢
  have HN : Hid (N = ns.length) := hN
  clear h hN
  go_enter Tryz.func5, Tryz.ntmps5
  go_wp2_with fail
  go_loopw [10] (fun i wr => ∃ (j : Nat), j ≤ N ∧ i = .int .i64 j ∧ wr = w ∧ Hid (∀ c ∈ ns.take j, c ≤ 15)) (fun i _ => N - (intOf i).toNat)
  case atStart => exact ⟨0, Nat.zero_le _, rfl, rfl, fun c hc => by simp at hc⟩
  case round =>
    obtain ⟨j, hj, rfl, hwr, HI⟩ := hrel
    obtain rfl := hwr.symm
    by_cases hjk : j < N
    · have hki : (j : Int) < N := by omega
      obtain ⟨y, hy⟩ : ∃ y, ns[j]? = some y := ⟨_, List.getElem?_eq_getElem (by have := HN.out; omega)⟩
      obtain ⟨g, o, rfl, kc⟩ := HV.out.at hy
      by_cases hb : 15 < y
      · have HE : Hid (nibOk ns = false) := nibOk_not hy hb
        clear hy
        go_wp2
        go_ret2
        exact ⟨Below.refl _ _, cpq_no HE.out⟩
      · have HE : Hid (∀ c ∈ ns.take (j + 1), c ≤ 15) := fun c hc => by
          rw [List.take_add_one, hy] at hc
          rcases List.mem_append.1 hc with hc | hc
          · exact HI.out c hc
          · obtain rfl := List.mem_singleton.1 hc
            omega
        clear hy
        go_wp2
        go_roundw
        case rel => exact ⟨j + 1, by omega, by go_num, by trivial, HE.out⟩
        case measure => simp [intOf]; omega
    · have hki : ¬ (j : Int) < N := by omega
      have hok : nibOk ns = true := nibOk_of (by have := HI.out; rw [List.take_of_length_le (by have := HN.out; omega)] at this; exact this)
      have HC : Hid _ := compact_any b HS.out.is (nibOk_nib hok HS.out.by') (by have := HN.out; omega)
      rw [← HN.out] at HC
      have HK : Hid (nibOk ns = true) := hok
      clear hok
      go_wp2_with (first
        | (refine Calls.mono HC.out ?_
           rintro e w2 ⟨v2, rfl, ho2, hb2⟩
           obtain ⟨a2, c2, rfl⟩ := row_form ho2))
      go_ret2
      exact ⟨hb2, cpq_yes HK.out ho2⟩
end Go.Proofs.YtboeokmaepchgaaGreatDoor
