/- net: the reference's Take. -/
import Derived.Test.YtemapnfbmhjlbaaRD
import Derived.Test.YtemapnfbmhjlbaaNT
import Derived.Test.YtemapnfbmhjlbaaRP
namespace Go.Proofs.Ytemapnfbmhjlbaa
open Go.RowKit Go.Maps Go.Joins
set_option linter.unusedSimpArgs false
set_option linter.unusedVariables false
/-- A structure of four cells is stored. -/
theorem wpList_store4r {ops : Array Oper} {rest : List Oper} {o : Oper} {a : Act} {w : World} {Q : Exit → Act → World → Prop} (hgd : o.guard = none) (x y : Operand) (ho : o.op = .store 38 x y)
    (g : Nat) (a0 a1 a2 : Int) (v : Value) (hv : v.oneCell' = true) (hx : a.eval x = .pointer (some ⟨g, 0, none⟩)) (hy : a.eval y = .agg #[.int .i64 a0, .int .i64 a1, .int .i64 a2, v]) (b0 b1 b2 b3 : Value) (hg : w.heap[g]? = some (.cells #[b0, b1, b2, b3] 38))
    (h : ∀ w', Hid (w'.heap[g]? = some (.cells #[.int .i64 a0, .int .i64 a1, .int .i64 a2, v] 38)) → Hid (Poke w w' g) → wpList Try.prog ops Q rest (a.put o.dst undef) w') : wpList Try.prog ops Q (o :: rest) a w :=
  wpList_store_row hgd 38 x y ho g _ hx hy 38 _ hg (by kernel_rfl) rfl (by simp only [Array.all_eq_true_iff_forall_mem, List.mem_toArray, List.mem_cons, List.not_mem_nil, or_false]; rintro u (rfl | rfl | rfl | rfl) <;> first | rfl | exact hv) (h _ (setRow_heap w g _ _ 38 _ hg) ⟨rfl, rfl, rfl, by simp [World.setRow], fun k hk => setRow_other w g k _ hk⟩)
theorem RIs.but {w w' : World} {b r : Nat} {N : RS} (h : RIs w b N) (hk : ∀ x, x ≠ r → w'.heap[x]? = w.heap[x]?) (hs : w.heap.size ≤ w'.heap.size) (ho : N.own r = 0) (hd : ∀ p ∈ N.fl, ∀ x, dBlock p.dv p.bs.length = some x → x ≠ r) : RIs w' b N where
  net := (hk b (fun e => by rw [← e, h.rn] at ho; cases ho)).trans h.net
  rn := h.rn
  fl := ownsRow_heap h.fl (fun g hg => hk g (fun e => by rw [← e, h.rf g hg] at ho; cases ho))
  rf := h.rf
  tm := ownsRow_heap h.tm (fun g hg => hk g (fun e => by rw [← e, h.rt g hg] at ho; cases ho))
  rt := h.rt
  data := fun p hp => (h.data p hp).kept (fun x hx => hk x (hd p hp x hx))
  rd := h.rd
  fresh := fun g hg => h.fresh g (Nat.le_trans hs hg)
/-- What Take tells, of the reference. -/
def RTkR (w : World) (b : Nat) (N : RS) (R : Int × PA × NA) (e : Ending) (w' : World) : Prop :=
  ∃ (q : PK) (N' : RS), e = .returned (.tuple #[.agg #[.int .i64 q.id, .int .i64 q.fr, .int .i64 q.to, q.dv], .int .i64 R.1]) ∧ pkA q = R.2.1 ∧ RIs w' b N' ∧ RFr w w' N N' ∧ absR N' = R.2.2 ∧ BytesV w' q.dv q.bs ∧ ∀ x, dBlock q.dv q.bs.length = some x → N'.own x = 0 ∧ ∃ p ∈ N.fl, dBlock p.dv p.bs.length = some x
def nilR (w : World) : World := w.alloc (.cells #[.int .i64 0, .int .i64 0, .int .i64 0, .slice none 0 0] 38)
theorem nilR_below (w : World) : Below w.heap.size w (nilR w) := (Below.refl _ w).alloc (Nat.le_refl _) _
theorem nilR_at (w : World) : (nilR w).heap[w.heap.size]? = some (.cells #[.int .i64 0, .int .i64 0, .int .i64 0, .slice none 0 0] 38) := heap_alloc_new _ _
set_option maxRecDepth 100000 in
set_option maxHeartbeats 8000000 in
theorem rtake_no {w : World} {b : Nat} {N : RS} (h : RIs w b N) (ho : ROk N) (id : Int) (hn : ∀ p ∈ N.fl, p.id ≠ id) :
    Calls Try.prog 14 #[.pointer (some ⟨b, 0, none⟩), .int .i64 id] w fun e w' => e = .returned (.tuple #[.agg #[.int .i64 0, .int .i64 0, .int .i64 0, .slice none 0 0], .int .i64 33]) ∧ Below w.heap.size w w' := by
  have hb := h.lt
  have HP : Hid _ := at_any (h.below (nilR_below w)) ho.fl id
  rw [atR_no hn] at HP
  unfold nilR at HP
  clear h ho hn
  go_enter Try.func14, Try.ntmps14
  go_wp2_with (first
    | (go_at_call 35
       refine Calls.mono HP.out ?_
       rintro e w1 ⟨rfl, q1⟩
       have HB : Hid (Below w.heap.size w w1 ∧ w1.heap[w.heap.size]? = some (.cells #[.int .i64 0, .int .i64 0, .int .i64 0, .slice none 0 0] 38)) := by rw [q1]; exact ⟨nilR_below w, nilR_at w⟩
       clear q1 HP)
    | (refine wpList_store4r rfl _ _ rfl w.heap.size 0 0 0 (.slice none 0 0) rfl rfl rfl _ _ _ _ HB.out.2 ?_
       intro w2 hc hk
       have HE : Hid (Below w.heap.size w w2) := hk.out.below HB.out.1 (Nat.le_refl _)
       obtain ⟨k0, k1, k2, k3, _⟩ := cells4 hc.out
       clear hc hk HB))
  refine bodyPost_ret (v := .tuple #[.agg #[.int .i64 0, .int .i64 0, .int .i64 0, .slice none 0 0], .int .i64 33]) (by simp [results, Try.results14, go_sem, k0, k1, k2, k3]) rfl ?_
  exact ⟨rfl, HE.out⟩
set_option maxRecDepth 100000 in
set_option maxHeartbeats 8000000 in
theorem rtake_yes {w : World} {b : Nat} {N : RS} (h : RIs w b N) (ho : ROk N) (hr : Rise N.fl) {id : Int} {i : Nat} {p : PK} (hp : N.fl[i]? = some p) (he : p.id = id) :
    Calls Try.prog 14 #[.pointer (some ⟨b, 0, none⟩), .int .i64 id] w fun e w' => ∃ v, e = .returned (.tuple #[.agg #[.int .i64 p.id, .int .i64 p.fr, .int .i64 p.to, p.dv], .int .i64 0]) ∧ RIs w' b (rsetF N v (N.fl.take i ++ N.fl.drop (i + 1))) ∧ RFr w w' N (rsetF N v (N.fl.take i ++ N.fl.drop (i + 1))) := by
  have hb := h.lt
  have HP : Hid _ := at_any (h.below (nilR_below w)) ho.fl id
  rw [atR_yes hr hp he] at HP
  unfold nilR at HP
  have hpm := List.mem_of_getElem? hp
  have hrow := h.fl
  obtain ⟨fa, fc, hfv⟩ := row_form h.fl
  rw [hfv] at hrow
  have hin0 := (List.getElem?_eq_some_iff.1 hp).1
  obtain ⟨g, hfa, hfc⟩ : ∃ g, fa = some ⟨g, 0, none⟩ ∧ N.fl.length ≤ fc := by
    rcases hrow.2 with ⟨e, h0⟩ | ⟨g, cap, cur, e, _, _, h5, _⟩
    · omega
    · injection e with e1 e2 e3
      exact ⟨g, e1, by omega⟩
  subst hfa
  obtain ⟨n, hn⟩ : ∃ n, n = N.fl.length := ⟨_, rfl⟩
  have hn9 : n ≤ 4096 := by rw [hn]; exact ho.fl
  have hin : i < n := by omega
  have hnc : n ≤ fc := by omega
  obtain ⟨dva, dvc, hdv⟩ := (h.data p hpm).form
  obtain ⟨x0, fr, to, dv, bs⟩ := p
  simp only at he hdv ⊢
  subst he hdv
  have hcel : ∀ j u, (pkL N.fl)[j]? = some u → w.cell? ⟨g, j, none⟩ = some u := fun j u hu => by
    have hc := hrow.cells (g := g) rfl j u hu
    rwa [Addr.add_lit, Nat.zero_add] at hc
  have hc : ∀ j u, (pkC ⟨x0, fr, to, .slice dva bs.length dvc, bs⟩)[j]? = some u → w.cell? ⟨g, i * 4 + j, none⟩ = some u := fun j u hu => by
    have hj : j < 4 := by
      have := (List.getElem?_eq_some_iff.1 hu).1
      simpa [pkC] using this
    exact hcel _ _ (by rw [pkL_at N.fl i _ hp j hj]; exact hu)
  have HS : Hid (RIs w b N ∧ N.fv = .slice (some ⟨g, 0, none⟩) n fc ∧ n = N.fl.length ∧ (∀ j u, (pkL N.fl)[j]? = some u → w.cell? ⟨g, j, none⟩ = some u) ∧ (∀ j u, (pkC ⟨x0, fr, to, .slice dva bs.length dvc, bs⟩)[j]? = some u → w.cell? ⟨g, i * 4 + j, none⟩ = some u) ∧ (∀ u ∈ pkL N.fl, u.oneCell' = true)) := ⟨h, by rw [hfv, hn], hn, hcel, hc, pkL_one _ h.data⟩
  clear h ho hr hp hpm hrow hfv hin0 hfc hn hcel hc
  go_enter Try.func14, Try.ntmps14
  go_wp2_with (first
    | (go_at_call 35
       refine Calls.mono HP.out ?_
       rintro e w1 ⟨rfl, q1⟩
       have HB : Hid (Below w.heap.size w w1 ∧ w1.heap[w.heap.size]? = some (.cells #[.int .i64 0, .int .i64 0, .int .i64 0, .slice none 0 0] 38)) := by rw [q1]; exact ⟨nilR_below w, nilR_at w⟩
       have c3 : w1.cell? ⟨b, 3, none⟩ = some (.slice (some ⟨g, 0, none⟩) n fc) := ((HS.out.1.below HB.out.1).cells.2.2.2.1).trans (by rw [HS.out.2.1])
       have hin' : (i : Int) < n := by omega
       have hcb : ∀ j u, (pkC ⟨x0, fr, to, .slice dva bs.length dvc, bs⟩)[j]? = some u → w1.cell? ⟨g, i * 4 + j, none⟩ = some u := fun j u hu => (HB.out.1.cell (p := ⟨g, i * 4 + j, none⟩) (cell_lt (HS.out.2.2.2.2.1 j u hu))).trans (HS.out.2.2.2.2.1 j u hu)
       have d0 : w1.cell? ⟨g, i * 4, none⟩ = some (.int .i64 x0) := hcb 0 _ rfl
       have d1 : w1.cell? ⟨g, i * 4 + 1, none⟩ = some (.int .i64 fr) := hcb 1 _ rfl
       have d2 : w1.cell? ⟨g, i * 4 + 2, none⟩ = some (.int .i64 to) := hcb 2 _ rfl
       have d3 : w1.cell? ⟨g, i * 4 + 3, none⟩ = some (.slice dva bs.length dvc) := hcb 3 _ rfl
       clear q1 HP hcb))
  obtain ⟨W, hW⟩ : ∃ W, W = w1.alloc (.cells #[.int .i64 x0, .int .i64 fr, .int .i64 to, .slice dva bs.length dvc] 38) := ⟨_, rfl⟩
  obtain ⟨tb, htb⟩ : ∃ tb, tb = w1.heap.size := ⟨_, rfl⟩
  have HW : Hid (Below w.heap.size w W ∧ W.heap[tb]? = some (.cells #[.int .i64 x0, .int .i64 fr, .int .i64 to, .slice dva bs.length dvc] 38) ∧ W.heap[w.heap.size]? = some (.cells #[.int .i64 0, .int .i64 0, .int .i64 0, .slice none 0 0] 38) ∧ w.heap.size ≤ tb) := by
    have hb1 : Below w1.heap.size w1 W := by rw [hW]; exact (Below.refl _ w1).alloc (Nat.le_refl _) _
    have hs := HB.out.1.size
    refine ⟨HB.out.1.trans (hb1.mono hs), by rw [hW, htb]; exact heap_alloc_new _ _, (hb1.block _ (heap_lt HB.out.2)).trans HB.out.2, by rw [htb]; exact hs⟩
  rw [← hW, ← htb]
  clear hW htb d0 d1 d2 d3 c3 HB
  have hW3 : W.cell? ⟨b, 3, none⟩ = some (.slice (some ⟨g, 0, none⟩) n fc) := ((HS.out.1.below HW.out.1).cells.2.2.2.1).trans (by rw [HS.out.2.1])
  obtain ⟨xo, hxo⟩ : ∃ xo, xo = if fc = i + 1 then 0 else (i + 1) * 4 := ⟨_, rfl⟩
  have HX : Hid (xo = if fc = i + 1 then 0 else (i + 1) * 4) := hxo
  clear hxo
  go_wp2_with fail
  refine wp_region_X (fun j => j == 19) (S := fun w' => w'.cell? ⟨b, 3, none⟩ = some (.slice (some ⟨g, 0, none⟩) n fc)) (by kernel_rfl) hW3 (fun hHeld => ?_)
  refine wpAnyX_take (i := 0) (v := .pointer (some ⟨b, 0, none⟩)) rfl (by kernel_rfl) (by kernel_rfl) (by kernel_rfl) (by kernel_rfl) (fun _ _ _ h => h) (Or.inl ⟨by rfl, fun w9 hSw => ?_⟩) hHeld ?_
  · go_simp
  simp only [List.getElem_toArray, List.getElem_cons_succ, List.getElem_cons_zero, Act.put, List.setIfInBounds_toArray, List.set_cons_zero, List.set_cons_succ]
  refine wpAnyX_take (i := 2) (v := .pointer (some ⟨b, 0, none⟩)) rfl (by kernel_rfl) (by kernel_rfl) (by kernel_rfl) (by kernel_rfl) (fun _ _ _ h => h) (Or.inl ⟨by rfl, fun w9 hSw => ?_⟩) hHeld ?_
  · go_simp
  simp only [List.getElem_toArray, List.getElem_cons_succ, List.getElem_cons_zero, Act.put, List.setIfInBounds_toArray, List.set_cons_zero, List.set_cons_succ]
  refine wpAnyX_take (i := 3) (v := .pointer (some ⟨b, 0, none⟩)) rfl (by kernel_rfl) (by kernel_rfl) (by kernel_rfl) (by kernel_rfl) (fun _ _ _ h => h) (Or.inl ⟨by rfl, fun w9 hSw => ?_⟩) hHeld ?_
  · go_simp
  simp only [List.getElem_toArray, List.getElem_cons_succ, List.getElem_cons_zero, Act.put, List.setIfInBounds_toArray, List.set_cons_zero, List.set_cons_succ]
  refine wpAnyX_take (i := 4) (v := .pointer (some ⟨b, 3, none⟩)) rfl (by kernel_rfl) (by kernel_rfl) (by kernel_rfl) (by kernel_rfl) (fun _ _ _ h => h) (Or.inl ⟨by rfl, fun w9 hSw => ?_⟩) hHeld ?_
  · go_simp
  simp only [List.getElem_toArray, List.getElem_cons_succ, List.getElem_cons_zero, Act.put, List.setIfInBounds_toArray, List.set_cons_zero, List.set_cons_succ]
  refine wpAnyX_take (i := 5) (v := .slice (some ⟨g, 0, none⟩) n fc) rfl (by kernel_rfl) (by kernel_rfl) (by kernel_rfl) (by kernel_rfl) (fun _ _ _ h => h) (Or.inl ⟨by rfl, fun w9 hSw => ?_⟩) hHeld ?_
  · have hc : w9.cell? ⟨b, 3, none⟩ = some (.slice (some ⟨g, 0, none⟩) n fc) := hSw
    go_simp
  simp only [List.getElem_toArray, List.getElem_cons_succ, List.getElem_cons_zero, Act.put, List.setIfInBounds_toArray, List.set_cons_zero, List.set_cons_succ]
  refine wpAnyX_take (i := 6) (v := .int .i64 i) rfl (by kernel_rfl) (by kernel_rfl) (by kernel_rfl) (by kernel_rfl) (fun _ _ _ h => h) (Or.inl ⟨by rfl, fun w9 hSw => ?_⟩) hHeld ?_
  · go_simp
  simp only [List.getElem_toArray, List.getElem_cons_succ, List.getElem_cons_zero, Act.put, List.setIfInBounds_toArray, List.set_cons_zero, List.set_cons_succ]
  refine wpAnyX_take (i := 7) (v := .slice (some ⟨g, 0, none⟩) i fc) rfl (by kernel_rfl) (by kernel_rfl) (by kernel_rfl) (by kernel_rfl) (fun _ _ _ h => h) (Or.inl ⟨by rfl, fun w9 hSw => ?_⟩) hHeld ?_
  · go_simp
    intro hx
    omega
  simp only [List.getElem_toArray, List.getElem_cons_succ, List.getElem_cons_zero, Act.put, List.setIfInBounds_toArray, List.set_cons_zero, List.set_cons_succ]
  refine wpAnyX_take (i := 9) (v := .pointer (some ⟨b, 0, none⟩)) rfl (by kernel_rfl) (by kernel_rfl) (by kernel_rfl) (by kernel_rfl) (fun _ _ _ h => h) (Or.inl ⟨by rfl, fun w9 hSw => ?_⟩) hHeld ?_
  · go_simp
  simp only [List.getElem_toArray, List.getElem_cons_succ, List.getElem_cons_zero, Act.put, List.setIfInBounds_toArray, List.set_cons_zero, List.set_cons_succ]
  refine wpAnyX_take (i := 10) (v := .pointer (some ⟨b, 0, none⟩)) rfl (by kernel_rfl) (by kernel_rfl) (by kernel_rfl) (by kernel_rfl) (fun _ _ _ h => h) (Or.inl ⟨by rfl, fun w9 hSw => ?_⟩) hHeld ?_
  · go_simp
  simp only [List.getElem_toArray, List.getElem_cons_succ, List.getElem_cons_zero, Act.put, List.setIfInBounds_toArray, List.set_cons_zero, List.set_cons_succ]
  refine wpAnyX_take (i := 11) (v := .pointer (some ⟨b, 3, none⟩)) rfl (by kernel_rfl) (by kernel_rfl) (by kernel_rfl) (by kernel_rfl) (fun _ _ _ h => h) (Or.inl ⟨by rfl, fun w9 hSw => ?_⟩) hHeld ?_
  · go_simp
  simp only [List.getElem_toArray, List.getElem_cons_succ, List.getElem_cons_zero, Act.put, List.setIfInBounds_toArray, List.set_cons_zero, List.set_cons_succ]
  refine wpAnyX_take (i := 12) (v := .slice (some ⟨g, 0, none⟩) n fc) rfl (by kernel_rfl) (by kernel_rfl) (by kernel_rfl) (by kernel_rfl) (fun _ _ _ h => h) (Or.inl ⟨by rfl, fun w9 hSw => ?_⟩) hHeld ?_
  · have hc : w9.cell? ⟨b, 3, none⟩ = some (.slice (some ⟨g, 0, none⟩) n fc) := hSw
    go_simp
  simp only [List.getElem_toArray, List.getElem_cons_succ, List.getElem_cons_zero, Act.put, List.setIfInBounds_toArray, List.set_cons_zero, List.set_cons_succ]
  refine wpAnyX_take (i := 13) (v := .int .i64 i) rfl (by kernel_rfl) (by kernel_rfl) (by kernel_rfl) (by kernel_rfl) (fun _ _ _ h => h) (Or.inl ⟨by rfl, fun w9 hSw => ?_⟩) hHeld ?_
  · go_simp
  simp only [List.getElem_toArray, List.getElem_cons_succ, List.getElem_cons_zero, Act.put, List.setIfInBounds_toArray, List.set_cons_zero, List.set_cons_succ]
  refine wpAnyX_take (i := 14) (v := .int .i64 (i + 1)) rfl (by kernel_rfl) (by kernel_rfl) (by kernel_rfl) (by kernel_rfl) (fun _ _ _ h => h) (Or.inl ⟨by rfl, fun w9 hSw => ?_⟩) hHeld ?_
  · go_simp
    rw [IntKind.wrap_i64]
    omega
  simp only [List.getElem_toArray, List.getElem_cons_succ, List.getElem_cons_zero, Act.put, List.setIfInBounds_toArray, List.set_cons_zero, List.set_cons_succ]
  refine wpAnyX_take (i := 15) (v := .slice (some ⟨g, xo, none⟩) (n - (i + 1)) (fc - (i + 1))) rfl (by kernel_rfl) (by kernel_rfl) (by kernel_rfl) (by kernel_rfl) (fun _ _ _ h => h) (Or.inl ⟨by rfl, fun w9 hSw => ?_⟩) hHeld ?_
  · go_simp
    rw [if_pos (by omega), HX.out]
    by_cases hq : fc = i + 1
    · simp only [if_pos hq]
    · simp only [if_neg hq]
  simp only [List.getElem_toArray, List.getElem_cons_succ, List.getElem_cons_zero, Act.put, List.setIfInBounds_toArray, List.set_cons_zero, List.set_cons_succ]
  refine wpAnyX_one (i := 1) (by kernel_rfl) rfl (by rfl) (fun K hK => ?_)
  have H4 : Hid (RIs W.drew b N ∧ Below w.heap.size w W.drew ∧ W.drew.heap[tb]? = some (.cells #[.int .i64 x0, .int .i64 fr, .int .i64 to, .slice dva bs.length dvc] 38) ∧ W.drew.heap[w.heap.size]? = some (.cells #[.int .i64 0, .int .i64 0, .int .i64 0, .slice none 0 0] 38)) := ⟨HS.out.1.below HW.out.1.drew, HW.out.1.drew, HW.out.2.1, HW.out.2.2.1⟩
  generalize W.drew = w4 at hHeld H4 ⊢
  obtain ⟨w5, hw5⟩ : ∃ w5, w5 = w4.alloc (.cells #[] 38) := ⟨_, rfl⟩
  obtain ⟨eb, heb⟩ : ∃ eb, eb = w4.heap.size := ⟨_, rfl⟩
  have he5 := elQ.empty (w := w4)
  have hB5 : Below w4.heap.size w4 (w4.alloc (.cells #[] 38)) := (Below.refl _ w4).alloc (Nat.le_refl _) _
  go_simp
  rw [← hw5, ← heb] at he5 ⊢
  rw [← hw5] at hB5
  have hz5 := hB5.size
  have H5 : Hid (w5.ownsRow eb 38 4 (.slice (some ⟨eb, 0, none⟩) 0 0) 0 [] ∧ Below w4.heap.size w4 w5 ∧ eb = w4.heap.size) := ⟨he5, hB5, heb⟩
  have hH5 : w5.cell? ⟨b, 3, none⟩ = some (.slice (some ⟨g, 0, none⟩) n fc) := (hB5.cell H4.out.1.lt).trans hHeld
  clear hw5 heb he5 hB5 hHeld hz5
  refine hK.out _ _ (Or.inr hH5) ?_
  clear hK K
  try simp only [List.getElem_toArray, List.getElem_cons_succ, List.getElem_cons_zero, Act.put, List.setIfInBounds_toArray, List.set_cons_zero, List.set_cons_succ]
  refine wpAnyX_one (i := 8) (by kernel_rfl) rfl (by rfl) (fun K hK => ?_)
  have hB5 := H5.out.2.1
  have hz5 := hB5.size
  have heb := H5.out.2.2
  have hlk : (pkL N.fl).length = n * 4 := by rw [pkL_length, HS.out.2.2.1]
  have hg5 : ∀ (w' : World), Below w4.heap.size w4 w' → ∀ j u, (pkL N.fl)[j]? = some u → w'.cell? ⟨g, j, none⟩ = some u := fun w' hb' j u hu => by
    have h0 := HS.out.2.2.2.1 j u hu
    have h1 := (H4.out.2.1.cell (p := ⟨g, j, none⟩) (cell_lt h0)).trans h0
    exact (hb'.cell (p := ⟨g, j, none⟩) (cell_lt h1)).trans h1
  refine elQ.wp_append (.tmp 22) (.tmp 28) rfl eb (.slice (some ⟨eb, 0, none⟩) 0 0) 0 [] rfl H5.out.1 ⟨g, 0, none⟩ i fc rfl ((pkL N.fl).take (i * 4)) (by rw [List.length_take, hlk]; omega) (fun j u hu => by
    rw [Addr.add_lit, Nat.zero_add]
    refine hg5 w5 hB5 j u ?_
    rw [List.getElem?_take] at hu
    split at hu
    · exact hu
    · cases hu) (fun u hu => HS.out.2.2.2.2.2 u (List.mem_of_mem_take hu)) (by omega) (by omega) ?_
  intro v6 w6 ho6 hg6 ha6
  have hB6 : Below w4.heap.size w4 w6 := hB5.grown hg6 (by omega) (fun jj hjj => by have h9 : eb = jj := (by simpa [Value.ownBlock] using hjj); omega)
  have hv6 : v6.ownBlock ≠ none := by rcases ha6 with e | e <;> rw [e] <;> simp [Value.ownBlock]
  rw [List.nil_append, Nat.zero_add] at ho6
  have hH6 : w6.cell? ⟨b, 3, none⟩ = some (.slice (some ⟨g, 0, none⟩) n fc) := (hB6.cell H4.out.1.lt).trans ((H4.out.1.cells.2.2.2.1).trans (by rw [HS.out.2.1]))
  have H6 : Hid (w6.ownsRow eb 38 4 v6 i ((pkL N.fl).take (i * 4)) ∧ Below w4.heap.size w4 w6 ∧ eb = w4.heap.size ∧ eb ≤ w6.heap.size) := ⟨ho6, hB6, heb, by have := hB6.size; omega⟩
  obtain ⟨v6a, v6c, rfl⟩ := row_form ho6
  clear ho6 hg6 ha6 hB6 hB5 hz5 heb hg5 H5 hH5 hv6
  refine hK.out _ _ (Or.inr hH6) ?_
  clear hK K
  try simp only [List.getElem_toArray, List.getElem_cons_succ, List.getElem_cons_zero, Act.put, List.setIfInBounds_toArray, List.set_cons_zero, List.set_cons_succ]
  refine wpAnyX_one (i := 16) (by kernel_rfl) rfl (by rfl) (fun K hK => ?_)
  have hB6 := H6.out.2.1
  have heb := H6.out.2.2.1
  have hxo := HX.out
  have hg6' : ∀ j u, (pkL N.fl)[j]? = some u → w6.cell? ⟨g, j, none⟩ = some u := fun j u hu => by
    have h0 := HS.out.2.2.2.1 j u hu
    have h1 := (H4.out.2.1.cell (p := ⟨g, j, none⟩) (cell_lt h0)).trans h0
    exact (hB6.cell (p := ⟨g, j, none⟩) (cell_lt h1)).trans h1
  refine elQ.wp_append (.tmp 29) (.tmp 36) rfl eb (.slice v6a i v6c) i ((pkL N.fl).take (i * 4)) rfl H6.out.1 ⟨g, xo, none⟩ (n - (i + 1)) (fc - (i + 1)) rfl ((pkL N.fl).drop ((i + 1) * 4)) (by rw [List.length_drop, hlk]; omega) (fun j u hu => by
    rw [Addr.add_lit]
    rw [List.getElem?_drop] at hu
    have hj := (List.getElem?_eq_some_iff.1 hu).1
    rw [hlk] at hj
    rw [hxo, if_neg (by omega)]
    exact hg6' _ _ hu) (fun u hu => HS.out.2.2.2.2.2 u (List.mem_of_mem_drop hu)) (by omega) H6.out.2.2.2 ?_
  intro v7 w7 ho7 hg7 ha7
  have hB7 : Below w4.heap.size w4 w7 := hB6.grown hg7 (by have := H6.out.2.2.2; omega) (fun jj hjj => by have := (H6.out.1.lt jj hjj).1; omega)
  rw [show i + (n - (i + 1)) = n - 1 by omega] at ho7
  obtain ⟨v7a, v7c, rfl⟩ := row_form ho7
  have hH7 : w7.cell? ⟨b, 3, none⟩ = some (.slice (some ⟨g, 0, none⟩) n fc) := (hB7.cell H4.out.1.lt).trans ((H4.out.1.cells.2.2.2.1).trans (by rw [HS.out.2.1]))
  have hll : (N.fl.take i ++ N.fl.drop (i + 1)).length = n - 1 := by rw [List.length_append, List.length_take, List.length_drop, ← HS.out.2.2.1]; omega
  have hmem : ∀ p ∈ N.fl.take i ++ N.fl.drop (i + 1), p ∈ N.fl := fun p hp => by
    rcases List.mem_append.1 hp with hp | hp
    · exact List.mem_of_mem_take hp
    · exact List.mem_of_mem_drop hp
  have hend := rsetF_end (v := .slice v7a (n - 1) v7c) (l := N.fl.take i ++ N.fl.drop (i + 1)) H4.out.1 (gb_of_below hB7 _) (by rw [hll, pkL_append, pkL_take, pkL_drop]; exact rowz ho7) (Or.inr (fun x hx => by have := (ho7.lt x hx).1; omega)) (fun p hp => H4.out.1.data p (hmem p hp)) (fun p hp => H4.out.1.rd p (hmem p hp))
  have hblk : ∀ x, x < w4.heap.size → x ≠ b → (w7.setCell ⟨b, 3, none⟩ (.slice v7a (n - 1) v7c)).heap[x]? = w4.heap[x]? := fun x hx hxb => (Below.heap_setCell _ _ _ _ hxb).trans (hB7.block x hx)
  have H7 : Hid (RIs (w7.setCell ⟨b, 3, none⟩ (.slice v7a (n - 1) v7c)) b (rsetF N (.slice v7a (n - 1) v7c) (N.fl.take i ++ N.fl.drop (i + 1))) ∧ RFr w (w7.setCell ⟨b, 3, none⟩ (.slice v7a (n - 1) v7c)) N (rsetF N (.slice v7a (n - 1) v7c) (N.fl.take i ++ N.fl.drop (i + 1))) ∧ (w7.setCell ⟨b, 3, none⟩ (.slice v7a (n - 1) v7c)).heap[tb]? = some (.cells #[.int .i64 x0, .int .i64 fr, .int .i64 to, .slice dva bs.length dvc] 38) ∧ (w7.setCell ⟨b, 3, none⟩ (.slice v7a (n - 1) v7c)).heap[w.heap.size]? = some (.cells #[.int .i64 0, .int .i64 0, .int .i64 0, .slice none 0 0] 38) ∧ (rsetF N (.slice v7a (n - 1) v7c) (N.fl.take i ++ N.fl.drop (i + 1))).own w.heap.size = 0 ∧ (∀ p ∈ N.fl.take i ++ N.fl.drop (i + 1), p ∈ N.fl)) := by
    have hwt := HW.out.2.2.2
    refine ⟨hend.1, ⟨(RFr.below H4.out.2.1).toRFq.trans hend.2, fun p hp x hx => Or.inl ⟨p, hmem p hp, hx⟩⟩, (hblk tb (heap_lt H4.out.2.2.1) (by omega)).trans H4.out.2.2.1, (hblk w.heap.size (heap_lt H4.out.2.2.2) (by omega)).trans H4.out.2.2.2, ?_, hmem⟩
    show (if (Value.slice v7a (n - 1) v7c).ownBlock = some w.heap.size then 3 else N.own w.heap.size) = 0
    rw [if_neg (fun hc => by have h1 := (ho7.lt _ hc).1; have h2 := heap_lt H4.out.2.2.2; omega)]
    exact HS.out.1.fresh _ (Nat.le_refl _)
  have z7 : w7.frozen? ⟨b, 3, none⟩ = false := unfrozen_of_block ((hB7.block b H4.out.1.lt).trans H4.out.1.net) 3
  clear ho7 hg7 ha7 hB6 hB7 heb hxo hg6' hend hblk hll hmem H6 hH6 hlk
  refine hK.out _ _ (Or.inr hH7) ?_
  clear hK K
  try simp only [List.getElem_toArray, List.getElem_cons_succ, List.getElem_cons_zero, Act.put, List.setIfInBounds_toArray, List.set_cons_zero, List.set_cons_succ]
  refine wpAnyX_one (i := 17) (by kernel_rfl) rfl (by rfl) (fun K hK => ?_)
  go_wp2_with fail
  refine hK.out _ _ (Or.inr hH7) ?_
  clear hK K
  try simp only [List.getElem_toArray, List.getElem_cons_succ, List.getElem_cons_zero, Act.put, List.setIfInBounds_toArray, List.set_cons_zero, List.set_cons_succ]
  refine wpAnyX_one (i := 18) (by kernel_rfl) rfl (by rfl) (fun K hK => ?_)
  go_wp2_with fail
  refine hK.out _ _ (Or.inr hH7) ?_
  clear hK K
  try simp only [List.getElem_toArray, List.getElem_cons_succ, List.getElem_cons_zero, Act.put, List.setIfInBounds_toArray, List.set_cons_zero, List.set_cons_succ]
  refine wpAnyX_one (i := 19) (by kernel_rfl) rfl (by rfl) (fun K hK => ?_)
  go_wp2_with fail
  refine hK.out _ _ (Or.inl rfl) ?_
  clear hK K
  try simp only [List.getElem_toArray, List.getElem_cons_succ, List.getElem_cons_zero, Act.put, List.setIfInBounds_toArray, List.set_cons_zero, List.set_cons_succ]
  refine wpAnyX_done (by kernel_rfl) ?_ _
  clear z7 hH7
  generalize hw8 : w7.setCell ⟨b, 3, none⟩ (.slice v7a (n - 1) v7c) = w8 at H7 ⊢
  clear hw8
  generalize n - 1 = m at *
  obtain ⟨k0, k1, k2, k3, _⟩ := cells4 H7.out.2.2.1
  go_wp2_with (first
    | (refine wpList_store4r rfl _ _ rfl w.heap.size x0 fr to (.slice dva bs.length dvc) rfl rfl rfl _ _ _ _ H7.out.2.2.2.1 ?_
       intro w9 hc hk
       obtain ⟨l0, l1, l2, l3, _⟩ := cells4 hc.out
       have HK : Hid (Poke w8 w9 w.heap.size) := hk
       clear hc hk))
  refine bodyPost_ret (v := .tuple #[.agg #[.int .i64 x0, .int .i64 fr, .int .i64 to, .slice dva bs.length dvc], .int .i64 0]) (by simp [results, Try.results14, go_sem, l0, l1, l2, l3]) rfl ?_
  have hk := HK.out
  refine ⟨.slice v7a m v7c, rfl, H7.out.1.but hk.block (by rw [hk.size]; exact Nat.le_refl _) H7.out.2.2.2.2.1 (fun p hp x hx => ?_), ⟨⟨hk.os.trans H7.out.2.1.os, hk.tape.trans H7.out.2.1.tape, hk.output.trans H7.out.2.1.output, by rw [hk.size]; exact H7.out.2.1.size, fun x hx h0 => (hk.block x (by omega)).trans (H7.out.2.1.block x hx h0), H7.out.2.1.own⟩, H7.out.2.1.dat⟩⟩
  have := dBlock_lt (HS.out.1.data p (H7.out.2.2.2.2.2 p hp)) hx
  omega
/-- Take, of the reference. -/
theorem rtake_any {w : World} {b : Nat} {N : RS} (h : RIs w b N) (ho : ROk N) (hr : Rise N.fl) (id : Int) :
    Calls Try.prog 14 #[.pointer (some ⟨b, 0, none⟩), .int .i64 id] w fun e w' => RTkR w b N (nTake (absR N) id) e w' := by
  by_cases hex : ∀ p ∈ N.fl, p.id ≠ id
  · have hf : nTake (absR N) id = (33, (0, 0, 0, []), absR N) := by
      unfold nTake
      rw [show (absR N).fl = N.fl.map pkA from rfl, find_no hex]
    rw [hf]
    refine (rtake_no h ho id hex).mono ?_
    rintro e w' ⟨rfl, hb⟩
    exact ⟨⟨0, 0, 0, .slice none 0 0, []⟩, N, rfl, rfl, h.below hb, RFr.below hb, rfl, Or.inl ⟨rfl, rfl⟩, fun x hx => by cases hx⟩
  · obtain ⟨p, hp, he⟩ : ∃ p, p ∈ N.fl ∧ p.id = id := by
      refine Classical.byContradiction fun hc => hex fun p hp he => hc ⟨p, hp, he⟩
    obtain ⟨i, hi, hi2⟩ := List.getElem_of_mem hp
    have hi3 : N.fl[i]? = some p := by rw [List.getElem?_eq_getElem hi, hi2]
    obtain ⟨f1, f2⟩ := find_yes hr hi3 he
    have hf : nTake (absR N) id = (0, pkA p, { absR N with fl := (N.fl.take i ++ N.fl.drop (i + 1)).map pkA }) := by
      unfold nTake
      rw [show (absR N).fl = N.fl.map pkA from rfl, f1]
      show (0, pkA p, _) = _
      rw [← f2]
    rw [hf]
    refine (rtake_yes h ho hr hi3 he).mono ?_
    rintro e w' ⟨v, rfl, h1, h2⟩
    have hb := h.data p hp
    have q0 := h.rd p hp
    refine ⟨p, _, rfl, rfl, h1, h2, rfl, hb.kept (fun x hx => h2.block x (dBlock_lt hb hx) (q0 x hx)), fun x hx => ⟨h2.own x (dBlock_lt hb hx) (q0 x hx), p, hp, hx⟩⟩
end Go.Proofs.Ytemapnfbmhjlbaa
