/- net: put, Send. -/
import Derived.Test.YtemapnfbmhjlbaaNM
import Derived.Deep.RegionHeld3
namespace Go.Proofs.Ytemapnfbmhjlbaa
open Go.RowKit Go.Maps Go.Joins
set_option linter.unusedSimpArgs false
set_option linter.unusedVariables false
/-- Room in memory: no number passes what an int holds. -/
structure NOk (N : NS) : Prop where
  nx : 0 ≤ N.next ∧ N.next ≤ 4611686018427387904
  ck : 0 ≤ N.clk ∧ N.clk ≤ 1099511627776
  fl : N.fl.length ≤ 4096
  tm : N.tm.length ≤ 4096
  at_ : ∀ t ∈ N.tm, 0 ≤ t.at_ ∧ t.at_ ≤ 1099511627776
  bs : ∀ p ∈ N.fl, p.bs.length ≤ 65536
/-- append of elements that lie in memory, as an operation. -/
theorem El.wp_append {t e : TypeId} {k by_ : Nat} {z : Value} (E : El t e k by_ z) {w : World} {o : Oper} {a : Act} {K : Act → World → Prop} {Q : Exit → Act → World → Prop} (s x : Operand)
    (ho : o.op = .call { callee := .builtin .append, args := #[s, x], argTypes := #[t, t] }) (base : Nat)
    (v : Value) (n : Nat) (X : List Value) (hs : a.eval s = v) (hown : w.ownsRow base e k v n X) (ad : Addr) (m c : Nat) (hx : a.eval x = .slice (some ad) m c) (news : List Value) (hl : news.length = m * k)
    (hnews : ∀ j u, news[j]? = some u → w.cell? (ad.add j) = some u) (h1 : ∀ u ∈ news, u.oneCell' = true) (hb : n + m ≤ 1000000) (hbase : base ≤ w.heap.size)
    (h : ∀ v' w', w'.ownsRow base e k v' (n + m) (X ++ news) → w.grownBy w' v.ownBlock → (v'.ownBlock = v.ownBlock ∨ v'.ownBlock = some w.heap.size) → K (a.put o.dst v') w') : Oper.wp Try.prog o a w K Q := by
  obtain ⟨i0, hi, hz, hsz, hby⟩ := E.i
  have hbb : (n + m) * by_ ≤ 1000000 * 48 := Nat.mul_le_mul hb E.b
  obtain ⟨v', w', hr, h2, h3, h4, h5⟩ := run_append_own_at (P := Try.prog) w base t o.type e i0 z k by_ E.u hi hz hsz hby E.zs E.k0 v n X hown ad m c news hl hnews h1 (by unfold maxLen; omega) (by omega) hbase
  unfold Oper.wp execOp
  simp only [ho, resolve, invoke, builtin, Sem.run_bind, Sem.run_pure, Result.andThen_ok, List.map_toArray, List.map_cons, List.map_nil, hs, hx, hr]
  exact h v' w' h2 h3 h5
/-- .. as a step of a region that draws its order. -/
theorem El.step_own {t e : TypeId} {k by_ : Nat} {z : Value} (E : El t e k by_ z) {w : World} {ops : Array Oper} {o : Oper} {a : Act} {K : Act → World → Prop} {Q : Exit → Act → World → Prop} {F : Prop} (hgd : o.guard = none) (s x : Operand)
    (ho : o.op = .call { callee := .builtin .append, args := #[s, x], argTypes := #[t, t] }) (base : Nat)
    (v : Value) (n : Nat) (X : List Value) (hs : a.eval s = v) (hown : w.ownsRow base e k v n X) (ad : Addr) (m c : Nat) (hx : a.eval x = .slice (some ad) m c) (news : List Value) (hl : news.length = m * k)
    (hnews : ∀ j u, news[j]? = some u → w.cell? (ad.add j) = some u) (h1 : ∀ u ∈ news, u.oneCell' = true) (hb : n + m ≤ 1000000) (hbase : base ≤ w.heap.size)
    (h : ∀ v' w', w'.ownsRow base e k v' (n + m) (X ++ news) → w.grownBy w' v.ownBlock → (v'.ownBlock = v.ownBlock ∨ v'.ownBlock = some w.heap.size) → K (a.put o.dst v') w') :
    if Region.wanted o (yielded ops a.tmps) = true then Oper.wp Try.prog o a w K Q else F := by
  have hw : Region.wanted o (yielded ops a.tmps) = true := by simp [Region.wanted, hgd]
  rw [if_pos hw]
  exact E.wp_append s x ho base v n X hs hown ad m c hx news hl hnews h1 hb hbase h
/-- put, of the net told plainly. -/
def nPut (A : NA) (fr to : Int) (bs : List Int) : NA := { A with next := A.next + 1, fl := A.fl ++ [(A.next, fr, to, bs)] }
theorem pkC_new {w : World} {p : PK} {g : Nat} (hg : w.heap[g]? = some (.cells (pkC p).toArray 35)) : ∀ j u, (pkC p)[j]? = some u → w.cell? ((⟨g, 0, none⟩ : Addr).add j) = some u := fun j u hu => by
  rw [Addr.add_lit, Nat.zero_add, cell_of_block hg]
  simpa using hu
set_option maxRecDepth 100000 in
set_option maxHeartbeats 8000000 in
theorem put_full {w : World} {b : Nat} {N : NS} (h : NetIs w b N) (hf : 4096 ≤ N.fl.length) (id fr to : Int) (dv : Value) :
    Calls Try.prog 30 #[.pointer (some ⟨b, 0, none⟩), .agg #[.int .i64 id, .int .i64 fr, .int .i64 to, dv]] w fun e w' => e = .returned (.int .i64 3) ∧ Below w.heap.size w w' := by
  obtain ⟨_, _, _, _, _, _, c6, _⟩ := h.cells
  obtain ⟨fa, fc, hfv⟩ := row_form h.fl
  rw [hfv] at c6
  have hb := h.lt
  have hl : (4096 : Int) ≤ (N.fl.length : Int) := by omega
  generalize N.fl.length = n at *
  clear h hfv hf
  go_enter Try.func30, Try.ntmps30
  go_wp2
  go_ret
  exact ⟨rfl, (Below.refl _ w).alloc (Nat.le_refl _) _⟩
set_option maxRecDepth 100000 in
set_option maxHeartbeats 8000000 in
/-- put -/
theorem put_ok {w : World} {b : Nat} {N : NS} (h : NetIs w b N) (hf : N.fl.length < 4096) (hn : 0 ≤ N.next ∧ N.next ≤ 4611686018427387904) (id fr to : Int) (dv : Value) (bs : List Int) (hd : BytesV w dv bs) (hl : bs.length ≤ 65536) :
    Calls Try.prog 30 #[.pointer (some ⟨b, 0, none⟩), .agg #[.int .i64 id, .int .i64 fr, .int .i64 to, dv]] w fun e w' => e = .returned (.int .i64 0) ∧ ∃ N', NetIs w' b N' ∧ NFr w w' N N' ∧ absN N' = nPut (absN N) fr to bs := by
  obtain ⟨fa, fc, hfv⟩ := row_form h.fl
  obtain ⟨dva, dvc, rfl⟩ := hd.form
  obtain ⟨n, hnl⟩ : ∃ n, n = N.fl.length := ⟨_, rfl⟩
  rw [← hnl] at hfv
  have hl1 : ¬ (4096 : Int) ≤ (n : Int) := by omega
  have hb := h.lt
  obtain ⟨W, hW⟩ : ∃ W, W = w.alloc (.cells #[.int .i64 id, .int .i64 fr, .int .i64 to, .slice dva bs.length dvc] 35) := ⟨_, rfl⟩
  have hWb : Below w.heap.size w W := by rw [hW]; exact (Below.refl _ w).alloc (Nat.le_refl _) _
  have hWp : W.heap[w.heap.size]? = some (.cells #[.int .i64 id, .int .i64 fr, .int .i64 to, .slice dva bs.length dvc] 35) := by rw [hW]; exact heap_alloc_new _ _
  have h1 := h.below hWb
  have hc6 : W.cell? ⟨b, 6, none⟩ = some (.slice fa n fc) := h1.cells.2.2.2.2.2.2.1.trans (by rw [hfv])
  have hbp : b ≠ w.heap.size := by omega
  obtain ⟨pb, hpb⟩ : ∃ pb, pb = w.heap.size := ⟨_, rfl⟩
  rw [← hpb] at hWp hbp
  have HC : Hid (NetIs W b N ∧ N.fv = .slice fa n fc ∧ n = N.fl.length ∧ BytesV W (.slice dva bs.length dvc) bs ∧ Below w.heap.size w W ∧ b ≠ pb ∧ N.fl.length < 4096 ∧ bs.length ≤ 65536 ∧ NetIs w b N) := ⟨h1, hfv, hnl, hd.below hWb, hWb, hbp, hf, hl, h⟩
  have HW : Hid (W = w.alloc (.cells #[.int .i64 id, .int .i64 fr, .int .i64 to, .slice dva bs.length dvc] 35) ∧ pb = w.heap.size) := ⟨hW, hpb⟩
  have HP : Hid (W.heap[pb]? = some (.cells #[.int .i64 id, .int .i64 fr, .int .i64 to, .slice dva bs.length dvc] 35)) := hWp
  have c6 : w.cell? ⟨b, 6, none⟩ = some (.slice fa n fc) := h.cells.2.2.2.2.2.2.1.trans (by rw [hfv])
  obtain ⟨nx0, nx9⟩ := hn
  clear h hfv hnl hd hWb h1 hf hW hpb hWp hc6 hl
  go_enter Try.func30, Try.ntmps30
  go_wp2_with fail
  have hW := HW.out.1
  have hpb := HW.out.2
  rw [← hW, ← hpb]
  clear hW hpb
  refine wp_region_held_drew (S := fun w' => w'.cell? ⟨b, 5, none⟩ = some (.int .i64 N.next)) (by kernel_rfl) HC.out.1.cells.2.2.2.2.2.1 (fun hHeld => ?_)
  refine wpAnyH_take (i := 0) (v := .pointer (some ⟨b, 0, none⟩)) rfl (by kernel_rfl) (by kernel_rfl) (by kernel_rfl) (fun _ _ _ h => h) (Or.inl ⟨by rfl, fun w9 hSw => ?_⟩) hHeld ?_
  · go_simp
  simp only [List.getElem_toArray, List.getElem_cons_succ, List.getElem_cons_zero, Act.put, List.setIfInBounds_toArray, List.set_cons_zero, List.set_cons_succ]
  refine wpAnyH_take (i := 1) (v := .pointer (some ⟨b, 0, none⟩)) rfl (by kernel_rfl) (by kernel_rfl) (by kernel_rfl) (fun _ _ _ h => h) (Or.inl ⟨by rfl, fun w9 hSw => ?_⟩) hHeld ?_
  · go_simp
  simp only [List.getElem_toArray, List.getElem_cons_succ, List.getElem_cons_zero, Act.put, List.setIfInBounds_toArray, List.set_cons_zero, List.set_cons_succ]
  refine wpAnyH_take (i := 2) (v := .pointer (some ⟨b, 5, none⟩)) rfl (by kernel_rfl) (by kernel_rfl) (by kernel_rfl) (fun _ _ _ h => h) (Or.inl ⟨by rfl, fun w9 hSw => ?_⟩) hHeld ?_
  · go_simp
  simp only [List.getElem_toArray, List.getElem_cons_succ, List.getElem_cons_zero, Act.put, List.setIfInBounds_toArray, List.set_cons_zero, List.set_cons_succ]
  refine wpAnyH_take (i := 3) (v := .int .i64 N.next) rfl (by kernel_rfl) (by kernel_rfl) (by kernel_rfl) (fun _ _ _ h => h) (Or.inl ⟨by rfl, fun w9 hSw => ?_⟩) hHeld ?_
  · have hc : w9.cell? ⟨b, 5, none⟩ = some (.int .i64 N.next) := hSw
    go_simp
  simp only [List.getElem_toArray, List.getElem_cons_succ, List.getElem_cons_zero, Act.put, List.setIfInBounds_toArray, List.set_cons_zero, List.set_cons_succ]
  refine wpAnyH_take (i := 4) (v := .pointer (some ⟨pb, 3, none⟩)) rfl (by kernel_rfl) (by kernel_rfl) (by kernel_rfl) (fun _ _ _ h => h) (Or.inl ⟨by rfl, fun w9 hSw => ?_⟩) hHeld ?_
  · go_simp
  simp only [List.getElem_toArray, List.getElem_cons_succ, List.getElem_cons_zero, Act.put, List.setIfInBounds_toArray, List.set_cons_zero, List.set_cons_succ]
  refine wpAnyH_ready (rs := [5]) (by kernel_rfl) (by simp) ?_
  refine AllReadyH.cons rfl (fun K hK => ?_) AllReadyH.nil
  have cd : W.drew.cell? ⟨pb, 3, none⟩ = some (.slice dva bs.length dvc) := by rw [cell_of_block (w := W.drew) HP.out]; rfl
  go_simp
  refine hK.out _ _ hHeld (fun hHeld => ?_)
  clear hK K
  try simp only [List.getElem_toArray, List.getElem_cons_succ, List.getElem_cons_zero, Act.put, List.setIfInBounds_toArray, List.set_cons_zero, List.set_cons_succ]
  refine wpAnyH_take (i := 7) (v := .pointer (some ⟨pb, 0, none⟩)) rfl (by kernel_rfl) (by kernel_rfl) (by kernel_rfl) (fun _ _ _ h => h) (Or.inl ⟨by rfl, fun w9 hSw => ?_⟩) hHeld ?_
  · go_simp
  simp only [List.getElem_toArray, List.getElem_cons_succ, List.getElem_cons_zero, Act.put, List.setIfInBounds_toArray, List.set_cons_zero, List.set_cons_succ]
  refine wpAnyH_ready (rs := [6]) (by kernel_rfl) (by simp) ?_
  refine AllReadyH.cons rfl (fun K hK => ?_) AllReadyH.nil
  have H1 : Hid (NetIs W.drew b N ∧ BytesV W.drew (.slice dva bs.length dvc) bs ∧ Below w.heap.size w W.drew ∧ W.drew.heap[pb]? = some (.cells #[.int .i64 id, .int .i64 fr, .int .i64 to, .slice dva bs.length dvc] 35)) := ⟨HC.out.1.below ⟨rfl, rfl, rfl, Nat.le_refl _, fun _ _ => rfl⟩, HC.out.2.2.2.1.below ⟨rfl, rfl, rfl, Nat.le_refl _, fun _ _ => rfl⟩, HC.out.2.2.2.2.1.trans ⟨rfl, rfl, rfl, Nat.le_refl _, fun _ _ => rfl⟩, HP.out⟩
  clear cd
  generalize W.drew = w1 at hHeld H1 ⊢
  go_simp
  refine Calls.mono (bclone_any _ bs H1.out.2.1 (by have := HC.out; omega)) ?_
  rintro e w2 ⟨dv2, rfl, ho2, hb2⟩
  have hbw := hb2.size
  have H2 : Hid (NetIs w2 b N ∧ BytesV w2 dv2 bs ∧ Below w.heap.size w w2 ∧ w2.heap[pb]? = some (.cells #[.int .i64 id, .int .i64 fr, .int .i64 to, .slice dva bs.length dvc] 35) ∧ ∀ x, dBlock dv2 bs.length = some x → w.heap.size ≤ x ∧ x ≠ pb) := ⟨H1.out.1.below hb2, BytesV.of_own ho2, H1.out.2.2.1.trans (hb2.mono H1.out.2.2.1.size), (hb2.block pb (heap_lt H1.out.2.2.2)).trans H1.out.2.2.2, fun x hx => ⟨Nat.le_trans H1.out.2.2.1.size (ho2.lt x (dBlock_own hx)).1, fun e => by have := (ho2.lt x (dBlock_own hx)).1; have := heap_lt H1.out.2.2.2; omega⟩⟩
  obtain ⟨d2a, d2c, rfl⟩ := row_form ho2
  clear hHeld ho2 hb2 hbw
  have hH2 : w2.cell? ⟨b, 5, none⟩ = some (.int .i64 N.next) := H2.out.1.cells.2.2.2.2.2.1
  have z0 : w2.frozen? ⟨pb, 0, none⟩ = false := unfrozen_of_block H2.out.2.2.2.1 0
  have z3 : w2.frozen? ⟨pb, 3, none⟩ = false := unfrozen_of_block H2.out.2.2.2.1 3
  have k0 : w2.cell? ⟨pb, 0, none⟩ = some (.int .i64 id) := by rw [cell_of_block H2.out.2.2.2.1]; rfl
  have k3 : w2.cell? ⟨pb, 3, none⟩ = some (.slice dva bs.length dvc) := by rw [cell_of_block H2.out.2.2.2.1]; rfl
  go_wp2_with fail
  refine hK.out _ _ hH2 (fun hHeld => ?_)
  clear hK K
  try simp only [List.getElem_toArray, List.getElem_cons_succ, List.getElem_cons_zero, Act.put, List.setIfInBounds_toArray, List.set_cons_zero, List.set_cons_succ]
  refine wpAnyH_ready (rs := [8]) (by kernel_rfl) (by simp) ?_
  refine AllReadyH.cons rfl (fun K hK => ?_) AllReadyH.nil
  go_simp
  have hH3 : (w2.setCell ⟨pb, 0, none⟩ (.int .i64 N.next)).cell? ⟨b, 5, none⟩ = some (.int .i64 N.next) := by go_simp
  go_wp2_with fail
  refine hK.out _ _ hH3 (fun hHeld => ?_)
  clear hK K
  try simp only [List.getElem_toArray, List.getElem_cons_succ, List.getElem_cons_zero, Act.put, List.setIfInBounds_toArray, List.set_cons_zero, List.set_cons_succ]
  refine wpAnyH_take (i := 9) (v := .pointer (some ⟨pb, 3, none⟩)) rfl (by kernel_rfl) (by kernel_rfl) (by kernel_rfl) (fun _ _ _ h => h) (Or.inl ⟨by rfl, fun w9 hSw => ?_⟩) hHeld ?_
  · go_simp
  simp only [List.getElem_toArray, List.getElem_cons_succ, List.getElem_cons_zero, Act.put, List.setIfInBounds_toArray, List.set_cons_zero, List.set_cons_succ]
  refine wpAnyH_ready (rs := [10]) (by kernel_rfl) (by simp) ?_
  refine AllReadyH.cons rfl (fun K hK => ?_) AllReadyH.nil
  go_simp
  obtain ⟨w3, hw3⟩ : ∃ w3, w3 = (w2.setCell ⟨pb, 0, none⟩ (.int .i64 N.next)).setCell ⟨pb, 3, none⟩ (.slice d2a bs.length d2c) := ⟨_, rfl⟩
  have hk3 : Below pb w2 w3 := by rw [hw3]; exact ((Below.refl _ w2).setCell (p := ⟨pb, 0, none⟩) (Nat.le_refl _) _).setCell (p := ⟨pb, 3, none⟩) (Nat.le_refl _) _
  have hB3 : w3.heap[pb]? = some (.cells #[.int .i64 N.next, .int .i64 fr, .int .i64 to, .slice d2a bs.length d2c] 35) := by rw [hw3, block_setCell (block_setCell H2.out.2.2.2.1 _) _]; simp
  rw [← hw3]
  have hpb := HW.out.2
  have H3 : Hid (NetIs w3 b N ∧ BytesV w3 (.slice d2a bs.length d2c) bs ∧ Below w.heap.size w w3 ∧ w3.heap[pb]? = some (.cells #[.int .i64 N.next, .int .i64 fr, .int .i64 to, .slice d2a bs.length d2c] 35) ∧ ∀ x, dBlock (.slice d2a bs.length d2c) bs.length = some x → w.heap.size ≤ x ∧ x ≠ pb) := by
    have hk9 : ∀ x, x ≠ pb → w3.heap[x]? = w2.heap[x]? := fun x hx => by rw [hw3, Below.heap_setCell _ _ _ _ hx, Below.heap_setCell _ _ _ _ hx]
    have hBw : Below w.heap.size w w3 := H2.out.2.2.1.trans (by rw [← hpb]; exact hk3)
    exact ⟨HC.out.2.2.2.2.2.2.2.2.below hBw, H2.out.2.1.kept (fun x hx => hk9 x (H2.out.2.2.2.2 x hx).2), hBw, hB3, H2.out.2.2.2.2⟩
  have hH4 : w3.cell? ⟨b, 5, none⟩ = some (.int .i64 N.next) := H3.out.1.cells.2.2.2.2.2.1
  clear hw3 hk3 hB3 hpb hH2 hH3 z0 z3 k0 k3 H2 H1 hHeld
  go_wp2_with fail
  refine hK.out _ _ hH4 (fun hHeld => ?_)
  clear hK K
  try simp only [List.getElem_toArray, List.getElem_cons_succ, List.getElem_cons_zero, Act.put, List.setIfInBounds_toArray, List.set_cons_zero, List.set_cons_succ]
  refine wpAnyH_done (by kernel_rfl) ?_ _
  clear hH4 hHeld
  go_wp2_with fail
  have hfv4 : w3.cell? ⟨b, 6, none⟩ = some (.slice fa n fc) := H3.out.1.cells.2.2.2.2.2.2.1.trans (by rw [HC.out.2.1])
  refine wp_region_held_drew (S := fun w' => w'.heap[pb]? = some (.cells #[.int .i64 N.next, .int .i64 fr, .int .i64 to, .slice d2a bs.length d2c] 35)) (by kernel_rfl) H3.out.2.2.2.1 (fun hHeld => ?_)
  refine wpAnyH_take (i := 0) (v := .pointer (some ⟨b, 0, none⟩)) rfl (by kernel_rfl) (by kernel_rfl) (by kernel_rfl) (fun _ _ _ h => h) (Or.inl ⟨by rfl, fun w9 hSw => ?_⟩) hHeld ?_
  · go_simp
  simp only [List.getElem_toArray, List.getElem_cons_succ, List.getElem_cons_zero, Act.put, List.setIfInBounds_toArray, List.set_cons_zero, List.set_cons_succ]
  refine wpAnyH_take (i := 1) (v := .pointer (some ⟨b, 0, none⟩)) rfl (by kernel_rfl) (by kernel_rfl) (by kernel_rfl) (fun _ _ _ h => h) (Or.inl ⟨by rfl, fun w9 hSw => ?_⟩) hHeld ?_
  · go_simp
  simp only [List.getElem_toArray, List.getElem_cons_succ, List.getElem_cons_zero, Act.put, List.setIfInBounds_toArray, List.set_cons_zero, List.set_cons_succ]
  refine wpAnyH_take (i := 2) (v := .pointer (some ⟨b, 0, none⟩)) rfl (by kernel_rfl) (by kernel_rfl) (by kernel_rfl) (fun _ _ _ h => h) (Or.inl ⟨by rfl, fun w9 hSw => ?_⟩) hHeld ?_
  · go_simp
  simp only [List.getElem_toArray, List.getElem_cons_succ, List.getElem_cons_zero, Act.put, List.setIfInBounds_toArray, List.set_cons_zero, List.set_cons_succ]
  refine wpAnyH_take (i := 3) (v := .pointer (some ⟨b, 6, none⟩)) rfl (by kernel_rfl) (by kernel_rfl) (by kernel_rfl) (fun _ _ _ h => h) (Or.inl ⟨by rfl, fun w9 hSw => ?_⟩) hHeld ?_
  · go_simp
  simp only [List.getElem_toArray, List.getElem_cons_succ, List.getElem_cons_zero, Act.put, List.setIfInBounds_toArray, List.set_cons_zero, List.set_cons_succ]
  refine wpAnyH_take (i := 5) (v := .agg #[.int .i64 N.next, .int .i64 fr, .int .i64 to, .slice d2a bs.length d2c]) rfl (by kernel_rfl) (by kernel_rfl) (by kernel_rfl) (fun _ _ _ h => h) (Or.inl ⟨by rfl, fun w9 hSw => ?_⟩) hHeld ?_
  · have k0 : w9.cell? ⟨pb, 0, none⟩ = some (.int .i64 N.next) := (cell_of_block hSw 0).trans rfl
    have k1 : w9.cell? ⟨pb, 1, none⟩ = some (.int .i64 fr) := (cell_of_block hSw 1).trans rfl
    have k2 : w9.cell? ⟨pb, 2, none⟩ = some (.int .i64 to) := (cell_of_block hSw 2).trans rfl
    have k3 : w9.cell? ⟨pb, 3, none⟩ = some (.slice d2a bs.length d2c) := (cell_of_block hSw 3).trans rfl
    go_simp
  simp only [List.getElem_toArray, List.getElem_cons_succ, List.getElem_cons_zero, Act.put, List.setIfInBounds_toArray, List.set_cons_zero, List.set_cons_succ]
  have H4 : Hid (NetIs w3.drew b N ∧ BytesV w3.drew (.slice d2a bs.length d2c) bs ∧ Below w.heap.size w w3.drew) := ⟨H3.out.1.below ⟨rfl, rfl, rfl, Nat.le_refl _, fun _ _ => rfl⟩, H3.out.2.1.below ⟨rfl, rfl, rfl, Nat.le_refl _, fun _ _ => rfl⟩, H3.out.2.2.1.drew⟩
  have HD : Hid (∀ x, dBlock (.slice d2a bs.length d2c) bs.length = some x → w.heap.size ≤ x ∧ x ≠ pb) := H3.out.2.2.2.2
  have hc6 : w3.drew.cell? ⟨b, 6, none⟩ = some (.slice fa n fc) := hfv4
  clear H3 hfv4
  generalize w3.drew = w4 at hHeld H4 hc6 ⊢
  have HX : Hid (∃ w5 g5, w5 = w4.alloc (.cells #[.int .i64 N.next, .int .i64 fr, .int .i64 to, .slice d2a bs.length d2c] 35) ∧ g5 = w4.heap.size ∧ Below w4.heap.size w4 w5 ∧ w5.ownsRow 0 35 4 (.slice fa n fc) n (pkL N.fl) ∧ w5.heap[g5]? = some (.cells (pkC ⟨N.next, fr, to, .slice d2a bs.length d2c, bs⟩).toArray 35) ∧ w5.heap[pb]? = some (.cells #[.int .i64 N.next, .int .i64 fr, .int .i64 to, .slice d2a bs.length d2c] 35) ∧ w5.cell? ⟨b, 6, none⟩ = some (.slice fa n fc)) := by
    have hB5 : Below w4.heap.size w4 (w4.alloc (.cells #[.int .i64 N.next, .int .i64 fr, .int .i64 to, .slice d2a bs.length d2c] 35)) := (Below.refl _ w4).alloc (Nat.le_refl _) _
    refine ⟨_, _, rfl, rfl, hB5, ?_, heap_alloc_new _ _, (hB5.block pb (heap_lt hHeld)).trans hHeld, (hB5.cell H4.out.1.lt).trans hc6⟩
    have h1 := (H4.out.1.below hB5).fl
    rw [HC.out.2.1, ← HC.out.2.2.1] at h1
    exact h1
  obtain ⟨w5, g5, hw5, hg5, q⟩ := HX.out
  have H5 : Hid (Below w4.heap.size w4 w5 ∧ w5.ownsRow 0 35 4 (.slice fa n fc) n (pkL N.fl) ∧ w5.heap[g5]? = some (.cells (pkC ⟨N.next, fr, to, .slice d2a bs.length d2c, bs⟩).toArray 35) ∧ w5.heap[pb]? = some (.cells #[.int .i64 N.next, .int .i64 fr, .int .i64 to, .slice d2a bs.length d2c] 35)) := ⟨q.1, q.2.1, q.2.2.1, q.2.2.2.1⟩
  have hc65 : w5.cell? ⟨b, 6, none⟩ = some (.slice fa n fc) := q.2.2.2.2
  have hn5 : n + 1 ≤ 1000000 := by omega
  have HW5 : Hid (w5 = w4.alloc (.cells #[.int .i64 N.next, .int .i64 fr, .int .i64 to, .slice d2a bs.length d2c] 35) ∧ g5 = w4.heap.size) := ⟨hw5, hg5⟩
  clear q HX hw5 hg5
  refine wpAnyH_ready (rs := [4, 6]) (by kernel_rfl) (by simp) ?_
  refine AllReadyH.cons rfl (fun K hK => ?_) (AllReadyH.cons rfl (fun K hK => ?_) AllReadyH.nil)
  · go_simp
    refine hK.out _ _ hHeld (fun hHeld => ?_)
    clear hK K
    try simp only [List.getElem_toArray, List.getElem_cons_succ, List.getElem_cons_zero, Act.put, List.setIfInBounds_toArray, List.set_cons_zero, List.set_cons_succ]
    refine wpAnyH_ready (rs := [6]) (by kernel_rfl) (by simp) ?_
    refine AllReadyH.cons rfl (fun K hK => ?_) AllReadyH.nil
    go_simp
    have hw5 := HW5.out.1
    have hg5 := HW5.out.2
    rw [← hw5, ← hg5]
    have hH6 : w5.heap[pb]? = some (.cells #[.int .i64 N.next, .int .i64 fr, .int .i64 to, .slice d2a bs.length d2c] 35) := H5.out.2.2.2
    clear hw5 hg5 hc65
    go_wp2_with fail
    refine hK.out _ _ hH6 (fun hHeld => ?_)
    clear hK K
    try simp only [List.getElem_toArray, List.getElem_cons_succ, List.getElem_cons_zero, Act.put, List.setIfInBounds_toArray, List.set_cons_zero, List.set_cons_succ]
    refine wpAnyH_ready (rs := [7]) (by kernel_rfl) (by simp) ?_
    refine AllReadyH.cons rfl (fun K hK => ?_) AllReadyH.nil
    refine elP.step_own rfl (.tmp 24) (.tmp 26) rfl 0 (.slice fa n fc) n (pkL N.fl) rfl H5.out.2.1 ⟨g5, 0, none⟩ 1 1 rfl (pkC ⟨N.next, fr, to, .slice d2a bs.length d2c, bs⟩) rfl (pkC_new H5.out.2.2.1) (fun u hu => by simp only [pkC, List.mem_cons, List.not_mem_nil, or_false] at hu; rcases hu with rfl | rfl | rfl | rfl <;> rfl) hn5 (Nat.zero_le _) ?_
    intro v6 w6 ho6 hg6 ha6
    obtain ⟨va, vc, rfl⟩ := row_form ho6
    have hg46 : w4.grownBy w6 N.fv.ownBlock := gb_comp (gb_of_below H5.out.1 _) hg6 (Or.inl (by rw [HC.out.2.1]))
    have hpk : pkL (N.fl ++ [⟨N.next, fr, to, .slice d2a bs.length d2c, bs⟩]) = pkL N.fl ++ pkC ⟨N.next, fr, to, .slice d2a bs.length d2c, bs⟩ := by rw [pkL_append]; simp [pkL]
    have hpl : (N.fl ++ [(⟨N.next, fr, to, .slice d2a bs.length d2c, bs⟩ : PK)]).length = n + 1 := by rw [List.length_append, ← HC.out.2.2.1]; rfl
    have hfr := HC.out.2.2.2.2.2.2.2.2.fresh
    have hend := setF_end (v := .slice va (n + 1) vc) (l := N.fl ++ [⟨N.next, fr, to, .slice d2a bs.length d2c, bs⟩]) H4.out.1 hg46 (by rw [hpk, hpl]; exact ho6) (by
      rcases ha6 with e | e
      · exact Or.inl (by rw [HC.out.2.1]; exact e)
      · exact Or.inr (fun x hx => by rw [e] at hx; injection hx with hx; have := H5.out.1.size; omega)) (fun p hp => by
      rcases List.mem_append.1 hp with hp | hp
      · exact H4.out.1.data p hp
      · rw [List.mem_singleton.1 hp]; exact H4.out.2.1) (fun p hp x hx => by
      rcases List.mem_append.1 hp with hp | hp
      · exact H4.out.1.rd p hp x hx
      · rw [List.mem_singleton.1 hp] at hx; exact hfr x (HD.out x hx).1)
    have hb4 := H4.out.1.lt
    have hnb : ∀ x, N.own x ≠ 3 → x < w4.heap.size → w6.heap[x]? = w4.heap[x]? := fun x h3 hx => hg46.block x hx (fun e => h3 (H4.out.1.rf x e.symm))
    have hb6 : w6.heap[b]? = some (.cells (nC N) 82) := (hnb b (by rw [H4.out.1.rn]; decide) hb4).trans H4.out.1.net
    have hS6 : w6.heap[pb]? = some (.cells #[.int .i64 N.next, .int .i64 fr, .int .i64 to, .slice d2a bs.length d2c] 35) := (hg6.block pb (heap_lt H5.out.2.2.2) (fun e => by
      have h3 := H4.out.1.rf pb (by rw [HC.out.2.1]; exact e.symm)
      rw [hfr pb (by have := HW.out.2; omega)] at h3
      cases h3)).trans H5.out.2.2.2
    have hS7 : (w6.setCell ⟨b, 6, none⟩ (.slice va (n + 1) vc)).heap[pb]? = some (.cells #[.int .i64 N.next, .int .i64 fr, .int .i64 to, .slice d2a bs.length d2c] 35) := (Below.heap_setCell _ _ _ _ (fun e => hbp e.symm)).trans hS6
    have d6 : w6.cell? ⟨b, 6, none⟩ = some (.slice fa n fc) := by rw [cell_of_block hb6]; show some N.fv = _; rw [HC.out.2.1]
    have z6 : w6.frozen? ⟨b, 6, none⟩ = false := unfrozen_of_block hb6 6
    have HE : Hid (NetIs (w6.setCell ⟨b, 6, none⟩ (.slice va (n + 1) vc)) b (setF N (.slice va (n + 1) vc) (N.fl ++ [⟨N.next, fr, to, .slice d2a bs.length d2c, bs⟩])) ∧ NFq w4 (w6.setCell ⟨b, 6, none⟩ (.slice va (n + 1) vc)) N (setF N (.slice va (n + 1) vc) (N.fl ++ [⟨N.next, fr, to, .slice d2a bs.length d2c, bs⟩]))) := hend
    clear ho6 hg6 ha6 hg46 hpk hpl hend hnb hb6 hHeld
    go_wp2_with fail
    refine hK.out _ _ hS6 (fun hHeld => ?_)
    clear hK K
    try simp only [List.getElem_toArray, List.getElem_cons_succ, List.getElem_cons_zero, Act.put, List.setIfInBounds_toArray, List.set_cons_zero, List.set_cons_succ]
    refine wpAnyH_take (i := 8) (v := .pointer (some ⟨b, 0, none⟩)) rfl (by kernel_rfl) (by kernel_rfl) (by kernel_rfl) (fun _ _ _ h => h) (Or.inl ⟨by rfl, fun w9 hSw => ?_⟩) hHeld ?_
    · go_simp
    simp only [List.getElem_toArray, List.getElem_cons_succ, List.getElem_cons_zero, Act.put, List.setIfInBounds_toArray, List.set_cons_zero, List.set_cons_succ]
    refine wpAnyH_take (i := 9) (v := .pointer (some ⟨b, 6, none⟩)) rfl (by kernel_rfl) (by kernel_rfl) (by kernel_rfl) (fun _ _ _ h => h) (Or.inl ⟨by rfl, fun w9 hSw => ?_⟩) hHeld ?_
    · go_simp
    simp only [List.getElem_toArray, List.getElem_cons_succ, List.getElem_cons_zero, Act.put, List.setIfInBounds_toArray, List.set_cons_zero, List.set_cons_succ]
    refine wpAnyH_ready (rs := [10]) (by kernel_rfl) (by simp) ?_
    refine AllReadyH.cons rfl (fun K hK => ?_) AllReadyH.nil
    go_simp
    clear hS6 d6 z6
    have hS8 := hS7
    clear hS7
    obtain ⟨w7, hw7⟩ : ∃ w7, w7 = w6.setCell ⟨b, 6, none⟩ (.slice va (n + 1) vc) := ⟨_, rfl⟩
    rw [← hw7] at HE hS8 ⊢
    clear hw7
    go_wp2_with fail
    refine hK.out _ _ hS8 (fun hHeld => ?_)
    clear hK K
    try simp only [List.getElem_toArray, List.getElem_cons_succ, List.getElem_cons_zero, Act.put, List.setIfInBounds_toArray, List.set_cons_zero, List.set_cons_succ]
    refine wpAnyH_done (by kernel_rfl) ?_ _
    have c5 : w7.cell? ⟨b, 5, none⟩ = some (.int .i64 N.next) := HE.out.1.cells.2.2.2.2.2.1
    have z5 : w7.frozen? ⟨b, 5, none⟩ = false := HE.out.1.unfrozen 5
    clear hHeld hS8
    go_wp2
    go_ret
    have h9 := setNx_end HE.out.1 (N.next + 1)
    have hD := HD.out
    refine ⟨rfl, _, h9.1, ⟨(NFr.below H4.out.2.2).toNFq.trans (HE.out.2.trans h9.2.toNFq), fun p hp x hx => ?_⟩, ?_⟩
    · rcases List.mem_append.1 (show p ∈ N.fl ++ [⟨N.next, fr, to, .slice d2a bs.length d2c, bs⟩] from hp) with hp | hp
      · exact Or.inl ⟨p, hp, hx⟩
      · rw [List.mem_singleton.1 hp] at hx
        exact Or.inr (hD x hx).1
    show absN _ = _
    simp [absN, nPut, setNx, setF, pkA]
  · go_simp
    have hw5 := HW5.out.1
    have hg5 := HW5.out.2
    rw [← hw5, ← hg5]
    have hH6 : w5.heap[pb]? = some (.cells #[.int .i64 N.next, .int .i64 fr, .int .i64 to, .slice d2a bs.length d2c] 35) := H5.out.2.2.2
    clear hw5 hg5
    go_wp2_with fail
    refine hK.out _ _ hH6 (fun hHeld => ?_)
    clear hK K
    try simp only [List.getElem_toArray, List.getElem_cons_succ, List.getElem_cons_zero, Act.put, List.setIfInBounds_toArray, List.set_cons_zero, List.set_cons_succ]
    refine wpAnyH_ready (rs := [4]) (by kernel_rfl) (by simp) ?_
    refine AllReadyH.cons rfl (fun K hK => ?_) AllReadyH.nil
    go_simp
    clear hc65
    refine hK.out _ _ hHeld (fun hHeld => ?_)
    clear hK K
    try simp only [List.getElem_toArray, List.getElem_cons_succ, List.getElem_cons_zero, Act.put, List.setIfInBounds_toArray, List.set_cons_zero, List.set_cons_succ]
    refine wpAnyH_ready (rs := [7]) (by kernel_rfl) (by simp) ?_
    refine AllReadyH.cons rfl (fun K hK => ?_) AllReadyH.nil
    refine elP.step_own rfl (.tmp 24) (.tmp 26) rfl 0 (.slice fa n fc) n (pkL N.fl) rfl H5.out.2.1 ⟨g5, 0, none⟩ 1 1 rfl (pkC ⟨N.next, fr, to, .slice d2a bs.length d2c, bs⟩) rfl (pkC_new H5.out.2.2.1) (fun u hu => by simp only [pkC, List.mem_cons, List.not_mem_nil, or_false] at hu; rcases hu with rfl | rfl | rfl | rfl <;> rfl) hn5 (Nat.zero_le _) ?_
    intro v6 w6 ho6 hg6 ha6
    obtain ⟨va, vc, rfl⟩ := row_form ho6
    have hg46 : w4.grownBy w6 N.fv.ownBlock := gb_comp (gb_of_below H5.out.1 _) hg6 (Or.inl (by rw [HC.out.2.1]))
    have hpk : pkL (N.fl ++ [⟨N.next, fr, to, .slice d2a bs.length d2c, bs⟩]) = pkL N.fl ++ pkC ⟨N.next, fr, to, .slice d2a bs.length d2c, bs⟩ := by rw [pkL_append]; simp [pkL]
    have hpl : (N.fl ++ [(⟨N.next, fr, to, .slice d2a bs.length d2c, bs⟩ : PK)]).length = n + 1 := by rw [List.length_append, ← HC.out.2.2.1]; rfl
    have hfr := HC.out.2.2.2.2.2.2.2.2.fresh
    have hend := setF_end (v := .slice va (n + 1) vc) (l := N.fl ++ [⟨N.next, fr, to, .slice d2a bs.length d2c, bs⟩]) H4.out.1 hg46 (by rw [hpk, hpl]; exact ho6) (by
      rcases ha6 with e | e
      · exact Or.inl (by rw [HC.out.2.1]; exact e)
      · exact Or.inr (fun x hx => by rw [e] at hx; injection hx with hx; have := H5.out.1.size; omega)) (fun p hp => by
      rcases List.mem_append.1 hp with hp | hp
      · exact H4.out.1.data p hp
      · rw [List.mem_singleton.1 hp]; exact H4.out.2.1) (fun p hp x hx => by
      rcases List.mem_append.1 hp with hp | hp
      · exact H4.out.1.rd p hp x hx
      · rw [List.mem_singleton.1 hp] at hx; exact hfr x (HD.out x hx).1)
    have hb4 := H4.out.1.lt
    have hnb : ∀ x, N.own x ≠ 3 → x < w4.heap.size → w6.heap[x]? = w4.heap[x]? := fun x h3 hx => hg46.block x hx (fun e => h3 (H4.out.1.rf x e.symm))
    have hb6 : w6.heap[b]? = some (.cells (nC N) 82) := (hnb b (by rw [H4.out.1.rn]; decide) hb4).trans H4.out.1.net
    have hS6 : w6.heap[pb]? = some (.cells #[.int .i64 N.next, .int .i64 fr, .int .i64 to, .slice d2a bs.length d2c] 35) := (hg6.block pb (heap_lt H5.out.2.2.2) (fun e => by
      have h3 := H4.out.1.rf pb (by rw [HC.out.2.1]; exact e.symm)
      rw [hfr pb (by have := HW.out.2; omega)] at h3
      cases h3)).trans H5.out.2.2.2
    have hS7 : (w6.setCell ⟨b, 6, none⟩ (.slice va (n + 1) vc)).heap[pb]? = some (.cells #[.int .i64 N.next, .int .i64 fr, .int .i64 to, .slice d2a bs.length d2c] 35) := (Below.heap_setCell _ _ _ _ (fun e => hbp e.symm)).trans hS6
    have d6 : w6.cell? ⟨b, 6, none⟩ = some (.slice fa n fc) := by rw [cell_of_block hb6]; show some N.fv = _; rw [HC.out.2.1]
    have z6 : w6.frozen? ⟨b, 6, none⟩ = false := unfrozen_of_block hb6 6
    have HE : Hid (NetIs (w6.setCell ⟨b, 6, none⟩ (.slice va (n + 1) vc)) b (setF N (.slice va (n + 1) vc) (N.fl ++ [⟨N.next, fr, to, .slice d2a bs.length d2c, bs⟩])) ∧ NFq w4 (w6.setCell ⟨b, 6, none⟩ (.slice va (n + 1) vc)) N (setF N (.slice va (n + 1) vc) (N.fl ++ [⟨N.next, fr, to, .slice d2a bs.length d2c, bs⟩]))) := hend
    clear ho6 hg6 ha6 hg46 hpk hpl hend hnb hb6 hHeld
    go_wp2_with fail
    refine hK.out _ _ hS6 (fun hHeld => ?_)
    clear hK K
    try simp only [List.getElem_toArray, List.getElem_cons_succ, List.getElem_cons_zero, Act.put, List.setIfInBounds_toArray, List.set_cons_zero, List.set_cons_succ]
    refine wpAnyH_take (i := 8) (v := .pointer (some ⟨b, 0, none⟩)) rfl (by kernel_rfl) (by kernel_rfl) (by kernel_rfl) (fun _ _ _ h => h) (Or.inl ⟨by rfl, fun w9 hSw => ?_⟩) hHeld ?_
    · go_simp
    simp only [List.getElem_toArray, List.getElem_cons_succ, List.getElem_cons_zero, Act.put, List.setIfInBounds_toArray, List.set_cons_zero, List.set_cons_succ]
    refine wpAnyH_take (i := 9) (v := .pointer (some ⟨b, 6, none⟩)) rfl (by kernel_rfl) (by kernel_rfl) (by kernel_rfl) (fun _ _ _ h => h) (Or.inl ⟨by rfl, fun w9 hSw => ?_⟩) hHeld ?_
    · go_simp
    simp only [List.getElem_toArray, List.getElem_cons_succ, List.getElem_cons_zero, Act.put, List.setIfInBounds_toArray, List.set_cons_zero, List.set_cons_succ]
    refine wpAnyH_ready (rs := [10]) (by kernel_rfl) (by simp) ?_
    refine AllReadyH.cons rfl (fun K hK => ?_) AllReadyH.nil
    go_simp
    clear hS6 d6 z6
    have hS8 := hS7
    clear hS7
    obtain ⟨w7, hw7⟩ : ∃ w7, w7 = w6.setCell ⟨b, 6, none⟩ (.slice va (n + 1) vc) := ⟨_, rfl⟩
    rw [← hw7] at HE hS8 ⊢
    clear hw7
    go_wp2_with fail
    refine hK.out _ _ hS8 (fun hHeld => ?_)
    clear hK K
    try simp only [List.getElem_toArray, List.getElem_cons_succ, List.getElem_cons_zero, Act.put, List.setIfInBounds_toArray, List.set_cons_zero, List.set_cons_succ]
    refine wpAnyH_done (by kernel_rfl) ?_ _
    have c5 : w7.cell? ⟨b, 5, none⟩ = some (.int .i64 N.next) := HE.out.1.cells.2.2.2.2.2.1
    have z5 : w7.frozen? ⟨b, 5, none⟩ = false := HE.out.1.unfrozen 5
    clear hHeld hS8
    go_wp2
    go_ret
    have h9 := setNx_end HE.out.1 (N.next + 1)
    have hD := HD.out
    refine ⟨rfl, _, h9.1, ⟨(NFr.below H4.out.2.2).toNFq.trans (HE.out.2.trans h9.2.toNFq), fun p hp x hx => ?_⟩, ?_⟩
    · rcases List.mem_append.1 (show p ∈ N.fl ++ [⟨N.next, fr, to, .slice d2a bs.length d2c, bs⟩] from hp) with hp | hp
      · exact Or.inl ⟨p, hp, hx⟩
      · rw [List.mem_singleton.1 hp] at hx
        exact Or.inr (hD x hx).1
    show absN _ = _
    simp [absN, nPut, setNx, setF, pkA]
end Go.Proofs.Ytemapnfbmhjlbaa
