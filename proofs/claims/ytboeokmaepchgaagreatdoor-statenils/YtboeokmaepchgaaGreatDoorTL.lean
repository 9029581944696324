/- trie: set of an empty tree, Get of a tree of one leaf. -/
import Derived.Test.YtboeokmaepchgaaGreatDoorM22
import Derived.Test.YtboeokmaepchgaaGreatDoorM21
namespace Go.Proofs.YtboeokmaepchgaaGreatDoor
open Go.RowKit Go.Maps Go.Joins Go.Shelf
set_option linter.unusedSimpArgs false
set_option linter.unusedVariables false
/-- bytes.Equal of the same bytes. -/
theorem bequal_t {w : World} {a b : Value} {xs : List Int} (ha : BytesV w a xs) (hb : BytesV w b xs) : Calls Tryz.prog 80 #[a, b] w fun e w' => e = .returned (.bool true) ∧ w' = w := by
  have h1 := conv_b ha
  have h2 := conv_b hb
  obtain ⟨_, _, rfl⟩ := ha.form
  obtain ⟨_, _, rfl⟩ := hb.form
  clear ha hb
  go_enter Tryz.func80, Tryz.ntmps80
  go_wp2
  go_ret
  exact ⟨by simp, rfl⟩
set_option maxRecDepth 100000 in
set_option maxHeartbeats 4000000 in
/-- changed of no node -/
theorem changed_nil {w : World} {p : Value} {a b : Option Addr} {n c m d : Nat} (hm : 0 < m) :
    Calls Tryz.prog 90 #[p, .nilIface, .slice a n c, .slice b m d] w fun e w' => e = .returned (.iface 130 (.pointer (some ⟨w.heap.size, 0, none⟩))) ∧ w' = w.alloc (.cells #[.slice a n c, .slice b m d] 132) := by
  have h1 : ∃ z, ∀ w : World, (Instr.typeAssert .nilIface 75 128 true).run Tryz.prog w = .ok (.tuple #[z, .bool false]) w := ⟨.agg z32, fun w => by kernel_rfl⟩
  obtain ⟨z, h1⟩ := h1
  have h2 : ∀ w : World, (Instr.typeAssert .nilIface 75 130 true).run Tryz.prog w = .ok (.tuple #[.pointer none, .bool false]) w := fun w => by kernel_rfl
  have h3 : ∀ w : World, (Instr.typeAssert .nilIface 75 133 true).run Tryz.prog w = .ok (.tuple #[.pointer none, .bool false]) w := fun w => by kernel_rfl
  have h4 : ∀ w : World, (Instr.typeAssert .nilIface 75 137 true).run Tryz.prog w = .ok (.tuple #[.pointer none, .bool false]) w := fun w => by kernel_rfl
  have hmi : ¬ (m : Int) = 0 := by omega
  have hmn : ¬ m = 0 := by omega
  go_enter Tryz.func90, Tryz.ntmps90
  go_wp2
  go_ret
  exact ⟨rfl, rfl⟩
set_option maxRecDepth 100000 in
set_option maxHeartbeats 2000000 in
theorem idle89 (p : Addr) (w : World) :
    CallsD Tryz.prog 89 #[.pointer (some p)] .returning w fun e u' w' => e = .returned (.tuple #[]) ∧ u' = .returning ∧ w' = w := by
  have hne : ∀ w : World, (binOp .neq 20 .nilIface .nilIface : Sem Value).run Tryz.prog w = .ok (.bool false) w := fun w => by kernel_rfl
  refine callsD_of_wpS Tryz.func89 rfl fun c₀ cs hu => ?_
  simp only [Tryz.ntmps89, List.size_toArray, List.length_cons, List.length_nil, Nat.reduceAdd, Nat.reduceSub, Array.replicate_succ, Array.replicate_zero, List.push_toArray, List.append_toArray, List.nil_append, List.cons_append]
  apply wpS_seq
  apply wpS_region
  simp [wpOpsS, go_sem, recoverD, hu, hne, Exit.thenS]
  refine wpS_of_wp ?_
  go_wp2
  exact ⟨rfl, c₀.mode, rfl, _, results_none rfl _ _ _, rfl, hu, rfl⟩
set_option maxRecDepth 100000 in
set_option maxHeartbeats 2000000 in
theorem idle42 (p q s : Addr) (w : World) :
    CallsD Tryz.prog 42 #[.pointer (some p), .pointer (some q), .pointer (some s)] .returning w fun e u' w' => e = .returned (.tuple #[]) ∧ u' = .returning ∧ w' = w := by
  have hne : ∀ w : World, (binOp .neq 20 .nilIface .nilIface : Sem Value).run Tryz.prog w = .ok (.bool false) w := fun w => by kernel_rfl
  refine callsD_of_wpS Tryz.func42 rfl fun c₀ cs hu => ?_
  simp only [Tryz.ntmps42, List.size_toArray, List.length_cons, List.length_nil, Nat.reduceAdd, Nat.reduceSub, Array.replicate_succ, Array.replicate_zero, List.push_toArray, List.append_toArray, List.nil_append, List.cons_append]
  apply wpS_seq
  apply wpS_region
  simp [wpOpsS, go_sem, recoverD, hu, hne, Exit.thenS]
  refine wpS_of_wp ?_
  go_wp2
  exact ⟨rfl, c₀.mode, rfl, _, results_none rfl _ _ _, rfl, hu, rfl⟩
set_option maxRecDepth 100000 in
set_option maxHeartbeats 4000000 in
/-- find of a leaf with this path -/
theorem find_leaf {w : World} {p : Value} {l : Nat} {pv vv : Value} {a : Option Addr} {c : Nat} {ns vs : List Int} (hl : w.heap[l]? = some (.cells #[pv, vv] 132)) (hp : BytesV w pv ns) (hv : BytesV w vv vs) (ha : BytesV w (.slice a ns.length c) ns) :
    Calls Tryz.prog 44 #[p, .iface 130 (.pointer (some ⟨l, 0, none⟩)), .slice a ns.length c] w fun e w' => e = .returned vv ∧ w' = w := by
  have h1 : ∃ z, ∀ w : World, (Instr.typeAssert (.iface 130 (.pointer (some ⟨l, 0, none⟩))) 75 128 true).run Tryz.prog w = .ok (.tuple #[z, .bool false]) w := ⟨.agg z32, fun w => by kernel_rfl⟩
  obtain ⟨z, h1⟩ := h1
  have h2 : ∀ w : World, (Instr.typeAssert (.iface 130 (.pointer (some ⟨l, 0, none⟩))) 75 130 true).run Tryz.prog w = .ok (.tuple #[.pointer (some ⟨l, 0, none⟩), .bool true]) w := fun w => by kernel_rfl
  have HC : Hid _ := bequal_t ha hp
  obtain ⟨pa, pc, rfl⟩ := hp.form
  obtain ⟨va, vc, rfl⟩ := hv.form
  have k0 : w.cell? ⟨l, 0, none⟩ = some (.slice pa ns.length pc) := (cell_of_block hl 0).trans rfl
  have k1 : w.cell? ⟨l, 1, none⟩ = some (.slice va vs.length vc) := (cell_of_block hl 1).trans rfl
  obtain ⟨n, hn⟩ : ∃ n, n = ns.length := ⟨_, rfl⟩
  obtain ⟨m, hm⟩ : ∃ m, m = vs.length := ⟨_, rfl⟩
  rw [← hn] at k0 HC
  rw [← hm] at k1
  rw [← hn, ← hm]
  clear hp hv ha hl hn hm
  go_enter Tryz.func44, Tryz.ntmps44
  go_wp2_with (first | (go_at_call 80; refine Calls.mono HC.out ?_; rintro e w1 ⟨rfl, h⟩; subst h))
  go_ret
  exact ⟨rfl, rfl⟩
theorem gb_below {w w1 w2 : World} {r : Option Nat} {B : Nat} (h : w.grownBy w1 r) (hB : w.heap.size ≤ B) (hb : Below B w1 w2) : w.grownBy w2 r :=
  ⟨hb.os.trans h.os, hb.tape.trans h.tape, hb.output.trans h.output, Nat.le_trans h.size hb.size, fun k hk hr => (hb.block k (Nat.lt_of_lt_of_le hk hB)).trans (h.block k hk hr)⟩
/-- A tree of one leaf. -/
def LeafT (w' : World) (b : Nat) (ks vs : List Int) : Prop := ∃ l pv vv, l ≠ b ∧ w'.heap[b]? = some (.cells #[.iface 130 (.pointer (some ⟨l, 0, none⟩)), .nilFunc] 78) ∧ w'.heap[l]? = some (.cells #[pv, vv] 132) ∧ BytesV w' pv (hvB ks) ∧ BytesV w' vv vs
/-- Behind the store into the tree. -/
structure SetT (w U : World) (b l : Nat) (pv vv : Value) (ks vs : List Int) (V : World) : Prop where
  bl : Below w.heap.size w U
  tr : U.heap[b]? = some (.cells #[.nilIface, .nilFunc] 78)
  re : U.heap[w.heap.size]? = some (.cells #[.int .i64 0] 23)
  pa : BytesV U pv (hvB ks)
  va : BytesV U vv vs
  lf : U.heap[l]? = some (.cells #[pv, vv] 132)
  ne : l ≠ b
  lt : b < w.heap.size
  ge : w.heap.size + 1 ≤ l
  eq : V = U.setCell ⟨b, 0, none⟩ (.iface 130 (.pointer (some ⟨l, 0, none⟩)))
theorem SetT.res {w U V : World} {b l : Nat} {pv vv : Value} {ks vs : List Int} (h : SetT w U b l pv vv ks vs V) : V.heap[w.heap.size]? = some (.cells #[.int .i64 0] 23) := by
  rw [h.eq, Below.heap_setCell _ _ _ _ (by show w.heap.size ≠ b; have := h.lt; omega)]
  exact h.re
/-- Bytes do not lie where a tree lies. -/
theorem BytesV.set' {w : World} {v : Value} {bs : List Int} (h : BytesV w v bs) {p : Addr} {u : Value} {cs : Array Value} {t : TypeId} (hp : w.heap[p.block]? = some (.cells cs t)) (hc : ∀ (k : Nat) (x : Int), cs[k]? ≠ some (Value.int .u8 x)) : BytesV (w.setCell p u) v bs := by
  refine h.kept (fun k hk => Below.heap_setCell _ _ _ _ ?_)
  intro e
  subst e
  have hne : bs.length ≠ 0 := by intro e; unfold dBlock at hk; rw [if_pos e] at hk; cases hk
  obtain ⟨x, hx⟩ : ∃ x, bs[0]? = some x := ⟨_, List.getElem?_eq_getElem (by omega)⟩
  obtain ⟨a, c, rfl⟩ := h.form
  obtain ⟨g, o, e, kc⟩ := h.at hx
  subst e
  have := dBlock_own hk
  simp [Value.ownBlock] at this
  subst this
  rw [cell_of_block hp] at kc
  exact hc _ _ kc
theorem SetT.fin {w U V : World} {b l : Nat} {pv vv : Value} {ks vs : List Int} (h : SetT w U b l pv vv ks vs V) :
    w.grownBy (V.setCell ⟨w.heap.size, 0, none⟩ (.int .i64 0)) (some b) ∧ LeafT (V.setCell ⟨w.heap.size, 0, none⟩ (.int .i64 0)) b ks vs := by
  have hr := h.res
  have hlt := h.lt
  have hV : ∀ k, k ≠ b → V.heap[k]? = U.heap[k]? := fun k hk => by rw [h.eq]; exact Below.heap_setCell _ _ _ _ hk
  have hb : V.heap[b]? = some (.cells #[.iface 130 (.pointer (some ⟨l, 0, none⟩)), .nilFunc] 78) := by
    rw [h.eq]; exact heap_setCell_same U b 0 #[.nilIface, .nilFunc] 78 _ h.tr
  have hp : BytesV V pv (hvB ks) := by rw [h.eq]; exact h.pa.set' h.tr (fun k x e => by rcases k with _ | _ | k <;> simp at e)
  have hv : BytesV V vv vs := by rw [h.eq]; exact h.va.set' h.tr (fun k x e => by rcases k with _ | _ | k <;> simp at e)
  have hs : V.heap.size = U.heap.size := by rw [h.eq]; simp
  have ho : ∀ k, k ≠ w.heap.size → (V.setCell ⟨w.heap.size, 0, none⟩ (.int .i64 0)).heap[k]? = V.heap[k]? := fun k hk => Below.heap_setCell _ _ _ _ hk
  refine ⟨⟨by have := h.bl.os; rw [h.eq]; exact this, by have := h.bl.tape; rw [h.eq]; exact this, by have := h.bl.output; rw [h.eq]; exact this, by have := h.bl.size; simp [hs]; exact this, fun k hk hr => ?_⟩, l, pv, vv, h.ne, (ho b (by omega)).trans hb, (ho l (by have := h.ge; omega)).trans ((hV l h.ne).trans h.lf), hp.set' hr (fun k x e => by rcases k with _ | k <;> simp at e), hv.set' hr (fun k x e => by rcases k with _ | k <;> simp at e)⟩
  have hkb : k ≠ b := fun e => hr (by rw [e])
  rw [ho k (by omega), hV k hkb]
  exact h.bl.block k hk
set_option maxRecDepth 100000 in
set_option maxHeartbeats 16000000 in
/-- set of an empty tree -/
theorem set_any {w : World} {b : Nat} {ak av : Option Addr} {ck cv : Nat} {ks vs : List Int} (hb : w.heap[b]? = some (.cells #[.nilIface, .nilFunc] 78)) (hk : BytesV w (.slice ak ks.length ck) ks) (hkb : Byt ks) (hkl : ks.length ≤ 64) (hv : BytesV w (.slice av vs.length cv) vs) (hv0 : 0 < vs.length) (hvl : vs.length ≤ 8192) :
    Calls Tryz.prog 48 #[.pointer (some ⟨b, 0, none⟩), .slice ak ks.length ck, .slice av vs.length cv] w fun e w' => e = .returned (.int .i64 0) ∧ w.grownBy w' (some b) ∧ LeafT w' b ks vs := by
  have hmf : ∀ (fn : Fn) (first cap : Array Value) (w : World), (Instr.makeFunc fn first cap).run Tryz.prog w = .ok (.func fn first cap) w := fun _ _ _ _ => rfl
  have hbl := heap_lt hb
  have hB0 : Below w.heap.size w (w.alloc (.cells #[.int .i64 0] 23)) := by go_grown
  have hk1 := hk.below hB0
  have hv1 := hv.below hB0
  obtain ⟨nk, hnk⟩ : ∃ nk, nk = ks.length := ⟨_, rfl⟩
  obtain ⟨nv, hnv⟩ : ∃ nv, nv = vs.length := ⟨_, rfl⟩
  have H0 : Hid ((w.alloc (.cells #[.int .i64 0] 23)).heap[b]? = some (.cells #[.nilIface, .nilFunc] 78) ∧ (w.alloc (.cells #[.int .i64 0] 23)).heap[w.heap.size]? = some (.cells #[.int .i64 0] 23) ∧ Below w.heap.size w (w.alloc (.cells #[.int .i64 0] 23)) ∧ BytesV (w.alloc (.cells #[.int .i64 0] 23)) (.slice ak ks.length ck) ks ∧ BytesV (w.alloc (.cells #[.int .i64 0] 23)) (.slice av vs.length cv) vs ∧ Byt ks ∧ ks.length ≤ 64 ∧ vs.length ≤ 8192 ∧ 0 < vs.length ∧ b < w.heap.size) := ⟨(hB0.block b hbl).trans hb, heap_alloc_new _ _, hB0, hk1, hv1, hkb, hkl, hvl, hv0, hbl⟩
  rw [← hnk, ← hnv] at H0 ⊢
  rw [← hnk] at hkl
  rw [← hnv] at hvl hv0
  have HN : Hid (nk = ks.length ∧ nv = vs.length) := ⟨hnk, hnv⟩
  have hkl' : ¬ (64 : Int) < nk := by omega
  have hvl' : ¬ (8192 : Int) < nv := by omega
  clear hb hk hkb hv hB0 hk1 hv1 hnk hnv
  go_enter_defers Tryz.func48, Tryz.ntmps48
  go_wp2_with fail
  generalize w.alloc (.cells #[.int .i64 0] 23) = W0 at H0 ⊢
  refine wp_noP ?_
  refine wp_region_held_drew (S := fun _ : World => True) (by kernel_rfl) trivial (fun hHeld => ?_)
  have G0 : Hid (Below w.heap.size w W0.drew ∧ W0.drew.heap[b]? = some (.cells #[.nilIface, .nilFunc] 78) ∧ W0.drew.heap[w.heap.size]? = some (.cells #[.int .i64 0] 23) ∧ BytesV W0.drew (.slice ak nk ck) ks ∧ BytesV W0.drew (.slice av nv cv) vs) := ⟨⟨H0.out.2.2.1.os, H0.out.2.2.1.tape, H0.out.2.2.1.output, H0.out.2.2.1.size, H0.out.2.2.1.block⟩, H0.out.1, H0.out.2.1, H0.out.2.2.2.1, H0.out.2.2.2.2.1⟩
  have H9 : Hid (Byt ks ∧ nk ≤ 64 ∧ nv ≤ 8192 ∧ 0 < nv ∧ b < w.heap.size) := H0.out.2.2.2.2.2
  clear H0
  generalize W0.drew = U0 at G0 hHeld ⊢
  refine wpAnyH_take (i := 0) (v := .pointer (some ⟨b, 0, none⟩)) rfl (by kernel_rfl) (by kernel_rfl) (by kernel_rfl) (fun _ _ _ h => h) (Or.inl ⟨by rfl, fun w9 hSw => ?_⟩) hHeld ?_
  · go_simp
  simp only [List.getElem_toArray, List.getElem_cons_succ, List.getElem_cons_zero, Act.put, List.setIfInBounds_toArray, List.set_cons_zero, List.set_cons_succ]
  refine wpAnyH_take (i := 1) (v := .pointer (some ⟨b, 0, none⟩)) rfl (by kernel_rfl) (by kernel_rfl) (by kernel_rfl) (fun _ _ _ h => h) (Or.inl ⟨by rfl, fun w9 hSw => ?_⟩) hHeld ?_
  · go_simp
  simp only [List.getElem_toArray, List.getElem_cons_succ, List.getElem_cons_zero, Act.put, List.setIfInBounds_toArray, List.set_cons_zero, List.set_cons_succ]
  refine wpAnyH_take (i := 2) (v := .pointer (some ⟨b, 0, none⟩)) rfl (by kernel_rfl) (by kernel_rfl) (by kernel_rfl) (fun _ _ _ h => h) (Or.inl ⟨by rfl, fun w9 hSw => ?_⟩) hHeld ?_
  · go_simp
  simp only [List.getElem_toArray, List.getElem_cons_succ, List.getElem_cons_zero, Act.put, List.setIfInBounds_toArray, List.set_cons_zero, List.set_cons_succ]
  refine wpAnyH_take (i := 3) (v := .pointer (some ⟨b, 0, none⟩)) rfl (by kernel_rfl) (by kernel_rfl) (by kernel_rfl) (fun _ _ _ h => h) (Or.inl ⟨by rfl, fun w9 hSw => ?_⟩) hHeld ?_
  · go_simp
  simp only [List.getElem_toArray, List.getElem_cons_succ, List.getElem_cons_zero, Act.put, List.setIfInBounds_toArray, List.set_cons_zero, List.set_cons_succ]
  refine wpAnyH_take (i := 4) (v := .pointer (some ⟨b, 0, none⟩)) rfl (by kernel_rfl) (by kernel_rfl) (by kernel_rfl) (fun _ _ _ h => h) (Or.inl ⟨by rfl, fun w9 hSw => ?_⟩) hHeld ?_
  · go_simp
  simp only [List.getElem_toArray, List.getElem_cons_succ, List.getElem_cons_zero, Act.put, List.setIfInBounds_toArray, List.set_cons_zero, List.set_cons_succ]
  refine wpAnyH_take (i := 6) (v := .slice ak nk ck) rfl (by kernel_rfl) (by kernel_rfl) (by kernel_rfl) (fun _ _ _ h => h) (Or.inl ⟨by rfl, fun w9 hSw => ?_⟩) hHeld ?_
  · go_simp
  simp only [List.getElem_toArray, List.getElem_cons_succ, List.getElem_cons_zero, Act.put, List.setIfInBounds_toArray, List.set_cons_zero, List.set_cons_succ]
  refine wpAnyH_take (i := 8) (v := .slice av nv cv) rfl (by kernel_rfl) (by kernel_rfl) (by kernel_rfl) (fun _ _ _ h => h) (Or.inl ⟨by rfl, fun w9 hSw => ?_⟩) hHeld ?_
  · go_simp
  simp only [List.getElem_toArray, List.getElem_cons_succ, List.getElem_cons_zero, Act.put, List.setIfInBounds_toArray, List.set_cons_zero, List.set_cons_succ]
  refine wpAnyH_ready (rs := [5, 7]) (by kernel_rfl) (by simp) ?_
  refine AllReadyH.cons rfl (fun K hK => ?_) (AllReadyH.cons rfl (fun K hK => ?_) AllReadyH.nil)
  · have k0 : U0.cell? ⟨b, 0, none⟩ = some .nilIface := (cell_of_block G0.out.2.1 0).trans rfl
    go_simp
    clear k0
    refine hK.out _ _ trivial (fun hHeld => ?_)
    clear hK K
    try simp only [List.getElem_toArray, List.getElem_cons_succ, List.getElem_cons_zero, Act.put, List.setIfInBounds_toArray, List.set_cons_zero, List.set_cons_succ]
    refine wpAnyH_ready (rs := [7]) (by kernel_rfl) (by simp) ?_
    refine AllReadyH.cons rfl (fun K hK => ?_) AllReadyH.nil
    have hC := halves_any (w := U0) (a := ak) (cap := ck) (bs := ks) (by rw [← HN.out.1]; exact G0.out.2.2.2.1) H9.out.1 (by have := HN.out; have := H9.out; omega)
    rw [← HN.out.1] at hC
    go_simp
    refine Calls.mono hC ?_
    clear hC
    rintro e U1 ⟨v1, rfl, ho1, hb1⟩
    obtain ⟨a1, c1, rfl⟩ := row_form ho1
    have G1 : Hid (Below w.heap.size w U1 ∧ U1.heap[b]? = some (.cells #[.nilIface, .nilFunc] 78) ∧ U1.heap[w.heap.size]? = some (.cells #[.int .i64 0] 23) ∧ BytesV U1 (.slice av nv cv) vs ∧ BytesV U1 (.slice a1 (hvB ks).length c1) (hvB ks)) := ⟨G0.out.1.trans (hb1.mono G0.out.1.size), (hb1.block b (heap_lt G0.out.2.1)).trans G0.out.2.1, (hb1.block _ (heap_lt G0.out.2.2.1)).trans G0.out.2.2.1, G0.out.2.2.2.2.below hb1, BytesV.of_own ho1⟩
    obtain ⟨n1, hn1⟩ : ∃ n1, n1 = (hvB ks).length := ⟨_, rfl⟩
    rw [← hn1] at G1 ⊢
    clear ho1 hb1 hn1 G0
    refine hK.out _ _ trivial (fun hHeld => ?_)
    clear hK K
    try simp only [List.getElem_toArray, List.getElem_cons_succ, List.getElem_cons_zero, Act.put, List.setIfInBounds_toArray, List.set_cons_zero, List.set_cons_succ]
    refine wpAnyH_ready (rs := [9]) (by kernel_rfl) (by simp) ?_
    refine AllReadyH.cons rfl (fun K hK => ?_) AllReadyH.nil
    have hC := bclone_any (w := U1) (.slice av nv cv) vs G1.out.2.2.2.1 (by have := HN.out; have := H9.out; omega)
    go_simp
    refine Calls.mono hC ?_
    clear hC
    rintro e U2 ⟨v2, rfl, ho2, hb2⟩
    obtain ⟨a2, c2, rfl⟩ := row_form ho2
    have G2 : Hid (Below w.heap.size w U2 ∧ U2.heap[b]? = some (.cells #[.nilIface, .nilFunc] 78) ∧ U2.heap[w.heap.size]? = some (.cells #[.int .i64 0] 23) ∧ BytesV U2 (.slice a1 n1 c1) (hvB ks) ∧ BytesV U2 (.slice a2 vs.length c2) vs) := ⟨G1.out.1.trans (hb2.mono G1.out.1.size), (hb2.block b (heap_lt G1.out.2.1)).trans G1.out.2.1, (hb2.block _ (heap_lt G1.out.2.2.1)).trans G1.out.2.2.1, G1.out.2.2.2.2.below hb2, BytesV.of_own ho2⟩
    rw [← HN.out.2] at G2 ⊢
    clear ho2 hb2 G1
    refine hK.out _ _ trivial (fun hHeld => ?_)
    clear hK K
    try simp only [List.getElem_toArray, List.getElem_cons_succ, List.getElem_cons_zero, Act.put, List.setIfInBounds_toArray, List.set_cons_zero, List.set_cons_succ]
    refine wpAnyH_ready (rs := [10]) (by kernel_rfl) (by simp) ?_
    refine AllReadyH.cons rfl (fun K hK => ?_) AllReadyH.nil
    have hC := changed_nil (w := U2) (p := .pointer (some ⟨b, 0, none⟩)) (a := a1) (b := a2) (n := n1) (c := c1) (m := nv) (d := c2) H9.out.2.2.2.1
    go_simp
    refine Calls.mono hC ?_
    clear hC
    rintro e U3 ⟨rfl, hU3⟩
    have hbA : Below U2.heap.size U2 U3 := by rw [hU3]; go_grown
    have hA : U3.heap[U2.heap.size]? = some (.cells #[.slice a1 n1 c1, .slice a2 nv c2] 132) := by rw [hU3]; exact heap_alloc_new _ _
    have hb2l : b < U2.heap.size := heap_lt G2.out.2.1
    obtain ⟨l, hl⟩ : ∃ l, l = U2.heap.size := ⟨_, rfl⟩
    rw [← hl] at hA ⊢
    have G3 : Hid (Below w.heap.size w U3 ∧ U3.heap[b]? = some (.cells #[.nilIface, .nilFunc] 78) ∧ U3.heap[w.heap.size]? = some (.cells #[.int .i64 0] 23) ∧ BytesV U3 (.slice a1 n1 c1) (hvB ks) ∧ BytesV U3 (.slice a2 nv c2) vs ∧ U3.heap[l]? = some (.cells #[.slice a1 n1 c1, .slice a2 nv c2] 132) ∧ l ≠ b ∧ w.heap.size + 1 ≤ l) := ⟨G2.out.1.trans (hbA.mono G2.out.1.size), (hbA.block b (heap_lt G2.out.2.1)).trans G2.out.2.1, (hbA.block _ (heap_lt G2.out.2.2.1)).trans G2.out.2.2.1, G2.out.2.2.2.1.below hbA, G2.out.2.2.2.2.below hbA, hA, by omega, by have := heap_lt G2.out.2.2.1; omega⟩
    clear hbA hA hb2l hl hU3 G2
    refine hK.out _ _ trivial (fun hHeld => ?_)
    clear hK K
    try simp only [List.getElem_toArray, List.getElem_cons_succ, List.getElem_cons_zero, Act.put, List.setIfInBounds_toArray, List.set_cons_zero, List.set_cons_succ]
    refine wpAnyH_take (i := 11) (v := .pointer (some ⟨b, 0, none⟩)) rfl (by kernel_rfl) (by kernel_rfl) (by kernel_rfl) (fun _ _ _ h => h) (Or.inl ⟨by rfl, fun w9 hSw => ?_⟩) hHeld ?_
    · go_simp
    simp only [List.getElem_toArray, List.getElem_cons_succ, List.getElem_cons_zero, Act.put, List.setIfInBounds_toArray, List.set_cons_zero, List.set_cons_succ]
    refine wpAnyH_take (i := 12) (v := .pointer (some ⟨b, 0, none⟩)) rfl (by kernel_rfl) (by kernel_rfl) (by kernel_rfl) (fun _ _ _ h => h) (Or.inl ⟨by rfl, fun w9 hSw => ?_⟩) hHeld ?_
    · go_simp
    simp only [List.getElem_toArray, List.getElem_cons_succ, List.getElem_cons_zero, Act.put, List.setIfInBounds_toArray, List.set_cons_zero, List.set_cons_succ]
    refine wpAnyH_ready (rs := [13]) (by kernel_rfl) (by simp) ?_
    refine AllReadyH.cons rfl (fun K hK => ?_) AllReadyH.nil
    have k0 : U3.cell? ⟨b, 0, none⟩ = some .nilIface := (cell_of_block G3.out.2.1 0).trans rfl
    have kz := unfrozen_of_block G3.out.2.1 0
    go_simp
    have G4 : Hid (SetT w U3 b l (.slice a1 n1 c1) (.slice a2 nv c2) ks vs (U3.setCell ⟨b, 0, none⟩ (.iface 130 (.pointer (some ⟨l, 0, none⟩))))) := ⟨G3.out.1, G3.out.2.1, G3.out.2.2.1, G3.out.2.2.2.1, G3.out.2.2.2.2.1, G3.out.2.2.2.2.2.1, G3.out.2.2.2.2.2.2.1, H9.out.2.2.2.2, G3.out.2.2.2.2.2.2.2, rfl⟩
    clear k0 kz G3
    generalize U3.setCell ⟨b, 0, none⟩ (.iface 130 (.pointer (some ⟨l, 0, none⟩))) = U4 at G4 ⊢
    refine hK.out _ _ trivial (fun hHeld => ?_)
    clear hK K
    try simp only [List.getElem_toArray, List.getElem_cons_succ, List.getElem_cons_zero, Act.put, List.setIfInBounds_toArray, List.set_cons_zero, List.set_cons_succ]
    refine wpAnyH_done (by kernel_rfl) ?_ _
    simp only [noP]
    clear hHeld
    have r0 : U4.cell? ⟨w.heap.size, 0, none⟩ = some (.int .i64 0) := (cell_of_block G4.out.res 0).trans rfl
    have rz := unfrozen_of_block G4.out.res 0
    go_wp2
    refine leaves_cons (f := 89) (args := #[.pointer (some ⟨w.heap.size, 0, none⟩)]) (by simp) (by simp [go_sem]) ?_
    refine (idle89 _ _).mono ?_
    rintro e u' w5 ⟨rfl, rfl, rfl⟩
    have m0 : (U4.setCell ⟨w.heap.size, 0, none⟩ (.int .i64 0)).cell? ⟨w.heap.size, 0, none⟩ = some (.int .i64 0) := (cell_of_block (heap_setCell_same U4 w.heap.size 0 #[.int .i64 0] 23 (.int .i64 0) G4.out.res) 0).trans rfl
    simp [Leaves, settle, results, Tryz.results48, go_sem, m0]
    exact G4.out.fin
  · have hC := halves_any (w := U0) (a := ak) (cap := ck) (bs := ks) (by rw [← HN.out.1]; exact G0.out.2.2.2.1) H9.out.1 (by have := HN.out; have := H9.out; omega)
    rw [← HN.out.1] at hC
    go_simp
    refine Calls.mono hC ?_
    clear hC
    rintro e U1 ⟨v1, rfl, ho1, hb1⟩
    obtain ⟨a1, c1, rfl⟩ := row_form ho1
    have G1 : Hid (Below w.heap.size w U1 ∧ U1.heap[b]? = some (.cells #[.nilIface, .nilFunc] 78) ∧ U1.heap[w.heap.size]? = some (.cells #[.int .i64 0] 23) ∧ BytesV U1 (.slice av nv cv) vs ∧ BytesV U1 (.slice a1 (hvB ks).length c1) (hvB ks)) := ⟨G0.out.1.trans (hb1.mono G0.out.1.size), (hb1.block b (heap_lt G0.out.2.1)).trans G0.out.2.1, (hb1.block _ (heap_lt G0.out.2.2.1)).trans G0.out.2.2.1, G0.out.2.2.2.2.below hb1, BytesV.of_own ho1⟩
    obtain ⟨n1, hn1⟩ : ∃ n1, n1 = (hvB ks).length := ⟨_, rfl⟩
    rw [← hn1] at G1 ⊢
    clear ho1 hb1 hn1 G0
    refine hK.out _ _ trivial (fun hHeld => ?_)
    clear hK K
    try simp only [List.getElem_toArray, List.getElem_cons_succ, List.getElem_cons_zero, Act.put, List.setIfInBounds_toArray, List.set_cons_zero, List.set_cons_succ]
    refine wpAnyH_ready (rs := [5, 9]) (by kernel_rfl) (by simp) ?_
    refine AllReadyH.cons rfl (fun K hK => ?_) (AllReadyH.cons rfl (fun K hK => ?_) AllReadyH.nil)
    · have k0 : U1.cell? ⟨b, 0, none⟩ = some .nilIface := (cell_of_block G1.out.2.1 0).trans rfl
      go_simp
      clear k0
      refine hK.out _ _ trivial (fun hHeld => ?_)
      clear hK K
      try simp only [List.getElem_toArray, List.getElem_cons_succ, List.getElem_cons_zero, Act.put, List.setIfInBounds_toArray, List.set_cons_zero, List.set_cons_succ]
      refine wpAnyH_ready (rs := [9]) (by kernel_rfl) (by simp) ?_
      refine AllReadyH.cons rfl (fun K hK => ?_) AllReadyH.nil
      have hC := bclone_any (w := U1) (.slice av nv cv) vs G1.out.2.2.2.1 (by have := HN.out; have := H9.out; omega)
      go_simp
      refine Calls.mono hC ?_
      clear hC
      rintro e U2 ⟨v2, rfl, ho2, hb2⟩
      obtain ⟨a2, c2, rfl⟩ := row_form ho2
      have G2 : Hid (Below w.heap.size w U2 ∧ U2.heap[b]? = some (.cells #[.nilIface, .nilFunc] 78) ∧ U2.heap[w.heap.size]? = some (.cells #[.int .i64 0] 23) ∧ BytesV U2 (.slice a1 n1 c1) (hvB ks) ∧ BytesV U2 (.slice a2 vs.length c2) vs) := ⟨G1.out.1.trans (hb2.mono G1.out.1.size), (hb2.block b (heap_lt G1.out.2.1)).trans G1.out.2.1, (hb2.block _ (heap_lt G1.out.2.2.1)).trans G1.out.2.2.1, G1.out.2.2.2.2.below hb2, BytesV.of_own ho2⟩
      rw [← HN.out.2] at G2 ⊢
      clear ho2 hb2 G1
      refine hK.out _ _ trivial (fun hHeld => ?_)
      clear hK K
      try simp only [List.getElem_toArray, List.getElem_cons_succ, List.getElem_cons_zero, Act.put, List.setIfInBounds_toArray, List.set_cons_zero, List.set_cons_succ]
      refine wpAnyH_ready (rs := [10]) (by kernel_rfl) (by simp) ?_
      refine AllReadyH.cons rfl (fun K hK => ?_) AllReadyH.nil
      have hC := changed_nil (w := U2) (p := .pointer (some ⟨b, 0, none⟩)) (a := a1) (b := a2) (n := n1) (c := c1) (m := nv) (d := c2) H9.out.2.2.2.1
      go_simp
      refine Calls.mono hC ?_
      clear hC
      rintro e U3 ⟨rfl, hU3⟩
      have hbA : Below U2.heap.size U2 U3 := by rw [hU3]; go_grown
      have hA : U3.heap[U2.heap.size]? = some (.cells #[.slice a1 n1 c1, .slice a2 nv c2] 132) := by rw [hU3]; exact heap_alloc_new _ _
      have hb2l : b < U2.heap.size := heap_lt G2.out.2.1
      obtain ⟨l, hl⟩ : ∃ l, l = U2.heap.size := ⟨_, rfl⟩
      rw [← hl] at hA ⊢
      have G3 : Hid (Below w.heap.size w U3 ∧ U3.heap[b]? = some (.cells #[.nilIface, .nilFunc] 78) ∧ U3.heap[w.heap.size]? = some (.cells #[.int .i64 0] 23) ∧ BytesV U3 (.slice a1 n1 c1) (hvB ks) ∧ BytesV U3 (.slice a2 nv c2) vs ∧ U3.heap[l]? = some (.cells #[.slice a1 n1 c1, .slice a2 nv c2] 132) ∧ l ≠ b ∧ w.heap.size + 1 ≤ l) := ⟨G2.out.1.trans (hbA.mono G2.out.1.size), (hbA.block b (heap_lt G2.out.2.1)).trans G2.out.2.1, (hbA.block _ (heap_lt G2.out.2.2.1)).trans G2.out.2.2.1, G2.out.2.2.2.1.below hbA, G2.out.2.2.2.2.below hbA, hA, by omega, by have := heap_lt G2.out.2.2.1; omega⟩
      clear hbA hA hb2l hl hU3 G2
      refine hK.out _ _ trivial (fun hHeld => ?_)
      clear hK K
      try simp only [List.getElem_toArray, List.getElem_cons_succ, List.getElem_cons_zero, Act.put, List.setIfInBounds_toArray, List.set_cons_zero, List.set_cons_succ]
      refine wpAnyH_take (i := 11) (v := .pointer (some ⟨b, 0, none⟩)) rfl (by kernel_rfl) (by kernel_rfl) (by kernel_rfl) (fun _ _ _ h => h) (Or.inl ⟨by rfl, fun w9 hSw => ?_⟩) hHeld ?_
      · go_simp
      simp only [List.getElem_toArray, List.getElem_cons_succ, List.getElem_cons_zero, Act.put, List.setIfInBounds_toArray, List.set_cons_zero, List.set_cons_succ]
      refine wpAnyH_take (i := 12) (v := .pointer (some ⟨b, 0, none⟩)) rfl (by kernel_rfl) (by kernel_rfl) (by kernel_rfl) (fun _ _ _ h => h) (Or.inl ⟨by rfl, fun w9 hSw => ?_⟩) hHeld ?_
      · go_simp
      simp only [List.getElem_toArray, List.getElem_cons_succ, List.getElem_cons_zero, Act.put, List.setIfInBounds_toArray, List.set_cons_zero, List.set_cons_succ]
      refine wpAnyH_ready (rs := [13]) (by kernel_rfl) (by simp) ?_
      refine AllReadyH.cons rfl (fun K hK => ?_) AllReadyH.nil
      have k0 : U3.cell? ⟨b, 0, none⟩ = some .nilIface := (cell_of_block G3.out.2.1 0).trans rfl
      have kz := unfrozen_of_block G3.out.2.1 0
      go_simp
      have G4 : Hid (SetT w U3 b l (.slice a1 n1 c1) (.slice a2 nv c2) ks vs (U3.setCell ⟨b, 0, none⟩ (.iface 130 (.pointer (some ⟨l, 0, none⟩))))) := ⟨G3.out.1, G3.out.2.1, G3.out.2.2.1, G3.out.2.2.2.1, G3.out.2.2.2.2.1, G3.out.2.2.2.2.2.1, G3.out.2.2.2.2.2.2.1, H9.out.2.2.2.2, G3.out.2.2.2.2.2.2.2, rfl⟩
      clear k0 kz G3
      generalize U3.setCell ⟨b, 0, none⟩ (.iface 130 (.pointer (some ⟨l, 0, none⟩))) = U4 at G4 ⊢
      refine hK.out _ _ trivial (fun hHeld => ?_)
      clear hK K
      try simp only [List.getElem_toArray, List.getElem_cons_succ, List.getElem_cons_zero, Act.put, List.setIfInBounds_toArray, List.set_cons_zero, List.set_cons_succ]
      refine wpAnyH_done (by kernel_rfl) ?_ _
      simp only [noP]
      clear hHeld
      have r0 : U4.cell? ⟨w.heap.size, 0, none⟩ = some (.int .i64 0) := (cell_of_block G4.out.res 0).trans rfl
      have rz := unfrozen_of_block G4.out.res 0
      go_wp2
      refine leaves_cons (f := 89) (args := #[.pointer (some ⟨w.heap.size, 0, none⟩)]) (by simp) (by simp [go_sem]) ?_
      refine (idle89 _ _).mono ?_
      rintro e u' w5 ⟨rfl, rfl, rfl⟩
      have m0 : (U4.setCell ⟨w.heap.size, 0, none⟩ (.int .i64 0)).cell? ⟨w.heap.size, 0, none⟩ = some (.int .i64 0) := (cell_of_block (heap_setCell_same U4 w.heap.size 0 #[.int .i64 0] 23 (.int .i64 0) G4.out.res) 0).trans rfl
      simp [Leaves, settle, results, Tryz.results48, go_sem, m0]
      exact G4.out.fin
    · have hC := bclone_any (w := U1) (.slice av nv cv) vs G1.out.2.2.2.1 (by have := HN.out; have := H9.out; omega)
      go_simp
      refine Calls.mono hC ?_
      clear hC
      rintro e U2 ⟨v2, rfl, ho2, hb2⟩
      obtain ⟨a2, c2, rfl⟩ := row_form ho2
      have G2 : Hid (Below w.heap.size w U2 ∧ U2.heap[b]? = some (.cells #[.nilIface, .nilFunc] 78) ∧ U2.heap[w.heap.size]? = some (.cells #[.int .i64 0] 23) ∧ BytesV U2 (.slice a1 n1 c1) (hvB ks) ∧ BytesV U2 (.slice a2 vs.length c2) vs) := ⟨G1.out.1.trans (hb2.mono G1.out.1.size), (hb2.block b (heap_lt G1.out.2.1)).trans G1.out.2.1, (hb2.block _ (heap_lt G1.out.2.2.1)).trans G1.out.2.2.1, G1.out.2.2.2.2.below hb2, BytesV.of_own ho2⟩
      rw [← HN.out.2] at G2 ⊢
      clear ho2 hb2 G1
      refine hK.out _ _ trivial (fun hHeld => ?_)
      clear hK K
      try simp only [List.getElem_toArray, List.getElem_cons_succ, List.getElem_cons_zero, Act.put, List.setIfInBounds_toArray, List.set_cons_zero, List.set_cons_succ]
      refine wpAnyH_ready (rs := [5]) (by kernel_rfl) (by simp) ?_
      refine AllReadyH.cons rfl (fun K hK => ?_) AllReadyH.nil
      have k0 : U2.cell? ⟨b, 0, none⟩ = some .nilIface := (cell_of_block G2.out.2.1 0).trans rfl
      go_simp
      clear k0
      refine hK.out _ _ trivial (fun hHeld => ?_)
      clear hK K
      try simp only [List.getElem_toArray, List.getElem_cons_succ, List.getElem_cons_zero, Act.put, List.setIfInBounds_toArray, List.set_cons_zero, List.set_cons_succ]
      refine wpAnyH_ready (rs := [10]) (by kernel_rfl) (by simp) ?_
      refine AllReadyH.cons rfl (fun K hK => ?_) AllReadyH.nil
      have hC := changed_nil (w := U2) (p := .pointer (some ⟨b, 0, none⟩)) (a := a1) (b := a2) (n := n1) (c := c1) (m := nv) (d := c2) H9.out.2.2.2.1
      go_simp
      refine Calls.mono hC ?_
      clear hC
      rintro e U3 ⟨rfl, hU3⟩
      have hbA : Below U2.heap.size U2 U3 := by rw [hU3]; go_grown
      have hA : U3.heap[U2.heap.size]? = some (.cells #[.slice a1 n1 c1, .slice a2 nv c2] 132) := by rw [hU3]; exact heap_alloc_new _ _
      have hb2l : b < U2.heap.size := heap_lt G2.out.2.1
      obtain ⟨l, hl⟩ : ∃ l, l = U2.heap.size := ⟨_, rfl⟩
      rw [← hl] at hA ⊢
      have G3 : Hid (Below w.heap.size w U3 ∧ U3.heap[b]? = some (.cells #[.nilIface, .nilFunc] 78) ∧ U3.heap[w.heap.size]? = some (.cells #[.int .i64 0] 23) ∧ BytesV U3 (.slice a1 n1 c1) (hvB ks) ∧ BytesV U3 (.slice a2 nv c2) vs ∧ U3.heap[l]? = some (.cells #[.slice a1 n1 c1, .slice a2 nv c2] 132) ∧ l ≠ b ∧ w.heap.size + 1 ≤ l) := ⟨G2.out.1.trans (hbA.mono G2.out.1.size), (hbA.block b (heap_lt G2.out.2.1)).trans G2.out.2.1, (hbA.block _ (heap_lt G2.out.2.2.1)).trans G2.out.2.2.1, G2.out.2.2.2.1.below hbA, G2.out.2.2.2.2.below hbA, hA, by omega, by have := heap_lt G2.out.2.2.1; omega⟩
      clear hbA hA hb2l hl hU3 G2
      refine hK.out _ _ trivial (fun hHeld => ?_)
      clear hK K
      try simp only [List.getElem_toArray, List.getElem_cons_succ, List.getElem_cons_zero, Act.put, List.setIfInBounds_toArray, List.set_cons_zero, List.set_cons_succ]
      refine wpAnyH_take (i := 11) (v := .pointer (some ⟨b, 0, none⟩)) rfl (by kernel_rfl) (by kernel_rfl) (by kernel_rfl) (fun _ _ _ h => h) (Or.inl ⟨by rfl, fun w9 hSw => ?_⟩) hHeld ?_
      · go_simp
      simp only [List.getElem_toArray, List.getElem_cons_succ, List.getElem_cons_zero, Act.put, List.setIfInBounds_toArray, List.set_cons_zero, List.set_cons_succ]
      refine wpAnyH_take (i := 12) (v := .pointer (some ⟨b, 0, none⟩)) rfl (by kernel_rfl) (by kernel_rfl) (by kernel_rfl) (fun _ _ _ h => h) (Or.inl ⟨by rfl, fun w9 hSw => ?_⟩) hHeld ?_
      · go_simp
      simp only [List.getElem_toArray, List.getElem_cons_succ, List.getElem_cons_zero, Act.put, List.setIfInBounds_toArray, List.set_cons_zero, List.set_cons_succ]
      refine wpAnyH_ready (rs := [13]) (by kernel_rfl) (by simp) ?_
      refine AllReadyH.cons rfl (fun K hK => ?_) AllReadyH.nil
      have k0 : U3.cell? ⟨b, 0, none⟩ = some .nilIface := (cell_of_block G3.out.2.1 0).trans rfl
      have kz := unfrozen_of_block G3.out.2.1 0
      go_simp
      have G4 : Hid (SetT w U3 b l (.slice a1 n1 c1) (.slice a2 nv c2) ks vs (U3.setCell ⟨b, 0, none⟩ (.iface 130 (.pointer (some ⟨l, 0, none⟩))))) := ⟨G3.out.1, G3.out.2.1, G3.out.2.2.1, G3.out.2.2.2.1, G3.out.2.2.2.2.1, G3.out.2.2.2.2.2.1, G3.out.2.2.2.2.2.2.1, H9.out.2.2.2.2, G3.out.2.2.2.2.2.2.2, rfl⟩
      clear k0 kz G3
      generalize U3.setCell ⟨b, 0, none⟩ (.iface 130 (.pointer (some ⟨l, 0, none⟩))) = U4 at G4 ⊢
      refine hK.out _ _ trivial (fun hHeld => ?_)
      clear hK K
      try simp only [List.getElem_toArray, List.getElem_cons_succ, List.getElem_cons_zero, Act.put, List.setIfInBounds_toArray, List.set_cons_zero, List.set_cons_succ]
      refine wpAnyH_done (by kernel_rfl) ?_ _
      simp only [noP]
      clear hHeld
      have r0 : U4.cell? ⟨w.heap.size, 0, none⟩ = some (.int .i64 0) := (cell_of_block G4.out.res 0).trans rfl
      have rz := unfrozen_of_block G4.out.res 0
      go_wp2
      refine leaves_cons (f := 89) (args := #[.pointer (some ⟨w.heap.size, 0, none⟩)]) (by simp) (by simp [go_sem]) ?_
      refine (idle89 _ _).mono ?_
      rintro e u' w5 ⟨rfl, rfl, rfl⟩
      have m0 : (U4.setCell ⟨w.heap.size, 0, none⟩ (.int .i64 0)).cell? ⟨w.heap.size, 0, none⟩ = some (.int .i64 0) := (cell_of_block (heap_setCell_same U4 w.heap.size 0 #[.int .i64 0] 23 (.int .i64 0) G4.out.res) 0).trans rfl
      simp [Leaves, settle, results, Tryz.results48, go_sem, m0]
      exact G4.out.fin
end Go.Proofs.YtboeokmaepchgaaGreatDoor
