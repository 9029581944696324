/- VT, VU, laid into one text. -/
import Derived.Test.YtboeokmaepchgaaGreatDoorVS
/- trie: the root of a tree that is one leaf. -/
namespace Go.Proofs.YtboeokmaepchgaaGreatDoor
open Go.RowKit Go.Maps Go.Joins Go.Shelf
set_option linter.unusedSimpArgs false
set_option linter.unusedVariables false
/-- A slice of one told node. -/
structure OneN (w : World) (v : Value) (Y : Nat → BitVec 8) : Prop where
  ex : ∃ B cap ea en ec, v = .slice (some ⟨B, 0, none⟩) 1 cap ∧ 1 ≤ cap ∧ (∀ j, j < 33 → w.cell? ⟨B, j, none⟩ = some (ndF Y (.slice ea en ec) j))
theorem own_form {w : World} {base n : Nat} {v : Value} {xs : List Value} (h : w.ownsRow base 5 1 v n xs) : ∃ a cap, v = .slice a n cap ∧ n ≤ cap ∧ cap ≤ 9223372036854775807 := by
  obtain ⟨h1, ⟨rfl, rfl⟩ | ⟨g, cap, cur, rfl, h4, h5, h6, h7, _⟩⟩ := h
  · exact ⟨none, 0, rfl, Nat.le_refl _, by decide⟩
  · exact ⟨_, cap, rfl, h6, by unfold maxLen at h7; omega⟩
theorem OneN.below {w w' : World} {v : Value} {Y : Nat → BitVec 8} (h : OneN w v Y) (hb : Below w.heap.size w w') : OneN w' v Y := by
  obtain ⟨B, cap, ea, en, ec, h1, h2, h3⟩ := h.ex
  exact ⟨B, cap, ea, en, ec, h1, h2, fun j hj => (hb.cell (p := ⟨B, j, none⟩) (by have := block_lt_of_cell (h3 j hj); simpa using this)).trans (h3 j hj)⟩
set_option maxRecDepth 100000 in
set_option maxHeartbeats 16000000 in
theorem summed_leaf {w : World} {l pn pc vn vc : Nat} {pa va : Option Addr} {ns vs : List Int} (Y : Nat → BitVec 8) (hY : Y = Kc.digest (Kc.mB (encR (lfT ns vs))) (encR (lfT ns vs)).length) (hpath : Kc.PathIn w) (hl : w.heap[l]? = some (.cells #[.slice pa pn pc, .slice va vn vc] 132)) (hpn : pn = ns.length) (hvn : vn = vs.length) (hp : BytesV w (.slice pa pn pc) ns) (hv : BytesV w (.slice va vn vc) vs) (hn : Nib ns) (hn1 : ns.length ≤ 16000000) (hv1 : vs.length ≤ 140737488355328) (hcl : (cpB ns true).length ≤ 140737488355328) (heb : Byt (encR (lfT ns vs))) (hel : (encR (lfT ns vs)).length ≤ 140737488351232) :
    Calls Tryz.prog 47 #[.iface 130 (.pointer (some ⟨l, 0, none⟩))] w fun e w' => Below w.heap.size w w' ∧ ∃ v, e = .returned (.tuple #[.agg (Kc.vec 32 (Kc.byt Y)), v]) ∧ OneN w' v Y := by
  have h110 : ∀ w : World, (Instr.makeMap 110 none).run Tryz.prog w = .ok (.map (some w.heap.size)) (w.alloc (.map #[] 0)) := fun w => run_makeMap (P := Tryz.prog) 110 w
  have hmf : ∀ (fn : Fn) (first cap : Array Value) (w : World), (Instr.makeFunc fn first cap).run Tryz.prog w = .ok (.func fn first cap) w := fun _ _ _ _ => rfl
  have hta : ∀ w : World, (Instr.typeAssert (.iface 130 (.pointer (some ⟨l, 0, none⟩))) 75 128 true).run Tryz.prog w = .ok (.tuple #[.agg z32, .bool false]) w := fun _ => by kernel_rfl
  have hb150 : ∀ (m : Nat) (w : World), (Instr.build 150 #[(1, .map (some m))]).run Tryz.prog w = .ok (.agg #[.slice none 0 0, .map (some m)]) w := fun _ _ => by kernel_rfl
  have HP : Hid (Kc.PathIn w ∧ 1 < w.heap.size ∧ Y = Kc.digest (Kc.mB (encR (lfT ns vs))) (encR (lfT ns vs)).length ∧ Byt (encR (lfT ns vs)) ∧ (encR (lfT ns vs)).length ≤ 140737488351232) := ⟨hpath, Kc.pathIn_pos hpath, hY, heb, hel⟩
  have HI : Hid (∀ W f, Below w.heap.size w W → Calls Tryz.prog 245 #[.pointer (some ⟨l, 0, none⟩), f] W fun e w' => Below W.heap.size W w' ∧ ∃ si, e = .returned (.agg #[.bool true, .slice none 0 0, si]) ∧ ItH w' (.slice none 0 0) si (lfT ns vs)) := fun W f hW => leaf_item f ((hW.block _ (heap_lt hl)).trans hl) hpn hvn (hp.below hW) (hv.below hW) hn hn1 hv1 hcl
  clear hY hpath hl hpn hvn hp hv hn hn1 hv1 hcl heb hel
  go_enter Tryz.func47, Tryz.ntmps47
  go_wp2_with fail
  rw [lit32]
  have hB0 : Below w.heap.size w (((w.alloc (.cells z32 33)).alloc (.map #[] 0)).alloc (.cells #[.slice none 0 0, .map (some (w.heap.size + 1))] 150)) := by go_grown
  have H0 : Hid (Below w.heap.size w (((w.alloc (.cells z32 33)).alloc (.map #[] 0)).alloc (.cells #[.slice none 0 0, .map (some (w.heap.size + 1))] 150)) ∧ (((w.alloc (.cells z32 33)).alloc (.map #[] 0)).alloc (.cells #[.slice none 0 0, .map (some (w.heap.size + 1))] 150)).heap[w.heap.size]? = some (.cells z32 33) ∧ (((w.alloc (.cells z32 33)).alloc (.map #[] 0)).alloc (.cells #[.slice none 0 0, .map (some (w.heap.size + 1))] 150)).heap[w.heap.size + 1]? = some (.map #[] 0) ∧ (((w.alloc (.cells z32 33)).alloc (.map #[] 0)).alloc (.cells #[.slice none 0 0, .map (some (w.heap.size + 1))] 150)).heap[w.heap.size + 1 + 1]? = some (.cells #[.slice none 0 0, .map (some (w.heap.size + 1))] 150)) := ⟨hB0, allocs_heap [.cells z32 33, .map #[] 0, .cells #[.slice none 0 0, .map (some (w.heap.size + 1))] 150] w 0 _ rfl, allocs_heap [.cells z32 33, .map #[] 0, .cells #[.slice none 0 0, .map (some (w.heap.size + 1))] 150] w 1 _ rfl, allocs_heap [.cells z32 33, .map #[] 0, .cells #[.slice none 0 0, .map (some (w.heap.size + 1))] 150] w 2 _ rfl⟩
  clear hB0
  generalize ((w.alloc (.cells z32 33)).alloc (.map #[] 0)).alloc (.cells #[.slice none 0 0, .map (some (w.heap.size + 1))] 150) = W0 at H0 ⊢
  obtain ⟨t, ht⟩ : ∃ t, t = w.heap.size + 1 + 1 := ⟨_, rfl⟩
  obtain ⟨k, hk⟩ : ∃ k, k = w.heap.size + 1 := ⟨_, rfl⟩
  rw [← ht, ← hk] at H0 ⊢
  have HT : Hid (w.heap.size < t ∧ w.heap.size < k ∧ t ≠ k) := ⟨by omega, by omega, by omega⟩
  clear ht hk
  refine Calls.mono (HI.out W0 _ H0.out.1) ?_
  rintro e W1 ⟨hb1, si, rfl, hi⟩
  have H1 : Hid (Below w.heap.size w W1 ∧ W1.heap[w.heap.size]? = some (.cells z32 33) ∧ W1.heap[k]? = some (.map #[] 0) ∧ W1.heap[t]? = some (.cells #[.slice none 0 0, .map (some k)] 150) ∧ ItH W1 (.slice none 0 0) si (lfT ns vs)) := ⟨H0.out.1.trans (hb1.mono H0.out.1.size), (hb1.block _ (heap_lt H0.out.2.1)).trans H0.out.2.1, (hb1.block _ (heap_lt H0.out.2.2.1)).trans H0.out.2.2.1, (hb1.block _ (heap_lt H0.out.2.2.2)).trans H0.out.2.2.2, hi⟩
  clear hb1 hi H0 HI hta hb150 h110 hmf
  go_wp2_with fail
  refine Calls.mono (encoding_any (lfT ns vs) W1 (.slice none 0 0) si _ H1.out.2.2.2.2 (fun _ h => h)) ?_
  rintro e W2 ⟨hb2, v, rfl, ho⟩
  obtain ⟨en, hen⟩ : ∃ n, n = (encR (lfT ns vs)).length := ⟨_, rfl⟩
  have hob := BytesV.of_own ho
  rw [← hen] at ho
  obtain ⟨ea, ec, rfl, hc1, hc2⟩ := own_form ho
  have HC : Hid _ := tell_first (w := W2) (t := t) (k := k) (ea := ea) (en := en) (ec := ec) (bs := encR (lfT ns vs)) Y HP.out.2.2.1 ((HP.out.1.below H1.out.1 HP.out.2.1).below hb2 (Nat.lt_of_lt_of_le HP.out.2.1 H1.out.1.size)) ((hb2.block _ (heap_lt H1.out.2.2.2.1)).trans H1.out.2.2.2.1) ((hb2.block _ (heap_lt H1.out.2.2.1)).trans H1.out.2.2.1) hen hob HP.out.2.2.2.1 (by rw [← hen]; exact hc1) hc2 HP.out.2.2.2.2
  have H2 : Hid (Below w.heap.size w W2 ∧ W2.heap[w.heap.size]? = some (.cells z32 33)) := ⟨H1.out.1.trans (hb2.mono H1.out.1.size), (hb2.block _ (heap_lt H1.out.2.1)).trans H1.out.2.1⟩
  clear hb2 ho hob hen hc1 hc2 H1
  go_wp2_with fail
  refine Calls.mono HC.out ?_
  rintro e W3 ⟨rfl, hg, B, cap, hcap, htn, hcs⟩
  have H3 : Hid (Below w.heap.size w W3 ∧ W3.heap[w.heap.size]? = some (.cells z32 33) ∧ W3.heap[t]? = some (.cells #[.slice (some ⟨B, 0, none⟩) 1 cap, .map (some k)] 150) ∧ OneN W3 (.slice (some ⟨B, 0, none⟩) 1 cap) Y ∧ w.heap.size ≠ B) := ⟨hg.below H2.out.1 H2.out.1.size (Nat.le_of_lt HT.out.1) (Nat.le_of_lt HT.out.2.1), (hg.block _ (heap_lt H2.out.2) (by have := HT.out; omega) (by have := HT.out; omega)).trans H2.out.2, htn, ⟨B, cap, ea, en, ec, rfl, hcap, hcs⟩, fun he => ?_⟩
  rotate_left
  · have h1 := hcs 0 (by decide)
    have h2 := (hg.block _ (heap_lt H2.out.2) (by have := HT.out; omega) (by have := HT.out; omega)).trans H2.out.2
    have h3 := hcs 32 (by decide)
    rw [← he, cell_of_block h2] at h3
    have : (z32 : Array Value)[32]? = none := by simp
    rw [this] at h3
    cases h3
  clear hg hcap htn hcs H2 HC
  go_wp2_with (first | (refine wpList_store_row rfl 33 _ _ rfl W3.heap.size (Kc.vec 32 (Kc.byt Y)) rfl rfl 33 _ (heap_alloc_new _ _) (Kc.info29v _) (by simp) (Kc.one_byt _ _) ?_; rw [World.setRow_alloc_new]))
  have hb4 : Below W3.heap.size W3 (W3.alloc (.cells (Kc.vec 32 (Kc.byt Y)) 33)) := by go_grown
  have H4 : Hid (Below w.heap.size w (W3.alloc (.cells (Kc.vec 32 (Kc.byt Y)) 33)) ∧ (W3.alloc (.cells (Kc.vec 32 (Kc.byt Y)) 33)).heap[w.heap.size]? = some (.cells z32 33) ∧ (W3.alloc (.cells (Kc.vec 32 (Kc.byt Y)) 33)).heap[t]? = some (.cells #[.slice (some ⟨B, 0, none⟩) 1 cap, .map (some k)] 150) ∧ OneN (W3.alloc (.cells (Kc.vec 32 (Kc.byt Y)) 33)) (.slice (some ⟨B, 0, none⟩) 1 cap) Y ∧ w.heap.size ≠ B ∧ (W3.alloc (.cells (Kc.vec 32 (Kc.byt Y)) 33)).heap[W3.heap.size]? = some (.cells (Kc.vec 32 (Kc.byt Y)) 33) ∧ w.heap.size < W3.heap.size) := ⟨H3.out.1.trans (hb4.mono H3.out.1.size), (hb4.block _ (heap_lt H3.out.2.1)).trans H3.out.2.1, (hb4.block _ (heap_lt H3.out.2.2.1)).trans H3.out.2.2.1, H3.out.2.2.2.1.below hb4, H3.out.2.2.2.2, heap_alloc_new _ _, heap_lt H3.out.2.1⟩
  clear hb4 H3
  obtain ⟨q, hq⟩ : ∃ q, q = W3.heap.size := ⟨_, rfl⟩
  rw [← hq] at H4 ⊢
  clear hq
  generalize W3.alloc (.cells (Kc.vec 32 (Kc.byt Y)) 33) = X at H4 ⊢
  refine wp_noP ?_
  refine wp_region_held_drew (S := (fun w' : World => w'.heap[q]? = some (.cells (Kc.vec 32 (Kc.byt Y)) 33) ∧ w'.heap[t]? = some (.cells #[.slice (some ⟨B, 0, none⟩) 1 cap, .map (some k)] 150))) (by kernel_rfl) ⟨H4.out.2.2.2.2.2.1, H4.out.2.2.1⟩ (fun hHeld => ?_)
  have GY : Hid (Below w.heap.size w X.drew ∧ X.drew.heap[w.heap.size]? = some (.cells z32 33) ∧ q ≠ w.heap.size ∧ t ≠ w.heap.size ∧ OneN X.drew (.slice (some ⟨B, 0, none⟩) 1 cap) Y ∧ w.heap.size ≠ B) := ⟨⟨H4.out.1.os, H4.out.1.tape, H4.out.1.output, H4.out.1.size, H4.out.1.block⟩, H4.out.2.1, by have := H4.out.2.2.2.2.2.2; omega, by have := HT.out; omega, ⟨H4.out.2.2.2.1.ex⟩, H4.out.2.2.2.2.1⟩
  clear H4
  generalize X.drew = V at GY hHeld ⊢
  refine wpAnyH_take (i := 0) (v := .agg (Kc.vec 32 (Kc.byt Y))) rfl (by kernel_rfl) (by kernel_rfl) (by kernel_rfl) (fun _ _ _ h => h) (Or.inl ⟨by rfl, fun w9 hSw => ?_⟩) hHeld ?_
  · exact Kc.run_load_exec 33 _ rfl _ rfl (load33 hSw.1)
  simp only [List.getElem_toArray, List.getElem_cons_succ, List.getElem_cons_zero, Act.put, List.setIfInBounds_toArray, List.set_cons_zero, List.set_cons_succ]
  refine wpAnyH_take (i := 1) (v := .pointer (some ⟨t, 0, none⟩)) rfl (by kernel_rfl) (by kernel_rfl) (by kernel_rfl) (fun _ _ _ h => h) (Or.inl ⟨by rfl, fun w9 hSw => ?_⟩) hHeld ?_
  · go_simp
  simp only [List.getElem_toArray, List.getElem_cons_succ, List.getElem_cons_zero, Act.put, List.setIfInBounds_toArray, List.set_cons_zero, List.set_cons_succ]
  refine wpAnyH_take (i := 2) (v := .pointer (some ⟨t, 0, none⟩)) rfl (by kernel_rfl) (by kernel_rfl) (by kernel_rfl) (fun _ _ _ h => h) (Or.inl ⟨by rfl, fun w9 hSw => ?_⟩) hHeld ?_
  · go_simp
  simp only [List.getElem_toArray, List.getElem_cons_succ, List.getElem_cons_zero, Act.put, List.setIfInBounds_toArray, List.set_cons_zero, List.set_cons_succ]
  refine wpAnyH_take (i := 3) (v := .pointer (some ⟨t, 0, none⟩)) rfl (by kernel_rfl) (by kernel_rfl) (by kernel_rfl) (fun _ _ _ h => h) (Or.inl ⟨by rfl, fun w9 hSw => ?_⟩) hHeld ?_
  · go_simp
  simp only [List.getElem_toArray, List.getElem_cons_succ, List.getElem_cons_zero, Act.put, List.setIfInBounds_toArray, List.set_cons_zero, List.set_cons_succ]
  refine wpAnyH_take (i := 4) (v := .slice (some ⟨B, 0, none⟩) 1 cap) rfl (by kernel_rfl) (by kernel_rfl) (by kernel_rfl) (fun _ _ _ h => h) (Or.inl ⟨by rfl, fun w9 hSw => ?_⟩) hHeld ?_
  · have k0 : w9.cell? ⟨t, 0, none⟩ = some (.slice (some ⟨B, 0, none⟩) 1 cap) := by rw [cell_of_block hSw.2]; rfl
    go_simp
  simp only [List.getElem_toArray, List.getElem_cons_succ, List.getElem_cons_zero, Act.put, List.setIfInBounds_toArray, List.set_cons_zero, List.set_cons_succ]
  refine wpAnyH_ready (rs := [5]) (by kernel_rfl) (by simp) ?_
  refine AllReadyH.cons rfl (fun K hK => ?_) AllReadyH.nil
  refine step_store_r (by rfl) 33 _ _ (by rfl) w.heap.size (Kc.vec 32 (Kc.byt Y)) (by rfl) (by rfl) 33 _ GY.out.2.1 (Kc.info29v _) (by simp) (Kc.one_byt _ _) ?_
  have hx3 : (fun w' : World => w'.heap[q]? = some (.cells (Kc.vec 32 (Kc.byt Y)) 33) ∧ w'.heap[t]? = some (.cells #[.slice (some ⟨B, 0, none⟩) 1 cap, .map (some k)] 150)) (V.setRow w.heap.size (Kc.vec 32 (Kc.byt Y))) := ⟨(setRow_other _ _ _ _ GY.out.2.2.1).trans hHeld.1, (setRow_other _ _ _ _ GY.out.2.2.2.1).trans hHeld.2⟩
  refine hK.out _ _ hx3 (fun hHeld => ?_)
  clear hK K
  try simp only [List.getElem_toArray, List.getElem_cons_succ, List.getElem_cons_zero, Act.put, List.setIfInBounds_toArray, List.set_cons_zero, List.set_cons_succ]
  refine wpAnyH_take (i := 6) (v := .slice (some ⟨B, 0, none⟩) 1 cap) rfl (by kernel_rfl) (by kernel_rfl) (by kernel_rfl) (fun _ _ _ h => h) (Or.inl ⟨by rfl, fun w9 hSw => ?_⟩) hHeld ?_
  · go_simp
  simp only [List.getElem_toArray, List.getElem_cons_succ, List.getElem_cons_zero, Act.put, List.setIfInBounds_toArray, List.set_cons_zero, List.set_cons_succ]
  refine wpAnyH_done (by kernel_rfl) ?_ _
  simp only [noP]
  go_wp2_with fail
  obtain ⟨B', cap', ea', en', ec', hBe, hcp, hcs⟩ := GY.out.2.2.2.2.1.ex
  injection hBe with e1 _ e2
  injection e1 with e1
  injection e1 with e1
  subst e1 e2
  refine bodyPost_ret (results_cell_row2 rfl _ _ _ _ _ rfl rfl (load33 (setRow_heap _ _ _ _ _ _ GY.out.2.1))) rfl ⟨?_, _, rfl, ⟨B, cap, ea', en', ec', rfl, hcp, fun j hj => (World.cell?_of_block (w := V) (setRow_other _ _ _ _ (fun he => GY.out.2.2.2.2.2 he.symm))).trans (hcs j hj)⟩⟩
  exact ((Kc.Only.refl _ _).setRow _).below GY.out.1 (by omega)
end Go.Proofs.YtboeokmaepchgaaGreatDoor
/- trie: Root of a tree that is one leaf. -/
namespace Go.Proofs.YtboeokmaepchgaaGreatDoor
open Go.RowKit Go.Maps Go.Joins Go.Shelf
set_option linter.unusedSimpArgs false
set_option linter.unusedVariables false
/-- What the tree's one leaf is, as it is told. -/
abbrev lfB (ks vs : List Int) : List Int := encR (lfT (hvB ks) vs)
set_option maxRecDepth 100000 in
set_option maxHeartbeats 16000000 in
theorem troot_leaf {w : World} {b : Nat} {ks vs : List Int} (Y : Nat → BitVec 8) (hY : Y = Kc.digest (Kc.mB (lfB ks vs)) (lfB ks vs).length) (hp : Kc.PathIn w) (h : LeafT w b ks vs) (hkb : Byt ks) (hk : ks.length ≤ 64) (hv : vs.length ≤ 8192) (hcl : (cpB (hvB ks) true).length ≤ 140737488355328) (heb : Byt (lfB ks vs)) (hel : (lfB ks vs).length ≤ 140737488351232) :
    Calls Tryz.prog 11 #[.pointer (some ⟨b, 0, none⟩)] w fun e w' => Below w.heap.size w w' ∧ ∃ v, e = .returned (.tuple #[.agg (Kc.vec 32 (Kc.byt Y)), v]) ∧ OneN w' v Y := by
  obtain ⟨l, pv, vv, hlb, h1, h2, h3, h4⟩ := h
  obtain ⟨pa, pc, rfl⟩ := h3.form
  obtain ⟨va, vc, rfl⟩ := h4.form
  have k1 : ∀ o, (w.alloc o).cell? ⟨b, 0, none⟩ = some (.iface 130 (.pointer (some ⟨l, 0, none⟩))) := fun o => ((by go_grown : Below w.heap.size w (w.alloc o)).cell (p := ⟨b, 0, none⟩) (heap_lt h1)).trans (by rw [cell_of_block h1]; rfl)
  have HC : Hid (∀ W, Below w.heap.size w W → Calls Tryz.prog 47 #[.iface 130 (.pointer (some ⟨l, 0, none⟩))] W fun e w' => Below W.heap.size W w' ∧ ∃ v, e = .returned (.tuple #[.agg (Kc.vec 32 (Kc.byt Y)), v]) ∧ OneN w' v Y) := fun W hW =>
    summed_leaf Y hY (hp.below hW (Kc.pathIn_pos hp)) ((hW.block _ (heap_lt h2)).trans h2) rfl rfl (h3.below hW) (h4.below hW) (hvB_nib hkb) (by rw [hvB_length]; omega) (by omega) hcl heb hel
  clear hY hp hkb hk hv hcl heb hel h1 h2 h3 h4 hlb
  go_enter Tryz.func11, Tryz.ntmps11
  go_wp2_with fail
  rw [lit32]
  have H0 : Hid (Below w.heap.size w (w.alloc (.cells z32 33)) ∧ (w.alloc (.cells z32 33)).heap[w.heap.size]? = some (.cells z32 33)) := ⟨by go_grown, heap_alloc_new _ _⟩
  clear k1
  generalize w.alloc (.cells z32 33) = W0 at H0 ⊢
  refine Calls.mono (HC.out W0 H0.out.1) ?_
  rintro e W1 ⟨hb1, v, rfl, ho⟩
  obtain ⟨B, cap, ea, en, ec, rfl, hcp, hcs⟩ := ho.ex
  have hr : W1.heap[w.heap.size]? = some (.cells z32 33) := (hb1.block _ (heap_lt H0.out.2)).trans H0.out.2
  have hBw : w.heap.size ≠ B := fun he => by
    have h3 := hcs 32 (by decide)
    rw [← he, cell_of_block hr] at h3
    have : (z32 : Array Value)[32]? = none := by simp
    rw [this] at h3
    cases h3
  have H1 : Hid (Below w.heap.size w W1 ∧ 1 ≤ cap ∧ w.heap.size ≠ B ∧ (∀ j, j < 33 → W1.cell? ⟨B, j, none⟩ = some (ndF Y (.slice ea en ec) j))) := ⟨H0.out.1.trans (hb1.mono H0.out.1.size), hcp, hBw, hcs⟩
  clear hb1 ho hcp hcs H0 HC hBw
  go_wp2_with (first | (refine wpList_store_row rfl 33 _ _ rfl w.heap.size (Kc.vec 32 (Kc.byt Y)) rfl rfl 33 _ hr (Kc.info29v _) (by simp) (Kc.one_byt _ _) ?_))
  refine bodyPost_ret (results_cell_row2 rfl _ _ _ _ _ rfl rfl (load33 (setRow_heap _ _ _ _ _ _ hr))) rfl ⟨?_, _, rfl, ⟨B, cap, ea, en, ec, rfl, H1.out.2.1, fun j hj => (World.cell?_of_block (w := W1) (setRow_other _ _ _ _ (fun he => H1.out.2.2.1 he.symm))).trans (H1.out.2.2.2 j hj)⟩⟩
  exact ((Kc.Only.refl _ _).setRow _).below H1.out.1 (by omega)
end Go.Proofs.YtboeokmaepchgaaGreatDoor
