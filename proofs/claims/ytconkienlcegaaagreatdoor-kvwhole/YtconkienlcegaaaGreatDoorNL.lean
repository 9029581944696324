/- kv: the law's put. -/
import Derived.Test.YtconkienlcegaaaGreatDoorGNK
import Derived.BigQuiet
import Derived.Deep.QuietTactic
namespace Go.Proofs.YtconkienlcegaaaGreatDoor
open Go.RowKit Go.Maps Go.Joins Go.Shelf
set_option linter.unusedSimpArgs false
set_option linter.unusedVariables false
/-- Within the rounds of put. -/
structure PnJ (D : Nat → Prop) (w W : World) (v : Value) (A : List CI) (vk vv : Value) (g : Bool) : Prop where
 bx : W.heap[w.heap.size]? = some (.cells #[vk, vv, .bool g] 83)
 row : W.ownsRow (w.heap.size + 1) 90 3 v A.length (ciL A)
 it : ∀ f ∈ A, KBD w D f.vk f.c.key ∧ KBD w D f.vv f.c.val
 bl : Below w.heap.size w W
 sz : w.heap.size + 1 ≤ W.heap.size
theorem PnJ.below {D : Nat → Prop} {w W W2 : World} {v : Value} {A : List CI} {vk vv : Value} {g : Bool} (h : PnJ D w W v A vk vv g) (hb : Below W.heap.size W W2) : PnJ D w W2 v A vk vv g := by
 have hs := h.sz; exact ⟨(hb.block _ (by omega)).trans h.bx, ownsRow_heap h.row (fun b hb' => hb.block b (h.row.lt b hb').2), h.it, h.bl.trans (hb.mono h.bl.size), Nat.le_trans hs hb.size⟩
theorem PnJ.add {D : Nat → Prop} {w W V : World} {v v' : Value} {A : List CI} {f : CI} {vk vv : Value} {g : Bool} (h : PnJ D w W v A vk vv g) (ho : V.ownsRow (w.heap.size + 1) 90 3 v' (A.length + 1) (ciL (A ++ [f]))) (hg : W.grownBy V v.ownBlock) (hf : KBD w D f.vk f.c.key ∧ KBD w D f.vv f.c.val) : PnJ D w V v' (A ++ [f]) vk vv g := by
 have hs := h.sz; refine ⟨(hg.block _ (by omega) (fun e => by have := (h.row.lt _ e.symm).1; omega)).trans h.bx, by rw [List.length_append]; exact ho, fun q hq => ?_, h.bl.grown hg (by omega) (fun k hk => by have := (h.row.lt k hk).1; omega), Nat.le_trans hs hg.size⟩; rcases List.mem_append.1 hq with h9 | h9
 · exact h.it q h9
 · obtain rfl := List.mem_singleton.1 h9
   exact hf
theorem PnJ.ls {D : Nat → Prop} {w W : World} {v : Value} {A : List CI} {vk vv : Value} {g : Bool} (h : PnJ D w W v A vk vv g) (hD : ∀ x, D x → x < w.heap.size) : LsV W (fun x => D x ∨ (w.heap.size ≤ x ∧ x < W.heap.size)) v (A.map CI.c) :=
 row_ls h.row (fun f hf => ⟨(h.it f hf).1.mono (fun b hb => h.bl.block b (hD b hb)) (fun b hb => Or.inl hb), (h.it f hf).2.mono (fun b hb => h.bl.block b (hD b hb)) (fun b hb => Or.inl hb)⟩) (fun b hb => Or.inr ⟨by have := (h.row.lt b hb).1; omega, (h.row.lt b hb).2⟩)
theorem dn_ci {A : List CI} {o : List (List UInt8 × List Int)} {f : CI} {p : List UInt8 × List Int} (h : A.map CI.c = o.map toCh) (hf : f.c = toCh p) : (A ++ [f]).map CI.c = (o ++ [p]).map toCh := by simp [h, hf]
theorem dnA_t (K : List UInt8) (v : List Int) (x : List UInt8 × List Int) (r : List (List UInt8 × List Int)) : dnA K v true (x :: r) = (if x.1 = K then [] else [x]) ++ dnA K v true r := by simp [dnA]
theorem dnA_f1 {K : List UInt8} {x : List UInt8 × List Int} (h : bytesBefore x.1 K = true) (v : List Int) (r : List (List UInt8 × List Int)) : dnA K v false (x :: r) = (if x.1 = K then [] else [x]) ++ dnA K v false r := by simp [dnA, h]
theorem dnA_f0 {K : List UInt8} {x : List UInt8 × List Int} (h : bytesBefore x.1 K = false) (v : List Int) (r : List (List UInt8 × List Int)) : dnA K v false (x :: r) = [(K, v)] ++ ((if x.1 = K then [] else [x]) ++ dnA K v true r) := by simp [dnA, h]
theorem toCh_c {c : Ch} (hg : c.gone = false) (hk : KByt c.key) : toCh (kS c.key, c.val) = c := by
 obtain ⟨key, val, gone⟩ := c; subst hg; unfold toCh; rw [kI_kS hk]
theorem str_eql (x : List UInt8 × List Int) (c : Ch) : ((strOfNums (toCh x).key).toList == (strOfNums c.key).toList) = decide (x.1 = kS c.key) := by
 have h2 : (strOfNums (toCh x).key).toList = x.1 := (Lib.toList_data _).trans (kS_kI x.1); have h3 : (strOfNums c.key).toList = kS c.key := Lib.toList_data _; rw [h2, h3]; by_cases h : x.1 = kS c.key
 · simp [h]
 · simp [h]
set_option maxRecDepth 100000 in
set_option maxHeartbeats 8000000 in
/-- put -/
theorem lput_any {D : Nat → Prop} {w : World} (hD : ∀ x, D x → x < w.heap.size) {v : Value} {s : List (List UInt8 × List Int)} (hv : LsV w D v (s.map toCh)) (hs : SrtG s) (hl : s.length ≤ 3499999999990) {vk vv : Value} {c : Ch} (hk : KBD w D vk c.key) (hvv : KBD w D vv c.val) (hkb : KByt c.key) :
 Calls Tryz.prog 38 #[v, .agg #[vk, vv, .bool c.gone]] w fun e w' => ∃ v', e = .returned v' ∧ LsV w' (fun x => D x ∨ (w.heap.size ≤ x ∧ x < w'.heap.size)) v' ((doP s c).map toCh) ∧ Below w.heap.size w w' := by
 obtain ⟨a, cap, rfl⟩ := hv.form; obtain ⟨ak, ck, rfl⟩ := hk.is.form'; obtain ⟨av, cv, rfl⟩ := hvv.is.form'; obtain ⟨nk, hnk⟩ : ∃ nk, nk = c.key.length := ⟨_, rfl⟩
 obtain ⟨nv, hnv⟩ : ∃ nv, nv = c.val.length := ⟨_, rfl⟩
 obtain ⟨cg, hcg⟩ : ∃ cg, cg = c.gone := ⟨_, rfl⟩
 obtain ⟨N, hN⟩ : ∃ N, N = (s.map toCh).length := ⟨_, rfl⟩
 rw [← hnk] at hk ⊢; rw [← hnv] at hvv ⊢; rw [← hcg]; rw [← hN] at hv ⊢; have hNs : N = s.length := by rw [hN, List.length_map]
 have HH : Hid (LsV w D (.slice a N cap) (s.map toCh) ∧ SrtG s ∧ KBD w D (.slice ak nk ck) c.key ∧ KBD w D (.slice av nv cv) c.val ∧ KByt c.key ∧ cg = c.gone ∧ N = s.length ∧ (∀ x, D x → x < w.heap.size)) := ⟨hv, hs, hk, hvv, hkb, hcg, hNs, hD⟩
 have hNl : N ≤ 3499999999990 := by omega
 clear hv hs hk hvv hkb hcg hNs hN hnk hnv hl hD; go_enter Tryz.func38, Tryz.ntmps38; go_wp2_with fail; have H0 : Hid (PnJ D w (w.alloc (.cells #[.slice ak nk ck, .slice av nv cv, .bool cg] 83)) (.slice none 0 0) [] (.slice ak nk ck) (.slice av nv cv) cg) := ⟨heap_alloc_new _ _, World.ownsRow_nil _ _ _ _, fun f hf => (by cases hf), by go_grown, by simp⟩
 generalize w.alloc (.cells #[.slice ak nk ck, .slice av nv cv, .bool cg] 83) = W0 at H0 ⊢; go_loopw [5, 6, 7] (fun u p i wr => ∃ (k : Nat) (A : List CI) (o : List (List UInt8 × List Int)) (pb : Bool), k ≤ N ∧ i = .int .i64 k ∧ p = .bool pb ∧ Hid (PnJ D w wr u A (.slice ak nk ck) (.slice av nv cv) cg ∧ A.map CI.c = o.map toCh ∧ o ++ dnA (kS c.key) c.val pb (s.drop k) = doP s c ∧ A.length ≤ k + 1 ∧ (pb = false → A.length ≤ k ∧ cg = false))) (fun _ _ i _ => N - (intOf i).toNat)
 case atStart => exact ⟨0, [], [], cg, Nat.zero_le _, rfl, rfl, H0.out, rfl, by rw [HH.out.2.2.2.2.2.1, List.drop_zero, List.nil_append]; exact dnA_doP HH.out.2.1 c, by simp, fun h => ⟨by simp, h⟩⟩
 case round =>
  obtain ⟨k, A, o, pb, hkN, rfl, rfl, HI⟩ := hrel; obtain ⟨ua, uc, hua⟩ := row_form HI.out.1.row; subst hua; obtain ⟨L, hL⟩ : ∃ L, L = A.length := ⟨_, rfl⟩
  rw [← hL] at HI ⊢; have HL : Hid (L = A.length) := hL; clear hL; by_cases hlt : k < N
  · obtain ⟨x, hx⟩ : ∃ x, s[k]? = some x := ⟨_, List.getElem?_eq_getElem (by have := HH.out.2.2.2.2.2.2.1; omega)⟩
    have hxc : (s.map toCh)[k]? = some (toCh x) := by rw [List.getElem?_map, hx]; rfl
    obtain ⟨g, q, xk, xv, rfl, hgD, p0, p1, p2, hxk, hxv⟩ := HH.out.1.at hxc; have hg := HH.out.2.2.2.2.2.2.2 g hgD; obtain ⟨bk, dk, rfl⟩ := hxk.is.form'; obtain ⟨bv, dv, rfl⟩ := hxv.is.form'; obtain ⟨mk, hmk⟩ : ∃ mk, mk = (toCh x).key.length := ⟨_, rfl⟩
    obtain ⟨mv, hmv⟩ : ∃ mv, mv = (toCh x).val.length := ⟨_, rfl⟩
    rw [← hmk] at p0 hxk; rw [← hmv] at p1 hxv; have hb := HI.out.1.bl; have q0 : wr.cell? ⟨g, q + k * 3, none⟩ = some (.slice bk mk dk) := (hb.cell (p := ⟨g, q + k * 3, none⟩) hg).trans p0; have q1 : wr.cell? ⟨g, q + k * 3 + 1, none⟩ = some (.slice bv mv dv) := (hb.cell (p := ⟨g, q + k * 3 + 1, none⟩) hg).trans p1; have q2 : wr.cell? ⟨g, q + k * 3 + 2, none⟩ = some (.bool false) := (hb.cell (p := ⟨g, q + k * 3 + 2, none⟩) hg).trans p2; have z0 : wr.cell? ⟨w.heap.size, 0, none⟩ = some (.slice ak nk ck) := (cell_of_block HI.out.1.bx 0).trans rfl; have z1 : wr.cell? ⟨w.heap.size, 1, none⟩ = some (.slice av nv cv) := (cell_of_block HI.out.1.bx 1).trans rfl; have z2 : wr.cell? ⟨w.heap.size, 2, none⟩ = some (.bool cg) := (cell_of_block HI.out.1.bx 2).trans rfl; have hki : (k : Int) < N := by omega
    have hst : s.drop k = x :: s.drop (k + 1) := by
     rw [List.drop_eq_getElem_cons (by have := (List.getElem?_eq_some_iff.1 hx).1; omega)]; have := (List.getElem?_eq_some_iff.1 hx).2; rw [this]
    have HX : Hid (KBD w D (.slice bk mk dk) (toCh x).key ∧ KBD w D (.slice bv mv dv) (toCh x).val ∧ s.drop k = x :: s.drop (k + 1)) := ⟨hxk, hxv, hst⟩
    have hbd : ∀ n', Below w.heap.size w (wr.drewN n') := fun n' => hb.trans ((below_drewN' _ _).mono hb.size)
    have HCV : Hid (∀ n', (convert 23 9 (.slice bk mk dk)).run Tryz.prog (wr.drewN n') = .ok (.string (strOfNums (toCh x).key)) (wr.drewN n')) := fun n' => kconv_b (hxk.is.keep fun b hb' => (hbd n').block b (HH.out.2.2.2.2.2.2.2 b (hxk.d b hb')))
    have HCW : Hid (∀ n', (convert 23 9 (.slice ak nk ck)).run Tryz.prog (wr.drewN n') = .ok (.string (strOfNums c.key)) (wr.drewN n')) := fun n' => kconv_b (HH.out.2.2.1.is.keep fun b hb' => (hbd n').block b (HH.out.2.2.2.2.2.2.2 b (HH.out.2.2.1.d b hb')))
    have HGE : Hid (Op.bytesLess (strOfNums (toCh x).key).toList (strOfNums c.key).toList = bytesBefore x.1 (kS c.key)) := by
     show _ = _; rw [Lib.toList_data, Lib.toList_data, less_before, show (strOfNums (toCh x).key).data.toList = x.1 from kS_kI x.1]; rfl
    clear hbd; have HP : Hid (g < w.heap.size ∧ w.cell? ⟨g, q + k * 3, none⟩ = some (.slice bk mk dk) ∧ w.cell? ⟨g, q + k * 3 + 1, none⟩ = some (.slice bv mv dv) ∧ w.cell? ⟨g, q + k * 3 + 2, none⟩ = some (.bool false)) := ⟨hg, p0, p1, p2⟩
    clear hx hxc hg p0 p1 p2 hxk hxv hmk hmv hst hb hgD; cases pb with
    | true =>
      have HO : Hid (A.map CI.c = o.map toCh ∧ o ++ ((if x.1 = kS c.key then [] else [x]) ++ dnA (kS c.key) c.val true (s.drop (k + 1))) = doP s c ∧ A.length ≤ k + 1 ∧ (true = false → A.length ≤ k ∧ cg = false)) := ⟨HI.out.2.1, by have h9 := HI.out.2.2.1; rw [HX.out.2.2, dnA_t] at h9; exact h9, by have := HI.out.2.2.2.1; have := HL.out; omega, fun h => by cases h⟩
      go_wp2_with fail
      go_quiet (fail)
      have HJ : Hid (PnJ D w (wr.drewN nq) (.slice ua L uc) A (.slice ak nk ck) (.slice av nv cv) cg) := HI.out.1.below (below_drewN' _ _); generalize wr.drewN nq = W8 at HJ ⊢; clear q0 q1 q2 z0 z1 z2 HCV HCW HGE; have t0 : W8.cell? ⟨g, q + k * 3, none⟩ = some (.slice bk mk dk) := (HJ.out.bl.cell (p := ⟨g, q + k * 3, none⟩) HP.out.1).trans HP.out.2.1; have t1 : W8.cell? ⟨g, q + k * 3 + 1, none⟩ = some (.slice bv mv dv) := (HJ.out.bl.cell (p := ⟨g, q + k * 3 + 1, none⟩) HP.out.1).trans HP.out.2.2.1; have t2 : W8.cell? ⟨g, q + k * 3 + 2, none⟩ = some (.bool false) := (HJ.out.bl.cell (p := ⟨g, q + k * 3 + 2, none⟩) HP.out.1).trans HP.out.2.2.2; have t3 : W8.cell? ⟨w.heap.size, 0, none⟩ = some (.slice ak nk ck) := (cell_of_block HJ.out.bx 0).trans rfl; have hc1 : ∀ n', (convert 23 9 (.slice bk mk dk)).run Tryz.prog (W8.drewN n') = .ok (.string (strOfNums (toCh x).key)) (W8.drewN n') := fun n' => kconv_b (HX.out.1.is.keep fun b hb' => (HJ.out.bl.trans ((below_drewN' W8 n').mono HJ.out.bl.size)).block b (HH.out.2.2.2.2.2.2.2 b (HX.out.1.d b hb')))
      have hc2 : ∀ n', (convert 23 9 (.slice ak nk ck)).run Tryz.prog (W8.drewN n') = .ok (.string (strOfNums c.key)) (W8.drewN n') := fun n' => kconv_b (HH.out.2.2.1.is.keep fun b hb' => (HJ.out.bl.trans ((below_drewN' W8 n').mono HJ.out.bl.size)).block b (HH.out.2.2.2.2.2.2.2 b (HH.out.2.2.1.d b hb')))
      obtain ⟨S1, hS1⟩ : ∃ S1, S1 = strOfNums (toCh x).key := ⟨_, rfl⟩
      obtain ⟨S2, hS2⟩ : ∃ S2, S2 = strOfNums c.key := ⟨_, rfl⟩
      have hne := str_eql x c; rw [← hS1, ← hS2] at hne; rw [← hS1] at hc1; rw [← hS2] at hc2; clear hS1 hS2; by_cases hxe : x.1 = kS c.key
      · have hne1 : (S1.toList == S2.toList) = true := by rw [hne]; simp [hxe]
        have HXE : Hid (x.1 = kS c.key) := hxe; clear hne hxe; go_wp2_with fail; go_quiet (fail); have HN : Hid (PnJ D w (W8.drewN nq) (.slice ua L uc) A (.slice ak nk ck) (.slice av nv cv) cg) := HJ.out.below (below_drewN' _ _); generalize W8.drewN nq = W9 at HN ⊢; clear t0 t1 t2 t3 hc1 hc2 hne1; go_wp2; go_roundw
        case rel => exact ⟨k + 1, A, o, true, by omega, by go_num, rfl, HN.out, HO.out.1, by have h9 := HO.out.2.1; rw [if_pos HXE.out, List.nil_append] at h9; exact h9, by have h8 := HO.out.2.2.1; omega, fun h => ⟨by have h8 := (HO.out.2.2.2 (by first | exact h | trivial)).1; omega, (HO.out.2.2.2 (by first | exact h | trivial)).2⟩⟩
        case measure => simp [intOf]; omega
      · have hne1 : (S1.toList == S2.toList) = false := by rw [hne]; simp [hxe]
        have HXE : Hid (¬ x.1 = kS c.key) := hxe; clear hne hxe; go_wp2_with fail; go_quiet (fail); have HN : Hid (PnJ D w (W8.drewN nq) (.slice ua L uc) A (.slice ak nk ck) (.slice av nv cv) cg) := HJ.out.below (below_drewN' _ _); have HTT : Hid ((W8.drewN nq).cell? ⟨g, q + k * 3, none⟩ = some (.slice bk mk dk) ∧ (W8.drewN nq).cell? ⟨g, q + k * 3 + 1, none⟩ = some (.slice bv mv dv) ∧ (W8.drewN nq).cell? ⟨g, q + k * 3 + 2, none⟩ = some (.bool false)) := ⟨(HN.out.bl.cell (p := ⟨g, q + k * 3, none⟩) HP.out.1).trans HP.out.2.1, (HN.out.bl.cell (p := ⟨g, q + k * 3 + 1, none⟩) HP.out.1).trans HP.out.2.2.1, (HN.out.bl.cell (p := ⟨g, q + k * 3 + 2, none⟩) HP.out.1).trans HP.out.2.2.2⟩
        clear t0 t1 t2 t3 hc1 hc2 hne1; generalize W8.drewN nq = W9 at HN HTT ⊢; have t0 := HTT.out.1; have t1 := HTT.out.2.1; have t2 := HTT.out.2.2; clear HTT; have TA : Hid True := trivial; go_wp2_with (first
         | (have _ := TA
            at_builtin
            clear TA; refine wpList_append_c rfl _ _ rfl (w.heap.size + 1) (.slice ua L uc) A ⟨toCh x, .slice bk mk dk, .slice bv mv dv⟩ ⟨_, _, _, rfl⟩ ⟨_, _, _, rfl⟩ rfl (HN.out.below (by go_grown)).row W9.heap.size rfl (heap_alloc_new _ _) (by have h8 := HO.out.2.2.1; omega) (by have := HN.out.sz; simp; omega) ?_; intro v2 W2 ho2 hg2 ha2; have HN2 : Hid (PnJ D w W2 v2 (A ++ [(⟨toCh x, .slice bk mk dk, .slice bv mv dv⟩ : CI)]) (.slice ak nk ck) (.slice av nv cv) cg) := (HN.out.below (by go_grown)).add ho2 hg2 ⟨HX.out.1, HX.out.2.1⟩; clear ho2 hg2 ha2 t0 t1 t2))
        go_roundw
        case rel => exact ⟨k + 1, A ++ [(⟨toCh x, .slice bk mk dk, .slice bv mv dv⟩ : CI)], o ++ [x], true, by omega, by go_num, rfl, HN2.out, dn_ci HO.out.1 rfl, by have h9 := HO.out.2.1; rw [if_neg HXE.out, ← List.append_assoc] at h9; exact h9, by have h8 := HO.out.2.2.1; rw [List.length_append]; simp; omega, fun h => ⟨by have h8 := (HO.out.2.2.2 (by first | exact h | trivial)).1; rw [List.length_append]; simp; omega, (HO.out.2.2.2 (by first | exact h | trivial)).2⟩⟩
        case measure => simp [intOf]; omega
    | false =>
      cases hB : bytesBefore x.1 (kS c.key) with
      | true =>
        have HO : Hid (A.map CI.c = o.map toCh ∧ o ++ ((if x.1 = kS c.key then [] else [x]) ++ dnA (kS c.key) c.val false (s.drop (k + 1))) = doP s c ∧ A.length ≤ k + 1 ∧ (false = false → A.length ≤ k ∧ cg = false)) := ⟨HI.out.2.1, by have h9 := HI.out.2.2.1; rw [HX.out.2.2, dnA_f1 hB] at h9; exact h9, by have := HI.out.2.2.2.1; have := HL.out; omega, fun h => ⟨by have := (HI.out.2.2.2.2 h).1; have := HL.out; omega, (HI.out.2.2.2.2 h).2⟩⟩
        have hc1 := HCV.out; have hc2 := HCW.out; have hge := HGE.out; rw [hB] at hge; obtain ⟨S1, hS1⟩ : ∃ S1, S1 = strOfNums (toCh x).key := ⟨_, rfl⟩
        obtain ⟨S2, hS2⟩ : ∃ S2, S2 = strOfNums c.key := ⟨_, rfl⟩
        rw [← hS1] at hc1 hge; rw [← hS2] at hc2 hge; clear hS1 hS2; go_wp2_with fail; go_quiet (fail); have HJ : Hid (PnJ D w (wr.drewN nq) (.slice ua L uc) A (.slice ak nk ck) (.slice av nv cv) cg) := HI.out.1.below (below_drewN' _ _); generalize wr.drewN nq = W8 at HJ ⊢; clear q0 q1 q2 z0 z1 z2 HCV HCW HGE; have t0 : W8.cell? ⟨g, q + k * 3, none⟩ = some (.slice bk mk dk) := (HJ.out.bl.cell (p := ⟨g, q + k * 3, none⟩) HP.out.1).trans HP.out.2.1; have t1 : W8.cell? ⟨g, q + k * 3 + 1, none⟩ = some (.slice bv mv dv) := (HJ.out.bl.cell (p := ⟨g, q + k * 3 + 1, none⟩) HP.out.1).trans HP.out.2.2.1; have t2 : W8.cell? ⟨g, q + k * 3 + 2, none⟩ = some (.bool false) := (HJ.out.bl.cell (p := ⟨g, q + k * 3 + 2, none⟩) HP.out.1).trans HP.out.2.2.2; have t3 : W8.cell? ⟨w.heap.size, 0, none⟩ = some (.slice ak nk ck) := (cell_of_block HJ.out.bx 0).trans rfl; have hc1 : ∀ n', (convert 23 9 (.slice bk mk dk)).run Tryz.prog (W8.drewN n') = .ok (.string (strOfNums (toCh x).key)) (W8.drewN n') := fun n' => kconv_b (HX.out.1.is.keep fun b hb' => (HJ.out.bl.trans ((below_drewN' W8 n').mono HJ.out.bl.size)).block b (HH.out.2.2.2.2.2.2.2 b (HX.out.1.d b hb')))
        have hc2 : ∀ n', (convert 23 9 (.slice ak nk ck)).run Tryz.prog (W8.drewN n') = .ok (.string (strOfNums c.key)) (W8.drewN n') := fun n' => kconv_b (HH.out.2.2.1.is.keep fun b hb' => (HJ.out.bl.trans ((below_drewN' W8 n').mono HJ.out.bl.size)).block b (HH.out.2.2.2.2.2.2.2 b (HH.out.2.2.1.d b hb')))
        obtain ⟨S1, hS1⟩ : ∃ S1, S1 = strOfNums (toCh x).key := ⟨_, rfl⟩
        obtain ⟨S2, hS2⟩ : ∃ S2, S2 = strOfNums c.key := ⟨_, rfl⟩
        have hne := str_eql x c; rw [← hS1, ← hS2] at hne; rw [← hS1] at hc1; rw [← hS2] at hc2; clear hS1 hS2; by_cases hxe : x.1 = kS c.key
        · have hne1 : (S1.toList == S2.toList) = true := by rw [hne]; simp [hxe]
          have HXE : Hid (x.1 = kS c.key) := hxe; clear hne hxe; go_wp2_with fail; go_quiet (fail); have HN : Hid (PnJ D w (W8.drewN nq) (.slice ua L uc) A (.slice ak nk ck) (.slice av nv cv) cg) := HJ.out.below (below_drewN' _ _); generalize W8.drewN nq = W9 at HN ⊢; clear t0 t1 t2 t3 hc1 hc2 hne1; go_wp2; go_roundw
          case rel => exact ⟨k + 1, A, o, false, by omega, by go_num, rfl, HN.out, HO.out.1, by have h9 := HO.out.2.1; rw [if_pos HXE.out, List.nil_append] at h9; exact h9, by have h8 := HO.out.2.2.1; omega, fun h => ⟨by have h8 := (HO.out.2.2.2 (by first | exact h | trivial)).1; omega, (HO.out.2.2.2 (by first | exact h | trivial)).2⟩⟩
          case measure => simp [intOf]; omega
        · have hne1 : (S1.toList == S2.toList) = false := by rw [hne]; simp [hxe]
          have HXE : Hid (¬ x.1 = kS c.key) := hxe; clear hne hxe; go_wp2_with fail; go_quiet (fail); have HN : Hid (PnJ D w (W8.drewN nq) (.slice ua L uc) A (.slice ak nk ck) (.slice av nv cv) cg) := HJ.out.below (below_drewN' _ _); have HTT : Hid ((W8.drewN nq).cell? ⟨g, q + k * 3, none⟩ = some (.slice bk mk dk) ∧ (W8.drewN nq).cell? ⟨g, q + k * 3 + 1, none⟩ = some (.slice bv mv dv) ∧ (W8.drewN nq).cell? ⟨g, q + k * 3 + 2, none⟩ = some (.bool false)) := ⟨(HN.out.bl.cell (p := ⟨g, q + k * 3, none⟩) HP.out.1).trans HP.out.2.1, (HN.out.bl.cell (p := ⟨g, q + k * 3 + 1, none⟩) HP.out.1).trans HP.out.2.2.1, (HN.out.bl.cell (p := ⟨g, q + k * 3 + 2, none⟩) HP.out.1).trans HP.out.2.2.2⟩
          clear t0 t1 t2 t3 hc1 hc2 hne1; generalize W8.drewN nq = W9 at HN HTT ⊢; have t0 := HTT.out.1; have t1 := HTT.out.2.1; have t2 := HTT.out.2.2; clear HTT; have TA : Hid True := trivial; go_wp2_with (first
           | (have _ := TA
              at_builtin
              clear TA; refine wpList_append_c rfl _ _ rfl (w.heap.size + 1) (.slice ua L uc) A ⟨toCh x, .slice bk mk dk, .slice bv mv dv⟩ ⟨_, _, _, rfl⟩ ⟨_, _, _, rfl⟩ rfl (HN.out.below (by go_grown)).row W9.heap.size rfl (heap_alloc_new _ _) (by have h8 := HO.out.2.2.1; omega) (by have := HN.out.sz; simp; omega) ?_; intro v2 W2 ho2 hg2 ha2; have HN2 : Hid (PnJ D w W2 v2 (A ++ [(⟨toCh x, .slice bk mk dk, .slice bv mv dv⟩ : CI)]) (.slice ak nk ck) (.slice av nv cv) cg) := (HN.out.below (by go_grown)).add ho2 hg2 ⟨HX.out.1, HX.out.2.1⟩; clear ho2 hg2 ha2 t0 t1 t2))
          go_roundw
          case rel => exact ⟨k + 1, A ++ [(⟨toCh x, .slice bk mk dk, .slice bv mv dv⟩ : CI)], o ++ [x], false, by omega, by go_num, rfl, HN2.out, dn_ci HO.out.1 rfl, by have h9 := HO.out.2.1; rw [if_neg HXE.out, ← List.append_assoc] at h9; exact h9, by have h8 := HO.out.2.2.1; rw [List.length_append]; simp; omega, fun h => ⟨by have h8 := (HO.out.2.2.2 (by first | exact h | trivial)).1; rw [List.length_append]; simp; omega, (HO.out.2.2.2 (by first | exact h | trivial)).2⟩⟩
          case measure => simp [intOf]; omega
      | false =>
        have hcg := (HI.out.2.2.2.2 rfl).2; have HO : Hid ((A ++ [(⟨c, .slice ak nk ck, .slice av nv cv⟩ : CI)]).map CI.c = (o ++ [(kS c.key, c.val)]).map toCh ∧ (o ++ [(kS c.key, c.val)]) ++ ((if x.1 = kS c.key then [] else [x]) ++ dnA (kS c.key) c.val true (s.drop (k + 1))) = doP s c ∧ (A ++ [(⟨c, .slice ak nk ck, .slice av nv cv⟩ : CI)]).length ≤ k + 1 ∧ (true = false → (A ++ [(⟨c, .slice ak nk ck, .slice av nv cv⟩ : CI)]).length ≤ k ∧ cg = false)) := ⟨dn_ci HI.out.2.1 (toCh_c (by rw [← HH.out.2.2.2.2.2.1]; exact hcg) HH.out.2.2.2.2.1).symm, by have h9 := HI.out.2.2.1; rw [HX.out.2.2, dnA_f0 hB, ← List.append_assoc] at h9; exact h9, by have h9 := (HI.out.2.2.2.2 rfl).1; have := HL.out; rw [List.length_append]; simp; omega, fun h => by cases h⟩
        have HCG : Hid (cg = false ∧ c.gone = cg ∧ L ≤ k) := ⟨hcg, HH.out.2.2.2.2.2.1.symm, (HI.out.2.2.2.2 rfl).1⟩
        clear hcg; have hc1 := HCV.out; have hc2 := HCW.out; have hge := HGE.out; rw [hB] at hge; obtain ⟨S1, hS1⟩ : ∃ S1, S1 = strOfNums (toCh x).key := ⟨_, rfl⟩
        obtain ⟨S2, hS2⟩ : ∃ S2, S2 = strOfNums c.key := ⟨_, rfl⟩
        rw [← hS1] at hc1 hge; rw [← hS2] at hc2 hge; clear hS1 hS2; go_wp2_with fail; go_quiet (fail); have HJ8 : Hid (PnJ D w (wr.drewN nq) (.slice ua L uc) A (.slice ak nk ck) (.slice av nv cv) cg) := HI.out.1.below (below_drewN' _ _); generalize wr.drewN nq = W8 at HJ8 ⊢; clear q0 q1 q2 z0 z1 z2 HCV HCW HGE; have z0 : W8.cell? ⟨w.heap.size, 0, none⟩ = some (.slice ak nk ck) := (cell_of_block HJ8.out.bx 0).trans rfl; have z1 : W8.cell? ⟨w.heap.size, 1, none⟩ = some (.slice av nv cv) := (cell_of_block HJ8.out.bx 1).trans rfl; have z2 : W8.cell? ⟨w.heap.size, 2, none⟩ = some (.bool cg) := (cell_of_block HJ8.out.bx 2).trans rfl; have TB : Hid True := trivial; go_wp2_with (first
         | (have _ := TB
            at_builtin
            clear TB; refine wpList_append_c rfl _ _ rfl (w.heap.size + 1) (.slice ua L uc) A ⟨c, .slice ak nk ck, .slice av nv cv⟩ ⟨_, _, _, rfl⟩ ⟨_, _, _, rfl⟩ rfl (HJ8.out.below (by go_grown)).row W8.heap.size rfl (by show _ = some (Obj.cells #[.slice ak nk ck, .slice av nv cv, .bool c.gone] 90); rw [HCG.out.2.1, HCG.out.1]; exact heap_alloc_new _ _) (by have h8 := HCG.out.2.2; have h7 := HL.out; omega) (by have := HJ8.out.sz; simp; omega) ?_; intro v1 W1 ho1 hg1 ha1; have HJ : Hid (PnJ D w W1 v1 (A ++ [(⟨c, .slice ak nk ck, .slice av nv cv⟩ : CI)]) (.slice ak nk ck) (.slice av nv cv) cg) := (HJ8.out.below (by go_grown)).add ho1 hg1 ⟨HH.out.2.2.1, HH.out.2.2.2.1⟩; clear ho1 hg1 ha1 z0 z1 z2; obtain ⟨ua1, uc1, hua1⟩ := row_form HJ.out.row; subst hua1; obtain ⟨L1, hL1⟩ : ∃ L1, L1 = (A ++ [(⟨c, .slice ak nk ck, .slice av nv cv⟩ : CI)]).length := ⟨_, rfl⟩
            rw [← hL1] at HJ ⊢; obtain ⟨A1, hA1⟩ : ∃ A1, A1 = A ++ [(⟨c, .slice ak nk ck, .slice av nv cv⟩ : CI)] := ⟨_, rfl⟩
            rw [← hA1] at HJ HO; obtain ⟨o1, ho1⟩ : ∃ o1, o1 = o ++ [(kS c.key, c.val)] := ⟨_, rfl⟩
            rw [← ho1] at HO; clear hL1 hA1 ho1))
        have t0 : W1.cell? ⟨g, q + k * 3, none⟩ = some (.slice bk mk dk) := (HJ.out.bl.cell (p := ⟨g, q + k * 3, none⟩) HP.out.1).trans HP.out.2.1; have t1 : W1.cell? ⟨g, q + k * 3 + 1, none⟩ = some (.slice bv mv dv) := (HJ.out.bl.cell (p := ⟨g, q + k * 3 + 1, none⟩) HP.out.1).trans HP.out.2.2.1; have t2 : W1.cell? ⟨g, q + k * 3 + 2, none⟩ = some (.bool false) := (HJ.out.bl.cell (p := ⟨g, q + k * 3 + 2, none⟩) HP.out.1).trans HP.out.2.2.2; have t3 : W1.cell? ⟨w.heap.size, 0, none⟩ = some (.slice ak nk ck) := (cell_of_block HJ.out.bx 0).trans rfl; have hc1 : ∀ n', (convert 23 9 (.slice bk mk dk)).run Tryz.prog (W1.drewN n') = .ok (.string (strOfNums (toCh x).key)) (W1.drewN n') := fun n' => kconv_b (HX.out.1.is.keep fun b hb' => (HJ.out.bl.trans ((below_drewN' W1 n').mono HJ.out.bl.size)).block b (HH.out.2.2.2.2.2.2.2 b (HX.out.1.d b hb')))
        have hc2 : ∀ n', (convert 23 9 (.slice ak nk ck)).run Tryz.prog (W1.drewN n') = .ok (.string (strOfNums c.key)) (W1.drewN n') := fun n' => kconv_b (HH.out.2.2.1.is.keep fun b hb' => (HJ.out.bl.trans ((below_drewN' W1 n').mono HJ.out.bl.size)).block b (HH.out.2.2.2.2.2.2.2 b (HH.out.2.2.1.d b hb')))
        obtain ⟨S1, hS1⟩ : ∃ S1, S1 = strOfNums (toCh x).key := ⟨_, rfl⟩
        obtain ⟨S2, hS2⟩ : ∃ S2, S2 = strOfNums c.key := ⟨_, rfl⟩
        have hne := str_eql x c; rw [← hS1, ← hS2] at hne; rw [← hS1] at hc1; rw [← hS2] at hc2; clear hS1 hS2; by_cases hxe : x.1 = kS c.key
        · have hne1 : (S1.toList == S2.toList) = true := by rw [hne]; simp [hxe]
          have HXE : Hid (x.1 = kS c.key) := hxe; clear hne hxe; go_wp2_with fail; go_quiet (fail); have HN : Hid (PnJ D w (W1.drewN nq) (.slice ua1 L1 uc1) A1 (.slice ak nk ck) (.slice av nv cv) cg) := HJ.out.below (below_drewN' _ _); generalize W1.drewN nq = W9 at HN ⊢; clear t0 t1 t2 t3 hc1 hc2 hne1; go_wp2; go_roundw
          case rel => exact ⟨k + 1, A1, o1, true, by omega, by go_num, rfl, HN.out, HO.out.1, by have h9 := HO.out.2.1; rw [if_pos HXE.out, List.nil_append] at h9; exact h9, by have h8 := HO.out.2.2.1; omega, fun h => ⟨by have h8 := (HO.out.2.2.2 (by first | exact h | trivial)).1; omega, (HO.out.2.2.2 (by first | exact h | trivial)).2⟩⟩
          case measure => simp [intOf]; omega
        · have hne1 : (S1.toList == S2.toList) = false := by rw [hne]; simp [hxe]
          have HXE : Hid (¬ x.1 = kS c.key) := hxe; clear hne hxe; go_wp2_with fail; go_quiet (fail); have HN : Hid (PnJ D w (W1.drewN nq) (.slice ua1 L1 uc1) A1 (.slice ak nk ck) (.slice av nv cv) cg) := HJ.out.below (below_drewN' _ _); have HTT : Hid ((W1.drewN nq).cell? ⟨g, q + k * 3, none⟩ = some (.slice bk mk dk) ∧ (W1.drewN nq).cell? ⟨g, q + k * 3 + 1, none⟩ = some (.slice bv mv dv) ∧ (W1.drewN nq).cell? ⟨g, q + k * 3 + 2, none⟩ = some (.bool false)) := ⟨(HN.out.bl.cell (p := ⟨g, q + k * 3, none⟩) HP.out.1).trans HP.out.2.1, (HN.out.bl.cell (p := ⟨g, q + k * 3 + 1, none⟩) HP.out.1).trans HP.out.2.2.1, (HN.out.bl.cell (p := ⟨g, q + k * 3 + 2, none⟩) HP.out.1).trans HP.out.2.2.2⟩
          clear t0 t1 t2 t3 hc1 hc2 hne1; generalize W1.drewN nq = W9 at HN HTT ⊢; have t0 := HTT.out.1; have t1 := HTT.out.2.1; have t2 := HTT.out.2.2; clear HTT; have TA : Hid True := trivial; go_wp2_with (first
           | (have _ := TA
              at_builtin
              clear TA; refine wpList_append_c rfl _ _ rfl (w.heap.size + 1) (.slice ua1 L1 uc1) A1 ⟨toCh x, .slice bk mk dk, .slice bv mv dv⟩ ⟨_, _, _, rfl⟩ ⟨_, _, _, rfl⟩ rfl (HN.out.below (by go_grown)).row W9.heap.size rfl (heap_alloc_new _ _) (by have h8 := HO.out.2.2.1; omega) (by have := HN.out.sz; simp; omega) ?_; intro v2 W2 ho2 hg2 ha2; have HN2 : Hid (PnJ D w W2 v2 (A1 ++ [(⟨toCh x, .slice bk mk dk, .slice bv mv dv⟩ : CI)]) (.slice ak nk ck) (.slice av nv cv) cg) := (HN.out.below (by go_grown)).add ho2 hg2 ⟨HX.out.1, HX.out.2.1⟩; clear ho2 hg2 ha2 t0 t1 t2))
          go_roundw
          case rel => exact ⟨k + 1, A1 ++ [(⟨toCh x, .slice bk mk dk, .slice bv mv dv⟩ : CI)], o1 ++ [x], true, by omega, by go_num, rfl, HN2.out, dn_ci HO.out.1 rfl, by have h9 := HO.out.2.1; rw [if_neg HXE.out, ← List.append_assoc] at h9; exact h9, by have h8 := HO.out.2.2.1; rw [List.length_append]; simp; omega, fun h => ⟨by have h8 := (HO.out.2.2.2 (by first | exact h | trivial)).1; rw [List.length_append]; simp; omega, (HO.out.2.2.2 (by first | exact h | trivial)).2⟩⟩
          case measure => simp [intOf]; omega
  · obtain rfl : k = N := by omega
    have hki : ¬ ((k : Int) < k) := by omega
    have hdn : s.drop k = [] := by rw [List.drop_eq_nil_iff]; have := HH.out.2.2.2.2.2.2.1; omega
    cases pb with
    | true =>
      go_wp2; go_ret
      have h9 := HI.out.2.2.1; rw [hdn, dnA_true, show delG ([] : List (List UInt8 × List Int)) (kS c.key) = [] from rfl, List.append_nil] at h9; refine ⟨_, rfl, ?_, HI.out.1.bl⟩; rw [← h9, ← HI.out.2.1]; exact (show PnJ D w wr (.slice ua L uc) A (.slice ak nk ck) (.slice av nv cv) cg from HI.out.1).ls HH.out.2.2.2.2.2.2.2
    | false =>
      have hcg := (HI.out.2.2.2.2 rfl).2; have h9 := HI.out.2.2.1; rw [hdn, show dnA (kS c.key) c.val false [] = [(kS c.key, c.val)] from rfl] at h9; have HO : Hid ((A ++ [(⟨c, .slice ak nk ck, .slice av nv cv⟩ : CI)]).map CI.c = (doP s c).map toCh ∧ c.gone = cg ∧ A.length ≤ k) := ⟨by rw [← h9]; exact dn_ci HI.out.2.1 (toCh_c (by rw [← HH.out.2.2.2.2.2.1]; exact hcg) HH.out.2.2.2.2.1).symm, HH.out.2.2.2.2.2.1.symm, by have := (HI.out.2.2.2.2 rfl).1; have := HL.out; omega⟩
      have HCF : Hid (cg = false) := hcg; clear hcg h9 hdn; have z0 : wr.cell? ⟨w.heap.size, 0, none⟩ = some (.slice ak nk ck) := (cell_of_block HI.out.1.bx 0).trans rfl; have z1 : wr.cell? ⟨w.heap.size, 1, none⟩ = some (.slice av nv cv) := (cell_of_block HI.out.1.bx 1).trans rfl; have z2 : wr.cell? ⟨w.heap.size, 2, none⟩ = some (.bool cg) := (cell_of_block HI.out.1.bx 2).trans rfl; have TB : Hid True := trivial; go_wp2_with (first
       | (have _ := TB
          at_builtin
          clear TB; refine wpList_append_c rfl _ _ rfl (w.heap.size + 1) (.slice ua L uc) A ⟨c, .slice ak nk ck, .slice av nv cv⟩ ⟨_, _, _, rfl⟩ ⟨_, _, _, rfl⟩ rfl (HI.out.1.below (by go_grown)).row wr.heap.size rfl (by show _ = some (Obj.cells #[.slice ak nk ck, .slice av nv cv, .bool c.gone] 90); rw [HO.out.2.1, HCF.out]; exact heap_alloc_new _ _) (by have h8 := HO.out.2.2; have h7 := HL.out; omega) (by have := HI.out.1.sz; simp; omega) ?_; intro v1 W1 ho1 hg1 ha1; have HJ : Hid (PnJ D w W1 v1 (A ++ [(⟨c, .slice ak nk ck, .slice av nv cv⟩ : CI)]) (.slice ak nk ck) (.slice av nv cv) cg) := (HI.out.1.below (by go_grown)).add ho1 hg1 ⟨HH.out.2.2.1, HH.out.2.2.2.1⟩; clear ho1 hg1 ha1 z0 z1 z2))
      go_ret; refine ⟨_, rfl, ?_, HJ.out.bl⟩
      rw [← HO.out.1]; exact HJ.out.ls HH.out.2.2.2.2.2.2.2
end Go.Proofs.YtconkienlcegaaaGreatDoor
