/- kv: do, of a snapshot. -/
import Derived.Test.YtconkienlcegaaaGreatDoorGDD
import Derived.Test.YtconkienlcegaaaGreatDoorGKQ
namespace Go.Proofs.YtconkienlcegaaaGreatDoor
open Go.RowKit Go.Maps Go.Joins Go.Shelf
set_option linter.unusedSimpArgs false
set_option linter.unusedVariables false
theorem cleared_own {w : World} {bm : Nat} {es : _} {cl : _} (hb : w.heap[bm]? = some (.map es cl)) : (w.putObj bm (.map #[] cl)).ownsMap Tryz.prog 9 Rv bm 0 (toDk []) :=
 ⟨#[], cl, World.putObj_heap_same (heap_lt hb), ⟨by simp, MapKept.stamped_empty cl, by simp⟩, Nat.le_refl _, rfl⟩
theorem wpList_clear_k {w : World} {ops : Array Oper} {rest : List Oper} {o : Oper} {a : Act} {Q : Exit → Act → World → Prop} (hgd : o.guard = none) (x : Operand) (ho : o.op = .call { callee := .builtin .clear, args := #[x], argTypes := #[94] }) {bm : Nat} (hx : a.eval x = .map (some bm)) {es : _} {cl : _} (hb : w.heap[bm]? = some (.map es cl))
 (h : wpList Tryz.prog ops Q rest (a.put o.dst (.tuple #[])) (w.putObj bm (.map #[] cl))) : wpList Tryz.prog ops Q (o :: rest) a w := by
 refine wpList_plain hgd fun K hK => ?_
 unfold Oper.wp; simp [execOp, ho, resolve, invoke, builtin, hx, Builtin.clear_, run_underlying Tryz.underlying94, MapKept.run_getObj_map hb, MapKept.run_setObj_map _ hb, Result.andThen]; exact hK _ _ h
attribute [local go_sem] Oper.semAt_some
set_option maxRecDepth 100000 in
set_option maxHeartbeats 8000000 in
theorem do_snap {w : World} {b bl : Nat} {br : Bool} {bm : Nat} {m : List (List UInt8 × Value × List Int)} {D : Nat → Prop} (h : KS w D b bl br bm m) (hD : ∀ x, D x → x < w.heap.size) {g o cap : Nat} {l : List Ch} (hr : BytesV w (.slice (some ⟨g, o, none⟩) ((encK l).length + 1) cap) (1 :: encK l)) (hl : okL l) (hkb : KByt (encK l)) (hc : (encK l).length + 1 ≤ cap) (hm : cap ≤ 9223372036854775807) (hlen : (encK l).length + 1 ≤ 140737488355328) :
 Calls Tryz.prog 45 #[.pointer (some ⟨b, 0, none⟩), .slice (some ⟨g, o, none⟩) ((encK l).length + 1) cap] w fun e w' => e = .returned (.tuple #[]) ∧ w.grownBy w' (some bm) ∧ ∃ m', KS w' (fun x => D x ∨ (w.heap.size ≤ x ∧ x < w'.heap.size)) b bl br bm m' ∧ mk m' = doPs [] l ∧ m'.length ≤ 0 + l.length := by
 have HH : Hid (KS w D b bl br bm m ∧ BytesV w (.slice (some ⟨g, o, none⟩) ((encK l).length + 1) cap) (1 :: encK l) ∧ okL l ∧ KByt (encK l)) := ⟨h, hr, hl, hkb⟩
 obtain ⟨N, hN⟩ : ∃ N, N = (encK l).length := ⟨_, rfl⟩
 rw [← hN] at hc hlen ⊢; have HN : Hid (N = (encK l).length) := hN; have c0 : w.cell? ⟨g, o, none⟩ = some (.int .u8 1) := by
  have := hr.at (k := 0) (x := 1) rfl; obtain ⟨g', o', e, hc'⟩ := this; injection e with e
  injection e with e1 e2
  rw [← e1, ← e2] at hc'
  simpa using hc'
 have hgl : g < w.heap.size := heap_ltc c0; have hml : (0 : Nat) ≤ 4611686018427387904 := by omega
 obtain ⟨es, cl, hes⟩ := owns_map h.mp; have hbm := hD _ h.dm; clear h hr hl hkb hN; refine (callsIn_wide (n := 4)).1 ?_; refine callsIn_of_wp_marks Tryz.func45 rfl trivial ?_ rfl; simp only [Tryz.ntmps45, List.size_toArray, List.length_cons, List.length_nil, Nat.reduceAdd, Nat.reduceSub, Array.replicate_succ, Array.replicate_zero, List.push_toArray, List.append_toArray, List.nil_append, List.cons_append]; refine wpIn_wide.2 ?_; obtain ⟨o1, ho1⟩ : ∃ o1, o1 = if cap = 1 then o else o + 1 := ⟨_, rfl⟩
 have hsl := fun w' => slL2 w' g o (N + 1) cap 1 1 rfl (by omega)
 rw [← ho1, Nat.add_sub_cancel] at hsl; have hrb : BytesV w (.slice (some ⟨g, o1, none⟩) N (cap - 1)) (encK l) := by
  have h1 := HH.out.2.1; rw [← HN.out] at h1; have h2 := BytesV.cutLH (bs := 1 :: encK l) (i := 1) (l := N) (by rw [List.length_cons, ← HN.out]; exact h1) (by rw [List.length_cons, ← HN.out]; omega) (by rw [List.length_cons, ← HN.out]; omega); rw [← ho1] at h2
  simpa [HN.out] using h2
 have HRB : Hid (BytesV w (.slice (some ⟨g, o1, none⟩) N (cap - 1)) (encK l)) := hrb; clear ho1 hrb; have T0 : Hid True := trivial; have hcb : w.cell? ⟨b, 1, none⟩ = some (.map (some bm)) := (cell_of_block HH.out.1.st 1).trans rfl; have heb : (w.alloc (.cells #[.pointer (some ⟨b, 0, none⟩)] 31)).heap[bm]? = some (.map es cl) := (heap_alloc_old _ _ _ hbm).trans hes; have hbb := hD _ HH.out.1.db; obtain ⟨V, hV⟩ : ∃ V, V = (w.alloc (.cells #[.pointer (some ⟨b, 0, none⟩)] 31)).putObj bm (.map #[] cl) := ⟨_, rfl⟩
 have hVs : V.heap.size = w.heap.size + 1 := by rw [hV]; simp [World.putObj]
 have hVo : ∀ x, x ≠ bm → V.heap[x]? = (w.alloc (.cells #[.pointer (some ⟨b, 0, none⟩)] 31)).heap[x]? := fun x hx => by rw [hV]; exact World.putObj_heap_other hx
 have HV : Hid (V = (w.alloc (.cells #[.pointer (some ⟨b, 0, none⟩)] 31)).putObj bm (.map #[] cl)) := hV; have HVO : Hid (∀ x, x ≠ bm → V.heap[x]? = (w.alloc (.cells #[.pointer (some ⟨b, 0, none⟩)] 31)).heap[x]?) := hVo; have HEB : Hid ((w.alloc (.cells #[.pointer (some ⟨b, 0, none⟩)] 31)).heap[bm]? = some (.map es cl)) := heb; have HVM : Hid (V.ownsMap Tryz.prog 9 Rv bm 0 (toDk [])) := by rw [hV]; exact cleared_own heb
 have HVG : Hid (V.os = w.os ∧ V.tape = w.tape ∧ V.output = w.output) := by rw [hV]; exact ⟨rfl, rfl, rfl⟩
 clear hV hVo heb hes; go_wp2_with (first
  | (have _ := T0
     refine wpList_clear_k rfl _ rfl rfl HEB.out ?_; clear T0; rw [← HV.out]; have T1 : Hid True := trivial)
  | (have _ := T1
     go_at_call 61
     clear T1; refine Calls.mono (changes_any _ _ _) ?_; rintro e w1 ⟨rfl, rfl⟩))
 refine (wpIn_wide (n := 4)).1 ?_; refine range_leave (gf := 97) (lb := #[.pointer (some ⟨w.heap.size + 1, 0, none⟩)]) rfl (enters_of Tryz.func97 (by kernel_rfl) rfl) ?_; intro r W1 hst hpe htm hpar has' hbod hW1; have hW : W1 = [Obj.cells #[.slice (some ⟨g, o1, none⟩) N (cap - 1)] 23, .deferred (some []), .loop r].foldl World.alloc V := by rw [hW1]; rfl
 have hsz : (V.alloc (.cells #[.slice (some ⟨g, o1, none⟩) N (cap - 1)] 23)).heap.size = w.heap.size + 2 := by simp [hVs]
 rw [hsz]; have hh := fun k o hk => allocs_heap [Obj.cells #[.slice (some ⟨g, o1, none⟩) N (cap - 1)] 23, .deferred (some []), .loop r] V k o hk
 have hbl := allocs_below [Obj.cells #[.slice (some ⟨g, o1, none⟩) N (cap - 1)] 23, .deferred (some []), .loop r] V; have hsz4 := allocs_size [Obj.cells #[.slice (some ⟨g, o1, none⟩) N (cap - 1)] 23, .deferred (some []), .loop r] V; rw [← hW] at hh hbl hsz4; rw [hVs] at hh; have hK := HH.out.1; have hne := hK.ne; have h0 : DoJ w W1 r D b bl br bm [] := ⟨(hbl.block _ (by omega)).trans ((HVO.out _ (by omega)).trans (heap_alloc_new _ _)), hh 1 _ rfl, hh 2 _ rfl, (hbl.block _ (by omega)).trans ((HVO.out _ hne).trans ((heap_alloc_old _ _ _ hbb).trans hK.st)), ownsMap_heap HVM.out (hbl.block _ (by omega)), fun p hp => (by cases hp), hbl.os.trans HVG.out.1, hbl.tape.trans HVG.out.2.1, hbl.output.trans HVG.out.2.2, by rw [hsz4, hVs]; simp, fun x hx hn => (hbl.block _ (by omega)).trans ((HVO.out _ hn).trans (heap_alloc_old _ _ _ hx)), hD, hK.db, hK.dm⟩
 have hXc : W1.cell? ⟨w.heap.size + 1, 0, none⟩ = some (.slice (some ⟨g, o1, none⟩) N (cap - 1)) := (cell_of_block (hh 0 _ rfl) 0).trans rfl; have HNE : Hid (b ≠ bm) := hK.ne; have HMM : Hid (∃ es cl, w.heap[bm]? = some (.map es cl)) := owns_map hK.mp; clear hW hW1 hh hbl hsz hsz4 hsl hK hVs hcb hbb hbm; rw [HN.out] at hXc; refine CallsIn.mono (changes1_in 2 (w.heap.size + 3) (w.heap.size + 1) (some ⟨g, o1, none⟩) (cap - 1) (encK l) W1 (fun k W => ∃ i m', i ≤ l.length ∧ k = (encK (l.take i)).length ∧ DoJ w W r D b bl br bm m' ∧ mk m' = doPs [] (l.take i) ∧ m'.length ≤ 0 + i) (fun W => False) hXc (by have := HN.out; omega) (by omega) (by have := HN.out; omega) HH.out.2.2.2 ⟨0, [], by omega, by simp [encK], h0, by simp [doPs, mk, mapG], by simp⟩ (fun k W h => by obtain ⟨i, m', _, _, hj, _, _⟩ := h; rw [← HN.out]; exact hj.recd HRB.out HMM.out) ?hY) ?hE
 case hY =>
  rintro k W W2 hk ⟨i, m1, hi, rfl, hj, hm1, hml1⟩ hb2; obtain ⟨c, hci, hnx, hsn⟩ := nx_at HH.out.2.2.1 hk; rw [hnx]; intro vk vv hvk hvv; have hj2 := hj.below hb2; refine YieldAt.mono (round_with (R := fun W' => ∃ i' m', i' ≤ l.length ∧ (encK (l.take i)).length + (encC c).length = (encK (l.take i')).length ∧ DoJ w W' r D b bl br bm m' ∧ mk m' = doPs [] (l.take i') ∧ m'.length ≤ 0 + i') hj2.b4 hst hpe (by rw [hpar]; rfl) ?_) (fun e W' h => Or.inl h); intro rb hrb; rw [hpar, has', hbod, htm]; clear hpar has' hbod htm hst hpe hrb h0 hXc; simp only [List.zip_toArray, List.zip_cons_cons, List.zip_nil_right, List.foldl_toArray, List.foldl_cons, List.foldl_nil, List.setIfInBounds_toArray, List.set_cons_zero, List.set_cons_succ]; have hvk2 : BytesV W2 vk c.key := hvk.keep fun x hx => hb2.block x (hvk.lt x hx)
  have hvv2 : BytesV W2 vv c.val := hvv.keep fun x hx => hb2.block x (hvv.lt x hx)
  obtain ⟨ak, ck, rfl⟩ := hvk2.form'; obtain ⟨av, cv, rfl⟩ := hvv2.form'; obtain ⟨nk, hnk⟩ : ∃ nk, nk = c.key.length := ⟨_, rfl⟩
  obtain ⟨nv, hnv⟩ : ∃ nv, nv = c.val.length := ⟨_, rfl⟩
  obtain ⟨cg, hcg⟩ : ∃ cg, cg = c.gone := ⟨_, rfl⟩
  have hoc := HH.out.2.2.1 c (List.mem_of_getElem? hci); have HC : Hid (l[i]? = some c ∧ mk m1 = doPs [] (l.take i) ∧ okK c ∧ (encK (l.take i)).length + (encC c).length = (encK (l.take (i + 1))).length ∧ c.key.length ≤ 64) := ⟨hci, hm1, hoc.1, by rw [hsn, List.length_append], hoc.1.2⟩
  have HVL : Hid (c.val.length ≤ 140737488355328) := by show _ ≤ _; have := hoc.2.1; omega
  rw [← hnk] at hvk2; rw [← hnv] at hvv2; rw [← hnk, ← hnv, ← hcg]; have HL : Hid (nk = c.key.length ∧ nv = c.val.length ∧ cg = c.gone) := ⟨hnk, hnv, hcg⟩
  have hba : Below W2.heap.size W2 (W2.alloc (.cells #[.slice ak nk ck, .slice av nv cv, .bool cg] 90)) := by go_grown
  have hj3 := hj2.below hba; have HJ3 : Hid (DoJ w (W2.alloc (.cells #[.slice ak nk ck, .slice av nv cv, .bool cg] 90)) r D b bl br bm m1) := hj3; have hs2 := hj2.sz; have hput : ∀ x, x ≠ w.heap.size + 3 → ((W2.alloc (.cells #[.slice ak nk ck, .slice av nv cv, .bool cg] 90)).putObj (w.heap.size + 3) (.loop rb)).heap[x]? = (W2.alloc (.cells #[.slice ak nk ck, .slice av nv cv, .bool cg] 90)).heap[x]? := fun x hx => World.putObj_heap_other hx
  have hrl : ∀ {v : Value} {bs : List Int}, BytesV W2 v bs → (∀ x, dBlock v bs = some x → ∀ r', W2.heap[x]? ≠ some (.loop r')) := fun hv x hx r' e => bytes_loop hv hx r' e
  have hJV := hj3.put rb; have hpb0 : ((W2.alloc (.cells #[.slice ak nk ck, .slice av nv cv, .bool cg] 90)).putObj (w.heap.size + 3) (.loop rb)).heap[W2.heap.size]? = some (.cells #[.slice ak nk ck, .slice av nv cv, .bool cg] 90) := (hput _ (by omega)).trans (heap_alloc_new _ _); have hbk : BytesV ((W2.alloc (.cells #[.slice ak nk ck, .slice av nv cv, .bool cg] 90)).putObj (w.heap.size + 3) (.loop rb)) (.slice ak nk ck) c.key := hvk2.keep fun x hx => (hput x (fun e => hrl hvk2 x hx r (by rw [e]; exact hj2.b4))).trans (hba.block x (hvk2.lt x hx))
  have hbv : BytesV ((W2.alloc (.cells #[.slice ak nk ck, .slice av nv cv, .bool cg] 90)).putObj (w.heap.size + 3) (.loop rb)) (.slice av nv cv) c.val := hvv2.keep fun x hx => (hput x (fun e => hrl hvv2 x hx r (by rw [e]; exact hj2.b4))).trans (hba.block x (hvv2.lt x hx))
  have HML : Hid (m1.length < 9223372036854775807) := by show _ < _; have := encK_ge l; have := HN.out; omega
  have HM1 : Hid (m1.length ≤ 0 + i) := hml1; have HX : Hid _ := And.intro hJV (And.intro hpb0 (And.intro hbk (And.intro hbv hs2))); clear hml1 hj hj2 hj3 hvk hvv hvk2 hvv2 hb2 hba hci hnx hsn hm1 hk hi hoc hnk hnv hcg hs2 hput hrl hJV hpb0 hbk hbv; gi_wp2; refine ⟨HJ3.out.b4, ?_⟩; generalize (W2.alloc (.cells #[.slice ak nk ck, .slice av nv cv, .bool cg] 90)).putObj (w.heap.size + 3) (.loop rb) = V at HX ⊢; generalize W2.heap.size = P at HX ⊢; have HJ0 : Hid (DoJ w V rb D b bl br bm m1) := HX.out.1; have HB : Hid (BytesV V (.slice ak nk ck) c.key ∧ BytesV V (.slice av nv cv) c.val) := ⟨HX.out.2.2.1, HX.out.2.2.2.1⟩
  have hpb := HX.out.2.1; have HPL : Hid (w.heap.size + 4 ≤ P) := HX.out.2.2.2.2; have z2 : V.cell? ⟨P, 2, none⟩ = some (.bool cg) := (cell_of_block hpb 2).trans rfl; clear HX HJ3; cases cg with
  | true =>
    gi_wp2; have hS0 : (fun w' => w'.heap[w.heap.size]? = some (.cells #[.pointer (some ⟨b, 0, none⟩)] 31) ∧ w'.heap[b]? = some (.cells #[.pointer (some ⟨bl, 0, none⟩), .map (some bm), .bool br] 96) ∧ w'.heap[P]? = some (.cells #[.slice ak nk ck, .slice av nv cv, .bool true] 90) ∧ BytesV w' (.slice ak nk ck) c.key ∧ BytesV w' (.slice av nv cv) c.val) V.drew := ⟨HJ0.out.b0, HJ0.out.st, hpb, HB.out.1, HB.out.2⟩
    refine region_round (S := fun w' => w'.heap[w.heap.size]? = some (.cells #[.pointer (some ⟨b, 0, none⟩)] 31) ∧ w'.heap[b]? = some (.cells #[.pointer (some ⟨bl, 0, none⟩), .map (some bm), .bool br] 96) ∧ w'.heap[P]? = some (.cells #[.slice ak nk ck, .slice av nv cv, .bool true] 90) ∧ BytesV w' (.slice ak nk ck) c.key ∧ BytesV w' (.slice av nv cv) c.val) (by kernel_rfl) (noDefer_spec (by kernel_rfl)) (fun ⟨_, _, h⟩ => h) hS0 (fun hHeld => ?_); refine tk 0 (.pointer (some ⟨b, 0, none⟩)) (fun w9 hSw => ?_) hHeld ?_
    · have y0 : w9.cell? ⟨w.heap.size, 0, none⟩ = some (.pointer (some ⟨b, 0, none⟩)) := (cell_of_block hSw.1 0).trans rfl
      have y1 : w9.cell? ⟨b, 1, none⟩ = some (.map (some bm)) := (cell_of_block hSw.2.1 1).trans rfl; have y2 : w9.cell? ⟨P, 0, none⟩ = some (.slice ak nk ck) := (cell_of_block hSw.2.2.1 0).trans rfl; have y3 : w9.cell? ⟨P, 1, none⟩ = some (.slice av nv cv) := (cell_of_block hSw.2.2.1 1).trans rfl; go_simp
    simp only [sm]; refine tk 1 (.pointer (some ⟨b, 0, none⟩)) (fun w9 hSw => ?_) hHeld ?_
    · go_simp
    simp only [sm]; refine tk 2 (.pointer (some ⟨b, 1, none⟩)) (fun w9 hSw => ?_) hHeld ?_
    · go_simp
    simp only [sm]; refine tk 3 (.map (some bm)) (fun w9 hSw => ?_) hHeld ?_
    · have y0 : w9.cell? ⟨w.heap.size, 0, none⟩ = some (.pointer (some ⟨b, 0, none⟩)) := (cell_of_block hSw.1 0).trans rfl
      have y1 : w9.cell? ⟨b, 1, none⟩ = some (.map (some bm)) := (cell_of_block hSw.2.1 1).trans rfl; have y2 : w9.cell? ⟨P, 0, none⟩ = some (.slice ak nk ck) := (cell_of_block hSw.2.2.1 0).trans rfl; have y3 : w9.cell? ⟨P, 1, none⟩ = some (.slice av nv cv) := (cell_of_block hSw.2.2.1 1).trans rfl; go_simp
    simp only [sm]; refine tk 4 (.pointer (some ⟨P, 0, none⟩)) (fun w9 hSw => ?_) hHeld ?_
    · go_simp
    simp only [sm]; refine tk 5 (.slice ak nk ck) (fun w9 hSw => ?_) hHeld ?_
    · have y0 : w9.cell? ⟨w.heap.size, 0, none⟩ = some (.pointer (some ⟨b, 0, none⟩)) := (cell_of_block hSw.1 0).trans rfl
      have y1 : w9.cell? ⟨b, 1, none⟩ = some (.map (some bm)) := (cell_of_block hSw.2.1 1).trans rfl; have y2 : w9.cell? ⟨P, 0, none⟩ = some (.slice ak nk ck) := (cell_of_block hSw.2.2.1 0).trans rfl; have y3 : w9.cell? ⟨P, 1, none⟩ = some (.slice av nv cv) := (cell_of_block hSw.2.2.1 1).trans rfl; go_simp
    simp only [sm]; refine tk 6 (.string (strOfNums c.key)) (fun w9 hSw => ?_) hHeld ?_
    · have y9 := kconv_b hSw.2.2.2.1
      go_simp
    simp only [sm]; refine rd 7 (fun K hK => ?_); have HV0 : Hid (DoJ w V.drew rb D b bl br bm m1) := HJ0.out.drew; refine step_delete_k (by rfl) _ _ (by rfl) (bm := bm) (m := m1) (by rfl) HV0.out.mp (key := c.key) (by rfl) (by have := HC.out.2.2.2.2; omega) ?_; intro V2 hmp hT; have hJ2 := HV0.out.turn (r := rb) hT.grown hmp HNE.out (fun p hp => Or.inl (List.mem_filter.1 hp).1); have hk2 : ∀ x, x < V.drew.heap.size → x ≠ bm → V2.heap[x]? = V.drew.heap[x]? := fun x hx hn => hT.grown.block x hx (fun e => hn (by injection e))
    have hS1 : (fun w' => w'.heap[w.heap.size]? = some (.cells #[.pointer (some ⟨b, 0, none⟩)] 31) ∧ w'.heap[b]? = some (.cells #[.pointer (some ⟨bl, 0, none⟩), .map (some bm), .bool br] 96) ∧ w'.heap[P]? = some (.cells #[.slice ak nk ck, .slice av nv cv, .bool true] 90) ∧ BytesV w' (.slice ak nk ck) c.key ∧ BytesV w' (.slice av nv cv) c.val) V2 := ⟨hJ2.b0, hJ2.st, (hk2 P (heap_lt hpb) (by have := HPL.out; have := HJ0.out.mm; omega)).trans hpb, HB.out.1.keep fun x hx => hk2 x (HB.out.1.lt x hx) (fun e => by obtain ⟨es, cl, he⟩ := owns_map HV0.out.mp; exact bytes_map HB.out.1 hx es cl (by rw [e]; exact he)), HB.out.2.keep fun x hx => hk2 x (HB.out.2.lt x hx) (fun e => by obtain ⟨es, cl, he⟩ := owns_map HV0.out.mp; exact bytes_map HB.out.2 hx es cl (by rw [e]; exact he))⟩
    have HJ2 : Hid (DoJ w V2 rb D b bl br bm (delG m1 (kS c.key))) := hJ2; have HM2 : Hid (mk (delG m1 (kS c.key)) = doPs [] (l.take (i + 1))) := by
     show _ = _; rw [mk_del, doPs_snoc HC.out.1, HC.out.2.1]; unfold doP; rw [if_pos HL.out.2.2.symm]
    refine hK.out _ _ hS1 (fun hHeld => ?_); clear hK K; try simp only [sm]
    refine wpAnyH_done (by kernel_rfl) ?_ _; clear hHeld; gi_wp2; exact ⟨HJ2.out.b4, i + 1, by have := (List.getElem?_eq_some_iff.1 HC.out.1).1; omega, HC.out.2.2.2.1, _, HJ2.out.put r, HM2.out, Nat.le_trans (del_len _ _) (Nat.le_trans HM1.out (by omega))⟩
  | false =>
    gi_wp2; have hS0 : (fun w' => w'.heap[w.heap.size]? = some (.cells #[.pointer (some ⟨b, 0, none⟩)] 31) ∧ w'.heap[b]? = some (.cells #[.pointer (some ⟨bl, 0, none⟩), .map (some bm), .bool br] 96) ∧ w'.heap[P]? = some (.cells #[.slice ak nk ck, .slice av nv cv, .bool false] 90) ∧ BytesV w' (.slice ak nk ck) c.key ∧ BytesV w' (.slice av nv cv) c.val) V.drew := ⟨HJ0.out.b0, HJ0.out.st, hpb, HB.out.1, HB.out.2⟩
    refine region_round (S := fun w' => w'.heap[w.heap.size]? = some (.cells #[.pointer (some ⟨b, 0, none⟩)] 31) ∧ w'.heap[b]? = some (.cells #[.pointer (some ⟨bl, 0, none⟩), .map (some bm), .bool br] 96) ∧ w'.heap[P]? = some (.cells #[.slice ak nk ck, .slice av nv cv, .bool false] 90) ∧ BytesV w' (.slice ak nk ck) c.key ∧ BytesV w' (.slice av nv cv) c.val) (by kernel_rfl) (noDefer_spec (by kernel_rfl)) (fun ⟨_, _, h⟩ => h) hS0 (fun hHeld => ?_); refine tk 0 (.pointer (some ⟨b, 0, none⟩)) (fun w9 hSw => ?_) hHeld ?_
    · have y0 : w9.cell? ⟨w.heap.size, 0, none⟩ = some (.pointer (some ⟨b, 0, none⟩)) := (cell_of_block hSw.1 0).trans rfl
      have y1 : w9.cell? ⟨b, 1, none⟩ = some (.map (some bm)) := (cell_of_block hSw.2.1 1).trans rfl; have y2 : w9.cell? ⟨P, 0, none⟩ = some (.slice ak nk ck) := (cell_of_block hSw.2.2.1 0).trans rfl; have y3 : w9.cell? ⟨P, 1, none⟩ = some (.slice av nv cv) := (cell_of_block hSw.2.2.1 1).trans rfl; go_simp
    simp only [sm]; refine tk 1 (.pointer (some ⟨b, 0, none⟩)) (fun w9 hSw => ?_) hHeld ?_
    · go_simp
    simp only [sm]; refine tk 2 (.pointer (some ⟨b, 1, none⟩)) (fun w9 hSw => ?_) hHeld ?_
    · go_simp
    simp only [sm]; refine tk 3 (.map (some bm)) (fun w9 hSw => ?_) hHeld ?_
    · have y0 : w9.cell? ⟨w.heap.size, 0, none⟩ = some (.pointer (some ⟨b, 0, none⟩)) := (cell_of_block hSw.1 0).trans rfl
      have y1 : w9.cell? ⟨b, 1, none⟩ = some (.map (some bm)) := (cell_of_block hSw.2.1 1).trans rfl; have y2 : w9.cell? ⟨P, 0, none⟩ = some (.slice ak nk ck) := (cell_of_block hSw.2.2.1 0).trans rfl; have y3 : w9.cell? ⟨P, 1, none⟩ = some (.slice av nv cv) := (cell_of_block hSw.2.2.1 1).trans rfl; go_simp
    simp only [sm]; refine tk 4 (.pointer (some ⟨P, 0, none⟩)) (fun w9 hSw => ?_) hHeld ?_
    · go_simp
    simp only [sm]; refine tk 5 (.slice ak nk ck) (fun w9 hSw => ?_) hHeld ?_
    · have y0 : w9.cell? ⟨w.heap.size, 0, none⟩ = some (.pointer (some ⟨b, 0, none⟩)) := (cell_of_block hSw.1 0).trans rfl
      have y1 : w9.cell? ⟨b, 1, none⟩ = some (.map (some bm)) := (cell_of_block hSw.2.1 1).trans rfl; have y2 : w9.cell? ⟨P, 0, none⟩ = some (.slice ak nk ck) := (cell_of_block hSw.2.2.1 0).trans rfl; have y3 : w9.cell? ⟨P, 1, none⟩ = some (.slice av nv cv) := (cell_of_block hSw.2.2.1 1).trans rfl; go_simp
    simp only [sm]; refine tk 6 (.string (strOfNums c.key)) (fun w9 hSw => ?_) hHeld ?_
    · have y9 := kconv_b hSw.2.2.2.1
      go_simp
    simp only [sm]; refine tk 7 (.pointer (some ⟨P, 1, none⟩)) (fun w9 hSw => ?_) hHeld ?_
    · go_simp
    simp only [sm]; refine tk 8 (.slice av nv cv) (fun w9 hSw => ?_) hHeld ?_
    · have y0 : w9.cell? ⟨w.heap.size, 0, none⟩ = some (.pointer (some ⟨b, 0, none⟩)) := (cell_of_block hSw.1 0).trans rfl
      have y1 : w9.cell? ⟨b, 1, none⟩ = some (.map (some bm)) := (cell_of_block hSw.2.1 1).trans rfl; have y2 : w9.cell? ⟨P, 0, none⟩ = some (.slice ak nk ck) := (cell_of_block hSw.2.2.1 0).trans rfl; have y3 : w9.cell? ⟨P, 1, none⟩ = some (.slice av nv cv) := (cell_of_block hSw.2.2.1 1).trans rfl; go_simp
    simp only [sm]; refine rd 9 (fun K hK => ?_); go_simp; have HV0 : Hid (DoJ w V.drew rb D b bl br bm m1) := HJ0.out.drew; refine Calls.mono (bclone_any (.slice av nv cv) c.val hS0.2.2.2.2 HVL.out) ?_; rintro e V1 ⟨vc1, rfl, ho, hb1⟩; have ho4 : V1.ownsRow (w.heap.size + 4) 5 1 vc1 c.val.length (vB c.val) := own_base ho (by have := HV0.out.sz; omega); have hJ1 := HV0.out.below hb1; have hS1 : (fun w' => w'.heap[w.heap.size]? = some (.cells #[.pointer (some ⟨b, 0, none⟩)] 31) ∧ w'.heap[b]? = some (.cells #[.pointer (some ⟨bl, 0, none⟩), .map (some bm), .bool br] 96) ∧ w'.heap[P]? = some (.cells #[.slice ak nk ck, .slice av nv cv, .bool false] 90) ∧ BytesV w' (.slice ak nk ck) c.key ∧ BytesV w' (.slice av nv cv) c.val) V1 := ⟨hJ1.b0, hJ1.st, (hb1.block P (heap_lt hS0.2.2.1)).trans hS0.2.2.1, hS0.2.2.2.1.keep fun x hx => hb1.block x (hS0.2.2.2.1.lt x hx), hS0.2.2.2.2.keep fun x hx => hb1.block x (hS0.2.2.2.2.lt x hx)⟩
    have H1 : Hid (DoJ w V1 rb D b bl br bm m1 ∧ V1.ownsRow (w.heap.size + 4) 5 1 vc1 c.val.length (vB c.val)) := ⟨hJ1, ho4⟩
    go_wp2_with fail
    refine hK.out _ _ hS1 (fun hHeld => ?_); clear hK K hb1 hJ1 ho ho4; try simp only [sm]
    refine rd 10 (fun K hK => ?_); refine step_put_k (by rfl) _ _ _ (by rfl) (bm := bm) (m := m1) (by rfl) H1.out.1.mp HML.out (key := c.key) (by rfl) (by have := HC.out.2.2.2.2; omega) (v := vc1) (by rfl) (okS_row H1.out.2) c.val ?_; intro V2 hmp hT; have hJ2 := H1.out.1.turn (r := rb) hT.grown hmp HNE.out (fun p hp => by
     rcases put_mem hp with h9 | h9
     · refine Or.inr ?_
       rw [h9]; exact ⟨okS_row H1.out.2, BytesV.of_own H1.out.2, fun x hx => Or.inr (H1.out.2.lt x (dBlock_own hx)).1, HVL.out⟩
     · exact Or.inl h9)
    have hk2 : ∀ x, x < V1.heap.size → x ≠ bm → V2.heap[x]? = V1.heap[x]? := fun x hx hn => hT.grown.block x hx (fun e => hn (by injection e))
    have hS2 : (fun w' => w'.heap[w.heap.size]? = some (.cells #[.pointer (some ⟨b, 0, none⟩)] 31) ∧ w'.heap[b]? = some (.cells #[.pointer (some ⟨bl, 0, none⟩), .map (some bm), .bool br] 96) ∧ w'.heap[P]? = some (.cells #[.slice ak nk ck, .slice av nv cv, .bool false] 90) ∧ BytesV w' (.slice ak nk ck) c.key ∧ BytesV w' (.slice av nv cv) c.val) V2 := ⟨hJ2.b0, hJ2.st, (hk2 P (heap_lt hS1.2.2.1) (by have := HPL.out; have := HJ0.out.mm; omega)).trans hS1.2.2.1, hS1.2.2.2.1.keep fun x hx => hk2 x (hS1.2.2.2.1.lt x hx) (fun e => by obtain ⟨es, cl, he⟩ := owns_map H1.out.1.mp; exact bytes_map hS1.2.2.2.1 hx es cl (by rw [e]; exact he)), hS1.2.2.2.2.keep fun x hx => hk2 x (hS1.2.2.2.2.lt x hx) (fun e => by obtain ⟨es, cl, he⟩ := owns_map H1.out.1.mp; exact bytes_map hS1.2.2.2.2 hx es cl (by rw [e]; exact he))⟩
    have HJ2 : Hid (DoJ w V2 rb D b bl br bm (putG m1 (kS c.key) (vc1, c.val))) := hJ2; have HM2 : Hid (mk (putG m1 (kS c.key) (vc1, c.val)) = doPs [] (l.take (i + 1))) := by
     show _ = _; rw [mk_put, doPs_snoc HC.out.1, HC.out.2.1]; unfold doP; rw [if_neg (by rw [← HL.out.2.2]; decide)]
    refine hK.out _ _ hS2 (fun hHeld => ?_); clear hK K; try simp only [sm]
    refine wpAnyH_done (by kernel_rfl) ?_ _; clear hHeld; gi_wp2; exact ⟨HJ2.out.b4, i + 1, by have := (List.getElem?_eq_some_iff.1 HC.out.1).1; omega, HC.out.2.2.2.1, _, HJ2.out.put r, HM2.out, Nat.le_trans (put_len _ _ _) (by have := HM1.out; omega)⟩
 case hE =>
  rintro e W' ⟨hv, hq⟩; refine ⟨hv, ?_⟩; clear hst hpe htm hpar has' hbod h0 hXc hv; rcases hq with ⟨i, m', hi, hk, hj, hm', hml'⟩ | hx
  · refine Or.inl ⟨hj.b4, ?_⟩
    obtain ⟨re, hre⟩ : ∃ re : Loop, { r with state := .exhausted } = re := ⟨_, rfl⟩
    rw [hre]; have J1 : Hid (DoJ w (W'.putObj (w.heap.size + 3) (.loop re)) re D b bl br bm m' ∧ mk m' = doPs [] l ∧ m'.length ≤ 0 + l.length) := ⟨hj.put re, by rw [hm', take_all hk], by omega⟩
    show Exit.inBlock _ _ _ _ (W'.putObj (w.heap.size + 3) (.loop re)); generalize W'.putObj (w.heap.size + 3) (.loop re) = V at J1 ⊢; clear hj hre hm' hk hi hml'; go_wp2; refine ⟨by simp, .inl ⟨_, _, rfl, run_takeDeferred (w := V) J1.out.1.b3, ?_⟩⟩; refine ⟨.tuple #[], by simp [results, Tryz.results45], rfl, J1.out.1.grown, m', J1.out.1.store HNE.out, J1.out.2⟩
  · exact hx.elim
end Go.Proofs.YtconkienlcegaaaGreatDoor
