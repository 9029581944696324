/- KP, KI, KQ -/
import Derived.Test.YtconkienlcegaaaGreatDoorKO
import Derived.Test.YtconkienlcegaaaGreatDoorKH
import Derived.Test.YtconkienlcegaaaGreatDoorGWV9
namespace Go.Proofs.YtconkienlcegaaaGreatDoor
open Go.RowKit Go.Maps Go.Joins Go.Shelf
set_option linter.unusedSimpArgs false
set_option linter.unusedVariables false
/-- Within the rounds of sound. -/
structure SoJ (w W : World) (r : Loop) (rec : Value) : Prop where
 b0 : W.heap[w.heap.size]? = some (.cells #[rec] 23)
 b1 : W.heap[w.heap.size + 1]? = some (.cells #[.bool false] 4)
 b3 : W.heap[w.heap.size + 4]? = some (.deferred (some []))
 b4 : W.heap[w.heap.size + 5]? = some (.loop r)
 bl : Below w.heap.size w W
 sz : w.heap.size + 6 ≤ W.heap.size
theorem SoJ.below {w W W2 : World} {r : Loop} {rec : Value} (h : SoJ w W r rec) (hb : Below W.heap.size W W2) : SoJ w W2 r rec := by
 have hs := h.sz; exact ⟨(hb.block _ (by omega)).trans h.b0, (hb.block _ (by omega)).trans h.b1, (hb.block _ (by omega)).trans h.b3, (hb.block _ (by omega)).trans h.b4, h.bl.trans (hb.mono h.bl.size), Nat.le_trans hs hb.size⟩
theorem SoJ.put {w W : World} {r : Loop} {rec : Value} (h : SoJ w W r rec) (r2 : Loop) : SoJ w (W.putObj (w.heap.size + 5) (.loop r2)) r2 rec := by
 have hs := h.sz; have ho : ∀ x, x ≠ w.heap.size + 5 → (W.putObj (w.heap.size + 5) (.loop r2)).heap[x]? = W.heap[x]? := fun x hx => World.putObj_heap_other hx
 refine ⟨(ho _ (by omega)).trans h.b0, (ho _ (by omega)).trans h.b1, (ho _ (by omega)).trans h.b3, World.putObj_heap_same (by omega), ?_, by simpa [World.putObj] using hs⟩; exact ⟨h.bl.os, h.bl.tape, h.bl.output, by simpa [World.putObj] using h.bl.size, fun b hb => (ho b (by omega)).trans (h.bl.block b hb)⟩
theorem lv4 {w : World} {b : Nat} {x : Bool} (h : w.heap[b]? = some (.cells #[.bool x] 4)) : (loadVar 4 ⟨b, 0, none⟩).run Tryz.prog w = .ok (.bool x) w := by
 have hc : w.cell? ⟨b, 0, none⟩ = some _ := (cell_of_block h 0).trans rfl; simp [go_sem, hc]
theorem SoJ.ends {w V : World} {r : Loop} {rec : Value} (h : SoJ w V r rec) : (V.setCell ⟨w.heap.size + 1, 0, none⟩ (.bool true)).heap[w.heap.size + 4]? = some (.deferred (some [])) ∧ ((V.setCell ⟨w.heap.size + 1, 0, none⟩ (.bool true)).putObj (w.heap.size + 4) (.deferred none)).heap[w.heap.size + 1]? = some (.cells #[.bool true] 4) ∧ Below w.heap.size w ((V.setCell ⟨w.heap.size + 1, 0, none⟩ (.bool true)).putObj (w.heap.size + 4) (.deferred none)) := by
 have hs := h.sz; have o1 : ∀ b, b ≠ w.heap.size + 4 → ((V.setCell ⟨w.heap.size + 1, 0, none⟩ (.bool true)).putObj (w.heap.size + 4) (.deferred none)).heap[b]? = (V.setCell ⟨w.heap.size + 1, 0, none⟩ (.bool true)).heap[b]? := fun b hb => World.putObj_heap_other hb
 have o2 : ∀ b, b ≠ w.heap.size + 1 → (V.setCell ⟨w.heap.size + 1, 0, none⟩ (.bool true)).heap[b]? = V.heap[b]? := fun b hb => Below.heap_setCell _ _ _ _ hb
 refine ⟨(o2 _ (by omega)).trans h.b3, (o1 _ (by omega)).trans (heap_setCell_same _ _ 0 _ 4 (.bool true) h.b1), ?_⟩; have hb := h.bl.setCell (p := ⟨w.heap.size + 1, 0, none⟩) (by show w.heap.size ≤ w.heap.size + 1; omega) (.bool true); exact ⟨hb.os, hb.tape, hb.output, by simpa [World.putObj] using hb.size, fun b hb' => (o1 b (by omega)).trans (hb.block b hb')⟩
attribute [local go_sem] Oper.semAt_some
set_option maxRecDepth 100000 in
set_option maxHeartbeats 8000000 in
theorem sound_batch {w : World} {g o cap : Nat} {l : List Ch} (hr : BytesV w (.slice (some ⟨g, o, none⟩) ((encK l).length + 1) cap) (0 :: encK l)) (hl : okL l) (hkb : KByt (encK l)) (hc : (encK l).length + 1 ≤ cap) (hm : cap ≤ 9223372036854775807) (hlen : (encK l).length + 1 ≤ 140737488355328) :
 Calls Tryz.prog 44 #[.slice (some ⟨g, o, none⟩) ((encK l).length + 1) cap] w fun e w' => e = .returned (.bool true) ∧ Below w.heap.size w w' := by
 have HH : Hid (BytesV w (.slice (some ⟨g, o, none⟩) ((encK l).length + 1) cap) (0 :: encK l) ∧ okL l ∧ KByt (encK l)) := ⟨hr, hl, hkb⟩
 obtain ⟨N, hN⟩ : ∃ N, N = (encK l).length := ⟨_, rfl⟩
 rw [← hN] at hc hlen ⊢; have HN : Hid (N = (encK l).length) := hN; have c0 : w.cell? ⟨g, o, none⟩ = some (.int .u8 0) := by
  have := hr.at (k := 0) (x := 0) rfl; obtain ⟨g', o', e, hc'⟩ := this; injection e with e
  injection e with e1 e2
  rw [← e1, ← e2] at hc'
  simpa using hc'
 have hgl : g < w.heap.size := heap_ltc c0; have HG : Hid (w.cell? ⟨g, o, none⟩ = some (.int .u8 0) ∧ g < w.heap.size) := ⟨c0, hgl⟩
 clear hr hl hkb hN; refine (callsIn_wide (n := 4)).1 ?_; refine callsIn_of_wp_marks Tryz.func44 rfl trivial ?_ rfl; simp only [Tryz.ntmps44, List.size_toArray, List.length_cons, List.length_nil, Nat.reduceAdd, Nat.reduceSub, Array.replicate_succ, Array.replicate_zero, List.push_toArray, List.append_toArray, List.nil_append, List.cons_append]; refine wpIn_wide.2 ?_; obtain ⟨o1, ho1⟩ : ∃ o1, o1 = if cap = 1 then o else o + 1 := ⟨_, rfl⟩
 have hsl := fun w' => slL2 w' g o (N + 1) cap 1 1 rfl (by omega)
 rw [← ho1, Nat.add_sub_cancel] at hsl; have hrb : BytesV w (.slice (some ⟨g, o1, none⟩) N (cap - 1)) (encK l) := by
  have h1 := HH.out.1; rw [← HN.out] at h1; have h2 := BytesV.cutLH (bs := 0 :: encK l) (i := 1) (l := N) (by rw [List.length_cons, ← HN.out]; exact h1) (by rw [List.length_cons, ← HN.out]; omega) (by rw [List.length_cons, ← HN.out]; omega); rw [← ho1] at h2
  simpa [HN.out] using h2
 have HRB : Hid (BytesV w (.slice (some ⟨g, o1, none⟩) N (cap - 1)) (encK l)) := hrb; clear ho1 hrb; have T1 : Hid True := trivial; go_wp2_with (first
  | (have _ := T1
     go_at_call 61
     clear T1; refine Calls.mono (changes_any _ _ _) ?_; rintro e w1 ⟨rfl, rfl⟩))
 refine (wpIn_wide (n := 4)).1 ?_; refine range_leave (gf := 97) (lb := #[.pointer (some ⟨w.heap.size + 3, 0, none⟩)]) rfl (enters_of Tryz.func97 (by kernel_rfl) rfl) ?_; intro r W1 hst hpe htm hpar has' hbod hW1; have hW : W1 = [Obj.cells #[.slice (some ⟨g, o, none⟩) (N + 1) cap] 23, .cells #[.bool false] 4, .cells #[.slice none 0 0] 23, .cells #[.slice (some ⟨g, o1, none⟩) N (cap - 1)] 23, .deferred (some []), .loop r].foldl World.alloc w := by rw [hW1]; rfl
 have hsz : ((((w.alloc (.cells #[.slice (some ⟨g, o, none⟩) (N + 1) cap] 23)).alloc (.cells #[.bool false] 4)).alloc (.cells #[.slice none 0 0] 23)).alloc (.cells #[.slice (some ⟨g, o1, none⟩) N (cap - 1)] 23)).heap.size = w.heap.size + 4 := by simp
 rw [hsz]; have hh := fun k ob hk => allocs_heap [Obj.cells #[.slice (some ⟨g, o, none⟩) (N + 1) cap] 23, .cells #[.bool false] 4, .cells #[.slice none 0 0] 23, .cells #[.slice (some ⟨g, o1, none⟩) N (cap - 1)] 23, .deferred (some []), .loop r] w k ob hk
 have hbl := allocs_below [Obj.cells #[.slice (some ⟨g, o, none⟩) (N + 1) cap] 23, .cells #[.bool false] 4, .cells #[.slice none 0 0] 23, .cells #[.slice (some ⟨g, o1, none⟩) N (cap - 1)] 23, .deferred (some []), .loop r] w; have hsz4 := allocs_size [Obj.cells #[.slice (some ⟨g, o, none⟩) (N + 1) cap] 23, .cells #[.bool false] 4, .cells #[.slice none 0 0] 23, .cells #[.slice (some ⟨g, o1, none⟩) N (cap - 1)] 23, .deferred (some []), .loop r] w; rw [← hW] at hh hbl hsz4; have h0 : SoJ w W1 r (.slice (some ⟨g, o, none⟩) (N + 1) cap) := ⟨hh 0 _ rfl, hh 1 _ rfl, hh 4 _ rfl, hh 5 _ rfl, hbl, by rw [hsz4]; simp⟩
 have hXc : W1.cell? ⟨w.heap.size + 3, 0, none⟩ = some (.slice (some ⟨g, o1, none⟩) N (cap - 1)) := (cell_of_block (hh 3 _ rfl) 0).trans rfl; clear hW hW1 hh hbl hsz hsz4 hsl c0 hgl; rw [HN.out] at hXc; refine CallsIn.mono (changes1_in 2 (w.heap.size + 5) (w.heap.size + 3) (some ⟨g, o1, none⟩) (cap - 1) (encK l) W1 (fun k W => ∃ i, i ≤ l.length ∧ k = (encK (l.take i)).length ∧ SoJ w W r (.slice (some ⟨g, o, none⟩) (N + 1) cap)) (fun W => False) hXc (by have := HN.out; omega) (by omega) (by have := HN.out; omega) HH.out.2.2 ⟨0, by omega, by simp [encK], h0⟩ (fun k W h => by obtain ⟨i, _, _, hj⟩ := h; rw [← HN.out]; exact HRB.out.keep fun x hx => hj.bl.block x (HRB.out.lt x hx)) ?hY) ?hE
 case hY =>
  rintro k W W2 hk ⟨i, hi, rfl, hj⟩ hb2; obtain ⟨c, hci, hnx, hsn⟩ := nx_at HH.out.2.1 hk; rw [hnx]; intro vk vv hvk hvv; have hj2 := hj.below hb2; refine YieldAt.mono (round_with (R := fun W' => ∃ i', i' ≤ l.length ∧ (encK (l.take i)).length + (encC c).length = (encK (l.take i')).length ∧ SoJ w W' r (.slice (some ⟨g, o, none⟩) (N + 1) cap)) hj2.b4 hst hpe (by rw [hpar]; rfl) ?_) (fun e W' h => Or.inl h); intro rb hrb; rw [hpar, has', hbod, htm]; clear hpar has' hbod htm hst hpe hrb h0 hXc; simp only [List.zip_toArray, List.zip_cons_cons, List.zip_nil_right, List.foldl_toArray, List.foldl_cons, List.foldl_nil, List.setIfInBounds_toArray, List.set_cons_zero, List.set_cons_succ]; obtain ⟨ak, ck, rfl⟩ := hvk.form'; obtain ⟨av, cv, rfl⟩ := hvv.form'; obtain ⟨nk, hnk⟩ : ∃ nk, nk = c.key.length := ⟨_, rfl⟩
  obtain ⟨nv, hnv⟩ : ∃ nv, nv = c.val.length := ⟨_, rfl⟩
  obtain ⟨cg, hcg⟩ : ∃ cg, cg = c.gone := ⟨_, rfl⟩
  rw [← hnk, ← hnv, ← hcg]; have HC : Hid (i + 1 ≤ l.length ∧ (encK (l.take i)).length + (encC c).length = (encK (l.take (i + 1))).length) := ⟨(List.getElem?_eq_some_iff.1 hci).1, by rw [hsn, List.length_append]⟩
  have hba : Below W2.heap.size W2 (W2.alloc (.cells #[.slice ak nk ck, .slice av nv cv, .bool cg] 90)) := by go_grown
  have hj3 := hj2.below hba; have HJ3 : Hid (SoJ w (W2.alloc (.cells #[.slice ak nk ck, .slice av nv cv, .bool cg] 90)) r (.slice (some ⟨g, o, none⟩) (N + 1) cap)) := hj3; have HX : Hid (SoJ w ((W2.alloc (.cells #[.slice ak nk ck, .slice av nv cv, .bool cg] 90)).putObj (w.heap.size + 5) (.loop rb)) rb (.slice (some ⟨g, o, none⟩) (N + 1) cap)) := hj3.put rb; clear hj hj2 hj3 hvk hvv hb2 hba hci hnx hsn hk hi hnk hnv hcg; gi_wp2; refine ⟨HJ3.out.b4, ?_⟩; generalize (W2.alloc (.cells #[.slice ak nk ck, .slice av nv cv, .bool cg] 90)).putObj (w.heap.size + 5) (.loop rb) = V at HX ⊢; generalize W2.heap.size = P at HX ⊢; have z0 : V.cell? ⟨w.heap.size, 0, none⟩ = some (.slice (some ⟨g, o, none⟩) (N + 1) cap) := (cell_of_block HX.out.b0 0).trans rfl; have z1 : V.cell? ⟨g, o, none⟩ = some (.int .u8 0) := (HX.out.bl.cell (p := ⟨g, o, none⟩) HG.out.2).trans HG.out.1; clear HJ3; gi_wp2; exact ⟨HX.out.b4, i + 1, HC.out.1, HC.out.2, HX.out.put r⟩
 case hE =>
  rintro e W' ⟨hv, hq⟩; refine ⟨hv, ?_⟩; clear hst hpe htm hpar has' hbod h0 hXc hv; rcases hq with ⟨i, hi, hk, hj⟩ | hx
  · refine Or.inl ⟨hj.b4, ?_⟩
    obtain ⟨re, hre⟩ : ∃ re : Loop, { r with state := .exhausted } = re := ⟨_, rfl⟩
    rw [hre]; have J1 : Hid (SoJ w (W'.putObj (w.heap.size + 5) (.loop re)) re (.slice (some ⟨g, o, none⟩) (N + 1) cap)) := hj.put re; show Exit.inBlock _ _ _ _ (W'.putObj (w.heap.size + 5) (.loop re)); generalize W'.putObj (w.heap.size + 5) (.loop re) = V at J1 ⊢; clear hj hre hk hi; have e1 : V.cell? ⟨w.heap.size + 1, 0, none⟩ = some (.bool false) := (cell_of_block J1.out.b1 0).trans rfl; have f1 : V.frozen? ⟨w.heap.size + 1, 0, none⟩ = false := unfrozen_of_block J1.out.b1 0; go_wp2; have k0 := J1.out.ends; refine ⟨by simp, .inl ⟨_, _, rfl, run_takeDeferred (w := V.setCell ⟨w.heap.size + 1, 0, none⟩ (.bool true)) k0.1, ?_⟩⟩; exact ⟨.bool true, by simp [results, Tryz.results44, asAddr, lv4 k0.2.1], rfl, k0.2.2⟩
  · exact hx.elim
end Go.Proofs.YtconkienlcegaaaGreatDoor
namespace Go.Proofs.YtconkienlcegaaaGreatDoor
open Go.RowKit Go.Maps Go.Joins Go.Shelf
set_option linter.unusedSimpArgs false
set_option linter.unusedVariables false
theorem values_any {w : World} (a : Option Addr) (n c : Nat) : Calls Tryz.prog 59 #[.slice a n c] w fun e w' => e = .returned (.func (.func 96) #[] #[.pointer (some ⟨w.heap.size, 0, none⟩)]) ∧ w' = w.alloc (.cells #[.slice a n c] 43) := by
 go_enter Tryz.func59, Tryz.ntmps59
 go_wp2; go_ret
 exact ⟨rfl, rfl⟩
/-- What Batch tells. -/
def BtR (w w' : World) (cs : List Ch) (e : Ending) : Prop := ((∃ c ∈ cs, ¬ okK c) ∧ e = .returned (.tuple #[.slice none 0 0, .int .i64 1])) ∨ ((∀ c ∈ cs, okK c) ∧ WrR w w' cs e)
theorem WrR.base {w w0 w' : World} {cs : List Ch} {e : Ending} (h : WrR w0 w' cs e) (hb : w.heap.size ≤ w0.heap.size) : WrR w w' cs e := by
 rcases h with ⟨h1, v, he, ho⟩ | h
 · exact Or.inl ⟨h1, v, he, own_base ho hb⟩
 · exact Or.inr h
theorem WrR.form {w w' : World} {cs : List Ch} {e : Ending} (h : WrR w w' cs e) : ∃ a n c E, e = .returned (.tuple #[.slice a n c, .int .i64 E]) := by
 rcases h with ⟨_, v, rfl, ho⟩ | ⟨_, rfl⟩
 · obtain ⟨a, c, rfl⟩ := row_form ho
   exact ⟨_, _, _, _, rfl⟩
 · exact ⟨_, _, _, _, rfl⟩
set_option maxRecDepth 100000 in
set_option maxHeartbeats 8000000 in
/-- Batch -/
theorem batch_any {w : World} {v : Value} {cs : List Ch} (h : ChsV w (fun b => b < w.heap.size) v cs) :
 Calls Tryz.prog 31 #[v] w fun e w' => Below w.heap.size w w' ∧ BtR w w' cs e := by
 obtain ⟨a, cap, rfl, i1, i2, i3⟩ := h.form; have HC : Hid (ChsV w (fun b => b < w.heap.size) (.slice a cs.length cap) cs) := h; obtain ⟨N, hN⟩ : ∃ N, N = cs.length := ⟨_, rfl⟩
 rw [← hN] at HC i1 i3 ⊢; have HN : Hid (N = cs.length) := hN; clear h hN; go_enter Tryz.func31, Tryz.ntmps31; go_wp2_with fail; go_loopw [8] (fun i wr => ∃ (j : Nat), j ≤ N ∧ i = .int .i64 j ∧ Below w.heap.size w wr ∧ ∀ i c, i < j → cs[i]? = some c → okK c) (fun i _ => N - (intOf i).toNat)
 case atStart => exact ⟨0, Nat.zero_le _, rfl, Below.refl _ _, fun i c hi => by omega⟩
 case round =>
  obtain ⟨j, hj, rfl, hb, hok⟩ := hrel; have HO : Hid (Below w.heap.size w wr ∧ ∀ i c, i < j → cs[i]? = some c → okK c) := ⟨hb, hok⟩
  by_cases hjl : j < N
  · obtain ⟨c, hc⟩ : ∃ c, cs[j]? = some c := ⟨_, List.getElem?_eq_getElem (by have := HN.out; omega)⟩
    obtain ⟨g, o, vk, vv, rfl, hg, p0, p1, p2, hvk, hvv⟩ := HC.out.at hc; obtain ⟨ak, ck, rfl⟩ := hvk.is.form'; obtain ⟨av, cv, rfl⟩ := hvv.is.form'; obtain ⟨nk, hnk⟩ : ∃ nk, nk = c.key.length := ⟨_, rfl⟩
    obtain ⟨nv, hnv⟩ : ∃ nv, nv = c.val.length := ⟨_, rfl⟩
    obtain ⟨cg, hcg⟩ : ∃ cg, cg = c.gone := ⟨_, rfl⟩
    rw [← hnk] at p0; rw [← hnv] at p1; rw [← hcg] at p2; have p0 : wr.cell? ⟨g, o + j * 3, none⟩ = some (.slice ak nk ck) := (hb.cell (p := ⟨g, o + j * 3, none⟩) hg).trans p0; have p1 : wr.cell? ⟨g, o + j * 3 + 1, none⟩ = some (.slice av nv cv) := (hb.cell (p := ⟨g, o + j * 3 + 1, none⟩) hg).trans p1; have p2 : wr.cell? ⟨g, o + j * 3 + 2, none⟩ = some (.bool cg) := (hb.cell (p := ⟨g, o + j * 3 + 2, none⟩) hg).trans p2; have hgw : g < wr.heap.size := Nat.lt_of_lt_of_le hg hb.size; have hb2 : Below wr.heap.size wr (wr.alloc (.cells #[.slice ak nk ck, .slice av nv cv, .bool cg] 90)) := by go_grown
    have HR : Hid (Below w.heap.size w (wr.alloc (.cells #[.slice ak nk ck, .slice av nv cv, .bool cg] 90)) ∧ cs[j]? = some c ∧ nk = c.key.length) := ⟨hb.trans (hb2.mono hb.size), hc, hnk⟩
    have hki : (j : Int) < N := by omega
    have hlk : nk ≤ 140737488355328 := by rw [hnk]; exact hvk.len
    clear hc hvk hvv hnk hnv hcg hb hb2 hg hok; by_cases h1 : nk < 1
    · have h1i : (nk : Int) < 1 := by omega
      go_wp2; go_ret2
      exact ⟨HR.out.1, Or.inl ⟨⟨c, List.mem_of_getElem? HR.out.2.1, fun h => by have := h.1; have := HR.out.2.2; omega⟩, rfl⟩⟩
    · have h1i : ¬ (nk : Int) < 1 := by omega
      by_cases h2 : 64 < nk
      · have h2i : (64 : Int) < nk := by omega
        go_wp2; go_ret2
        exact ⟨HR.out.1, Or.inl ⟨⟨c, List.mem_of_getElem? HR.out.2.1, fun h => by have := h.2; have := HR.out.2.2; omega⟩, rfl⟩⟩
      · have h2i : ¬ (64 : Int) < nk := by omega
        go_wp2; go_roundw
        case rel =>
         refine ⟨j + 1, by omega, by go_num, HR.out.1, fun i c' hi hc' => ?_⟩; by_cases e : i = j
         · subst e
           rw [HR.out.2.1] at hc'; injection hc' with hc'
           subst hc'; have := HR.out.2.2; exact ⟨by omega, by omega⟩
         · exact HO.out.2 i c' (by omega) hc'
        case measure => simp [intOf]; omega
  · have hki : ¬ (j : Int) < N := by omega
    have hall : ∀ c ∈ cs, okK c := fun c hc => by
     obtain ⟨i, hi, e⟩ := List.getElem_of_mem hc; exact HO.out.2 i c (by have := HN.out; omega) (by rw [List.getElem?_eq_getElem hi, e])
    have hbx : Below wr.heap.size wr (wr.alloc (.cells #[.slice a N cap] 43)) := by go_grown
    have hbw : Below w.heap.size w (wr.alloc (.cells #[.slice a N cap] 43)) := hb.trans (hbx.mono hb.size); have hW := write_any (w := wr.alloc (.cells #[.slice a N cap] 43)) (X := wr.heap.size) (a := a) (cap := cap) (cs := cs) (by rw [← HN.out]; exact heap_alloc_new _ _) (by rw [← HN.out]; exact HC.out.up hbw) (fun c hc => (hall c hc).2); have HW : Hid _ := hW; have HB : Hid (Below w.heap.size w (wr.alloc (.cells #[.slice a N cap] 43)) ∧ ∀ c ∈ cs, okK c) := ⟨hbw, hall⟩
    clear hb hok hall hbx hbw hW; have T1 : Hid True := trivial; go_wp2_with (first
     | (have _ := T1
        go_at_call 59
        clear T1; refine Calls.mono (values_any a N cap) ?_; rintro e w1 ⟨rfl, rfl⟩; have T2 : Hid True := trivial)
     | (have _ := T2
        go_at_call 51
        clear T2; refine Calls.mono HW.out ?_; rintro e w2 ⟨hb2, hr2⟩; obtain ⟨a3, n3, c3, E3, rfl⟩ := hr2.form; have H2 : Hid (Below w.heap.size w w2 ∧ WrR w w2 cs (.returned (.tuple #[.slice a3 n3 c3, .int .i64 E3]))) := ⟨HB.out.1.trans (hb2.mono HB.out.1.size), hr2.base HB.out.1.size⟩
        clear hb2 hr2))
    go_ret2; exact ⟨H2.out.1, Or.inr ⟨HB.out.2, H2.out.2⟩⟩
/-- Blocks that are neither the disk's nor the log's. -/
def FreeD (w0 w : World) (S : DS) (L : LS) (x : Nat) : Prop := x < w.heap.size ∧ w0.heap.size ≤ x ∧ S.role x = .none ∧ L.own x = 0
theorem DL.turn {W W' : World} {bd bl x : Nat} {S : DS} {L : LS} {ro : Int} (h : DL W bd bl S L ro) (hg : W.grownBy W' (some x)) (hx : S.role x = .none ∧ L.own x = 0) (h5 : 5 ≤ x) : DL W' bd bl S L ro :=
 ⟨h.disk.kept (fun b hb => hg.block b (h.disk.role_lt hb) (fun e => hb (by injection e with e; rw [e]; exact hx.1))) hg.size, h.gb, h.log.kept (fun b hb => hg.block b (h.log.own_lt hb) (fun e => hb (by injection e with e; rw [e]; exact hx.2))) hg.size, h.bdq, h.apart, h.vars.kept (fun b hb => hg.block b (by have := h.vars.lt; omega) (fun e => by injection e with e; omega)), h.voff⟩
/-- A store, its log, its disk; nothing of what lay in w0 is theirs. -/
structure AK (w0 w : World) (bd bl b bm : Nat) (S : DS) (L : LS) (A : DA) (P : PL) (br : Bool) (m : List (List UInt8 × Value × List Int)) : Prop where
 al : Al w0 w bd bl S L A P
 ks : KS w (FreeD w0 w S L) b bl br bm m
 v0 : 5 ≤ w0.heap.size
theorem KS.free {w w' w0 : World} {S S' : DS} {L L' : LS} {b bl bm : Nat} {br : Bool} {m : List (List UInt8 × Value × List Int)} (h : KS w (FreeD w0 w S L) b bl br bm m) (hf : F3 w w' S L S' L') : KS w' (FreeD w0 w' S' L') b bl br bm m :=
 h.mono (fun x hx => hf.block x hx.1 hx.2.2.1 hx.2.2.2) (fun x hx => ⟨Nat.lt_of_lt_of_le hx.1 hf.size, hx.2.1, (hf.off x hx.1 hx.2.2.1 hx.2.2.2).1, (hf.off x hx.1 hx.2.2.1 hx.2.2.2).2⟩)
theorem AK.f3 {w0 w w' : World} {bd bl b bm : Nat} {S S' : DS} {L L' : LS} {A A' : DA} {P P' : PL} {br : Bool} {m : List (List UInt8 × Value × List Int)} (h : AK w0 w bd bl b bm S L A P br m) (hd : DL w' bd bl S' L' 1000) (hf : F3 w w' S L S' L') (ha : absD S' = A') (hp : absL L' = P') (hn : L'.nm = logB) : AK w0 w' bd bl b bm S' L' A' P' br m :=
 ⟨h.al.f3 hd hf ha hp hn, h.ks.free hf, h.v0⟩
theorem AK.below {w0 w w' : World} {bd bl b bm : Nat} {S : DS} {L : LS} {A : DA} {P : PL} {br : Bool} {m : List (List UInt8 × Value × List Int)} (h : AK w0 w bd bl b bm S L A P br m) (hb : Below w.heap.size w w') : AK w0 w' bd bl b bm S L A P br m :=
 ⟨h.al.below hb, h.ks.free (F3.below hb), h.v0⟩
theorem Al.turn {w0 w w' : World} {bd bl x : Nat} {S : DS} {L : LS} {A : DA} {P : PL} (h : Al w0 w bd bl S L A P) (hg : w.grownBy w' (some x)) (hx : FreeD w0 w S L x) (h5 : 5 ≤ w0.heap.size) : Al w0 w' bd bl S L A P :=
 ⟨h.dl.turn hg ⟨hx.2.2.1, hx.2.2.2⟩ (by have := hx.2.1; omega), h.a, h.p, h.nm, h.fr.grown hg h.fr.size (fun k hk => by injection hk with hk; rw [← hk]; exact hx.2.1), h.off⟩
theorem bytes_store {w : World} {v : Value} {bs : List Int} (h : BytesV w v bs) {x b : Nat} (hx : dBlock v bs = some x) {r : Bool} {pp : Option Addr} {qq : Option Nat} (hb : w.heap[b]? = some (.cells #[.pointer pp, .map qq, .bool r] 96)) : x ≠ b := fun e => by
 rcases h with ⟨rfl, rfl⟩ | ⟨ad, c, rfl, hc⟩
 · simp [dBlock] at hx
 · cases bs with
   | nil => simp [dBlock] at hx
   | cons y r =>
     have h1 := hc 0 (.int .u8 y) rfl; have h2 := dBlock_own hx; injection h2 with h2
     have e3 : (ad.add 0) = ad := by unfold Addr.add; simp
     rw [e3] at h1; obtain ⟨g, o, sp⟩ := ad; have h4 := World.cell?_spot h1; dsimp only at h4 h2; subst h4 h2 e; rw [cell_of_block hb] at h1; rcases (by omega : o = 0 ∨ o = 1 ∨ o = 2 ∨ 3 ≤ o) with rfl | rfl | rfl | h5
     · simp at h1
     · simp at h1
     · simp at h1
     · rw [Array.getElem?_eq_none (by simpa using h5)] at h1; cases h1
/-- The store's own bool is set. -/
theorem AK.broke {w0 w : World} {bd bl b bm : Nat} {S : DS} {L : LS} {A : DA} {P : PL} {br : Bool} {m : List (List UInt8 × Value × List Int)} (h : AK w0 w bd bl b bm S L A P br m) (br' : Bool) : AK w0 (w.setCell ⟨b, 2, none⟩ (.bool br')) bd bl b bm S L A P br' m := by
 have ho : ∀ x, x ≠ b → (w.setCell ⟨b, 2, none⟩ (.bool br')).heap[x]? = w.heap[x]? := fun x hx => Below.heap_setCell _ _ _ _ hx
 have hs : (w.setCell ⟨b, 2, none⟩ (.bool br')).heap.size = w.heap.size := by simp
 have hg : w.grownBy (w.setCell ⟨b, 2, none⟩ (.bool br')) (some b) := ⟨rfl, rfl, rfl, by rw [hs]; exact Nat.le_refl _, fun k hk hn => ho k (fun e => hn (by rw [e]))⟩
 refine ⟨h.al.turn hg h.ks.db h.v0, ⟨?_, ownsMap_heap h.ks.mp (ho _ (fun e => h.ks.ne e.symm)), fun p hp => ⟨(h.ks.vals p hp).1, ?_⟩, ?_, ?_⟩, h.v0⟩
 · exact (heap_setCell_same _ _ 2 _ 96 (.bool br') h.ks.st)
 · have hk := (h.ks.vals p hp).2
   refine ⟨hk.is.keep fun x hx => ho x (fun e => ?_), fun x hx => ?_, hk.len⟩
   · exact bytes_store hk.is hx h.ks.st e
   · have := hk.d x hx
     unfold FreeD at this ⊢; rw [hs]; exact this
 · have := h.ks.db
   unfold FreeD at this ⊢; rw [hs]; exact this
 · have := h.ks.dm
   unfold FreeD at this ⊢; rw [hs]; exact this
/-- What a log's call asks of numbers. -/
theorem AK.app {w0 w : World} {bd bl b bm : Nat} {S : DS} {L : LS} {A : DA} {P : PL} {br : Bool} {m : List (List UInt8 × Value × List Int)} (h : AK w0 w bd bl b bm S L A P br m) (ho : okP A P) {va : Option Addr} {vc : Nat} {bs : List Int} (hv : BytesV w (.slice va bs.length vc) bs) (hf : ∀ x, dBlock (.slice va bs.length vc) bs = some x → S.role x = .none ∧ L.own x = 0) (hl : bs.length ≤ 65536) :
 Calls Tryz.prog 83 #[.pointer (some ⟨bl, 0, none⟩), .slice va bs.length vc] w fun e w' => ∃ S' L', e = .returned (.int .i64 (pApp A P bs).1) ∧ AK w0 w' bd bl b bm S' L' (pApp A P bs).2.1 (pApp A P bs).2.2 br m ∧ F3 w w' S L S' L' := by
 obtain ⟨o1, o2, o3, o4, o5, o6, o7⟩ := ho; have e1 : S.steps = A.steps := by rw [← h.al.a]; rfl
 have e2 : L.fs = P.fs := by rw [← h.al.p]; rfl
 have e3 : L.rs.length = P.rs.length := by rw [← h.al.p]; simp [absL]
 have e4 : L.size = P.size := by rw [← h.al.p]; rfl
 have e5 : L.uns = P.uns := by rw [← h.al.p]; rfl
 have hI : AppIn w bd bl S L 1000 va vc bs := ⟨h.al.dl, hv, fun x hx => ⟨hv.lt x hx, hf x hx⟩, h.al.nm, by rw [e5, e2]; exact o1, ⟨by rw [e2]; exact o2, by omega⟩, by rw [e2]; omega, by rw [e4]; omega, by rw [e1]; omega, hl⟩
 refine (lappend_any hI).mono ?_; rintro e w' ⟨c, S', L', rfl, hp⟩; rw [h.al.a, h.al.p] at hp; exact ⟨S', L', by rw [hp.code], h.f3 hp.dl hp.f3 hp.disk hp.log (hp.nm.trans h.al.nm), hp.f3⟩
theorem AK.sync {w0 w : World} {bd bl b bm : Nat} {S : DS} {L : LS} {A : DA} {P : PL} {br : Bool} {m : List (List UInt8 × Value × List Int)} (h : AK w0 w bd bl b bm S L A P br m) (ho : okP A P) :
 Calls Tryz.prog 84 #[.pointer (some ⟨bl, 0, none⟩)] w fun e w' => ∃ S' L', e = .returned (.int .i64 (pSync A P).1) ∧ AK w0 w' bd bl b bm S' L' (pSync A P).2.1 (pSync A P).2.2 br m ∧ F3 w w' S L S' L' := by
 obtain ⟨o1, o2, o3, o4, o5, o6, o7⟩ := ho; have e1 : S.steps = A.steps := by rw [← h.al.a]; rfl
 have e2 : L.fs = P.fs := by rw [← h.al.p]; rfl
 have e5 : L.uns = P.uns := by rw [← h.al.p]; rfl
 refine (lsync_any h.al.dl (by rw [e5, e2]; exact o1) h.al.nm (by rw [e1]; omega)).mono ?_; rintro e w' ⟨c, S', L', rfl, hp, _⟩; rw [h.al.a, h.al.p] at hp; exact ⟨S', L', by rw [hp.code], h.f3 hp.dl hp.f3 hp.disk hp.log (hp.nm.trans h.al.nm), hp.f3⟩
set_option maxHeartbeats 4000000 in
/-- save, where all goes well. -/
theorem save_ok {w0 w : World} {bd bl b bm : Nat} {S : DS} {L : LS} {A : DA} {P : PL} {br : Bool} {m : List (List UInt8 × Value × List Int)} (h : AK w0 w bd bl b bm S L A P br m) (ho : okP A P) {va : Option Addr} {vc : Nat} {bs : List Int} (hv : BytesV w (.slice va bs.length vc) bs) (hf : ∀ x, dBlock (.slice va bs.length vc) bs = some x → S.role x = .none ∧ L.own x = 0) (hl : bs.length ≤ 65536) (h1 : (pApp A P bs).1 = 0) (ho2 : okP (pApp A P bs).2.1 (pApp A P bs).2.2) (h2 : (pSync (pApp A P bs).2.1 (pApp A P bs).2.2).1 = 0) :
 Calls Tryz.prog 49 #[.pointer (some ⟨b, 0, none⟩), .slice va bs.length vc] w fun e w' => e = .returned (.int .i64 0) ∧ ∃ S' L', AK w0 w' bd bl b bm S' L' (pSync (pApp A P bs).2.1 (pApp A P bs).2.2).2.1 (pSync (pApp A P bs).2.1 (pApp A P bs).2.2).2.2 false m ∧ ∀ x, x < w.heap.size → S.role x = .none → L.own x = 0 → x ≠ b → w'.heap[x]? = w.heap[x]? := by
 have HA : Hid (∀ (_ : Unit), _) := fun _ => h.app ho hv hf hl
 obtain ⟨q1, hq1⟩ : ∃ q1, q1 = pApp A P bs := ⟨_, rfl⟩
 rw [← hq1] at h1 ho2 h2 ⊢; rw [← hq1, h1] at HA; obtain ⟨q2, hq2⟩ : ∃ q2, q2 = pSync q1.2.1 q1.2.2 := ⟨_, rfl⟩
 rw [← hq2] at h2 ⊢; have HQ : Hid (q2 = pSync q1.2.1 q1.2.2 ∧ okP q1.2.1 q1.2.2 ∧ q2.1 = 0) := ⟨hq2, ho2, h2⟩
 have HK : Hid (AK w0 w bd bl b bm S L A P br m) := h; have c0 : w.cell? ⟨b, 0, none⟩ = some (.pointer (some ⟨bl, 0, none⟩)) := (cell_of_block h.ks.st 0).trans rfl; obtain ⟨nb, hnb⟩ : ∃ nb, nb = bs.length := ⟨_, rfl⟩
 rw [← hnb] at HA ⊢; clear h ho hv hf hl h1 ho2 h2 hq1 hq2 hnb; have T1 : Hid True := trivial; go_enter Tryz.func49, Tryz.ntmps49; go_wp2_with (first
  | (have _ := T1
     go_at_call 83
     clear T1; refine Calls.mono (HA.out ()) ?_; rintro e w1 ⟨S1, L1, rfl, hk1, hf1⟩; have HS : Hid (∀ (_ : Unit), _) := fun _ => hk1.sync HQ.out.2.1
     rw [← HQ.out.1, HQ.out.2.2] at HS; have HK1 : Hid (AK w0 w1 bd bl b bm S1 L1 q1.2.1 q1.2.2 br m ∧ F3 w w1 S L S1 L1) := ⟨hk1, hf1⟩
     have c1 : w1.cell? ⟨b, 0, none⟩ = some (.pointer (some ⟨bl, 0, none⟩)) := (cell_of_block hk1.ks.st 0).trans rfl; clear hk1 hf1 HA; have T2 : Hid True := trivial)
  | (have _ := T2
     go_at_call 84
     clear T2; refine Calls.mono (HS.out ()) ?_; rintro e w2 ⟨S2, L2, rfl, hk2, hf2⟩; have HK2 : Hid (AK w0 w2 bd bl b bm S2 L2 q2.2.1 q2.2.2 br m ∧ F3 w w2 S L S2 L2) := ⟨hk2, HK1.out.2.trans hf2⟩
     have c2 : w2.cell? ⟨b, 2, none⟩ = some (.bool br) := (cell_of_block hk2.ks.st 2).trans rfl; have f2 : w2.frozen? ⟨b, 2, none⟩ = false := unfrozen_of_block hk2.ks.st 2; clear hk2 hf2 HS))
 go_returns
 exact ⟨rfl, S2, L2, HK2.out.1.broke false, fun x hx h1 h2 hne => (Below.heap_setCell _ _ _ _ hne).trans (HK2.out.2.block x hx h1 h2)⟩
end Go.Proofs.YtconkienlcegaaaGreatDoor
