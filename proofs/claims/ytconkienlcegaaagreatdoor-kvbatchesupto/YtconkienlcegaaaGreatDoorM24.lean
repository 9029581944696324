/- KP, KI, laid into one text. -/
import Derived.Test.YtconkienlcegaaaGreatDoorKO
import Derived.Test.YtconkienlcegaaaGreatDoorKH
/- kv: sound, of a batch. -/
namespace Go.Proofs.YtconkienlcegaaaGreatDoor
open Go.RowKit Go.Maps Go.Joins Go.Shelf
set_option linter.unusedSimpArgs false
set_option linter.unusedVariables false
/-- Within the rounds of sound. -/
structure SoJ (w W : World) (r : Loop) (rec : Value) : Prop where
  b0 : W.heap[w.heap.size]? = some (.cells #[rec] 23)
  b1 : W.heap[w.heap.size + 1]? = some (.cells #[.bool false] 4)
  b3 : W.heap[w.heap.size + 4]? = some (.deferred (some []))
  b4 : W.heap[w.heap.size + 5]? = some (.loop r)
  bl : Below w.heap.size w W
  sz : w.heap.size + 6 ≤ W.heap.size
theorem SoJ.below {w W W2 : World} {r : Loop} {rec : Value} (h : SoJ w W r rec) (hb : Below W.heap.size W W2) : SoJ w W2 r rec := by
  have hs := h.sz
  exact ⟨(hb.block _ (by omega)).trans h.b0, (hb.block _ (by omega)).trans h.b1, (hb.block _ (by omega)).trans h.b3, (hb.block _ (by omega)).trans h.b4, h.bl.trans (hb.mono h.bl.size), Nat.le_trans hs hb.size⟩
theorem SoJ.put {w W : World} {r : Loop} {rec : Value} (h : SoJ w W r rec) (r2 : Loop) : SoJ w (W.putObj (w.heap.size + 5) (.loop r2)) r2 rec := by
  have hs := h.sz
  have ho : ∀ x, x ≠ w.heap.size + 5 → (W.putObj (w.heap.size + 5) (.loop r2)).heap[x]? = W.heap[x]? := fun x hx => World.putObj_heap_other hx
  refine ⟨(ho _ (by omega)).trans h.b0, (ho _ (by omega)).trans h.b1, (ho _ (by omega)).trans h.b3, World.putObj_heap_same (by omega), ?_, by simpa [World.putObj] using hs⟩
  exact ⟨h.bl.os, h.bl.tape, h.bl.output, by simpa [World.putObj] using h.bl.size, fun b hb => (ho b (by omega)).trans (h.bl.block b hb)⟩
theorem lv4 {w : World} {b : Nat} {x : Bool} (h : w.heap[b]? = some (.cells #[.bool x] 4)) : (loadVar 4 ⟨b, 0, none⟩).run Tryz.prog w = .ok (.bool x) w := by
  have hc : w.cell? ⟨b, 0, none⟩ = some _ := (cell_of_block h 0).trans rfl
  simp [go_sem, hc]
theorem SoJ.ends {w V : World} {r : Loop} {rec : Value} (h : SoJ w V r rec) : (V.setCell ⟨w.heap.size + 1, 0, none⟩ (.bool true)).heap[w.heap.size + 4]? = some (.deferred (some [])) ∧ ((V.setCell ⟨w.heap.size + 1, 0, none⟩ (.bool true)).putObj (w.heap.size + 4) (.deferred none)).heap[w.heap.size + 1]? = some (.cells #[.bool true] 4) ∧ Below w.heap.size w ((V.setCell ⟨w.heap.size + 1, 0, none⟩ (.bool true)).putObj (w.heap.size + 4) (.deferred none)) := by
  have hs := h.sz
  have o1 : ∀ b, b ≠ w.heap.size + 4 → ((V.setCell ⟨w.heap.size + 1, 0, none⟩ (.bool true)).putObj (w.heap.size + 4) (.deferred none)).heap[b]? = (V.setCell ⟨w.heap.size + 1, 0, none⟩ (.bool true)).heap[b]? := fun b hb => World.putObj_heap_other hb
  have o2 : ∀ b, b ≠ w.heap.size + 1 → (V.setCell ⟨w.heap.size + 1, 0, none⟩ (.bool true)).heap[b]? = V.heap[b]? := fun b hb => Below.heap_setCell _ _ _ _ hb
  refine ⟨(o2 _ (by omega)).trans h.b3, (o1 _ (by omega)).trans (heap_setCell_same _ _ 0 _ 4 (.bool true) h.b1), ?_⟩
  have hb := h.bl.setCell (p := ⟨w.heap.size + 1, 0, none⟩) (by show w.heap.size ≤ w.heap.size + 1; omega) (.bool true)
  exact ⟨hb.os, hb.tape, hb.output, by simpa [World.putObj] using hb.size, fun b hb' => (o1 b (by omega)).trans (hb.block b hb')⟩
attribute [local go_sem] Oper.semAt_some
set_option maxRecDepth 100000 in
set_option maxHeartbeats 8000000 in
theorem sound_batch {w : World} {g o cap : Nat} {l : List Ch} (hr : BytesV w (.slice (some ⟨g, o, none⟩) ((encK l).length + 1) cap) (0 :: encK l)) (hl : okL l) (hkb : KByt (encK l)) (hc : (encK l).length + 1 ≤ cap) (hm : cap ≤ 9223372036854775807) (hlen : (encK l).length + 1 ≤ 140737488355328) :
    Calls Tryz.prog 44 #[.slice (some ⟨g, o, none⟩) ((encK l).length + 1) cap] w fun e w' => e = .returned (.bool true) ∧ Below w.heap.size w w' := by
  have HH : Hid (BytesV w (.slice (some ⟨g, o, none⟩) ((encK l).length + 1) cap) (0 :: encK l) ∧ okL l ∧ KByt (encK l)) := ⟨hr, hl, hkb⟩
  obtain ⟨N, hN⟩ : ∃ N, N = (encK l).length := ⟨_, rfl⟩
  rw [← hN] at hc hlen ⊢
  have HN : Hid (N = (encK l).length) := hN
  have c0 : w.cell? ⟨g, o, none⟩ = some (.int .u8 0) := by
    have := hr.at (k := 0) (x := 0) rfl
    obtain ⟨g', o', e, hc'⟩ := this
    injection e with e
    injection e with e1 e2
    rw [← e1, ← e2] at hc'
    simpa using hc'
  have hgl : g < w.heap.size := heap_ltc c0
  have HG : Hid (w.cell? ⟨g, o, none⟩ = some (.int .u8 0) ∧ g < w.heap.size) := ⟨c0, hgl⟩
  clear hr hl hkb hN
  refine (callsIn_wide (n := 4)).1 ?_
  refine callsIn_of_wp_marks Tryz.func44 rfl trivial ?_ rfl
  simp only [Tryz.ntmps44, List.size_toArray, List.length_cons, List.length_nil, Nat.reduceAdd, Nat.reduceSub, Array.replicate_succ, Array.replicate_zero, List.push_toArray, List.append_toArray, List.nil_append, List.cons_append]
  refine wpIn_wide.2 ?_
  obtain ⟨o1, ho1⟩ : ∃ o1, o1 = if cap = 1 then o else o + 1 := ⟨_, rfl⟩
  have hsl := fun w' => slL2 w' g o (N + 1) cap 1 1 rfl (by omega)
  rw [← ho1, Nat.add_sub_cancel] at hsl
  have hrb : BytesV w (.slice (some ⟨g, o1, none⟩) N (cap - 1)) (encK l) := by
    have h1 := HH.out.1
    rw [← HN.out] at h1
    have h2 := BytesV.cutLH (bs := 0 :: encK l) (i := 1) (l := N) (by rw [List.length_cons, ← HN.out]; exact h1) (by rw [List.length_cons, ← HN.out]; omega) (by rw [List.length_cons, ← HN.out]; omega)
    rw [← ho1] at h2
    simpa [HN.out] using h2
  have HRB : Hid (BytesV w (.slice (some ⟨g, o1, none⟩) N (cap - 1)) (encK l)) := hrb
  clear ho1 hrb
  have T1 : Hid True := trivial
  go_wp2_with (first
    | (have _ := T1
       go_at_call 61
       clear T1
       refine Calls.mono (changes_any _ _ _) ?_
       rintro e w1 ⟨rfl, rfl⟩))
  refine (wpIn_wide (n := 4)).1 ?_
  refine range_leave (gf := 97) (lb := #[.pointer (some ⟨w.heap.size + 3, 0, none⟩)]) rfl (enters_of Tryz.func97 (by kernel_rfl) rfl) ?_
  intro r W1 hst hpe htm hpar has' hbod hW1
  have hW : W1 = [Obj.cells #[.slice (some ⟨g, o, none⟩) (N + 1) cap] 23, .cells #[.bool false] 4, .cells #[.slice none 0 0] 23, .cells #[.slice (some ⟨g, o1, none⟩) N (cap - 1)] 23, .deferred (some []), .loop r].foldl World.alloc w := by rw [hW1]; rfl
  have hsz : ((((w.alloc (.cells #[.slice (some ⟨g, o, none⟩) (N + 1) cap] 23)).alloc (.cells #[.bool false] 4)).alloc (.cells #[.slice none 0 0] 23)).alloc (.cells #[.slice (some ⟨g, o1, none⟩) N (cap - 1)] 23)).heap.size = w.heap.size + 4 := by simp
  rw [hsz]
  have hh := fun k ob hk => allocs_heap [Obj.cells #[.slice (some ⟨g, o, none⟩) (N + 1) cap] 23, .cells #[.bool false] 4, .cells #[.slice none 0 0] 23, .cells #[.slice (some ⟨g, o1, none⟩) N (cap - 1)] 23, .deferred (some []), .loop r] w k ob hk
  have hbl := allocs_below [Obj.cells #[.slice (some ⟨g, o, none⟩) (N + 1) cap] 23, .cells #[.bool false] 4, .cells #[.slice none 0 0] 23, .cells #[.slice (some ⟨g, o1, none⟩) N (cap - 1)] 23, .deferred (some []), .loop r] w
  have hsz4 := allocs_size [Obj.cells #[.slice (some ⟨g, o, none⟩) (N + 1) cap] 23, .cells #[.bool false] 4, .cells #[.slice none 0 0] 23, .cells #[.slice (some ⟨g, o1, none⟩) N (cap - 1)] 23, .deferred (some []), .loop r] w
  rw [← hW] at hh hbl hsz4
  have h0 : SoJ w W1 r (.slice (some ⟨g, o, none⟩) (N + 1) cap) := ⟨hh 0 _ rfl, hh 1 _ rfl, hh 4 _ rfl, hh 5 _ rfl, hbl, by rw [hsz4]; simp⟩
  have hXc : W1.cell? ⟨w.heap.size + 3, 0, none⟩ = some (.slice (some ⟨g, o1, none⟩) N (cap - 1)) := (cell_of_block (hh 3 _ rfl) 0).trans rfl
  clear hW hW1 hh hbl hsz hsz4 hsl c0 hgl
  rw [HN.out] at hXc
  refine CallsIn.mono (changes1_in 2 (w.heap.size + 5) (w.heap.size + 3) (some ⟨g, o1, none⟩) (cap - 1) (encK l) W1 (fun k W => ∃ i, i ≤ l.length ∧ k = (encK (l.take i)).length ∧ SoJ w W r (.slice (some ⟨g, o, none⟩) (N + 1) cap)) (fun W => False) hXc (by have := HN.out; omega) (by omega) (by have := HN.out; omega) HH.out.2.2 ⟨0, by omega, by simp [encK], h0⟩ (fun k W h => by obtain ⟨i, _, _, hj⟩ := h; rw [← HN.out]; exact HRB.out.keep fun x hx => hj.bl.block x (HRB.out.lt x hx)) ?hY) ?hE
  case hY =>
    rintro k W W2 hk ⟨i, hi, rfl, hj⟩ hb2
    obtain ⟨c, hci, hnx, hsn⟩ := nx_at HH.out.2.1 hk
    rw [hnx]
    intro vk vv hvk hvv
    have hj2 := hj.below hb2
    refine YieldAt.mono (round_with (R := fun W' => ∃ i', i' ≤ l.length ∧ (encK (l.take i)).length + (encC c).length = (encK (l.take i')).length ∧ SoJ w W' r (.slice (some ⟨g, o, none⟩) (N + 1) cap)) hj2.b4 hst hpe (by rw [hpar]; rfl) ?_) (fun e W' h => Or.inl h)
    intro rb hrb
    rw [hpar, has', hbod, htm]
    clear hpar has' hbod htm hst hpe hrb h0 hXc
    simp only [List.zip_toArray, List.zip_cons_cons, List.zip_nil_right, List.foldl_toArray, List.foldl_cons, List.foldl_nil, List.setIfInBounds_toArray, List.set_cons_zero, List.set_cons_succ]
    obtain ⟨ak, ck, rfl⟩ := hvk.form'
    obtain ⟨av, cv, rfl⟩ := hvv.form'
    obtain ⟨nk, hnk⟩ : ∃ nk, nk = c.key.length := ⟨_, rfl⟩
    obtain ⟨nv, hnv⟩ : ∃ nv, nv = c.val.length := ⟨_, rfl⟩
    obtain ⟨cg, hcg⟩ : ∃ cg, cg = c.gone := ⟨_, rfl⟩
    rw [← hnk, ← hnv, ← hcg]
    have HC : Hid (i + 1 ≤ l.length ∧ (encK (l.take i)).length + (encC c).length = (encK (l.take (i + 1))).length) := ⟨(List.getElem?_eq_some_iff.1 hci).1, by rw [hsn, List.length_append]⟩
    have hba : Below W2.heap.size W2 (W2.alloc (.cells #[.slice ak nk ck, .slice av nv cv, .bool cg] 90)) := by go_grown
    have hj3 := hj2.below hba
    have HJ3 : Hid (SoJ w (W2.alloc (.cells #[.slice ak nk ck, .slice av nv cv, .bool cg] 90)) r (.slice (some ⟨g, o, none⟩) (N + 1) cap)) := hj3
    have HX : Hid (SoJ w ((W2.alloc (.cells #[.slice ak nk ck, .slice av nv cv, .bool cg] 90)).putObj (w.heap.size + 5) (.loop rb)) rb (.slice (some ⟨g, o, none⟩) (N + 1) cap)) := hj3.put rb
    clear hj hj2 hj3 hvk hvv hb2 hba hci hnx hsn hk hi hnk hnv hcg
    gi_wp2
    refine ⟨HJ3.out.b4, ?_⟩
    generalize (W2.alloc (.cells #[.slice ak nk ck, .slice av nv cv, .bool cg] 90)).putObj (w.heap.size + 5) (.loop rb) = V at HX ⊢
    generalize W2.heap.size = P at HX ⊢
    have z0 : V.cell? ⟨w.heap.size, 0, none⟩ = some (.slice (some ⟨g, o, none⟩) (N + 1) cap) := (cell_of_block HX.out.b0 0).trans rfl
    have z1 : V.cell? ⟨g, o, none⟩ = some (.int .u8 0) := (HX.out.bl.cell (p := ⟨g, o, none⟩) HG.out.2).trans HG.out.1
    clear HJ3
    gi_wp2
    exact ⟨HX.out.b4, i + 1, HC.out.1, HC.out.2, HX.out.put r⟩
  case hE =>
    rintro e W' ⟨hv, hq⟩
    refine ⟨hv, ?_⟩
    clear hst hpe htm hpar has' hbod h0 hXc hv
    rcases hq with ⟨i, hi, hk, hj⟩ | hx
    · refine Or.inl ⟨hj.b4, ?_⟩
      obtain ⟨re, hre⟩ : ∃ re : Loop, { r with state := .exhausted } = re := ⟨_, rfl⟩
      rw [hre]
      have J1 : Hid (SoJ w (W'.putObj (w.heap.size + 5) (.loop re)) re (.slice (some ⟨g, o, none⟩) (N + 1) cap)) := hj.put re
      show Exit.inBlock _ _ _ _ (W'.putObj (w.heap.size + 5) (.loop re))
      generalize W'.putObj (w.heap.size + 5) (.loop re) = V at J1 ⊢
      clear hj hre hk hi
      have e1 : V.cell? ⟨w.heap.size + 1, 0, none⟩ = some (.bool false) := (cell_of_block J1.out.b1 0).trans rfl
      have f1 : V.frozen? ⟨w.heap.size + 1, 0, none⟩ = false := unfrozen_of_block J1.out.b1 0
      go_wp2
      have k0 := J1.out.ends
      refine ⟨by simp, .inl ⟨_, _, rfl, run_takeDeferred (w := V.setCell ⟨w.heap.size + 1, 0, none⟩ (.bool true)) k0.1, ?_⟩⟩
      exact ⟨.bool true, by simp [results, Tryz.results44, asAddr, lv4 k0.2.1], rfl, k0.2.2⟩
    · exact hx.elim
end Go.Proofs.YtconkienlcegaaaGreatDoor
/- kv: Batch. -/
namespace Go.Proofs.YtconkienlcegaaaGreatDoor
open Go.RowKit Go.Maps Go.Joins Go.Shelf
set_option linter.unusedSimpArgs false
set_option linter.unusedVariables false
theorem values_any {w : World} (a : Option Addr) (n c : Nat) : Calls Tryz.prog 59 #[.slice a n c] w fun e w' => e = .returned (.func (.func 96) #[] #[.pointer (some ⟨w.heap.size, 0, none⟩)]) ∧ w' = w.alloc (.cells #[.slice a n c] 43) := by
  go_enter Tryz.func59, Tryz.ntmps59
  go_wp2
  go_ret
  exact ⟨rfl, rfl⟩
/-- What Batch tells. -/
def BtR (w w' : World) (cs : List Ch) (e : Ending) : Prop := ((∃ c ∈ cs, ¬ okK c) ∧ e = .returned (.tuple #[.slice none 0 0, .int .i64 1])) ∨ ((∀ c ∈ cs, okK c) ∧ WrR w w' cs e)
theorem WrR.base {w w0 w' : World} {cs : List Ch} {e : Ending} (h : WrR w0 w' cs e) (hb : w.heap.size ≤ w0.heap.size) : WrR w w' cs e := by
  rcases h with ⟨h1, v, he, ho⟩ | h
  · exact Or.inl ⟨h1, v, he, own_base ho hb⟩
  · exact Or.inr h
theorem WrR.form {w w' : World} {cs : List Ch} {e : Ending} (h : WrR w w' cs e) : ∃ a n c E, e = .returned (.tuple #[.slice a n c, .int .i64 E]) := by
  rcases h with ⟨_, v, rfl, ho⟩ | ⟨_, rfl⟩
  · obtain ⟨a, c, rfl⟩ := row_form ho
    exact ⟨_, _, _, _, rfl⟩
  · exact ⟨_, _, _, _, rfl⟩
set_option maxRecDepth 100000 in
set_option maxHeartbeats 8000000 in
/-- Batch -/
theorem batch_any {w : World} {v : Value} {cs : List Ch} (h : ChsV w (fun b => b < w.heap.size) v cs) :
    Calls Tryz.prog 31 #[v] w fun e w' => Below w.heap.size w w' ∧ BtR w w' cs e := by
  obtain ⟨a, cap, rfl, i1, i2, i3⟩ := h.form
  have HC : Hid (ChsV w (fun b => b < w.heap.size) (.slice a cs.length cap) cs) := h
  obtain ⟨N, hN⟩ : ∃ N, N = cs.length := ⟨_, rfl⟩
  rw [← hN] at HC i1 i3 ⊢
  have HN : Hid (N = cs.length) := hN
  clear h hN
  go_enter Tryz.func31, Tryz.ntmps31
  go_wp2_with fail
  go_loopw [8] (fun i wr => ∃ (j : Nat), j ≤ N ∧ i = .int .i64 j ∧ Below w.heap.size w wr ∧ ∀ i c, i < j → cs[i]? = some c → okK c) (fun i _ => N - (intOf i).toNat)
  case atStart => exact ⟨0, Nat.zero_le _, rfl, Below.refl _ _, fun i c hi => by omega⟩
  case round =>
    obtain ⟨j, hj, rfl, hb, hok⟩ := hrel
    have HO : Hid (Below w.heap.size w wr ∧ ∀ i c, i < j → cs[i]? = some c → okK c) := ⟨hb, hok⟩
    by_cases hjl : j < N
    · obtain ⟨c, hc⟩ : ∃ c, cs[j]? = some c := ⟨_, List.getElem?_eq_getElem (by have := HN.out; omega)⟩
      obtain ⟨g, o, vk, vv, rfl, hg, p0, p1, p2, hvk, hvv⟩ := HC.out.at hc
      obtain ⟨ak, ck, rfl⟩ := hvk.is.form'
      obtain ⟨av, cv, rfl⟩ := hvv.is.form'
      obtain ⟨nk, hnk⟩ : ∃ nk, nk = c.key.length := ⟨_, rfl⟩
      obtain ⟨nv, hnv⟩ : ∃ nv, nv = c.val.length := ⟨_, rfl⟩
      obtain ⟨cg, hcg⟩ : ∃ cg, cg = c.gone := ⟨_, rfl⟩
      rw [← hnk] at p0
      rw [← hnv] at p1
      rw [← hcg] at p2
      have p0 : wr.cell? ⟨g, o + j * 3, none⟩ = some (.slice ak nk ck) := (hb.cell (p := ⟨g, o + j * 3, none⟩) hg).trans p0
      have p1 : wr.cell? ⟨g, o + j * 3 + 1, none⟩ = some (.slice av nv cv) := (hb.cell (p := ⟨g, o + j * 3 + 1, none⟩) hg).trans p1
      have p2 : wr.cell? ⟨g, o + j * 3 + 2, none⟩ = some (.bool cg) := (hb.cell (p := ⟨g, o + j * 3 + 2, none⟩) hg).trans p2
      have hgw : g < wr.heap.size := Nat.lt_of_lt_of_le hg hb.size
      have hb2 : Below wr.heap.size wr (wr.alloc (.cells #[.slice ak nk ck, .slice av nv cv, .bool cg] 90)) := by go_grown
      have HR : Hid (Below w.heap.size w (wr.alloc (.cells #[.slice ak nk ck, .slice av nv cv, .bool cg] 90)) ∧ cs[j]? = some c ∧ nk = c.key.length) := ⟨hb.trans (hb2.mono hb.size), hc, hnk⟩
      have hki : (j : Int) < N := by omega
      have hlk : nk ≤ 140737488355328 := by rw [hnk]; exact hvk.len
      clear hc hvk hvv hnk hnv hcg hb hb2 hg hok
      by_cases h1 : nk < 1
      · have h1i : (nk : Int) < 1 := by omega
        go_wp2
        go_ret2
        exact ⟨HR.out.1, Or.inl ⟨⟨c, List.mem_of_getElem? HR.out.2.1, fun h => by have := h.1; have := HR.out.2.2; omega⟩, rfl⟩⟩
      · have h1i : ¬ (nk : Int) < 1 := by omega
        by_cases h2 : 64 < nk
        · have h2i : (64 : Int) < nk := by omega
          go_wp2
          go_ret2
          exact ⟨HR.out.1, Or.inl ⟨⟨c, List.mem_of_getElem? HR.out.2.1, fun h => by have := h.2; have := HR.out.2.2; omega⟩, rfl⟩⟩
        · have h2i : ¬ (64 : Int) < nk := by omega
          go_wp2
          go_roundw
          case rel =>
            refine ⟨j + 1, by omega, by go_num, HR.out.1, fun i c' hi hc' => ?_⟩
            by_cases e : i = j
            · subst e
              rw [HR.out.2.1] at hc'
              injection hc' with hc'
              subst hc'
              have := HR.out.2.2
              exact ⟨by omega, by omega⟩
            · exact HO.out.2 i c' (by omega) hc'
          case measure => simp [intOf]; omega
    · have hki : ¬ (j : Int) < N := by omega
      have hall : ∀ c ∈ cs, okK c := fun c hc => by
        obtain ⟨i, hi, e⟩ := List.getElem_of_mem hc
        exact HO.out.2 i c (by have := HN.out; omega) (by rw [List.getElem?_eq_getElem hi, e])
      have hbx : Below wr.heap.size wr (wr.alloc (.cells #[.slice a N cap] 43)) := by go_grown
      have hbw : Below w.heap.size w (wr.alloc (.cells #[.slice a N cap] 43)) := hb.trans (hbx.mono hb.size)
      have hW := write_any (w := wr.alloc (.cells #[.slice a N cap] 43)) (X := wr.heap.size) (a := a) (cap := cap) (cs := cs) (by rw [← HN.out]; exact heap_alloc_new _ _) (by rw [← HN.out]; exact HC.out.up hbw) (fun c hc => (hall c hc).2)
      have HW : Hid _ := hW
      have HB : Hid (Below w.heap.size w (wr.alloc (.cells #[.slice a N cap] 43)) ∧ ∀ c ∈ cs, okK c) := ⟨hbw, hall⟩
      clear hb hok hall hbx hbw hW
      have T1 : Hid True := trivial
      go_wp2_with (first
        | (have _ := T1
           go_at_call 59
           clear T1
           refine Calls.mono (values_any a N cap) ?_
           rintro e w1 ⟨rfl, rfl⟩
           have T2 : Hid True := trivial)
        | (have _ := T2
           go_at_call 51
           clear T2
           refine Calls.mono HW.out ?_
           rintro e w2 ⟨hb2, hr2⟩
           obtain ⟨a3, n3, c3, E3, rfl⟩ := hr2.form
           have H2 : Hid (Below w.heap.size w w2 ∧ WrR w w2 cs (.returned (.tuple #[.slice a3 n3 c3, .int .i64 E3]))) := ⟨HB.out.1.trans (hb2.mono HB.out.1.size), hr2.base HB.out.1.size⟩
           clear hb2 hr2))
      go_ret2
      exact ⟨H2.out.1, Or.inr ⟨HB.out.2, H2.out.2⟩⟩
end Go.Proofs.YtconkienlcegaaaGreatDoor
