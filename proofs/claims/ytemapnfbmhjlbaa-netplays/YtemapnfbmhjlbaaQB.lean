/- net: slices.DeleteFunc. -/
import Derived.Test.YtemapnfbmhjlbaaQA
import Derived.Test.YtemapnfbmhjlbaaRI
namespace Go.Proofs.Ytemapnfbmhjlbaa
open Go.RowKit Go.Maps Go.Joins
set_option linter.unusedSimpArgs false
set_option linter.unusedVariables false
/-- Within DeleteFunc's rounds. -/
structure DJ (w wr : World) (g n cap : Nat) (l : List TM) (x : Int) (cur : List Value) (i j : Nat) : Prop where
  blk : wr.heap[g]? = some (.cells cur.toArray 63 (0, 0))
  gb : w.grownBy wr (some g)
  len : cur.length = cap * 3
  ii : i = (keepT (l.take j) x).length
  tk : cur.take (i * 3) = tmL (keepT (l.take j) x)
  rest : ∀ p, j * 3 ≤ p → p < n * 3 → cur[p]? = (tmL l)[p]?
  lt : i < j
theorem DJ.step {w wr w' : World} {g n cap : Nat} {l : List TM} {x : Int} {cur : List Value} {i j : Nat} (h : DJ w wr g n cap l x cur i j) (hb : Below wr.heap.size wr w') {t : TM} (ht : l[j]? = some t) (he : t.nd = x) : DJ w w' g n cap l x cur i (j + 1) where
  blk := (hb.block g (heap_lt h.blk)).trans h.blk
  gb := gb_comp h.gb (gb_of_below hb (some g)) (Or.inl rfl)
  len := h.len
  ii := by rw [keepT_at l x j t ht, if_pos he, List.append_nil]; exact h.ii
  tk := by rw [keepT_at l x j t ht, if_pos he, List.append_nil]; exact h.tk
  rest := fun p hp hq => h.rest p (by omega) hq
  lt := by have := h.lt; omega
theorem DJ.put {w wr w' : World} {g n cap : Nat} {l : List TM} {x : Int} {cur : List Value} {i j : Nat} (h : DJ w wr g n cap l x cur i j) (hnc : n ≤ cap) (hjn : j < n) {t : TM} (ht : l[j]? = some t) (he : t.nd ≠ x)
    (hw : w'.heap[g]? = some (.cells (splice cur (i * 3) (tmC t)).toArray 63 (0, 0))) (hg : w.grownBy w' (some g)) : DJ w w' g n cap l x (splice cur (i * 3) (tmC t)) (i + 1) (j + 1) where
  blk := hw
  gb := hg
  len := by
    rw [length_splice _ _ _ (by have := h.len; have := h.lt; show i * 3 + 3 ≤ _; omega)]
    exact h.len
  ii := by rw [keepT_at l x j t ht, if_neg he, List.length_append]; show i + 1 = _ + 1; rw [h.ii]
  tk := by
    rw [keepT_at l x j t ht, if_neg he, tmL_append, ← h.tk]
    have e := spl_take2 cur (tmC t) (i * 3) (by have := h.len; have := h.lt; omega)
    rw [show (i + 1) * 3 = i * 3 + (tmC t).length by show _ = i * 3 + 3; omega, e]
    simp [tmL]
  rest := fun p hp hq => by
    have h1 := h.rest p (by omega) hq
    rw [← h1]
    have hl := h.lt
    have hc := h.len
    unfold splice
    rw [List.getElem?_append_right (by rw [List.length_take]; omega), List.getElem?_append_right (by rw [List.length_take]; show 3 ≤ _; omega), List.getElem?_drop]
    congr 1
    rw [List.length_take]
    show i * 3 + 3 + (p - min (i * 3) cur.length - 3) = p
    omega
  lt := by have := h.lt; omega
theorem set3 : ∀ (o : Nat) (cur : List Value) (a b c : Value), o + 3 ≤ cur.length → ((cur.set o a).set (o + 1) b).set (o + 2) c = splice cur o [a, b, c]
  | 0, x :: y :: z :: r, a, b, c, _ => by simp [splice]
  | 0, [], _, _, _, h => by simp at h
  | 0, [_], _, _, _, h => by simp at h
  | 0, [_, _], _, _, _, h => by simp at h
  | o + 1, [], _, _, _, h => by simp at h
  | o + 1, x :: r, a, b, c, h => by
    have ih := set3 o r a b c (by simpa using h)
    unfold splice at ih ⊢
    rw [show o + 1 + 2 = (o + 2) + 1 by omega, show o + 1 + [a, b, c].length = (o + [a, b, c].length) + 1 by simp only [List.length_cons, List.length_nil]]
    simp only [List.set_cons_succ, List.take_succ_cons, List.drop_succ_cons, List.cons_append]
    rw [ih]
    rfl
theorem keepT_none {l : List TM} {x : Int} (h : ∀ t ∈ l, t.nd ≠ x) : keepT l x = l := by
  unfold keepT
  rw [List.filter_eq_self]
  intro t ht
  simpa using h t ht
set_option maxRecDepth 100000 in
set_option maxHeartbeats 8000000 in
/-- .. where none goes. -/
theorem delf_no {w : World} {xb n c : Nat} {x : Int} {a : Option Addr} {l : List TM} (hn : n = l.length) (hl : l.length ≤ 1000000) (hv : TmV w a l) (cx : w.cell? ⟨xb, 0, none⟩ = some (.int .i64 x)) (h : ∀ t ∈ l, t.nd ≠ x) :
    Calls Try.prog 41 #[.slice a n c, .func (.func 42) #[] #[.pointer (some ⟨xb, 0, none⟩)]] w fun e w' => e = .returned (.slice a n c) ∧ Below w.heap.size w w' := by
  have HI : Hid _ := index_any (c := c) hn hl hv cx
  rw [firstT_no h] at HI
  clear hn hl hv cx h
  go_enter Try.func41, Try.ntmps41
  go_wp2_with (go_at_call 56; refine Calls.mono HI.out ?_; rintro e w2 ⟨rfl, hb⟩; have H2 : Hid (Below w.heap.size w w2) := hb; clear hb HI)
  go_ret
  exact ⟨rfl, H2.out⟩
set_option maxRecDepth 100000 in
set_option maxHeartbeats 8000000 in
/-- .. where some go. -/
theorem delf_yes {w : World} {xb n cap g i0 : Nat} {x : Int} {l : List TM} {cur0 : List Value} {t0 : TM} (hn : n = l.length) (hl : l.length ≤ 4096) (hcap : n ≤ cap) (hc9 : cap ≤ 9223372036854775807) (hg : w.heap[g]? = some (.cells cur0.toArray 63 (0, 0))) (hlen : cur0.length = cap * 3) (htk : cur0.take (n * 3) = tmL l) (hv : TmV w (some ⟨g, 0, none⟩) l) (cx : w.cell? ⟨xb, 0, none⟩ = some (.int .i64 x)) (hxg : xb ≠ g)
    (h0 : l[i0]? = some t0) (he0 : t0.nd = x) (hf : ∀ (j : Nat) (s : TM), l[j]? = some s → j < i0 → s.nd ≠ x) :
    Calls Try.prog 41 #[.slice (some ⟨g, 0, none⟩) n cap, .func (.func 42) #[] #[.pointer (some ⟨xb, 0, none⟩)]] w fun e w' => ∃ cur : List Value, e = .returned (.slice (some ⟨g, 0, none⟩) (keepT l x).length cap) ∧ w.grownBy w' (some g) ∧ w'.heap[g]? = some (.cells cur.toArray 63 (0, 0)) ∧ cur.length = cap * 3 ∧ cur.take ((keepT l x).length * 3) = tmL (keepT l x) := by
  have HI : Hid _ := index_any (c := cap) hn (by omega) hv cx
  rw [firstT_yes h0 he0 hf] at HI
  have hi0 := (List.getElem?_eq_some_iff.1 h0).1
  have hk0 : keepT (l.take i0) x = l.take i0 := keepT_none (fun t ht => by
    obtain ⟨j, hj, rfl⟩ := List.getElem_of_mem ht
    rw [List.length_take] at hj
    rw [List.getElem_take]
    exact hf j _ (List.getElem?_eq_getElem (by omega)) (by omega))
  have hJ0 : DJ w w g n cap l x cur0 i0 (i0 + 1) := by
    refine ⟨hg, World.grownBy.refl _ _, hlen, ?_, ?_, fun p hp hq => ?_, Nat.lt_succ_self _⟩
    · rw [keepT_at l x i0 t0 h0, if_pos he0, List.append_nil, hk0, List.length_take]; omega
    · rw [keepT_at l x i0 t0 h0, if_pos he0, List.append_nil, hk0, tmL_take, ← htk, List.take_take, Nat.min_eq_left (by omega)]
    · rw [← htk, List.getElem?_take, if_pos hq]
  have HJ0 : Hid (DJ w w g n cap l x cur0 i0 (i0 + 1)) := hJ0
  have HS : Hid (n = l.length ∧ w.cell? ⟨xb, 0, none⟩ = some (.int .i64 x) ∧ i0 < n) := ⟨hn, cx, by omega⟩
  have hi9 : i0 < n := by omega
  have hn9 : n ≤ 4096 := by omega
  clear hn hl hg hlen htk hv cx h0 he0 hf hi0 hk0 hJ0
  go_enter Try.func41, Try.ntmps41
  go_wp2_with (go_at_call 56; refine Calls.mono HI.out ?_; rintro e w2 ⟨rfl, hb⟩; have H2 : Hid (DJ w w2 g n cap l x cur0 i0 (i0 + 1)) := ⟨(hb.block g (heap_lt HJ0.out.blk)).trans HJ0.out.blk, gb_of_below hb _, HJ0.out.len, HJ0.out.ii, HJ0.out.tk, HJ0.out.rest, HJ0.out.lt⟩; clear hb HI HJ0)
  go_loopw [5, 6] (fun si sj wr => ∃ (j i : Nat) (cur : List Value), j ≤ n ∧ sj = .int .i64 j ∧ si = .int .i64 i ∧ i < j ∧ Hid (DJ w wr g n cap l x cur i j)) (fun _ sj _ => n - (intOf sj).toNat)
  case atStart => exact ⟨i0 + 1, i0, cur0, by omega, by go_num, rfl, by omega, H2.out⟩
  case round =>
    clear H2
    obtain ⟨j, i, cur, hj, rfl, rfl, hij, HJ⟩ := hrel
    by_cases hlt : j < n
    · obtain ⟨t, ht⟩ : ∃ t, l[j]? = some t := ⟨_, List.getElem?_eq_getElem (by have := HS.out.1; omega)⟩
      have hcel : ∀ q u, (tmC t)[q]? = some u → wr.cell? ⟨g, j * 3 + q, none⟩ = some u := fun q u hu => by
        have hq : q < 3 := by
          have := (List.getElem?_eq_some_iff.1 hu).1
          simpa [tmC] using this
        have h1 := HJ.out.rest (j * 3 + q) (by omega) (by omega)
        rw [tmL_at l j t ht q hq, hu] at h1
        rw [cell_of_block HJ.out.blk]
        simpa using h1
      have k0 : wr.cell? ⟨g, j * 3, none⟩ = some (.int .i64 t.nd) := hcel 0 _ rfl
      have k1 : wr.cell? ⟨g, j * 3 + 1, none⟩ = some (.int .i64 t.tg) := hcel 1 _ rfl
      have k2 : wr.cell? ⟨g, j * 3 + 2, none⟩ = some (.int .i64 t.at_) := hcel 2 _ rfl
      have hx9 := cell_lt HS.out.2.1
      have cx : wr.cell? ⟨xb, 0, none⟩ = some (.int .i64 x) := by
        have hb := HJ.out.gb.block xb hx9 (fun e => hxg (by injection e))
        have h1 := HS.out.2.1
        unfold World.cell? at h1 ⊢
        rw [hb]
        exact h1
      have hjn : (j : Int) < n := by omega
      have HT : Hid (l[j]? = some t ∧ j < n) := ⟨ht, hlt⟩
      obtain ⟨nd, tg, at_⟩ := t
      simp only at k0 k1 k2
      have hxr := cell_lt cx
      have HCX : Hid (wr.cell? ⟨xb, 0, none⟩ = some (.int .i64 x) ∧ xb < wr.heap.size) := ⟨cx, hxr⟩
      clear ht hcel hlt cx hxr hx9
      by_cases he : nd = x
      · have hb9 : (nd == x) = true := by simpa using he
        have HE : Hid (nd = x) := he
        clear he
        go_wp2_with (go_at_call 42; have hbz : Below wr.heap.size wr (wr.alloc (.cells #[.int .i64 nd, .int .i64 tg, .int .i64 at_] 63)) := (Below.refl _ wr).alloc (Nat.le_refl _) _; refine Calls.mono (clear1_any ((hbz.cell (p := ⟨xb, 0, none⟩) HCX.out.2).trans HCX.out.1)) ?_; rintro e w3 ⟨rfl, hb⟩; have HJ3 : Hid (DJ w w3 g n cap l x cur i (j + 1)) := HJ.out.step (hbz.trans (hb.mono hbz.size)) HT.out.1 HE.out; clear hb hbz; rw [hb9])
        go_roundw
        case rel => exact ⟨_, _, _, _, _, _, _, _, _, _, _, _, _, _, _, _, _, _, _, _, _, _, _, ⟨j + 1, i, cur, HT.out.2, by go_num, rfl, by omega, HJ3.out⟩, rfl⟩
        case measure => have := HT.out.2; simp [intOf]; omega
      · have hb9 : (nd == x) = false := by simpa using he
        have HE : Hid (nd ≠ x) := he
        have hin : (i : Int) < n := by omega
        clear he
        go_wp2_with (go_at_call 42
                     have hbz : Below wr.heap.size wr (wr.alloc (.cells #[.int .i64 nd, .int .i64 tg, .int .i64 at_] 63)) := (Below.refl _ wr).alloc (Nat.le_refl _) _
                     have hvz : (wr.alloc (.cells #[.int .i64 nd, .int .i64 tg, .int .i64 at_] 63)).heap[wr.heap.size]? = some (.cells #[.int .i64 nd, .int .i64 tg, .int .i64 at_] 63) := heap_alloc_new _ _
                     refine Calls.mono (clear1_any ((hbz.cell (p := ⟨xb, 0, none⟩) HCX.out.2).trans HCX.out.1)) ?_
                     rintro e w3 ⟨rfl, hb⟩
                     have hB3 := hbz.trans (hb.mono hbz.size)
                     have hv3 := (hb.block _ (heap_lt hvz)).trans hvz
                     obtain ⟨vb, hvb⟩ : ∃ vb, vb = wr.heap.size := ⟨_, rfl⟩
                     rw [← hvb] at hv3 ⊢
                     have H3 : Hid (Below wr.heap.size wr w3) := hB3
                     have v0 : w3.cell? ⟨vb, 0, none⟩ = some (.int .i64 nd) := by rw [cell_of_block hv3]; rfl
                     have v1 : w3.cell? ⟨vb, 1, none⟩ = some (.int .i64 tg) := by rw [cell_of_block hv3]; rfl
                     have v2 : w3.cell? ⟨vb, 2, none⟩ = some (.int .i64 at_) := by rw [cell_of_block hv3]; rfl
                     have hb3 : w3.heap[g]? = some (.cells cur.toArray 63 (0, 0)) := (hB3.block g (heap_lt HJ.out.blk)).trans HJ.out.blk
                     have hlen := HJ.out.len
                     have hi3 : i * 3 + 2 < cur.length := by omega
                     have e0 : w3.cell? ⟨g, i * 3, none⟩ = some (cur[i * 3]) := by rw [cell_of_block hb3]; simp
                     have e1 : w3.cell? ⟨g, i * 3 + 1, none⟩ = some (cur[i * 3 + 1]) := by rw [cell_of_block hb3]; simp
                     have e2 : w3.cell? ⟨g, i * 3 + 2, none⟩ = some (cur[i * 3 + 2]) := by rw [cell_of_block hb3]; simp
                     generalize cur[i * 3] = y0 at e0
                     generalize cur[i * 3 + 1] = y1 at e1
                     generalize cur[i * 3 + 2] = y2 at e2
                     have z0 : w3.frozen? ⟨g, i * 3, none⟩ = false := unfrozen_of_block hb3 _
                     have z1 : w3.frozen? ⟨g, i * 3 + 1, none⟩ = false := unfrozen_of_block hb3 _
                     have z2 : w3.frozen? ⟨g, i * 3 + 2, none⟩ = false := unfrozen_of_block hb3 _
                     have HB3 : Hid (w3.heap[g]? = some (.cells cur.toArray 63 (0, 0)) ∧ i * 3 + 3 ≤ cur.length) := ⟨hb3, by omega⟩
                     clear hbz hvz hb hB3 hv3 hvb hb3 hlen hi3
                     rw [hb9])
        obtain ⟨w4, hw4⟩ : ∃ w4, w4 = ((w3.setCell ⟨g, i * 3, none⟩ (.int .i64 nd)).setCell ⟨g, i * 3 + 1, none⟩ (.int .i64 tg)).setCell ⟨g, i * 3 + 2, none⟩ (.int .i64 at_) := ⟨_, rfl⟩
        have H4 : Hid (DJ w w4 g n cap l x (splice cur (i * 3) (tmC ⟨nd, tg, at_⟩)) (i + 1) (j + 1)) := by
          refine HJ.out.put hcap HT.out.2 HT.out.1 HE.out ?_ ?_
          · rw [hw4, block_setCell (block_setCell (block_setCell HB3.out.1 _) _) _]
            have h9 := set3 (i * 3) cur (.int .i64 nd) (.int .i64 tg) (.int .i64 at_) HB3.out.2
            show some (Obj.cells _ 63 (0, 0)) = _
            rw [show tmC ⟨nd, tg, at_⟩ = [.int .i64 nd, .int .i64 tg, .int .i64 at_] from rfl, ← h9]
            simp
          · have hk : ∀ y, y ≠ g → w4.heap[y]? = w3.heap[y]? := fun y hy => by rw [hw4, Below.heap_setCell _ _ _ _ hy, Below.heap_setCell _ _ _ _ hy, Below.heap_setCell _ _ _ _ hy]
            have h3 := gb_comp HJ.out.gb (gb_of_below H3.out (some g)) (Or.inl rfl)
            exact ⟨by rw [hw4]; exact h3.os, by rw [hw4]; exact h3.tape, by rw [hw4]; exact h3.output, by rw [hw4]; simpa using h3.size, fun y hy hyg => (hk y (fun e => hyg (by rw [e]))).trans (h3.block y hy hyg)⟩
        rw [← hw4]
        clear hw4
        go_roundw
        case rel => exact ⟨_, _, _, _, _, _, _, _, _, _, _, _, _, _, _, _, _, _, _, _, _, _, _, ⟨j + 1, i + 1, _, HT.out.2, by go_num, by go_num, by omega, H4.out⟩, rfl⟩
        case measure => have := HT.out.2; simp [intOf]; omega
    · obtain rfl : n = j := by omega
      have hall : l.take n = l := by rw [List.take_of_length_le]; have := HS.out.1; omega
      have hii := HJ.out.ii
      have htk := HJ.out.tk
      rw [hall] at hii htk
      have HE : Hid (i = (keepT l x).length ∧ cur.take (i * 3) = tmL (keepT l x) ∧ cur.length = cap * 3) := ⟨hii, htk, HJ.out.len⟩
      have hin : (i : Int) < n := by omega
      clear hall hii htk hlt
      go_wp2_with (refine elT.wpList_clear rfl _ rfl g (i * 3) (n - i) (cap - i) rfl cur HJ.out.blk (by omega) (by rw [HE.out.2.2, ← Nat.add_mul]; exact Nat.mul_le_mul_right _ (by omega)) ?_
                   intro zs w9 hz hc hgb
                   have H9 : Hid (w9.heap[g]? = some (.cells (splice cur (i * 3) zs).toArray 63 (0, 0)) ∧ w.grownBy w9 (some g) ∧ zs.length = (n - i) * 3) := ⟨hc.out, gb_comp HJ.out.gb hgb (Or.inl rfl), hz⟩
                   clear hz hc hgb)
      go_ret
      have hfit : i * 3 + zs.length ≤ cur.length := by rw [H9.out.2.2, HE.out.2.2, ← Nat.add_mul]; exact Nat.mul_le_mul_right _ (by omega)
      refine ⟨splice cur (i * 3) zs, by rw [← HE.out.1]; rfl, H9.out.2.1, H9.out.1, ?_, ?_⟩
      · rw [length_splice _ _ _ hfit]
        exact HE.out.2.2
      · rw [← HE.out.1, spl_take cur zs (i * 3) (i * 3) (Nat.le_refl _) (by omega)]
        exact HE.out.2.1
end Go.Proofs.Ytemapnfbmhjlbaa
