/- net: the reference's Clear. -/
import Derived.Test.YtemapnfbmhjlbaaRH
namespace Go.Proofs.Ytemapnfbmhjlbaa
open Go.RowKit Go.Maps Go.Joins
set_option linter.unusedSimpArgs false
set_option linter.unusedVariables false
/-- Clear, of the net told plainly. -/
def keepT (l : List TM) (node : Int) : List TM := l.filter fun t => !decide (t.nd = node)
def nClear (A : NA) (node : Int) : NA := { A with tm := keepT A.tm node }
theorem keepT_at (l : List TM) (node : Int) (k : Nat) (t : TM) (h : l[k]? = some t) : keepT (l.take (k + 1)) node = keepT (l.take k) node ++ (if t.nd = node then [] else [t]) := by
  have e : l.take (k + 1) = l.take k ++ [t] := by rw [List.take_add_one, h]; rfl
  unfold keepT
  rw [e, List.filter_append]
  by_cases hn : t.nd = node
  · rw [if_pos hn]
    simp [hn]
  · rw [if_neg hn]
    simp [hn]
theorem nilRow (w : World) (base : Nat) (e : TypeId) (s : Nat) : w.ownsRow base e s (.slice none 0 0) 0 [] := ⟨by simp, Or.inl ⟨rfl, rfl⟩⟩
set_option maxRecDepth 100000 in
set_option maxHeartbeats 8000000 in
theorem rclear_any {w : World} {b : Nat} {N : RS} (h : RIs w b N) (ho : ROk N) (node : Int) :
    Calls Try.prog 21 #[.pointer (some ⟨b, 0, none⟩), .int .i64 node] w fun e w' => e = .returned (.tuple #[]) ∧ ∃ N', RIs w' b N' ∧ RFr w w' N N' ∧ absR N' = nClear (absR N) node := by
  obtain ⟨ta, tc, htv, hnil, htc, hg0, hcells⟩ := h.tmv
  have hb := h.lt
  obtain ⟨n, hn⟩ : ∃ n, n = N.tm.length := ⟨_, rfl⟩
  have hn9 : n ≤ 4096 := by rw [hn]; exact ho.tm
  rw [← hn] at htv
  have HS : Hid (RIs w b N ∧ N.tv = .slice ta n tc ∧ n = N.tm.length ∧ (∀ j u, (tmL N.tm)[j]? = some u → ∃ g o, ta = some ⟨g, o, none⟩ ∧ w.cell? ⟨g, o + j, none⟩ = some u)) := ⟨h, htv, hn, hcells⟩
  clear h ho htv hnil htc hg0 hcells hn
  go_enter Try.func21, Try.ntmps21
  go_wp2_with fail
  go_loopw [4, 5] (fun o i wr => ∃ k : Nat, k ≤ n ∧ i = .int .i64 k ∧ Hid (Below w.heap.size w wr ∧ wr.ownsRow w.heap.size 92 3 o (keepT (N.tm.take k) node).length (tmL (keepT (N.tm.take k) node)))) (fun _ i _ => n - (intOf i).toNat)
  case atStart => exact ⟨0, Nat.zero_le _, rfl, Below.refl _ _, by rw [List.take_zero]; exact nilRow _ _ _ _⟩
  case round =>
    obtain ⟨k, hk, rfl, HJ⟩ := hrel
    have c4 : wr.cell? ⟨b, 4, none⟩ = some (.slice ta n tc) := (HS.out.1.below HJ.out.1).cells.2.2.2.2.trans (by rw [HS.out.2.1])
    by_cases hlt : k < n
    · obtain ⟨t, ht⟩ : ∃ t, N.tm[k]? = some t := ⟨_, List.getElem?_eq_getElem (by have := HS.out.2.2.1; omega)⟩
      have hcel : ∃ g o, ta = some ⟨g, o, none⟩ ∧ ∀ j u, (tmC t)[j]? = some u → wr.cell? ⟨g, o + k * 3 + j, none⟩ = some u := by
        obtain ⟨g, o, e, _⟩ := HS.out.2.2.2 (k * 3 + 0) _ (by rw [tmL_at N.tm k t ht 0 (by decide)]; rfl)
        refine ⟨g, o, e, fun j u hu => ?_⟩
        have hj : j < 3 := by
          have := (List.getElem?_eq_some_iff.1 hu).1
          simpa [tmC] using this
        obtain ⟨g2, o2, e2, hc⟩ := HS.out.2.2.2 (k * 3 + j) u (by rw [tmL_at N.tm k t ht j hj]; exact hu)
        rw [e] at e2
        injection e2 with e2
        injection e2 with e2 e3
        subst e2 e3
        rw [← Nat.add_assoc] at hc
        exact (HJ.out.1.cell (p := ⟨g, o + k * 3 + j, none⟩) (cell_lt hc)).trans hc
      obtain ⟨g, o, rfl, hcc⟩ := hcel
      have d0 : wr.cell? ⟨g, o + k * 3, none⟩ = some (.int .i64 t.nd) := hcc 0 _ rfl
      have d1 : wr.cell? ⟨g, o + k * 3 + 1, none⟩ = some (.int .i64 t.tg) := hcc 1 _ rfl
      have d2 : wr.cell? ⟨g, o + k * 3 + 2, none⟩ = some (.int .i64 t.at_) := hcc 2 _ rfl
      have hkn : (k : Int) < n := by omega
      have HK : Hid (k < n ∧ keepT (N.tm.take (k + 1)) node = keepT (N.tm.take k) node ++ (if t.nd = node then [] else [t])) := ⟨hlt, keepT_at _ _ _ _ ht⟩
      obtain ⟨nd, tg, at_⟩ := t
      simp only at d0 d1 d2 HK
      clear ht hcc hlt
      by_cases hnd : nd = node
      · have hnd2 : (nd == node) = true := by simpa using hnd
        have HJ2 : Hid (Below w.heap.size w wr ∧ wr.ownsRow w.heap.size 92 3 u4 (keepT (N.tm.take (k + 1)) node).length (tmL (keepT (N.tm.take (k + 1)) node))) := by
          rw [HK.out.2, if_pos hnd, List.append_nil]
          exact HJ.out
        go_wp2_with fail
        go_roundw
        case rel => exact ⟨k + 1, HK.out.1, by go_num, HJ2.out⟩
        case measure => have := HK.out.1; simp [intOf]; omega
      · have hnd2 : (nd == node) = false := by simpa using hnd
        obtain ⟨oa, oc, hu4⟩ := row_form HJ.out.2
        have hlen : (keepT (N.tm.take k) node).length ≤ 4096 := by
          have h1 : (keepT (N.tm.take k) node).length ≤ (N.tm.take k).length := List.length_filter_le _ _
          rw [List.length_take] at h1
          omega
        go_wp2_with (first
          | (at_builtin
             have hB1 : Below wr.heap.size wr (wr.alloc (.cells #[.int .i64 nd, .int .i64 tg, .int .i64 at_] 92)) := (Below.refl _ wr).alloc (Nat.le_refl _) _
             have hsb : (wr.alloc (.cells #[.int .i64 nd, .int .i64 tg, .int .i64 at_] 92)).heap[wr.heap.size]? = some (.cells #[.int .i64 nd, .int .i64 tg, .int .i64 at_] 92) := heap_alloc_new _ _
             have hr1 := ownsRow_heap HJ.out.2 (fun x hx => hB1.block x (HJ.out.2.lt x hx).2)
             have hs1 := HJ.out.1.size
             have hs2 := hB1.size
             refine elU.wpList_append rfl _ _ rfl w.heap.size _ (keepT (N.tm.take k) node).length (tmL (keepT (N.tm.take k) node)) rfl hr1 (some ⟨wr.heap.size, 0, none⟩) 1 1 rfl (tmC ⟨nd, tg, at_⟩) rfl (fun _ => ⟨_, rfl, fun j u hu => by
               rw [Addr.add_lit, Nat.zero_add, cell_of_block hsb]
               simpa [tmC] using hu⟩) (fun e => by cases e) (fun u hu => by simp only [tmC, List.mem_cons, List.not_mem_nil, or_false] at hu; rcases hu with rfl | rfl | rfl <;> rfl) (by omega) (by omega) ?_
             intro v9 w9 ho9 hg9 ha9
             have HJ2 : Hid (Below w.heap.size w w9 ∧ w9.ownsRow w.heap.size 92 3 v9 (keepT (N.tm.take (k + 1)) node).length (tmL (keepT (N.tm.take (k + 1)) node))) := by
               rw [HK.out.2, if_neg hnd, List.length_append, tmL_append]
               refine ⟨(HJ.out.1.trans (hB1.mono hs1)).grown hg9 (by omega) (fun jj hjj => (HJ.out.2.lt jj hjj).1), ?_⟩
               simpa [tmL] using ho9
             clear hB1 hsb hr1 hs1 hs2 ho9 hg9 ha9))
        go_roundw
        case rel => exact ⟨k + 1, HK.out.1, by go_num, HJ2.out⟩
        case measure => have := HK.out.1; simp [intOf]; omega
    · obtain rfl : n = k := by omega
      have hall : N.tm.take n = N.tm := by rw [List.take_of_length_le]; have := HS.out.2.2.1; omega
      have hj := HJ.out
      rw [hall] at hj
      obtain ⟨oa, oc, hu4⟩ := row_form hj.2
      subst hu4
      have hend := rsetT_end HS.out.1 (gb_of_below hj.1 _) (rowz hj.2) (Or.inr (fun x hx => (hj.2.lt x hx).1))
      have HE : Hid (RIs (wr.setCell ⟨b, 4, none⟩ (.slice oa (keepT N.tm node).length oc)) b (rsetT N (.slice oa (keepT N.tm node).length oc) (keepT N.tm node)) ∧ RFr w (wr.setCell ⟨b, 4, none⟩ (.slice oa (keepT N.tm node).length oc)) N (rsetT N (.slice oa (keepT N.tm node).length oc) (keepT N.tm node))) := hend
      have z4 : wr.frozen? ⟨b, 4, none⟩ = false := unfrozen_of_block ((hj.1.block b hb).trans HS.out.1.net) 4
      clear hlt hall hj hend HJ
      generalize (keepT N.tm node).length = q at *
      go_wp2
      (try simp only [Exit.inBlock, Exit.then])
      refine bodyPost_end (results_none rfl _ _ _) rfl ?_
      exact ⟨rfl, _, HE.out.1, HE.out.2, rfl⟩
end Go.Proofs.Ytemapnfbmhjlbaa
