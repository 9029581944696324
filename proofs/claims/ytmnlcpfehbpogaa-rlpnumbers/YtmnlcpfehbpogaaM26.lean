/- TB, TC, laid into one text. -/
import Derived.Test.YtmnlcpfehbpogaaTA
/- rlp: the document's Same of what is the same. -/
namespace Go.Proofs.Ytmnlcpfehbpogaa
open Go.RowKit Go.Maps Go.Joins
set_option linter.unusedSimpArgs false
set_option linter.unusedVariables false
def RSameC (x : Tr) : Prop := ∀ (w : World) (sb1 si1 sb2 si2 : Value), ItV w (fun b => b < w.heap.size) sb1 si1 x → ItV w (fun b => b < w.heap.size) sb2 si2 x → Calls Try.prog 17 #[.agg #[.bool x.l, sb1, si1], .agg #[.bool x.l, sb2, si2]] w fun e w' => Below w.heap.size w w' ∧ e = .returned (.bool true)
set_option maxRecDepth 100000 in
set_option maxHeartbeats 8000000 in
theorem rsame_t (x : Tr) : RSameC x := by
  induction x using Tr.ind with
  | h l b xs ih =>
    intro w sb1 si1 sb2 si2 h1 h2
    show Calls Try.prog 17 #[.agg #[.bool l, sb1, si1], .agg #[.bool l, sb2, si2]] w _
    obtain ⟨a1, c1, rfl⟩ : ∃ a cap, sb1 = .slice a b.length cap := h1.b.is.form
    obtain ⟨a2, c2, rfl⟩ : ∃ a cap, sb2 = .slice a b.length cap := h2.b.is.form
    obtain ⟨d1, e1, rfl, i1, i2, i3⟩ : ∃ a cap, si1 = .slice a xs.length cap ∧ xs.length ≤ cap ∧ cap ≤ 9223372036854775807 ∧ xs.length * 56 ≤ 140737488355328 := h1.xs.form
    obtain ⟨d2, e2, rfl, -⟩ : ∃ a cap, si2 = .slice a xs.length cap ∧ xs.length ≤ cap ∧ cap ≤ 9223372036854775807 ∧ xs.length * 56 ≤ 140737488355328 := h2.xs.form
    obtain ⟨n, hn⟩ : ∃ n, n = xs.length := ⟨_, rfl⟩
    obtain ⟨m, hm⟩ : ∃ m, m = b.length := ⟨_, rfl⟩
    have HN : Hid (n = xs.length ∧ m = b.length) := ⟨hn, hm⟩
    rw [← hn] at i1 i3
    have H1 : Hid (ItV w (fun b => b < w.heap.size) (.slice a1 m c1) (.slice d1 n e1) (.mk l b xs) ∧ ItV w (fun b => b < w.heap.size) (.slice a2 m c2) (.slice d2 n e2) (.mk l b xs)) := by rw [hn, hm]; exact ⟨h1, h2⟩
    have IH : Hid (∀ x ∈ xs, RSameC x) := ih
    rw [← hn, ← hm]
    clear h1 h2 ih hn hm
    have hb2 : Below w.heap.size w ((w.alloc (.cells #[.bool l, .slice a1 m c1, .slice d1 n e1] 25)).alloc (.cells #[.bool l, .slice a2 m c2, .slice d2 n e2] 25)) := by go_grown
    have hW := allocs_heap [Obj.cells #[.bool l, .slice a1 m c1, .slice d1 n e1] 25, .cells #[.bool l, .slice a2 m c2, .slice d2 n e2] 25] w
    have v1 := conv_b (H1.out.1.b.is.below hb2)
    have v2 := conv_b (H1.out.2.b.is.below hb2)
    have H0 : Hid (Below w.heap.size w ((w.alloc (.cells #[.bool l, .slice a1 m c1, .slice d1 n e1] 25)).alloc (.cells #[.bool l, .slice a2 m c2, .slice d2 n e2] 25)) ∧ ((w.alloc (.cells #[.bool l, .slice a1 m c1, .slice d1 n e1] 25)).alloc (.cells #[.bool l, .slice a2 m c2, .slice d2 n e2] 25)).heap[w.heap.size]? = some (.cells #[.bool l, .slice a1 m c1, .slice d1 n e1] 25) ∧ ((w.alloc (.cells #[.bool l, .slice a1 m c1, .slice d1 n e1] 25)).alloc (.cells #[.bool l, .slice a2 m c2, .slice d2 n e2] 25)).heap[w.heap.size + 1]? = some (.cells #[.bool l, .slice a2 m c2, .slice d2 n e2] 25)) := ⟨hb2, hW 0 _ rfl, hW 1 _ rfl⟩
    have hll : (l == l) = true := by simp
    clear hb2 hW
    go_enter Try.func17, Try.ntmps17
    go_wp2_with fail
    go_loopw [5] (fun i wr => ∃ (j : Nat), j ≤ n ∧ i = .int .i64 j ∧ Below w.heap.size w wr ∧ wr.heap[w.heap.size]? = some (.cells #[.bool l, .slice a1 m c1, .slice d1 n e1] 25) ∧ wr.heap[w.heap.size + 1]? = some (.cells #[.bool l, .slice a2 m c2, .slice d2 n e2] 25)) (fun i _ => n - (intOf i).toNat)
    case atStart => exact ⟨0, Nat.zero_le _, rfl, H0.out⟩
    case round =>
      obtain ⟨j, hj, rfl, hb, k1, k2⟩ := hrel
      clear v1 v2 H0
      by_cases hjl : j < n
      · obtain ⟨y, hy⟩ : ∃ y, xs[j]? = some y := ⟨_, List.getElem?_eq_getElem (by have := HN.out.1; omega)⟩
        obtain ⟨g, o, sb', si', rfl, hg, p0, p1, p2, hbb, hii⟩ := H1.out.1.xs.at hy
        obtain ⟨g', o', sb'', si'', rfl, hg', q0, q1, q2, hbb', hii'⟩ := H1.out.2.xs.at hy
        obtain ⟨ab, cb, rfl⟩ := hbb.is.form
        obtain ⟨ai, ci, rfl, -⟩ := hii.form
        obtain ⟨ab', cb', rfl⟩ := hbb'.is.form
        obtain ⟨ai', ci', rfl, -⟩ := hii'.form
        obtain ⟨yl, hyl⟩ : ∃ yl, yl = y.l := ⟨_, rfl⟩
        obtain ⟨yn, hyn⟩ : ∃ yn, yn = y.b.length := ⟨_, rfl⟩
        obtain ⟨ym, hym⟩ : ∃ ym, ym = y.xs.length := ⟨_, rfl⟩
        rw [← hyl] at p0 q0
        rw [← hyn] at p1 q1
        rw [← hym] at p2 q2
        have e0 : wr.cell? ⟨w.heap.size, 2, none⟩ = some (.slice (some ⟨g, o, none⟩) n e1) := (cell_of_block k1 2).trans rfl
        have hS0 : (fun w' => w'.cell? ⟨w.heap.size, 2, none⟩ = some (.slice (some ⟨g, o, none⟩) n e1) ∧ w'.cell? ⟨w.heap.size + 1, 2, none⟩ = some (.slice (some ⟨g', o', none⟩) n e2) ∧ w'.cell? ⟨g, o + j * 3, none⟩ = some (.bool yl) ∧ w'.cell? ⟨g, o + j * 3 + 1, none⟩ = some (.slice ab yn cb) ∧ w'.cell? ⟨g, o + j * 3 + 2, none⟩ = some (.slice ai ym ci) ∧ w'.cell? ⟨g', o' + j * 3, none⟩ = some (.bool yl) ∧ w'.cell? ⟨g', o' + j * 3 + 1, none⟩ = some (.slice ab' yn cb') ∧ w'.cell? ⟨g', o' + j * 3 + 2, none⟩ = some (.slice ai' ym ci')) wr.drew := ⟨e0, (cell_of_block k2 2).trans rfl, (hb.cell (p := ⟨g, o + j * 3, none⟩) hg).trans p0, (hb.cell (p := ⟨g, o + j * 3 + 1, none⟩) hg).trans p1, (hb.cell (p := ⟨g, o + j * 3 + 2, none⟩) hg).trans p2, (hb.cell (p := ⟨g', o' + j * 3, none⟩) hg').trans q0, (hb.cell (p := ⟨g', o' + j * 3 + 1, none⟩) hg').trans q1, (hb.cell (p := ⟨g', o' + j * 3 + 2, none⟩) hg').trans q2⟩
        have hm1 : ∀ {s t : Value}, ItV w (fun b => b < w.heap.size) s t y → ItV wr.drew (fun b => b < wr.drew.heap.size) s t y := fun h => h.mono (fun b hb' => hb.block b hb') (fun b hb' => Nat.lt_of_lt_of_le hb' hb.size)
        have hC := IH.out y (List.mem_of_getElem? hy) wr.drew (.slice ab y.b.length cb) (.slice ai y.xs.length ci) (.slice ab' y.b.length cb') (.slice ai' y.xs.length ci') (hm1 ⟨hbb, hii⟩) (hm1 ⟨hbb', hii'⟩)
        rw [← hyl, ← hyn, ← hym] at hC
        have HC : Hid _ := hC
        have HR : Hid (Below w.heap.size w wr ∧ wr.heap[w.heap.size]? = some (.cells #[.bool l, .slice a1 m c1, .slice (some ⟨g, o, none⟩) n e1] 25) ∧ wr.heap[w.heap.size + 1]? = some (.cells #[.bool l, .slice a2 m c2, .slice (some ⟨g', o', none⟩) n e2] 25)) := ⟨hb, k1, k2⟩
        have hki : (j : Int) < n := by omega
        clear hC hm1 hy hb k1 k2 hbb hii hbb' hii' hyl hyn hym hg hg' p0 p1 p2 q0 q1 q2
        go_wp2_with fail
        refine wp_noP ?_
        refine wp_region_held_drew (S := (fun w' => w'.cell? ⟨w.heap.size, 2, none⟩ = some (.slice (some ⟨g, o, none⟩) n e1) ∧ w'.cell? ⟨w.heap.size + 1, 2, none⟩ = some (.slice (some ⟨g', o', none⟩) n e2) ∧ w'.cell? ⟨g, o + j * 3, none⟩ = some (.bool yl) ∧ w'.cell? ⟨g, o + j * 3 + 1, none⟩ = some (.slice ab yn cb) ∧ w'.cell? ⟨g, o + j * 3 + 2, none⟩ = some (.slice ai ym ci) ∧ w'.cell? ⟨g', o' + j * 3, none⟩ = some (.bool yl) ∧ w'.cell? ⟨g', o' + j * 3 + 1, none⟩ = some (.slice ab' yn cb') ∧ w'.cell? ⟨g', o' + j * 3 + 2, none⟩ = some (.slice ai' ym ci'))) (by kernel_rfl) hS0 (fun hHeld => ?_)
        refine wpAnyH_take (i := 0) (v := .pointer (some ⟨w.heap.size, 2, none⟩)) rfl (by kernel_rfl) (by kernel_rfl) (by kernel_rfl) (fun _ _ _ h => h) (Or.inl ⟨by rfl, fun w9 hSw => ?_⟩) hHeld ?_
        · go_simp
        simp only [List.getElem_toArray, List.getElem_cons_succ, List.getElem_cons_zero, Act.put, List.setIfInBounds_toArray, List.set_cons_zero, List.set_cons_succ]
        refine wpAnyH_take (i := 1) (v := .slice (some ⟨g, o, none⟩) n e1) rfl (by kernel_rfl) (by kernel_rfl) (by kernel_rfl) (fun _ _ _ h => h) (Or.inl ⟨by rfl, fun w9 hSw => ?_⟩) hHeld ?_
        · have x0 := hSw.1
          have x1 := hSw.2.1
          have x2 := hSw.2.2.1
          have x3 := hSw.2.2.2.1
          have x4 := hSw.2.2.2.2.1
          have x5 := hSw.2.2.2.2.2.1
          have x6 := hSw.2.2.2.2.2.2.1
          have x7 := hSw.2.2.2.2.2.2.2
          go_simp
        simp only [List.getElem_toArray, List.getElem_cons_succ, List.getElem_cons_zero, Act.put, List.setIfInBounds_toArray, List.set_cons_zero, List.set_cons_succ]
        refine wpAnyH_take (i := 2) (v := .int .i64 j) rfl (by kernel_rfl) (by kernel_rfl) (by kernel_rfl) (fun _ _ _ h => h) (Or.inl ⟨by rfl, fun w9 hSw => ?_⟩) hHeld ?_
        · go_simp
        simp only [List.getElem_toArray, List.getElem_cons_succ, List.getElem_cons_zero, Act.put, List.setIfInBounds_toArray, List.set_cons_zero, List.set_cons_succ]
        refine wpAnyH_take (i := 3) (v := .pointer (some ⟨g, o + j * 3, none⟩)) rfl (by kernel_rfl) (by kernel_rfl) (by kernel_rfl) (fun _ _ _ h => h) (Or.inl ⟨by rfl, fun w9 hSw => ?_⟩) hHeld ?_
        · go_simp
        simp only [List.getElem_toArray, List.getElem_cons_succ, List.getElem_cons_zero, Act.put, List.setIfInBounds_toArray, List.set_cons_zero, List.set_cons_succ]
        refine wpAnyH_take (i := 4) (v := .agg #[.bool yl, .slice ab yn cb, .slice ai ym ci]) rfl (by kernel_rfl) (by kernel_rfl) (by kernel_rfl) (fun _ _ _ h => h) (Or.inl ⟨by rfl, fun w9 hSw => ?_⟩) hHeld ?_
        · have x0 := hSw.1
          have x1 := hSw.2.1
          have x2 := hSw.2.2.1
          have x3 := hSw.2.2.2.1
          have x4 := hSw.2.2.2.2.1
          have x5 := hSw.2.2.2.2.2.1
          have x6 := hSw.2.2.2.2.2.2.1
          have x7 := hSw.2.2.2.2.2.2.2
          go_simp
        simp only [List.getElem_toArray, List.getElem_cons_succ, List.getElem_cons_zero, Act.put, List.setIfInBounds_toArray, List.set_cons_zero, List.set_cons_succ]
        refine wpAnyH_take (i := 5) (v := .pointer (some ⟨w.heap.size + 1, 2, none⟩)) rfl (by kernel_rfl) (by kernel_rfl) (by kernel_rfl) (fun _ _ _ h => h) (Or.inl ⟨by rfl, fun w9 hSw => ?_⟩) hHeld ?_
        · go_simp
        simp only [List.getElem_toArray, List.getElem_cons_succ, List.getElem_cons_zero, Act.put, List.setIfInBounds_toArray, List.set_cons_zero, List.set_cons_succ]
        refine wpAnyH_take (i := 6) (v := .slice (some ⟨g', o', none⟩) n e2) rfl (by kernel_rfl) (by kernel_rfl) (by kernel_rfl) (fun _ _ _ h => h) (Or.inl ⟨by rfl, fun w9 hSw => ?_⟩) hHeld ?_
        · have x0 := hSw.1
          have x1 := hSw.2.1
          have x2 := hSw.2.2.1
          have x3 := hSw.2.2.2.1
          have x4 := hSw.2.2.2.2.1
          have x5 := hSw.2.2.2.2.2.1
          have x6 := hSw.2.2.2.2.2.2.1
          have x7 := hSw.2.2.2.2.2.2.2
          go_simp
        simp only [List.getElem_toArray, List.getElem_cons_succ, List.getElem_cons_zero, Act.put, List.setIfInBounds_toArray, List.set_cons_zero, List.set_cons_succ]
        refine wpAnyH_take (i := 7) (v := .int .i64 j) rfl (by kernel_rfl) (by kernel_rfl) (by kernel_rfl) (fun _ _ _ h => h) (Or.inl ⟨by rfl, fun w9 hSw => ?_⟩) hHeld ?_
        · go_simp
        simp only [List.getElem_toArray, List.getElem_cons_succ, List.getElem_cons_zero, Act.put, List.setIfInBounds_toArray, List.set_cons_zero, List.set_cons_succ]
        refine wpAnyH_take (i := 8) (v := .pointer (some ⟨g', o' + j * 3, none⟩)) rfl (by kernel_rfl) (by kernel_rfl) (by kernel_rfl) (fun _ _ _ h => h) (Or.inl ⟨by rfl, fun w9 hSw => ?_⟩) hHeld ?_
        · go_simp
        simp only [List.getElem_toArray, List.getElem_cons_succ, List.getElem_cons_zero, Act.put, List.setIfInBounds_toArray, List.set_cons_zero, List.set_cons_succ]
        refine wpAnyH_take (i := 9) (v := .agg #[.bool yl, .slice ab' yn cb', .slice ai' ym ci']) rfl (by kernel_rfl) (by kernel_rfl) (by kernel_rfl) (fun _ _ _ h => h) (Or.inl ⟨by rfl, fun w9 hSw => ?_⟩) hHeld ?_
        · have x0 := hSw.1
          have x1 := hSw.2.1
          have x2 := hSw.2.2.1
          have x3 := hSw.2.2.2.1
          have x4 := hSw.2.2.2.2.1
          have x5 := hSw.2.2.2.2.2.1
          have x6 := hSw.2.2.2.2.2.2.1
          have x7 := hSw.2.2.2.2.2.2.2
          go_simp
        simp only [List.getElem_toArray, List.getElem_cons_succ, List.getElem_cons_zero, Act.put, List.setIfInBounds_toArray, List.set_cons_zero, List.set_cons_succ]
        refine wpAnyH_ready (rs := [10]) (by kernel_rfl) (by simp) ?_
        refine AllReadyH.cons rfl (fun K hK => ?_) AllReadyH.nil
        go_simp
        refine Calls.mono HC.out ?_
        rintro e w2 ⟨hb2, rfl⟩
        have hS2 : (fun w' => w'.cell? ⟨w.heap.size, 2, none⟩ = some (.slice (some ⟨g, o, none⟩) n e1) ∧ w'.cell? ⟨w.heap.size + 1, 2, none⟩ = some (.slice (some ⟨g', o', none⟩) n e2) ∧ w'.cell? ⟨g, o + j * 3, none⟩ = some (.bool yl) ∧ w'.cell? ⟨g, o + j * 3 + 1, none⟩ = some (.slice ab yn cb) ∧ w'.cell? ⟨g, o + j * 3 + 2, none⟩ = some (.slice ai ym ci) ∧ w'.cell? ⟨g', o' + j * 3, none⟩ = some (.bool yl) ∧ w'.cell? ⟨g', o' + j * 3 + 1, none⟩ = some (.slice ab' yn cb') ∧ w'.cell? ⟨g', o' + j * 3 + 2, none⟩ = some (.slice ai' ym ci')) w2 := ⟨(hb2.cell (cell_lt hHeld.1)).trans hHeld.1, (hb2.cell (cell_lt hHeld.2.1)).trans hHeld.2.1, (hb2.cell (cell_lt hHeld.2.2.1)).trans hHeld.2.2.1, (hb2.cell (cell_lt hHeld.2.2.2.1)).trans hHeld.2.2.2.1, (hb2.cell (cell_lt hHeld.2.2.2.2.1)).trans hHeld.2.2.2.2.1, (hb2.cell (cell_lt hHeld.2.2.2.2.2.1)).trans hHeld.2.2.2.2.2.1, (hb2.cell (cell_lt hHeld.2.2.2.2.2.2.1)).trans hHeld.2.2.2.2.2.2.1, (hb2.cell (cell_lt hHeld.2.2.2.2.2.2.2)).trans hHeld.2.2.2.2.2.2.2⟩
        have hb2' : Below wr.heap.size wr w2 := ⟨hb2.os, hb2.tape, hb2.output, hb2.size, hb2.block⟩
        have H2 : Hid (Below w.heap.size w w2 ∧ w2.heap[w.heap.size]? = some (.cells #[.bool l, .slice a1 m c1, .slice (some ⟨g, o, none⟩) n e1] 25) ∧ w2.heap[w.heap.size + 1]? = some (.cells #[.bool l, .slice a2 m c2, .slice (some ⟨g', o', none⟩) n e2] 25)) := ⟨HR.out.1.trans (hb2'.mono HR.out.1.size), (hb2'.block _ (heap_lt HR.out.2.1)).trans HR.out.2.1, (hb2'.block _ (heap_lt HR.out.2.2)).trans HR.out.2.2⟩
        clear hb2 hb2'
        refine hK.out _ _ hS2 (fun hHeld => ?_)
        clear hK K
        try simp only [List.getElem_toArray, List.getElem_cons_succ, List.getElem_cons_zero, Act.put, List.setIfInBounds_toArray, List.set_cons_zero, List.set_cons_succ]
        refine wpAnyH_take (i := 11) (v := .bool false) rfl (by kernel_rfl) (by kernel_rfl) (by kernel_rfl) (fun _ _ _ h => h) (Or.inl ⟨by rfl, fun w9 hSw => ?_⟩) hHeld ?_
        · go_simp
        simp only [List.getElem_toArray, List.getElem_cons_succ, List.getElem_cons_zero, Act.put, List.setIfInBounds_toArray, List.set_cons_zero, List.set_cons_succ]
        refine wpAnyH_done (by kernel_rfl) ?_ _
        simp only [noP]
        clear hHeld hS2 hS0
        go_wp2
        go_roundw
        case rel => exact ⟨j + 1, by omega, by go_num, H2.out⟩
        case measure => simp [intOf]; omega
      · have hki : ¬ (j : Int) < n := by omega
        have e0 : wr.cell? ⟨w.heap.size, 2, none⟩ = some (.slice d1 n e1) := (cell_of_block k1 2).trans rfl
        have H3 : Hid (Below w.heap.size w wr) := hb
        clear hb k1 k2
        go_wp2
        go_ret
        exact ⟨H3.out, rfl⟩
end Go.Proofs.Ytmnlcpfehbpogaa
/- rlp: the document's size. -/
namespace Go.Proofs.Ytmnlcpfehbpogaa
open Go.RowKit Go.Maps Go.Joins
set_option linter.unusedSimpArgs false
set_option linter.unusedVariables false
/-- The number, no further than it matters. -/
def satB (l : List Int) : Nat := l.foldl (fun n c => if n < 16777216 then n * 256 + c.toNat else n) 0
theorem satB_snoc (l : List Int) (c : Int) : satB (l ++ [c]) = if satB l < 16777216 then satB l * 256 + c.toNat else satB l := by
  unfold satB
  rw [List.foldl_append]
  rfl
def SatR (N n : Nat) : Prop := (N = n ∨ (16777216 ≤ N ∧ 16777216 ≤ n)) ∧ N < 4294967552
theorem satB_num : ∀ (k : Nat) (l : List Int), l.length = k → Byt l → SatR (satB l) (numB l) := by
  intro k
  induction k with
  | zero =>
    intro l hl _
    obtain rfl := List.eq_nil_of_length_eq_zero hl
    exact ⟨Or.inl rfl, by decide⟩
  | succ k ih =>
    intro l hl hb
    obtain ⟨r, c, rfl⟩ : ∃ r c, l = r ++ [c] := by
      have hne : l ≠ [] := by intro e; subst e; simp at hl
      exact ⟨l.dropLast, l.getLast hne, (List.dropLast_concat_getLast hne).symm⟩
    have hc := hb c (by simp)
    obtain ⟨h1, h2⟩ := ih r (by simpa using hl) (fun x hx => hb x (by simp [hx]))
    unfold SatR
    rw [satB_snoc, numB_snoc]
    split
    · rcases h1 with h1 | h1
      · exact ⟨Or.inl (by rw [h1]), by omega⟩
      · omega
    · refine ⟨Or.inr ⟨by omega, ?_⟩, h2⟩
      rcases h1 with h1 | h1 <;> omega
def szR (r : Except Int (Nat × Nat)) (e : Ending) : Prop :=
  match r with
  | .error c => e = .returned (.tuple #[.int .i64 0, .int .i64 0, .int .i64 c])
  | .ok (h, n) => ∃ N : Nat, SatR N n ∧ e = .returned (.tuple #[.int .i64 ((1 + h : Nat) : Int), .int .i64 (N : Int), .int .i64 0])
set_option maxRecDepth 100000 in
set_option maxHeartbeats 8000000 in
theorem size_any {w : World} {a : Option Addr} {cap : Nat} {c : Int} {r : List Int} (h : Src w a cap (c :: r)) (sm gr : Int) (hsg : (sm = 128 ∧ gr = 183) ∨ (sm = 192 ∧ gr = 247)) (hc : sm ≤ c) (hc2 : c ≤ sm + 63) :
    Calls Try.prog 56 #[.slice a (c :: r).length cap, .int .u8 sm, .int .u8 gr] w fun e w' => Below w.heap.size w w' ∧ szR (szH r (c - sm).toNat) e := by
  obtain ⟨g, o, _, rfl, -, -, -, -, hall⟩ := h.at (i := 0) (by simp)
  have hcb := h.by' c (by simp)
  have k0 : w.cell? ⟨g, o, none⟩ = some (.int .u8 c) := hall 0 c rfl
  have hlen : (c :: r).length = r.length + 1 := rfl
  have hl0 := h.len
  have hcp := h.cp
  have hmx := h.mx
  rw [hlen] at hl0 hcp ⊢
  have HS : Hid (Src w (some ⟨g, o, none⟩) cap (c :: r)) := h
  have HA : Hid (∀ j x, (c :: r)[j]? = some x → w.cell? ⟨g, o + j, none⟩ = some (.int .u8 x)) := hall
  obtain ⟨L, hL⟩ : ∃ L, L = r.length := ⟨_, rfl⟩
  have HL : Hid (L = r.length) := hL
  rw [← hL] at hl0 hcp ⊢
  clear h hall hL hlen
  by_cases h55 : c ≤ gr
  · have e1 : szH r (c - sm).toNat = .ok (0, (c - sm).toNat) := by unfold szH; rw [if_pos (by omega)]
    have hP : szR (szH r (c - sm).toNat) (.returned (.tuple #[.int .i64 1, .int .i64 (c - sm), .int .i64 0])) := by
      rw [e1]
      refine ⟨(c - sm).toNat, ⟨Or.inl rfl, by omega⟩, ?_⟩
      rw [show (((c - sm).toNat : Nat) : Int) = c - sm from by omega]
      rfl
    have HP : Hid (szR (szH r (c - sm).toNat) (.returned (.tuple #[.int .i64 1, .int .i64 (c - sm), .int .i64 0]))) := hP
    clear e1 hP HS HA
    generalize szH r (c - sm).toNat = R at HP ⊢
    have hw8 : IntKind.u8.wrap (c - sm) = c - sm := by simp [IntKind.wrap, IntKind.signed, IntKind.bits]; omega
    go_enter Try.func56, Try.ntmps56
    go_wp2
    go_quiet (fail)
    go_wp2
    go_ret3
    exact ⟨⟨rfl, rfl, rfl, Nat.le_refl _, fun _ _ => rfl⟩, HP.out⟩
  · obtain ⟨K, hK⟩ : ∃ K : Nat, (K : Int) = c - gr := ⟨(c - gr).toNat, by omega⟩
    have hKb : 1 ≤ K ∧ K ≤ 8 := by omega
    have hT : (c - sm).toNat = K + 55 := by omega
    have hw8 : IntKind.u8.wrap (c - gr) = K := by rw [← hK]; simp [IntKind.wrap, IntKind.signed, IntKind.bits]; omega
    rw [hT]
    have hz : szH r (K + 55) = if r.length < K then .error 10 else if r.headD 0 = 0 ∨ numB (r.take K) ≤ 55 then .error 11 else .ok (K, numB (r.take K)) := by
      unfold szH
      rw [if_neg (by omega), Nat.add_sub_cancel]
    have HZ : Hid _ := hz
    clear hz hT
    by_cases hLK : L < K
    · have HP : Hid (szR (szH r (K + 55)) (.returned (.tuple #[.int .i64 0, .int .i64 0, .int .i64 10]))) := by rw [HZ.out, if_pos (by rw [← HL.out]; exact hLK)]; rfl
      generalize szH r (K + 55) = R at HP ⊢
      have hi : (L : Int) + 1 < 1 + K := by omega
      clear HZ HA HS
      go_enter Try.func56, Try.ntmps56
      go_wp2
      go_ret3
      exact ⟨Below.refl _ _, HP.out⟩
    · have hi : ¬ (L : Int) + 1 < 1 + K := by omega
      obtain ⟨c1, hc1⟩ : ∃ c1, r[0]? = some c1 := ⟨_, List.getElem?_eq_getElem (by have := HL.out; omega)⟩
      have hh : r.headD 0 = c1 := by
        cases r with
        | nil => cases hc1
        | cons y r => simp at hc1; simpa using hc1
      have k1 : w.cell? ⟨g, o + 1, none⟩ = some (.int .u8 c1) := HA.out 1 c1 (by simpa using hc1)
      have hLK' : ¬ r.length < K := by rw [← HL.out]; exact hLK
      by_cases h0 : c1 = 0
      · have HP : Hid (szR (szH r (K + 55)) (.returned (.tuple #[.int .i64 0, .int .i64 0, .int .i64 11]))) := by rw [HZ.out, if_neg hLK', if_pos (Or.inl (by rw [hh, h0]))]; rfl
        generalize szH r (K + 55) = R at HP ⊢
        clear HZ HA HS hh hc1
        subst h0
        go_enter Try.func56, Try.ntmps56
        go_wp2
        go_ret3
        exact ⟨Below.refl _ _, HP.out⟩
      · have hbr : Byt r := fun x hx => HS.out.by' x (by simp [hx])
        have hsat := satB_num K (r.take K) (by rw [List.length_take]; omega) (fun x hx => hbr x (List.mem_of_mem_take hx))
        have HB : Hid (Byt r ∧ SatR (satB (r.take K)) (numB (r.take K)) ∧ ¬ r.length < K ∧ ¬ r.headD 0 = 0) := ⟨hbr, hsat, hLK', by rw [hh]; exact h0⟩
        clear hbr hsat hLK' hh hc1
        go_enter Try.func56, Try.ntmps56
        go_wp2_with fail
        go_loopw [10, 11] (fun i1 i2 wr => ∃ (j : Nat), j ≤ K ∧ i1 = .int .i64 (satB (r.take j) : Nat) ∧ i2 = .int .i64 j ∧ wr = w) (fun _ i2 _ => K - (intOf i2).toNat)
        case atStart => exact ⟨0, Nat.zero_le _, by simp [satB], rfl, rfl⟩
        case round =>
          obtain ⟨j, hj, rfl, rfl, hwr⟩ := hrel
          subst hwr
          by_cases hjk : j < K
          · have hki : (j : Int) < K := by omega
            obtain ⟨y, hy⟩ : ∃ y, r[j]? = some y := ⟨_, List.getElem?_eq_getElem (by have := HB.out.2.2.1; omega)⟩
            have hyb := HB.out.1 y (List.mem_of_getElem? hy)
            have k2 : wr.cell? ⟨g, o + (1 + j), none⟩ = some (.int .u8 y) := HA.out (1 + j) y (by rw [Nat.add_comm]; simpa using hy)
            have hst := satB_snoc (r.take j) y
            rw [← take_snoc hy] at hst
            have hlt := (satB_num j (r.take j) (by rw [List.length_take]; have := HB.out.2.2.1; omega) (fun x hx => HB.out.1 x (List.mem_of_mem_take hx))).2
            obtain ⟨si, hsi0⟩ : ∃ si : Int, si = (satB (r.take j) : Nat) := ⟨_, rfl⟩
            rw [← hsi0]
            have hs0 : 0 ≤ si ∧ si < 4294967552 := by omega
            have hbj : (1 : Int) + j < L + 1 := by omega
            by_cases hs : si < 16777216
            · rw [if_pos (by omega)] at hst
              have HST : Hid (((satB (r.take (j + 1)) : Nat) : Int) = si * 256 + y) := by show _ = _; rw [hst]; omega
              clear hst hsi0 hy hlt
              go_wp2
              go_roundw
              case rel => exact ⟨j + 1, by omega, by rw [HST.out], by go_num, by trivial⟩
              case measure => simp [intOf]; omega
            · rw [if_neg (by omega)] at hst
              have HST : Hid (((satB (r.take (j + 1)) : Nat) : Int) = si) := by show _ = _; rw [hst, hsi0]
              clear hst hsi0 hy hlt
              go_wp2
              go_roundw
              case rel => exact ⟨j + 1, by omega, by rw [HST.out], by go_num, by trivial⟩
              case measure => simp [intOf]; omega
          · obtain rfl : j = K := by omega
            have hki : ¬ (j : Int) < j := by omega
            have hsat := HB.out.2.1
            have hz := HZ.out
            rw [if_neg HB.out.2.2.1] at hz
            generalize satB (r.take j) = sj at *
            by_cases h56 : sj < 56
            · have h56i : (sj : Int) < 56 := by omega
              have HP : Hid (szR (szH r (j + 55)) (.returned (.tuple #[.int .i64 0, .int .i64 0, .int .i64 11]))) := by
                rw [hz, if_pos (Or.inr (by rcases hsat.1 with h | h <;> omega))]; rfl
              clear hz hsat HZ
              go_wp2
              go_ret3
              exact ⟨Below.refl _ _, HP.out⟩
            · have h56i : ¬ (sj : Int) < 56 := by omega
              have HP : Hid (szR (szH r (j + 55)) (.returned (.tuple #[.int .i64 ((1 + j : Nat) : Int), .int .i64 (sj : Int), .int .i64 0]))) := by
                rw [hz, if_neg (by
                  intro h
                  rcases h with h | h
                  · exact HB.out.2.2.2 h
                  · rcases hsat.1 with h' | h' <;> omega)]
                exact ⟨sj, hsat, rfl⟩
              clear hz hsat HZ
              go_wp2
              go_ret3
              refine ⟨Below.refl _ _, ?_⟩
              first
                | exact HP.out
                | (have h9 := HP.out; rw [show ((1 + j : Nat) : Int) = 1 + (c - gr) from by omega] at h9; exact h9)
end Go.Proofs.Ytmnlcpfehbpogaa
