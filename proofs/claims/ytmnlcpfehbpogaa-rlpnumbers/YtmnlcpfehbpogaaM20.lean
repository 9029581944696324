/- RZ, SA, laid into one text. -/
import Derived.Test.YtmnlcpfehbpogaaM19
import Derived.Lib.SlBytesConst
/- rlp: copies, List: the walks. -/
namespace Go.Proofs.Ytmnlcpfehbpogaa
open Go.RowKit Go.Maps Go.Joins
set_option linter.unusedSimpArgs false
set_option linter.unusedVariables false
theorem mk29 (n : Nat) (hn : n * 56 ≤ 140737488355328) (w : World) : (Instr.makeSlice 29 (.int .i64 n) (.int .i64 n)).run Try.prog w = .ok (.slice (some ⟨w.heap.size, 0, none⟩) n n) (w.alloc (.cells (icL (List.replicate n icZ)).toArray 31)) := by
  obtain ⟨i, hi, hz, hs, hb⟩ := info31c
  have := run_make (P := Try.prog) w 29 31 i _ Try.underlying29 hi hz .i64 .i64 n n (by omega) (by omega) (by rw [hb]; omega) (by omega)
  rw [hs] at this
  rw [this]
  simp only [Int.toNat_natCast]
  rw [show (Value.agg #[.bool false, .slice none 0 0, .slice none 0 0]).cells = #[.bool false, .slice none 0 0, .slice none 0 0] from by rfl, made_icL]
def CopyC (xs : List Tr) : Prop := ∀ (w : World) (v : Value) (D : Nat → Prop), ItsV w D v xs → (∀ b, D b → b < w.heap.size) →
    Calls Try.prog 47 #[v] w fun e w' => Below w.heap.size w w' ∧ ∃ v', e = .returned v' ∧ ItsV w' (fun b => w.heap.size ≤ b ∧ b < w'.heap.size) v' xs
set_option maxRecDepth 100000 in
set_option maxHeartbeats 16000000 in
theorem copies1 (xs : List Tr) (ih : ∀ x ∈ xs, CopyC x.xs) : CopyC xs := by
  intro w v D h hD
  obtain ⟨ai, ci, rfl, i1, i2, i3⟩ : ∃ a cap, v = .slice a xs.length cap ∧ xs.length ≤ cap ∧ cap ≤ 9223372036854775807 ∧ xs.length * 56 ≤ 140737488355328 := h.form
  have HI : Hid (ItsV w D (.slice ai xs.length ci) xs) := h
  have HD : Hid (∀ b, D b → b < w.heap.size) := hD
  have IH : Hid _ := ih
  obtain ⟨n, hn⟩ : ∃ n, n = xs.length := ⟨_, rfl⟩
  rw [← hn] at HI i1 i3 ⊢
  have HN : Hid (n = xs.length) := hn
  clear h hD ih hn
  have hmk := mk29 n i3
  have hB : Below w.heap.size w (w.alloc (.cells (icL (List.replicate n icZ)).toArray 31)) := by go_grown
  have H0 : Hid (CJ w (w.alloc (.cells (icL (List.replicate n icZ)).toArray 31)) n 0 xs (List.replicate n icZ)) := ⟨by simp, heap_alloc_new _ _, fun i f hi => (by omega), hB⟩
  clear hB
  go_enter Try.func47, Try.ntmps47
  go_wp2_with fail
  generalize w.alloc (.cells (icL (List.replicate n icZ)).toArray 31) = W0 at H0 ⊢
  go_loopw [11] (fun i wr => ∃ (j : Nat) (M : List IC), j ≤ n ∧ i = .int .i64 j ∧ CJ w wr n j xs M) (fun i _ => n - (intOf i).toNat)
  case atStart => exact ⟨0, _, Nat.zero_le _, rfl, H0.out⟩
  case round =>
    obtain ⟨j, M, hj, rfl, hJ⟩ := hrel
    by_cases hjl : j < n
    · obtain ⟨y, hy⟩ : ∃ y, xs[j]? = some y := ⟨_, List.getElem?_eq_getElem (by have := HN.out; omega)⟩
      obtain ⟨g, o, sb', si', rfl, hDg, c0, c1, c2, hbb, hii⟩ := HI.out.at hy
      obtain ⟨ab', cb', rfl⟩ := hbb.is.form
      obtain ⟨ak', ck', rfl, j1, j2, j3⟩ := hii.form
      have hgl := HD.out g hDg
      have c0 : wr.cell? ⟨g, o + j * 3, none⟩ = some (.bool y.l) := (hJ.bl.cell (p := ⟨g, o + j * 3, none⟩) hgl).trans c0
      have c1 : wr.cell? ⟨g, o + j * 3 + 1, none⟩ = some (.slice ab' y.b.length cb') := (hJ.bl.cell (p := ⟨g, o + j * 3 + 1, none⟩) hgl).trans c1
      have c2 : wr.cell? ⟨g, o + j * 3 + 2, none⟩ = some (.slice ak' y.xs.length ck') := (hJ.bl.cell (p := ⟨g, o + j * 3 + 2, none⟩) hgl).trans c2
      have HR : Hid (CJ w wr n j xs M ∧ xs[j]? = some y ∧ BytD w D (.slice ab' y.b.length cb') y.b ∧ ItsV w D (.slice ak' y.xs.length ck') y.xs) := ⟨hJ, hy, hbb, hii⟩
      obtain ⟨yl, hyl⟩ : ∃ yl, yl = y.l := ⟨_, rfl⟩
      obtain ⟨yn, hyn⟩ : ∃ yn, yn = y.b.length := ⟨_, rfl⟩
      obtain ⟨ym, hym⟩ : ∃ ym, ym = y.xs.length := ⟨_, rfl⟩
      rw [← hyl] at c0
      rw [← hyn] at c1
      rw [← hym] at c2
      have HY : Hid (yl = y.l ∧ yn = y.b.length ∧ ym = y.xs.length) := ⟨hyl, hyn, hym⟩
      clear hJ hy hbb hii hyl hyn hym hDg hgl
      go_wp2_with fail
      have hB1 : Below wr.heap.size wr (wr.alloc (.cells #[.bool yl, .slice ab' yn cb', .slice ak' ym ck'] 31)) := by go_grown
      have hx1 : (wr.alloc (.cells #[.bool yl, .slice ab' yn cb', .slice ak' ym ck'] 31)).heap[wr.heap.size]? = some (.cells #[.bool yl, .slice ab' yn cb', .slice ak' ym ck'] 31) := heap_alloc_new _ _
      have hJ1 := HR.out.1.below hB1
      have hw1 : Below w.heap.size w (wr.alloc (.cells #[.bool yl, .slice ab' yn cb', .slice ak' ym ck'] 31)) := hJ1.bl
      obtain ⟨bx, hbx⟩ : ∃ bx, bx = wr.heap.size := ⟨_, rfl⟩
      have hbs : w.heap.size + 1 ≤ bx := by rw [hbx]; exact HR.out.1.size
      rw [← hbx] at hx1 ⊢
      have HW : Hid (CJ w (wr.alloc (.cells #[.bool yl, .slice ab' yn cb', .slice ak' ym ck'] 31)) n j xs M ∧ w.heap.size + 1 ≤ bx ∧ BytD (wr.alloc (.cells #[.bool yl, .slice ab' yn cb', .slice ak' ym ck'] 31)).drew D (.slice ab' yn cb') y.b ∧ ItsV (wr.alloc (.cells #[.bool yl, .slice ab' yn cb', .slice ak' ym ck'] 31)).drew D (.slice ak' ym ck') y.xs) := by
        refine ⟨hJ1, hbs, ?_, ?_⟩
        · have hq := HR.out.2.2.1
          rw [← HY.out.2.1] at hq
          exact hq.mono (fun b hb => hw1.block b (HD.out b hb)) (fun _ h => h)
        · have hq := HR.out.2.2.2
          rw [← HY.out.2.2] at hq
          exact hq.mono (fun b hb => hw1.block b (HD.out b hb)) (fun _ h => h)
      have hS0 : (fun w' => w'.heap[bx]? = some (.cells #[.bool yl, .slice ab' yn cb', .slice ak' ym ck'] 31)) (wr.alloc (.cells #[.bool yl, .slice ab' yn cb', .slice ak' ym ck'] 31)).drew := hx1
      have HC : Hid (xs[j]? = some y) := HR.out.2.1
      clear hB1 hJ1 hw1 hbx hbs hx1 HR c0 c1 c2
      generalize wr.alloc (.cells #[.bool yl, .slice ab' yn cb', .slice ak' ym ck'] 31) = W1 at HW hS0 ⊢
      refine wp_noP ?_
      refine wp_region_held_drew (S := (fun w' => w'.heap[bx]? = some (.cells #[.bool yl, .slice ab' yn cb', .slice ak' ym ck'] 31))) (by kernel_rfl) hS0 (fun hHeld => ?_)
      refine wpAnyH_take (i := 0) (v := .slice (some ⟨w.heap.size, 0, none⟩) n n) rfl (by kernel_rfl) (by kernel_rfl) (by kernel_rfl) (fun _ _ _ h => h) (Or.inl ⟨by rfl, fun w9 hSw => ?_⟩) hHeld ?_
      · go_simp
      simp only [List.getElem_toArray, List.getElem_cons_succ, List.getElem_cons_zero, Act.put, List.setIfInBounds_toArray, List.set_cons_zero, List.set_cons_succ]
      refine wpAnyH_take (i := 1) (v := .int .i64 j) rfl (by kernel_rfl) (by kernel_rfl) (by kernel_rfl) (fun _ _ _ h => h) (Or.inl ⟨by rfl, fun w9 hSw => ?_⟩) hHeld ?_
      · go_simp
      simp only [List.getElem_toArray, List.getElem_cons_succ, List.getElem_cons_zero, Act.put, List.setIfInBounds_toArray, List.set_cons_zero, List.set_cons_succ]
      refine wpAnyH_take (i := 2) (v := .pointer (some ⟨bx, 0, none⟩)) rfl (by kernel_rfl) (by kernel_rfl) (by kernel_rfl) (fun _ _ _ h => h) (Or.inl ⟨by rfl, fun w9 hSw => ?_⟩) hHeld ?_
      · go_simp
      simp only [List.getElem_toArray, List.getElem_cons_succ, List.getElem_cons_zero, Act.put, List.setIfInBounds_toArray, List.set_cons_zero, List.set_cons_succ]
      refine wpAnyH_take (i := 3) (v := .bool yl) rfl (by kernel_rfl) (by kernel_rfl) (by kernel_rfl) (fun _ _ _ h => h) (Or.inl ⟨by rfl, fun w9 hSw => ?_⟩) hHeld ?_
      · have h2 : w9.cell? ⟨bx, 0, none⟩ = some (.bool yl) := (cell_of_block hSw 0).trans rfl
        go_simp
      simp only [List.getElem_toArray, List.getElem_cons_succ, List.getElem_cons_zero, Act.put, List.setIfInBounds_toArray, List.set_cons_zero, List.set_cons_succ]
      refine wpAnyH_take (i := 4) (v := .pointer (some ⟨bx, 1, none⟩)) rfl (by kernel_rfl) (by kernel_rfl) (by kernel_rfl) (fun _ _ _ h => h) (Or.inl ⟨by rfl, fun w9 hSw => ?_⟩) hHeld ?_
      · go_simp
      simp only [List.getElem_toArray, List.getElem_cons_succ, List.getElem_cons_zero, Act.put, List.setIfInBounds_toArray, List.set_cons_zero, List.set_cons_succ]
      refine wpAnyH_take (i := 5) (v := .slice ab' yn cb') rfl (by kernel_rfl) (by kernel_rfl) (by kernel_rfl) (fun _ _ _ h => h) (Or.inl ⟨by rfl, fun w9 hSw => ?_⟩) hHeld ?_
      · have h2 : w9.cell? ⟨bx, 1, none⟩ = some (.slice ab' yn cb') := (cell_of_block hSw 1).trans rfl
        go_simp
      simp only [List.getElem_toArray, List.getElem_cons_succ, List.getElem_cons_zero, Act.put, List.setIfInBounds_toArray, List.set_cons_zero, List.set_cons_succ]
      refine wpAnyH_take (i := 7) (v := .pointer (some ⟨bx, 2, none⟩)) rfl (by kernel_rfl) (by kernel_rfl) (by kernel_rfl) (fun _ _ _ h => h) (Or.inl ⟨by rfl, fun w9 hSw => ?_⟩) hHeld ?_
      · go_simp
      simp only [List.getElem_toArray, List.getElem_cons_succ, List.getElem_cons_zero, Act.put, List.setIfInBounds_toArray, List.set_cons_zero, List.set_cons_succ]
      refine wpAnyH_take (i := 8) (v := .slice ak' ym ck') rfl (by kernel_rfl) (by kernel_rfl) (by kernel_rfl) (fun _ _ _ h => h) (Or.inl ⟨by rfl, fun w9 hSw => ?_⟩) hHeld ?_
      · have h2 : w9.cell? ⟨bx, 2, none⟩ = some (.slice ak' ym ck') := (cell_of_block hSw 2).trans rfl
        go_simp
      simp only [List.getElem_toArray, List.getElem_cons_succ, List.getElem_cons_zero, Act.put, List.setIfInBounds_toArray, List.set_cons_zero, List.set_cons_succ]
      refine wpAnyH_ready (rs := [6]) (by kernel_rfl) (by simp) ?_
      refine AllReadyH.cons rfl (fun K hK => ?_) AllReadyH.nil
      have hC := bclone_any (w := W1.drew) (.slice ab' yn cb') y.b HW.out.2.2.1.is HW.out.2.2.1.len
      go_simp
      refine Calls.mono hC ?_
      clear hC
      rintro e w2 ⟨v2, rfl, ho2, hb2⟩
      obtain ⟨a8, c8, rfl⟩ := row_form ho2
      rw [← HY.out.2.1] at ho2 ⊢
      have hb2' : Below W1.heap.size W1 w2 := ⟨hb2.os, hb2.tape, hb2.output, hb2.size, hb2.block⟩
      have hJ2 := HW.out.1.below hb2'
      have hx2 : (fun w' => w'.heap[bx]? = some (.cells #[.bool yl, .slice ab' yn cb', .slice ak' ym ck'] 31)) w2 := (hb2.block bx (heap_lt hHeld)).trans hHeld
      have hs1 := HW.out.1.size
      have H2 : Hid (CJ w w2 n j xs M ∧ w.heap.size + 1 ≤ bx ∧ BytD w2 (fun b => w.heap.size + 1 ≤ b ∧ b < w2.heap.size) (.slice a8 yn c8) y.b ∧ ItsV w2 D (.slice ak' ym ck') y.xs) := ⟨hJ2, HW.out.2.1, BytD.of_own (by rw [← HY.out.2.1]; exact ho2) (fun b h1 h2 => ⟨by have : W1.drew.heap.size = W1.heap.size := rfl; omega, h2⟩) HW.out.2.2.1.len, HW.out.2.2.2.mono (fun b hb => hb2.block b (Nat.lt_of_lt_of_le (HD.out b hb) HW.out.1.bl.size)) (fun _ h => h)⟩
      clear hb2 hb2' hJ2 hs1 ho2
      refine hK.out _ _ hx2 (fun hHeld => ?_)
      clear hK K
      try simp only [List.getElem_toArray, List.getElem_cons_succ, List.getElem_cons_zero, Act.put, List.setIfInBounds_toArray, List.set_cons_zero, List.set_cons_succ]
      refine wpAnyH_ready (rs := [9]) (by kernel_rfl) (by simp) ?_
      refine AllReadyH.cons rfl (fun K hK => ?_) AllReadyH.nil
      have hC := IH.out y (List.mem_of_getElem? HC.out) w2 (.slice ak' ym ck') D H2.out.2.2.2 (fun b hb => Nat.lt_of_lt_of_le (HD.out b hb) H2.out.1.bl.size)
      go_simp
      refine Calls.mono hC ?_
      clear hC
      rintro e w3 ⟨hb3, v3, rfl, hi3⟩
      obtain ⟨a9, c9, rfl, -⟩ := hi3.form
      obtain ⟨yk, hyk⟩ : ∃ yk, yk = y.xs.length := ⟨_, rfl⟩
      rw [← hyk] at hi3 ⊢
      have hJ3 := H2.out.1.below hb3
      have hx3 : (fun w' => w'.heap[bx]? = some (.cells #[.bool yl, .slice ab' yn cb', .slice ak' ym ck'] 31)) w3 := (hb3.block bx (heap_lt hHeld)).trans hHeld
      have hs2 := H2.out.1.size
      have hk3 := hJ3.blk
      have hl3 : (icL M).length = n * 3 := by rw [icL_length, hJ3.len]
      have hcell : ∀ k, k < n * 3 → ∃ u, w3.cell? ⟨w.heap.size, k, none⟩ = some u := fun k hk => ⟨(icL M)[k]'(by omega), (cell_of_block hk3 k).trans (by simp)⟩
      have H3 : Hid (CJ w w3 n j xs M ∧ ItV w3 (fun b => w.heap.size + 1 ≤ b ∧ b < w3.heap.size) (.slice a8 yn c8) (.slice a9 yk c9) y) := ⟨hJ3, H2.out.2.2.1.mono (fun b hb => hb3.block b hb.2) (fun b hb => ⟨hb.1, Nat.lt_of_lt_of_le hb.2 hb3.size⟩), hi3.mono (fun _ _ => rfl) (fun b hb => ⟨by have := hb.1; omega, hb.2⟩)⟩
      obtain ⟨x0, k0⟩ := hcell (j * 3) (by omega)
      obtain ⟨x1, k1⟩ := hcell (j * 3 + 1) (by omega)
      obtain ⟨x2, k2⟩ := hcell (j * 3 + 2) (by omega)
      have kz := fun k => unfrozen_of_block hk3 k
      clear hb3 hi3 hJ3 hs2 hyk hk3 hl3 hcell
      refine hK.out _ _ hx3 (fun hHeld => ?_)
      clear hK K
      try simp only [List.getElem_toArray, List.getElem_cons_succ, List.getElem_cons_zero, Act.put, List.setIfInBounds_toArray, List.set_cons_zero, List.set_cons_succ]
      refine wpAnyH_take (i := 10) (v := .agg #[.bool yl, .slice a8 yn c8, .slice a9 yk c9]) rfl (by kernel_rfl) (by kernel_rfl) (by kernel_rfl) (fun _ _ _ h => h) (Or.inl ⟨by rfl, fun w9 hSw => ?_⟩) hHeld ?_
      · go_simp
      simp only [List.getElem_toArray, List.getElem_cons_succ, List.getElem_cons_zero, Act.put, List.setIfInBounds_toArray, List.set_cons_zero, List.set_cons_succ]
      refine wpAnyH_take (i := 11) (v := .pointer (some ⟨w.heap.size, j * 3, none⟩)) rfl (by kernel_rfl) (by kernel_rfl) (by kernel_rfl) (fun _ _ _ h => h) (Or.inl ⟨by rfl, fun w9 hSw => ?_⟩) hHeld ?_
      · go_simp
      simp only [List.getElem_toArray, List.getElem_cons_succ, List.getElem_cons_zero, Act.put, List.setIfInBounds_toArray, List.set_cons_zero, List.set_cons_succ]
      refine wpAnyH_ready (rs := [12]) (by kernel_rfl) (by simp) ?_
      refine AllReadyH.cons rfl (fun K hK => ?_) AllReadyH.nil
      go_simp
      have hs4 : (fun w' => w'.heap[bx]? = some (.cells #[.bool yl, .slice ab' yn cb', .slice ak' ym ck'] 31)) (((w3.setCell ⟨w.heap.size, j * 3, none⟩ (.bool yl)).setCell ⟨w.heap.size, j * 3 + 1, none⟩ (.slice a8 yn c8)).setCell ⟨w.heap.size, j * 3 + 2, none⟩ (.slice a9 yk c9)) := by
        have hne : bx ≠ w.heap.size := by have := H2.out.2.1; omega
        show (((w3.setCell ⟨w.heap.size, j * 3, none⟩ (.bool yl)).setCell ⟨w.heap.size, j * 3 + 1, none⟩ (.slice a8 yn c8)).setCell ⟨w.heap.size, j * 3 + 2, none⟩ (.slice a9 yk c9)).heap[bx]? = _
        rw [Below.heap_setCell _ _ _ _ hne, Below.heap_setCell _ _ _ _ hne, Below.heap_setCell _ _ _ _ hne]
        exact hHeld
      have H4 : Hid (CJ w (((w3.setCell ⟨w.heap.size, j * 3, none⟩ (.bool yl)).setCell ⟨w.heap.size, j * 3 + 1, none⟩ (.slice a8 yn c8)).setCell ⟨w.heap.size, j * 3 + 2, none⟩ (.slice a9 yk c9)) n (j + 1) xs (M.set j ⟨y, .slice a8 yn c8, .slice a9 yk c9⟩)) := by
        have := H3.out.1.put hjl ⟨y, .slice a8 yn c8, .slice a9 yk c9⟩ H3.out.2 HC.out
        rw [HY.out.1]
        exact this
      refine hK.out _ _ hs4 (fun hHeld => ?_)
      clear hK K
      try simp only [List.getElem_toArray, List.getElem_cons_succ, List.getElem_cons_zero, Act.put, List.setIfInBounds_toArray, List.set_cons_zero, List.set_cons_succ]
      refine wpAnyH_done (by kernel_rfl) ?_ _
      simp only [noP]
      go_wp2
      go_roundw
      case rel => exact ⟨j + 1, _, by omega, by go_num, H4.out⟩
      case measure => simp [intOf]; omega
    · obtain rfl : j = n := by omega
      have H9 : Hid _ := hJ
      clear hJ
      go_wp2
      go_ret
      have hn := HN.out
      have h9 := H9.out
      subst hn
      exact ⟨h9.bl, _, rfl, h9.done i3⟩
theorem copies_tr (x : Tr) : CopyC x.xs := by
  induction x using Tr.ind with
  | h l b xs ih => exact copies1 xs ih
theorem copies_any (xs : List Tr) : CopyC xs := copies1 xs fun x _ => copies_tr x
end Go.Proofs.Ytmnlcpfehbpogaa
/- rlp: List; alive. -/
namespace Go.Proofs.Ytmnlcpfehbpogaa
open Go.RowKit Go.Maps Go.Joins
set_option linter.unusedSimpArgs false
set_option linter.unusedVariables false
set_option maxRecDepth 100000 in
set_option maxHeartbeats 4000000 in
/-- rlp.List -/
theorem list_any {w : World} {v : Value} {xs : List Tr} {D : Nat → Prop} (h : ItsV w D v xs) (hD : ∀ b, D b → b < w.heap.size) :
    Calls Try.prog 28 #[v] w fun e w' => Below w.heap.size w w' ∧ ∃ si, e = .returned (.agg #[.bool true, .slice none 0 0, si]) ∧ ItV w' (fun b => w.heap.size ≤ b ∧ b < w'.heap.size) (.slice none 0 0) si (.mk true [] xs) := by
  have hb : Below w.heap.size w (w.alloc (.cells #[.bool false, .slice none 0 0, .slice none 0 0] 31)) := by go_grown
  have hsz : (w.alloc (.cells #[.bool false, .slice none 0 0, .slice none 0 0] 31)).heap.size = w.heap.size + 1 := by simp
  have HC : Hid _ := copies_any xs _ v D (h.mono (fun b hb' => hb.block b (hD b hb')) (fun _ h => h)) (fun b hb' => by have := hD b hb'; rw [hsz]; omega)
  have h0 : (w.alloc (.cells #[.bool false, .slice none 0 0, .slice none 0 0] 31)).heap[w.heap.size]? = some (.cells #[.bool false, .slice none 0 0, .slice none 0 0] 31) := heap_alloc_new _ _
  obtain ⟨a, c, rfl, -⟩ := h.form
  clear h hD
  go_enter Try.func28, Try.ntmps28
  go_wp2_with fail
  refine Calls.mono HC.out ?_
  rintro e w1 ⟨hb1, v', rfl, hi⟩
  obtain ⟨a', c', rfl, -⟩ := hi.form
  have k0 := (hb1.block w.heap.size (by rw [hsz]; omega)).trans h0
  have a0 : w1.cell? ⟨w.heap.size, 0, none⟩ = some (.bool false) := (cell_of_block k0 0).trans rfl
  have a1 : w1.cell? ⟨w.heap.size, 1, none⟩ = some (.slice none 0 0) := (cell_of_block k0 1).trans rfl
  have a2 : w1.cell? ⟨w.heap.size, 2, none⟩ = some (.slice none 0 0) := (cell_of_block k0 2).trans rfl
  have az := fun k => unfrozen_of_block k0 k
  have hf := fin31 (u := .bool true) (sb := .slice none 0 0) (si := .slice a' xs.length c') (x := .mk true [] xs) (hb.trans (hb1.mono hb.size)) ⟨⟨Or.inl ⟨rfl, rfl⟩, fun b hb' => (by have h9 := dBlock_own hb'; cases h9), by show (0 : Nat) ≤ _; omega⟩, hi.mono (fun _ _ => rfl) (fun b hb' => ⟨by rw [hsz] at hb'; exact hb'.1, hb'.2⟩)⟩
  have HF : Hid _ := hf
  have HK : Hid _ := k0
  clear hf k0 hi hb1 h0 hsz hb HC
  go_wp2
  exact ⟨rfl, _, res31 _ _ rfl HK.out rfl, HF.out.1, _, rfl, HF.out.2⟩
theorem ex1 : encE (.mk false [100, 111, 103] []) = 0 ∧ encR (.mk false [100, 111, 103] []) = [131, 100, 111, 103] := by decide +kernel
theorem ex2 : encE (.mk true [] [.mk false (shortB 15) [], .mk false (shortB 1024) []]) = 0 ∧ encR (.mk true [] [.mk false (shortB 15) [], .mk false (shortB 1024) []]) = [196, 15, 130, 4, 0] := by decide +kernel
theorem ex3 : dcd [129, 5] = .error 11 := by rfl
theorem ex4 : dcd [193] = .error 10 := by rfl
end Go.Proofs.Ytmnlcpfehbpogaa
