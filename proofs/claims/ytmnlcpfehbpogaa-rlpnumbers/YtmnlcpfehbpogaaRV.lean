/- rlp: Own (the law's). -/
import Derived.Test.YtmnlcpfehbpogaaM17
namespace Go.Proofs.Ytmnlcpfehbpogaa
open Go.RowKit Go.Maps Go.Joins
set_option linter.unusedSimpArgs false
set_option linter.unusedVariables false
/-- No panic comes. -/
def noP (Q : Exit → Act → World → Prop) : Exit → Act → World → Prop
  | .panic _, _, _ => False
  | e, a, w => Q e a w
theorem wp_noP {P : Program} {c : Code} {Q : Exit → Act → World → Prop} {a : Act} {w : World} (h : c.wp P (noP Q) a w) : c.wp P Q a w := by
  refine wp_mono h ?_
  intro e a w hq
  cases e <;> first | exact hq | exact hq.elim
set_option maxRecDepth 100000 in
set_option maxHeartbeats 16000000 in
theorem own_any (x : Tr) : ∀ (w : World) (sb si : Value) (D : Nat → Prop), ItV w D sb si x → (∀ b, D b → b < w.heap.size) →
    Calls Try.prog 9 #[.agg #[.bool x.l, sb, si]] w fun e w' => Below w.heap.size w w' ∧ ∃ si', e = .returned (.agg #[.bool x.l, sb, si']) ∧ ItV w' (fun b => b < w'.heap.size ∧ (D b ∨ w.heap.size ≤ b)) sb si' x := by
  induction x using Tr.ind with
  | h l b xs ih =>
    intro w sb si D h hD
    obtain ⟨ab, cb, rfl⟩ : ∃ a cap, sb = .slice a b.length cap := h.b.is.form
    obtain ⟨ai, ci, rfl, i1, i2, i3⟩ : ∃ a cap, si = .slice a xs.length cap ∧ xs.length ≤ cap ∧ cap ≤ 9223372036854775807 ∧ xs.length * 56 ≤ 140737488355328 := h.xs.form
    show Calls Try.prog 9 #[.agg #[.bool l, .slice ab b.length cb, .slice ai xs.length ci]] w _
    have HI : Hid (ItV w D (.slice ab b.length cb) (.slice ai xs.length ci) (.mk l b xs)) := h
    have HD : Hid (∀ b, D b → b < w.heap.size) := hD
    have IH : Hid _ := ih
    obtain ⟨n, hn⟩ : ∃ n, n = xs.length := ⟨_, rfl⟩
    obtain ⟨m, hm⟩ : ∃ m, m = b.length := ⟨_, rfl⟩
    rw [← hn, ← hm] at HI
    rw [← hn, ← hm]
    rw [← hn] at i1 i3
    have HN : Hid (n = xs.length ∧ m = b.length) := ⟨hn, hm⟩
    clear h hD ih hn hm
    have hlt : n * 56 ≤ 140737488355328 := i3
    have hW := allocs_heap [Obj.cells #[.bool l, .slice ab m cb, .slice ai n ci] 25, .cells #[.bool false, .slice none 0 0, .slice none 0 0] 31, .cells #[.bool l, .slice ab m cb, .slice none 0 0] 31] w
    have hB := allocs_below [Obj.cells #[.bool l, .slice ab m cb, .slice ai n ci] 25, .cells #[.bool false, .slice none 0 0, .slice none 0 0] 31, .cells #[.bool l, .slice ab m cb, .slice none 0 0] 31] w
    have h0 : OJ w (((w.alloc (.cells #[.bool l, .slice ab m cb, .slice ai n ci] 25)).alloc (.cells #[.bool false, .slice none 0 0, .slice none 0 0] 31)).alloc (.cells #[.bool l, .slice ab m cb, .slice none 0 0] 31)) D l (.slice ab m cb) (.slice ai n ci) [] (.slice none 0 0) 25 := ⟨hW 0 _ rfl, hW 1 _ rfl, hW 2 _ rfl, World.ownsRow_nil _ _ _ _, fun f hf => (by cases hf), hB, HD.out⟩
    have H0 : Hid _ := h0
    clear hW hB h0
    go_enter Try.func9, Try.ntmps9
    go_wp2_with fail
    go_loopw [4] (fun i wr => ∃ (j : Nat) (A : List IC) (v : Value), j ≤ n ∧ i = .int .i64 j ∧ OJ w wr D l (.slice ab m cb) (.slice ai n ci) A v 25 ∧ A.map IC.x = xs.take j) (fun i _ => n - (intOf i).toNat)
    case atStart => exact ⟨0, [], _, Nat.zero_le _, rfl, H0.out, by simp⟩
    case round =>
      obtain ⟨j, A, v, hj, rfl, hJ, hA⟩ := hrel
      obtain ⟨av, cv, hv⟩ := row_form hJ.row
      subst hv
      have hAl : A.length = j := by have := congrArg List.length hA; rw [List.length_map, List.length_take, ← HN.out.1] at this; omega
      have e0 : wr.cell? ⟨w.heap.size, 2, none⟩ = some (.slice ai n ci) := (cell_of_block hJ.b0 2).trans rfl
      by_cases hjl : j < n
      · obtain ⟨y, hy⟩ : ∃ y, xs[j]? = some y := ⟨_, List.getElem?_eq_getElem (by have := HN.out.1; omega)⟩
        obtain ⟨g, o, sb', si', rfl, hDg, c0, c1, c2, hbb, hii⟩ := HI.out.xs.at hy
        obtain ⟨ab', cb', rfl⟩ := hbb.is.form
        obtain ⟨ai', ci', rfl, j1, j2, j3⟩ := hii.form
        have hgl := HD.out g hDg
        have HR2 : Hid (g < w.heap.size) := hgl
        have c0 : wr.cell? ⟨g, o + j * 3, none⟩ = some (.bool y.l) := (hJ.bl.cell (p := ⟨g, o + j * 3, none⟩) hgl).trans c0
        have c1 : wr.cell? ⟨g, o + j * 3 + 1, none⟩ = some (.slice ab' y.b.length cb') := (hJ.bl.cell (p := ⟨g, o + j * 3 + 1, none⟩) hgl).trans c1
        have c2 : wr.cell? ⟨g, o + j * 3 + 2, none⟩ = some (.slice ai' y.xs.length ci') := (hJ.bl.cell (p := ⟨g, o + j * 3 + 2, none⟩) hgl).trans c2
        obtain ⟨yl, hyl⟩ : ∃ yl, yl = y.l := ⟨_, rfl⟩
        obtain ⟨yn, hyn⟩ : ∃ yn, yn = y.b.length := ⟨_, rfl⟩
        obtain ⟨ym, hym⟩ : ∃ ym, ym = y.xs.length := ⟨_, rfl⟩
        obtain ⟨q, hq⟩ : ∃ q, q = A.length := ⟨_, rfl⟩
        rw [← hyl] at c0
        rw [← hyn] at c1
        rw [← hym] at c2
        have hyv : ItV wr.drew D (.slice ab' y.b.length cb') (.slice ai' y.xs.length ci') y := ItV.mono ⟨hbb, hii⟩ (fun b hb' => hJ.bl.block b (HD.out b hb')) (fun _ h => h)
        have hdd : ∀ b, D b → b < wr.drew.heap.size := fun b hb' => Nat.lt_of_lt_of_le (HD.out b hb') hJ.bl.size
        have HR : Hid (xs[j]? = some y ∧ OJ w wr D l (.slice ab m cb) (.slice (some ⟨g, o, none⟩) n ci) A (.slice av q cv) 25 ∧ (wr.cell? ⟨g, o + j * 3, none⟩ = some (.bool yl) ∧ wr.cell? ⟨g, o + j * 3 + 1, none⟩ = some (.slice ab' yn cb') ∧ wr.cell? ⟨g, o + j * 3 + 2, none⟩ = some (.slice ai' ym ci')) ∧ ItV wr.drew D (.slice ab' y.b.length cb') (.slice ai' y.xs.length ci') y ∧ (∀ b, D b → b < wr.drew.heap.size)) := ⟨hy, by rw [hq]; exact hJ, ⟨c0, c1, c2⟩, hyv, hdd⟩
        have HY : Hid (yl = y.l ∧ yn = y.b.length ∧ ym = y.xs.length) := ⟨hyl, hyn, hym⟩
        have HA : Hid (A.map IC.x = xs.take j ∧ A.length = j) := ⟨hA, hAl⟩
        have HQ : Hid ((A.length + 1) * 56 ≤ 140737488355328) := by show _ ≤ _; omega
        have hki : (j : Int) < n := by omega
        clear hy hJ hA hAl hbb hii hDg hyl hyn hym hyv hdd c0 c1 c2 hq j1 j2 j3 hgl H0
        go_wp2_with fail
        have hS0 : (fun w' => w'.heap[w.heap.size]? = some (.cells #[.bool l, .slice ab m cb, .slice (some ⟨g, o, none⟩) n ci] 25) ∧ w'.cell? ⟨g, o + j * 3, none⟩ = some (.bool yl) ∧ w'.cell? ⟨g, o + j * 3 + 1, none⟩ = some (.slice ab' yn cb') ∧ w'.cell? ⟨g, o + j * 3 + 2, none⟩ = some (.slice ai' ym ci')) wr.drew := ⟨HR.out.2.1.b0, HR.out.2.2.1⟩
        have e1 : wr.drew.cell? ⟨w.heap.size + 1 + 1, 2, none⟩ = some (.slice av q cv) := (cell_of_block (w := wr.drew) HR.out.2.1.b2 2).trans rfl
        refine wp_noP ?_
        refine wp_region_held_drew (S := (fun w' => w'.heap[w.heap.size]? = some (.cells #[.bool l, .slice ab m cb, .slice (some ⟨g, o, none⟩) n ci] 25) ∧ w'.cell? ⟨g, o + j * 3, none⟩ = some (.bool yl) ∧ w'.cell? ⟨g, o + j * 3 + 1, none⟩ = some (.slice ab' yn cb') ∧ w'.cell? ⟨g, o + j * 3 + 2, none⟩ = some (.slice ai' ym ci'))) (by kernel_rfl) hS0 (fun hHeld => ?_)
        refine wpAnyH_take (i := 0) (v := .pointer (some ⟨w.heap.size + 1 + 1, 2, none⟩)) rfl (by kernel_rfl) (by kernel_rfl) (by kernel_rfl) (fun _ _ _ h => h) (Or.inl ⟨by rfl, fun w9 hSw => ?_⟩) hHeld ?_
        · go_simp
        simp only [List.getElem_toArray, List.getElem_cons_succ, List.getElem_cons_zero, Act.put, List.setIfInBounds_toArray, List.set_cons_zero, List.set_cons_succ]
        refine wpAnyH_take (i := 2) (v := .pointer (some ⟨w.heap.size, 2, none⟩)) rfl (by kernel_rfl) (by kernel_rfl) (by kernel_rfl) (fun _ _ _ h => h) (Or.inl ⟨by rfl, fun w9 hSw => ?_⟩) hHeld ?_
        · go_simp
        simp only [List.getElem_toArray, List.getElem_cons_succ, List.getElem_cons_zero, Act.put, List.setIfInBounds_toArray, List.set_cons_zero, List.set_cons_succ]
        refine wpAnyH_take (i := 3) (v := .slice (some ⟨g, o, none⟩) n ci) rfl (by kernel_rfl) (by kernel_rfl) (by kernel_rfl) (fun _ _ _ h => h) (Or.inl ⟨by rfl, fun w9 hSw => ?_⟩) hHeld ?_
        · have h2 : w9.cell? ⟨w.heap.size, 2, none⟩ = some (.slice (some ⟨g, o, none⟩) n ci) := (cell_of_block hSw.1 2).trans rfl
          go_simp
        simp only [List.getElem_toArray, List.getElem_cons_succ, List.getElem_cons_zero, Act.put, List.setIfInBounds_toArray, List.set_cons_zero, List.set_cons_succ]
        refine wpAnyH_take (i := 4) (v := .int .i64 j) rfl (by kernel_rfl) (by kernel_rfl) (by kernel_rfl) (fun _ _ _ h => h) (Or.inl ⟨by rfl, fun w9 hSw => ?_⟩) hHeld ?_
        · go_simp
        simp only [List.getElem_toArray, List.getElem_cons_succ, List.getElem_cons_zero, Act.put, List.setIfInBounds_toArray, List.set_cons_zero, List.set_cons_succ]
        refine wpAnyH_take (i := 5) (v := .pointer (some ⟨g, o + j * 3, none⟩)) rfl (by kernel_rfl) (by kernel_rfl) (by kernel_rfl) (fun _ _ _ h => h) (Or.inl ⟨by rfl, fun w9 hSw => ?_⟩) hHeld ?_
        · go_simp
        simp only [List.getElem_toArray, List.getElem_cons_succ, List.getElem_cons_zero, Act.put, List.setIfInBounds_toArray, List.set_cons_zero, List.set_cons_succ]
        refine wpAnyH_take (i := 6) (v := .agg #[.bool yl, .slice ab' yn cb', .slice ai' ym ci']) rfl (by kernel_rfl) (by kernel_rfl) (by kernel_rfl) (fun _ _ _ h => h) (Or.inl ⟨by rfl, fun w9 hSw => ?_⟩) hHeld ?_
        · have h0 := hSw.2.1
          have h1 := hSw.2.2.1
          have h2 := hSw.2.2.2
          go_simp
        simp only [List.getElem_toArray, List.getElem_cons_succ, List.getElem_cons_zero, Act.put, List.setIfInBounds_toArray, List.set_cons_zero, List.set_cons_succ]
        refine wpAnyH_ready (rs := [1, 7]) (by kernel_rfl) (by simp) ?_
        refine AllReadyH.cons rfl (fun K hK => ?_) (AllReadyH.cons rfl (fun K hK => ?_) AllReadyH.nil)
        · go_simp
          refine hK.out _ _ hHeld (fun hHeld => ?_)
          clear hK K
          try simp only [List.getElem_toArray, List.getElem_cons_succ, List.getElem_cons_zero, Act.put, List.setIfInBounds_toArray, List.set_cons_zero, List.set_cons_succ]
          refine wpAnyH_ready (rs := [7]) (by kernel_rfl) (by simp) ?_
          refine AllReadyH.cons rfl (fun K hK => ?_) AllReadyH.nil
          have hC := IH.out y (List.mem_of_getElem? HR.out.1) wr.drew (.slice ab' y.b.length cb') (.slice ai' y.xs.length ci') D HR.out.2.2.2.1 HR.out.2.2.2.2
          rw [← HY.out.1, ← HY.out.2.1, ← HY.out.2.2] at hC
          go_simp
          refine Calls.mono hC ?_
          clear hC
          rintro e w2 ⟨hb2, si', rfl, hit2⟩
          have hJ2 := HR.out.2.1.below (W2 := w2) ⟨hb2.os, hb2.tape, hb2.output, hb2.size, hb2.block⟩
          have hS2 : (fun w' => w'.heap[w.heap.size]? = some (.cells #[.bool l, .slice ab m cb, .slice (some ⟨g, o, none⟩) n ci] 25) ∧ w'.cell? ⟨g, o + j * 3, none⟩ = some (.bool yl) ∧ w'.cell? ⟨g, o + j * 3 + 1, none⟩ = some (.slice ab' yn cb') ∧ w'.cell? ⟨g, o + j * 3 + 2, none⟩ = some (.slice ai' ym ci')) w2 := ⟨hJ2.b0, (hb2.cell (cell_lt hHeld.2.1)).trans hHeld.2.1, (hb2.cell (cell_lt hHeld.2.2.1)).trans hHeld.2.2.1, (hb2.cell (cell_lt hHeld.2.2.2)).trans hHeld.2.2.2⟩
          obtain ⟨a9, c9, rfl, -⟩ := hit2.xs.form
          obtain ⟨yk, hyk⟩ : ∃ yk, yk = y.xs.length := ⟨_, rfl⟩
          rw [← hyk] at hit2 ⊢
          have e2 : w2.cell? ⟨w.heap.size + 1 + 1, 2, none⟩ = some (.slice av q cv) := (cell_of_block hJ2.b2 2).trans rfl
          have hvr : ∀ b, (Value.slice av q cv).ownBlock = some b → w.heap.size + 3 ≤ b ∧ b < wr.heap.size := fun b hb => HR.out.2.1.row.lt b hb
          have hit3 : ItV w2 (fun b => (D b ∨ w.heap.size + 3 ≤ b) ∧ b < w2.heap.size ∧ (Value.slice av q cv).ownBlock ≠ some b) (.slice ab' yn cb') (.slice a9 yk c9) y := by
            refine hit2.mono (fun _ _ => rfl) (fun b hb => ⟨?_, hb.1, fun e => ?_⟩)
            · rcases hb.2 with h | h
              · exact Or.inl h
              · exact Or.inr (by have := HR.out.2.1.size; have : wr.drew.heap.size = wr.heap.size := rfl; omega)
            · have h8 := hvr b e
              rcases hb.2 with h | h
              · have := HD.out b h; omega
              · have : wr.drew.heap.size = wr.heap.size := rfl; omega
          have H2 : Hid (OJ w w2 D l (.slice ab m cb) (.slice (some ⟨g, o, none⟩) n ci) A (.slice av q cv) 25 ∧ ItV w2 (fun b => (D b ∨ w.heap.size + 3 ≤ b) ∧ b < w2.heap.size ∧ (Value.slice av q cv).ownBlock ≠ some b) (.slice ab' yn cb') (.slice a9 yk c9) y) := ⟨hJ2, hit3⟩
          clear hb2 hit2 hit3 hJ2 hvr hyk
          refine hK.out _ _ hS2 (fun hHeld => ?_)
          clear hK K
          try simp only [List.getElem_toArray, List.getElem_cons_succ, List.getElem_cons_zero, Act.put, List.setIfInBounds_toArray, List.set_cons_zero, List.set_cons_succ]
          refine wpAnyH_ready (rs := [8]) (by kernel_rfl) (by simp) ?_
          refine AllReadyH.cons rfl (fun K hK => ?_) AllReadyH.nil
          go_simp
          have hB : Below w2.heap.size w2 (w2.alloc (.cells #[.bool yl, .slice ab' yn cb', .slice a9 yk c9] 31)) := by go_grown
          have hS3 : (fun w' => w'.heap[w.heap.size]? = some (.cells #[.bool l, .slice ab m cb, .slice (some ⟨g, o, none⟩) n ci] 25) ∧ w'.cell? ⟨g, o + j * 3, none⟩ = some (.bool yl) ∧ w'.cell? ⟨g, o + j * 3 + 1, none⟩ = some (.slice ab' yn cb') ∧ w'.cell? ⟨g, o + j * 3 + 2, none⟩ = some (.slice ai' ym ci')) (w2.alloc (.cells #[.bool yl, .slice ab' yn cb', .slice a9 yk c9] 31)) := ⟨(hB.block _ (heap_lt hHeld.1)).trans hHeld.1, (hB.cell (cell_lt hHeld.2.1)).trans hHeld.2.1, (hB.cell (cell_lt hHeld.2.2.1)).trans hHeld.2.2.1, (hB.cell (cell_lt hHeld.2.2.2)).trans hHeld.2.2.2⟩
          have e3 : (w2.alloc (.cells #[.bool yl, .slice ab' yn cb', .slice a9 yk c9] 31)).cell? ⟨w.heap.size + 1 + 1, 2, none⟩ = some (.slice av q cv) := (cell_of_block (H2.out.1.below hB).b2 2).trans rfl
          have H3 : Hid (OJ w (w2.alloc (.cells #[.bool yl, .slice ab' yn cb', .slice a9 yk c9] 31)) D l (.slice ab m cb) (.slice (some ⟨g, o, none⟩) n ci) A (.slice av q cv) 25 ∧ (w2.alloc (.cells #[.bool yl, .slice ab' yn cb', .slice a9 yk c9] 31)).heap[w2.heap.size]? = some (.cells #[.bool yl, .slice ab' yn cb', .slice a9 yk c9] 31) ∧ ItV (w2.alloc (.cells #[.bool yl, .slice ab' yn cb', .slice a9 yk c9] 31)) (fun b => (D b ∨ w.heap.size + 3 ≤ b) ∧ b < (w2.alloc (.cells #[.bool yl, .slice ab' yn cb', .slice a9 yk c9] 31)).heap.size ∧ (Value.slice av q cv).ownBlock ≠ some b) (.slice ab' yn cb') (.slice a9 yk c9) y) := ⟨H2.out.1.below hB, heap_alloc_new _ _, H2.out.2.mono (fun b hb => hB.block b hb.2.1) (fun b hb => ⟨hb.1, Nat.lt_of_lt_of_le hb.2.1 hB.size, hb.2.2⟩)⟩
          obtain ⟨gz, hgz⟩ : ∃ gz, gz = w2.heap.size := ⟨_, rfl⟩
          rw [← hgz] at H3 ⊢
          clear hB hgz
          refine hK.out _ _ hS3 (fun hHeld => ?_)
          clear hK K
          try simp only [List.getElem_toArray, List.getElem_cons_succ, List.getElem_cons_zero, Act.put, List.setIfInBounds_toArray, List.set_cons_zero, List.set_cons_succ]
          generalize w2.alloc (.cells #[.bool yl, .slice ab' yn cb', .slice a9 yk c9] 31) = w3 at H3 hHeld e3 hS3 ⊢
          refine wpAnyH_ready (rs := [9]) (by kernel_rfl) (by simp) ?_
          refine AllReadyH.cons rfl (fun K hK => ?_) AllReadyH.nil
          refine step_append_it (by rfl) _ _ (by rfl) (base := w.heap.size + 3) (v := .slice av q cv) (A := A) ⟨y, .slice ab' yn cb', .slice a9 yk c9⟩ ⟨_, _, _, rfl⟩ ⟨_, _, _, rfl⟩ (by rfl) H3.out.1.row gz (by rfl) (by rw [← HY.out.1]; exact H3.out.2.1) (by have := HQ.out; omega) (by have := H3.out.1.size; omega) ?_
          intro v' V2 ho hg ha
          obtain ⟨av', cv', rfl⟩ := row_form ho
          have hlv : ∀ b, (Value.slice av q cv).ownBlock = some b → w.heap.size + 3 ≤ b := fun b hb => (H3.out.1.row.lt b hb).1
          have hk : ∀ b, b < w3.heap.size → (b < w.heap.size + 3) → V2.heap[b]? = w3.heap[b]? := fun b h1 h2 => hg.block b h1 (fun e => by have := hlv b e.symm; omega)
          have hs3 := H3.out.1.size
          have hgl : g < w.heap.size := HR2.out
          have hS4 : (fun w' => w'.heap[w.heap.size]? = some (.cells #[.bool l, .slice ab m cb, .slice (some ⟨g, o, none⟩) n ci] 25) ∧ w'.cell? ⟨g, o + j * 3, none⟩ = some (.bool yl) ∧ w'.cell? ⟨g, o + j * 3 + 1, none⟩ = some (.slice ab' yn cb') ∧ w'.cell? ⟨g, o + j * 3 + 2, none⟩ = some (.slice ai' ym ci')) V2 := ⟨(hk _ (by omega) (by omega)).trans hHeld.1, (World.cell?_of_block (a := ⟨g, o + j * 3, none⟩) (hk g (by omega) (by omega))).trans hHeld.2.1, (World.cell?_of_block (a := ⟨g, o + j * 3 + 1, none⟩) (hk g (by omega) (by omega))).trans hHeld.2.2.1, (World.cell?_of_block (a := ⟨g, o + j * 3 + 2, none⟩) (hk g (by omega) (by omega))).trans hHeld.2.2.2⟩
          have hb2 : V2.heap[w.heap.size + 1 + 1]? = some (.cells #[.bool l, .slice ab m cb, .slice av q cv] 31) := (hk _ (by omega) (by omega)).trans H3.out.1.b2
          have x0 : V2.cell? ⟨w.heap.size + 1 + 1, 2, none⟩ = some (.slice av q cv) := (cell_of_block hb2 2).trans rfl
          have xz : V2.frozen? ⟨w.heap.size + 1 + 1, 2, none⟩ = false := unfrozen_of_block hb2 2
          obtain ⟨q', hq'⟩ : ∃ q', q' = A.length + 1 := ⟨_, rfl⟩
          have H4 : Hid (OJ w (V2.setCell ⟨w.heap.size + 1 + 1, 2, none⟩ (.slice av' q' cv')) D l (.slice ab m cb) (.slice (some ⟨g, o, none⟩) n ci) (A ++ [⟨y, .slice ab' yn cb', .slice a9 yk c9⟩]) (.slice av' q' cv') 25) := by rw [hq']; exact H3.out.1.step hg ho ha H3.out.2.2
          rw [← hq']
          clear ho hg ha hlv hk hb2 hq' hs3
          refine hK.out _ _ hS4 (fun hHeld => ?_)
          clear hK K
          try simp only [List.getElem_toArray, List.getElem_cons_succ, List.getElem_cons_zero, Act.put, List.setIfInBounds_toArray, List.set_cons_zero, List.set_cons_succ]
          refine wpAnyH_take (i := 10) (v := .pointer (some ⟨w.heap.size + 1 + 1, 2, none⟩)) rfl (by kernel_rfl) (by kernel_rfl) (by kernel_rfl) (fun _ _ _ h => h) (Or.inl ⟨by rfl, fun w9 hSw => ?_⟩) hHeld ?_
          · go_simp
          simp only [List.getElem_toArray, List.getElem_cons_succ, List.getElem_cons_zero, Act.put, List.setIfInBounds_toArray, List.set_cons_zero, List.set_cons_succ]
          refine wpAnyH_ready (rs := [11]) (by kernel_rfl) (by simp) ?_
          refine AllReadyH.cons rfl (fun K hK => ?_) AllReadyH.nil
          go_simp
          have hS5 : (fun w' => w'.heap[w.heap.size]? = some (.cells #[.bool l, .slice ab m cb, .slice (some ⟨g, o, none⟩) n ci] 25) ∧ w'.cell? ⟨g, o + j * 3, none⟩ = some (.bool yl) ∧ w'.cell? ⟨g, o + j * 3 + 1, none⟩ = some (.slice ab' yn cb') ∧ w'.cell? ⟨g, o + j * 3 + 2, none⟩ = some (.slice ai' ym ci')) (V2.setCell ⟨w.heap.size + 1 + 1, 2, none⟩ (.slice av' q' cv')) := ⟨(Below.heap_setCell _ _ _ _ (by show w.heap.size ≠ w.heap.size + 1 + 1; omega)).trans hHeld.1, (World.cell?_setCell_far _ _ _ _ (by show w.heap.size + 1 + 1 ≠ g; have := HR2.out; omega)).trans hHeld.2.1, (World.cell?_setCell_far _ _ _ _ (by show w.heap.size + 1 + 1 ≠ g; have := HR2.out; omega)).trans hHeld.2.2.1, (World.cell?_setCell_far _ _ _ _ (by show w.heap.size + 1 + 1 ≠ g; have := HR2.out; omega)).trans hHeld.2.2.2⟩
          refine hK.out _ _ hS5 (fun hHeld => ?_)
          clear hK K
          try simp only [List.getElem_toArray, List.getElem_cons_succ, List.getElem_cons_zero, Act.put, List.setIfInBounds_toArray, List.set_cons_zero, List.set_cons_succ]
          refine wpAnyH_done (by kernel_rfl) ?_ _
          simp only [noP]
          go_wp2
          go_roundw
          case rel => exact ⟨j + 1, A ++ [⟨y, .slice ab' yn cb', .slice a9 yk c9⟩], _, by omega, by go_num, H4.out, by rw [List.map_append, HA.out.1, take_snoc HR.out.1]; rfl⟩
          case measure => simp [intOf]; omega
        · have hC := IH.out y (List.mem_of_getElem? HR.out.1) wr.drew (.slice ab' y.b.length cb') (.slice ai' y.xs.length ci') D HR.out.2.2.2.1 HR.out.2.2.2.2
          rw [← HY.out.1, ← HY.out.2.1, ← HY.out.2.2] at hC
          go_simp
          refine Calls.mono hC ?_
          clear hC
          rintro e w2 ⟨hb2, si', rfl, hit2⟩
          have hJ2 := HR.out.2.1.below (W2 := w2) ⟨hb2.os, hb2.tape, hb2.output, hb2.size, hb2.block⟩
          have hS2 : (fun w' => w'.heap[w.heap.size]? = some (.cells #[.bool l, .slice ab m cb, .slice (some ⟨g, o, none⟩) n ci] 25) ∧ w'.cell? ⟨g, o + j * 3, none⟩ = some (.bool yl) ∧ w'.cell? ⟨g, o + j * 3 + 1, none⟩ = some (.slice ab' yn cb') ∧ w'.cell? ⟨g, o + j * 3 + 2, none⟩ = some (.slice ai' ym ci')) w2 := ⟨hJ2.b0, (hb2.cell (cell_lt hHeld.2.1)).trans hHeld.2.1, (hb2.cell (cell_lt hHeld.2.2.1)).trans hHeld.2.2.1, (hb2.cell (cell_lt hHeld.2.2.2)).trans hHeld.2.2.2⟩
          obtain ⟨a9, c9, rfl, -⟩ := hit2.xs.form
          obtain ⟨yk, hyk⟩ : ∃ yk, yk = y.xs.length := ⟨_, rfl⟩
          rw [← hyk] at hit2 ⊢
          have e2 : w2.cell? ⟨w.heap.size + 1 + 1, 2, none⟩ = some (.slice av q cv) := (cell_of_block hJ2.b2 2).trans rfl
          have hvr : ∀ b, (Value.slice av q cv).ownBlock = some b → w.heap.size + 3 ≤ b ∧ b < wr.heap.size := fun b hb => HR.out.2.1.row.lt b hb
          have hit3 : ItV w2 (fun b => (D b ∨ w.heap.size + 3 ≤ b) ∧ b < w2.heap.size ∧ (Value.slice av q cv).ownBlock ≠ some b) (.slice ab' yn cb') (.slice a9 yk c9) y := by
            refine hit2.mono (fun _ _ => rfl) (fun b hb => ⟨?_, hb.1, fun e => ?_⟩)
            · rcases hb.2 with h | h
              · exact Or.inl h
              · exact Or.inr (by have := HR.out.2.1.size; have : wr.drew.heap.size = wr.heap.size := rfl; omega)
            · have h8 := hvr b e
              rcases hb.2 with h | h
              · have := HD.out b h; omega
              · have : wr.drew.heap.size = wr.heap.size := rfl; omega
          have H2 : Hid (OJ w w2 D l (.slice ab m cb) (.slice (some ⟨g, o, none⟩) n ci) A (.slice av q cv) 25 ∧ ItV w2 (fun b => (D b ∨ w.heap.size + 3 ≤ b) ∧ b < w2.heap.size ∧ (Value.slice av q cv).ownBlock ≠ some b) (.slice ab' yn cb') (.slice a9 yk c9) y) := ⟨hJ2, hit3⟩
          clear hb2 hit2 hit3 hJ2 hvr hyk
          refine hK.out _ _ hS2 (fun hHeld => ?_)
          clear hK K
          try simp only [List.getElem_toArray, List.getElem_cons_succ, List.getElem_cons_zero, Act.put, List.setIfInBounds_toArray, List.set_cons_zero, List.set_cons_succ]
          refine wpAnyH_ready (rs := [1, 8]) (by kernel_rfl) (by simp) ?_
          refine AllReadyH.cons rfl (fun K hK => ?_) (AllReadyH.cons rfl (fun K hK => ?_) AllReadyH.nil)
          · go_simp
            refine hK.out _ _ hHeld (fun hHeld => ?_)
            clear hK K
            try simp only [List.getElem_toArray, List.getElem_cons_succ, List.getElem_cons_zero, Act.put, List.setIfInBounds_toArray, List.set_cons_zero, List.set_cons_succ]
            refine wpAnyH_ready (rs := [8]) (by kernel_rfl) (by simp) ?_
            refine AllReadyH.cons rfl (fun K hK => ?_) AllReadyH.nil
            go_simp
            have hB : Below w2.heap.size w2 (w2.alloc (.cells #[.bool yl, .slice ab' yn cb', .slice a9 yk c9] 31)) := by go_grown
            have hS3 : (fun w' => w'.heap[w.heap.size]? = some (.cells #[.bool l, .slice ab m cb, .slice (some ⟨g, o, none⟩) n ci] 25) ∧ w'.cell? ⟨g, o + j * 3, none⟩ = some (.bool yl) ∧ w'.cell? ⟨g, o + j * 3 + 1, none⟩ = some (.slice ab' yn cb') ∧ w'.cell? ⟨g, o + j * 3 + 2, none⟩ = some (.slice ai' ym ci')) (w2.alloc (.cells #[.bool yl, .slice ab' yn cb', .slice a9 yk c9] 31)) := ⟨(hB.block _ (heap_lt hHeld.1)).trans hHeld.1, (hB.cell (cell_lt hHeld.2.1)).trans hHeld.2.1, (hB.cell (cell_lt hHeld.2.2.1)).trans hHeld.2.2.1, (hB.cell (cell_lt hHeld.2.2.2)).trans hHeld.2.2.2⟩
            have e3 : (w2.alloc (.cells #[.bool yl, .slice ab' yn cb', .slice a9 yk c9] 31)).cell? ⟨w.heap.size + 1 + 1, 2, none⟩ = some (.slice av q cv) := (cell_of_block (H2.out.1.below hB).b2 2).trans rfl
            have H3 : Hid (OJ w (w2.alloc (.cells #[.bool yl, .slice ab' yn cb', .slice a9 yk c9] 31)) D l (.slice ab m cb) (.slice (some ⟨g, o, none⟩) n ci) A (.slice av q cv) 25 ∧ (w2.alloc (.cells #[.bool yl, .slice ab' yn cb', .slice a9 yk c9] 31)).heap[w2.heap.size]? = some (.cells #[.bool yl, .slice ab' yn cb', .slice a9 yk c9] 31) ∧ ItV (w2.alloc (.cells #[.bool yl, .slice ab' yn cb', .slice a9 yk c9] 31)) (fun b => (D b ∨ w.heap.size + 3 ≤ b) ∧ b < (w2.alloc (.cells #[.bool yl, .slice ab' yn cb', .slice a9 yk c9] 31)).heap.size ∧ (Value.slice av q cv).ownBlock ≠ some b) (.slice ab' yn cb') (.slice a9 yk c9) y) := ⟨H2.out.1.below hB, heap_alloc_new _ _, H2.out.2.mono (fun b hb => hB.block b hb.2.1) (fun b hb => ⟨hb.1, Nat.lt_of_lt_of_le hb.2.1 hB.size, hb.2.2⟩)⟩
            obtain ⟨gz, hgz⟩ : ∃ gz, gz = w2.heap.size := ⟨_, rfl⟩
            rw [← hgz] at H3 ⊢
            clear hB hgz
            refine hK.out _ _ hS3 (fun hHeld => ?_)
            clear hK K
            try simp only [List.getElem_toArray, List.getElem_cons_succ, List.getElem_cons_zero, Act.put, List.setIfInBounds_toArray, List.set_cons_zero, List.set_cons_succ]
            generalize w2.alloc (.cells #[.bool yl, .slice ab' yn cb', .slice a9 yk c9] 31) = w3 at H3 hHeld e3 hS3 ⊢
            refine wpAnyH_ready (rs := [9]) (by kernel_rfl) (by simp) ?_
            refine AllReadyH.cons rfl (fun K hK => ?_) AllReadyH.nil
            refine step_append_it (by rfl) _ _ (by rfl) (base := w.heap.size + 3) (v := .slice av q cv) (A := A) ⟨y, .slice ab' yn cb', .slice a9 yk c9⟩ ⟨_, _, _, rfl⟩ ⟨_, _, _, rfl⟩ (by rfl) H3.out.1.row gz (by rfl) (by rw [← HY.out.1]; exact H3.out.2.1) (by have := HQ.out; omega) (by have := H3.out.1.size; omega) ?_
            intro v' V2 ho hg ha
            obtain ⟨av', cv', rfl⟩ := row_form ho
            have hlv : ∀ b, (Value.slice av q cv).ownBlock = some b → w.heap.size + 3 ≤ b := fun b hb => (H3.out.1.row.lt b hb).1
            have hk : ∀ b, b < w3.heap.size → (b < w.heap.size + 3) → V2.heap[b]? = w3.heap[b]? := fun b h1 h2 => hg.block b h1 (fun e => by have := hlv b e.symm; omega)
            have hs3 := H3.out.1.size
            have hgl : g < w.heap.size := HR2.out
            have hS4 : (fun w' => w'.heap[w.heap.size]? = some (.cells #[.bool l, .slice ab m cb, .slice (some ⟨g, o, none⟩) n ci] 25) ∧ w'.cell? ⟨g, o + j * 3, none⟩ = some (.bool yl) ∧ w'.cell? ⟨g, o + j * 3 + 1, none⟩ = some (.slice ab' yn cb') ∧ w'.cell? ⟨g, o + j * 3 + 2, none⟩ = some (.slice ai' ym ci')) V2 := ⟨(hk _ (by omega) (by omega)).trans hHeld.1, (World.cell?_of_block (a := ⟨g, o + j * 3, none⟩) (hk g (by omega) (by omega))).trans hHeld.2.1, (World.cell?_of_block (a := ⟨g, o + j * 3 + 1, none⟩) (hk g (by omega) (by omega))).trans hHeld.2.2.1, (World.cell?_of_block (a := ⟨g, o + j * 3 + 2, none⟩) (hk g (by omega) (by omega))).trans hHeld.2.2.2⟩
            have hb2 : V2.heap[w.heap.size + 1 + 1]? = some (.cells #[.bool l, .slice ab m cb, .slice av q cv] 31) := (hk _ (by omega) (by omega)).trans H3.out.1.b2
            have x0 : V2.cell? ⟨w.heap.size + 1 + 1, 2, none⟩ = some (.slice av q cv) := (cell_of_block hb2 2).trans rfl
            have xz : V2.frozen? ⟨w.heap.size + 1 + 1, 2, none⟩ = false := unfrozen_of_block hb2 2
            obtain ⟨q', hq'⟩ : ∃ q', q' = A.length + 1 := ⟨_, rfl⟩
            have H4 : Hid (OJ w (V2.setCell ⟨w.heap.size + 1 + 1, 2, none⟩ (.slice av' q' cv')) D l (.slice ab m cb) (.slice (some ⟨g, o, none⟩) n ci) (A ++ [⟨y, .slice ab' yn cb', .slice a9 yk c9⟩]) (.slice av' q' cv') 25) := by rw [hq']; exact H3.out.1.step hg ho ha H3.out.2.2
            rw [← hq']
            clear ho hg ha hlv hk hb2 hq' hs3
            refine hK.out _ _ hS4 (fun hHeld => ?_)
            clear hK K
            try simp only [List.getElem_toArray, List.getElem_cons_succ, List.getElem_cons_zero, Act.put, List.setIfInBounds_toArray, List.set_cons_zero, List.set_cons_succ]
            refine wpAnyH_take (i := 10) (v := .pointer (some ⟨w.heap.size + 1 + 1, 2, none⟩)) rfl (by kernel_rfl) (by kernel_rfl) (by kernel_rfl) (fun _ _ _ h => h) (Or.inl ⟨by rfl, fun w9 hSw => ?_⟩) hHeld ?_
            · go_simp
            simp only [List.getElem_toArray, List.getElem_cons_succ, List.getElem_cons_zero, Act.put, List.setIfInBounds_toArray, List.set_cons_zero, List.set_cons_succ]
            refine wpAnyH_ready (rs := [11]) (by kernel_rfl) (by simp) ?_
            refine AllReadyH.cons rfl (fun K hK => ?_) AllReadyH.nil
            go_simp
            have hS5 : (fun w' => w'.heap[w.heap.size]? = some (.cells #[.bool l, .slice ab m cb, .slice (some ⟨g, o, none⟩) n ci] 25) ∧ w'.cell? ⟨g, o + j * 3, none⟩ = some (.bool yl) ∧ w'.cell? ⟨g, o + j * 3 + 1, none⟩ = some (.slice ab' yn cb') ∧ w'.cell? ⟨g, o + j * 3 + 2, none⟩ = some (.slice ai' ym ci')) (V2.setCell ⟨w.heap.size + 1 + 1, 2, none⟩ (.slice av' q' cv')) := ⟨(Below.heap_setCell _ _ _ _ (by show w.heap.size ≠ w.heap.size + 1 + 1; omega)).trans hHeld.1, (World.cell?_setCell_far _ _ _ _ (by show w.heap.size + 1 + 1 ≠ g; have := HR2.out; omega)).trans hHeld.2.1, (World.cell?_setCell_far _ _ _ _ (by show w.heap.size + 1 + 1 ≠ g; have := HR2.out; omega)).trans hHeld.2.2.1, (World.cell?_setCell_far _ _ _ _ (by show w.heap.size + 1 + 1 ≠ g; have := HR2.out; omega)).trans hHeld.2.2.2⟩
            refine hK.out _ _ hS5 (fun hHeld => ?_)
            clear hK K
            try simp only [List.getElem_toArray, List.getElem_cons_succ, List.getElem_cons_zero, Act.put, List.setIfInBounds_toArray, List.set_cons_zero, List.set_cons_succ]
            refine wpAnyH_done (by kernel_rfl) ?_ _
            simp only [noP]
            go_wp2
            go_roundw
            case rel => exact ⟨j + 1, A ++ [⟨y, .slice ab' yn cb', .slice a9 yk c9⟩], _, by omega, by go_num, H4.out, by rw [List.map_append, HA.out.1, take_snoc HR.out.1]; rfl⟩
            case measure => simp [intOf]; omega
          · go_simp
            have hB : Below w2.heap.size w2 (w2.alloc (.cells #[.bool yl, .slice ab' yn cb', .slice a9 yk c9] 31)) := by go_grown
            have hS3 : (fun w' => w'.heap[w.heap.size]? = some (.cells #[.bool l, .slice ab m cb, .slice (some ⟨g, o, none⟩) n ci] 25) ∧ w'.cell? ⟨g, o + j * 3, none⟩ = some (.bool yl) ∧ w'.cell? ⟨g, o + j * 3 + 1, none⟩ = some (.slice ab' yn cb') ∧ w'.cell? ⟨g, o + j * 3 + 2, none⟩ = some (.slice ai' ym ci')) (w2.alloc (.cells #[.bool yl, .slice ab' yn cb', .slice a9 yk c9] 31)) := ⟨(hB.block _ (heap_lt hHeld.1)).trans hHeld.1, (hB.cell (cell_lt hHeld.2.1)).trans hHeld.2.1, (hB.cell (cell_lt hHeld.2.2.1)).trans hHeld.2.2.1, (hB.cell (cell_lt hHeld.2.2.2)).trans hHeld.2.2.2⟩
            have e3 : (w2.alloc (.cells #[.bool yl, .slice ab' yn cb', .slice a9 yk c9] 31)).cell? ⟨w.heap.size + 1 + 1, 2, none⟩ = some (.slice av q cv) := (cell_of_block (H2.out.1.below hB).b2 2).trans rfl
            have H3 : Hid (OJ w (w2.alloc (.cells #[.bool yl, .slice ab' yn cb', .slice a9 yk c9] 31)) D l (.slice ab m cb) (.slice (some ⟨g, o, none⟩) n ci) A (.slice av q cv) 25 ∧ (w2.alloc (.cells #[.bool yl, .slice ab' yn cb', .slice a9 yk c9] 31)).heap[w2.heap.size]? = some (.cells #[.bool yl, .slice ab' yn cb', .slice a9 yk c9] 31) ∧ ItV (w2.alloc (.cells #[.bool yl, .slice ab' yn cb', .slice a9 yk c9] 31)) (fun b => (D b ∨ w.heap.size + 3 ≤ b) ∧ b < (w2.alloc (.cells #[.bool yl, .slice ab' yn cb', .slice a9 yk c9] 31)).heap.size ∧ (Value.slice av q cv).ownBlock ≠ some b) (.slice ab' yn cb') (.slice a9 yk c9) y) := ⟨H2.out.1.below hB, heap_alloc_new _ _, H2.out.2.mono (fun b hb => hB.block b hb.2.1) (fun b hb => ⟨hb.1, Nat.lt_of_lt_of_le hb.2.1 hB.size, hb.2.2⟩)⟩
            obtain ⟨gz, hgz⟩ : ∃ gz, gz = w2.heap.size := ⟨_, rfl⟩
            rw [← hgz] at H3 ⊢
            clear hB hgz
            refine hK.out _ _ hS3 (fun hHeld => ?_)
            clear hK K
            try simp only [List.getElem_toArray, List.getElem_cons_succ, List.getElem_cons_zero, Act.put, List.setIfInBounds_toArray, List.set_cons_zero, List.set_cons_succ]
            generalize w2.alloc (.cells #[.bool yl, .slice ab' yn cb', .slice a9 yk c9] 31) = w3 at H3 hHeld e3 hS3 ⊢
            refine wpAnyH_ready (rs := [1]) (by kernel_rfl) (by simp) ?_
            refine AllReadyH.cons rfl (fun K hK => ?_) AllReadyH.nil
            go_simp
            refine hK.out _ _ hHeld (fun hHeld => ?_)
            clear hK K
            try simp only [List.getElem_toArray, List.getElem_cons_succ, List.getElem_cons_zero, Act.put, List.setIfInBounds_toArray, List.set_cons_zero, List.set_cons_succ]
            refine wpAnyH_ready (rs := [9]) (by kernel_rfl) (by simp) ?_
            refine AllReadyH.cons rfl (fun K hK => ?_) AllReadyH.nil
            refine step_append_it (by rfl) _ _ (by rfl) (base := w.heap.size + 3) (v := .slice av q cv) (A := A) ⟨y, .slice ab' yn cb', .slice a9 yk c9⟩ ⟨_, _, _, rfl⟩ ⟨_, _, _, rfl⟩ (by rfl) H3.out.1.row gz (by rfl) (by rw [← HY.out.1]; exact H3.out.2.1) (by have := HQ.out; omega) (by have := H3.out.1.size; omega) ?_
            intro v' V2 ho hg ha
            obtain ⟨av', cv', rfl⟩ := row_form ho
            have hlv : ∀ b, (Value.slice av q cv).ownBlock = some b → w.heap.size + 3 ≤ b := fun b hb => (H3.out.1.row.lt b hb).1
            have hk : ∀ b, b < w3.heap.size → (b < w.heap.size + 3) → V2.heap[b]? = w3.heap[b]? := fun b h1 h2 => hg.block b h1 (fun e => by have := hlv b e.symm; omega)
            have hs3 := H3.out.1.size
            have hgl : g < w.heap.size := HR2.out
            have hS4 : (fun w' => w'.heap[w.heap.size]? = some (.cells #[.bool l, .slice ab m cb, .slice (some ⟨g, o, none⟩) n ci] 25) ∧ w'.cell? ⟨g, o + j * 3, none⟩ = some (.bool yl) ∧ w'.cell? ⟨g, o + j * 3 + 1, none⟩ = some (.slice ab' yn cb') ∧ w'.cell? ⟨g, o + j * 3 + 2, none⟩ = some (.slice ai' ym ci')) V2 := ⟨(hk _ (by omega) (by omega)).trans hHeld.1, (World.cell?_of_block (a := ⟨g, o + j * 3, none⟩) (hk g (by omega) (by omega))).trans hHeld.2.1, (World.cell?_of_block (a := ⟨g, o + j * 3 + 1, none⟩) (hk g (by omega) (by omega))).trans hHeld.2.2.1, (World.cell?_of_block (a := ⟨g, o + j * 3 + 2, none⟩) (hk g (by omega) (by omega))).trans hHeld.2.2.2⟩
            have hb2 : V2.heap[w.heap.size + 1 + 1]? = some (.cells #[.bool l, .slice ab m cb, .slice av q cv] 31) := (hk _ (by omega) (by omega)).trans H3.out.1.b2
            have x0 : V2.cell? ⟨w.heap.size + 1 + 1, 2, none⟩ = some (.slice av q cv) := (cell_of_block hb2 2).trans rfl
            have xz : V2.frozen? ⟨w.heap.size + 1 + 1, 2, none⟩ = false := unfrozen_of_block hb2 2
            obtain ⟨q', hq'⟩ : ∃ q', q' = A.length + 1 := ⟨_, rfl⟩
            have H4 : Hid (OJ w (V2.setCell ⟨w.heap.size + 1 + 1, 2, none⟩ (.slice av' q' cv')) D l (.slice ab m cb) (.slice (some ⟨g, o, none⟩) n ci) (A ++ [⟨y, .slice ab' yn cb', .slice a9 yk c9⟩]) (.slice av' q' cv') 25) := by rw [hq']; exact H3.out.1.step hg ho ha H3.out.2.2
            rw [← hq']
            clear ho hg ha hlv hk hb2 hq' hs3
            refine hK.out _ _ hS4 (fun hHeld => ?_)
            clear hK K
            try simp only [List.getElem_toArray, List.getElem_cons_succ, List.getElem_cons_zero, Act.put, List.setIfInBounds_toArray, List.set_cons_zero, List.set_cons_succ]
            refine wpAnyH_take (i := 10) (v := .pointer (some ⟨w.heap.size + 1 + 1, 2, none⟩)) rfl (by kernel_rfl) (by kernel_rfl) (by kernel_rfl) (fun _ _ _ h => h) (Or.inl ⟨by rfl, fun w9 hSw => ?_⟩) hHeld ?_
            · go_simp
            simp only [List.getElem_toArray, List.getElem_cons_succ, List.getElem_cons_zero, Act.put, List.setIfInBounds_toArray, List.set_cons_zero, List.set_cons_succ]
            refine wpAnyH_ready (rs := [11]) (by kernel_rfl) (by simp) ?_
            refine AllReadyH.cons rfl (fun K hK => ?_) AllReadyH.nil
            go_simp
            have hS5 : (fun w' => w'.heap[w.heap.size]? = some (.cells #[.bool l, .slice ab m cb, .slice (some ⟨g, o, none⟩) n ci] 25) ∧ w'.cell? ⟨g, o + j * 3, none⟩ = some (.bool yl) ∧ w'.cell? ⟨g, o + j * 3 + 1, none⟩ = some (.slice ab' yn cb') ∧ w'.cell? ⟨g, o + j * 3 + 2, none⟩ = some (.slice ai' ym ci')) (V2.setCell ⟨w.heap.size + 1 + 1, 2, none⟩ (.slice av' q' cv')) := ⟨(Below.heap_setCell _ _ _ _ (by show w.heap.size ≠ w.heap.size + 1 + 1; omega)).trans hHeld.1, (World.cell?_setCell_far _ _ _ _ (by show w.heap.size + 1 + 1 ≠ g; have := HR2.out; omega)).trans hHeld.2.1, (World.cell?_setCell_far _ _ _ _ (by show w.heap.size + 1 + 1 ≠ g; have := HR2.out; omega)).trans hHeld.2.2.1, (World.cell?_setCell_far _ _ _ _ (by show w.heap.size + 1 + 1 ≠ g; have := HR2.out; omega)).trans hHeld.2.2.2⟩
            refine hK.out _ _ hS5 (fun hHeld => ?_)
            clear hK K
            try simp only [List.getElem_toArray, List.getElem_cons_succ, List.getElem_cons_zero, Act.put, List.setIfInBounds_toArray, List.set_cons_zero, List.set_cons_succ]
            refine wpAnyH_done (by kernel_rfl) ?_ _
            simp only [noP]
            go_wp2
            go_roundw
            case rel => exact ⟨j + 1, A ++ [⟨y, .slice ab' yn cb', .slice a9 yk c9⟩], _, by omega, by go_num, H4.out, by rw [List.map_append, HA.out.1, take_snoc HR.out.1]; rfl⟩
            case measure => simp [intOf]; omega
      · have hAx : A.map IC.x = xs := by rw [hA, List.take_of_length_le (by have := HN.out.1; omega)]
        obtain ⟨q, hq⟩ : ∃ q, q = A.length := ⟨_, rfl⟩
        have hJ' : OJ w wr D l (.slice ab m cb) (.slice ai n ci) A (.slice av q cv) 25 := by rw [hq]; exact hJ
        have HF : Hid (A.map IC.x = xs ∧ OJ w wr D l (.slice ab m cb) (.slice ai n ci) A (.slice av q cv) 25 ∧ A.length * 56 ≤ 140737488355328) := ⟨hAx, hJ', by omega⟩
        have hki : ¬ (j : Int) < n := by omega
        have e1 : wr.cell? ⟨w.heap.size + 1 + 1, 0, none⟩ = some (.bool l) := (cell_of_block hJ'.b2 0).trans rfl
        have e2 : wr.cell? ⟨w.heap.size + 1 + 1, 1, none⟩ = some (.slice ab m cb) := (cell_of_block hJ'.b2 1).trans rfl
        have e3 : wr.cell? ⟨w.heap.size + 1 + 1, 2, none⟩ = some (.slice av q cv) := (cell_of_block hJ'.b2 2).trans rfl
        have a0 : wr.cell? ⟨w.heap.size + 1, 0, none⟩ = some (.bool false) := (cell_of_block hJ'.b1 0).trans rfl
        have a1 : wr.cell? ⟨w.heap.size + 1, 1, none⟩ = some (.slice none 0 0) := (cell_of_block hJ'.b1 1).trans rfl
        have a2 : wr.cell? ⟨w.heap.size + 1, 2, none⟩ = some (.slice none 0 0) := (cell_of_block hJ'.b1 2).trans rfl
        have az := fun k => unfrozen_of_block hJ'.b1 k
        clear hJ hJ' hA hAl hAx hq H0
        go_wp2
        have hl := load31 (set31 HF.out.2.1.b1 (x' := .bool l) (y' := .slice ab m cb) (z' := .slice av q cv))
        have hoth := fun k h => set31_other wr (w.heap.size + 1) k (.bool l) (.slice ab m cb) (.slice av q cv) h
        have hbw := set31_below HF.out.2.1.bl (by omega : w.heap.size ≤ w.heap.size + 1) (.bool l) (.slice ab m cb) (.slice av q cv)
        have hsz := set31_size wr (w.heap.size + 1) (.bool l) (.slice ab m cb) (.slice av q cv)
        generalize ((wr.setCell ⟨w.heap.size + 1, 0, none⟩ (.bool l)).setCell ⟨w.heap.size + 1, 1, none⟩ (.slice ab m cb)).setCell ⟨w.heap.size + 1, 2, none⟩ (.slice av q cv) = w4 at *
        refine ⟨rfl, .agg #[.bool l, .slice ab m cb, .slice av q cv], by simp [results, Try.results9, asAddr, hl], hbw, _, rfl, HI.out.b.mono (fun b hb => hbw.block b (HD.out b hb)) (fun b hb => ⟨Nat.lt_of_lt_of_le (HD.out b hb) hbw.size, Or.inl hb⟩), ?_⟩
        have hD3 : ∀ b, (D b ∨ w.heap.size + 3 ≤ b) → b ≠ w.heap.size + 1 := fun b hb => by rcases hb with h | h; (have := HD.out b h; omega); omega
        have hrow4 : w4.ownsRow (w.heap.size + 3) 31 3 (.slice av q cv) A.length (icL A) := ownsRow_heap HF.out.2.1.row (fun b hb => hoth b (by have := (HF.out.2.1.row.lt b hb).1; omega))
        have := row_its (D := fun b => b < w4.heap.size ∧ (D b ∨ w.heap.size ≤ b)) hrow4 (fun f hf => (HF.out.2.1.it f hf).mono (fun b hb => hoth b (hD3 b hb.1)) (fun b hb => ⟨by rw [hsz]; exact hb.2.1, by rcases hb.1 with h | h; (exact Or.inl h); (exact Or.inr (by omega))⟩)) (fun b hb => ⟨(hrow4.lt b hb).2, Or.inr (by have := (hrow4.lt b hb).1; omega)⟩) HF.out.2.2
        rw [HF.out.1] at this
        exact this
end Go.Proofs.Ytmnlcpfehbpogaa
