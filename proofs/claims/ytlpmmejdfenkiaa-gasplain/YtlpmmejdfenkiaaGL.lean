/- GasBack's walk. -/
import Derived.Test.YtlpmmejdfenkiaaGK
import Derived.Deep.DeepCutAuto
import Derived.Deep.AppendLies
import Derived.Deep.RegionHeld3
namespace Go.Proofs.Ytlpmmejdfenkiaa
open Go.RowKit
set_option linter.unusedSimpArgs false
set_option linter.unusedVariables false
theorem info30d (a0 a1 a2 a3 : Int) : (Try.prog.info? 30).map (·.size) = some (#[Value.int .u64 a0, .int .u64 a1, .int .u64 a2, .int .u64 a3] : Array Value).size := by kernel_rfl
theorem one4 (a0 a1 a2 a3 : Int) : (#[Value.int .u64 a0, .int .u64 a1, .int .u64 a2, .int .u64 a3] : Array Value).all (·.oneCell') = true := by simp [Value.oneCell']
theorem run_load_exec {P : Program} {a : Act} {o : Oper} {w : World} {v : Value} (ty : TypeId) (x : Operand) (ho : o.op = .load ty x) (g : Addr) (hx : a.eval x = .pointer (some g)) (h : (loadVar ty g).run P w = .ok v w) : (execOp a.eval o).run P w = .ok (.value v) w := by
  unfold execOp
  simp only [ho, hx, Instr.loadAt, Instr.sureAddr, Sem.run_bind, Sem.run_pure, Result.andThen_ok, h]
theorem hp_lt {w : World} {b : Nat} {o : Obj} (h : w.heap[b]? = some o) : b < w.heap.size := (Array.getElem?_eq_some_iff.1 h).1
theorem add_block (a : Addr) (k : Nat) : (a.add k).block = a.block := by unfold Addr.add; split <;> rfl
theorem cell_blk {w : World} {g j : Nat} {cs : Array Value} {t : TypeId} {fr : Nat × Nat} (h : w.heap[g]? = some (.cells cs t fr)) : w.cell? ⟨g, j, none⟩ = cs[j]? := by simp [World.cell?, h]
theorem row_form {w : World} {base size n : Nat} {e : TypeId} {v : Value} {xs : List Value} (h : w.ownsRow base e size v n xs) : ∃ a cap, v = .slice a n cap := by
  rcases h.2 with ⟨rfl, rfl⟩ | ⟨g, cap, cur, rfl, _⟩
  · exact ⟨_, _, rfl⟩
  · exact ⟨_, _, rfl⟩
/-- The words that are handed in. -/
def WordsV (w : World) (sa : Option Addr) (n c : Nat) (ws : List Wq) : Prop := (sa = none → n = 0 ∧ c = 0) ∧ ∀ ad, sa = some ad → ∀ j u, (wL ws)[j]? = some u → ad.block < w.heap.size ∧ w.cell? (ad.add j) = some u
/-- Memory ahead of the loop: the first value, the value now. -/
structure BJ (w W : World) (f0 f1 f2 f3 : Int) : Prop where
  b0 : W.heap[w.heap.size]? = some (.cells #[.int .u64 f0, .int .u64 f1, .int .u64 f2, .int .u64 f3] 30 (0, 0))
  b1 : W.heap[w.heap.size + 1]? = some (.cells #[.int .u64 f0, .int .u64 f1, .int .u64 f2, .int .u64 f3] 30 (0, 0))
  bl : Below w.heap.size w W
  sz : w.heap.size + 2 ≤ W.heap.size
theorem hp_lt' {w w' : World} {g : Nat} (h : w'.heap[g]? = w.heap[g]?) (hl : g < w.heap.size) : g < w'.heap.size := by
  rcases Nat.lt_or_ge g w'.heap.size with h1 | h1
  · exact h1
  · rw [Array.getElem?_eq_none h1, Array.getElem?_eq_getElem hl] at h; cases h
/-- Memory within the loop. -/
def LJ (w wx wr : World) (g : Nat) (f0 f1 f2 f3 : Int) (x : Wq) : Prop := wr.heap[w.heap.size]? = some (.cells #[.int .u64 f0, .int .u64 f1, .int .u64 f2, .int .u64 f3] 30 (0, 0)) ∧ wr.heap[w.heap.size + 1]? = some (.cells #[.int .u64 x.x0, .int .u64 x.x1, .int .u64 x.x2, .int .u64 x.x3] 30 (0, 0)) ∧ wr.heap[g]? = wx.heap[g]? ∧ Below w.heap.size w wr ∧ w.heap.size + 1 < g ∧ g < wx.heap.size
theorem keepL {b g k : Nat} {f0 f1 f2 f3 n0 n1 n2 n3 x0 x1 x2 x3 : Int} {W w1 : World} (h : b + 1 < W.heap.size ∧ g < W.heap.size ∧ W.cell? ⟨b, 0, none⟩ = some (.int .u64 f0) ∧ W.cell? ⟨b, 1, none⟩ = some (.int .u64 f1) ∧ W.cell? ⟨b, 2, none⟩ = some (.int .u64 f2) ∧ W.cell? ⟨b, 3, none⟩ = some (.int .u64 f3) ∧ W.cell? ⟨b + 1, 0, none⟩ = some (.int .u64 n0) ∧ W.cell? ⟨b + 1, 1, none⟩ = some (.int .u64 n1) ∧ W.cell? ⟨b + 1, 2, none⟩ = some (.int .u64 n2) ∧ W.cell? ⟨b + 1, 3, none⟩ = some (.int .u64 n3) ∧ W.cell? ⟨g, k * 4, none⟩ = some (.int .u64 x0) ∧ W.cell? ⟨g, k * 4 + 1, none⟩ = some (.int .u64 x1) ∧ W.cell? ⟨g, k * 4 + 2, none⟩ = some (.int .u64 x2) ∧ W.cell? ⟨g, k * 4 + 3, none⟩ = some (.int .u64 x3)) (hb : Below W.heap.size W w1) : b + 1 < w1.heap.size ∧ g < w1.heap.size ∧ w1.cell? ⟨b, 0, none⟩ = some (.int .u64 f0) ∧ w1.cell? ⟨b, 1, none⟩ = some (.int .u64 f1) ∧ w1.cell? ⟨b, 2, none⟩ = some (.int .u64 f2) ∧ w1.cell? ⟨b, 3, none⟩ = some (.int .u64 f3) ∧ w1.cell? ⟨b + 1, 0, none⟩ = some (.int .u64 n0) ∧ w1.cell? ⟨b + 1, 1, none⟩ = some (.int .u64 n1) ∧ w1.cell? ⟨b + 1, 2, none⟩ = some (.int .u64 n2) ∧ w1.cell? ⟨b + 1, 3, none⟩ = some (.int .u64 n3) ∧ w1.cell? ⟨g, k * 4, none⟩ = some (.int .u64 x0) ∧ w1.cell? ⟨g, k * 4 + 1, none⟩ = some (.int .u64 x1) ∧ w1.cell? ⟨g, k * 4 + 2, none⟩ = some (.int .u64 x2) ∧ w1.cell? ⟨g, k * 4 + 3, none⟩ = some (.int .u64 x3) := by
  obtain ⟨hz, hg, c00, c01, c02, c03, c10, c11, c12, c13, c20, c21, c22, c23⟩ := h
  exact ⟨Nat.lt_of_lt_of_le hz hb.size, Nat.lt_of_lt_of_le hg hb.size, cells_below hb _ _ _ (by omega) c00, cells_below hb _ _ _ (by omega) c01, cells_below hb _ _ _ (by omega) c02, cells_below hb _ _ _ (by omega) c03, cells_below hb _ _ _ (by omega) c10, cells_below hb _ _ _ (by omega) c11, cells_below hb _ _ _ (by omega) c12, cells_below hb _ _ _ (by omega) c13, cells_below hb _ _ _ (by omega) c20, cells_below hb _ _ _ (by omega) c21, cells_below hb _ _ _ (by omega) c22, cells_below hb _ _ _ (by omega) c23⟩
theorem LJ.more {w wx wr w1 : World} {g : Nat} {f0 f1 f2 f3 : Int} {x : Wq} (h : LJ w wx wr g f0 f1 f2 f3 x) (hb : Below wr.heap.size wr w1) : LJ w wx w1 g f0 f1 f2 f3 x :=
  ⟨(hb.block _ (hp_lt h.1)).trans h.1, (hb.block _ (hp_lt h.2.1)).trans h.2.1, (hb.block _ (hp_lt' h.2.2.1 h.2.2.2.2.2)).trans h.2.2.1, h.2.2.2.1.trans (hb.mono h.2.2.2.1.size), h.2.2.2.2⟩
theorem LJ.put {w wx wr : World} {g : Nat} {f0 f1 f2 f3 : Int} {x : Wq} (h : LJ w wx wr g f0 f1 f2 f3 x) (y : Wq) : LJ w wx (wr.setRow (w.heap.size + 1) #[.int .u64 y.x0, .int .u64 y.x1, .int .u64 y.x2, .int .u64 y.x3]) g f0 f1 f2 f3 y :=
  ⟨(setRow_other _ _ _ _ (by omega)).trans h.1, setRow_heap _ _ _ _ _ _ h.2.1, (setRow_other _ _ _ _ (by have := h.2.2.2.2.1; omega)).trans h.2.2.1, ⟨h.2.2.2.1.os, h.2.2.2.1.tape, h.2.2.2.1.output, by simp; exact h.2.2.2.1.size, fun i hi => (setRow_other _ _ _ _ (by omega)).trans (h.2.2.2.1.block i hi)⟩, h.2.2.2.2⟩
theorem BJ.drew {w W : World} {f0 f1 f2 f3 : Int} (h : BJ w W f0 f1 f2 f3) : BJ w W.drew f0 f1 f2 f3 := ⟨h.b0, h.b1, Below.drew h.bl, h.sz⟩
theorem BJ.next {w W W' : World} {f0 f1 f2 f3 : Int} {r : Option Nat} (h : BJ w W f0 f1 f2 f3) (g : W.grownBy W' r) (hr : ∀ b, r = some b → w.heap.size + 2 ≤ b) : BJ w W' f0 f1 f2 f3 :=
  ⟨(g.block _ (hp_lt h.b0) (fun e => by have := hr _ e.symm; omega)).trans h.b0, (g.block _ (hp_lt h.b1) (fun e => by have := hr _ e.symm; omega)).trans h.b1, h.bl.grown g (by have := h.sz; omega) (fun b hb => by have := hr b hb; omega), Nat.le_trans h.sz g.size⟩
theorem BJ.alloc {w W : World} {f0 f1 f2 f3 : Int} (h : BJ w W f0 f1 f2 f3) (o : Obj) : BJ w (W.alloc o) f0 f1 f2 f3 := h.next (World.grownBy_alloc W o none) (fun b hb => by cases hb)
set_option maxRecDepth 100000 in
set_option maxHeartbeats 8000000 in
theorem back_any (f0 f1 f2 f3 : Int) (sa : Option Addr) (n cap : Nat) (ws : List Wq) (hf : L4 f0 f1 f2 f3) (hl : ws.length = n) (w : World) (hd : WordsV w sa n cap ws) (hok : ∀ x ∈ ws, x.ok) :
    Calls Try.prog 7 #[W4 f0 f1 f2 f3, .slice sa n cap] w fun e w' => e = .returned (.bool true) ∧ Below w.heap.size w w' := by
  have HL : Hid (ws.length = n) := hl
  have HD : Hid (WordsV w sa n cap ws) := hd
  have HF : Hid (L4 f0 f1 f2 f3) := hf
  have HO : Hid (∀ x ∈ ws, x.ok) := hok
  clear hl hd hf hok
  unfold W4
  by_cases hn : 1000 < n
  · have hni : (1000 : Int) < n := by omega
    go_enter Try.func7, Try.ntmps7
    go_wp2_with fail
    refine (alive_any _).mono ?_
    rintro e w' ⟨rfl, hw⟩
    go_wp2
    go_returns
    exact ⟨rfl, Below.trans (by go_grown) (hw.mono (by simp))⟩
  · have hni : (n : Int) ≤ 1000 := by omega
    go_enter Try.func7, Try.ntmps7
    go_wp2_with fail
    have HJ : Hid (BJ w ((w.alloc (.cells #[.int .u64 f0, .int .u64 f1, .int .u64 f2, .int .u64 f3] 30)).alloc (.cells #[.int .u64 f0, .int .u64 f1, .int .u64 f2, .int .u64 f3] 30)) f0 f1 f2 f3) := ⟨(Below.heap_alloc _ _ _ (by simp)).trans (heap_alloc_new _ _), by have := heap_alloc_new (w.alloc (.cells #[.int .u64 f0, .int .u64 f1, .int .u64 f2, .int .u64 f3] 30)) (.cells #[.int .u64 f0, .int .u64 f1, .int .u64 f2, .int .u64 f3] 30); simpa using this, by go_grown, by simp⟩
    generalize (w.alloc (.cells #[.int .u64 f0, .int .u64 f1, .int .u64 f2, .int .u64 f3] 30)).alloc (.cells #[.int .u64 f0, .int .u64 f1, .int .u64 f2, .int .u64 f3] 30) = W at HJ ⊢
    go_cut [8] (fun s8 wx => ∃ a5 c5, s8 = .slice a5 (n + 1) c5 ∧ BJ w wx f0 f1 f2 f3 ∧ wx.ownsRow (w.heap.size + 2) 30 4 (.slice a5 (n + 1) c5) (n + 1) (wL (ws ++ [⟨f0, f1, f2, f3⟩])))
    case first =>
      refine wp_region_held_drew (S := fun w' => w'.heap[w.heap.size]? = some (.cells #[.int .u64 f0, .int .u64 f1, .int .u64 f2, .int .u64 f3] 30 (0, 0))) (by kernel_rfl) HJ.out.b0 (fun hHeld => ?_)
      have HJ2 : Hid (BJ w W.drew f0 f1 f2 f3) := HJ.out.drew
      clear HJ
      generalize W.drew = W0 at HJ2 hHeld ⊢
      have HJ := HJ2
      clear HJ2
      refine wpAnyH_take (i := 1) (v := .slice sa n cap) rfl (by kernel_rfl) (by kernel_rfl) (by kernel_rfl) (fun _ _ _ h => h) (Or.inl ⟨by rfl, fun w9 hSw => ?_⟩) hHeld ?_
      · go_simp
      simp only [List.getElem_toArray, List.getElem_cons_succ, List.getElem_cons_zero, Act.put, List.setIfInBounds_toArray, List.set_cons_zero, List.set_cons_succ]
      refine wpAnyH_take (i := 3) (v := .agg #[.int .u64 f0, .int .u64 f1, .int .u64 f2, .int .u64 f3]) rfl (by kernel_rfl) (by kernel_rfl) (by kernel_rfl) (fun _ _ _ h => h) (Or.inl ⟨by rfl, fun w9 hSw => ?_⟩) hHeld ?_
      · exact run_load_exec 30 _ rfl _ rfl (run_loadVar_row w9 _ 30 30 _ (0, 0) _ hSw Try.underlying30 rfl (info30d _ _ _ _))
      simp only [List.getElem_toArray, List.getElem_cons_succ, List.getElem_cons_zero, Act.put, List.setIfInBounds_toArray, List.set_cons_zero, List.set_cons_succ]
      refine wpAnyH_ready (rs := [0, 4]) (by kernel_rfl) (by simp) ?_
      refine AllReadyH.cons rfl (fun K hK => ?_) (AllReadyH.cons rfl (fun K hK => ?_) AllReadyH.nil)
      · go_simp
        have HJ2 : Hid (BJ w (W0.alloc (.cells #[] 30)) f0 f1 f2 f3) := HJ.out.alloc _
        have HR2 : Hid ((W0.alloc (.cells #[] 30)).ownsRow (w.heap.size + 2) 30 4 (.slice (some ⟨W0.heap.size, 0, none⟩) 0 0) 0 (wL [])) := World.ownsRow_made W0 #[] 0 HJ.out.sz (by decide) rfl
        generalize hz0 : W0.heap.size = z0 at *
        clear hz0
        refine hK.out _ _ HJ2.out.b0 (fun hHeld => ?_)
        clear hK K HJ
        try simp only [List.getElem_toArray, List.getElem_cons_succ, List.getElem_cons_zero, Act.put, List.setIfInBounds_toArray, List.set_cons_zero, List.set_cons_succ]
        generalize W0.alloc (.cells #[] 30) = V1 at HJ2 HR2 hHeld ⊢
        have HJ := HJ2
        have HR := HR2
        clear HJ2 HR2
        refine wpAnyH_ready (rs := [2, 4]) (by kernel_rfl) (by simp) ?_
        refine AllReadyH.cons rfl (fun K hK => ?_) (AllReadyH.cons rfl (fun K hK => ?_) AllReadyH.nil)
        · refine step_append_ws (by rfl) _ _ (by rfl) (base := w.heap.size + 2) (v := .slice (some ⟨z0, 0, none⟩) 0 0) (n := 0) (xs := wL []) (by rfl) HR.out (sa := sa) (m := n) (c := cap) (by rfl) ws HL.out HD.out.1 (fun ad e j u hu => (HJ.out.bl.cell (p := ad.add j) (by rw [add_block]; exact (HD.out.2 ad e j u hu).1)).trans (HD.out.2 ad e j u hu).2) (by omega) HJ.out.sz ?_
          intro v' V2 ho hg ha
          rw [Nat.zero_add] at ho
          obtain ⟨a2, c2, rfl⟩ := row_form ho
          have HJ2 : Hid (BJ w V2 f0 f1 f2 f3) := HJ.out.next hg (fun b hb => (World.ownsRow.lt HR.out b hb).1)
          have HR2 : Hid (V2.ownsRow (w.heap.size + 2) 30 4 (.slice a2 n c2) n (wL ws)) := ho
          clear ho hg ha HJ HR
          refine hK.out _ _ HJ2.out.b0 (fun hHeld => ?_)
          clear hK K
          try simp only [List.getElem_toArray, List.getElem_cons_succ, List.getElem_cons_zero, Act.put, List.setIfInBounds_toArray, List.set_cons_zero, List.set_cons_succ]
          have HJ := HJ2
          have HR := HR2
          clear HJ2 HR2
          refine wpAnyH_ready (rs := [4]) (by kernel_rfl) (by simp) ?_
          refine AllReadyH.cons rfl (fun K hK => ?_) AllReadyH.nil
          go_simp
          have HJ2 : Hid (BJ w (V2.alloc (.cells #[.int .u64 f0, .int .u64 f1, .int .u64 f2, .int .u64 f3] 30)) f0 f1 f2 f3) := HJ.out.alloc _
          have HR2 : Hid ((V2.alloc (.cells #[.int .u64 f0, .int .u64 f1, .int .u64 f2, .int .u64 f3] 30)).ownsRow (w.heap.size + 2) 30 4 (.slice a2 n c2) n (wL ws)) := World.ownsRow.alloc HR.out _
          have HZ2 : Hid ((V2.alloc (.cells #[.int .u64 f0, .int .u64 f1, .int .u64 f2, .int .u64 f3] 30)).heap[V2.heap.size]? = some (.cells #[.int .u64 f0, .int .u64 f1, .int .u64 f2, .int .u64 f3] 30 (0, 0)) ∧ w.heap.size + 2 ≤ V2.heap.size ∧ ∀ b, (Value.slice a2 n c2).ownBlock = some b → b ≠ V2.heap.size) := ⟨heap_alloc_new _ _, HJ.out.sz, fun b hb e => by have := (World.ownsRow.lt HR.out b hb).2; omega⟩
          generalize hz4 : V2.heap.size = z4 at *
          clear hz4
          refine hK.out _ _ HJ2.out.b0 (fun hHeld => ?_)
          clear hK K HJ HR
          try simp only [List.getElem_toArray, List.getElem_cons_succ, List.getElem_cons_zero, Act.put, List.setIfInBounds_toArray, List.set_cons_zero, List.set_cons_succ]
          generalize V2.alloc (.cells #[.int .u64 f0, .int .u64 f1, .int .u64 f2, .int .u64 f3] 30) = V3 at HJ2 HR2 HZ2 hHeld ⊢
          have HJ := HJ2
          have HR := HR2
          have HZ := HZ2
          clear HJ2 HR2 HZ2
          refine wpAnyH_ready (rs := [5]) (by kernel_rfl) (by simp) ?_
          refine AllReadyH.cons rfl (fun K hK => ?_) AllReadyH.nil
          refine step_append_ws (by rfl) _ _ (by rfl) (base := w.heap.size + 2) (v := .slice a2 n c2) (n := n) (xs := wL ws) (by rfl) HR.out (sa := some ⟨z4, 0, none⟩) (m := 1) (c := 1) (by rfl) [⟨f0, f1, f2, f3⟩] rfl (fun e => by cases e) (fun ad e j u hu => by
            injection e with e
            subst e
            rw [Addr.add_lit, Nat.zero_add, cell_blk HZ.out.1]
            simpa [wL, wC] using hu) (by omega) HJ.out.sz ?_
          intro v' V4 ho hg ha
          obtain ⟨a5, c5, rfl⟩ := row_form ho
          have HJ2 : Hid (BJ w V4 f0 f1 f2 f3) := HJ.out.next hg (fun b hb => (World.ownsRow.lt HR.out b hb).1)
          have HR2 : Hid (V4.ownsRow (w.heap.size + 2) 30 4 (.slice a5 (n + 1) c5) (n + 1) (wL (ws ++ [⟨f0, f1, f2, f3⟩]))) := by rw [wL_append]; exact ho
          clear ho hg ha HJ HR HZ
          refine hK.out _ _ HJ2.out.b0 (fun hHeld => ?_)
          clear hK K
          try simp only [List.getElem_toArray, List.getElem_cons_succ, List.getElem_cons_zero, Act.put, List.setIfInBounds_toArray, List.set_cons_zero, List.set_cons_succ]
          have HJ := HJ2
          have HR := HR2
          clear HJ2 HR2
          refine wpAnyH_take (i := 6) (v := .slice a5 (n + 1) c5) rfl (by kernel_rfl) (by kernel_rfl) (by kernel_rfl) (fun _ _ _ h => h) (Or.inl ⟨by rfl, fun w9 hSw => ?_⟩) hHeld ?_
          · go_simp
          simp only [List.getElem_toArray, List.getElem_cons_succ, List.getElem_cons_zero, Act.put, List.setIfInBounds_toArray, List.set_cons_zero, List.set_cons_succ]
          refine wpAnyH_done (by kernel_rfl) ?_ _
          clear hHeld
          go_wp2_with fail
          go_meet
          exact ⟨a5, c5, rfl, HJ.out, HR.out⟩
        · go_simp
          have HJ2 : Hid (BJ w (V1.alloc (.cells #[.int .u64 f0, .int .u64 f1, .int .u64 f2, .int .u64 f3] 30)) f0 f1 f2 f3) := HJ.out.alloc _
          have HR2 : Hid ((V1.alloc (.cells #[.int .u64 f0, .int .u64 f1, .int .u64 f2, .int .u64 f3] 30)).ownsRow (w.heap.size + 2) 30 4 (.slice (some ⟨z0, 0, none⟩) 0 0) 0 (wL [])) := World.ownsRow.alloc HR.out _
          have HZ2 : Hid ((V1.alloc (.cells #[.int .u64 f0, .int .u64 f1, .int .u64 f2, .int .u64 f3] 30)).heap[V1.heap.size]? = some (.cells #[.int .u64 f0, .int .u64 f1, .int .u64 f2, .int .u64 f3] 30 (0, 0)) ∧ w.heap.size + 2 ≤ V1.heap.size ∧ z0 ≠ V1.heap.size) := ⟨heap_alloc_new _ _, HJ.out.sz, fun e => by have := (World.ownsRow.lt HR.out z0 rfl).2; omega⟩
          generalize hz4 : V1.heap.size = z4 at *
          clear hz4
          refine hK.out _ _ HJ2.out.b0 (fun hHeld => ?_)
          clear hK K HJ HR
          try simp only [List.getElem_toArray, List.getElem_cons_succ, List.getElem_cons_zero, Act.put, List.setIfInBounds_toArray, List.set_cons_zero, List.set_cons_succ]
          generalize V1.alloc (.cells #[.int .u64 f0, .int .u64 f1, .int .u64 f2, .int .u64 f3] 30) = V5 at HJ2 HR2 HZ2 hHeld ⊢
          have HJ := HJ2
          have HR := HR2
          have HZ := HZ2
          clear HJ2 HR2 HZ2
          refine wpAnyH_ready (rs := [2]) (by kernel_rfl) (by simp) ?_
          refine AllReadyH.cons rfl (fun K hK => ?_) AllReadyH.nil
          refine step_append_ws (by rfl) _ _ (by rfl) (base := w.heap.size + 2) (v := .slice (some ⟨z0, 0, none⟩) 0 0) (n := 0) (xs := wL []) (by rfl) HR.out (sa := sa) (m := n) (c := cap) (by rfl) ws HL.out HD.out.1 (fun ad e j u hu => (HJ.out.bl.cell (p := ad.add j) (by rw [add_block]; exact (HD.out.2 ad e j u hu).1)).trans (HD.out.2 ad e j u hu).2) (by omega) HJ.out.sz ?_
          intro v' V6 ho hg ha
          rw [Nat.zero_add] at ho
          obtain ⟨a2, c2, rfl⟩ := row_form ho
          have HJ2 : Hid (BJ w V6 f0 f1 f2 f3) := HJ.out.next hg (fun b hb => (World.ownsRow.lt HR.out b hb).1)
          have HR2 : Hid (V6.ownsRow (w.heap.size + 2) 30 4 (.slice a2 n c2) n (wL ws)) := ho
          have HZ2 : Hid (V6.heap[z4]? = some (.cells #[.int .u64 f0, .int .u64 f1, .int .u64 f2, .int .u64 f3] 30 (0, 0)) ∧ w.heap.size + 2 ≤ z4 ∧ ∀ b, (Value.slice a2 n c2).ownBlock = some b → b ≠ z4) := ⟨(hg.block z4 (hp_lt HZ.out.1) (fun e => HZ.out.2.2 (by simpa [Value.ownBlock] using e.symm))).trans HZ.out.1, HZ.out.2.1, fun b hb e => by
            rcases ha with h9 | h9
            · rw [hb] at h9; exact HZ.out.2.2 (by simpa [Value.ownBlock, e] using h9.symm)
            · rw [hb] at h9; have := hp_lt HZ.out.1; injection h9 with h9; omega⟩
          clear ho hg ha HJ HR HZ
          refine hK.out _ _ HJ2.out.b0 (fun hHeld => ?_)
          clear hK K
          try simp only [List.getElem_toArray, List.getElem_cons_succ, List.getElem_cons_zero, Act.put, List.setIfInBounds_toArray, List.set_cons_zero, List.set_cons_succ]
          have HJ := HJ2
          have HR := HR2
          have HZ := HZ2
          clear HJ2 HR2 HZ2
          refine wpAnyH_ready (rs := [5]) (by kernel_rfl) (by simp) ?_
          refine AllReadyH.cons rfl (fun K hK => ?_) AllReadyH.nil
          refine step_append_ws (by rfl) _ _ (by rfl) (base := w.heap.size + 2) (v := .slice a2 n c2) (n := n) (xs := wL ws) (by rfl) HR.out (sa := some ⟨z4, 0, none⟩) (m := 1) (c := 1) (by rfl) [⟨f0, f1, f2, f3⟩] rfl (fun e => by cases e) (fun ad e j u hu => by
            injection e with e
            subst e
            rw [Addr.add_lit, Nat.zero_add, cell_blk HZ.out.1]
            simpa [wL, wC] using hu) (by omega) HJ.out.sz ?_
          intro v' V7 ho hg ha
          obtain ⟨a5, c5, rfl⟩ := row_form ho
          have HJ2 : Hid (BJ w V7 f0 f1 f2 f3) := HJ.out.next hg (fun b hb => (World.ownsRow.lt HR.out b hb).1)
          have HR2 : Hid (V7.ownsRow (w.heap.size + 2) 30 4 (.slice a5 (n + 1) c5) (n + 1) (wL (ws ++ [⟨f0, f1, f2, f3⟩]))) := by rw [wL_append]; exact ho
          clear ho hg ha HJ HR HZ
          refine hK.out _ _ HJ2.out.b0 (fun hHeld => ?_)
          clear hK K
          try simp only [List.getElem_toArray, List.getElem_cons_succ, List.getElem_cons_zero, Act.put, List.setIfInBounds_toArray, List.set_cons_zero, List.set_cons_succ]
          have HJ := HJ2
          have HR := HR2
          clear HJ2 HR2
          refine wpAnyH_take (i := 6) (v := .slice a5 (n + 1) c5) rfl (by kernel_rfl) (by kernel_rfl) (by kernel_rfl) (fun _ _ _ h => h) (Or.inl ⟨by rfl, fun w9 hSw => ?_⟩) hHeld ?_
          · go_simp
          simp only [List.getElem_toArray, List.getElem_cons_succ, List.getElem_cons_zero, Act.put, List.setIfInBounds_toArray, List.set_cons_zero, List.set_cons_succ]
          refine wpAnyH_done (by kernel_rfl) ?_ _
          clear hHeld
          go_wp2_with fail
          go_meet
          exact ⟨a5, c5, rfl, HJ.out, HR.out⟩
      · go_simp
        have HJ2 : Hid (BJ w (W0.alloc (.cells #[.int .u64 f0, .int .u64 f1, .int .u64 f2, .int .u64 f3] 30)) f0 f1 f2 f3) := HJ.out.alloc _
        have HZ2 : Hid ((W0.alloc (.cells #[.int .u64 f0, .int .u64 f1, .int .u64 f2, .int .u64 f3] 30)).heap[W0.heap.size]? = some (.cells #[.int .u64 f0, .int .u64 f1, .int .u64 f2, .int .u64 f3] 30 (0, 0)) ∧ w.heap.size + 2 ≤ W0.heap.size) := ⟨heap_alloc_new _ _, HJ.out.sz⟩
        generalize hz4 : W0.heap.size = z4 at *
        clear hz4
        refine hK.out _ _ HJ2.out.b0 (fun hHeld => ?_)
        clear hK K HJ
        try simp only [List.getElem_toArray, List.getElem_cons_succ, List.getElem_cons_zero, Act.put, List.setIfInBounds_toArray, List.set_cons_zero, List.set_cons_succ]
        generalize W0.alloc (.cells #[.int .u64 f0, .int .u64 f1, .int .u64 f2, .int .u64 f3] 30) = V8 at HJ2 HZ2 hHeld ⊢
        have HJ := HJ2
        have HZ := HZ2
        clear HJ2 HZ2
        refine wpAnyH_ready (rs := [0]) (by kernel_rfl) (by simp) ?_
        refine AllReadyH.cons rfl (fun K hK => ?_) AllReadyH.nil
        go_simp
        have HJ2 : Hid (BJ w (V8.alloc (.cells #[] 30)) f0 f1 f2 f3) := HJ.out.alloc _
        have HR2 : Hid ((V8.alloc (.cells #[] 30)).ownsRow (w.heap.size + 2) 30 4 (.slice (some ⟨V8.heap.size, 0, none⟩) 0 0) 0 (wL [])) := World.ownsRow_made V8 #[] 0 HJ.out.sz (by decide) rfl
        have HZ2 : Hid ((V8.alloc (.cells #[] 30)).heap[z4]? = some (.cells #[.int .u64 f0, .int .u64 f1, .int .u64 f2, .int .u64 f3] 30 (0, 0)) ∧ w.heap.size + 2 ≤ z4 ∧ V8.heap.size ≠ z4) := ⟨(Below.heap_alloc _ _ _ (hp_lt HZ.out.1)).trans HZ.out.1, HZ.out.2, fun e => by have := hp_lt HZ.out.1; omega⟩
        generalize hz0 : V8.heap.size = z0 at *
        clear hz0
        refine hK.out _ _ HJ2.out.b0 (fun hHeld => ?_)
        clear hK K HJ HZ
        try simp only [List.getElem_toArray, List.getElem_cons_succ, List.getElem_cons_zero, Act.put, List.setIfInBounds_toArray, List.set_cons_zero, List.set_cons_succ]
        generalize V8.alloc (.cells #[] 30) = V9 at HJ2 HR2 hHeld HZ2 ⊢
        have HJ := HJ2
        have HR := HR2
        have HZ := HZ2
        clear HJ2 HR2 HZ2
        refine wpAnyH_ready (rs := [2]) (by kernel_rfl) (by simp) ?_
        refine AllReadyH.cons rfl (fun K hK => ?_) AllReadyH.nil
        refine step_append_ws (by rfl) _ _ (by rfl) (base := w.heap.size + 2) (v := .slice (some ⟨z0, 0, none⟩) 0 0) (n := 0) (xs := wL []) (by rfl) HR.out (sa := sa) (m := n) (c := cap) (by rfl) ws HL.out HD.out.1 (fun ad e j u hu => (HJ.out.bl.cell (p := ad.add j) (by rw [add_block]; exact (HD.out.2 ad e j u hu).1)).trans (HD.out.2 ad e j u hu).2) (by omega) HJ.out.sz ?_
        intro v' V10 ho hg ha
        rw [Nat.zero_add] at ho
        obtain ⟨a2, c2, rfl⟩ := row_form ho
        have HJ2 : Hid (BJ w V10 f0 f1 f2 f3) := HJ.out.next hg (fun b hb => (World.ownsRow.lt HR.out b hb).1)
        have HR2 : Hid (V10.ownsRow (w.heap.size + 2) 30 4 (.slice a2 n c2) n (wL ws)) := ho
        have HZ2 : Hid (V10.heap[z4]? = some (.cells #[.int .u64 f0, .int .u64 f1, .int .u64 f2, .int .u64 f3] 30 (0, 0)) ∧ w.heap.size + 2 ≤ z4 ∧ ∀ b, (Value.slice a2 n c2).ownBlock = some b → b ≠ z4) := ⟨(hg.block z4 (hp_lt HZ.out.1) (fun e => HZ.out.2.2 (by simpa [Value.ownBlock] using e.symm))).trans HZ.out.1, HZ.out.2.1, fun b hb e => by
          rcases ha with h9 | h9
          · rw [hb] at h9; exact HZ.out.2.2 (by simpa [Value.ownBlock, e] using h9.symm)
          · rw [hb] at h9; have := hp_lt HZ.out.1; injection h9 with h9; omega⟩
        clear ho hg ha HJ HR HZ
        refine hK.out _ _ HJ2.out.b0 (fun hHeld => ?_)
        clear hK K
        try simp only [List.getElem_toArray, List.getElem_cons_succ, List.getElem_cons_zero, Act.put, List.setIfInBounds_toArray, List.set_cons_zero, List.set_cons_succ]
        have HJ := HJ2
        have HR := HR2
        have HZ := HZ2
        clear HJ2 HR2 HZ2
        refine wpAnyH_ready (rs := [5]) (by kernel_rfl) (by simp) ?_
        refine AllReadyH.cons rfl (fun K hK => ?_) AllReadyH.nil
        refine step_append_ws (by rfl) _ _ (by rfl) (base := w.heap.size + 2) (v := .slice a2 n c2) (n := n) (xs := wL ws) (by rfl) HR.out (sa := some ⟨z4, 0, none⟩) (m := 1) (c := 1) (by rfl) [⟨f0, f1, f2, f3⟩] rfl (fun e => by cases e) (fun ad e j u hu => by
          injection e with e
          subst e
          rw [Addr.add_lit, Nat.zero_add, cell_blk HZ.out.1]
          simpa [wL, wC] using hu) (by omega) HJ.out.sz ?_
        intro v' V11 ho hg ha
        obtain ⟨a5, c5, rfl⟩ := row_form ho
        have HJ2 : Hid (BJ w V11 f0 f1 f2 f3) := HJ.out.next hg (fun b hb => (World.ownsRow.lt HR.out b hb).1)
        have HR2 : Hid (V11.ownsRow (w.heap.size + 2) 30 4 (.slice a5 (n + 1) c5) (n + 1) (wL (ws ++ [⟨f0, f1, f2, f3⟩]))) := by rw [wL_append]; exact ho
        clear ho hg ha HJ HR HZ
        refine hK.out _ _ HJ2.out.b0 (fun hHeld => ?_)
        clear hK K
        try simp only [List.getElem_toArray, List.getElem_cons_succ, List.getElem_cons_zero, Act.put, List.setIfInBounds_toArray, List.set_cons_zero, List.set_cons_succ]
        have HJ := HJ2
        have HR := HR2
        clear HJ2 HR2
        refine wpAnyH_take (i := 6) (v := .slice a5 (n + 1) c5) rfl (by kernel_rfl) (by kernel_rfl) (by kernel_rfl) (fun _ _ _ h => h) (Or.inl ⟨by rfl, fun w9 hSw => ?_⟩) hHeld ?_
        · go_simp
        simp only [List.getElem_toArray, List.getElem_cons_succ, List.getElem_cons_zero, Act.put, List.setIfInBounds_toArray, List.set_cons_zero, List.set_cons_succ]
        refine wpAnyH_done (by kernel_rfl) ?_ _
        clear hHeld
        go_wp2_with fail
        go_meet
        exact ⟨a5, c5, rfl, HJ.out, HR.out⟩
    case rest =>
      obtain ⟨a5, c5, rfl, hJ, hR⟩ := hcut
      obtain ⟨g, c6, e6, hgb, hgl⟩ := World.ownsRow.form hR (by omega)
      injection e6 with e7 e8 e9
      subst e7 e9
      have HR : Hid (wc.ownsRow (w.heap.size + 2) 30 4 (.slice (some ⟨g, 0, none⟩) (n + 1) c5) (n + 1) (wL (ws ++ [⟨f0, f1, f2, f3⟩]))) := hR
      have HJ : Hid (BJ w wc f0 f1 f2 f3) := hJ
      clear hR hJ e8
      go_wp2_with fail
      go_loopw [6, 7, 9] (fun t q i wr => ∃ (k : Nat) (took gave : Int) (x : Wq), k ≤ n + 1 ∧ i = .int .i64 k ∧ t = .int .i64 took ∧ q = .int .i64 gave ∧ 0 ≤ took ∧ took ≤ 22100 * k ∧ -4800 * k ≤ gave ∧ gave ≤ 24700 * k ∧ Hid (x.ok ∧ (k = 0 → x = ⟨f0, f1, f2, f3⟩) ∧ (∀ m, k = m + 1 → (ws ++ [⟨f0, f1, f2, f3⟩])[m]? = some x) ∧ PInv (num f0 f1 f2 f3) (num x.x0 x.x1 x.x2 x.x3) took gave) ∧ Hid (LJ w wc wr g f0 f1 f2 f3 x)) (fun _ _ i _ => n + 1 - (intOf i).toNat)
      case atStart =>
        exact ⟨0, 0, 0, ⟨f0, f1, f2, f3⟩, by omega, rfl, rfl, rfl, by omega, by omega, by omega, by omega, ⟨HF.out, fun _ => rfl, fun m h => by omega, PInv.start _⟩, ⟨HJ.out.b0, HJ.out.b1, rfl, HJ.out.bl, by omega, hgl⟩⟩
      case round =>
        obtain ⟨k, took, gave, ⟨n0, n1, n2, n3⟩, hk, rfl, rfl, rfl, t0, t1, g0, g1, hx, hJ⟩ := hrel
        by_cases hlt : k < n + 1
        · obtain ⟨y, hy⟩ : ∃ y, (ws ++ [⟨f0, f1, f2, f3⟩])[k]? = some y := ⟨_, List.getElem?_eq_getElem (by have := HL.out; rw [List.length_append]; simp; omega)⟩
          obtain ⟨x0, x1, x2, x3⟩ := y
          have HY : Hid ((ws ++ [(⟨f0, f1, f2, f3⟩ : Wq)])[k]? = some ⟨x0, x1, x2, x3⟩) := hy
          have hxo : L4 x0 x1 x2 x3 := by
            have := List.mem_of_getElem? hy
            rcases List.mem_append.1 this with h | h
            · exact HO.out _ h
            · have h' := List.mem_singleton.1 h
              injection h' with e0 e1 e2 e3
              rw [e0, e1, e2, e3]
              exact HF.out
          have hcs : ∀ j, j < 4 → wr.cell? ⟨g, k * 4 + j, none⟩ = (wC ⟨x0, x1, x2, x3⟩)[j]? := fun j hj => by
            have hL := wL_at _ k _ hy j hj
            have h9 := World.ownsRow.cellAt HR.out (k * 4 + j) (by omega)
            exact ((World.cell?_of_block (a := ⟨g, k * 4 + j, none⟩) hJ.out.2.2.1).trans h9).trans hL
          obtain ⟨B, hBk⟩ : ∃ B, B = decide (0 < k) := ⟨_, rfl⟩
          have hBi : decide ((0 : Int) < k) = B := by rw [hBk]; simp
          have HBk : Hid (decide (0 < k) = B) := hBk.symm
          clear hBk
          have HS : Hid (∀ w, _) := sstore_any f0 f1 f2 f3 n0 n1 n2 n3 x0 x1 x2 x3 B HF.out hx.out.1 hxo
          unfold W4 at HS
          have hP := hx.out.2.2.2.step (X := num x0 x1 x2 x3) (k := if B = true then 0 else 2100) (by split <;> omega)
          have hc := cost_bd (num x0 x1 x2 x3 == num n0 n1 n2 n3) (num n0 n1 n2 n3 == num f0 f1 f2 f3) (num f0 f1 f2 f3 == 0)
          have hr := ref_bd (num x0 x1 x2 x3 == num n0 n1 n2 n3) (num n0 n1 n2 n3 == num f0 f1 f2 f3) (num x0 x1 x2 x3 == num f0 f1 f2 f3) (num f0 f1 f2 f3 == 0) (num n0 n1 n2 n3 == 0) (num x0 x1 x2 x3 == 0)
          have hc2 : 100 ≤ costN (num x0 x1 x2 x3 == num n0 n1 n2 n3) (num n0 n1 n2 n3 == num f0 f1 f2 f3) (num f0 f1 f2 f3 == 0) + (if B = true then 0 else 2100) ∧ costN (num x0 x1 x2 x3 == num n0 n1 n2 n3) (num n0 n1 n2 n3 == num f0 f1 f2 f3) (num f0 f1 f2 f3 == 0) + (if B = true then 0 else 2100) ≤ 22100 := by split <;> omega
          clear hc
          generalize costN (num x0 x1 x2 x3 == num n0 n1 n2 n3) (num n0 n1 n2 n3 == num f0 f1 f2 f3) (num f0 f1 f2 f3 == 0) + (if B = true then 0 else 2100) = C at hP HS hc2
          generalize refN (num x0 x1 x2 x3 == num n0 n1 n2 n3) (num n0 n1 n2 n3 == num f0 f1 f2 f3) (num x0 x1 x2 x3 == num f0 f1 f2 f3) (num f0 f1 f2 f3 == 0) (num n0 n1 n2 n3 == 0) (num x0 x1 x2 x3 == 0) = R at hP HS hr
          obtain ⟨hc0, hc1⟩ := hc2
          obtain ⟨hr0, hr1⟩ := hr
          have HP : Hid (PInv (num f0 f1 f2 f3) (num x0 x1 x2 x3) (took + C) (gave + R)) := hP
          have HXO : Hid (L4 x0 x1 x2 x3) := hxo
          have hwc : IntKind.i64.wrap (took + C) = took + C := by rw [IntKind.wrap_i64]; omega
          have hwr : IntKind.i64.wrap (gave + R) = gave + R := by rw [IntKind.wrap_i64]; omega
          clear hP hxo hy hx
          have hki : (k : Int) < (n : Int) + 1 := by omega
          go_wp2_with fail
          have hS0 : (fun w' => w'.heap[w.heap.size]? = some (.cells #[.int .u64 f0, .int .u64 f1, .int .u64 f2, .int .u64 f3] 30 (0, 0)) ∧ w'.heap[w.heap.size + 1]? = some (.cells #[.int .u64 n0, .int .u64 n1, .int .u64 n2, .int .u64 n3] 30 (0, 0)) ∧ w'.cell? ⟨g, k * 4, none⟩ = some (.int .u64 x0) ∧ w'.cell? ⟨g, k * 4 + 1, none⟩ = some (.int .u64 x1) ∧ w'.cell? ⟨g, k * 4 + 2, none⟩ = some (.int .u64 x2) ∧ w'.cell? ⟨g, k * 4 + 3, none⟩ = some (.int .u64 x3)) wr.drew := ⟨hJ.out.1, hJ.out.2.1, hcs 0 (by omega), hcs 1 (by omega), hcs 2 (by omega), hcs 3 (by omega)⟩
          clear hcs
          refine wp_region_held_drew (S := fun w' => w'.heap[w.heap.size]? = some (.cells #[.int .u64 f0, .int .u64 f1, .int .u64 f2, .int .u64 f3] 30 (0, 0)) ∧ w'.heap[w.heap.size + 1]? = some (.cells #[.int .u64 n0, .int .u64 n1, .int .u64 n2, .int .u64 n3] 30 (0, 0)) ∧ w'.cell? ⟨g, k * 4, none⟩ = some (.int .u64 x0) ∧ w'.cell? ⟨g, k * 4 + 1, none⟩ = some (.int .u64 x1) ∧ w'.cell? ⟨g, k * 4 + 2, none⟩ = some (.int .u64 x2) ∧ w'.cell? ⟨g, k * 4 + 3, none⟩ = some (.int .u64 x3)) (by kernel_rfl) hS0 (fun hHeld => ?_)
          refine wpAnyH_take (i := 0) (v := .agg #[.int .u64 f0, .int .u64 f1, .int .u64 f2, .int .u64 f3]) rfl (by kernel_rfl) (by kernel_rfl) (by kernel_rfl) (fun _ _ _ h => h) (Or.inl ⟨by rfl, fun w9 hSw => ?_⟩) hHeld ?_
          · exact run_load_exec 30 _ rfl _ rfl (run_loadVar_row w9 _ 30 30 _ (0, 0) _ hSw.1 Try.underlying30 rfl (info30d _ _ _ _))
          simp only [List.getElem_toArray, List.getElem_cons_succ, List.getElem_cons_zero, Act.put, List.setIfInBounds_toArray, List.set_cons_zero, List.set_cons_succ]
          refine wpAnyH_take (i := 1) (v := .agg #[.int .u64 n0, .int .u64 n1, .int .u64 n2, .int .u64 n3]) rfl (by kernel_rfl) (by kernel_rfl) (by kernel_rfl) (fun _ _ _ h => h) (Or.inl ⟨by rfl, fun w9 hSw => ?_⟩) hHeld ?_
          · exact run_load_exec 30 _ rfl _ rfl (run_loadVar_row w9 _ 30 30 _ (0, 0) _ hSw.2.1 Try.underlying30 rfl (info30d _ _ _ _))
          simp only [List.getElem_toArray, List.getElem_cons_succ, List.getElem_cons_zero, Act.put, List.setIfInBounds_toArray, List.set_cons_zero, List.set_cons_succ]
          refine wpAnyH_take (i := 2) (v := .slice (some ⟨g, 0, none⟩) (n + 1) c5) rfl (by kernel_rfl) (by kernel_rfl) (by kernel_rfl) (fun _ _ _ h => h) (Or.inl ⟨by rfl, fun w9 hSw => ?_⟩) hHeld ?_
          · go_simp
          simp only [List.getElem_toArray, List.getElem_cons_succ, List.getElem_cons_zero, Act.put, List.setIfInBounds_toArray, List.set_cons_zero, List.set_cons_succ]
          refine wpAnyH_take (i := 3) (v := .int .i64 k) rfl (by kernel_rfl) (by kernel_rfl) (by kernel_rfl) (fun _ _ _ h => h) (Or.inl ⟨by rfl, fun w9 hSw => ?_⟩) hHeld ?_
          · go_simp
          simp only [List.getElem_toArray, List.getElem_cons_succ, List.getElem_cons_zero, Act.put, List.setIfInBounds_toArray, List.set_cons_zero, List.set_cons_succ]
          refine wpAnyH_take (i := 4) (v := .pointer (some ⟨g, k * 4, none⟩)) rfl (by kernel_rfl) (by kernel_rfl) (by kernel_rfl) (fun _ _ _ h => h) (Or.inl ⟨by rfl, fun w9 hSw => ?_⟩) hHeld ?_
          · go_simp
          simp only [List.getElem_toArray, List.getElem_cons_succ, List.getElem_cons_zero, Act.put, List.setIfInBounds_toArray, List.set_cons_zero, List.set_cons_succ]
          refine wpAnyH_take (i := 5) (v := .agg #[.int .u64 x0, .int .u64 x1, .int .u64 x2, .int .u64 x3]) rfl (by kernel_rfl) (by kernel_rfl) (by kernel_rfl) (fun _ _ _ h => h) (Or.inl ⟨by rfl, fun w9 hSw => ?_⟩) hHeld ?_
          · have y0 := hSw.2.2.1
            have y1 := hSw.2.2.2.1
            have y2 := hSw.2.2.2.2.1
            have y3 := hSw.2.2.2.2.2
            go_simp
          simp only [List.getElem_toArray, List.getElem_cons_succ, List.getElem_cons_zero, Act.put, List.setIfInBounds_toArray, List.set_cons_zero, List.set_cons_succ]
          refine wpAnyH_take (i := 6) (v := .int .i64 k) rfl (by kernel_rfl) (by kernel_rfl) (by kernel_rfl) (fun _ _ _ h => h) (Or.inl ⟨by rfl, fun w9 hSw => ?_⟩) hHeld ?_
          · go_simp
          simp only [List.getElem_toArray, List.getElem_cons_succ, List.getElem_cons_zero, Act.put, List.setIfInBounds_toArray, List.set_cons_zero, List.set_cons_succ]
          refine wpAnyH_take (i := 7) (v := .bool B) rfl (by kernel_rfl) (by kernel_rfl) (by kernel_rfl) (fun _ _ _ h => h) (Or.inl ⟨by rfl, fun w9 hSw => ?_⟩) hHeld ?_
          · go_simp
            exact HBk.out
          simp only [List.getElem_toArray, List.getElem_cons_succ, List.getElem_cons_zero, Act.put, List.setIfInBounds_toArray, List.set_cons_zero, List.set_cons_succ]
          refine wpAnyH_ready (rs := [8]) (by kernel_rfl) (by simp) ?_
          refine AllReadyH.cons rfl (fun K hK => ?_) AllReadyH.nil
          go_simp
          refine Calls.mono (HS.out _) ?_
          rintro e w1 ⟨rfl, hw⟩
          have hB2 : Hid (Below wr.heap.size wr w1) := Below.trans (by go_grown) (hw.mono (by simp))
          go_wp2_with fail
          have hcb : ∀ j, w1.cell? ⟨g, j, none⟩ = wr.drew.cell? ⟨g, j, none⟩ := fun j => hw.cell (p := ⟨g, j, none⟩) (hp_lt' hJ.out.2.2.1 hgl)
          have hS1 : (fun w' => w'.heap[w.heap.size]? = some (.cells #[.int .u64 f0, .int .u64 f1, .int .u64 f2, .int .u64 f3] 30 (0, 0)) ∧ w'.heap[w.heap.size + 1]? = some (.cells #[.int .u64 n0, .int .u64 n1, .int .u64 n2, .int .u64 n3] 30 (0, 0)) ∧ w'.cell? ⟨g, k * 4, none⟩ = some (.int .u64 x0) ∧ w'.cell? ⟨g, k * 4 + 1, none⟩ = some (.int .u64 x1) ∧ w'.cell? ⟨g, k * 4 + 2, none⟩ = some (.int .u64 x2) ∧ w'.cell? ⟨g, k * 4 + 3, none⟩ = some (.int .u64 x3)) w1 := ⟨(hw.block _ (hp_lt hS0.1)).trans hS0.1, (hw.block _ (hp_lt hS0.2.1)).trans hS0.2.1, (hcb _).trans hS0.2.2.1, (hcb _).trans hS0.2.2.2.1, (hcb _).trans hS0.2.2.2.2.1, (hcb _).trans hS0.2.2.2.2.2⟩
          refine hK.out _ _ hS1 (fun hHeld => ?_)
          clear hK K hcb
          try simp only [List.getElem_toArray, List.getElem_cons_succ, List.getElem_cons_zero, Act.put, List.setIfInBounds_toArray, List.set_cons_zero, List.set_cons_succ]
          refine wpAnyH_take (i := 9) (v := .tuple #[.int .u64 C, .int .i64 R]) rfl (by kernel_rfl) (by kernel_rfl) (by kernel_rfl) (fun _ _ _ h => h) (Or.inl ⟨by rfl, fun w9 hSw => ?_⟩) hHeld ?_
          · go_simp
          simp only [List.getElem_toArray, List.getElem_cons_succ, List.getElem_cons_zero, Act.put, List.setIfInBounds_toArray, List.set_cons_zero, List.set_cons_succ]
          refine wpAnyH_take (i := 10) (v := .int .u64 C) rfl (by kernel_rfl) (by kernel_rfl) (by kernel_rfl) (fun _ _ _ h => h) (Or.inl ⟨by rfl, fun w9 hSw => ?_⟩) hHeld ?_
          · go_simp
          simp only [List.getElem_toArray, List.getElem_cons_succ, List.getElem_cons_zero, Act.put, List.setIfInBounds_toArray, List.set_cons_zero, List.set_cons_succ]
          refine wpAnyH_take (i := 11) (v := .int .i64 R) rfl (by kernel_rfl) (by kernel_rfl) (by kernel_rfl) (fun _ _ _ h => h) (Or.inl ⟨by rfl, fun w9 hSw => ?_⟩) hHeld ?_
          · go_simp
          simp only [List.getElem_toArray, List.getElem_cons_succ, List.getElem_cons_zero, Act.put, List.setIfInBounds_toArray, List.set_cons_zero, List.set_cons_succ]
          refine wpAnyH_take (i := 12) (v := .int .u64 C) rfl (by kernel_rfl) (by kernel_rfl) (by kernel_rfl) (fun _ _ _ h => h) (Or.inl ⟨by rfl, fun w9 hSw => ?_⟩) hHeld ?_
          · go_simp
          simp only [List.getElem_toArray, List.getElem_cons_succ, List.getElem_cons_zero, Act.put, List.setIfInBounds_toArray, List.set_cons_zero, List.set_cons_succ]
          refine wpAnyH_take (i := 13) (v := .int .i64 R) rfl (by kernel_rfl) (by kernel_rfl) (by kernel_rfl) (fun _ _ _ h => h) (Or.inl ⟨by rfl, fun w9 hSw => ?_⟩) hHeld ?_
          · go_simp
          simp only [List.getElem_toArray, List.getElem_cons_succ, List.getElem_cons_zero, Act.put, List.setIfInBounds_toArray, List.set_cons_zero, List.set_cons_succ]
          refine wpAnyH_done (by kernel_rfl) ?_ _
          have y0 := hS1.2.2.1
          have y1 := hS1.2.2.2.1
          have y2 := hS1.2.2.2.2.1
          have y3 := hS1.2.2.2.2.2
          clear hHeld hS0 hS1
          have hJ1 := hJ.out.more hB2.out
          clear hJ
          have hJ : Hid (LJ w wc w1 g f0 f1 f2 f3 ⟨n0, n1, n2, n3⟩) := hJ1
          have hb1 := hJ1.2.1
          clear hJ1 hw
          go_wp2_with (first | (refine wpList_store_row rfl 30 _ _ rfl (w.heap.size + 1) #[.int .u64 x0, .int .u64 x1, .int .u64 x2, .int .u64 x3] rfl rfl 30 _ hb1 (info30d _ _ _ _) rfl (one4 _ _ _ _) ?_))
          go_roundw
          case rel => exact ⟨k + 1, took + C, gave + R, ⟨x0, x1, x2, x3⟩, by omega, by go_num, rfl, rfl, by omega, by omega, by omega, by omega, ⟨HXO.out, fun h => by omega, fun m h => by obtain rfl : m = k := (by omega); exact HY.out, HP.out⟩, hJ.out.put ⟨x0, x1, x2, x3⟩⟩
          case measure => simp [intOf]; omega
        · obtain rfl : k = n + 1 := by omega
          have hP := hx.out.2.2.2
          have hxe : (⟨n0, n1, n2, n3⟩ : Wq) = ⟨f0, f1, f2, f3⟩ := by
            have := hx.out.2.2.1 n rfl
            rw [List.getElem?_append_right (by have := HL.out; omega)] at this
            have e0 : n - ws.length = 0 := by have := HL.out; omega
            rw [e0] at this
            simpa using this.symm
          injection hxe with e0 e1 e2 e3
          subst e0 e1 e2 e3
          obtain ⟨p0, p1⟩ := hP.last
          have hBl := hJ.out.2.2.2.1
          clear hx hJ hP
          go_wp2_with fail
          refine (alive_any _).mono ?_
          rintro e w' ⟨rfl, hw⟩
          go_wp2
          go_returns
          exact ⟨rfl, hBl.trans (hw.mono hBl.size)⟩
end Go.Proofs.Ytlpmmejdfenkiaa
