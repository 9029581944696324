/- net: now, left, reach, Now, is, New. -/
import Derived.Test.YtemapnfbmhjlbaaNK
import Derived.BigQuiet
import Derived.Deep.QuietTactic
namespace Go.Proofs.Ytemapnfbmhjlbaa
open Go.RowKit Go.Maps Go.Joins
set_option linter.unusedSimpArgs false
set_option linter.unusedVariables false
theorem NetIs.boxed {w : World} {b : Nat} {N : NS} (h : NetIs w b N) (c : Nat) : NetIs (boxed w c) b N := h.below (boxed_below w c)
theorem NetIs.ckc {w : World} {b g : Nat} {N : NS} (h : NetIs w b N) (hg : N.ck = some g) : w.cell? ⟨g, 0, none⟩ = some (.int .i64 N.clk) := by rw [cell_of_block (h.ck g hg)]; rfl
set_option maxRecDepth 100000 in
/-- (*atomic.Int64).Load -/
theorem aload (a : Addr) (x : Int) (w : World) (h0 : w.cell? a = some (.int .i64 x)) : Calls Try.prog 53 #[.pointer (some a)] w fun e w' => e = .returned (.int .i64 x) ∧ w' = w := by
  have hl := run_call_load (P := Try.prog) Try.func62 (by kernel_rfl) (by kernel_rfl) (by kernel_rfl) .i64 (by kernel_rfl) h0
  go_enter Try.func53, Try.ntmps53
  go_wp2
  go_ret
  exact ⟨rfl, rfl⟩
set_option maxRecDepth 100000 in
/-- (*atomic.Int64).Store -/
theorem astore (a : Addr) (x : Value) (y : Int) (w : World) (hc : w.cell? a = some x) (hz : w.frozen? a = false) : Calls Try.prog 57 #[.pointer (some a), .int .i64 y] w fun e w' => e = .returned (.tuple #[]) ∧ w' = w.setCell a (.int .i64 y) := by
  have hst := run_call_store (P := Try.prog) Try.func64 (by kernel_rfl) (by kernel_rfl) (by kernel_rfl) (by kernel_rfl) (k := .i64) (y := y) hc hz
  go_enter Try.func57, Try.ntmps57
  go_wp2
  go_end0
  exact ⟨rfl, rfl⟩
set_option maxRecDepth 100000 in
set_option maxHeartbeats 1600000 in
/-- (*clock).now -/
theorem now_any {w : World} {b : Nat} {N : NS} (h : NetIs w b N) :
    Calls Try.prog 37 #[.pointer (some ⟨b, 0, none⟩)] w fun e w' => e = .returned (.int .i64 N.clk) ∧ ∃ g, NetIs w' b (setCk N g) ∧ NFr w w' N (setCk N g) := by
  have HN : Hid _ := number_any h
  clear h
  go_enter Try.func37, Try.ntmps37
  go_wp2_with (first
    | (go_at_call 52; refine Calls.mono HN.out ?_; rintro e w1 ⟨g, rfl, h1, h2⟩
       have HG : Hid (NetIs w1 b (setCk N g) ∧ NFr w w1 N (setCk N g)) := ⟨h1, h2⟩
       have hc : w1.cell? ⟨g, 0, none⟩ = some (.int .i64 N.clk) := h1.ckc rfl
       clear h1 h2)
    | (go_at_call 53; refine (aload _ N.clk _ hc).mono ?_; rintro e w2 ⟨rfl, rfl⟩))
  go_ret
  exact ⟨rfl, g, HG.out⟩
set_option maxRecDepth 100000 in
set_option maxHeartbeats 1600000 in
theorem now_ck {w : World} {b g : Nat} {N : NS} (h : NetIs w b N) (hg : N.ck = some g) :
    Calls Try.prog 37 #[.pointer (some ⟨b, 0, none⟩)] w fun e w' => e = .returned (.int .i64 N.clk) ∧ w' = boxed w b := by
  have HN : Hid _ := number_ck h hg
  have hc := (h.boxed b).ckc hg
  clear h hg
  go_enter Try.func37, Try.ntmps37
  go_wp2_with (first
    | (go_at_call 52; refine Calls.mono HN.out ?_; rintro e w1 ⟨rfl, rfl⟩)
    | (go_at_call 53; refine (aload _ N.clk _ hc).mono ?_; rintro e w2 ⟨rfl, rfl⟩))
  go_ret
  exact ⟨rfl, rfl⟩
set_option maxRecDepth 100000 in
set_option maxHeartbeats 1600000 in
/-- (*clock).left -/
theorem left_any {w : World} {b : Nat} {N : NS} (h : NetIs w b N) (hb : 0 ≤ N.clk ∧ N.clk ≤ 1099511627776) :
    Calls Try.prog 36 #[.pointer (some ⟨b, 0, none⟩)] w fun e w' => e = .returned (.int .i64 (1099511627776 - N.clk)) ∧ ∃ g, NetIs w' b (setCk N g) ∧ NFr w w' N (setCk N g) := by
  have HN : Hid _ := now_any h
  obtain ⟨b0, b9⟩ := hb
  clear h
  go_enter Try.func36, Try.ntmps36
  go_wp2_with (first
    | (go_at_call 37; refine Calls.mono HN.out ?_; rintro e w1 ⟨rfl, g, h1, h2⟩
       have HG : Hid (NetIs w1 b (setCk N g) ∧ NFr w w1 N (setCk N g)) := ⟨h1, h2⟩
       clear h1 h2))
  go_ret
  exact ⟨rfl, g, HG.out⟩
set_option maxRecDepth 100000 in
set_option maxHeartbeats 1600000 in
theorem left_ck {w : World} {b g : Nat} {N : NS} (h : NetIs w b N) (hg : N.ck = some g) (hb : 0 ≤ N.clk ∧ N.clk ≤ 1099511627776) :
    Calls Try.prog 36 #[.pointer (some ⟨b, 0, none⟩)] w fun e w' => e = .returned (.int .i64 (1099511627776 - N.clk)) ∧ w' = boxed w b := by
  have HN : Hid _ := now_ck h hg
  obtain ⟨b0, b9⟩ := hb
  clear h hg
  go_enter Try.func36, Try.ntmps36
  go_wp2_with (first
    | (go_at_call 37; refine Calls.mono HN.out ?_; rintro e w1 ⟨rfl, rfl⟩))
  go_ret
  exact ⟨rfl, rfl⟩
/-- The net at another moment. -/
def setAt (N : NS) (x : Int) : NS := { N with clk := x }
theorem at_end {w : World} {b g : Nat} {N : NS} (h : NetIs w b N) (hg : N.ck = some g) (x : Int) : NetIs (w.setCell ⟨g, 0, none⟩ (.int .i64 x)) b (setAt N x) ∧ NFr w (w.setCell ⟨g, 0, none⟩ (.int .i64 x)) N (setAt N x) := by
  have hk : ∀ y, y ≠ g → (w.setCell ⟨g, 0, none⟩ (.int .i64 x)).heap[y]? = w.heap[y]? := fun y hy => Below.heap_setCell _ _ _ _ hy
  have hr : ∀ y, N.own y ≠ 2 → (w.setCell ⟨g, 0, none⟩ (.int .i64 x)).heap[y]? = w.heap[y]? := fun y hy => hk y (fun e => hy (by rw [e]; exact h.rc g hg))
  refine ⟨⟨(hr b (by rw [h.rn]; decide)).trans h.net, h.rn, fun g' hg' => ?_, h.rc, (fun e => by rw [show (setAt N x).ck = N.ck from rfl, hg] at e; cases e), ownsRow_heap h.fl (fun y hy => hr y (by rw [h.rf y hy]; decide)), h.rf, ownsRow_heap h.tm (fun y hy => hr y (by rw [h.rt y hy]; decide)), h.rt, fun p hp => (h.data p hp).kept (fun y hy => hr y (by rw [h.rd p hp y hy]; decide)), h.rd, fun y hy => h.fresh y (by simpa using hy)⟩, NFq.fr ⟨rfl, rfl, rfl, by simp, fun y hy h0 => hr y (by rw [h0]; decide), fun y hy h0 => h0⟩ rfl⟩
  have e : N.ck = some g' := hg'
  rw [hg] at e
  injection e with e
  subst e
  rw [block_setCell (h.ck g hg) _]
  rfl
set_option maxRecDepth 100000 in
set_option maxHeartbeats 1600000 in
/-- (*clock).reach -/
theorem reach_any {w : World} {b : Nat} {N : NS} (h : NetIs w b N) (x : Int) :
    Calls Try.prog 43 #[.pointer (some ⟨b, 0, none⟩), .int .i64 x] w fun e w' => e = .returned (.tuple #[]) ∧ ∃ g, NetIs w' b (setAt (setCk N g) (max x N.clk)) ∧ NFr w w' N (setAt (setCk N g) (max x N.clk)) := by
  have HN : Hid _ := number_any h
  clear h
  go_enter Try.func43, Try.ntmps43
  go_wp2_with (first
    | (go_at_call 52; refine Calls.mono HN.out ?_; rintro e w1 ⟨g, rfl, h1, h2⟩
       have HG : Hid (NetIs w1 b (setCk N g) ∧ NFr w w1 N (setCk N g)) := ⟨h1, h2⟩
       have hnow := now_ck h1 (g := g) rfl
       have hc : (boxed w1 b).cell? ⟨g, 0, none⟩ = some (.int .i64 N.clk) := (h1.boxed b).ckc rfl
       have hz : (boxed w1 b).frozen? ⟨g, 0, none⟩ = false := unfrozen_of_block ((h1.boxed b).ck g rfl) 0
       rw [show (setCk N g).clk = N.clk from rfl] at hnow
       clear h1 h2)
    | (go_at_call 37; refine Calls.mono hnow ?_; rintro e w2 ⟨rfl, rfl⟩)
    | (go_at_call 57; refine (astore _ _ _ _ hc hz).mono ?_; rintro e w3 ⟨rfl, rfl⟩))
  · go_end0
    refine ⟨rfl, g, ?_⟩
    rw [show max x N.clk = N.clk from by omega]
    have h1 := HG.out.1.boxed b
    have h2 := at_end h1 (g := g) rfl N.clk
    exact ⟨h2.1, (HG.out.2.trans (NFr.below (boxed_below w1 b))).trans h2.2⟩
  · go_end0
    refine ⟨rfl, g, ?_⟩
    rw [show max x N.clk = x from by omega]
    have h1 := HG.out.1.boxed b
    have h2 := at_end h1 (g := g) rfl x
    exact ⟨h2.1, (HG.out.2.trans (NFr.below (boxed_below w1 b))).trans h2.2⟩
set_option maxRecDepth 100000 in
/-- (*Net).Now -/
theorem Now_any {w : World} {b : Nat} {N : NS} (h : NetIs w b N) :
    Calls Try.prog 26 #[.pointer (some ⟨b, 0, none⟩)] w fun e w' => e = .returned (.int .i64 N.clk) ∧ ∃ g, NetIs w' b (setCk N g) ∧ NFr w w' N (setCk N g) := by
  have HN : Hid _ := now_any h
  clear h
  go_enter Try.func26, Try.ntmps26
  go_wp2_with (first
    | (go_at_call 37; refine Calls.mono HN.out ?_; rintro e w1 ⟨rfl, g, h1, h2⟩
       have HG : Hid (NetIs w1 b (setCk N g) ∧ NFr w w1 N (setCk N g)) := ⟨h1, h2⟩
       clear h1 h2))
  go_ret
  exact ⟨rfl, g, HG.out⟩
theorem Now_nil (w : World) : Calls Try.prog 26 #[.pointer none] w fun e w' => e = .returned (.int .i64 0) ∧ w' = w := by
  go_enter Try.func26, Try.ntmps26
  go_wp2
  go_ret
  exact ⟨rfl, rfl⟩
def isB (n x : Int) : Bool := decide (0 ≤ x) && decide (x < n)
set_option maxRecDepth 100000 in
set_option maxHeartbeats 1600000 in
/-- (*Net).is -/
theorem is_any {w : World} {b : Nat} {N : NS} (h : NetIs w b N) (x : Int) :
    Calls Try.prog 29 #[.pointer (some ⟨b, 0, none⟩), .int .i64 x] w fun e w' => e = .returned (.bool (isB N.nodes x)) ∧ w' = w := by
  obtain ⟨_, _, _, _, c4, _⟩ := h.cells
  clear h
  by_cases h0 : 0 ≤ x
  · have h0' : decide (0 ≤ x) = true := by simp [h0]
    have e : isB N.nodes x = decide (x < N.nodes) := by simp [isB, h0]
    rw [e]
    go_enter Try.func29, Try.ntmps29
    go_wp2
    go_ret
    exact ⟨rfl, rfl⟩
  · have h0' : decide (0 ≤ x) = false := by simp [h0]
    have e : isB N.nodes x = false := by simp [isB, h0]
    rw [e]
    go_enter Try.func29, Try.ntmps29
    go_wp2
    go_ret
    exact ⟨rfl, rfl⟩
/-- A new net. -/
def newN (b : Nat) (n : Int) : NS := ⟨none, 0, n, 0, .slice none 0 0, [], .slice none 0 0, [], fun x => if x = b then 1 else 0⟩
theorem New_is {w : World} (n : Int) : NetIs (w.alloc (.cells (nC (newN w.heap.size n)) 82)) w.heap.size (newN w.heap.size n) where
  net := heap_alloc_new _ _
  rn := if_pos rfl
  ck := fun g hg => by cases hg
  rc := fun g hg => by cases hg
  c0 := fun _ => rfl
  fl := World.ownsRow_nil _ _ _ _
  rf := fun g hg => by cases hg
  tm := World.ownsRow_nil _ _ _ _
  rt := fun g hg => by cases hg
  data := fun p hp => by cases hp
  rd := fun p hp => by cases hp
  fresh := fun g hg => by
    show (if g = w.heap.size then 1 else 0) = 0
    simp at hg
    rw [if_neg (by omega)]
set_option maxRecDepth 100000 in
set_option maxHeartbeats 1600000 in
/-- New -/
theorem New_ok {w : World} (n : Int) (h : 1 ≤ n) (h2 : n ≤ 16) :
    Calls Try.prog 8 #[.int .i64 n] w fun e w' => e = .returned (.tuple #[.pointer (some ⟨w.heap.size, 0, none⟩), .int .i64 0]) ∧ NetIs w' w.heap.size (newN w.heap.size n) ∧ Below w.heap.size w w' := by
  have d1 : decide (n < 1) = false := by simp; omega
  have d2 : decide (16 < n) = false := by simp; omega
  go_enter Try.func8, Try.ntmps8
  go_wp2
  go_returns
  exact ⟨rfl, New_is n, (Below.refl _ w).alloc (Nat.le_refl _) _⟩
set_option maxRecDepth 100000 in
set_option maxHeartbeats 1600000 in
theorem New_no {w : World} (n : Int) (h : n < 1 ∨ 16 < n) :
    Calls Try.prog 8 #[.int .i64 n] w fun e w' => e = .returned (.tuple #[.pointer none, .int .i64 1]) ∧ w' = w := by
  by_cases h1 : n < 1
  · have d1 : decide (n < 1) = true := by simp; omega
    go_enter Try.func8, Try.ntmps8
    go_wp2
    go_returns
    exact ⟨rfl, rfl⟩
  · have d1 : decide (n < 1) = false := by simp; omega
    have d2 : decide (16 < n) = true := by simp; omega
    go_enter Try.func8, Try.ntmps8
    go_wp2
    go_returns
    exact ⟨rfl, rfl⟩
end Go.Proofs.Ytemapnfbmhjlbaa
