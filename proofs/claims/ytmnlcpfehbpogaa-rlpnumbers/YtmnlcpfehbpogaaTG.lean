/- rlp: RlpDecodes' walk. -/
import Derived.Test.YtmnlcpfehbpogaaTF
namespace Go.Proofs.Ytmnlcpfehbpogaa
open Go.RowKit Go.Maps Go.Joins
set_option linter.unusedSimpArgs false
set_option linter.unusedVariables false
def dX (r : Except Int Tr) : Tr := match r with | .error _ => .mk false [] [] | .ok x => x
def dE (r : Except Int Tr) : Int := match r with | .error c => c | .ok _ => 0
def fX (r : Except Int (Tr × Nat)) : Tr := match r with | .error _ => .mk false [] [] | .ok q => q.1
def fN (r : Except Int (Tr × Nat)) : Nat := match r with | .error _ => 0 | .ok q => q.2
def fE (r : Except Int (Tr × Nat)) : Int := match r with | .error c => c | .ok _ => 0
theorem DcR.form {w w' : World} {r : Except Int Tr} {e : Ending} (h : DcR w w' r e) : ∃ sb si, e = .returned (.tuple #[.agg #[.bool (dX r).l, sb, si], .int .i64 (dE r)]) ∧ ItV w' (fun b => b < w'.heap.size) sb si (dX r) := by
  cases r with
  | error c => exact ⟨_, _, h, itV_zero _ _⟩
  | ok x => obtain ⟨sb, si, he, hi⟩ := h; exact ⟨sb, si, he, hi.mono (fun _ _ => rfl) (fun b hb => hb.2)⟩
theorem FsR.form {w w' : World} {r : Except Int (Tr × Nat)} {e : Ending} (h : FsR w w' r e) : ∃ sb si, e = .returned (.tuple #[.agg #[.bool (fX r).l, sb, si], .int .i64 (fN r : Nat), .int .i64 (fE r)]) ∧ ItV w' (fun b => b < w'.heap.size) sb si (fX r) := by
  cases r with
  | error c => exact ⟨_, _, h, itV_zero _ _⟩
  | ok x => obtain ⟨sb, si, he, hi⟩ := h; exact ⟨sb, si, he, hi.mono (fun _ _ => rfl) (fun b hb => hb.2)⟩
theorem ItV.up {w w' : World} {sb si : Value} {x : Tr} (h : ItV w (fun b => b < w.heap.size) sb si x) (hb : Below w.heap.size w w') : ItV w' (fun b => b < w'.heap.size) sb si x := h.mono (fun b hb' => hb.block b hb') (fun b hb' => Nat.lt_of_lt_of_le hb' hb.size)
set_option maxRecDepth 100000 in
set_option maxHeartbeats 16000000 in
theorem decodes_any {w : World} {a : Option Addr} {cap : Nat} {bs : List Int} (hs : SrcA w a cap bs) :
    Calls Try.prog 4 #[.slice a bs.length cap] w fun e w' => Below w.heap.size w w' ∧ e = .returned (.bool true) := by
  obtain ⟨x, hx⟩ : ∃ x, x = dX (dcd bs) := ⟨_, rfl⟩
  obtain ⟨E1, hE1⟩ : ∃ E1, E1 = dE (dcd bs) := ⟨_, rfl⟩
  obtain ⟨y, hy⟩ : ∃ y, y = fX (fst1 bs) := ⟨_, rfl⟩
  obtain ⟨n, hn⟩ : ∃ n, n = fN (fst1 bs) := ⟨_, rfl⟩
  obtain ⟨E2, hE2⟩ : ∃ E2, E2 = fE (fst1 bs) := ⟨_, rfl⟩
  obtain ⟨xl, hxl⟩ : ∃ xl, xl = x.l := ⟨_, rfl⟩
  obtain ⟨yl, hyl⟩ : ∃ yl, yl = y.l := ⟨_, rfl⟩
  obtain ⟨N, hN⟩ : ∃ N, N = bs.length := ⟨_, rfl⟩
  have c13 : ∀ V : World, SrcA V a cap bs → Calls Try.prog 13 #[.slice a N cap] V fun e w' => Below V.heap.size V w' ∧ ∃ sb si, e = .returned (.tuple #[.agg #[.bool xl, sb, si], .int .i64 E1]) ∧ ItV w' (fun b => b < w'.heap.size) sb si x := fun V hV => by
    rw [hxl, hx, hE1, hN]
    exact Calls.mono (decode_any hV) fun e w' h => ⟨h.1, h.2.form⟩
  have c14 : ∀ V : World, SrcA V a cap bs → Calls Try.prog 14 #[.slice a N cap] V fun e w' => Below V.heap.size V w' ∧ ∃ sb si, e = .returned (.tuple #[.agg #[.bool xl, sb, si], .int .i64 E1]) ∧ ItV w' (fun b => b < w'.heap.size) sb si x := fun V hV => by
    rw [hxl, hx, hE1, hN]
    exact Calls.mono (rdecode_any hV) fun e w' h => ⟨h.1, h.2.form⟩
  have c15 : ∀ V : World, SrcA V a cap bs → Calls Try.prog 15 #[.slice a N cap] V fun e w' => Below V.heap.size V w' ∧ ∃ sb si, e = .returned (.tuple #[.agg #[.bool yl, sb, si], .int .i64 (n : Nat), .int .i64 E2]) ∧ ItV w' (fun b => b < w'.heap.size) sb si y := fun V hV => by
    rw [hyl, hy, hn, hE2, hN]
    exact Calls.mono (first_any hV) fun e w' h => ⟨h.1, h.2.form⟩
  have c16 : ∀ V : World, SrcA V a cap bs → Calls Try.prog 16 #[.slice a N cap] V fun e w' => Below V.heap.size V w' ∧ ∃ sb si, e = .returned (.tuple #[.agg #[.bool yl, sb, si], .int .i64 (n : Nat), .int .i64 E2]) ∧ ItV w' (fun b => b < w'.heap.size) sb si y := fun V hV => by
    rw [hyl, hy, hn, hE2, hN]
    exact Calls.mono (rfirst_any hV) fun e w' h => ⟨h.1, h.2.form⟩
  have C13 : Hid _ := c13
  have C14 : Hid _ := c14
  have C15 : Hid _ := c15
  have C16 : Hid _ := c16
  have HL : Hid (xl = x.l ∧ yl = y.l) := ⟨hxl, hyl⟩
  rw [← hN]
  have HS : Hid (SrcA w a cap bs) := hs
  clear c13 c14 c15 c16 hx hE1 hy hn hE2 hxl hyl hN hs
  go_enter Try.func4, Try.ntmps4
  go_wp2_with fail
  refine Calls.mono (C13.out w HS.out) ?_
  rintro e w1 ⟨hb1, sb1, si1, rfl, hi1⟩
  obtain ⟨a1, c1, rfl⟩ := hi1.b.is.form
  obtain ⟨d1, e1, rfl, -⟩ := hi1.xs.form
  obtain ⟨m1, hm1⟩ : ∃ m1, m1 = x.b.length := ⟨_, rfl⟩
  obtain ⟨n1, hn1⟩ : ∃ n1, n1 = x.xs.length := ⟨_, rfl⟩
  rw [← hm1, ← hn1] at hi1
  rw [← hm1, ← hn1]
  have hz1 : Below w1.heap.size w1 (w1.alloc (.cells #[.bool xl, .slice a1 m1 c1, .slice d1 n1 e1] 31)) := by go_grown
  have HW1 : Hid (Below w.heap.size w (w1.alloc (.cells #[.bool xl, .slice a1 m1 c1, .slice d1 n1 e1] 31)) ∧ ItV (w1.alloc (.cells #[.bool xl, .slice a1 m1 c1, .slice d1 n1 e1] 31)) (fun b => b < (w1.alloc (.cells #[.bool xl, .slice a1 m1 c1, .slice d1 n1 e1] 31)).heap.size) (.slice a1 m1 c1) (.slice d1 n1 e1) x ∧ (w1.alloc (.cells #[.bool xl, .slice a1 m1 c1, .slice d1 n1 e1] 31)).heap[w1.heap.size]? = some (.cells #[.bool xl, .slice a1 m1 c1, .slice d1 n1 e1] 31)) := ⟨hb1.trans (hz1.mono hb1.size), hi1.up hz1, heap_alloc_new _ _⟩
  clear hz1 hb1 hi1 hm1 hn1
  go_wp2_with fail
  generalize w1.alloc (.cells #[.bool xl, .slice a1 m1 c1, .slice d1 n1 e1] 31) = V1 at HW1 ⊢
  generalize w1.heap.size = b1 at HW1 ⊢
  refine Calls.mono (C14.out V1 (HS.out.below HW1.out.1)) ?_
  rintro e w2 ⟨hb2, sb2, si2, rfl, hi2⟩
  obtain ⟨a2, c2, rfl⟩ := hi2.b.is.form
  obtain ⟨d2, e2, rfl, -⟩ := hi2.xs.form
  obtain ⟨m2, hm2⟩ : ∃ m2, m2 = x.b.length := ⟨_, rfl⟩
  obtain ⟨n2, hn2⟩ : ∃ n2, n2 = x.xs.length := ⟨_, rfl⟩
  rw [← hm2, ← hn2] at hi2
  rw [← hm2, ← hn2]
  have hz2 : Below w2.heap.size w2 (w2.alloc (.cells #[.bool xl, .slice a2 m2 c2, .slice d2 n2 e2] 25)) := by go_grown
  have hx2 : Below V1.heap.size V1 (w2.alloc (.cells #[.bool xl, .slice a2 m2 c2, .slice d2 n2 e2] 25)) := hb2.trans (hz2.mono hb2.size)
  have HW2 : Hid (Below w.heap.size w (w2.alloc (.cells #[.bool xl, .slice a2 m2 c2, .slice d2 n2 e2] 25)) ∧ ItV (w2.alloc (.cells #[.bool xl, .slice a2 m2 c2, .slice d2 n2 e2] 25)) (fun b => b < (w2.alloc (.cells #[.bool xl, .slice a2 m2 c2, .slice d2 n2 e2] 25)).heap.size) (.slice a1 m1 c1) (.slice d1 n1 e1) x ∧ (w2.alloc (.cells #[.bool xl, .slice a2 m2 c2, .slice d2 n2 e2] 25)).heap[b1]? = some (.cells #[.bool xl, .slice a1 m1 c1, .slice d1 n1 e1] 31) ∧ ItV (w2.alloc (.cells #[.bool xl, .slice a2 m2 c2, .slice d2 n2 e2] 25)) (fun b => b < (w2.alloc (.cells #[.bool xl, .slice a2 m2 c2, .slice d2 n2 e2] 25)).heap.size) (.slice a2 m2 c2) (.slice d2 n2 e2) x ∧ (w2.alloc (.cells #[.bool xl, .slice a2 m2 c2, .slice d2 n2 e2] 25)).heap[w2.heap.size]? = some (.cells #[.bool xl, .slice a2 m2 c2, .slice d2 n2 e2] 25)) := ⟨HW1.out.1.trans (hx2.mono HW1.out.1.size), HW1.out.2.1.up hx2, (hx2.block _ (heap_lt HW1.out.2.2)).trans HW1.out.2.2, hi2.up hz2, heap_alloc_new _ _⟩
  clear hx2 HW1
  clear hz2 hb2 hi2 hm2 hn2
  go_wp2_with fail
  generalize w2.alloc (.cells #[.bool xl, .slice a2 m2 c2, .slice d2 n2 e2] 25) = V2 at HW2 ⊢
  generalize w2.heap.size = b2 at HW2 ⊢
  refine Calls.mono (C15.out V2 (HS.out.below HW2.out.1)) ?_
  rintro e w3 ⟨hb3, sb3, si3, rfl, hi3⟩
  obtain ⟨a3, c3, rfl⟩ := hi3.b.is.form
  obtain ⟨d3, e3, rfl, -⟩ := hi3.xs.form
  obtain ⟨m3, hm3⟩ : ∃ m3, m3 = y.b.length := ⟨_, rfl⟩
  obtain ⟨n3, hn3⟩ : ∃ n3, n3 = y.xs.length := ⟨_, rfl⟩
  rw [← hm3, ← hn3] at hi3
  rw [← hm3, ← hn3]
  have hz3 : Below w3.heap.size w3 (w3.alloc (.cells #[.bool yl, .slice a3 m3 c3, .slice d3 n3 e3] 31)) := by go_grown
  have hx3 : Below V2.heap.size V2 (w3.alloc (.cells #[.bool yl, .slice a3 m3 c3, .slice d3 n3 e3] 31)) := hb3.trans (hz3.mono hb3.size)
  have HW3 : Hid (Below w.heap.size w (w3.alloc (.cells #[.bool yl, .slice a3 m3 c3, .slice d3 n3 e3] 31)) ∧ ItV (w3.alloc (.cells #[.bool yl, .slice a3 m3 c3, .slice d3 n3 e3] 31)) (fun b => b < (w3.alloc (.cells #[.bool yl, .slice a3 m3 c3, .slice d3 n3 e3] 31)).heap.size) (.slice a1 m1 c1) (.slice d1 n1 e1) x ∧ (w3.alloc (.cells #[.bool yl, .slice a3 m3 c3, .slice d3 n3 e3] 31)).heap[b1]? = some (.cells #[.bool xl, .slice a1 m1 c1, .slice d1 n1 e1] 31) ∧ ItV (w3.alloc (.cells #[.bool yl, .slice a3 m3 c3, .slice d3 n3 e3] 31)) (fun b => b < (w3.alloc (.cells #[.bool yl, .slice a3 m3 c3, .slice d3 n3 e3] 31)).heap.size) (.slice a2 m2 c2) (.slice d2 n2 e2) x ∧ (w3.alloc (.cells #[.bool yl, .slice a3 m3 c3, .slice d3 n3 e3] 31)).heap[b2]? = some (.cells #[.bool xl, .slice a2 m2 c2, .slice d2 n2 e2] 25) ∧ ItV (w3.alloc (.cells #[.bool yl, .slice a3 m3 c3, .slice d3 n3 e3] 31)) (fun b => b < (w3.alloc (.cells #[.bool yl, .slice a3 m3 c3, .slice d3 n3 e3] 31)).heap.size) (.slice a3 m3 c3) (.slice d3 n3 e3) y ∧ (w3.alloc (.cells #[.bool yl, .slice a3 m3 c3, .slice d3 n3 e3] 31)).heap[w3.heap.size]? = some (.cells #[.bool yl, .slice a3 m3 c3, .slice d3 n3 e3] 31)) := ⟨HW2.out.1.trans (hx3.mono HW2.out.1.size), HW2.out.2.1.up hx3, (hx3.block _ (heap_lt HW2.out.2.2.1)).trans HW2.out.2.2.1, HW2.out.2.2.2.1.up hx3, (hx3.block _ (heap_lt HW2.out.2.2.2.2)).trans HW2.out.2.2.2.2, hi3.up hz3, heap_alloc_new _ _⟩
  clear hx3 HW2
  clear hz3 hb3 hi3 hm3 hn3
  go_wp2_with fail
  generalize w3.alloc (.cells #[.bool yl, .slice a3 m3 c3, .slice d3 n3 e3] 31) = V3 at HW3 ⊢
  generalize w3.heap.size = b3 at HW3 ⊢
  refine Calls.mono (C16.out V3 (HS.out.below HW3.out.1)) ?_
  rintro e w4 ⟨hb4, sb4, si4, rfl, hi4⟩
  obtain ⟨a4, c4, rfl⟩ := hi4.b.is.form
  obtain ⟨d4, e4, rfl, -⟩ := hi4.xs.form
  obtain ⟨m4, hm4⟩ : ∃ m4, m4 = y.b.length := ⟨_, rfl⟩
  obtain ⟨n4, hn4⟩ : ∃ n4, n4 = y.xs.length := ⟨_, rfl⟩
  rw [← hm4, ← hn4] at hi4
  rw [← hm4, ← hn4]
  have hz4 : Below w4.heap.size w4 (w4.alloc (.cells #[.bool yl, .slice a4 m4 c4, .slice d4 n4 e4] 25)) := by go_grown
  have hx4 : Below V3.heap.size V3 (w4.alloc (.cells #[.bool yl, .slice a4 m4 c4, .slice d4 n4 e4] 25)) := hb4.trans (hz4.mono hb4.size)
  have HW4 : Hid (Below w.heap.size w (w4.alloc (.cells #[.bool yl, .slice a4 m4 c4, .slice d4 n4 e4] 25)) ∧ ItV (w4.alloc (.cells #[.bool yl, .slice a4 m4 c4, .slice d4 n4 e4] 25)) (fun b => b < (w4.alloc (.cells #[.bool yl, .slice a4 m4 c4, .slice d4 n4 e4] 25)).heap.size) (.slice a1 m1 c1) (.slice d1 n1 e1) x ∧ (w4.alloc (.cells #[.bool yl, .slice a4 m4 c4, .slice d4 n4 e4] 25)).heap[b1]? = some (.cells #[.bool xl, .slice a1 m1 c1, .slice d1 n1 e1] 31) ∧ ItV (w4.alloc (.cells #[.bool yl, .slice a4 m4 c4, .slice d4 n4 e4] 25)) (fun b => b < (w4.alloc (.cells #[.bool yl, .slice a4 m4 c4, .slice d4 n4 e4] 25)).heap.size) (.slice a2 m2 c2) (.slice d2 n2 e2) x ∧ (w4.alloc (.cells #[.bool yl, .slice a4 m4 c4, .slice d4 n4 e4] 25)).heap[b2]? = some (.cells #[.bool xl, .slice a2 m2 c2, .slice d2 n2 e2] 25) ∧ ItV (w4.alloc (.cells #[.bool yl, .slice a4 m4 c4, .slice d4 n4 e4] 25)) (fun b => b < (w4.alloc (.cells #[.bool yl, .slice a4 m4 c4, .slice d4 n4 e4] 25)).heap.size) (.slice a3 m3 c3) (.slice d3 n3 e3) y ∧ (w4.alloc (.cells #[.bool yl, .slice a4 m4 c4, .slice d4 n4 e4] 25)).heap[b3]? = some (.cells #[.bool yl, .slice a3 m3 c3, .slice d3 n3 e3] 31) ∧ ItV (w4.alloc (.cells #[.bool yl, .slice a4 m4 c4, .slice d4 n4 e4] 25)) (fun b => b < (w4.alloc (.cells #[.bool yl, .slice a4 m4 c4, .slice d4 n4 e4] 25)).heap.size) (.slice a4 m4 c4) (.slice d4 n4 e4) y ∧ (w4.alloc (.cells #[.bool yl, .slice a4 m4 c4, .slice d4 n4 e4] 25)).heap[w4.heap.size]? = some (.cells #[.bool yl, .slice a4 m4 c4, .slice d4 n4 e4] 25)) := ⟨HW3.out.1.trans (hx4.mono HW3.out.1.size), HW3.out.2.1.up hx4, (hx4.block _ (heap_lt HW3.out.2.2.1)).trans HW3.out.2.2.1, HW3.out.2.2.2.1.up hx4, (hx4.block _ (heap_lt HW3.out.2.2.2.2.1)).trans HW3.out.2.2.2.2.1, HW3.out.2.2.2.2.2.1.up hx4, (hx4.block _ (heap_lt HW3.out.2.2.2.2.2.2)).trans HW3.out.2.2.2.2.2.2, hi4.up hz4, heap_alloc_new _ _⟩
  clear hx4 HW3
  clear hz4 hb4 hi4 hm4 hn4
  go_wp2_with fail
  generalize w4.alloc (.cells #[.bool yl, .slice a4 m4 c4, .slice d4 n4 e4] 25) = V4 at HW4 ⊢
  generalize w4.heap.size = b4 at HW4 ⊢
  have hS0 : (fun w' => w'.heap[b1]? = some (.cells #[.bool xl, .slice a1 m1 c1, .slice d1 n1 e1] 31) ∧ w'.heap[b2]? = some (.cells #[.bool xl, .slice a2 m2 c2, .slice d2 n2 e2] 25) ∧ w'.heap[b3]? = some (.cells #[.bool yl, .slice a3 m3 c3, .slice d3 n3 e3] 31) ∧ w'.heap[b4]? = some (.cells #[.bool yl, .slice a4 m4 c4, .slice d4 n4 e4] 25)) V4.drew := ⟨HW4.out.2.2.1, HW4.out.2.2.2.2.1, HW4.out.2.2.2.2.2.2.1, HW4.out.2.2.2.2.2.2.2.2⟩
  have HI : Hid (Below w.heap.size w V4.drew ∧ ItV V4.drew (fun b => b < V4.drew.heap.size) (.slice a1 m1 c1) (.slice d1 n1 e1) x ∧ ItV V4.drew (fun b => b < V4.drew.heap.size) (.slice a2 m2 c2) (.slice d2 n2 e2) x ∧ ItV V4.drew (fun b => b < V4.drew.heap.size) (.slice a3 m3 c3) (.slice d3 n3 e3) y ∧ ItV V4.drew (fun b => b < V4.drew.heap.size) (.slice a4 m4 c4) (.slice d4 n4 e4) y) := ⟨⟨HW4.out.1.os, HW4.out.1.tape, HW4.out.1.output, HW4.out.1.size, HW4.out.1.block⟩, HW4.out.2.1.mono (fun _ _ => rfl) (fun _ h => h), HW4.out.2.2.2.1.mono (fun _ _ => rfl) (fun _ h => h), HW4.out.2.2.2.2.2.1.mono (fun _ _ => rfl) (fun _ h => h), HW4.out.2.2.2.2.2.2.2.1.mono (fun _ _ => rfl) (fun _ h => h)⟩
  clear HW4
  refine wp_noP ?_
  refine wp_region_held_drew (S := (fun w' => w'.heap[b1]? = some (.cells #[.bool xl, .slice a1 m1 c1, .slice d1 n1 e1] 31) ∧ w'.heap[b2]? = some (.cells #[.bool xl, .slice a2 m2 c2, .slice d2 n2 e2] 25) ∧ w'.heap[b3]? = some (.cells #[.bool yl, .slice a3 m3 c3, .slice d3 n3 e3] 31) ∧ w'.heap[b4]? = some (.cells #[.bool yl, .slice a4 m4 c4, .slice d4 n4 e4] 25))) (by kernel_rfl) hS0 (fun hHeld => ?_)
  generalize V4.drew = U0 at HI hHeld ⊢
  clear hS0
  refine wpAnyH_take (i := 0) (v := .int .i64 E1) rfl (by kernel_rfl) (by kernel_rfl) (by kernel_rfl) (fun _ _ _ h => h) (Or.inl ⟨by rfl, fun w9 hSw => ?_⟩) hHeld ?_
  · go_simp
  simp only [List.getElem_toArray, List.getElem_cons_succ, List.getElem_cons_zero, Act.put, List.setIfInBounds_toArray, List.set_cons_zero, List.set_cons_succ]
  refine wpAnyH_take (i := 1) (v := .int .i64 E1) rfl (by kernel_rfl) (by kernel_rfl) (by kernel_rfl) (fun _ _ _ h => h) (Or.inl ⟨by rfl, fun w9 hSw => ?_⟩) hHeld ?_
  · go_simp
  simp only [List.getElem_toArray, List.getElem_cons_succ, List.getElem_cons_zero, Act.put, List.setIfInBounds_toArray, List.set_cons_zero, List.set_cons_succ]
  refine wpAnyH_take (i := 2) (v := .bool true) rfl (by kernel_rfl) (by kernel_rfl) (by kernel_rfl) (fun _ _ _ h => h) (Or.inl ⟨by rfl, fun w9 hSw => ?_⟩) hHeld ?_
  · go_simp
  simp only [List.getElem_toArray, List.getElem_cons_succ, List.getElem_cons_zero, Act.put, List.setIfInBounds_toArray, List.set_cons_zero, List.set_cons_succ]
  refine wpAnyH_take (i := 3) (v := .bool true) rfl (by kernel_rfl) (by kernel_rfl) (by kernel_rfl) (fun _ _ _ h => h) (Or.inl ⟨by rfl, fun w9 hSw => ?_⟩) hHeld ?_
  · go_simp
  simp only [List.getElem_toArray, List.getElem_cons_succ, List.getElem_cons_zero, Act.put, List.setIfInBounds_toArray, List.set_cons_zero, List.set_cons_succ]
  refine wpAnyH_take (i := 4) (v := .agg #[.bool xl, .slice a1 m1 c1, .slice d1 n1 e1]) rfl (by kernel_rfl) (by kernel_rfl) (by kernel_rfl) (fun _ _ _ h => h) (Or.inl ⟨by rfl, fun w9 hSw => ?_⟩) hHeld ?_
  · have h0 : w9.cell? ⟨b1, 0, none⟩ = some (.bool xl) := (cell_of_block hSw.1 0).trans rfl
    have h1 : w9.cell? ⟨b1, 1, none⟩ = some (.slice a1 m1 c1) := (cell_of_block hSw.1 1).trans rfl
    have h2 : w9.cell? ⟨b1, 2, none⟩ = some (.slice d1 n1 e1) := (cell_of_block hSw.1 2).trans rfl
    go_simp
  simp only [List.getElem_toArray, List.getElem_cons_succ, List.getElem_cons_zero, Act.put, List.setIfInBounds_toArray, List.set_cons_zero, List.set_cons_succ]
  refine wpAnyH_take (i := 6) (v := .agg #[.bool xl, .slice a2 m2 c2, .slice d2 n2 e2]) rfl (by kernel_rfl) (by kernel_rfl) (by kernel_rfl) (fun _ _ _ h => h) (Or.inl ⟨by rfl, fun w9 hSw => ?_⟩) hHeld ?_
  · have h0 : w9.cell? ⟨b2, 0, none⟩ = some (.bool xl) := (cell_of_block hSw.2.1 0).trans rfl
    have h1 : w9.cell? ⟨b2, 1, none⟩ = some (.slice a2 m2 c2) := (cell_of_block hSw.2.1 1).trans rfl
    have h2 : w9.cell? ⟨b2, 2, none⟩ = some (.slice d2 n2 e2) := (cell_of_block hSw.2.1 2).trans rfl
    go_simp
  simp only [List.getElem_toArray, List.getElem_cons_succ, List.getElem_cons_zero, Act.put, List.setIfInBounds_toArray, List.set_cons_zero, List.set_cons_succ]
  refine wpAnyH_ready (rs := [5]) (by kernel_rfl) (by simp) ?_
  refine AllReadyH.cons rfl (fun K hK => ?_) AllReadyH.nil
  have hC := theirs_any x U0 _ _ _ HI.out.2.1 (fun b hb => hb)
  rw [← HL.out.1] at hC
  go_simp
  refine Calls.mono hC ?_
  clear hC
  rintro e U1 ⟨hb7, si7, rfl, hit7⟩
  obtain ⟨a7, c7, rfl, -⟩ := hit7.xs.form
  obtain ⟨n7, hn7⟩ : ∃ n7, n7 = x.xs.length := ⟨_, rfl⟩
  rw [← hn7] at hit7 ⊢
  have hS7 : (fun w' => w'.heap[b1]? = some (.cells #[.bool xl, .slice a1 m1 c1, .slice d1 n1 e1] 31) ∧ w'.heap[b2]? = some (.cells #[.bool xl, .slice a2 m2 c2, .slice d2 n2 e2] 25) ∧ w'.heap[b3]? = some (.cells #[.bool yl, .slice a3 m3 c3, .slice d3 n3 e3] 31) ∧ w'.heap[b4]? = some (.cells #[.bool yl, .slice a4 m4 c4, .slice d4 n4 e4] 25)) U1 := ⟨(hb7.block _ (heap_lt hHeld.1)).trans hHeld.1, (hb7.block _ (heap_lt hHeld.2.1)).trans hHeld.2.1, (hb7.block _ (heap_lt hHeld.2.2.1)).trans hHeld.2.2.1, (hb7.block _ (heap_lt hHeld.2.2.2)).trans hHeld.2.2.2⟩
  have HC7 : Hid _ := rsame_t x U1 (.slice a1 m1 c1) (.slice a7 n7 c7) (.slice a2 m2 c2) (.slice d2 n2 e2) (hit7.mono (fun _ _ => rfl) (fun b hb => hb.1)) (HI.out.2.2.1.up hb7)
  rw [← HL.out.1] at HC7
  have HI7 : Hid (Below w.heap.size w U1 ∧ ItV U1 (fun b => b < U1.heap.size) (.slice a3 m3 c3) (.slice d3 n3 e3) y ∧ ItV U1 (fun b => b < U1.heap.size) (.slice a4 m4 c4) (.slice d4 n4 e4) y) := ⟨HI.out.1.trans (hb7.mono HI.out.1.size), HI.out.2.2.2.1.up hb7, HI.out.2.2.2.2.up hb7⟩
  clear hb7 hit7 hn7 HI
  refine hK.out _ _ hS7 (fun hHeld => ?_)
  clear hK K
  try simp only [List.getElem_toArray, List.getElem_cons_succ, List.getElem_cons_zero, Act.put, List.setIfInBounds_toArray, List.set_cons_zero, List.set_cons_succ]
  clear hS7
  refine wpAnyH_ready (rs := [7]) (by kernel_rfl) (by simp) ?_
  refine AllReadyH.cons rfl (fun K hK => ?_) AllReadyH.nil
  go_simp
  refine Calls.mono HC7.out ?_
  clear HC7
  rintro e U2 ⟨hb8, rfl⟩
  have hS8 : (fun w' => w'.heap[b1]? = some (.cells #[.bool xl, .slice a1 m1 c1, .slice d1 n1 e1] 31) ∧ w'.heap[b2]? = some (.cells #[.bool xl, .slice a2 m2 c2, .slice d2 n2 e2] 25) ∧ w'.heap[b3]? = some (.cells #[.bool yl, .slice a3 m3 c3, .slice d3 n3 e3] 31) ∧ w'.heap[b4]? = some (.cells #[.bool yl, .slice a4 m4 c4, .slice d4 n4 e4] 25)) U2 := ⟨(hb8.block _ (heap_lt hHeld.1)).trans hHeld.1, (hb8.block _ (heap_lt hHeld.2.1)).trans hHeld.2.1, (hb8.block _ (heap_lt hHeld.2.2.1)).trans hHeld.2.2.1, (hb8.block _ (heap_lt hHeld.2.2.2)).trans hHeld.2.2.2⟩
  have HI : Hid (Below w.heap.size w U2 ∧ ItV U2 (fun b => b < U2.heap.size) (.slice a3 m3 c3) (.slice d3 n3 e3) y ∧ ItV U2 (fun b => b < U2.heap.size) (.slice a4 m4 c4) (.slice d4 n4 e4) y) := ⟨HI7.out.1.trans (hb8.mono HI7.out.1.size), HI7.out.2.1.up hb8, HI7.out.2.2.up hb8⟩
  clear hb8 HI7
  refine hK.out _ _ hS8 (fun hHeld => ?_)
  clear hK K
  try simp only [List.getElem_toArray, List.getElem_cons_succ, List.getElem_cons_zero, Act.put, List.setIfInBounds_toArray, List.set_cons_zero, List.set_cons_succ]
  clear hS8
  refine wpAnyH_take (i := 8) (v := .bool true) rfl (by kernel_rfl) (by kernel_rfl) (by kernel_rfl) (fun _ _ _ h => h) (Or.inl ⟨by rfl, fun w9 hSw => ?_⟩) hHeld ?_
  · go_simp
  simp only [List.getElem_toArray, List.getElem_cons_succ, List.getElem_cons_zero, Act.put, List.setIfInBounds_toArray, List.set_cons_zero, List.set_cons_succ]
  refine wpAnyH_take (i := 9) (v := .bool true) rfl (by kernel_rfl) (by kernel_rfl) (by kernel_rfl) (fun _ _ _ h => h) (Or.inl ⟨by rfl, fun w9 hSw => ?_⟩) hHeld ?_
  · go_simp
  simp only [List.getElem_toArray, List.getElem_cons_succ, List.getElem_cons_zero, Act.put, List.setIfInBounds_toArray, List.set_cons_zero, List.set_cons_succ]
  refine wpAnyH_take (i := 10) (v := .int .i64 E2) rfl (by kernel_rfl) (by kernel_rfl) (by kernel_rfl) (fun _ _ _ h => h) (Or.inl ⟨by rfl, fun w9 hSw => ?_⟩) hHeld ?_
  · go_simp
  simp only [List.getElem_toArray, List.getElem_cons_succ, List.getElem_cons_zero, Act.put, List.setIfInBounds_toArray, List.set_cons_zero, List.set_cons_succ]
  refine wpAnyH_take (i := 11) (v := .int .i64 E2) rfl (by kernel_rfl) (by kernel_rfl) (by kernel_rfl) (fun _ _ _ h => h) (Or.inl ⟨by rfl, fun w9 hSw => ?_⟩) hHeld ?_
  · go_simp
  simp only [List.getElem_toArray, List.getElem_cons_succ, List.getElem_cons_zero, Act.put, List.setIfInBounds_toArray, List.set_cons_zero, List.set_cons_succ]
  refine wpAnyH_take (i := 12) (v := .bool true) rfl (by kernel_rfl) (by kernel_rfl) (by kernel_rfl) (fun _ _ _ h => h) (Or.inl ⟨by rfl, fun w9 hSw => ?_⟩) hHeld ?_
  · go_simp
  simp only [List.getElem_toArray, List.getElem_cons_succ, List.getElem_cons_zero, Act.put, List.setIfInBounds_toArray, List.set_cons_zero, List.set_cons_succ]
  refine wpAnyH_take (i := 13) (v := .bool true) rfl (by kernel_rfl) (by kernel_rfl) (by kernel_rfl) (fun _ _ _ h => h) (Or.inl ⟨by rfl, fun w9 hSw => ?_⟩) hHeld ?_
  · go_simp
  simp only [List.getElem_toArray, List.getElem_cons_succ, List.getElem_cons_zero, Act.put, List.setIfInBounds_toArray, List.set_cons_zero, List.set_cons_succ]
  refine wpAnyH_take (i := 14) (v := .bool true) rfl (by kernel_rfl) (by kernel_rfl) (by kernel_rfl) (fun _ _ _ h => h) (Or.inl ⟨by rfl, fun w9 hSw => ?_⟩) hHeld ?_
  · go_simp
  simp only [List.getElem_toArray, List.getElem_cons_succ, List.getElem_cons_zero, Act.put, List.setIfInBounds_toArray, List.set_cons_zero, List.set_cons_succ]
  refine wpAnyH_take (i := 15) (v := .int .i64 n) rfl (by kernel_rfl) (by kernel_rfl) (by kernel_rfl) (fun _ _ _ h => h) (Or.inl ⟨by rfl, fun w9 hSw => ?_⟩) hHeld ?_
  · go_simp
  simp only [List.getElem_toArray, List.getElem_cons_succ, List.getElem_cons_zero, Act.put, List.setIfInBounds_toArray, List.set_cons_zero, List.set_cons_succ]
  refine wpAnyH_take (i := 16) (v := .int .i64 n) rfl (by kernel_rfl) (by kernel_rfl) (by kernel_rfl) (fun _ _ _ h => h) (Or.inl ⟨by rfl, fun w9 hSw => ?_⟩) hHeld ?_
  · go_simp
  simp only [List.getElem_toArray, List.getElem_cons_succ, List.getElem_cons_zero, Act.put, List.setIfInBounds_toArray, List.set_cons_zero, List.set_cons_succ]
  refine wpAnyH_take (i := 17) (v := .bool true) rfl (by kernel_rfl) (by kernel_rfl) (by kernel_rfl) (fun _ _ _ h => h) (Or.inl ⟨by rfl, fun w9 hSw => ?_⟩) hHeld ?_
  · go_simp
  simp only [List.getElem_toArray, List.getElem_cons_succ, List.getElem_cons_zero, Act.put, List.setIfInBounds_toArray, List.set_cons_zero, List.set_cons_succ]
  refine wpAnyH_take (i := 18) (v := .bool true) rfl (by kernel_rfl) (by kernel_rfl) (by kernel_rfl) (fun _ _ _ h => h) (Or.inl ⟨by rfl, fun w9 hSw => ?_⟩) hHeld ?_
  · go_simp
  simp only [List.getElem_toArray, List.getElem_cons_succ, List.getElem_cons_zero, Act.put, List.setIfInBounds_toArray, List.set_cons_zero, List.set_cons_succ]
  refine wpAnyH_take (i := 19) (v := .bool true) rfl (by kernel_rfl) (by kernel_rfl) (by kernel_rfl) (fun _ _ _ h => h) (Or.inl ⟨by rfl, fun w9 hSw => ?_⟩) hHeld ?_
  · go_simp
  simp only [List.getElem_toArray, List.getElem_cons_succ, List.getElem_cons_zero, Act.put, List.setIfInBounds_toArray, List.set_cons_zero, List.set_cons_succ]
  refine wpAnyH_take (i := 20) (v := .agg #[.bool yl, .slice a3 m3 c3, .slice d3 n3 e3]) rfl (by kernel_rfl) (by kernel_rfl) (by kernel_rfl) (fun _ _ _ h => h) (Or.inl ⟨by rfl, fun w9 hSw => ?_⟩) hHeld ?_
  · have h0 : w9.cell? ⟨b3, 0, none⟩ = some (.bool yl) := (cell_of_block hSw.2.2.1 0).trans rfl
    have h1 : w9.cell? ⟨b3, 1, none⟩ = some (.slice a3 m3 c3) := (cell_of_block hSw.2.2.1 1).trans rfl
    have h2 : w9.cell? ⟨b3, 2, none⟩ = some (.slice d3 n3 e3) := (cell_of_block hSw.2.2.1 2).trans rfl
    go_simp
  simp only [List.getElem_toArray, List.getElem_cons_succ, List.getElem_cons_zero, Act.put, List.setIfInBounds_toArray, List.set_cons_zero, List.set_cons_succ]
  refine wpAnyH_take (i := 22) (v := .agg #[.bool yl, .slice a4 m4 c4, .slice d4 n4 e4]) rfl (by kernel_rfl) (by kernel_rfl) (by kernel_rfl) (fun _ _ _ h => h) (Or.inl ⟨by rfl, fun w9 hSw => ?_⟩) hHeld ?_
  · have h0 : w9.cell? ⟨b4, 0, none⟩ = some (.bool yl) := (cell_of_block hSw.2.2.2 0).trans rfl
    have h1 : w9.cell? ⟨b4, 1, none⟩ = some (.slice a4 m4 c4) := (cell_of_block hSw.2.2.2 1).trans rfl
    have h2 : w9.cell? ⟨b4, 2, none⟩ = some (.slice d4 n4 e4) := (cell_of_block hSw.2.2.2 2).trans rfl
    go_simp
  simp only [List.getElem_toArray, List.getElem_cons_succ, List.getElem_cons_zero, Act.put, List.setIfInBounds_toArray, List.set_cons_zero, List.set_cons_succ]
  refine wpAnyH_ready (rs := [21]) (by kernel_rfl) (by simp) ?_
  refine AllReadyH.cons rfl (fun K hK => ?_) AllReadyH.nil
  have hC := theirs_any y U2 _ _ _ HI.out.2.1 (fun b hb => hb)
  rw [← HL.out.2] at hC
  go_simp
  refine Calls.mono hC ?_
  clear hC
  rintro e U3 ⟨hb7, si7, rfl, hit7⟩
  obtain ⟨a7, c7, rfl, -⟩ := hit7.xs.form
  obtain ⟨n7, hn7⟩ : ∃ n7, n7 = y.xs.length := ⟨_, rfl⟩
  rw [← hn7] at hit7 ⊢
  have hS7 : (fun w' => w'.heap[b1]? = some (.cells #[.bool xl, .slice a1 m1 c1, .slice d1 n1 e1] 31) ∧ w'.heap[b2]? = some (.cells #[.bool xl, .slice a2 m2 c2, .slice d2 n2 e2] 25) ∧ w'.heap[b3]? = some (.cells #[.bool yl, .slice a3 m3 c3, .slice d3 n3 e3] 31) ∧ w'.heap[b4]? = some (.cells #[.bool yl, .slice a4 m4 c4, .slice d4 n4 e4] 25)) U3 := ⟨(hb7.block _ (heap_lt hHeld.1)).trans hHeld.1, (hb7.block _ (heap_lt hHeld.2.1)).trans hHeld.2.1, (hb7.block _ (heap_lt hHeld.2.2.1)).trans hHeld.2.2.1, (hb7.block _ (heap_lt hHeld.2.2.2)).trans hHeld.2.2.2⟩
  have HC7 : Hid _ := rsame_t y U3 (.slice a3 m3 c3) (.slice a7 n7 c7) (.slice a4 m4 c4) (.slice d4 n4 e4) (hit7.mono (fun _ _ => rfl) (fun b hb => hb.1)) (HI.out.2.2.up hb7)
  rw [← HL.out.2] at HC7
  have HI7 : Hid (Below w.heap.size w U3) := HI.out.1.trans (hb7.mono HI.out.1.size)
  clear hb7 hit7 hn7 HI
  refine hK.out _ _ hS7 (fun hHeld => ?_)
  clear hK K
  try simp only [List.getElem_toArray, List.getElem_cons_succ, List.getElem_cons_zero, Act.put, List.setIfInBounds_toArray, List.set_cons_zero, List.set_cons_succ]
  clear hS7
  refine wpAnyH_ready (rs := [23]) (by kernel_rfl) (by simp) ?_
  refine AllReadyH.cons rfl (fun K hK => ?_) AllReadyH.nil
  go_simp
  refine Calls.mono HC7.out ?_
  clear HC7
  rintro e U4 ⟨hb8, rfl⟩
  have hS8 : (fun w' => w'.heap[b1]? = some (.cells #[.bool xl, .slice a1 m1 c1, .slice d1 n1 e1] 31) ∧ w'.heap[b2]? = some (.cells #[.bool xl, .slice a2 m2 c2, .slice d2 n2 e2] 25) ∧ w'.heap[b3]? = some (.cells #[.bool yl, .slice a3 m3 c3, .slice d3 n3 e3] 31) ∧ w'.heap[b4]? = some (.cells #[.bool yl, .slice a4 m4 c4, .slice d4 n4 e4] 25)) U4 := ⟨(hb8.block _ (heap_lt hHeld.1)).trans hHeld.1, (hb8.block _ (heap_lt hHeld.2.1)).trans hHeld.2.1, (hb8.block _ (heap_lt hHeld.2.2.1)).trans hHeld.2.2.1, (hb8.block _ (heap_lt hHeld.2.2.2)).trans hHeld.2.2.2⟩
  have HI : Hid (Below w.heap.size w U4) := HI7.out.trans (hb8.mono HI7.out.size)
  clear hb8 HI7
  refine hK.out _ _ hS8 (fun hHeld => ?_)
  clear hK K
  try simp only [List.getElem_toArray, List.getElem_cons_succ, List.getElem_cons_zero, Act.put, List.setIfInBounds_toArray, List.set_cons_zero, List.set_cons_succ]
  clear hS8
  refine wpAnyH_take (i := 24) (v := .bool true) rfl (by kernel_rfl) (by kernel_rfl) (by kernel_rfl) (fun _ _ _ h => h) (Or.inl ⟨by rfl, fun w9 hSw => ?_⟩) hHeld ?_
  · go_simp
  simp only [List.getElem_toArray, List.getElem_cons_succ, List.getElem_cons_zero, Act.put, List.setIfInBounds_toArray, List.set_cons_zero, List.set_cons_succ]
  refine wpAnyH_take (i := 25) (v := .bool true) rfl (by kernel_rfl) (by kernel_rfl) (by kernel_rfl) (fun _ _ _ h => h) (Or.inl ⟨by rfl, fun w9 hSw => ?_⟩) hHeld ?_
  · go_simp
  simp only [List.getElem_toArray, List.getElem_cons_succ, List.getElem_cons_zero, Act.put, List.setIfInBounds_toArray, List.set_cons_zero, List.set_cons_succ]
  refine wpAnyH_ready (rs := [26]) (by kernel_rfl) (by simp) ?_
  refine AllReadyH.cons rfl (fun K hK => ?_) AllReadyH.nil
  go_simp
  refine Calls.mono alive_any ?_
  rintro e w10 ⟨hb10, rfl⟩
  have hS10 : (fun w' => w'.heap[b1]? = some (.cells #[.bool xl, .slice a1 m1 c1, .slice d1 n1 e1] 31) ∧ w'.heap[b2]? = some (.cells #[.bool xl, .slice a2 m2 c2, .slice d2 n2 e2] 25) ∧ w'.heap[b3]? = some (.cells #[.bool yl, .slice a3 m3 c3, .slice d3 n3 e3] 31) ∧ w'.heap[b4]? = some (.cells #[.bool yl, .slice a4 m4 c4, .slice d4 n4 e4] 25)) w10 := ⟨(hb10.block _ (heap_lt hHeld.1)).trans hHeld.1, (hb10.block _ (heap_lt hHeld.2.1)).trans hHeld.2.1, (hb10.block _ (heap_lt hHeld.2.2.1)).trans hHeld.2.2.1, (hb10.block _ (heap_lt hHeld.2.2.2)).trans hHeld.2.2.2⟩
  have H10 : Hid (Below w.heap.size w w10) := HI.out.trans (hb10.mono HI.out.size)
  clear hb10 HI
  refine hK.out _ _ hS10 (fun hHeld => ?_)
  clear hK K
  try simp only [List.getElem_toArray, List.getElem_cons_succ, List.getElem_cons_zero, Act.put, List.setIfInBounds_toArray, List.set_cons_zero, List.set_cons_succ]
  refine wpAnyH_take (i := 27) (v := .bool true) rfl (by kernel_rfl) (by kernel_rfl) (by kernel_rfl) (fun _ _ _ h => h) (Or.inl ⟨by rfl, fun w9 hSw => ?_⟩) hHeld ?_
  · go_simp
  simp only [List.getElem_toArray, List.getElem_cons_succ, List.getElem_cons_zero, Act.put, List.setIfInBounds_toArray, List.set_cons_zero, List.set_cons_succ]
  refine wpAnyH_take (i := 28) (v := .bool true) rfl (by kernel_rfl) (by kernel_rfl) (by kernel_rfl) (fun _ _ _ h => h) (Or.inl ⟨by rfl, fun w9 hSw => ?_⟩) hHeld ?_
  · go_simp
  simp only [List.getElem_toArray, List.getElem_cons_succ, List.getElem_cons_zero, Act.put, List.setIfInBounds_toArray, List.set_cons_zero, List.set_cons_succ]
  refine wpAnyH_done (by kernel_rfl) ?_ _
  simp only [noP]
  clear hHeld hS10
  go_wp2
  go_ret
  exact ⟨H10.out, rfl⟩
end Go.Proofs.Ytmnlcpfehbpogaa
