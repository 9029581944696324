/- Walks over package gas: Sstore. -/
import Derived.Test.YtlpmmejdfenkiaaGC
namespace Go.Proofs.Ytlpmmejdfenkiaa
open Go.RowKit
set_option linter.unusedSimpArgs false
set_option linter.unusedVariables false
theorem cells_below {n : Nat} {W w1 : World} (hb : Below n W w1) (b o : Nat) (v : Value) (h : b < n) (c : W.cell? ⟨b, o, none⟩ = some v) : w1.cell? ⟨b, o, none⟩ = some v := (hb.cell (p := ⟨b, o, none⟩) h).trans c
theorem keep3 {n : Nat} {f0 f1 f2 f3 n0 n1 n2 n3 x0 x1 x2 x3 : Int} {W w1 : World} (h : n + 1 + 1 < W.heap.size ∧ W.cell? ⟨n, 0, none⟩ = some (.int .u64 f0) ∧ W.cell? ⟨n, 1, none⟩ = some (.int .u64 f1) ∧ W.cell? ⟨n, 2, none⟩ = some (.int .u64 f2) ∧ W.cell? ⟨n, 3, none⟩ = some (.int .u64 f3) ∧ W.cell? ⟨n + 1, 0, none⟩ = some (.int .u64 n0) ∧ W.cell? ⟨n + 1, 1, none⟩ = some (.int .u64 n1) ∧ W.cell? ⟨n + 1, 2, none⟩ = some (.int .u64 n2) ∧ W.cell? ⟨n + 1, 3, none⟩ = some (.int .u64 n3) ∧ W.cell? ⟨n + 1 + 1, 0, none⟩ = some (.int .u64 x0) ∧ W.cell? ⟨n + 1 + 1, 1, none⟩ = some (.int .u64 x1) ∧ W.cell? ⟨n + 1 + 1, 2, none⟩ = some (.int .u64 x2) ∧ W.cell? ⟨n + 1 + 1, 3, none⟩ = some (.int .u64 x3)) (hb : Below (n + 1 + 1 + 1) W w1) : n + 1 + 1 < w1.heap.size ∧ w1.cell? ⟨n, 0, none⟩ = some (.int .u64 f0) ∧ w1.cell? ⟨n, 1, none⟩ = some (.int .u64 f1) ∧ w1.cell? ⟨n, 2, none⟩ = some (.int .u64 f2) ∧ w1.cell? ⟨n, 3, none⟩ = some (.int .u64 f3) ∧ w1.cell? ⟨n + 1, 0, none⟩ = some (.int .u64 n0) ∧ w1.cell? ⟨n + 1, 1, none⟩ = some (.int .u64 n1) ∧ w1.cell? ⟨n + 1, 2, none⟩ = some (.int .u64 n2) ∧ w1.cell? ⟨n + 1, 3, none⟩ = some (.int .u64 n3) ∧ w1.cell? ⟨n + 1 + 1, 0, none⟩ = some (.int .u64 x0) ∧ w1.cell? ⟨n + 1 + 1, 1, none⟩ = some (.int .u64 x1) ∧ w1.cell? ⟨n + 1 + 1, 2, none⟩ = some (.int .u64 x2) ∧ w1.cell? ⟨n + 1 + 1, 3, none⟩ = some (.int .u64 x3) := by
  obtain ⟨hz, c00, c01, c02, c03, c10, c11, c12, c13, c20, c21, c22, c23⟩ := h
  exact ⟨Nat.lt_of_lt_of_le hz hb.size, cells_below hb _ _ _ (by omega) c00, cells_below hb _ _ _ (by omega) c01, cells_below hb _ _ _ (by omega) c02, cells_below hb _ _ _ (by omega) c03, cells_below hb _ _ _ (by omega) c10, cells_below hb _ _ _ (by omega) c11, cells_below hb _ _ _ (by omega) c12, cells_below hb _ _ _ (by omega) c13, cells_below hb _ _ _ (by omega) c20, cells_below hb _ _ _ (by omega) c21, cells_below hb _ _ _ (by omega) c22, cells_below hb _ _ _ (by omega) c23⟩
theorem keep3b {n : Nat} {f0 f1 f2 f3 n0 n1 n2 n3 x0 x1 x2 x3 : Int} {W w1 : World} (h : n + 1 + 1 < W.heap.size ∧ W.cell? ⟨n, 0, none⟩ = some (.int .u64 f0) ∧ W.cell? ⟨n, 1, none⟩ = some (.int .u64 f1) ∧ W.cell? ⟨n, 2, none⟩ = some (.int .u64 f2) ∧ W.cell? ⟨n, 3, none⟩ = some (.int .u64 f3) ∧ W.cell? ⟨n + 1, 0, none⟩ = some (.int .u64 n0) ∧ W.cell? ⟨n + 1, 1, none⟩ = some (.int .u64 n1) ∧ W.cell? ⟨n + 1, 2, none⟩ = some (.int .u64 n2) ∧ W.cell? ⟨n + 1, 3, none⟩ = some (.int .u64 n3) ∧ W.cell? ⟨n + 1 + 1, 0, none⟩ = some (.int .u64 x0) ∧ W.cell? ⟨n + 1 + 1, 1, none⟩ = some (.int .u64 x1) ∧ W.cell? ⟨n + 1 + 1, 2, none⟩ = some (.int .u64 x2) ∧ W.cell? ⟨n + 1 + 1, 3, none⟩ = some (.int .u64 x3)) (hb : Below W.heap.size W w1) : n + 1 + 1 < w1.heap.size ∧ w1.cell? ⟨n, 0, none⟩ = some (.int .u64 f0) ∧ w1.cell? ⟨n, 1, none⟩ = some (.int .u64 f1) ∧ w1.cell? ⟨n, 2, none⟩ = some (.int .u64 f2) ∧ w1.cell? ⟨n, 3, none⟩ = some (.int .u64 f3) ∧ w1.cell? ⟨n + 1, 0, none⟩ = some (.int .u64 n0) ∧ w1.cell? ⟨n + 1, 1, none⟩ = some (.int .u64 n1) ∧ w1.cell? ⟨n + 1, 2, none⟩ = some (.int .u64 n2) ∧ w1.cell? ⟨n + 1, 3, none⟩ = some (.int .u64 n3) ∧ w1.cell? ⟨n + 1 + 1, 0, none⟩ = some (.int .u64 x0) ∧ w1.cell? ⟨n + 1 + 1, 1, none⟩ = some (.int .u64 x1) ∧ w1.cell? ⟨n + 1 + 1, 2, none⟩ = some (.int .u64 x2) ∧ w1.cell? ⟨n + 1 + 1, 3, none⟩ = some (.int .u64 x3) := keep3 h (hb.mono (by have := h.1; omega))
theorem keep3s {n : Nat} {f0 f1 f2 f3 n0 n1 n2 n3 x0 x1 x2 x3 : Int} {W0 W w1 : World} (h : n + 1 + 1 < W0.heap.size ∧ W0.cell? ⟨n, 0, none⟩ = some (.int .u64 f0) ∧ W0.cell? ⟨n, 1, none⟩ = some (.int .u64 f1) ∧ W0.cell? ⟨n, 2, none⟩ = some (.int .u64 f2) ∧ W0.cell? ⟨n, 3, none⟩ = some (.int .u64 f3) ∧ W0.cell? ⟨n + 1, 0, none⟩ = some (.int .u64 n0) ∧ W0.cell? ⟨n + 1, 1, none⟩ = some (.int .u64 n1) ∧ W0.cell? ⟨n + 1, 2, none⟩ = some (.int .u64 n2) ∧ W0.cell? ⟨n + 1, 3, none⟩ = some (.int .u64 n3) ∧ W0.cell? ⟨n + 1 + 1, 0, none⟩ = some (.int .u64 x0) ∧ W0.cell? ⟨n + 1 + 1, 1, none⟩ = some (.int .u64 x1) ∧ W0.cell? ⟨n + 1 + 1, 2, none⟩ = some (.int .u64 x2) ∧ W0.cell? ⟨n + 1 + 1, 3, none⟩ = some (.int .u64 x3)) (h1 : Below (n + 1 + 1 + 1) W0 W) (hb : Below W.heap.size W w1) : n + 1 + 1 < w1.heap.size ∧ w1.cell? ⟨n, 0, none⟩ = some (.int .u64 f0) ∧ w1.cell? ⟨n, 1, none⟩ = some (.int .u64 f1) ∧ w1.cell? ⟨n, 2, none⟩ = some (.int .u64 f2) ∧ w1.cell? ⟨n, 3, none⟩ = some (.int .u64 f3) ∧ w1.cell? ⟨n + 1, 0, none⟩ = some (.int .u64 n0) ∧ w1.cell? ⟨n + 1, 1, none⟩ = some (.int .u64 n1) ∧ w1.cell? ⟨n + 1, 2, none⟩ = some (.int .u64 n2) ∧ w1.cell? ⟨n + 1, 3, none⟩ = some (.int .u64 n3) ∧ w1.cell? ⟨n + 1 + 1, 0, none⟩ = some (.int .u64 x0) ∧ w1.cell? ⟨n + 1 + 1, 1, none⟩ = some (.int .u64 x1) ∧ w1.cell? ⟨n + 1 + 1, 2, none⟩ = some (.int .u64 x2) ∧ w1.cell? ⟨n + 1 + 1, 3, none⟩ = some (.int .u64 x3) := keep3b (keep3 h h1) hb
/-- What a change costs; what it gives back. -/
def costN (en ef zf : Bool) : Int := if en then 100 else if ef then (if zf then 20000 else 2900) else 100
def refN (en ef exf zf zn zx : Bool) : Int := if en then 0 else if ef then (if zf then 0 else if zx then 4800 else 0) else clrN zf zn zx + backN exf zf
theorem clr_bd (a b c : Bool) : -4800 ≤ clrN a b c ∧ clrN a b c ≤ 4800 := by cases a <;> cases b <;> cases c <;> decide
theorem back_bd (a b : Bool) : 0 ≤ backN a b ∧ backN a b ≤ 19900 := by cases a <;> cases b <;> decide
set_option maxHeartbeats 4000000 in
/-- gas.change -/
theorem change_any (f0 f1 f2 f3 n0 n1 n2 n3 x0 x1 x2 x3 : Int) (hf : L4 f0 f1 f2 f3) (hn : L4 n0 n1 n2 n3) (hx : L4 x0 x1 x2 x3) (w : World) :
    Calls Try.prog 42 #[W4 f0 f1 f2 f3, W4 n0 n1 n2 n3, W4 x0 x1 x2 x3] w fun e w' => e = .returned (.tuple #[.int .u64 (costN (num x0 x1 x2 x3 == num n0 n1 n2 n3) (num n0 n1 n2 n3 == num f0 f1 f2 f3) (num f0 f1 f2 f3 == 0)), .int .i64 (refN (num x0 x1 x2 x3 == num n0 n1 n2 n3) (num n0 n1 n2 n3 == num f0 f1 f2 f3) (num x0 x1 x2 x3 == num f0 f1 f2 f3) (num f0 f1 f2 f3 == 0) (num n0 n1 n2 n3 == 0) (num x0 x1 x2 x3 == 0))]) ∧ Below w.heap.size w w' := by
  have ZF := zero_any f0 f1 f2 f3 hf
  have ZX := zero_any x0 x1 x2 x3 hx
  have q1 := fun w => eq30_num hx hn w
  have q2 := fun w => eq30_num hn hf w
  have HC : Hid (∀ w, _) := clearing_any f0 f1 f2 f3 n0 n1 n2 n3 x0 x1 x2 x3 hf hn hx
  have HD : Hid (∀ w, _) := comingBack_any f0 f1 f2 f3 x0 x1 x2 x3 hf hx
  generalize (num x0 x1 x2 x3 == num n0 n1 n2 n3) = en at *
  generalize (num n0 n1 n2 n3 == num f0 f1 f2 f3) = ef at *
  generalize (num x0 x1 x2 x3 == num f0 f1 f2 f3) = ex at *
  generalize (num f0 f1 f2 f3 == 0) = zf at *
  generalize (num n0 n1 n2 n3 == 0) = zn at *
  generalize (num x0 x1 x2 x3 == 0) = zx at *
  clear hf hn hx
  unfold W4 at *
  cases en
  · cases ef
    · have e1 := clr_bd zf zn zx
      have e2 := back_bd ex zf
      obtain ⟨R, hR⟩ : ∃ R, R = clrN zf zn zx := ⟨_, rfl⟩
      obtain ⟨T, hT⟩ : ∃ T, T = backN ex zf := ⟨_, rfl⟩
      have e3 : refN false false ex zf zn zx = R + T := by rw [hR, hT]; rfl
      rw [e3]
      rw [← hR] at e1 HC
      rw [← hT] at e2 HD
      clear hR hT e3
      obtain ⟨e1, e1'⟩ := e1
      obtain ⟨e2, e2'⟩ := e2
      have hwr : IntKind.i64.wrap (R + T) = R + T := by rw [IntKind.wrap_i64]; omega
      go_enter Try.func42, Try.ntmps42
      go_wp2
      have hB : Below w.heap.size w (((w.alloc (.cells #[.int .u64 f0, .int .u64 f1, .int .u64 f2, .int .u64 f3] 30)).alloc (.cells #[.int .u64 n0, .int .u64 n1, .int .u64 n2, .int .u64 n3] 30)).alloc (.cells #[.int .u64 x0, .int .u64 x1, .int .u64 x2, .int .u64 x3] 30)) := by go_grown
      have s : Hid (w.heap.size + 1 + 1 < (((w.alloc (.cells #[.int .u64 f0, .int .u64 f1, .int .u64 f2, .int .u64 f3] 30)).alloc (.cells #[.int .u64 n0, .int .u64 n1, .int .u64 n2, .int .u64 n3] 30)).alloc (.cells #[.int .u64 x0, .int .u64 x1, .int .u64 x2, .int .u64 x3] 30)).heap.size ∧ (((w.alloc (.cells #[.int .u64 f0, .int .u64 f1, .int .u64 f2, .int .u64 f3] 30)).alloc (.cells #[.int .u64 n0, .int .u64 n1, .int .u64 n2, .int .u64 n3] 30)).alloc (.cells #[.int .u64 x0, .int .u64 x1, .int .u64 x2, .int .u64 x3] 30)).cell? ⟨w.heap.size, 0, none⟩ = some (.int .u64 f0) ∧ (((w.alloc (.cells #[.int .u64 f0, .int .u64 f1, .int .u64 f2, .int .u64 f3] 30)).alloc (.cells #[.int .u64 n0, .int .u64 n1, .int .u64 n2, .int .u64 n3] 30)).alloc (.cells #[.int .u64 x0, .int .u64 x1, .int .u64 x2, .int .u64 x3] 30)).cell? ⟨w.heap.size, 1, none⟩ = some (.int .u64 f1) ∧ (((w.alloc (.cells #[.int .u64 f0, .int .u64 f1, .int .u64 f2, .int .u64 f3] 30)).alloc (.cells #[.int .u64 n0, .int .u64 n1, .int .u64 n2, .int .u64 n3] 30)).alloc (.cells #[.int .u64 x0, .int .u64 x1, .int .u64 x2, .int .u64 x3] 30)).cell? ⟨w.heap.size, 2, none⟩ = some (.int .u64 f2) ∧ (((w.alloc (.cells #[.int .u64 f0, .int .u64 f1, .int .u64 f2, .int .u64 f3] 30)).alloc (.cells #[.int .u64 n0, .int .u64 n1, .int .u64 n2, .int .u64 n3] 30)).alloc (.cells #[.int .u64 x0, .int .u64 x1, .int .u64 x2, .int .u64 x3] 30)).cell? ⟨w.heap.size, 3, none⟩ = some (.int .u64 f3) ∧ (((w.alloc (.cells #[.int .u64 f0, .int .u64 f1, .int .u64 f2, .int .u64 f3] 30)).alloc (.cells #[.int .u64 n0, .int .u64 n1, .int .u64 n2, .int .u64 n3] 30)).alloc (.cells #[.int .u64 x0, .int .u64 x1, .int .u64 x2, .int .u64 x3] 30)).cell? ⟨w.heap.size + 1, 0, none⟩ = some (.int .u64 n0) ∧ (((w.alloc (.cells #[.int .u64 f0, .int .u64 f1, .int .u64 f2, .int .u64 f3] 30)).alloc (.cells #[.int .u64 n0, .int .u64 n1, .int .u64 n2, .int .u64 n3] 30)).alloc (.cells #[.int .u64 x0, .int .u64 x1, .int .u64 x2, .int .u64 x3] 30)).cell? ⟨w.heap.size + 1, 1, none⟩ = some (.int .u64 n1) ∧ (((w.alloc (.cells #[.int .u64 f0, .int .u64 f1, .int .u64 f2, .int .u64 f3] 30)).alloc (.cells #[.int .u64 n0, .int .u64 n1, .int .u64 n2, .int .u64 n3] 30)).alloc (.cells #[.int .u64 x0, .int .u64 x1, .int .u64 x2, .int .u64 x3] 30)).cell? ⟨w.heap.size + 1, 2, none⟩ = some (.int .u64 n2) ∧ (((w.alloc (.cells #[.int .u64 f0, .int .u64 f1, .int .u64 f2, .int .u64 f3] 30)).alloc (.cells #[.int .u64 n0, .int .u64 n1, .int .u64 n2, .int .u64 n3] 30)).alloc (.cells #[.int .u64 x0, .int .u64 x1, .int .u64 x2, .int .u64 x3] 30)).cell? ⟨w.heap.size + 1, 3, none⟩ = some (.int .u64 n3) ∧ (((w.alloc (.cells #[.int .u64 f0, .int .u64 f1, .int .u64 f2, .int .u64 f3] 30)).alloc (.cells #[.int .u64 n0, .int .u64 n1, .int .u64 n2, .int .u64 n3] 30)).alloc (.cells #[.int .u64 x0, .int .u64 x1, .int .u64 x2, .int .u64 x3] 30)).cell? ⟨w.heap.size + 1 + 1, 0, none⟩ = some (.int .u64 x0) ∧ (((w.alloc (.cells #[.int .u64 f0, .int .u64 f1, .int .u64 f2, .int .u64 f3] 30)).alloc (.cells #[.int .u64 n0, .int .u64 n1, .int .u64 n2, .int .u64 n3] 30)).alloc (.cells #[.int .u64 x0, .int .u64 x1, .int .u64 x2, .int .u64 x3] 30)).cell? ⟨w.heap.size + 1 + 1, 1, none⟩ = some (.int .u64 x1) ∧ (((w.alloc (.cells #[.int .u64 f0, .int .u64 f1, .int .u64 f2, .int .u64 f3] 30)).alloc (.cells #[.int .u64 n0, .int .u64 n1, .int .u64 n2, .int .u64 n3] 30)).alloc (.cells #[.int .u64 x0, .int .u64 x1, .int .u64 x2, .int .u64 x3] 30)).cell? ⟨w.heap.size + 1 + 1, 2, none⟩ = some (.int .u64 x2) ∧ (((w.alloc (.cells #[.int .u64 f0, .int .u64 f1, .int .u64 f2, .int .u64 f3] 30)).alloc (.cells #[.int .u64 n0, .int .u64 n1, .int .u64 n2, .int .u64 n3] 30)).alloc (.cells #[.int .u64 x0, .int .u64 x1, .int .u64 x2, .int .u64 x3] 30)).cell? ⟨w.heap.size + 1 + 1, 3, none⟩ = some (.int .u64 x3)) := by
        show _ ∧ _
        simp [go_sem, World.cell?_alloc_past]
      generalize (((w.alloc (.cells #[.int .u64 f0, .int .u64 f1, .int .u64 f2, .int .u64 f3] 30)).alloc (.cells #[.int .u64 n0, .int .u64 n1, .int .u64 n2, .int .u64 n3] 30)).alloc (.cells #[.int .u64 x0, .int .u64 x1, .int .u64 x2, .int .u64 x3] 30)) = W at *
      go_region_held3 (fun w' => w.heap.size + 1 + 1 < w'.heap.size ∧ w'.cell? ⟨w.heap.size, 0, none⟩ = some (.int .u64 f0) ∧ w'.cell? ⟨w.heap.size, 1, none⟩ = some (.int .u64 f1) ∧ w'.cell? ⟨w.heap.size, 2, none⟩ = some (.int .u64 f2) ∧ w'.cell? ⟨w.heap.size, 3, none⟩ = some (.int .u64 f3) ∧ w'.cell? ⟨w.heap.size + 1, 0, none⟩ = some (.int .u64 n0) ∧ w'.cell? ⟨w.heap.size + 1, 1, none⟩ = some (.int .u64 n1) ∧ w'.cell? ⟨w.heap.size + 1, 2, none⟩ = some (.int .u64 n2) ∧ w'.cell? ⟨w.heap.size + 1, 3, none⟩ = some (.int .u64 n3) ∧ w'.cell? ⟨w.heap.size + 1 + 1, 0, none⟩ = some (.int .u64 x0) ∧ w'.cell? ⟨w.heap.size + 1 + 1, 1, none⟩ = some (.int .u64 x1) ∧ w'.cell? ⟨w.heap.size + 1 + 1, 2, none⟩ = some (.int .u64 x2) ∧ w'.cell? ⟨w.heap.size + 1 + 1, 3, none⟩ = some (.int .u64 x3)) ((refine keep3 s.out ?_; go_grown; done))
        (first
          | (go_at_call 47; go_must (refine (HC.out _).mono ?_; rintro e w1 ⟨rfl, hw⟩; have hB : Below w.heap.size w w1 := Below.trans (by go_grown) (hw.mono (by have := s.out.1; go_size)); have s : Hid _ := keep3s s.out (by go_grown) hw))
          | (go_at_call 48; go_must (refine (HD.out _).mono ?_; rintro e w2 ⟨rfl, hw2⟩; have hB : Below w.heap.size w w2 := Below.trans (by go_grown) (hw2.mono (by have := s.out.1; go_size)); have s : Hid _ := keep3s s.out (by go_grown) hw2)))
      all_goals go_wp2
      all_goals go_ret2
      all_goals exact ⟨rfl, by go_grown⟩
    · cases zf
      · cases zx
        all_goals
          go_enter Try.func42, Try.ntmps42
          go_wp2_with fail
          refine (ZF _).mono ?_
          rintro e w' ⟨rfl, c, rfl⟩
          go_wp2_with fail
          refine (ZX _).mono ?_
          rintro e w' ⟨rfl, c, rfl⟩
          go_wp2
          go_ret2
          exact ⟨rfl, by go_grown⟩
      · go_enter Try.func42, Try.ntmps42
        go_wp2_with fail
        refine (ZF _).mono ?_
        rintro e w' ⟨rfl, c, rfl⟩
        go_wp2
        go_ret2
        exact ⟨rfl, by go_grown⟩
  · go_enter Try.func42, Try.ntmps42
    go_wp2
    go_ret2
    exact ⟨rfl, by go_grown⟩
end Go.Proofs.Ytlpmmejdfenkiaa
