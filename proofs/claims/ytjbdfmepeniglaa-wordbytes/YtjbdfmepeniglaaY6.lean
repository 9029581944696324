/- The walk over WordBytes: how words are written, and which bytes are words. -/
import Derived.Test.YtjbdfmepeniglaaY5
import Derived.Test.YtjbdfmepeniglaaX5
import Derived.Test.YtjbdfmepeniglaaA1
namespace Go.Proofs.Ytjbdfmepeniglaa
open Go.RowKit
set_option linter.unusedSimpArgs false
set_option linter.unusedVariables false
theorem lenN_ex (X : Int) (h0 : 0 ≤ X) : ∀ m : Nat, X < 256 ^ m → ∃ l, l ≤ m ∧ lenN X l
  | 0, h => ⟨0, Nat.le_refl _, h, Or.inl rfl⟩
  | m + 1, h => by
    by_cases g : X < 256 ^ m
    · obtain ⟨l, h1, h2⟩ := lenN_ex X h0 m g
      exact ⟨l, by omega, h2⟩
    · exact ⟨m + 1, Nat.le_refl _, h, Or.inr (by rw [Nat.add_sub_cancel]; omega)⟩
theorem keepV {b0 b1 b2 : Nat} {p0 p1 p2 p3 q0 q1 q2 q3 r0 r1 r2 r3 : Int} {W w1 : World} (h : b0 < W.heap.size ∧ b1 < W.heap.size ∧ b2 < W.heap.size ∧ W.cell? ⟨b0, 0, none⟩ = some (.int .u64 p0) ∧ W.cell? ⟨b0, 1, none⟩ = some (.int .u64 p1) ∧ W.cell? ⟨b0, 2, none⟩ = some (.int .u64 p2) ∧ W.cell? ⟨b0, 3, none⟩ = some (.int .u64 p3) ∧ W.cell? ⟨b1, 0, none⟩ = some (.int .u64 q0) ∧ W.cell? ⟨b1, 1, none⟩ = some (.int .u64 q1) ∧ W.cell? ⟨b1, 2, none⟩ = some (.int .u64 q2) ∧ W.cell? ⟨b1, 3, none⟩ = some (.int .u64 q3) ∧ W.cell? ⟨b2, 0, none⟩ = some (.int .u64 r0) ∧ W.cell? ⟨b2, 1, none⟩ = some (.int .u64 r1) ∧ W.cell? ⟨b2, 2, none⟩ = some (.int .u64 r2) ∧ W.cell? ⟨b2, 3, none⟩ = some (.int .u64 r3)) (hb : Below W.heap.size W w1) : b0 < w1.heap.size ∧ b1 < w1.heap.size ∧ b2 < w1.heap.size ∧ w1.cell? ⟨b0, 0, none⟩ = some (.int .u64 p0) ∧ w1.cell? ⟨b0, 1, none⟩ = some (.int .u64 p1) ∧ w1.cell? ⟨b0, 2, none⟩ = some (.int .u64 p2) ∧ w1.cell? ⟨b0, 3, none⟩ = some (.int .u64 p3) ∧ w1.cell? ⟨b1, 0, none⟩ = some (.int .u64 q0) ∧ w1.cell? ⟨b1, 1, none⟩ = some (.int .u64 q1) ∧ w1.cell? ⟨b1, 2, none⟩ = some (.int .u64 q2) ∧ w1.cell? ⟨b1, 3, none⟩ = some (.int .u64 q3) ∧ w1.cell? ⟨b2, 0, none⟩ = some (.int .u64 r0) ∧ w1.cell? ⟨b2, 1, none⟩ = some (.int .u64 r1) ∧ w1.cell? ⟨b2, 2, none⟩ = some (.int .u64 r2) ∧ w1.cell? ⟨b2, 3, none⟩ = some (.int .u64 r3) := by
  obtain ⟨h0, h1, h2, x0, x1, x2, x3, y0, y1, y2, y3, z0, z1, z2, z3⟩ := h
  exact ⟨Nat.lt_of_lt_of_le h0 hb.size, Nat.lt_of_lt_of_le h1 hb.size, Nat.lt_of_lt_of_le h2 hb.size, (hb.cell (p := ⟨_, 0, none⟩) h0).trans x0, (hb.cell (p := ⟨_, 1, none⟩) h0).trans x1, (hb.cell (p := ⟨_, 2, none⟩) h0).trans x2, (hb.cell (p := ⟨_, 3, none⟩) h0).trans x3, (hb.cell (p := ⟨_, 0, none⟩) h1).trans y0, (hb.cell (p := ⟨_, 1, none⟩) h1).trans y1, (hb.cell (p := ⟨_, 2, none⟩) h1).trans y2, (hb.cell (p := ⟨_, 3, none⟩) h1).trans y3, (hb.cell (p := ⟨_, 0, none⟩) h2).trans z0, (hb.cell (p := ⟨_, 1, none⟩) h2).trans z1, (hb.cell (p := ⟨_, 2, none⟩) h2).trans z2, (hb.cell (p := ⟨_, 3, none⟩) h2).trans z3⟩
theorem keepVs {b0 b1 b2 : Nat} {p0 p1 p2 p3 q0 q1 q2 q3 r0 r1 r2 r3 : Int} {W0 W w1 : World} (h : b0 < W0.heap.size ∧ b1 < W0.heap.size ∧ b2 < W0.heap.size ∧ W0.cell? ⟨b0, 0, none⟩ = some (.int .u64 p0) ∧ W0.cell? ⟨b0, 1, none⟩ = some (.int .u64 p1) ∧ W0.cell? ⟨b0, 2, none⟩ = some (.int .u64 p2) ∧ W0.cell? ⟨b0, 3, none⟩ = some (.int .u64 p3) ∧ W0.cell? ⟨b1, 0, none⟩ = some (.int .u64 q0) ∧ W0.cell? ⟨b1, 1, none⟩ = some (.int .u64 q1) ∧ W0.cell? ⟨b1, 2, none⟩ = some (.int .u64 q2) ∧ W0.cell? ⟨b1, 3, none⟩ = some (.int .u64 q3) ∧ W0.cell? ⟨b2, 0, none⟩ = some (.int .u64 r0) ∧ W0.cell? ⟨b2, 1, none⟩ = some (.int .u64 r1) ∧ W0.cell? ⟨b2, 2, none⟩ = some (.int .u64 r2) ∧ W0.cell? ⟨b2, 3, none⟩ = some (.int .u64 r3)) (h1 : Below W0.heap.size W0 W) (hb : Below W.heap.size W w1) : b0 < w1.heap.size ∧ b1 < w1.heap.size ∧ b2 < w1.heap.size ∧ w1.cell? ⟨b0, 0, none⟩ = some (.int .u64 p0) ∧ w1.cell? ⟨b0, 1, none⟩ = some (.int .u64 p1) ∧ w1.cell? ⟨b0, 2, none⟩ = some (.int .u64 p2) ∧ w1.cell? ⟨b0, 3, none⟩ = some (.int .u64 p3) ∧ w1.cell? ⟨b1, 0, none⟩ = some (.int .u64 q0) ∧ w1.cell? ⟨b1, 1, none⟩ = some (.int .u64 q1) ∧ w1.cell? ⟨b1, 2, none⟩ = some (.int .u64 q2) ∧ w1.cell? ⟨b1, 3, none⟩ = some (.int .u64 q3) ∧ w1.cell? ⟨b2, 0, none⟩ = some (.int .u64 r0) ∧ w1.cell? ⟨b2, 1, none⟩ = some (.int .u64 r1) ∧ w1.cell? ⟨b2, 2, none⟩ = some (.int .u64 r2) ∧ w1.cell? ⟨b2, 3, none⟩ = some (.int .u64 r3) := keepV (keepV h h1) hb
theorem Cel.onto {w : World} {b : Nat} {x0 x1 x2 x3 : Int} (h : Cel w b x0 x1 x2 x3) (o : Obj) : Cel (w.alloc o) b x0 x1 x2 x3 := by
  obtain ⟨hz, c0, c1, c2, c3⟩ := h
  refine ⟨by simp; omega, ?_, ?_, ?_, ?_⟩
  · rw [World.cell?_alloc_past _ _ _ hz]; exact c0
  · rw [World.cell?_alloc_past _ _ _ hz]; exact c1
  · rw [World.cell?_alloc_past _ _ _ hz]; exact c2
  · rw [World.cell?_alloc_past _ _ _ hz]; exact c3

set_option maxHeartbeats 40000000 in
theorem bytes_walk (a0 a1 a2 a3 n x0 x1 x2 x3 E u : Int) (rr : Bool) (vb : Value) (ha : L4 a0 a1 a2 a3) (w : World)
    (HR : Hid (∀ w', Below w.heap.size w w' → Calls Try.prog 44 #[vb] w' fun e w2 => e = .returned (.tuple #[W4 x0 x1 x2 x3, .int .i64 E]) ∧ Below w'.heap.size w' w2))
    (HS : Hid (∀ w', Below w.heap.size w w' → Calls Try.prog 45 #[vb] w' fun e w2 => e = .returned (.tuple #[W4 x0 x1 x2 x3, .int .i64 E]) ∧ Below w'.heap.size w' w2))
    (HU : Hid (∀ w', Calls Try.prog 46 #[W4 a0 a1 a2 a3] w' fun e w2 => e = .returned (.tuple #[.int .u64 u, .bool rr]) ∧ Below w'.heap.size w' w2))
    (hor : (bits .or .u64 (bits .or .u64 a1 a2) a3 == 0) = rr) (hu : (bif rr then a0 else 0) = u) :
    Calls Try.prog 6 #[W4 a0 a1 a2 a3, vb, .int .u64 n] w fun e w' => e = .returned (.bool true) ∧ Below w.heap.size w w' := by
  have HA : Hid _ := ha
  have hX := num_bd ha
  have e256 : (256 : Int) ^ 32 = T256 := by decide
  obtain ⟨l, hl, HL⟩ := lenN_ex (num a0 a1 a2 a3) hX.1 32 (by omega)
  clear e256
  have HL : Hid _ := HL
  have HB48 : Hid (∀ w', Calls Try.prog 48 #[W4 a0 a1 a2 a3] w' fun e w2 => ∃ v, e = .returned v ∧ IsY w2 v (bytesL (num a0 a1 a2 a3) 32) ∧ Below w'.heap.size w' w2) := fun w' => (bytes_any a0 a1 a2 a3 ha w').mono fun e w2 ⟨b, he, _, hrow, hw⟩ => ⟨_, he, isY_row hrow (by omega) (fun j hj => by rw [Nat.zero_add]), hw⟩
  have HB49 : Hid (∀ w', Calls Try.prog 49 #[W4 a0 a1 a2 a3] w' fun e w2 => ∃ v, e = .returned v ∧ IsY w2 v (bytesL (num a0 a1 a2 a3) 32) ∧ Below w'.heap.size w' w2) := fun w' => (bytesref_any a0 a1 a2 a3 ha w').mono fun e w2 ⟨b, he, _, hrow, hw⟩ => ⟨_, he, isY_row hrow (by omega) (fun j hj => by rw [Nat.zero_add]), hw⟩
  have HB50 : Hid (∀ w', Calls Try.prog 50 #[W4 a0 a1 a2 a3] w' fun e w2 => ∃ v, e = .returned v ∧ IsY w2 v (bytesL (num a0 a1 a2 a3) l) ∧ Below w'.heap.size w' w2) := fun w' => (short_any a0 a1 a2 a3 ha w').mono fun e w2 ⟨l', hl', HL', b, he, _, hrow, hw⟩ => by
    have el : l' = l := lenN_eq hX.1 HL'.out HL.out
    subst el
    exact ⟨_, he, isY_row hrow (by omega) (fun j hj => by rw [Nat.zero_add]), hw⟩
  have HB51 : Hid (∀ w', Calls Try.prog 51 #[W4 a0 a1 a2 a3] w' fun e w2 => ∃ a c v, v = .slice a l c ∧ e = .returned v ∧ IsY w2 v (bytesL (num a0 a1 a2 a3) l) ∧ Below w'.heap.size w' w2) := fun w' => (shortref_any a0 a1 a2 a3 ha w').mono fun e w2 ⟨l', hl', HL', v, he, ⟨a, c, hv⟩, hy, hw⟩ => by
    have el : l' = l := lenN_eq hX.1 HL'.out HL.out
    subst el
    exact ⟨a, c, v, hv, he, hy, hw⟩
  have HB52 : Hid (∀ w', Calls Try.prog 52 #[W4 a0 a1 a2 a3] w' fun e w2 => e = .returned (.int .i64 l) ∧ Below w'.heap.size w' w2) := fun w' => (len_any a0 a1 a2 a3 ha w').mono fun e w2 ⟨l', he, hl', HL', hw⟩ => by
    have el : l' = l := lenN_eq hX.1 HL'.out HL.out
    subst el
    exact ⟨he, hw⟩
  have qx := eq24_same x0 x1 x2 x3
  have qn := eq24_same n 0 0 0
  clear ha hX
  unfold W4 at *
  go_enter Try.func6, Try.ntmps6
  go_wp2_with fail
  have KW : Hid (Cel (w.alloc (.cells #[.int .u64 a0, .int .u64 a1, .int .u64 a2, .int .u64 a3] 24)) w.heap.size a0 a1 a2 a3) := by refine ⟨by simp, ?_, ?_, ?_, ?_⟩ <;> simp [go_sem]
  have hB : Below w.heap.size w (w.alloc (.cells #[.int .u64 a0, .int .u64 a1, .int .u64 a2, .int .u64 a3] 24)) := by go_grown
  generalize (w.alloc (.cells #[.int .u64 a0, .int .u64 a1, .int .u64 a2, .int .u64 a3] 24)) = w0 at *
  refine Calls.mono (HR.out _ hB) ?_
  rintro e w1 ⟨rfl, hw⟩
  have KW : Hid _ := Cel.on KW.out (by rfl) hw
  have hB : Below w.heap.size w w1 := hB.trans (hw.mono hB.size)
  clear hw
  go_wp2_with fail
  have hc1 := hB.size
  have KW : Hid (Cel (w1.alloc (.cells #[.int .u64 x0, .int .u64 x1, .int .u64 x2, .int .u64 x3] 24)) w.heap.size a0 a1 a2 a3) := Cel.onto KW.out _
  have KX : Hid (Cel (w1.alloc (.cells #[.int .u64 x0, .int .u64 x1, .int .u64 x2, .int .u64 x3] 24)) w1.heap.size x0 x1 x2 x3) := by refine ⟨by simp, ?_, ?_, ?_, ?_⟩ <;> simp [go_sem]
  have hB : Below w.heap.size w (w1.alloc (.cells #[.int .u64 x0, .int .u64 x1, .int .u64 x2, .int .u64 x3] 24)) := hB.alloc hB.size _
  generalize w1.heap.size = c1 at *
  generalize w1.alloc (.cells #[.int .u64 x0, .int .u64 x1, .int .u64 x2, .int .u64 x3] 24) = w3 at *
  refine Calls.mono (HS.out _ hB) ?_
  rintro e w4 ⟨rfl, hw⟩
  have KW : Hid _ := Cel.on KW.out (by rfl) hw
  have KX : Hid _ := Cel.on KX.out (by rfl) hw
  have hB : Below w.heap.size w w4 := hB.trans (hw.mono hB.size)
  clear hw
  have zW := KW.out
  obtain ⟨zW, W0_, W1_, W2_, W3_⟩ := zW
  go_wp2_with fail
  have hc2 := hB.size
  have KW : Hid (Cel (w4.alloc (.cells #[.int .u64 x0, .int .u64 x1, .int .u64 x2, .int .u64 x3] 24)) w.heap.size a0 a1 a2 a3) := Cel.onto KW.out _
  have KX : Hid (Cel (w4.alloc (.cells #[.int .u64 x0, .int .u64 x1, .int .u64 x2, .int .u64 x3] 24)) c1 x0 x1 x2 x3) := Cel.onto KX.out _
  have KY : Hid (Cel (w4.alloc (.cells #[.int .u64 x0, .int .u64 x1, .int .u64 x2, .int .u64 x3] 24)) w4.heap.size x0 x1 x2 x3) := by refine ⟨by simp, ?_, ?_, ?_, ?_⟩ <;> simp [go_sem]
  have hB : Below w.heap.size w (w4.alloc (.cells #[.int .u64 x0, .int .u64 x1, .int .u64 x2, .int .u64 x3] 24)) := hB.alloc hB.size _
  clear zW W0_ W1_ W2_ W3_
  generalize w4.heap.size = c2 at *
  generalize w4.alloc (.cells #[.int .u64 x0, .int .u64 x1, .int .u64 x2, .int .u64 x3] 24) = w5 at *
  refine Calls.mono (HU.out _) ?_
  rintro e w6 ⟨rfl, hw⟩
  have KW : Hid _ := Cel.on KW.out (by rfl) hw
  have KX : Hid _ := Cel.on KX.out (by rfl) hw
  have KY : Hid _ := Cel.on KY.out (by rfl) hw
  have hB : Below w.heap.size w w6 := hB.trans (hw.mono hB.size)
  clear hw
  have hs0 := hB.size
  obtain ⟨zW, W0_, W1_, W2_, W3_⟩ := KW.out
  have s_ : Hid (w.heap.size < w6.heap.size ∧ c1 < w6.heap.size ∧ c2 < w6.heap.size ∧ w6.cell? ⟨w.heap.size, 0, none⟩ = some (.int .u64 a0) ∧ w6.cell? ⟨w.heap.size, 1, none⟩ = some (.int .u64 a1) ∧ w6.cell? ⟨w.heap.size, 2, none⟩ = some (.int .u64 a2) ∧ w6.cell? ⟨w.heap.size, 3, none⟩ = some (.int .u64 a3) ∧ w6.cell? ⟨c1, 0, none⟩ = some (.int .u64 x0) ∧ w6.cell? ⟨c1, 1, none⟩ = some (.int .u64 x1) ∧ w6.cell? ⟨c1, 2, none⟩ = some (.int .u64 x2) ∧ w6.cell? ⟨c1, 3, none⟩ = some (.int .u64 x3) ∧ w6.cell? ⟨c2, 0, none⟩ = some (.int .u64 x0) ∧ w6.cell? ⟨c2, 1, none⟩ = some (.int .u64 x1) ∧ w6.cell? ⟨c2, 2, none⟩ = some (.int .u64 x2) ∧ w6.cell? ⟨c2, 3, none⟩ = some (.int .u64 x3)) := by
    obtain ⟨zX, X0_, X1_, X2_, X3_⟩ := KX.out
    obtain ⟨zY, Y0_, Y1_, Y2_, Y3_⟩ := KY.out
    exact ⟨zW, zX, zY, W0_, W1_, W2_, W3_, X0_, X1_, X2_, X3_, Y0_, Y1_, Y2_, Y3_⟩
  cases rr
  all_goals
    simp only [cond_true, cond_false] at hu
    subst hu
    go_wp2_with fail
    go_region_held3 (fun w' => w.heap.size < w'.heap.size ∧ c1 < w'.heap.size ∧ c2 < w'.heap.size ∧ w'.cell? ⟨w.heap.size, 0, none⟩ = some (.int .u64 a0) ∧ w'.cell? ⟨w.heap.size, 1, none⟩ = some (.int .u64 a1) ∧ w'.cell? ⟨w.heap.size, 2, none⟩ = some (.int .u64 a2) ∧ w'.cell? ⟨w.heap.size, 3, none⟩ = some (.int .u64 a3) ∧ w'.cell? ⟨c1, 0, none⟩ = some (.int .u64 x0) ∧ w'.cell? ⟨c1, 1, none⟩ = some (.int .u64 x1) ∧ w'.cell? ⟨c1, 2, none⟩ = some (.int .u64 x2) ∧ w'.cell? ⟨c1, 3, none⟩ = some (.int .u64 x3) ∧ w'.cell? ⟨c2, 0, none⟩ = some (.int .u64 x0) ∧ w'.cell? ⟨c2, 1, none⟩ = some (.int .u64 x1) ∧ w'.cell? ⟨c2, 2, none⟩ = some (.int .u64 x2) ∧ w'.cell? ⟨c2, 3, none⟩ = some (.int .u64 x3)) ((refine keepV s_.out ?_; go_grown; done)) (first | (go_at_call 48; go_must (refine Calls.mono (HB48.out _) ?_; rintro e w2 ⟨v1, rfl, Y1, hw2⟩; have hs0 := hB.size; have hB : Below w.heap.size w w2 := Below.trans (by go_grown) (hw2.mono (by go_size)); have s_ : Hid _ := keepVs s_.out (by go_grown) hw2; have hs0 := hB.size;  clear hw2; have Y1 : Hid _ := Y1)) | (go_at_call 49; go_must (refine Calls.mono (HB49.out _) ?_; rintro e w2 ⟨v2, rfl, Y2, hw2⟩; have hs0 := hB.size; have hB : Below w.heap.size w w2 := Below.trans (by go_grown) (hw2.mono (by go_size)); have s_ : Hid _ := keepVs s_.out (by go_grown) hw2; have hs0 := hB.size; have Y1 : Hid _ := isY_on Y1.out (by rfl) hw2; clear hw2; have Y2 : Hid _ := Y2)) | (go_at_call 50; go_must (refine Calls.mono (HB50.out _) ?_; rintro e w2 ⟨v3, rfl, Y3, hw2⟩; have hs0 := hB.size; have hB : Below w.heap.size w w2 := Below.trans (by go_grown) (hw2.mono (by go_size)); have s_ : Hid _ := keepVs s_.out (by go_grown) hw2; have hs0 := hB.size;  clear hw2; have Y3 : Hid _ := Y3)) | (go_at_call 47; refine Calls.mono (same_any _ _ _ _ (isY_go Y3.out (by rfl)) (isY_go Y4.out (by rfl))) ?_; rintro e w2 ⟨rfl, rfl⟩; have done_ := Y4) | (go_at_call 47; go_must (refine Calls.mono (same_any _ _ _ _ (isY_go Y1.out (by rfl)) (isY_go Y2.out (by rfl))) ?_; rintro e w2 ⟨rfl, rfl⟩)) | (go_at_call 51; go_must (refine Calls.mono (HB51.out _) ?_; rintro e w2 ⟨a4, c4, v4, hv4, rfl, Y4, hw2⟩; subst hv4; have hs0 := hB.size; have hB : Below w.heap.size w w2 := Below.trans (by go_grown) (hw2.mono (by go_size)); have s_ : Hid _ := keepVs s_.out (by go_grown) hw2; have hs0 := hB.size; (try have Y3 : Hid _ := isY_on Y3.out (by rfl) hw2); have Y4 : Hid _ := Y4; clear hw2)) | (go_at_call 52; go_must (refine Calls.mono (HB52.out _) ?_; rintro e w2 ⟨rfl, hw2⟩; have hs0 := hB.size; have hB : Below w.heap.size w w2 := Below.trans (by go_grown) (hw2.mono (by go_size)); have s_ : Hid _ := keepVs s_.out (by go_grown) hw2; have hs0 := hB.size;  clear hw2)) | (go_at_call 53; go_must (refine Calls.mono (of_any n _) ?_; rintro e w2 ⟨rfl, hw2⟩; have hs0 := hB.size; have hB : Below w.heap.size w w2 := Below.trans (by go_grown) (hw2.mono (by go_size)); have s_ : Hid _ := keepVs s_.out (by go_grown) hw2; have hs0 := hB.size;  clear hw2)) | (go_at_call 17; go_must (refine Calls.mono (alive_any _) ?_; rintro e w2 ⟨rfl, hw2⟩; have hs0 := hB.size; have hB : Below w.heap.size w w2 := Below.trans (by go_grown) (hw2.mono (by go_size)); have s_ : Hid _ := keepVs s_.out (by go_grown) hw2; have hs0 := hB.size;  clear hw2)))
    go_wp2
    go_ret
    exact ⟨rfl, by go_grown⟩
end Go.Proofs.Ytjbdfmepeniglaa
