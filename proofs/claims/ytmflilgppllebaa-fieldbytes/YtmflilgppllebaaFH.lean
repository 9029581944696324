/- The bytes of a number modulo the first prime: field.Bytes. -/
import Derived.Test.YtmflilgppllebaaFZ
import Derived.Test.YtmflilgppllebaaBN
import Derived.Test.YtmflilgppllebaaQ0
import Derived.Test.YtmflilgppllebaaGD
namespace Go.Proofs.Ytmflilgppllebaa
open Go.RowKit
set_option linter.unusedSimpArgs false
set_option linter.unusedVariables false

theorem flow_byte (x y : Int) (r : Nat) (hr : r ≤ 56) : ((x + 18446744073709551616 * y) / 2 ^ r) % 256 = (x / 2 ^ r) % 256 := by
  have e : (18446744073709551616 : Int) = 2 ^ r * (256 * 2 ^ (56 - r)) := by
    have h : (2 : Int) ^ r * (256 * 2 ^ (56 - r)) = 2 ^ (r + 8 + (56 - r)) := by rw [Int.pow_add, Int.pow_add, Int.mul_assoc]; rfl
    rw [h, show r + 8 + (56 - r) = 64 from by omega]
    decide
  rw [e, Int.mul_assoc, Int.mul_assoc, Int.add_mul_ediv_left _ _ (by have := fpow_pos r; omega)]
  omega
theorem fbyte_num (a0 a1 a2 a3 : Int) (ha : L4 a0 a1 a2 a3) (j : Nat) (hj : j < 32) : (num a0 a1 a2 a3 / 256 ^ j) % 256 = (limbOf a0 a1 a2 a3 (j / 8) / 2 ^ (8 * (j % 8))) % 256 := by
  have n0 : num a0 a1 a2 a3 = a0 + 18446744073709551616 * (a1 + 18446744073709551616 * (a2 + 18446744073709551616 * a3)) := by unfold num; omega
  rw [n0, pow256]
  obtain ⟨h0, h1, h2, h3⟩ := ha
  have hr : 8 * (j % 8) ≤ 56 := by omega
  have q : j / 8 = 0 ∨ j / 8 = 1 ∨ j / 8 = 2 ∨ j / 8 = 3 := by omega
  rcases q with q | q | q | q <;> rw [q]
  · have e : 8 * j = 8 * (j % 8) := by omega
    rw [show limbOf a0 a1 a2 a3 0 = a0 from rfl, ← flow_byte a0 _ (8 * (j % 8)) hr, ← e]
  · have e : 8 * j = 64 + 8 * (j % 8) := by omega
    rw [show limbOf a0 a1 a2 a3 1 = a1 from rfl, ← flow_byte a1 _ (8 * (j % 8)) hr]
    conv => lhs; rw [e]
    rw [fshift_down _ _ h0]
  · have e : 8 * j = 64 + (64 + 8 * (j % 8)) := by omega
    rw [show limbOf a0 a1 a2 a3 2 = a2 from rfl, ← flow_byte a2 _ (8 * (j % 8)) hr]
    conv => lhs; rw [e]
    rw [fshift_down _ _ h0, fshift_down _ _ h1]
  · have e : 8 * j = 64 + (64 + (64 + 8 * (j % 8))) := by omega
    rw [show limbOf a0 a1 a2 a3 3 = a3 from rfl]
    conv => lhs; rw [e]
    rw [fshift_down _ _ h0, fshift_down _ _ h1, fshift_down _ _ h2]

theorem finfo5 : (Try.prog.info? 5).map (fun i => (i.zero, i.size, i.bytes)) = some (some (.int .u8 0), 1, 1) := by kernel_rfl
def laidF (X : Int) (k : Nat) (j : Nat) : Value := .int .u8 (if j < k then X / 256 ^ j % 256 else 0)
theorem laidF_step {w : World} {c : Nat} {X : Int} {k : Nat} (h : w.rowIs c 5 32 (laidF X k)) (hk : k < 32) : (w.setCell ⟨c, k, none⟩ (.int .u8 (X / 256 ^ k % 256))).rowIs c 5 32 (laidF X (k + 1)) :=
  World.rowIs.congr (World.rowIs.set h k (.int .u8 (X / 256 ^ k % 256))) (fun i hi => by
    unfold laidF
    by_cases e : i = k
    · subst e; simp
    · rw [if_neg (by omega)]
      by_cases h2 : i < k
      · rw [if_pos h2, if_pos (by omega)]
      · rw [if_neg h2, if_neg (by omega)])
theorem VarW.far {w : World} {z c : Nat} {v : Value} (h : VarW w z v) (hn : c ≠ z) (o : Nat) (u : Value) : VarW (w.setCell ⟨c, o, none⟩ u) z v := ⟨h.1, (heap_setCell_other _ _ _ _ (Ne.symm hn)).trans h.2⟩
set_option maxHeartbeats 4000000 in
/-- field.Bytes -/
theorem fbytes_any {va : Value} {x : Int} (ha : IsW va x) (w : World) :
    Calls Try.prog 29 #[va] w fun e w' => ∃ b, e = .returned (.slice (some ⟨b, 0, none⟩) 32 32) ∧ w.heap.size ≤ b ∧ w'.rowIs b 5 32 (fun j => .int .u8 ((x % PP) / 256 ^ j % 256)) ∧ Below w.heap.size w w' := by
  have HX : Hid (IsW va x) := ha
  have HG : Hid (∀ w, Calls Try.prog 54 #[va] w fun e w' => ∃ v, e = .returned v ∧ IsW v (x % PP) ∧ Below w.heap.size w w') := g_fbelow ha
  obtain ⟨a0, a1, a2, a3, rfl, la, na⟩ := ha
  clear na HX
  generalize x % PP = X at HG ⊢
  have hmk : ∀ w : World, (Instr.makeSlice 32 (.int .i64 32) (.int .i64 32)).run Try.prog w = .ok (.slice (some ⟨w.heap.size, 0, none⟩) 32 32) (w.alloc (.cells (madeCells #[.int .u8 0] 32) 5)) := run_make_row' (P := Try.prog) 32 5 (.int .u8 0) 1 Try.underlying32 finfo5 rfl .i64 .i64 32 (by omega) (by omega)
  have V0 : Hid (VarW (w.alloc (.cells (C4 a0 a1 a2 a3) 24)) w.heap.size (W4 a0 a1 a2 a3) ∧ Below w.heap.size w (w.alloc (.cells (C4 a0 a1 a2 a3) 24))) := ⟨VarW.new1 la w, by go_grown⟩
  clear la
  go_enter Try.func29, Try.ntmps29
  unfold W4
  go_wp2_with fail
  generalize w.alloc (.cells (C4 a0 a1 a2 a3) 24) = W0 at V0 ⊢
  refine Calls.mono (HG.out _) ?_
  rintro e w1 ⟨vy, rfl, hy, b1⟩
  have V1 : Hid (VarW w1 w.heap.size (W4 a0 a1 a2 a3) ∧ Below w.heap.size w w1) := ⟨V0.out.1.kept b1, V0.out.2.trans (b1.mono V0.out.2.size)⟩
  clear V0 b1
  go_wp2_with (first | (refine wpList_store_varW rfl _ _ rfl w.heap.size rfl rfl hy V1.out.1 ?_))
  have hn : vy = .agg (cw vy) := hy.agg.1
  obtain ⟨y0, y1, y2, y3, rfl, ly, ny⟩ := hy
  have V2 : Hid (VarW ((w1.setRow w.heap.size (cw (W4 y0 y1 y2 y3))).alloc (.cells (madeCells #[.int .u8 0] 32) 5)) w.heap.size (W4 y0 y1 y2 y3) ∧ Below w.heap.size w ((w1.setRow w.heap.size (cw (W4 y0 y1 y2 y3))).alloc (.cells (madeCells #[.int .u8 0] 32) 5)) ∧ w.heap.size < (w1.setRow w.heap.size (cw (W4 y0 y1 y2 y3))).heap.size) :=
    ⟨(V1.out.1.put (IsW.mk ly)).old _, (below_setRow V1.out.2 (Nat.le_refl _) _).alloc (below_setRow V1.out.2 (Nat.le_refl _) _).size _, (V1.out.1.put (IsW.mk ly)).lt⟩
  clear V1 hn
  have hsz : (w1.setRow w.heap.size (cw (W4 y0 y1 y2 y3))).heap.size = w1.heap.size := by simp
  generalize w1.setRow w.heap.size (cw (W4 y0 y1 y2 y3)) = w2 at V2 hsz ⊢
  have hrow : (w2.alloc (.cells (madeCells #[.int .u8 0] 32) 5)).rowIs w2.heap.size 5 32 (laidF X 0) := World.rowIs.congr (World.rowIs_made w2 (.int .u8 0) 32 5) (fun i hi => by simp [laidF])
  obtain ⟨hV, hB, hlt0⟩ := V2.out
  clear V2 hmk
  rw [hsz] at hrow hlt0
  clear hsz
  generalize w2.alloc (.cells (madeCells #[.int .u8 0] 32) 5) = w3 at *
  generalize w1.heap.size = c at *
  have HL : Hid (L4 y0 y1 y2 y3) := ly
  have NY : Hid (num y0 y1 y2 y3 = X) := ny
  clear ly ny HG
  have hcw : w.heap.size ≤ c := by omega
  have hne : c ≠ w.heap.size := by omega
  go_loopw [8] (fun i wr => ∃ (k : Nat), k ≤ 32 ∧ i = .int .i64 k ∧ wr.rowIs c 5 32 (laidF X k) ∧ Hid (VarW wr w.heap.size (W4 y0 y1 y2 y3)) ∧ Below w.heap.size w wr) (fun i _ => 32 - (intOf i).toNat)
  case atStart => exact ⟨0, by omega, rfl, hrow, hV, hB⟩
  case round =>
    clear hrow hV hB
    obtain ⟨k, hk, rfl, hrow, KW, hB⟩ := hrel
    by_cases hlt : k < 32
    · have hx : 0 ≤ X / 256 ^ k % 256 ∧ X / 256 ^ k % 256 < 256 := by omega
      have hrow2 : Hid ((wr.setCell ⟨c, k, none⟩ (.int .u8 (X / 256 ^ k % 256))).rowIs c 5 32 (laidF X (k + 1))) := laidF_step hrow hlt
      have hcl := World.rowIs.lt hrow
      have hc2 : wr.cell? ⟨c, k, none⟩ = some (laidF X k k) := World.rowIs.cell hrow (by omega)
      have hfz : wr.frozen? ⟨c, k, none⟩ = false := World.rowIs.frozen hrow _
      obtain ⟨old, hold⟩ : ∃ old, laidF X k k = .int .u8 old := ⟨_, rfl⟩
      rw [hold] at hc2
      have hl := fcell_of KW.out.2 (k / 8) (by omega)
      have hL := limbOf_limb HL.out (k / 8)
      have hd := fdiv_limb hL (8 * (k % 8))
      have hnum := fbyte_num y0 y1 y2 y3 HL.out k hlt
      rw [NY.out] at hnum
      generalize X / 256 ^ k % 256 = x at *
      generalize limbOf y0 y1 y2 y3 (k / 8) = lm at *
      clear hold hrow
      go_wp2
      rw [← hnum]
      exact ⟨⟨k + 1, by omega, by go_num, hrow2.out, KW.out.far hne _ _, hB.setCell hcw _⟩, by simp [intOf]; omega⟩
    · have hkl : k = 32 := by omega
      have hrow3 : Hid (wr.rowIs c 5 32 (fun j => .int .u8 (X / 256 ^ j % 256))) := World.rowIs.congr hrow (fun i hi => by
        unfold laidF; rw [if_pos (by omega)])
      clear hrow hkl
      have hd' : decide ((k : Int) < 32) = false := by simp; omega
      go_wp2
      go_ret
      exact ⟨c, rfl, hcw, hrow3.out, hB⟩
end Go.Proofs.Ytmflilgppllebaa
