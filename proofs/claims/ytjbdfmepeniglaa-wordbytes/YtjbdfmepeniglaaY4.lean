/- Walks over bytes: how words are written. -/
import Derived.Test.YtjbdfmepeniglaaY3
import Derived.Test.YtjbdfmepeniglaaB6
import Derived.Laws.BytesString
import Derived.Laws.BytesArg
namespace Go.Proofs.Ytjbdfmepeniglaa
open Go.RowKit
set_option linter.unusedSimpArgs false
set_option linter.unusedVariables false
/-- The byte number j of n, the highest first, laid up to k from the lowest on. -/
def laidN (X : Int) (n k : Nat) (j : Nat) : Value := .int .u8 (if n - 1 - j < k then X / 256 ^ (n - 1 - j) % 256 else 0)
theorem laidN_step {w : World} {c : Nat} {X : Int} {n k : Nat} (h : w.rowIs c 5 n (laidN X n k)) (hk : k < n) : (w.setCell ⟨c, n - 1 - k, none⟩ (.int .u8 (X / 256 ^ k % 256))).rowIs c 5 n (laidN X n (k + 1)) :=
  World.rowIs.congr (World.rowIs.set h (n - 1 - k) (.int .u8 (X / 256 ^ k % 256))) (fun i hi => by
    by_cases e : i = n - 1 - k
    · rw [if_pos e]; unfold laidN; rw [if_pos (by omega), show n - 1 - i = k from by omega]
    · rw [if_neg e]; unfold laidN
      by_cases h : n - 1 - i < k
      · rw [if_pos h, if_pos (by omega)]
      · rw [if_neg h, if_neg (by omega)])
theorem blk_far {w : World} {b c : Nat} {x0 x1 x2 x3 : Int} (h : Blk w b x0 x1 x2 x3) (e : c ≠ b) (o : Nat) (v : Value) : Blk (w.setCell ⟨c, o, none⟩ v) b x0 x1 x2 x3 := by
  obtain ⟨hz, c0, c1, c2, c3, f⟩ := h
  refine ⟨by rw [size_set]; exact hz, ?_, ?_, ?_, ?_, fun k => frozen_set (f k)⟩
  all_goals (rw [World.cell?_setCell_far _ _ _ _ (by simpa using e)]; assumption)
set_option maxHeartbeats 4000000 in
/-- word.Bytes -/
theorem bytes_any (a0 a1 a2 a3 : Int) (ha : L4 a0 a1 a2 a3) (w : World) :
    Calls Try.prog 48 #[W4 a0 a1 a2 a3] w fun e w' => ∃ b, e = .returned (.slice (some ⟨b, 0, none⟩) 32 32) ∧ w.heap.size ≤ b ∧ w'.rowIs b 5 32 (fun j => .int .u8 (num a0 a1 a2 a3 / 256 ^ (32 - 1 - j) % 256)) ∧ Below w.heap.size w w' := by
  have HA : Hid _ := ha
  clear ha
  have hmk : ∀ w : World, (Instr.makeSlice 31 (.int .i64 32) (.int .i64 32)).run Try.prog w = .ok (.slice (some ⟨w.heap.size, 0, none⟩) 32 32) (w.alloc (.cells (madeCells #[.int .u8 0] 32) 5)) := run_make_row' (P := Try.prog) 31 5 (.int .u8 0) 1 Try.underlying31 Try.info5 rfl .i64 .i64 32 (by omega) (by omega)
  unfold W4
  go_enter Try.func48, Try.ntmps48
  go_wp2
  have KW : Hid (Blk ((w.alloc (.cells #[.int .u64 a0, .int .u64 a1, .int .u64 a2, .int .u64 a3] 24)).alloc (.cells (madeCells #[.int .u8 0] 32) 5)) w.heap.size a0 a1 a2 a3) := Blk.onto (by refine ⟨by simp, ?_, ?_, ?_, ?_, fun k => ?_⟩ <;> simp [go_sem]) _
  have hrow : ((w.alloc (.cells #[.int .u64 a0, .int .u64 a1, .int .u64 a2, .int .u64 a3] 24)).alloc (.cells (madeCells #[.int .u8 0] 32) 5)).rowIs (w.alloc (.cells #[.int .u64 a0, .int .u64 a1, .int .u64 a2, .int .u64 a3] 24)).heap.size 5 32 (laidN (num a0 a1 a2 a3) 32 0) := World.rowIs.congr (World.rowIs_made (w.alloc (.cells #[.int .u64 a0, .int .u64 a1, .int .u64 a2, .int .u64 a3] 24)) (.int .u8 0) 32 5) (fun i hi => by unfold laidN; rw [if_neg (by omega)])
  have hB : Below w.heap.size w ((w.alloc (.cells #[.int .u64 a0, .int .u64 a1, .int .u64 a2, .int .u64 a3] 24)).alloc (.cells (madeCells #[.int .u8 0] 32) 5)) := by go_grown
  have hsz : (w.alloc (.cells #[.int .u64 a0, .int .u64 a1, .int .u64 a2, .int .u64 a3] 24)).heap.size = w.heap.size + 1 := by simp
  rw [hsz] at hrow
  clear hmk hsz
  obtain ⟨c, hc⟩ : ∃ c, c = w.heap.size + 1 := ⟨_, rfl⟩
  have hcw : w.heap.size ≤ c := by omega
  have hne : c ≠ w.heap.size := by omega
  rw [← hc] at hrow ⊢
  clear hc
  generalize ((w.alloc (.cells #[.int .u64 a0, .int .u64 a1, .int .u64 a2, .int .u64 a3] 24)).alloc (.cells (madeCells #[.int .u8 0] 32) 5)) = w1 at *
  go_loopw [6] (fun i wr => ∃ (k : Nat), k ≤ 32 ∧ i = .int .i64 k ∧ wr.rowIs c 5 32 (laidN (num a0 a1 a2 a3) 32 k) ∧ Hid (Blk wr w.heap.size a0 a1 a2 a3) ∧ Below w.heap.size w wr) (fun i _ => 32 - (intOf i).toNat)
  case atStart => exact ⟨0, by omega, rfl, hrow, KW, hB⟩
  case round =>
    clear hrow KW hB
    obtain ⟨k, hk, rfl, hrow, KW, hB⟩ := hrel
    by_cases hlt : k < 32
    · have HLB : Hid _ := lowByte_any a0 a1 a2 a3 (k : Int) HA.out (by omega) (by omega)
      have hlow : lowN (num a0 a1 a2 a3) (k : Int) = num a0 a1 a2 a3 / 256 ^ k % 256 := by unfold lowN; rw [pow256, show (8 * (k : Int)).toNat = 8 * k from by omega]
      have hx : 0 ≤ num a0 a1 a2 a3 / 256 ^ k % 256 ∧ num a0 a1 a2 a3 / 256 ^ k % 256 < 256 := by omega
      rw [hlow] at HLB
      have hrow2 : Hid (∀ o, ((wr.setCell ⟨c, 32 - 1 - k, none⟩ (.int .u8 (num a0 a1 a2 a3 / 256 ^ k % 256))).alloc o).rowIs c 5 32 (laidN (num a0 a1 a2 a3) 32 (k + 1))) := fun o => World.rowIs.alloc (laidN_step hrow hlt) o
      have hcl := World.rowIs.lt hrow
      have hc2 : ∀ o, (wr.alloc o).cell? ⟨c, 32 - 1 - k, none⟩ = some (laidN (num a0 a1 a2 a3) 32 k (32 - 1 - k)) := fun o => World.rowIs.cell (World.rowIs.alloc hrow o) (by omega)
      have hfz : ∀ o, (wr.alloc o).frozen? ⟨c, 32 - 1 - k, none⟩ = false := fun o => World.rowIs.frozen (World.rowIs.alloc hrow o) _
      obtain ⟨old, hold⟩ : ∃ old, laidN (num a0 a1 a2 a3) 32 k (32 - 1 - k) = .int .u8 old := ⟨_, rfl⟩
      rw [hold] at hc2
      have e31 : (32 - 1 - (k : Int)).toNat = 32 - 1 - k := by omega
      generalize num a0 a1 a2 a3 / 256 ^ k % 256 = x at *
      obtain ⟨hx0, hx1⟩ := hx
      clear hlow hold hrow
      obtain ⟨zW, W0_, W1_, W2_, W3_, fW⟩ := KW.out
      
      go_wp2_with fail
      refine Calls.mono (HLB.out _) ?_
      rintro e w3 ⟨rfl, cc, rfl⟩
      have hc3 := hc2 (.cells cc 24)
      have hfz3 := hfz (.cells cc 24)
      clear hc2 hfz
      go_wp2
      exact ⟨⟨k + 1, by omega, by go_num, hrow2.out _, Blk.onto (blk_far KW.out hne _ _) _, by go_grown⟩, by simp [intOf]; omega⟩
    · have hkl : k = 32 := by omega
      have hrow3 : Hid (wr.rowIs c 5 32 (fun j => .int .u8 (num a0 a1 a2 a3 / 256 ^ (32 - 1 - j) % 256))) := World.rowIs.congr hrow (fun i hi => by
        unfold laidN; rw [if_pos (by omega)])
      clear hrow hkl
      have hd' : decide ((k : Int) < 32) = false := by simp; omega
      go_wp2
      go_ret
      exact ⟨c, rfl, hcw, hrow3.out, hB⟩
set_option maxHeartbeats 4000000 in
/-- word.Short -/
theorem short_any (a0 a1 a2 a3 : Int) (ha : L4 a0 a1 a2 a3) (w : World) :
    Calls Try.prog 50 #[W4 a0 a1 a2 a3] w fun e w' => ∃ l : Nat, l ≤ 32 ∧ Hid (lenN (num a0 a1 a2 a3) l) ∧ ∃ b, e = .returned (.slice (some ⟨b, 0, none⟩) l l) ∧ w.heap.size ≤ b ∧ w'.rowIs b 5 l (fun j => .int .u8 (num a0 a1 a2 a3 / 256 ^ (l - 1 - j) % 256)) ∧ Below w.heap.size w w' := by
  have HA : Hid _ := ha
  clear ha
  have hmk0 : ∀ (l : Nat), l ≤ 32 → ∀ w : World, (Instr.makeSlice 31 (.int .i64 l) (.int .i64 l)).run Try.prog w = .ok (.slice (some ⟨w.heap.size, 0, none⟩) l l) (w.alloc (.cells (madeCells #[.int .u8 0] l) 5)) := fun l hl => run_make_row' (P := Try.prog) 31 5 (.int .u8 0) 1 Try.underlying31 Try.info5 rfl .i64 .i64 l (by omega) (by omega)
  unfold W4
  go_enter Try.func50, Try.ntmps50
  go_wp2_with fail
  have KW : Hid (Blk (w.alloc (.cells #[.int .u64 a0, .int .u64 a1, .int .u64 a2, .int .u64 a3] 24)) w.heap.size a0 a1 a2 a3) := by refine ⟨by simp, ?_, ?_, ?_, ?_, fun k => ?_⟩ <;> simp [go_sem]
  have hB : Below w.heap.size w (w.alloc (.cells #[.int .u64 a0, .int .u64 a1, .int .u64 a2, .int .u64 a3] 24)) := by go_grown
  generalize (w.alloc (.cells #[.int .u64 a0, .int .u64 a1, .int .u64 a2, .int .u64 a3] 24)) = w0 at *
  refine (len_any a0 a1 a2 a3 HA.out _).mono ?_
  rintro e w1 ⟨l, rfl, hl, HL, hw⟩
  have KW : Hid _ := Blk.below KW.out hw
  have hB : Below w.heap.size w w1 := hB.trans (hw.mono hB.size)
  clear hw
  have hmk := hmk0 l hl
  clear hmk0
  go_wp2
  have hz1 : w.heap.size < w1.heap.size := KW.out.1
  have KW : Hid (Blk (w1.alloc (.cells (madeCells #[.int .u8 0] l) 5)) w.heap.size a0 a1 a2 a3) := Blk.onto KW.out _
  have hrow : (w1.alloc (.cells (madeCells #[.int .u8 0] l) 5)).rowIs w1.heap.size 5 l (laidN (num a0 a1 a2 a3) l 0) := World.rowIs.congr (World.rowIs_made w1 (.int .u8 0) l 5) (fun i hi => by unfold laidN; rw [if_neg (by omega)])
  have hB : Below w.heap.size w (w1.alloc (.cells (madeCells #[.int .u8 0] l) 5)) := hB.alloc hB.size _
  clear hmk
  have hcw : w.heap.size ≤ w1.heap.size := by omega
  have hne : w1.heap.size ≠ w.heap.size := by omega
  clear hz1
  generalize w1.heap.size = c at *
  generalize (w1.alloc (.cells (madeCells #[.int .u8 0] l) 5)) = w2 at *
  go_loopw [11] (fun i wr => ∃ (k : Nat), k ≤ l ∧ i = .int .i64 k ∧ wr.rowIs c 5 l (laidN (num a0 a1 a2 a3) l k) ∧ Hid (Blk wr w.heap.size a0 a1 a2 a3) ∧ Below w.heap.size w wr) (fun i _ => 32 - (intOf i).toNat)
  case atStart => exact ⟨0, by omega, rfl, hrow, KW, hB⟩
  case round =>
    clear hrow KW hB
    obtain ⟨k, hk, rfl, hrow, KW, hB⟩ := hrel
    by_cases hlt : k < l
    · have HLB : Hid _ := lowByte_any a0 a1 a2 a3 (k : Int) HA.out (by omega) (by omega)
      have hlow : lowN (num a0 a1 a2 a3) (k : Int) = num a0 a1 a2 a3 / 256 ^ k % 256 := by unfold lowN; rw [pow256, show (8 * (k : Int)).toNat = 8 * k from by omega]
      have hx : 0 ≤ num a0 a1 a2 a3 / 256 ^ k % 256 ∧ num a0 a1 a2 a3 / 256 ^ k % 256 < 256 := by omega
      rw [hlow] at HLB
      have hrow2 : Hid (∀ o, ((wr.setCell ⟨c, l - 1 - k, none⟩ (.int .u8 (num a0 a1 a2 a3 / 256 ^ k % 256))).alloc o).rowIs c 5 l (laidN (num a0 a1 a2 a3) l (k + 1))) := fun o => World.rowIs.alloc (laidN_step hrow hlt) o
      have hcl := World.rowIs.lt hrow
      have hc2 : ∀ o, (wr.alloc o).cell? ⟨c, l - 1 - k, none⟩ = some (laidN (num a0 a1 a2 a3) l k (l - 1 - k)) := fun o => World.rowIs.cell (World.rowIs.alloc hrow o) (by omega)
      have hfz : ∀ o, (wr.alloc o).frozen? ⟨c, l - 1 - k, none⟩ = false := fun o => World.rowIs.frozen (World.rowIs.alloc hrow o) _
      obtain ⟨old, hold⟩ : ∃ old, laidN (num a0 a1 a2 a3) l k (l - 1 - k) = .int .u8 old := ⟨_, rfl⟩
      rw [hold] at hc2
      have e31 : ((l : Int) - 1 - (k : Int)).toNat = l - 1 - k := by omega
      generalize num a0 a1 a2 a3 / 256 ^ k % 256 = x at *
      obtain ⟨hx0, hx1⟩ := hx
      clear hlow hold hrow
      obtain ⟨zW, W0_, W1_, W2_, W3_, fW⟩ := KW.out
      
      go_wp2_with fail
      refine Calls.mono (HLB.out _) ?_
      rintro e w3 ⟨rfl, cc, rfl⟩
      have hc3 := hc2 (.cells cc 24)
      have hfz3 := hfz (.cells cc 24)
      clear hc2 hfz
      go_wp2
      exact ⟨⟨k + 1, by omega, by go_num, hrow2.out _, Blk.onto (blk_far KW.out hne _ _) _, by go_grown⟩, by simp [intOf]; omega⟩
    · have hkl : k = l := by omega
      have hrow3 : Hid (wr.rowIs c 5 l (fun j => .int .u8 (num a0 a1 a2 a3 / 256 ^ (l - 1 - j) % 256))) := World.rowIs.congr hrow (fun i hi => by
        unfold laidN; rw [if_pos (by omega)])
      clear hrow hkl
      have hd' : decide ((k : Int) < (l : Int)) = false := by simp; omega
      go_wp2
      go_ret
      exact ⟨l, hl, HL, c, rfl, hcw, hrow3.out, hB⟩

end Go.Proofs.Ytjbdfmepeniglaa
