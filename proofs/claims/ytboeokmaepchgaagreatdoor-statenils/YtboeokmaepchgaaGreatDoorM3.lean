/- WdY3, WdX5, WdB4, WdB6, WdY4, laid into one text. -/
import Derived.Test.YtboeokmaepchgaaGreatDoorM2
import Derived.Laws.AppendOwnNone
import Derived.Laws.IdiomCopy
import Derived.Laws.BytesString
import Derived.Laws.BytesArg
/- Walks over bytes: how many a word has. -/
namespace Go.Proofs.YtboeokmaepchgaaGreatDoor.Wd
open Go.RowKit
set_option linter.unusedSimpArgs false
set_option linter.unusedVariables false
theorem two_pow_le {j k : Nat} (h : j ≤ k) : (2 : Int) ^ j ≤ 2 ^ k := by
  have := Nat.pow_le_pow_right (n := 2) (by decide) h
  have e : ∀ k : Nat, (2 : Int) ^ k = ((2 ^ k : Nat) : Int) := fun k => by simp
  rw [e, e]; omega
/-- How many bytes a number has. -/
def lenN (n : Int) (l : Nat) : Prop := n < 256 ^ l ∧ (l = 0 ∨ 256 ^ (l - 1) ≤ n)
theorem lenN_bits {n : Int} {k : Nat} (h : n < 2 ^ k ∧ (k = 0 ∨ 2 ^ (k - 1) ≤ n)) : lenN n ((k + 7) / 8) := by
  obtain ⟨h1, h2⟩ := h
  refine ⟨?_, ?_⟩
  · rw [pow256]; exact Int.lt_of_lt_of_le h1 (two_pow_le (by omega))
  · rcases h2 with h | h
    · left; omega
    · rcases Nat.eq_zero_or_pos ((k + 7) / 8) with g | g
      · exact Or.inl g
      · right
        rw [pow256]; exact Int.le_trans (two_pow_le (by omega)) h
set_option maxRecDepth 100000 in
set_option maxHeartbeats 1000000 in
/-- word.Len -/
theorem len_any (a0 a1 a2 a3 : Int) (ha : L4 a0 a1 a2 a3) (w : World) :
    Calls Tryz.prog 217 #[W4 a0 a1 a2 a3] w fun e w' => ∃ l : Nat, e = .returned (.int .i64 l) ∧ l ≤ 32 ∧ Hid (lenN (num a0 a1 a2 a3) l) ∧ Below w.heap.size w w' := by
  have HA : Hid _ := ha
  clear ha
  unfold W4
  go_enter Tryz.func217, Tryz.ntmps217
  go_wp2_with fail
  refine (bitLen_any a0 a1 a2 a3 HA.out _).mono ?_
  rintro e w1 ⟨n, rfl, hn, HN, hw⟩
  have hB : Below w.heap.size w w1 := Below.trans (by go_grown) (hw.mono (by simp))
  clear hw
  have HL : Hid _ := lenN_bits HN.out
  clear HN
  go_wp2
  go_ret
  exact ⟨(n + 7) / 8, by first | go_num | (simp; done) | (simp; omega), by omega, HL, by go_grown⟩
end Go.Proofs.YtboeokmaepchgaaGreatDoor.Wd
/- Walks over package word: quotients and what is left, signed. -/
namespace Go.Proofs.YtboeokmaepchgaaGreatDoor.Wd
open Go.RowKit
set_option linter.unusedSimpArgs false
set_option linter.unusedVariables false
/-- A block of four limbs. -/
def Cel (w : World) (b : Nat) (x0 x1 x2 x3 : Int) : Prop := b < w.heap.size ∧ w.cell? ⟨b, 0, none⟩ = some (.int .u64 x0) ∧ w.cell? ⟨b, 1, none⟩ = some (.int .u64 x1) ∧ w.cell? ⟨b, 2, none⟩ = some (.int .u64 x2) ∧ w.cell? ⟨b, 3, none⟩ = some (.int .u64 x3)
theorem Cel.on {W0 W w1 : World} {b : Nat} {x0 x1 x2 x3 : Int} (h : Cel W0 b x0 x1 x2 x3) (e : W.heap = W0.heap) (hb : Below W.heap.size W w1) : Cel w1 b x0 x1 x2 x3 := by
  obtain ⟨hz, c0, c1, c2, c3⟩ := h
  have hz' : b < W.heap.size := by rw [e]; exact hz
  have hc : ∀ k, W.cell? ⟨b, k, none⟩ = W0.cell? ⟨b, k, none⟩ := fun k => by unfold World.cell?; rw [e]
  exact ⟨Nat.lt_of_lt_of_le hz' hb.size, ((hb.cell (p := ⟨b, 0, none⟩) hz').trans (hc 0)).trans c0, ((hb.cell (p := ⟨b, 1, none⟩) hz').trans (hc 1)).trans c1, ((hb.cell (p := ⟨b, 2, none⟩) hz').trans (hc 2)).trans c2, ((hb.cell (p := ⟨b, 3, none⟩) hz').trans (hc 3)).trans c3⟩
end Go.Proofs.YtboeokmaepchgaaGreatDoor.Wd
/- The document's shifts and signs: plain arithmetic. -/
namespace Go.Proofs.YtboeokmaepchgaaGreatDoor.Wd
open Go.RowKit
set_option linter.unusedVariables false
theorem turned (x P R : Int) (hP : 0 < P) (h : P * R = T256) : T256 - 1 - (T256 - 1 - x) / P = x / P + (T256 - R) := by
  have h1 := Int.mul_ediv_add_emod x P
  have h2 := Int.emod_nonneg x (Int.ne_of_gt hP)
  have h3 := Int.emod_lt_of_pos x hP
  generalize x / P = q at *
  generalize x % P = r at *
  have e : T256 - 1 - x = (P - 1 - r) + P * (R - q - 1) := by rw [Int.mul_sub, Int.mul_sub, h, Int.mul_one, ← h1]; omega
  rw [e, Int.add_mul_ediv_left _ _ (Int.ne_of_gt hP), Int.ediv_eq_zero_of_lt (by omega) (by omega)]
  omega
end Go.Proofs.YtboeokmaepchgaaGreatDoor.Wd
/- Walks over the document's own answers: shifts down. -/
namespace Go.Proofs.YtboeokmaepchgaaGreatDoor.Wd
open Go.RowKit
set_option linter.unusedSimpArgs false
set_option linter.unusedVariables false
theorem Blk.onto {w : World} {b : Nat} {x0 x1 x2 x3 : Int} (h : Blk w b x0 x1 x2 x3) (o : Obj) : Blk (w.alloc o) b x0 x1 x2 x3 := by
  obtain ⟨hz, c0, c1, c2, c3, f⟩ := h
  refine ⟨by simp; omega, ?_, ?_, ?_, ?_, fun k => ?_⟩
  · rw [World.cell?_alloc_past _ _ _ hz]; exact c0
  · rw [World.cell?_alloc_past _ _ _ hz]; exact c1
  · rw [World.cell?_alloc_past _ _ _ hz]; exact c2
  · rw [World.cell?_alloc_past _ _ _ hz]; exact c3
  · rw [World.frozen?_alloc_past _ _ _ hz]; exact f k
end Go.Proofs.YtboeokmaepchgaaGreatDoor.Wd
/- Walks over bytes: how words are written. -/
namespace Go.Proofs.YtboeokmaepchgaaGreatDoor.Wd
open Go.RowKit
set_option linter.unusedSimpArgs false
set_option linter.unusedVariables false
/-- The byte number j of n, the highest first, laid up to k from the lowest on. -/
def laidN (X : Int) (n k : Nat) (j : Nat) : Value := .int .u8 (if n - 1 - j < k then X / 256 ^ (n - 1 - j) % 256 else 0)
theorem laidN_step {w : World} {c : Nat} {X : Int} {n k : Nat} (h : w.rowIs c 5 n (laidN X n k)) (hk : k < n) : (w.setCell ⟨c, n - 1 - k, none⟩ (.int .u8 (X / 256 ^ k % 256))).rowIs c 5 n (laidN X n (k + 1)) :=
  World.rowIs.congr (World.rowIs.set h (n - 1 - k) (.int .u8 (X / 256 ^ k % 256))) (fun i hi => by
    by_cases e : i = n - 1 - k
    · rw [if_pos e]; unfold laidN; rw [if_pos (by omega), show n - 1 - i = k from by omega]
    · rw [if_neg e]; unfold laidN
      by_cases h : n - 1 - i < k
      · rw [if_pos h, if_pos (by omega)]
      · rw [if_neg h, if_neg (by omega)])
theorem blk_far {w : World} {b c : Nat} {x0 x1 x2 x3 : Int} (h : Blk w b x0 x1 x2 x3) (e : c ≠ b) (o : Nat) (v : Value) : Blk (w.setCell ⟨c, o, none⟩ v) b x0 x1 x2 x3 := by
  obtain ⟨hz, c0, c1, c2, c3, f⟩ := h
  refine ⟨by rw [size_set]; exact hz, ?_, ?_, ?_, ?_, fun k => frozen_set (f k)⟩
  all_goals (rw [World.cell?_setCell_far _ _ _ _ (by simpa using e)]; assumption)
set_option maxRecDepth 100000 in
set_option maxHeartbeats 4000000 in
/-- word.Short -/
theorem short_any (a0 a1 a2 a3 : Int) (ha : L4 a0 a1 a2 a3) (w : World) :
    Calls Tryz.prog 198 #[W4 a0 a1 a2 a3] w fun e w' => ∃ l : Nat, l ≤ 32 ∧ Hid (lenN (num a0 a1 a2 a3) l) ∧ ∃ b, e = .returned (.slice (some ⟨b, 0, none⟩) l l) ∧ w.heap.size ≤ b ∧ w'.rowIs b 5 l (fun j => .int .u8 (num a0 a1 a2 a3 / 256 ^ (l - 1 - j) % 256)) ∧ Below w.heap.size w w' := by
  have HA : Hid _ := ha
  clear ha
  have hmk0 : ∀ (l : Nat), l ≤ 32 → ∀ w : World, (Instr.makeSlice 22 (.int .i64 l) (.int .i64 l)).run Tryz.prog w = .ok (.slice (some ⟨w.heap.size, 0, none⟩) l l) (w.alloc (.cells (madeCells #[.int .u8 0] l) 5)) := fun l hl => run_make_row' (P := Tryz.prog) 22 5 (.int .u8 0) 1 Tryz.underlying22 Tryz.info5 rfl .i64 .i64 l (by omega) (by omega)
  unfold W4
  go_enter Tryz.func198, Tryz.ntmps198
  go_wp2_with fail
  have KW : Hid (Blk (w.alloc (.cells #[.int .u64 a0, .int .u64 a1, .int .u64 a2, .int .u64 a3] 46)) w.heap.size a0 a1 a2 a3) := by refine ⟨by simp, ?_, ?_, ?_, ?_, fun k => ?_⟩ <;> simp [go_sem]
  have hB : Below w.heap.size w (w.alloc (.cells #[.int .u64 a0, .int .u64 a1, .int .u64 a2, .int .u64 a3] 46)) := by go_grown
  generalize (w.alloc (.cells #[.int .u64 a0, .int .u64 a1, .int .u64 a2, .int .u64 a3] 46)) = w0 at *
  refine (len_any a0 a1 a2 a3 HA.out _).mono ?_
  rintro e w1 ⟨l, rfl, hl, HL, hw⟩
  have KW : Hid _ := Blk.below KW.out hw
  have hB : Below w.heap.size w w1 := hB.trans (hw.mono hB.size)
  clear hw
  have hmk := hmk0 l hl
  clear hmk0
  go_wp2
  have hz1 : w.heap.size < w1.heap.size := KW.out.1
  have KW : Hid (Blk (w1.alloc (.cells (madeCells #[.int .u8 0] l) 5)) w.heap.size a0 a1 a2 a3) := Blk.onto KW.out _
  have hrow : (w1.alloc (.cells (madeCells #[.int .u8 0] l) 5)).rowIs w1.heap.size 5 l (laidN (num a0 a1 a2 a3) l 0) := World.rowIs.congr (World.rowIs_made w1 (.int .u8 0) l 5) (fun i hi => by unfold laidN; rw [if_neg (by omega)])
  have hB : Below w.heap.size w (w1.alloc (.cells (madeCells #[.int .u8 0] l) 5)) := hB.alloc hB.size _
  clear hmk
  have hcw : w.heap.size ≤ w1.heap.size := by omega
  have hne : w1.heap.size ≠ w.heap.size := by omega
  clear hz1
  generalize w1.heap.size = c at *
  generalize (w1.alloc (.cells (madeCells #[.int .u8 0] l) 5)) = w2 at *
  go_loopw [11] (fun i wr => ∃ (k : Nat), k ≤ l ∧ i = .int .i64 k ∧ wr.rowIs c 5 l (laidN (num a0 a1 a2 a3) l k) ∧ Hid (Blk wr w.heap.size a0 a1 a2 a3) ∧ Below w.heap.size w wr) (fun i _ => 32 - (intOf i).toNat)
  case atStart => exact ⟨0, by omega, rfl, hrow, KW, hB⟩
  case round =>
    clear hrow KW hB
    obtain ⟨k, hk, rfl, hrow, KW, hB⟩ := hrel
    by_cases hlt : k < l
    · have HLB : Hid _ := lowByte_any a0 a1 a2 a3 (k : Int) HA.out (by omega) (by omega)
      have hlow : lowN (num a0 a1 a2 a3) (k : Int) = num a0 a1 a2 a3 / 256 ^ k % 256 := by unfold lowN; rw [pow256, show (8 * (k : Int)).toNat = 8 * k from by omega]
      have hx : 0 ≤ num a0 a1 a2 a3 / 256 ^ k % 256 ∧ num a0 a1 a2 a3 / 256 ^ k % 256 < 256 := by omega
      rw [hlow] at HLB
      have hrow2 : Hid (∀ o, ((wr.setCell ⟨c, l - 1 - k, none⟩ (.int .u8 (num a0 a1 a2 a3 / 256 ^ k % 256))).alloc o).rowIs c 5 l (laidN (num a0 a1 a2 a3) l (k + 1))) := fun o => World.rowIs.alloc (laidN_step hrow hlt) o
      have hcl := World.rowIs.lt hrow
      have hc2 : ∀ o, (wr.alloc o).cell? ⟨c, l - 1 - k, none⟩ = some (laidN (num a0 a1 a2 a3) l k (l - 1 - k)) := fun o => World.rowIs.cell (World.rowIs.alloc hrow o) (by omega)
      have hfz : ∀ o, (wr.alloc o).frozen? ⟨c, l - 1 - k, none⟩ = false := fun o => World.rowIs.frozen (World.rowIs.alloc hrow o) _
      obtain ⟨old, hold⟩ : ∃ old, laidN (num a0 a1 a2 a3) l k (l - 1 - k) = .int .u8 old := ⟨_, rfl⟩
      rw [hold] at hc2
      have e31 : ((l : Int) - 1 - (k : Int)).toNat = l - 1 - k := by omega
      generalize num a0 a1 a2 a3 / 256 ^ k % 256 = x at *
      obtain ⟨hx0, hx1⟩ := hx
      clear hlow hold hrow
      obtain ⟨zW, W0_, W1_, W2_, W3_, fW⟩ := KW.out
      
      go_wp2_with fail
      refine Calls.mono (HLB.out _) ?_
      rintro e w3 ⟨rfl, cc, rfl⟩
      have hc3 := hc2 (.cells cc 46)
      have hfz3 := hfz (.cells cc 46)
      clear hc2 hfz
      go_wp2
      exact ⟨⟨k + 1, by omega, by go_num, hrow2.out _, Blk.onto (blk_far KW.out hne _ _) _, by go_grown⟩, by simp [intOf]; omega⟩
    · have hkl : k = l := by omega
      have hrow3 : Hid (wr.rowIs c 5 l (fun j => .int .u8 (num a0 a1 a2 a3 / 256 ^ (l - 1 - j) % 256))) := World.rowIs.congr hrow (fun i hi => by
        unfold laidN; rw [if_pos (by omega)])
      clear hrow hkl
      have hd' : decide ((k : Int) < (l : Int)) = false := by simp; omega
      go_wp2
      go_ret
      exact ⟨l, hl, HL, c, rfl, hcw, hrow3.out, hB⟩

end Go.Proofs.YtboeokmaepchgaaGreatDoor.Wd
