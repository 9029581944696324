/- Walks over bits: one by one, and the document's small numbers and bytes. -/
import Derived.Test.YtlpmmejdfenkiaaWdQ0
import Derived.Test.YtlpmmejdfenkiaaWdR8
import Derived.Test.YtlpmmejdfenkiaaWdE2
import Derived.Test.YtlpmmejdfenkiaaWdW5
namespace Go.Proofs.Ytlpmmejdfenkiaa.Wd
open Go.RowKit
set_option linter.unusedSimpArgs false
set_option linter.unusedVariables false
theorem digit_eq (d : List Int) (Bd : Byt d) (t : Nat) : d.getD t 0 = valB d / 256 ^ t % 256 := by
  have h1 := valB_split d t
  have h2 := drop_step d t
  have h3 := valB_bd (d.take t) (Bd.take t)
  have h4 : (256 : Int) ^ (d.take t).length ≤ 256 ^ t := Int.pow_le_pow_of_le_right' (by simp; omega)
  have hP : (0 : Int) < 256 ^ t := Int.pow_pos (by decide)
  have h5 := Bd t
  rw [h1, Int.add_mul_ediv_left _ _ (by omega), Int.ediv_eq_zero_of_lt h3.1 (by omega), h2]
  omega
theorem Try.info5 : (Try.prog.info? 5).map (fun i => (i.zero, i.size, i.bytes)) = some (some (.int .u8 0), 1, 1) := by kernel_rfl
/-- The byte number j of 32, the highest first, of a list of digits, the lowest first, that is laid up to k. -/
def laid (d : List Int) (k : Nat) (j : Nat) : Value := .int .u8 (if 31 - j < k then d.getD (31 - j) 0 else 0)
set_option maxHeartbeats 4000000 in
/-- conclaveref01.Bytes -/
theorem bytesref_any (a0 a1 a2 a3 : Int) (ha : L4 a0 a1 a2 a3) (w : World) :
    Calls Try.prog 46 #[W4 a0 a1 a2 a3] w fun e w' => ∃ b, e = .returned (.slice (some ⟨b, 0, none⟩) 32 32) ∧ w.heap.size ≤ b ∧ w'.rowIs b 5 32 (fun j => .int .u8 (num a0 a1 a2 a3 / 256 ^ (31 - j) % 256)) ∧ Below w.heap.size w w' := by
  have HA : Hid _ := ha
  clear ha
  have hmk : ∀ w : World, (Instr.makeSlice 28 (.int .i64 32) (.int .i64 32)).run Try.prog w = .ok (.slice (some ⟨w.heap.size, 0, none⟩) 32 32) (w.alloc (.cells (madeCells #[.int .u8 0] 32) 5)) := run_make_row' (P := Try.prog) 28 5 (.int .u8 0) 1 Try.underlying28 Try.info5 rfl .i64 .i64 32 (by omega) (by omega)
  unfold W4
  go_enter Try.func46, Try.ntmps46
  go_wp2_with fail
  have hB : Below w.heap.size w (w.alloc (.cells #[.int .u64 a0, .int .u64 a1, .int .u64 a2, .int .u64 a3] 30)) := by go_grown
  generalize (w.alloc (.cells #[.int .u64 a0, .int .u64 a1, .int .u64 a2, .int .u64 a3] 30)) = w0 at *
  refine (of_st a0 a1 a2 a3 HA.out _).mono ?_
  rintro e w1 ⟨v1, d, rfl, N1, P1, hw1⟩
  have hB : Below w.heap.size w w1 := hB.trans (hw1.mono hB.size)
  have hs1 := hB.size
  clear hw1
  have hl : d.length ≤ 32 := P1.out.2.1
  have HBd : Hid (Byt d) := P1.out.1
  obtain ⟨aa, ca, rfl, hca, hN⟩ := N1
  have HC : Hid _ := cells_le hN
  clear hN
  go_wp2
  have hrow : (w1.alloc (.cells (madeCells #[.int .u8 0] 32) 5)).rowIs w1.heap.size 5 32 (laid d 0) := World.rowIs.congr (World.rowIs_made w1 (.int .u8 0) 32 5) (fun i hi => by unfold laid; rw [if_neg (by omega)])
  have hB2 : Below w1.heap.size w1 (w1.alloc (.cells (madeCells #[.int .u8 0] 32) 5)) := by go_grown
  clear hmk
  generalize (w1.alloc (.cells (madeCells #[.int .u8 0] 32) 5)) = w2 at *
  go_loopw [5] (fun i wr => ∃ (k : Nat), k ≤ d.length ∧ i = .int .i64 k ∧ wr.rowIs w1.heap.size 5 32 (laid d k) ∧ Below w1.heap.size w1 wr) (fun i _ => 32 - (intOf i).toNat)
  case atStart => exact ⟨0, by omega, rfl, hrow, hB2⟩
  case round =>
    obtain ⟨k, hk, rfl, hrow, hbw⟩ := hrel
    by_cases hlt : k < d.length
    · obtain ⟨b, o, rfl, hb, hcell⟩ := HC.out k hlt
      have hx := HBd.out k
      have hc1 := (hbw.cell (p := ⟨b, o + k, none⟩) hb).trans hcell
      have hc2 := World.rowIs.cell hrow (i := 31 - k) (by omega)
      have hfz := World.rowIs.frozen hrow (31 - k)
      obtain ⟨old, hold⟩ : ∃ old, laid d k (31 - k) = .int .u8 old := ⟨_, rfl⟩
      rw [hold] at hc2
      have hrow2 : Hid ((wr.setCell ⟨w1.heap.size, 31 - k, none⟩ (.int .u8 (d.getD k 0))).rowIs w1.heap.size 5 32 (laid d (k + 1))) := World.rowIs.congr (World.rowIs.set hrow (31 - k) (.int .u8 (d.getD k 0))) (fun i hi => by
        by_cases e : i = 31 - k
        · rw [if_pos e]; unfold laid; rw [if_pos (by omega), show 31 - i = k from by omega]
        · rw [if_neg e]; unfold laid
          by_cases h : 31 - i < k
          · rw [if_pos h, if_pos (by omega)]
          · rw [if_neg h, if_neg (by omega)])
      generalize d.getD k 0 = x at *
      obtain ⟨hx0, hx1⟩ := hx
      have hwx : IntKind.u8.wrap x = x := by rw [IntKind.wrap_u8]; omega
      have e31 : (31 - (k : Int)).toNat = 31 - k := by omega
      clear hold hrow
      go_wp2
      exact ⟨⟨k + 1, by omega, by go_num, hrow2.out, by go_grown⟩, by simp [intOf]; omega⟩
    · have hkl : k = d.length := by omega
      have hrow3 : Hid (wr.rowIs w1.heap.size 5 32 (fun j => .int .u8 (num a0 a1 a2 a3 / 256 ^ (31 - j) % 256))) := World.rowIs.congr hrow (fun i hi => by
        unfold laid
        rw [← P1.out.2.2, ← digit_eq d HBd.out]
        by_cases h : 31 - i < k
        · rw [if_pos h]
        · rw [if_neg h]; simp [List.getD, List.getElem?_eq_none (show d.length ≤ 31 - i by omega)])
      subst hkl
      clear hrow
      go_wp2
      go_ret
      exact ⟨w1.heap.size, rfl, hs1, hrow3.out, hB.trans (hbw.mono hs1)⟩
end Go.Proofs.Ytlpmmejdfenkiaa.Wd
