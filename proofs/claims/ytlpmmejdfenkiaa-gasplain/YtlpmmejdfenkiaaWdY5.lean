/- Walks over bytes: when two lists of them are the same. -/
import Derived.Test.YtlpmmejdfenkiaaWdY3
import Derived.Test.YtlpmmejdfenkiaaWdB4
import Derived.Laws.BytesString
import Derived.Laws.BytesArg
import Derived.Laws.IdiomStrings
namespace Go.Proofs.Ytlpmmejdfenkiaa.Wd
open Go.RowKit
set_option linter.unusedSimpArgs false
set_option linter.unusedVariables false
/-- A slice of bytes that lies in memory. -/
def IsY (w : World) (v : Value) (l : List UInt8) : Prop :=
  ∃ b o cap, v = .slice (some ⟨b, o, none⟩) l.length cap ∧ b < w.heap.size ∧ ∀ j (hj : j < l.length), w.cell? ⟨b, o + j, none⟩ = some (.int .u8 (l[j].toNat : Int))
theorem IsY.below {w w' : World} {v : Value} {l : List UInt8} (h : IsY w v l) (hb : Below w.heap.size w w') : IsY w' v l := by
  obtain ⟨b, o, cap, rfl, hlt, hc⟩ := h
  exact ⟨b, o, cap, rfl, Nat.lt_of_lt_of_le hlt hb.size, fun j hj => (hb.cell (p := ⟨b, o + j, none⟩) hlt).trans (hc j hj)⟩
/-- The last n bytes of a number, the highest first. -/
def bytesL (X : Int) (n : Nat) : List UInt8 := (List.range n).map fun j => UInt8.ofNat (X / 256 ^ (n - 1 - j) % 256).toNat
theorem isY_row {w : World} {b m o n cap : Nat} {X : Int} {f : Nat → Value} (h : w.rowIs b 5 m f) (ho : o + n ≤ m) (hf : ∀ j, j < n → f (o + j) = .int .u8 (X / 256 ^ (n - 1 - j) % 256)) : IsY w (.slice (some ⟨b, o, none⟩) n cap) (bytesL X n) := by
  have hl : (bytesL X n).length = n := by simp [bytesL]
  refine ⟨b, o, cap, by rw [hl], World.rowIs.lt h, fun j hj => ?_⟩
  rw [hl] at hj
  rw [World.rowIs.cell h (i := o + j) (by omega), hf j hj]
  have e : (bytesL X n)[j]'(by rw [hl]; exact hj) = UInt8.ofNat (X / 256 ^ (n - 1 - j) % 256).toNat := by simp [bytesL]
  rw [e]
  congr 2
  simp only [UInt8.toNat_ofNat']
  omega
set_option maxHeartbeats 4000000 in
/-- conclaveref01.Short -/
theorem shortref_any (a0 a1 a2 a3 : Int) (ha : L4 a0 a1 a2 a3) (w : World) :
    Calls Try.prog 41 #[W4 a0 a1 a2 a3] w fun e w' => ∃ (l : Nat), l ≤ 32 ∧ Hid (lenN (num a0 a1 a2 a3) l) ∧ ∃ (v : Value), e = .returned v ∧ (∃ a c, v = .slice a l c) ∧ IsY w' v (bytesL (num a0 a1 a2 a3) l) ∧ Below w.heap.size w w' := by
  have HA : Hid _ := ha
  clear ha
  unfold W4
  go_enter Try.func41, Try.ntmps41
  go_wp2_with fail
  have KW : Hid (Blk (w.alloc (.cells #[.int .u64 a0, .int .u64 a1, .int .u64 a2, .int .u64 a3] 30)) w.heap.size a0 a1 a2 a3) := by refine ⟨by simp, ?_, ?_, ?_, ?_, fun k => ?_⟩ <;> simp [go_sem]
  have hB : Below w.heap.size w (w.alloc (.cells #[.int .u64 a0, .int .u64 a1, .int .u64 a2, .int .u64 a3] 30)) := by go_grown
  generalize (w.alloc (.cells #[.int .u64 a0, .int .u64 a1, .int .u64 a2, .int .u64 a3] 30)) = w0 at *
  refine (of_top a0 a1 a2 a3 HA.out _).mono ?_
  rintro e w1 ⟨v, d, rfl, hN, HT, hw⟩
  have KW : Hid _ := Blk.below KW.out hw
  have hB : Below w.heap.size w w1 := hB.trans (hw.mono hB.size)
  clear hw
  obtain ⟨aa, ca, rfl, hca⟩ := hN.shape
  have hl : d.length ≤ 32 := HT.out.2.1
  have HL : Hid _ := lenN_top HT.out
  clear hN HT
  generalize d.length = l at *
  obtain ⟨zW, W0_, W1_, W2_, W3_, fW⟩ := KW.out
  go_wp2_with fail
  refine (bytesref_any a0 a1 a2 a3 HA.out _).mono ?_
  rintro e w2 ⟨b, rfl, hb, hrow, hw⟩
  have hB : Below w.heap.size w w2 := hB.trans (hw.mono hB.size)
  have HRow : Hid _ := hrow
  clear hw zW W0_ W1_ W2_ W3_ fW KW hrow
  obtain ⟨o, ho⟩ : ∃ o : Nat, o + l = 32 := ⟨32 - l, by omega⟩
  have hIo : (32 : Int) - (l : Int) = (o : Int) := by omega
  have ho32 : (o : Int) ≤ 32 := by omega
  have HO : Hid _ := ho
  have HL32 : Hid _ := hl
  clear ho hl hca
  go_wp2
  all_goals go_ret
  all_goals have hol : 32 - o = l := by have := HO.out; omega
  all_goals refine ⟨l, by (have := HL32.out; have := HO.out; omega), HL, _, rfl, ?_, ?_, hB⟩
  · show ∃ a c, Value.slice (some ⟨b, 0, none⟩) 0 0 = .slice a l c
    rw [show l = 0 from by omega]
    exact ⟨_, _, rfl⟩
  · show IsY w2 (Value.slice (some ⟨b, 0, none⟩) 0 0) _
    rw [show l = 0 from by omega]
    exact isY_row HRow.out (by omega) (fun j hj => absurd hj (by omega))
  · show ∃ a c, Value.slice (some ⟨b, o, none⟩) (32 - o) (32 - o) = .slice a l c
    rw [hol]
    exact ⟨_, _, rfl⟩
  · show IsY w2 (Value.slice (some ⟨b, o, none⟩) (32 - o) (32 - o)) _
    rw [hol]
    exact isY_row HRow.out (by have := HO.out; omega) (fun j hj => by
      have := HO.out
      show Value.int .u8 _ = _
      rw [show 31 - (o + j) = l - 1 - j from by omega])
end Go.Proofs.Ytlpmmejdfenkiaa.Wd
