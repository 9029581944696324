/- WdE2, WdB3, WdY3, WdB6, WdY4, RlC, RlD -/
import Derived.Test.YtojfcdjgcgnajaaGreatGWdE1
import Derived.Deep.OwnRows
import Derived.Laws.AppendOwnNone
import Derived.Laws.IdiomCopy
import Derived.Laws.BytesString
import Derived.Laws.BytesArg
import Derived.Test.YtojfcdjgcgnajaaGreatRlB
import Derived.WalkSmall
import Derived.Laws.CopyOwn
import Derived.Laws.Externs
import Derived.Lib.AppendZerosOnto
import Derived.Deep.RegionLaw
namespace Go.Proofs.YtojfcdjgcgnajaaGreat.Wd
open Go.RowKit
set_option linter.unusedSimpArgs false
set_option linter.unusedVariables false
def Blk (w : World) (b : Nat) (x0 x1 x2 x3 : Int) : Prop := b < w.heap.size ∧ w.cell? ⟨b, 0, none⟩ = some (.int .u64 x0) ∧ w.cell? ⟨b, 1, none⟩ = some (.int .u64 x1) ∧ w.cell? ⟨b, 2, none⟩ = some (.int .u64 x2) ∧ w.cell? ⟨b, 3, none⟩ = some (.int .u64 x3) ∧ ∀ k, w.frozen? ⟨b, k, none⟩ = false
theorem Blk.below {w w1 : World} {b : Nat} {x0 x1 x2 x3 : Int} (h : Blk w b x0 x1 x2 x3) (hb : Below w.heap.size w w1) : Blk w1 b x0 x1 x2 x3 := by
 obtain ⟨hz, c0, c1, c2, c3, f⟩ := h; exact ⟨Nat.lt_of_lt_of_le hz hb.size, (hb.cell (p := ⟨b, 0, none⟩) hz).trans c0, (hb.cell (p := ⟨b, 1, none⟩) hz).trans c1, (hb.cell (p := ⟨b, 2, none⟩) hz).trans c2, (hb.cell (p := ⟨b, 3, none⟩) hz).trans c3, fun k => (hb.frozen (p := ⟨b, k, none⟩) hz).trans (f k)⟩
theorem frozen_set {w : World} {a b : Addr} {v : Value} (h : w.frozen? b = false) : (w.setCell a v).frozen? b = false := by
 simpa [go_sem] using h
theorem size_set {w : World} {a : Addr} {v : Value} : (w.setCell a v).heap.size = w.heap.size := by simp [World.setCell]
end Go.Proofs.YtojfcdjgcgnajaaGreat.Wd
namespace Go.Proofs.YtojfcdjgcgnajaaGreat.Wd
open Go.RowKit
set_option linter.unusedSimpArgs false
set_option linter.unusedVariables false
theorem Tryz.info5 : (Tryz.prog.info? 5).map (fun i => (i.zero, i.size, i.bytes)) = some (some (.int .u8 0), 1, 1) := by kernel_rfl
end Go.Proofs.YtojfcdjgcgnajaaGreat.Wd
namespace Go.Proofs.YtojfcdjgcgnajaaGreat.Wd
open Go.RowKit
set_option linter.unusedSimpArgs false
set_option linter.unusedVariables false
theorem two_pow_le {j k : Nat} (h : j ≤ k) : (2 : Int) ^ j ≤ 2 ^ k := by
 have := Nat.pow_le_pow_right (n := 2) (by decide) h; have e : ∀ k : Nat, (2 : Int) ^ k = ((2 ^ k : Nat) : Int) := fun k => by simp
 rw [e, e]; omega
def lenN (n : Int) (l : Nat) : Prop := n < 256 ^ l ∧ (l = 0 ∨ 256 ^ (l - 1) ≤ n)
theorem lenN_bits {n : Int} {k : Nat} (h : n < 2 ^ k ∧ (k = 0 ∨ 2 ^ (k - 1) ≤ n)) : lenN n ((k + 7) / 8) := by
 obtain ⟨h1, h2⟩ := h; refine ⟨?_, ?_⟩
 · rw [pow256]; exact Int.lt_of_lt_of_le h1 (two_pow_le (by omega))
 · rcases h2 with h | h
   · left; omega
   · rcases Nat.eq_zero_or_pos ((k + 7) / 8) with g | g
     · exact Or.inl g
     · right
       rw [pow256]; exact Int.le_trans (two_pow_le (by omega)) h
set_option maxRecDepth 100000 in
set_option maxHeartbeats 1000000 in
theorem len_any (a0 a1 a2 a3 : Int) (ha : L4 a0 a1 a2 a3) (w : World) :
 Calls Tryz.prog 108 #[W4 a0 a1 a2 a3] w fun e w' => ∃ l : Nat, e = .returned (.int .i64 l) ∧ l ≤ 32 ∧ Hid (lenN (num a0 a1 a2 a3) l) ∧ Below w.heap.size w w' := by
 have HA : Hid _ := ha; clear ha; unfold W4; go_enter Tryz.func108, Tryz.ntmps108; go_wp2_with fail; refine (bitLen_any a0 a1 a2 a3 HA.out _).mono ?_; rintro e w1 ⟨n, rfl, hn, HN, hw⟩; have hB : Below w.heap.size w w1 := Below.trans (by go_grown) (hw.mono (by simp)); clear hw; have HL : Hid _ := lenN_bits HN.out; clear HN; go_wp2; go_ret; exact ⟨(n + 7) / 8, by first | go_num | (simp; done) | (simp; omega), by omega, HL, by go_grown⟩
end Go.Proofs.YtojfcdjgcgnajaaGreat.Wd
namespace Go.Proofs.YtojfcdjgcgnajaaGreat.Wd
open Go.RowKit
set_option linter.unusedSimpArgs false
set_option linter.unusedVariables false
theorem Blk.onto {w : World} {b : Nat} {x0 x1 x2 x3 : Int} (h : Blk w b x0 x1 x2 x3) (o : Obj) : Blk (w.alloc o) b x0 x1 x2 x3 := by
 obtain ⟨hz, c0, c1, c2, c3, f⟩ := h; refine ⟨by simp; omega, ?_, ?_, ?_, ?_, fun k => ?_⟩
 · rw [World.cell?_alloc_past _ _ _ hz]; exact c0
 · rw [World.cell?_alloc_past _ _ _ hz]; exact c1
 · rw [World.cell?_alloc_past _ _ _ hz]; exact c2
 · rw [World.cell?_alloc_past _ _ _ hz]; exact c3
 · rw [World.frozen?_alloc_past _ _ _ hz]; exact f k
end Go.Proofs.YtojfcdjgcgnajaaGreat.Wd
namespace Go.Proofs.YtojfcdjgcgnajaaGreat.Wd
open Go.RowKit
set_option linter.unusedSimpArgs false
set_option linter.unusedVariables false
def laidN (X : Int) (n k : Nat) (j : Nat) : Value := .int .u8 (if n - 1 - j < k then X / 256 ^ (n - 1 - j) % 256 else 0)
theorem laidN_step {w : World} {c : Nat} {X : Int} {n k : Nat} (h : w.rowIs c 5 n (laidN X n k)) (hk : k < n) : (w.setCell ⟨c, n - 1 - k, none⟩ (.int .u8 (X / 256 ^ k % 256))).rowIs c 5 n (laidN X n (k + 1)) :=
 World.rowIs.congr (World.rowIs.set h (n - 1 - k) (.int .u8 (X / 256 ^ k % 256))) (fun i hi => by
  by_cases e : i = n - 1 - k
  · rw [if_pos e]; unfold laidN; rw [if_pos (by omega), show n - 1 - i = k from by omega]
  · rw [if_neg e]; unfold laidN
    by_cases h : n - 1 - i < k
    · rw [if_pos h, if_pos (by omega)]
    · rw [if_neg h, if_neg (by omega)])
theorem blk_far {w : World} {b c : Nat} {x0 x1 x2 x3 : Int} (h : Blk w b x0 x1 x2 x3) (e : c ≠ b) (o : Nat) (v : Value) : Blk (w.setCell ⟨c, o, none⟩ v) b x0 x1 x2 x3 := by
 obtain ⟨hz, c0, c1, c2, c3, f⟩ := h; refine ⟨by rw [size_set]; exact hz, ?_, ?_, ?_, ?_, fun k => frozen_set (f k)⟩
 all_goals (rw [World.cell?_setCell_far _ _ _ _ (by simpa using e)]; assumption)
set_option maxRecDepth 100000 in
set_option maxHeartbeats 4000000 in
theorem short_any (a0 a1 a2 a3 : Int) (ha : L4 a0 a1 a2 a3) (w : World) :
 Calls Tryz.prog 70 #[W4 a0 a1 a2 a3] w fun e w' => ∃ l : Nat, l ≤ 32 ∧ Hid (lenN (num a0 a1 a2 a3) l) ∧ ∃ b, e = .returned (.slice (some ⟨b, 0, none⟩) l l) ∧ w.heap.size ≤ b ∧ w'.rowIs b 5 l (fun j => .int .u8 (num a0 a1 a2 a3 / 256 ^ (l - 1 - j) % 256)) ∧ Below w.heap.size w w' := by
 have HA : Hid _ := ha; clear ha; have hmk0 : ∀ (l : Nat), l ≤ 32 → ∀ w : World, (Instr.makeSlice 28 (.int .i64 l) (.int .i64 l)).run Tryz.prog w = .ok (.slice (some ⟨w.heap.size, 0, none⟩) l l) (w.alloc (.cells (madeCells #[.int .u8 0] l) 5)) := fun l hl => run_make_row' (P := Tryz.prog) 28 5 (.int .u8 0) 1 Tryz.underlying28 Tryz.info5 rfl .i64 .i64 l (by omega) (by omega)
 unfold W4; go_enter Tryz.func70, Tryz.ntmps70; go_wp2_with fail; have KW : Hid (Blk (w.alloc (.cells #[.int .u64 a0, .int .u64 a1, .int .u64 a2, .int .u64 a3] 51)) w.heap.size a0 a1 a2 a3) := by refine ⟨by simp, ?_, ?_, ?_, ?_, fun k => ?_⟩ <;> simp [go_sem]
 have hB : Below w.heap.size w (w.alloc (.cells #[.int .u64 a0, .int .u64 a1, .int .u64 a2, .int .u64 a3] 51)) := by go_grown
 generalize (w.alloc (.cells #[.int .u64 a0, .int .u64 a1, .int .u64 a2, .int .u64 a3] 51)) = w0 at *; refine (len_any a0 a1 a2 a3 HA.out _).mono ?_; rintro e w1 ⟨l, rfl, hl, HL, hw⟩; have KW : Hid _ := Blk.below KW.out hw; have hB : Below w.heap.size w w1 := hB.trans (hw.mono hB.size); clear hw; have hmk := hmk0 l hl; clear hmk0; go_wp2; have hz1 : w.heap.size < w1.heap.size := KW.out.1; have KW : Hid (Blk (w1.alloc (.cells (madeCells #[.int .u8 0] l) 5)) w.heap.size a0 a1 a2 a3) := Blk.onto KW.out _; have hrow : (w1.alloc (.cells (madeCells #[.int .u8 0] l) 5)).rowIs w1.heap.size 5 l (laidN (num a0 a1 a2 a3) l 0) := World.rowIs.congr (World.rowIs_made w1 (.int .u8 0) l 5) (fun i hi => by unfold laidN; rw [if_neg (by omega)]); have hB : Below w.heap.size w (w1.alloc (.cells (madeCells #[.int .u8 0] l) 5)) := hB.alloc hB.size _; clear hmk; have hcw : w.heap.size ≤ w1.heap.size := by omega
 have hne : w1.heap.size ≠ w.heap.size := by omega
 clear hz1; generalize w1.heap.size = c at *; generalize (w1.alloc (.cells (madeCells #[.int .u8 0] l) 5)) = w2 at *; go_loopw [11] (fun i wr => ∃ (k : Nat), k ≤ l ∧ i = .int .i64 k ∧ wr.rowIs c 5 l (laidN (num a0 a1 a2 a3) l k) ∧ Hid (Blk wr w.heap.size a0 a1 a2 a3) ∧ Below w.heap.size w wr) (fun i _ => 32 - (intOf i).toNat)
 case atStart => exact ⟨0, by omega, rfl, hrow, KW, hB⟩
 case round =>
  clear hrow KW hB; obtain ⟨k, hk, rfl, hrow, KW, hB⟩ := hrel; by_cases hlt : k < l
  · have HLB : Hid _ := lowByte_any a0 a1 a2 a3 (k : Int) HA.out (by omega) (by omega)
    have hlow : lowN (num a0 a1 a2 a3) (k : Int) = num a0 a1 a2 a3 / 256 ^ k % 256 := by unfold lowN; rw [pow256, show (8 * (k : Int)).toNat = 8 * k from by omega]
    have hx : 0 ≤ num a0 a1 a2 a3 / 256 ^ k % 256 ∧ num a0 a1 a2 a3 / 256 ^ k % 256 < 256 := by omega
    rw [hlow] at HLB; have hrow2 : Hid (∀ o, ((wr.setCell ⟨c, l - 1 - k, none⟩ (.int .u8 (num a0 a1 a2 a3 / 256 ^ k % 256))).alloc o).rowIs c 5 l (laidN (num a0 a1 a2 a3) l (k + 1))) := fun o => World.rowIs.alloc (laidN_step hrow hlt) o
    have hcl := World.rowIs.lt hrow; have hc2 : ∀ o, (wr.alloc o).cell? ⟨c, l - 1 - k, none⟩ = some (laidN (num a0 a1 a2 a3) l k (l - 1 - k)) := fun o => World.rowIs.cell (World.rowIs.alloc hrow o) (by omega)
    have hfz : ∀ o, (wr.alloc o).frozen? ⟨c, l - 1 - k, none⟩ = false := fun o => World.rowIs.frozen (World.rowIs.alloc hrow o) _
    obtain ⟨old, hold⟩ : ∃ old, laidN (num a0 a1 a2 a3) l k (l - 1 - k) = .int .u8 old := ⟨_, rfl⟩
    rw [hold] at hc2; have e31 : ((l : Int) - 1 - (k : Int)).toNat = l - 1 - k := by omega
    generalize num a0 a1 a2 a3 / 256 ^ k % 256 = x at *; obtain ⟨hx0, hx1⟩ := hx; clear hlow hold hrow; obtain ⟨zW, W0_, W1_, W2_, W3_, fW⟩ := KW.out; go_wp2_with fail; refine Calls.mono (HLB.out _) ?_; rintro e w3 ⟨rfl, cc, rfl⟩; have hc3 := hc2 (.cells cc 51); have hfz3 := hfz (.cells cc 51); clear hc2 hfz; go_wp2; exact ⟨⟨k + 1, by omega, by go_num, hrow2.out _, Blk.onto (blk_far KW.out hne _ _) _, by go_grown⟩, by simp [intOf]; omega⟩
  · have hkl : k = l := by omega
    have hrow3 : Hid (wr.rowIs c 5 l (fun j => .int .u8 (num a0 a1 a2 a3 / 256 ^ (l - 1 - j) % 256))) := World.rowIs.congr hrow (fun i hi => by
     unfold laidN; rw [if_pos (by omega)])
    clear hrow hkl; have hd' : decide ((k : Int) < (l : Int)) = false := by simp; omega
    go_wp2; go_ret
    exact ⟨l, hl, HL, c, rfl, hcw, hrow3.out, hB⟩
end Go.Proofs.YtojfcdjgcgnajaaGreat.Wd
namespace Go.Proofs.YtojfcdjgcgnajaaGreat.Rl
open Go.RowKit Go.Maps Go.Joins
set_option linter.unusedSimpArgs false
set_option linter.unusedVariables false
def pan (c : Int) : Ending := .panicked [{ v := .iface 31 (.int .i64 c), recovered := false }]
theorem fitting_ok {w : World} (a : Option Addr) (n cap : Nat) (hn : n ≤ 65536) :
 Calls Tryz.prog 105 #[.slice a n cap] w fun e w' => e = .returned (.slice a n cap) ∧ w' = w := by
 have h : ¬ (65536 : Int) < n := by omega
 go_enter Tryz.func105, Tryz.ntmps105
 go_wp2; go_ret
 exact ⟨rfl, rfl⟩
theorem fitting_no {w : World} (a : Option Addr) (n cap : Nat) (hn : 65536 < n) :
 Calls Tryz.prog 105 #[.slice a n cap] w fun e w' => e = pan 3 ∧ w' = w := by
 have h : (65536 : Int) < n := by omega
 go_enter Tryz.func105, Tryz.ntmps105
 go_wp2; exact ⟨rfl, rfl, rfl⟩
theorem shortB_at : ∀ (l n : Nat), Wd.lenN (n : Int) l → shortB n = (List.range l).map fun j => ((n / 256 ^ (l - 1 - j) % 256 : Nat) : Int) := by
 intro l; induction l with
 | zero =>
   intro n h; have : n = 0 := by have := h.1; simp at this; omega
   subst this; rw [shortB_zero]; rfl
 | succ l ih =>
   intro n h; have h2 : 256 ^ l ≤ n := by
    rcases h.2 with h2 | h2
    · omega
    · simp at h2
      have e : ((256 ^ l : Nat) : Int) = (256 : Int) ^ l := by simp
      omega
   have h1 : n < 256 ^ l * 256 := by
    have := h.1; have e : ((256 ^ l * 256 : Nat) : Int) = (256 : Int) ^ (l + 1) := by simp [Int.pow_succ]
    omega
   have hp : 0 < 256 ^ l := Nat.pow_pos (by decide); rw [shortB_pos (by omega), ih (n / 256) (by
    constructor
    · have e : ((256 ^ l : Nat) : Int) = (256 : Int) ^ l := by simp
      have : n / 256 < 256 ^ l := by omega
      omega
    · cases l with
      | zero => exact Or.inl rfl
      | succ l =>
        right
        simp
        have e : ((256 ^ l : Nat) : Int) = (256 : Int) ^ l := by simp
        have : 256 ^ l ≤ n / 256 := by rw [Nat.pow_succ] at h2; omega
        omega)]
   rw [List.range_succ, List.map_append]; congr 1
   · refine List.map_congr_left ?_
     intro j hj; have hj := List.mem_range.1 hj; congr 2; rw [Nat.div_div_eq_div_mul, show l + 1 - 1 - j = (l - 1 - j) + 1 from by omega, Nat.pow_succ, Nat.mul_comm]
   · simp
theorem ownsRow_of_rowIs {w : World} {b base l : Nat} {bs : List Int} (hb : base ≤ b) (hm : l ≤ 32) (hl : bs.length = l) (h : w.rowIs b 5 l (fun j => (vB bs).getD j .nilIface)) : w.ownsRow base 5 1 (.slice (some ⟨b, 0, none⟩) l l) bs.length (vB bs) := by
 refine ⟨by rw [vB_length, Nat.mul_one], Or.inr ?_⟩; obtain ⟨cs, h1, h2, h3⟩ := h; refine ⟨b, l, cs, by rw [hl], hb, h1, by omega, by unfold maxLen; omega, by rw [h2, Nat.mul_one], ?_⟩; rw [hl, Nat.mul_one]; apply List.ext_getElem?; intro i; by_cases hi : i < l
 · rw [List.getElem?_take, if_pos hi, Array.getElem?_toList, h3 i hi]
   have : i < (vB bs).length := by rw [vB_length]; omega
   simp [List.getD_eq_getElem?_getD, List.getElem?_eq_getElem this]
 · rw [List.getElem?_eq_none (by rw [List.length_take]; omega), List.getElem?_eq_none (by rw [vB_length]; omega)]
theorem own_new1 (w : World) (x : Int) : (w.alloc (.cells #[.int .u8 x] 5)).ownsRow w.heap.size 5 1 (.slice (some ⟨w.heap.size, 0, none⟩) 1 1) [x].length (vB [x]) :=
 ⟨rfl, Or.inr ⟨w.heap.size, 1, #[.int .u8 x], rfl, Nat.le_refl _, by have := heap_alloc_new w (.cells #[.int .u8 x] 5); simpa using this, Nat.le_refl _, by decide, rfl, rfl⟩⟩
set_option maxRecDepth 100000 in
set_option maxHeartbeats 4000000 in
theorem head_any {w : World} (kind : Int) (hk : kind = 128 ∨ kind = 192) (n : Nat) (hn : n ≤ 200000) :
 Calls Tryz.prog 107 #[.int .u8 kind, .int .i64 n] w fun e w' => ∃ v, e = .returned v ∧ w'.ownsRow w.heap.size 5 1 v (headB kind n).length (vB (headB kind n)) ∧ Below w.heap.size w w' := by
 by_cases h : n ≤ 55
 · have h' : (n : Int) ≤ 55 := by omega
   have e1 : headB kind n = [kind + n] := by unfold headB; rw [if_pos h]
   have e2 : IntKind.u8.wrap (kind + n) = kind + n := by rw [IntKind.wrap_u8]; rcases hk with rfl | rfl <;> omega
   have e3 : IntKind.u8.wrap (n : Int) = n := by rw [IntKind.wrap_u8]; omega
   rw [e1]; have hkb : 0 ≤ kind + n ∧ kind + n < 256 := by rcases hk with rfl | rfl <;> omega
   go_enter Tryz.func107, Tryz.ntmps107
   go_wp2; go_ret
   exact ⟨_, rfl, own_new1 w _, by go_grown⟩
 · have h' : ¬ (n : Int) ≤ 55 := by omega
   have e1 : headB kind n = (kind + 55 + (shortB n).length) :: shortB n := by unfold headB; rw [if_neg h]
   have e0 : IntKind.u64.wrap (n : Int) = n := by rw [IntKind.wrap_u64]; omega
   have hL : Wd.L4 (n : Int) 0 0 0 := ⟨⟨by omega, by omega⟩, ⟨by omega, by omega⟩, ⟨by omega, by omega⟩, ⟨by omega, by omega⟩⟩
   have hnum : Wd.num (n : Int) 0 0 0 = n := by unfold Wd.num; omega
   have e2 : IntKind.u8.wrap (kind + 55) = kind + 55 := by rw [IntKind.wrap_u8]; rcases hk with rfl | rfl <;> omega
   have HL : Hid (Wd.L4 (n : Int) 0 0 0) := hL; have HN : Hid (Wd.num (n : Int) 0 0 0 = n) := hnum; have HE : Hid (headB kind n = (kind + 55 + (shortB n).length) :: shortB n) := e1; have T1 : Hid True := trivial; clear hL hnum e1; go_enter Tryz.func107, Tryz.ntmps107; go_wp2_with (first
    | (have _ := T1
       go_at_call 43
       clear T1; refine (Wd.of_any (n : Int) _).mono ?_; rintro e w1 ⟨rfl, hb1⟩; have T2 : Hid True := trivial)
    | (have _ := T2
       go_at_call 70
       clear T2; refine (Wd.short_any (n : Int) 0 0 0 HL.out _).mono ?_; rintro e w2 ⟨l, hl, hlen, b, rfl, hbb, hrow, hb2⟩; rw [HN.out] at hlen hrow; have hs := shortB_at l n hlen.out; have hsl : (shortB n).length = l := by rw [hs]; simp
       have hl3 : l ≤ 3 := by rw [← hsl]; exact shortB_len 3 n (by omega)
       have hown : w2.ownsRow w.heap.size 5 1 (.slice (some ⟨b, 0, none⟩) l l) (shortB n).length (vB (shortB n)) := ownsRow_of_rowIs (by have := hb1.size; omega) hl hsl (hrow.congr (fun j hj => by
        rw [hs]; simp [vB, List.getD_eq_getElem?_getD, hj]))
       have H2 : Hid (w2.ownsRow w.heap.size 5 1 (.slice (some ⟨b, 0, none⟩) l l) (shortB n).length (vB (shortB n)) ∧ Below w.heap.size w w2 ∧ (shortB n).length = l ∧ w2.heap.size < w2.heap.size + 1) := ⟨hown, hb1.trans (hb2.mono hb1.size), hsl, by omega⟩
       have e4 : IntKind.u8.wrap (l : Int) = l := by rw [IntKind.wrap_u8]; omega
       have e5 : IntKind.u8.wrap (kind + 55 + (l : Int)) = kind + 55 + l := by rw [IntKind.wrap_u8]; rcases hk with rfl | rfl <;> omega
       have T3 : Hid True := trivial; clear hlen hrow hs hsl hown hb1 hb2)
    | (have _ := T3
       at_builtin
       clear T3; refine wpList_append_b rfl _ _ rfl w.heap.size (.slice (some ⟨w2.heap.size, 0, none⟩) 1 1) (.slice (some ⟨b, 0, none⟩) l l) [kind + 55 + (l : Int)] (shortB n) rfl (ownsRow_le (own_new1 w2 _) H2.out.2.1.size) rfl (BytesV.below (BytesV.of_own H2.out.1) (by go_grown)) (by rw [H2.out.2.2.1]; simp; omega) (by have := H2.out.2.1.size; simp; omega) ?_; intro v' w3 ho hg ha; have H3 : Hid (w3.ownsRow w.heap.size 5 1 v' (headB kind n).length (vB (headB kind n)) ∧ Below w.heap.size w w3) := ⟨by rw [HE.out, H2.out.2.2.1]; exact ho, (H2.out.2.1.alloc H2.out.2.1.size _).grown hg (by have := H2.out.2.1.size; simp; omega) (fun j hj => by have h9 : w2.heap.size = j := (by simpa [Value.ownBlock] using hj); have := H2.out.2.1.size; omega)⟩
       clear ho hg ha))
   go_ret; exact ⟨v', rfl, H3.out⟩
end Go.Proofs.YtojfcdjgcgnajaaGreat.Rl
namespace Go.Proofs.YtojfcdjgcgnajaaGreat.Rl
open Go.RowKit Go.Maps Go.Joins
set_option linter.unusedSimpArgs false
set_option linter.unusedVariables false
theorem gb_of_below {w w' : World} (h : Below w.heap.size w w') (r : Option Nat) : w.grownBy w' r := ⟨h.os, h.tape, h.output, h.size, fun k hk _ => h.block k hk⟩
theorem gb_comp {w w1 w2 : World} {r r1 : Option Nat} (h : w.grownBy w1 r) (k : w1.grownBy w2 r1) (e : r1 = r ∨ ∃ b, r1 = some b ∧ w.heap.size ≤ b) : w.grownBy w2 r :=
 ⟨k.os.trans h.os, k.tape.trans h.tape, k.output.trans h.output, Nat.le_trans h.size k.size, fun i hi hr => by
  rw [k.block i (Nat.lt_of_lt_of_le hi h.size) (by
   rcases e with e | ⟨b, e, hb⟩
   · rw [e]; exact hr
   · rw [e]; intro e2; injection e2 with e2; omega)]
  exact h.block i hi hr⟩
theorem gb_setRow (w : World) (g : Nat) (c : Array Value) : w.grownBy (w.setRow g c) (some g) := ⟨rfl, rfl, rfl, by simp [World.setRow], fun k _ hk => setRow_other w g k c (fun e => hk (by rw [e]))⟩
theorem sz5 : (Tryz.prog.info? 5).map (·.size) = some 1 := by kernel_rfl
theorem wpList_copy_o {w : World} {ops : Array Oper} {rest : List Oper} {o : Oper} {a : Act} {Q : Exit → Act → World → Prop} (hgd : o.guard = none) (d s : Operand)
 (ho : o.op = .call { callee := .builtin .copy, args := #[d, s], argTypes := #[28, 28] })
 (dp sp : Option Addr) (dLen dCap sLen sCap : Nat) (hd : a.eval d = .slice dp dLen dCap) (hs : a.eval s = .slice sp sLen sCap)
 (g off : Nat) (cur : List Value) (hg : w.heap[g]? = some (.cells cur.toArray 5 (0, 0))) (cs : List Value) (hn : cs.length = Nat.min sLen dLen)
 (hpos : 0 < cs.length → dp = some ⟨g, off, none⟩ ∧ ∃ ad, sp = some ad ∧ ∀ j v, cs[j]? = some v → w.cell? (ad.add j) = some v)
 (hfit : off + cs.length ≤ cur.length) (h1 : ∀ v ∈ cs, v.oneCell' = true)
 (h : ∀ w', Hid (w'.heap[g]? = some (.cells (Go.splice cur off cs).toArray 5 (0, 0))) → w.grownBy w' (some g) → wpList Tryz.prog ops Q rest (a.put o.dst (goInt cs.length)) w') :
 wpList Tryz.prog ops Q (o :: rest) a w := by
 by_cases h0 : cs.length = 0
 · obtain rfl : cs = [] := List.eq_nil_of_length_eq_zero h0
   refine wpList_copy_nothing hgd d s 28 28 ho 5 Tryz.underlying28 sz5 dp sp dLen dCap sLen sCap hd hs (by simpa using hn.symm) ?_; exact h w (show _ = _ by simpa [Go.splice] using hg) (World.grownBy.refl _ _)
 · obtain ⟨rfl, ad, rfl, hsrc⟩ := hpos (by omega)
   refine wpList_copy_own hgd d s 28 28 ho 5 Tryz.underlying28 sz5 g off dLen dCap ad sLen sCap hd hs cur.toArray 5 hg cs hn hsrc (by simpa using hfit) h1 ?_; exact h _ (show _ = _ by simpa [Go.splice] using setRow_heap w g _ _ 5 _ hg) (gb_setRow _ _ _)
theorem step_copy_o {w : World} {ops : Array Oper} {o : Oper} {a : Act} {K : Act → World → Prop} {Q : Exit → Act → World → Prop} {E : Prop} (hgd : o.guard = none) (d s : Operand)
 (ho : o.op = .call { callee := .builtin .copy, args := #[d, s], argTypes := #[28, 28] })
 (dp sp : Option Addr) (dLen dCap sLen sCap : Nat) (hd : a.eval d = .slice dp dLen dCap) (hs : a.eval s = .slice sp sLen sCap)
 (g off : Nat) (cur : List Value) (hg : w.heap[g]? = some (.cells cur.toArray 5 (0, 0))) (cs : List Value) (hn : cs.length = Nat.min sLen dLen)
 (hpos : 0 < cs.length → dp = some ⟨g, off, none⟩ ∧ ∃ ad, sp = some ad ∧ ∀ j v, cs[j]? = some v → w.cell? (ad.add j) = some v)
 (hfit : off + cs.length ≤ cur.length) (h1 : ∀ v ∈ cs, v.oneCell' = true)
 (h : ∀ w', Hid (w'.heap[g]? = some (.cells (Go.splice cur off cs).toArray 5 (0, 0))) → w.grownBy w' (some g) → K (a.put o.dst (goInt cs.length)) w') :
 if Region.wanted o (yielded ops a.tmps) = true then Oper.wp Tryz.prog o a w K Q else E := by
 have hw : Region.wanted o (yielded ops a.tmps) = true := by simp [Region.wanted, hgd]
 rw [if_pos hw]; by_cases h0 : cs.length = 0
 · obtain rfl : cs = [] := List.eq_nil_of_length_eq_zero h0
   have hrun := run_copy_none (P := Tryz.prog) w 28 28 o.type 5 dp sp dLen dCap sLen sCap Tryz.underlying28 sz5 (by simpa using hn.symm); unfold Oper.wp; simp [execOp, ho, resolve, invoke, builtin, hd, hs, hrun, Result.andThen]; exact h w (show _ = _ by simpa [Go.splice] using hg) (World.grownBy.refl _ _)
 · obtain ⟨rfl, ad, rfl, hsrc⟩ := hpos (by omega)
   have hrun := run_copy_row (P := Tryz.prog) w 28 28 o.type 5 g off dLen dCap ad sLen sCap cur.toArray 5 cs Tryz.underlying28 sz5 hg hn hsrc (by simpa using hfit) h1; unfold Oper.wp; simp [execOp, ho, resolve, invoke, builtin, hd, hs, hrun, Result.andThen]; exact h _ (show _ = _ by simpa [Go.splice] using setRow_heap w g _ _ 5 _ hg) (gb_setRow _ _ _)
theorem wpList_append_zeros {w : World} {ops : Array Oper} {rest : List Oper} {o : Oper} {a : Act} {Q : Exit → Act → World → Prop} (hgd : o.guard = none) (s x : Operand)
 (ho : o.op = .call { callee := .builtin .append, args := #[s, x], argTypes := #[28, 3] }) (g cap n k : Nat) (xs : List Value) (hxl : xs.length = n) (hs : a.eval s = .slice (some ⟨g, 0, none⟩) n cap)
 (holds : ∀ j u, xs[j]? = some u → w.cell? ⟨g, j, none⟩ = some u)
 (hx : a.eval x = .int .i64 k) (hk : 0 < k) (hgrow : cap < n + k) (hbytes : n + k ≤ 200000)
 (h : ∀ cap' w' (cur : List Value), n + k ≤ cap' → cap' ≤ maxLen → w'.heap[w.heap.size]? = some (.cells cur.toArray 5 (0, 0)) → cur.length = cap' → cur.take n = xs → Below w.heap.size w w' → w.heap.size < w'.heap.size → wpList Tryz.prog ops Q rest (a.put o.dst (.slice (some ⟨w.heap.size, 0, none⟩) (n + k) cap')) w') : wpList Tryz.prog ops Q (o :: rest) a w := by
 obtain ⟨i, hi, hz, hsz, hby⟩ := info5c; have holds' : ∀ j u, xs[j]? = some u → w.drew.cell? ((⟨g, 0, none⟩ : Addr).add j) = some u := fun j u hu => by rw [Addr.add_lit, Nat.zero_add]; exact holds j u hu
 have hf := run_firstCells_some (P := Tryz.prog) w.drew 1 n ⟨g, 0, none⟩ n cap xs (by omega) holds'; have hr := Go.Lib.run_append_grow_zeros (P := Tryz.prog) w 28 3 o.type 5 i (.int .u8 0) .i64 .i64 Tryz.underlying28 Tryz.underlying3 hi hz (some ⟨g, 0, none⟩) n cap xs (by rw [hsz]; exact hf) k hk (by omega) (by omega) (by omega) (by rw [hby]; omega) (growslice_fits (by omega) (by rw [hby]; omega)); have hge := grownCap_ge w (n + k) cap 5; have hcm2 : grownCap w (n + k) cap 5 ≤ maxLen := grownCap_le_maxLen w (n + k) cap 5 (by unfold maxLen; omega); have hz1 : (Value.cells (.int .u8 0)).size = 1 := rfl; refine wpList_plain hgd fun _ hK => Go.Lib.wp_append_run w s x 28 3 ho _ _ hs hx _ _ hr (hK _ _ (h (grownCap w (n + k) cap 5) _ (xs ++ (Builtin.zeroCells (Value.cells (.int .u8 0)) k).toList ++ (Builtin.zeroCells (Value.cells (.int .u8 0)) (grownCap w (n + k) cap 5 - (n + k))).toList) hge hcm2 ?_ ?_ ?_ ?_ ?_))
 · have := heap_alloc_new w.drew (.cells (xs.toArray ++ Builtin.zeroCells (Value.cells (.int .u8 0)) k ++ Builtin.zeroCells (Value.cells (.int .u8 0)) (grownCap w (n + k) cap 5 - (n + k))) 5)
   rw [show w.drew.heap.size = w.heap.size from rfl] at this; have e : ∀ (A B : Array Value), (xs ++ A.toList ++ B.toList).toArray = xs.toArray ++ A ++ B := fun A B => by apply Array.toList_inj.1; simp
   rw [this, e]
 · simp only [List.length_append, Array.length_toList, size_zeroCells, hz1, hxl]
   omega
 · rw [List.append_assoc, List.take_append_of_le_length (by omega), ← hxl, List.take_length]
 · exact ⟨rfl, rfl, rfl, by simp, fun j hj => heap_alloc_old w.drew _ hj⟩
 · simp
theorem ov2 (a b : Option Addr) (la ca lb cb : Nat) (F : Option Addr → Nat → Nat → Option Addr → Nat → Nat → Sem Value) (G : Array Value → Sem Value) :
 Extern.SlicesOverlaps.overlaps.match_4 (fun _ => Sem Value) #[.slice a la ca, .slice b lb cb] F G = F a la ca b lb cb := rfl
theorem over_no {w : World} {g g' o l l' c c' : Nat} {cs cs' : Array Value} (hne : g ≠ g') (h : w.heap[g]? = some (.cells cs 5 (0, 0))) (h' : w.heap[g']? = some (.cells cs' 5 (0, 0))) :
 (callFunc 135 #[.slice (some ⟨g, 0, none⟩) l c, .slice (some ⟨g', o, none⟩) l' c']).run Tryz.prog w = .ok (.value (.bool false)) w := by
 rw [run_callFunc_extern Tryz.func135 (by kernel_rfl) (by kernel_rfl) (by kernel_rfl) (e := Extern.SlicesOverlaps.overlaps #[28, 28] #[4]) (by kernel_rfl)]; have hf : ∀ k, w.frozen? ⟨g, k, none⟩ = false := fun k => unfrozen_of_block h k
 have hf' : ∀ k, w.frozen? ⟨g', k, none⟩ = false := fun k => unfrozen_of_block h' k
 have hs : w.shape? g = some (5, cs.size) := by simp [World.shape?, h]
 have hs' : w.shape? g' = some (5, cs'.size) := by simp [World.shape?, h']
 have hu : (underlying 28).run Tryz.prog w = .ok (.slice 5) w := by kernel_rfl
 have hz : (sizeOf 5).run Tryz.prog w = .ok 1 w := by kernel_rfl
 delta Extern.SlicesOverlaps.overlaps
 dsimp only
 rw [ov2]; by_cases h0 : l = 0 ∨ l' = 0
 · rcases h0 with h0 | h0 <;> simp [Sem.run_bind, hu, hz, Result.andThen, h0]
 · simp [Sem.run_bind, hu, hz, Result.andThen, h0, hf, hf', hne, noView, viewAt, hs, hs', mayBeOne, stringish]
end Go.Proofs.YtojfcdjgcgnajaaGreat.Rl
