/- RlP, RlX, CP, CQ -/
import Derived.Test.YtojfcdjgcgnajaaGreatGRlI
import Derived.Laws.Bits64b
import Derived.RangeFuncNested
import Derived.RangeFuncBound
import Derived.RangeFuncCalls
import Derived.RangeFuncLeaves
import Derived.Shelf.Abstract
import Derived.Shelf.RegionOpen
import Derived.OwnWalkIn
import Derived.TacticsInMore
import Derived.LoopNIn
import Derived.LoopIn
import Derived.Deep.AppendLies
import Derived.Defers
import Derived.Recover
import Derived.Laws.BytesString
import Derived.Laws.BytesArg
import Derived.Lib.Bytes
import Derived.Test.YtojfcdjgcgnajaaGreatGRlN
import Derived.Laws.IdiomStrings
import Derived.Deep.Onto
namespace Go.Proofs.YtojfcdjgcgnajaaGreat.Rl
open Go.RowKit Go.Maps Go.Joins Go.Shelf
set_option linter.unusedSimpArgs false
set_option linter.unusedVariables false
theorem BytD.of_own {w : World} {base : Nat} {D : Nat → Prop} {v : Value} {bs : List Int} (h : w.ownsRow base 5 1 v bs.length (vB bs)) (hD : ∀ b, base ≤ b → b < w.heap.size → D b) (hl : bs.length ≤ 140737488355328) : BytD w D v bs :=
 ⟨BytesV.of_own h, fun b hb => by have := h.lt b (dBlock_own hb); exact hD b this.1 this.2, hl⟩
theorem load31 {w : World} {b : Nat} {x y z : Value} (h : w.heap[b]? = some (.cells #[x, y, z] 61)) : (loadVar 61 ⟨b, 0, none⟩).run Tryz.prog w = .ok (.agg #[x, y, z]) w :=
 run_loadVar_row w b 61 61 #[x, y, z] (0, 0) _ h Tryz.underlying61 rfl (by kernel_rfl)
theorem set31 {w : World} {b : Nat} {x y z x' y' z' : Value} (h : w.heap[b]? = some (.cells #[x, y, z] 61)) : (((w.setCell ⟨b, 0, none⟩ x').setCell ⟨b, 1, none⟩ y').setCell ⟨b, 2, none⟩ z').heap[b]? = some (.cells #[x', y', z'] 61) :=
 heap_setCell_same _ b 2 _ 61 z' (heap_setCell_same _ b 1 _ 61 y' (heap_setCell_same _ b 0 _ 61 x' h))
theorem set31_other (w : World) (b k : Nat) (x' y' z' : Value) (h : k ≠ b) : (((w.setCell ⟨b, 0, none⟩ x').setCell ⟨b, 1, none⟩ y').setCell ⟨b, 2, none⟩ z').heap[k]? = w.heap[k]? := by
 rw [Below.heap_setCell _ _ _ _ h, Below.heap_setCell _ _ _ _ h, Below.heap_setCell _ _ _ _ h]
theorem set31_below {w0 w : World} {B b : Nat} (h : Below B w0 w) (hb : B ≤ b) (x' y' z' : Value) : Below B w0 (((w.setCell ⟨b, 0, none⟩ x').setCell ⟨b, 1, none⟩ y').setCell ⟨b, 2, none⟩ z') :=
 ((h.setCell (p := ⟨b, 0, none⟩) hb _).setCell (p := ⟨b, 1, none⟩) hb _).setCell (p := ⟨b, 2, none⟩) hb _
theorem set31_size (w : World) (b : Nat) (x' y' z' : Value) : (((w.setCell ⟨b, 0, none⟩ x').setCell ⟨b, 1, none⟩ y').setCell ⟨b, 2, none⟩ z').heap.size = w.heap.size := by simp
end Go.Proofs.YtojfcdjgcgnajaaGreat.Rl
namespace Go.Proofs.YtojfcdjgcgnajaaGreat.Rl
open Go.RowKit Go.Maps Go.Joins
set_option linter.unusedSimpArgs false
set_option linter.unusedVariables false
theorem res31 {w3 : World} {b : Nat} {x y z x' y' z' : Value} (fn : Func) (tmps : Array Value) (hr : fn.results = #[.cell 2 61]) (h0 : w3.heap[b]? = some (.cells #[x, y, z] 61)) (h2 : tmps[2]? = some (.pointer (some ⟨b, 0, none⟩))) :
 (results fn tmps).run Tryz.prog (((w3.setCell ⟨b, 0, none⟩ x').setCell ⟨b, 1, none⟩ y').setCell ⟨b, 2, none⟩ z') = .ok (.agg #[x', y', z']) (((w3.setCell ⟨b, 0, none⟩ x').setCell ⟨b, 1, none⟩ y').setCell ⟨b, 2, none⟩ z') := by
 have hl := load31 (set31 h0 (x' := x') (y' := y') (z' := z')); simp [results, hr, asAddr, h2, hl]
theorem fin31 {w w1 : World} {sb si u : Value} {x : Tr} (hb : Below w.heap.size w w1) (hit : ItV w1 (fun b => w.heap.size + 1 ≤ b ∧ b < w1.heap.size) sb si x) :
 Below w.heap.size w (((w1.setCell ⟨w.heap.size, 0, none⟩ u).setCell ⟨w.heap.size, 1, none⟩ sb).setCell ⟨w.heap.size, 2, none⟩ si) ∧ ItV (((w1.setCell ⟨w.heap.size, 0, none⟩ u).setCell ⟨w.heap.size, 1, none⟩ sb).setCell ⟨w.heap.size, 2, none⟩ si) (fun b => w.heap.size ≤ b ∧ b < (((w1.setCell ⟨w.heap.size, 0, none⟩ u).setCell ⟨w.heap.size, 1, none⟩ sb).setCell ⟨w.heap.size, 2, none⟩ si).heap.size) sb si x :=
 ⟨set31_below hb (Nat.le_refl _) _ _ _, hit.mono (fun b hb' => set31_other _ _ _ _ _ _ (by have := hb'.1; omega)) (fun b hb' => ⟨by have := hb'.1; omega, by rw [set31_size]; exact hb'.2⟩)⟩
set_option maxRecDepth 100000 in
set_option maxHeartbeats 4000000 in
theorem str_any {w : World} {v : Value} {bs : List Int} (h : BytesV w v bs) (hl : bs.length ≤ 140737488355328) :
 Calls Tryz.prog 26 #[v] w fun e w' => Below w.heap.size w w' ∧ ∃ sb, e = .returned (.agg #[.bool false, sb, .slice none 0 0]) ∧ ItV w' (fun b => w.heap.size ≤ b ∧ b < w'.heap.size) sb (.slice none 0 0) (.mk false bs []) := by
 have hb : Below w.heap.size w (w.alloc (.cells #[.bool false, .slice none 0 0, .slice none 0 0] 61)) := by go_grown
 have HC : Hid _ := bclone_any v bs (h.below hb) hl; have h0 : (w.alloc (.cells #[.bool false, .slice none 0 0, .slice none 0 0] 61)).heap[w.heap.size]? = some (.cells #[.bool false, .slice none 0 0, .slice none 0 0] 61) := heap_alloc_new _ _; have hsz : (w.alloc (.cells #[.bool false, .slice none 0 0, .slice none 0 0] 61)).heap.size = w.heap.size + 1 := by simp
 obtain ⟨a, c, rfl⟩ := h.form; have HL : Hid (bs.length ≤ 140737488355328) := hl; clear h hl; go_enter Tryz.func26, Tryz.ntmps26; go_wp2_with fail; refine Calls.mono HC.out ?_; rintro e w1 ⟨v', rfl, ho, hb1⟩; obtain ⟨a', c', rfl⟩ := row_form ho; have k0 := (hb1.block w.heap.size (by rw [hsz]; omega)).trans h0; have a0 : w1.cell? ⟨w.heap.size, 0, none⟩ = some (.bool false) := (cell_of_block k0 0).trans rfl; have a1 : w1.cell? ⟨w.heap.size, 1, none⟩ = some (.slice none 0 0) := (cell_of_block k0 1).trans rfl; have a2 : w1.cell? ⟨w.heap.size, 2, none⟩ = some (.slice none 0 0) := (cell_of_block k0 2).trans rfl; have az := fun k => unfrozen_of_block k0 k
 have hf := fin31 (u := .bool false) (sb := .slice a' bs.length c') (si := .slice none 0 0) (x := .mk false bs []) (hb.trans (hb1.mono hb.size)) ⟨BytD.of_own ho (fun b h1 h2 => ⟨by rw [hsz] at h1; exact h1, h2⟩) HL.out, ItsV.empty _ _⟩; have HF : Hid _ := hf; have HK : Hid _ := k0; clear hf k0 ho hb1 h0 hsz hb HC; go_wp2; exact ⟨rfl, _, res31 _ _ rfl HK.out rfl, HF.out.1, _, rfl, HF.out.2⟩
theorem short_b {w : World} (a0 a1 a2 a3 : Int) (ha : Wd.L4 a0 a1 a2 a3) (n : Nat) (hn : Wd.num a0 a1 a2 a3 = n) :
 Calls Tryz.prog 70 #[Wd.W4 a0 a1 a2 a3] w fun e w' => ∃ v, e = .returned v ∧ w'.ownsRow w.heap.size 5 1 v (shortB n).length (vB (shortB n)) ∧ Below w.heap.size w w' ∧ (shortB n).length ≤ 32 := by
 refine (Wd.short_any a0 a1 a2 a3 ha w).mono ?_; rintro e w2 ⟨l, hl, hlen, b, rfl, hbb, hrow, hb2⟩; rw [hn] at hlen hrow; have hs := shortB_at l n hlen.out; have hsl : (shortB n).length = l := by rw [hs]; simp
 refine ⟨_, rfl, ?_, hb2, by rw [hsl]; exact hl⟩; exact ownsRow_of_rowIs hbb hl hsl (hrow.congr (fun j hj => by
  rw [hs]; simp [vB, List.getD_eq_getElem?_getD, hj]))
set_option maxRecDepth 100000 in
set_option maxHeartbeats 4000000 in
theorem big_any {w : World} (a0 a1 a2 a3 : Int) (ha : Wd.L4 a0 a1 a2 a3) (n : Nat) (hn : Wd.num a0 a1 a2 a3 = n) :
 Calls Tryz.prog 42 #[Wd.W4 a0 a1 a2 a3] w fun e w' => Below w.heap.size w w' ∧ ∃ sb, e = .returned (.agg #[.bool false, sb, .slice none 0 0]) ∧ ItV w' (fun b => w.heap.size ≤ b ∧ b < w'.heap.size) sb (.slice none 0 0) (.mk false (shortB n) []) := by
 have hb : Below w.heap.size w ((w.alloc (.cells #[.int .u64 a0, .int .u64 a1, .int .u64 a2, .int .u64 a3] 51)).alloc (.cells #[.bool false, .slice none 0 0, .slice none 0 0] 61)) := by go_grown
 have HC : Hid _ := short_b (w := ((w.alloc (.cells #[.int .u64 a0, .int .u64 a1, .int .u64 a2, .int .u64 a3] 51)).alloc (.cells #[.bool false, .slice none 0 0, .slice none 0 0] 61))) a0 a1 a2 a3 ha n hn; have h0 : ((w.alloc (.cells #[.int .u64 a0, .int .u64 a1, .int .u64 a2, .int .u64 a3] 51)).alloc (.cells #[.bool false, .slice none 0 0, .slice none 0 0] 61)).heap[w.heap.size + 1]? = some (.cells #[.bool false, .slice none 0 0, .slice none 0 0] 61) := by have := heap_alloc_new (w.alloc (.cells #[.int .u64 a0, .int .u64 a1, .int .u64 a2, .int .u64 a3] 51)) (.cells #[.bool false, .slice none 0 0, .slice none 0 0] 61); simpa using this
 have hsz : ((w.alloc (.cells #[.int .u64 a0, .int .u64 a1, .int .u64 a2, .int .u64 a3] 51)).alloc (.cells #[.bool false, .slice none 0 0, .slice none 0 0] 61)).heap.size = w.heap.size + 2 := by simp
 clear ha hn; go_enter Tryz.func42, Tryz.ntmps42; go_wp2_with fail; refine Calls.mono HC.out ?_; rintro e w1 ⟨v', rfl, ho, hb1, hl⟩; obtain ⟨a', c', rfl⟩ := row_form ho; have k0 := (hb1.block (w.heap.size + 1) (by rw [hsz]; omega)).trans h0; have c0 : w1.cell? ⟨w.heap.size + 1, 0, none⟩ = some (.bool false) := (cell_of_block k0 0).trans rfl; have c1 : w1.cell? ⟨w.heap.size + 1, 1, none⟩ = some (.slice none 0 0) := (cell_of_block k0 1).trans rfl; have c2 : w1.cell? ⟨w.heap.size + 1, 2, none⟩ = some (.slice none 0 0) := (cell_of_block k0 2).trans rfl; have az := fun k => unfrozen_of_block k0 k
 have hit : ItV w1 (fun b => w.heap.size + 2 ≤ b ∧ b < w1.heap.size) (.slice a' (shortB n).length c') (.slice none 0 0) (.mk false (shortB n) []) := ⟨BytD.of_own ho (fun b h1 h2 => ⟨by rw [hsz] at h1; exact h1, h2⟩) (by show (shortB n).length ≤ _; omega), ItsV.empty _ _⟩
 have HF : Hid (ItV w1 (fun b => w.heap.size + 2 ≤ b ∧ b < w1.heap.size) (.slice a' (shortB n).length c') (.slice none 0 0) (.mk false (shortB n) []) ∧ Below w.heap.size w w1) := ⟨hit, hb.trans (hb1.mono hb.size)⟩
 have HK : Hid _ := k0; clear hit k0 ho hb1 h0 hsz hb HC; go_wp2; refine ⟨rfl, _, res31 _ _ rfl HK.out rfl, set31_below HF.out.2 (by omega) _ _ _, _, rfl, HF.out.1.mono (fun b hb' => set31_other _ _ _ _ _ _ (by have := hb'.1; omega)) (fun b hb' => ⟨by have := hb'.1; omega, by rw [set31_size]; exact hb'.2⟩)⟩
set_option maxRecDepth 100000 in
set_option maxHeartbeats 4000000 in
theorem num_any {w : World} (n : Nat) (hn : n < 18446744073709551616) :
 Calls Tryz.prog 25 #[.int .u64 n] w fun e w' => Below w.heap.size w w' ∧ ∃ sb, e = .returned (.agg #[.bool false, sb, .slice none 0 0]) ∧ ItV w' (fun b => w.heap.size ≤ b ∧ b < w'.heap.size) sb (.slice none 0 0) (.mk false (shortB n) []) := by
 have hb : Below w.heap.size w (w.alloc (.cells #[.bool false, .slice none 0 0, .slice none 0 0] 61)) := by go_grown
 have h0 : (w.alloc (.cells #[.bool false, .slice none 0 0, .slice none 0 0] 61)).heap[w.heap.size]? = some (.cells #[.bool false, .slice none 0 0, .slice none 0 0] 61) := heap_alloc_new _ _; have hsz : (w.alloc (.cells #[.bool false, .slice none 0 0, .slice none 0 0] 61)).heap.size = w.heap.size + 1 := by simp
 have HC : Hid _ := Wd.of_any (n : Int) (w.alloc (.cells #[.bool false, .slice none 0 0, .slice none 0 0] 61)); have hL : Wd.L4 (n : Int) 0 0 0 := ⟨⟨by omega, by omega⟩, ⟨by omega, by omega⟩, ⟨by omega, by omega⟩, ⟨by omega, by omega⟩⟩
 have hnum : Wd.num (n : Int) 0 0 0 = n := by unfold Wd.num; omega
 have HL : Hid (Wd.L4 (n : Int) 0 0 0 ∧ Wd.num (n : Int) 0 0 0 = n) := ⟨hL, hnum⟩
 clear hL hnum; go_enter Tryz.func25, Tryz.ntmps25; go_wp2_with fail; refine Calls.mono HC.out ?_; rintro e w1 ⟨rfl, hb1⟩; go_wp2_with fail; refine Calls.mono (big_any (n : Int) 0 0 0 HL.out.1 n HL.out.2) ?_; rintro e w2 ⟨hb2, sb, rfl, hit⟩; obtain ⟨a', c', rfl⟩ := hit.b.is.form; have k0 := (hb2.block w.heap.size (by have := hb1.size; rw [hsz] at this; omega)).trans ((hb1.block w.heap.size (by rw [hsz]; omega)).trans h0); have c0 : w2.cell? ⟨w.heap.size, 0, none⟩ = some (.bool false) := (cell_of_block k0 0).trans rfl; have c1 : w2.cell? ⟨w.heap.size, 1, none⟩ = some (.slice none 0 0) := (cell_of_block k0 1).trans rfl; have c2 : w2.cell? ⟨w.heap.size, 2, none⟩ = some (.slice none 0 0) := (cell_of_block k0 2).trans rfl; have az := fun k => unfrozen_of_block k0 k
 have hbw : Below w.heap.size w w2 := (hb.trans (hb1.mono hb.size)).trans (hb2.mono (by have := hb1.size; rw [hsz] at this; omega)); have hf := fin31 (u := .bool false) hbw (hit.mono (fun _ _ => rfl) (fun b hb' => ⟨by have := hb'.1; have := hb1.size; rw [hsz] at this; omega, hb'.2⟩)); have HF : Hid _ := hf; have HK : Hid _ := k0; clear hf k0 hit hb1 hb2 h0 hsz hb hbw HC; go_wp2; exact ⟨rfl, _, res31 _ _ rfl HK.out rfl, HF.out.1, _, rfl, HF.out.2⟩
end Go.Proofs.YtojfcdjgcgnajaaGreat.Rl
namespace Go.Proofs.YtojfcdjgcgnajaaGreat
open Go.RowKit Go.Maps Go.Joins
open Rl (Tr BytesV ItV ItsV BytD OwnIts IC icL vB shortB encR enc)
set_option linter.unusedSimpArgs false
set_option linter.unusedVariables false
set_option maxRecDepth 100000 in
set_option maxHeartbeats 4000000 in
theorem cnumber_any {w : World} (n : Nat) (hn : n < 9223372036854775808) :
 Calls Tryz.prog 24 #[.int .i64 n] w fun e w' => Below w.heap.size w w' ∧ ∃ sb, e = .returned (.agg #[.bool false, sb, .slice none 0 0]) ∧ ItV w' (fun b => w.heap.size ≤ b ∧ b < w'.heap.size) sb (.slice none 0 0) (.mk false (shortB n) []) := by
 have hb : Below w.heap.size w (w.alloc (.cells #[.bool false, .slice none 0 0, .slice none 0 0] 61)) := by go_grown
 have h0 : (w.alloc (.cells #[.bool false, .slice none 0 0, .slice none 0 0] 61)).heap[w.heap.size]? = some (.cells #[.bool false, .slice none 0 0, .slice none 0 0] 61) := heap_alloc_new _ _; have hsz : (w.alloc (.cells #[.bool false, .slice none 0 0, .slice none 0 0] 61)).heap.size = w.heap.size + 1 := by simp
 have hm : max (n : Int) 0 = n := by omega
 have HN : Hid (n < 18446744073709551616) := (Nat.lt_trans hn (by decide) : n < 18446744073709551616)
 go_enter Tryz.func24, Tryz.ntmps24
 go_wp2_with fail
 refine Calls.mono (Rl.num_any n HN.out) ?_; rintro e w2 ⟨hb2, sb, rfl, hit⟩; obtain ⟨a', c', rfl⟩ := hit.b.is.form; have k0 := (hb2.block w.heap.size (by rw [hsz]; omega)).trans h0; have c0 : w2.cell? ⟨w.heap.size, 0, none⟩ = some (.bool false) := cellAt k0 rfl; have c1 : w2.cell? ⟨w.heap.size, 1, none⟩ = some (.slice none 0 0) := cellAt k0 rfl; have c2 : w2.cell? ⟨w.heap.size, 2, none⟩ = some (.slice none 0 0) := cellAt k0 rfl; have az := fun k => unfrozen_of_block k0 k
 have hf := Rl.fin31 (u := .bool false) (hb.trans (hb2.mono hb.size)) (hit.mono (fun _ _ => rfl) (fun b hb' => ⟨by have := hb'.1; rw [hsz] at this; omega, hb'.2⟩)); have HF : Hid _ := hf; have HK : Hid _ := k0; clear hf k0 hit hb2 h0 hsz hb; go_wp2; exact ⟨rfl, _, Rl.res31 _ _ rfl HK.out rfl, HF.out.1, _, rfl, HF.out.2⟩
theorem clist_any {w : World} (a : Option Addr) (n c : Nat) : Calls Tryz.prog 41 #[.slice a n c] w fun e w' => e = .returned (.agg #[.bool true, .slice none 0 0, .slice a n c]) ∧ Below w.heap.size w w' := by
 have hb : Below w.heap.size w (w.alloc (.cells #[.bool false, .slice none 0 0, .slice none 0 0] 61)) := by go_grown
 have h0 : (w.alloc (.cells #[.bool false, .slice none 0 0, .slice none 0 0] 61)).heap[w.heap.size]? = some (.cells #[.bool false, .slice none 0 0, .slice none 0 0] 61) := heap_alloc_new _ _; have H0 : Hid _ := And.intro hb h0; clear hb h0; go_enter Tryz.func41, Tryz.ntmps41; go_wp2; have hl := Rl.load31 (heap_alloc_new w (.cells #[.bool true, .slice none 0 0, .slice a n c] 61)); exact ⟨rfl, _, by simp [results, Tryz.results41, asAddr, hl], rfl, by go_grown⟩
def kI (key : List UInt8) : List Int := key.map fun b => (b.toNat : Int)
theorem kI_len (key : List UInt8) : (kI key).length = key.length := by simp [kI]
theorem conv_str (w : World) (key : List UInt8) : ∃ cap V, (convert 9 28 (.string ⟨key.toArray⟩)).run Tryz.prog w = .ok (.slice (some ⟨w.heap.size, 0, none⟩) key.length cap) V ∧ BytesV V (.slice (some ⟨w.heap.size, 0, none⟩) key.length cap) (kI key) ∧ Below w.heap.size w V ∧ V.heap.size = w.heap.size + 1 := by
 have hr := run_bytes_of_string (P := Tryz.prog) w 9 28 5 ⟨key.toArray⟩ Tryz.underlying9 Tryz.underlying28 Tryz.underlying5; have hs : (⟨key.toArray⟩ : ByteArray).size = key.length := by simp [ByteArray.size]
 rw [hs] at hr; refine ⟨_, _, hr, ?_, ?_, by simp⟩
 · refine Or.inr ⟨⟨w.heap.size, 0, none⟩, _, by rw [kI_len], fun j u hu => ?_⟩
   have hj : j < key.length := by
    have := (List.getElem?_eq_some_iff.1 hu).1
    simpa [vB, kI] using this
   rw [Addr.add_lit, Nat.zero_add]; have h1 := bytesRow_at ⟨key.toArray⟩ (grownCap w key.length 0 5) j (by simpa using hj); have h2 : u = .int .u8 ((key.toArray[j]'(by simpa using hj)).toNat : Int) := by
    have := (List.getElem?_eq_some_iff.1 hu).2; rw [← this]; simp [vB, kI]
   rw [h2, ← h1]; exact World.cell?_alloc_mark _ _ _ _ _
 · exact ⟨rfl, rfl, rfl, by simp, fun b hb => heap_alloc_old _ _ hb⟩
end Go.Proofs.YtojfcdjgcgnajaaGreat
namespace Go.Proofs.YtojfcdjgcgnajaaGreat
open Go.RowKit Go.Maps Go.Joins
open Rl (Tr BytesV ItV ItsV BytD OwnIts IC icL icC vB shortB encR enc)
set_option linter.unusedSimpArgs false
set_option linter.unusedVariables false
theorem info61c : ∃ i, Tryz.prog.info? 61 = some i ∧ i.zero = some (.agg #[.bool false, .slice none 0 0, .slice none 0 0]) ∧ i.size = 3 ∧ i.bytes = 56 := by
 have h : (Tryz.prog.info? 61).map (fun i => (i.zero, i.size, i.bytes)) = some (some (.agg #[.bool false, .slice none 0 0, .slice none 0 0]), 3, 56) := by kernel_rfl
 cases e : Tryz.prog.info? 61 with
 | none => rw [e] at h; cases h
 | some i =>
   rw [e] at h; simp at h; exact ⟨i, rfl, h.1, h.2.1, h.2.2⟩
theorem wpList_append_it {w : World} {ops : Array Oper} {rest : List Oper} {o : Oper} {a : Act} {Q : Exit → Act → World → Prop} (hgd : o.guard = none) (s x : Operand)
 (ho : o.op = .call { callee := .builtin .append, args := #[s, x], argTypes := #[59, 59] }) (base : Nat)
 (v : Value) (A : List IC) (hs : a.eval s = v) (hown : w.ownsRow base 61 3 v A.length (icL A)) (ad : Addr) (cap : Nat) (B : List IC) (hx : a.eval x = .slice (some ad) B.length cap)
 (hn : ∀ j u, (icL B)[j]? = some u → w.cell? (ad.add j) = some u) (h1 : ∀ u ∈ icL B, u.oneCell' = true) (hl : A.length + B.length ≤ 1000) (hbase : base ≤ w.heap.size)
 (h : ∀ v' w', w'.ownsRow base 61 3 v' (A ++ B).length (icL (A ++ B)) → w.grownBy w' v.ownBlock → (v'.ownBlock = v.ownBlock ∨ v'.ownBlock = some w.heap.size) → wpList Tryz.prog ops Q rest (a.put o.dst v') w') : wpList Tryz.prog ops Q (o :: rest) a w := by
 obtain ⟨i0, hi, hz0, hz1, hz2⟩ := info61c; refine wpList_append_own_at w hgd s x 59 ho base 61 i0 (.agg #[.bool false, .slice none 0 0, .slice none 0 0]) 3 56 (by kernel_rfl) hi hz0 hz1 hz2 rfl (by decide) v A.length (icL A) hs hown ad B.length cap (icL B) hx (Rl.icL_length B) hn h1 (by unfold maxLen; omega) (by omega) hbase (fun v' w' a b _ d => h v' w' ?_ b d); rw [List.length_append, show icL (A ++ B) = icL A ++ icL B from List.flatMap_append]; exact a
theorem cell_lt {w : World} {p : Addr} {v : Value} (h : w.cell? p = some v) : p.block < w.heap.size := block_lt_of_cell h
theorem icL_one {A : List IC} (h : ∀ f ∈ A, f.sb.oneCell' = true ∧ f.si.oneCell' = true) : ∀ u ∈ icL A, u.oneCell' = true := by
 intro u hu; obtain ⟨f, hf, h1⟩ := List.mem_flatMap.1 hu; have := h f hf; simp [icC] at h1; rcases h1 with rfl | rfl | rfl
 · rfl
 · exact this.1
 · exact this.2
def textT (lbl : List UInt8) (c : Nat) (A : List IC) : Tr := .mk true [] (.mk false (kI lbl) [] :: .mk false (shortB c) [] :: A.map IC.x)
set_option maxRecDepth 100000 in
set_option maxHeartbeats 4000000 in
theorem text_any {w : World} (lbl : List UInt8) (hlb : lbl.length ≤ 1000) (c : Nat) (hc : c < 18446744073709551616) (ad : Addr) (cp : Nat) (A : List IC) (hA : A.length ≤ 100)
 (hn : ∀ j u, (icL A)[j]? = some u → w.cell? (ad.add j) = some u) (hit : ∀ f ∈ A, ItV w (fun b => b < w.heap.size) f.sb f.si f.x) :
 Calls Tryz.prog 23 #[.string ⟨lbl.toArray⟩, .int .u64 c, .slice (some ad) A.length cp] w fun e w' => ∃ v, e = .returned v ∧ w'.ownsRow w.heap.size 5 1 v (encR (textT lbl c A)).length (vB (encR (textT lbl c A))) ∧ Below w.heap.size w w' := by
 obtain ⟨kc, V, hcv, hbv, hBV, hsV⟩ := conv_str w lbl; have HV : Hid (BytesV V (.slice (some ⟨w.heap.size, 0, none⟩) lbl.length kc) (kI lbl) ∧ Below w.heap.size w V) := ⟨hbv, hBV⟩
 have HA : Hid ((∀ j u, (icL A)[j]? = some u → w.cell? (ad.add j) = some u) ∧ (∀ f ∈ A, ItV w (fun b => b < w.heap.size) f.sb f.si f.x)) := ⟨hn, hit⟩
 clear hn hit hbv hBV; go_enter Tryz.func23, Tryz.ntmps23; go_wp2_with fail; refine Calls.mono (Rl.str_any HV.out.1 (by rw [kI_len]; omega)) ?_; rintro e w1 ⟨b1, s1, rfl, i1⟩; have H1 : Hid (Below w.heap.size w w1 ∧ ItV w1 (fun b => b < w1.heap.size) s1 (.slice none 0 0) (.mk false (kI lbl) [])) := ⟨HV.out.2.trans (b1.mono HV.out.2.size), i1.mono (fun _ _ => rfl) (fun b hb => hb.2)⟩
 clear b1 i1; go_wp2_with fail; refine Calls.mono (Rl.num_any c hc) ?_; rintro e w2 ⟨b2, s2, rfl, i2⟩; have H2 : Hid (Below w.heap.size w w2 ∧ ItV w2 (fun b => b < w2.heap.size) s1 (.slice none 0 0) (.mk false (kI lbl) []) ∧ ItV w2 (fun b => b < w2.heap.size) s2 (.slice none 0 0) (.mk false (shortB c) [])) :=
  ⟨H1.out.1.trans (b2.mono H1.out.1.size), H1.out.2.mono (fun b hb => b2.block b hb) (fun b hb => Nat.lt_of_lt_of_le hb b2.size), i2.mono (fun _ _ => rfl) (fun b hb => hb.2)⟩
 clear b2 i2 H1 HV; obtain ⟨a1, c1, rfl⟩ := H2.out.2.1.b.is.form; obtain ⟨a2, c2, rfl⟩ := H2.out.2.2.b.is.form; have E1 : (Tr.mk false (kI lbl) []).b.length = (kI lbl).length := rfl; have E2 : (Tr.mk false (shortB c) []).b.length = (shortB c).length := rfl; rw [E1, E2] at *; clear E1 E2; obtain ⟨H, hH⟩ : ∃ H : List IC, H = [⟨.mk false (kI lbl) [], .slice a1 (kI lbl).length c1, .slice none 0 0⟩, ⟨.mk false (shortB c) [], .slice a2 (shortB c).length c2, .slice none 0 0⟩] := ⟨_, rfl⟩
 obtain ⟨W3, hW3⟩ : ∃ W3, W3 = w2.alloc (.cells #[.bool false, .slice a1 (kI lbl).length c1, .slice none 0 0, .bool false, .slice a2 (shortB c).length c2, .slice none 0 0] 61) := ⟨_, rfl⟩
 have HW3 : Hid (W3 = w2.alloc (.cells #[.bool false, .slice a1 (kI lbl).length c1, .slice none 0 0, .bool false, .slice a2 (shortB c).length c2, .slice none 0 0] 61)) := hW3; have hwl : w.heap.size ≤ w2.heap.size := H2.out.1.size; have ho : Hid (W3.ownsRow w.heap.size 61 3 (.slice (some ⟨w2.heap.size, 0, none⟩) 2 2) H.length (icL H)) := by
  rw [hW3, hH]; exact ⟨rfl, Or.inr ⟨w2.heap.size, 2, _, rfl, hwl, heap_alloc_new _ _, Nat.le_refl _, by decide, rfl, rfl⟩⟩
 have hb3 : Below w2.heap.size w2 W3 := by rw [hW3]; go_grown
 have hs3 : W3.heap.size = w2.heap.size + 1 := by rw [hW3]; simp
 have hBA : Below w.heap.size w W3 := H2.out.1.trans (hb3.mono hwl); have hit3 : Hid (∀ f ∈ H ++ A, ItV W3 (fun b => b < w2.heap.size) f.sb f.si f.x) := by
  show ∀ f ∈ H ++ A, ItV W3 (fun b => b < w2.heap.size) f.sb f.si f.x; intro f hf; rcases List.mem_append.1 hf with hf | hf
  · rw [hH] at hf
    simp at hf; rcases hf with rfl | rfl
    · exact H2.out.2.1.mono (fun b hb => hb3.block b hb) (fun b hb => hb)
    · exact H2.out.2.2.mono (fun b hb => hb3.block b hb) (fun b hb => hb)
  · exact (HA.out.2 f hf).mono (fun b hb => hBA.block b hb) (fun b hb => Nat.lt_of_lt_of_le hb hwl)
 have hn3 : Hid (∀ j u, (icL A)[j]? = some u → W3.cell? (ad.add j) = some u) := fun j u hu => (hBA.cell (cell_lt (HA.out.1 j u hu))).trans (HA.out.1 j u hu)
 have h13 : Hid (∀ u ∈ icL A, u.oneCell' = true) := icL_one fun f hf => by
  have := HA.out.2 f hf; obtain ⟨_, _, e1⟩ := this.b.is.form; obtain ⟨_, _, e2, _⟩ := this.xs.form; rw [e1, e2]; exact ⟨rfl, rfl⟩
 have hHl : H.length = 2 := by rw [hH]; rfl
 have hHx : Hid (textT lbl c A = .mk true [] ((H ++ A).map IC.x)) := by
  show textT lbl c A = .mk true [] ((H ++ A).map IC.x); rw [hH]; rfl
 have HB3 : Hid (Below w.heap.size w W3) := hBA; clear hW3 hH hb3 H2 HA hBA; go_wp2_with (first
  | (at_builtin
     rw [← HW3.out]; have q1 := ho.out; refine wpList_append_it (w := W3) (by rfl) _ _ (by rfl) w.heap.size (.slice (some ⟨w2.heap.size, 0, none⟩) 2 2) H (by rfl) q1 ad cp A (by rfl) hn3.out h13.out (by omega) (by omega) ?_; intro v' w4 ho4 hg4 ha4; have H4 : Hid (w4.ownsRow w.heap.size 61 3 v' (H ++ A).length (icL (H ++ A)) ∧ Below w.heap.size w w4 ∧ (∀ f ∈ H ++ A, ItV w4 (Rl.Off w4 v') f.sb f.si f.x)) := by
      refine ⟨ho4, HB3.out.grown hg4 (by omega) (fun k hk => ?_), fun f hf => (hit3.out f hf).mono (fun b hb => ?_) (fun b hb => ?_)⟩
      · have : w2.heap.size = k := by simpa [Value.ownBlock] using hk
        omega
      · refine hg4.block b (by omega) (fun e => ?_)
        have : b = w2.heap.size := by simpa [Value.ownBlock] using e
        omega
      · refine ⟨by have := hg4.size; omega, fun e => ?_⟩
        rcases ha4 with ha4 | ha4
        · rw [ha4] at e
          have : w2.heap.size = b := by simpa [Value.ownBlock] using e
          omega
        · rw [ha4] at e
          have : W3.heap.size = b := by simpa using e
          omega
     clear ho4 hg4 ha4 q1))
 obtain ⟨av, cv, rfl⟩ := Rl.row_form H4.out.1; refine Calls.mono (clist_any _ _ _) ?_; rintro e w5 ⟨rfl, b5⟩; have hb5 : Below w4.heap.size w4 w5 := b5; have OI : OwnIts w4 w.heap.size (.slice av (H ++ A).length cv) (H ++ A) := ⟨H4.out.1, H4.out.2.2⟩
 have hlen : (H ++ A).length * 56 ≤ 140737488355328 := by rw [List.length_append]; omega
 have IT : Hid (ItV w5 (fun b => b < w5.heap.size) (.slice none 0 0) (.slice av (H ++ A).length cv) (textT lbl c A)) := by
  have h1 := (OI.below hb5).its hlen; have h2 : ItV w5 (fun b => b < w5.heap.size) (.slice none 0 0) (.slice av (H ++ A).length cv) (.mk true [] ((H ++ A).map IC.x)) := ⟨⟨Or.inl ⟨rfl, rfl⟩, fun b hb => (by cases hb), (by show ([] : List Int).length ≤ 140737488355328; decide)⟩, h1⟩
  rw [← hHx.out] at h2; exact h2
 have HB5 : Hid (Below w.heap.size w w5) := H4.out.2.1.trans (hb5.mono H4.out.2.1.size); clear OI b5 hb5 H4 hlen; rw [show (H ++ A).length = 2 + A.length from by rw [List.length_append, hHl]] at IT; go_wp2_with fail; refine Calls.mono (Rl.encode_any (textT lbl c A) w5 _ _ _ IT.out (fun b hb => hb)) ?_; rintro e w6 ⟨b6, v, rfl, ho6⟩; have H6 : Hid (w6.ownsRow w.heap.size 5 1 v (encR (textT lbl c A)).length (vB (encR (textT lbl c A))) ∧ Below w.heap.size w w6) := ⟨ho6.mono HB5.out.size, HB5.out.trans (b6.mono HB5.out.size)⟩
 clear ho6 b6 HB5 IT; go_wp2; go_ret; exact ⟨v, rfl, H6.out⟩
end Go.Proofs.YtojfcdjgcgnajaaGreat
