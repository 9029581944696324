/- DP, DQ, DS, RA -/
import Derived.Test.YtconkienlcegaaaGreatDoorDL
import Derived.Laws.BytesArg
import Derived.Lib.SlBytesConst
import Derived.Test.YtconkienlcegaaaGreatDoorGDD
namespace Go.Proofs.YtconkienlcegaaaGreatDoor
open Go.RowKit Go.Maps Go.Joins
set_option linter.unusedSimpArgs false
set_option linter.unusedVariables false
theorem findE_ne {S : DS} {ns : List ByteArray} (h : findV S ns = none) : (findE S ns != 0) = true := by
 unfold findE; rw [h]; by_cases h0 : stepE S ns = 0
 · simp [h0]
 · simp [h0]
set_option maxHeartbeats 4000000 in
theorem sync_no {w : World} {bd : Nat} {S : DS} (h : DiskIs w bd S) (hc : Cnt S) (s : ByteArray) (hs : s.size ≤ 9223372036854775807) (hf : findV S [s] = none) :
 Calls Tryz.prog 117 #[.pointer (some ⟨bd, 0, none⟩), .string s] w fun e w' => e = .returned (.int .i64 (findE S [s])) ∧ DiskIs w' bd (stepS S [s]) ∧ Fr w w' S (stepS S [s]) := by
 have HD : Hid (DiskIs w bd S ∧ Cnt S) := ⟨h, hc⟩
 have HX : Hid (DiskIs (w.alloc (.cells #[.string s] 9)) bd S ∧ Names (w.alloc (.cells #[.string s] 9)) w.heap.size [s]) := ⟨h.below (by go_grown), names_one w s hs⟩
 have hlt := h.lt; have hne := findE_ne hf; clear h hc; go_enter Tryz.func117, Tryz.ntmps117; go_wp2_with (first
  | (go_at_call 120
     refine (find_any HX.out.1 HD.out.2 w.heap.size 1 s [] HX.out.2 (by simp) (by omega) (by simp)).mono ?_; rw [hf, show pv none = .pointer none from rfl]; generalize hEE : findE S [s] = E at hne ⊢; rintro e w1 ⟨rfl, hD1, hG1, hZ1⟩)
  | go_in)
 go_returns
 have e1 : Fr w (w.alloc (.cells #[.string s] 9)) S S := Fr.below (by go_grown); exact ⟨by rw [hEE]; rfl, hD1, e1.trans (HX.out.1.frG hG1 [s])⟩
set_option maxHeartbeats 4000000 in
theorem read_no {w : World} {bd : Nat} {S : DS} (h : DiskIs w bd S) (hc : Cnt S) (s : ByteArray) (hs : s.size ≤ 9223372036854775807) (hf : findV S [s] = none) :
 Calls Tryz.prog 106 #[.pointer (some ⟨bd, 0, none⟩), .string s] w fun e w' => e = .returned (.tuple #[.slice none 0 0, .int .i64 (findE S [s])]) ∧ DiskIs w' bd (stepS S [s]) ∧ Fr w w' S (stepS S [s]) := by
 have HD : Hid (DiskIs w bd S ∧ Cnt S) := ⟨h, hc⟩
 have HX : Hid (DiskIs (w.alloc (.cells #[.string s] 9)) bd S ∧ Names (w.alloc (.cells #[.string s] 9)) w.heap.size [s]) := ⟨h.below (by go_grown), names_one w s hs⟩
 have hlt := h.lt; have hne := findE_ne hf; clear h hc; go_enter Tryz.func106, Tryz.ntmps106; go_wp2_with (first
  | (go_at_call 120
     refine (find_any HX.out.1 HD.out.2 w.heap.size 1 s [] HX.out.2 (by simp) (by omega) (by simp)).mono ?_; rw [hf, show pv none = .pointer none from rfl]; generalize hEE : findE S [s] = E at hne ⊢; rintro e w1 ⟨rfl, hD1, hG1, hZ1⟩)
  | go_in)
 go_returns
 have e1 : Fr w (w.alloc (.cells #[.string s] 9)) S S := Fr.below (by go_grown); exact ⟨by rw [hEE]; rfl, hD1, e1.trans (HX.out.1.frG hG1 [s])⟩
set_option maxHeartbeats 4000000 in
theorem trunc_no {w : World} {bd : Nat} {S : DS} (h : DiskIs w bd S) (hc : Cnt S) (s : ByteArray) (hs : s.size ≤ 9223372036854775807) (n : Int) (hf : findV S [s] = none) :
 Calls Tryz.prog 110 #[.pointer (some ⟨bd, 0, none⟩), .string s, .int .i64 n] w fun e w' => e = .returned (.int .i64 (findE S [s])) ∧ DiskIs w' bd (stepS S [s]) ∧ Fr w w' S (stepS S [s]) := by
 have HD : Hid (DiskIs w bd S ∧ Cnt S) := ⟨h, hc⟩
 have HX : Hid (DiskIs (w.alloc (.cells #[.string s] 9)) bd S ∧ Names (w.alloc (.cells #[.string s] 9)) w.heap.size [s]) := ⟨h.below (by go_grown), names_one w s hs⟩
 have hlt := h.lt; have hne := findE_ne hf; clear h hc; go_enter Tryz.func110, Tryz.ntmps110; go_wp2_with (first
  | (go_at_call 120
     refine (find_any HX.out.1 HD.out.2 w.heap.size 1 s [] HX.out.2 (by simp) (by omega) (by simp)).mono ?_; rw [hf, show pv none = .pointer none from rfl]; generalize hEE : findE S [s] = E at hne ⊢; rintro e w1 ⟨rfl, hD1, hG1, hZ1⟩)
  | go_in)
 go_returns
 have e1 : Fr w (w.alloc (.cells #[.string s] 9)) S S := Fr.below (by go_grown); exact ⟨by rw [hEE]; rfl, hD1, e1.trans (HX.out.1.frG hG1 [s])⟩
set_option maxHeartbeats 4000000 in
theorem append_no {w : World} {bd : Nat} {S : DS} (h : DiskIs w bd S) (hc : Cnt S) (s : ByteArray) (hs : s.size ≤ 9223372036854775807) (v : Value) (hE : stepE S [s] ≠ 0) :
 Calls Tryz.prog 35 #[.pointer (some ⟨bd, 0, none⟩), .string s, v] w fun e w' => e = .returned (.int .i64 (stepE S [s])) ∧ DiskIs w' bd (stepS S [s]) ∧ Fr w w' S (stepS S [s]) := by
 have HD : Hid (DiskIs w bd S ∧ Cnt S) := ⟨h, hc⟩
 have HX : Hid (DiskIs (w.alloc (.cells #[.string s] 9)) bd S ∧ Names (w.alloc (.cells #[.string s] 9)) w.heap.size [s]) := ⟨h.below (by go_grown), names_one w s hs⟩
 have hlt := h.lt; have hne : (stepE S [s] != 0) = true := by simpa using hE
 clear h hc hE; go_enter Tryz.func35, Tryz.ntmps35; go_wp2_with (first
  | (go_at_call 63
     refine (step_any HX.out.1 HD.out.2 w.heap.size 1 [s] HX.out.2 (by simp) (by omega)).mono ?_; generalize hEE : stepE S [s] = E at hne ⊢; rintro e w1 ⟨rfl, hD1, hG1, hZ1⟩)
  | go_in)
 go_returns
 have e1 : Fr w (w.alloc (.cells #[.string s] 9)) S S := Fr.below (by go_grown); exact ⟨by rw [hEE]; rfl, hD1, e1.trans (HX.out.1.frG hG1 [s])⟩
set_option maxRecDepth 100000 in
set_option maxHeartbeats 4000000 in
theorem append_big {w : World} {bd : Nat} {S : DS} (h : DiskIs w bd S) (hc : Cnt S) (s : ByteArray) (hs : s.size ≤ 9223372036854775807) (v : Value) (hE : stepE S [s] = 0) (hl : look S.fs s.data.toList = none) (hf16 : 16 ≤ S.fs.length) (hf17 : S.fs.length ≤ 1000) :
 Calls Tryz.prog 35 #[.pointer (some ⟨bd, 0, none⟩), .string s, v] w fun e w' => e = .returned (.int .i64 3) ∧ DiskIs w' bd (stepS S [s]) ∧ Fr w w' S (stepS S [s]) := by
 have HD : Hid (DiskIs w bd S ∧ Cnt S) := ⟨h, hc⟩
 have HX : Hid (DiskIs (w.alloc (.cells #[.string s] 9)) bd S ∧ Names (w.alloc (.cells #[.string s] 9)) w.heap.size [s]) := ⟨h.below (by go_grown), names_one w s hs⟩
 have hlt := h.lt; have e3 := fs_stepS S [s]; generalize hS1 : stepS S [s] = S1 at *; rw [← e3] at hl hf16 hf17; clear h hc e3; go_enter Tryz.func35, Tryz.ntmps35; go_wp2_with (first
  | (go_at_call 63
     refine (step_any HX.out.1 HD.out.2 w.heap.size 1 [s] HX.out.2 (by simp) (by omega)).mono ?_; rw [hE, hS1]; rintro e w1 ⟨rfl, hD1, hG1, hZ1⟩; have HDD : Hid (DiskIs w1 bd S1 ∧ (w.alloc (.cells #[.string s] 9)).grownBy w1 (some bd)) := ⟨hD1, hG1⟩
     have c1 : w1.cell? ⟨bd, 1, none⟩ = some (.map (some S1.bm)) := by rw [cell_of_block hD1.disk]; rfl
     have hlk := hD1.look_ok hs; rw [hl] at hlk; simp only [pv, Option.isSome_none] at hlk; have hln := fun ty => hD1.files.len Tryz.underlying86 ty
     rw [size_toD] at hln; have hge : (16 : Int) ≤ (S1.fs.length : Int) := by omega
     clear hD1 hG1)
  | go_in)
 go_ret; have e1 : Fr w (w.alloc (.cells #[.string s] 9)) S S := Fr.below (by go_grown)
 have e2 := HX.out.1.frG HDD.out.2 [s]; rw [hS1] at e2; exact ⟨rfl, HDD.out.1, e1.trans e2⟩
theorem findE_zero {S : DS} {ns : List ByteArray} {g : Nat} (hf : findV S ns = some g) : findE S ns = 0 := by
 unfold findE; rw [hf]; unfold findV at hf; split at hf
 · rename_i h0; simp [h0]
 · cases hf
theorem findV_mem {S : DS} {ns : List ByteArray} {g : Nat} (h : findV S ns = some g) : ((ns.headD ByteArray.empty).data.toList, g) ∈ (stepS S ns).fs := by
 unfold findV at h; split at h
 · rw [fs_stepS]; exact look_mem h
 · cases h
set_option maxRecDepth 100000 in
set_option maxHeartbeats 4000000 in
theorem trunc_arg {w : World} {bd : Nat} {S : DS} (h : DiskIs w bd S) (hc : Cnt S) (s : ByteArray) (hs : s.size ≤ 9223372036854775807) (n : Int) {g : Nat} (hf : findV S [s] = some g) (hn : n < 0 ∨ (((stepS S [s]).fl s.data.toList).bs.length : Int) < n) :
 Calls Tryz.prog 110 #[.pointer (some ⟨bd, 0, none⟩), .string s, .int .i64 n] w fun e w' => e = .returned (.int .i64 1) ∧ DiskIs w' bd (stepS S [s]) ∧ Fr w w' S (stepS S [s]) := by
 have HD : Hid (DiskIs w bd S ∧ Cnt S) := ⟨h, hc⟩
 have HX : Hid (DiskIs (w.alloc (.cells #[.string s] 9)) bd S ∧ Names (w.alloc (.cells #[.string s] 9)) w.heap.size [s]) := ⟨h.below (by go_grown), names_one w s hs⟩
 have hlt := h.lt; have hE := findE_zero hf; have hm := findV_mem hf; rw [show ([s].headD ByteArray.empty).data.toList = s.data.toList from rfl] at hm; generalize hS1 : stepS S [s] = S1 at *; clear h hc; by_cases h0 : n < 0
 · clear hn
   go_enter Tryz.func110, Tryz.ntmps110
   go_wp2_with (first
    | (go_at_call 120
       refine (find_any HX.out.1 HD.out.2 w.heap.size 1 s [] HX.out.2 (by simp) (by omega) (by simp)).mono ?_; rw [hf, hE, hS1, show pv (some g) = .pointer (some ⟨g, 0, none⟩) from rfl]; rintro e w1 ⟨rfl, hD1, hG1, hZ1⟩; have hF1 : Fr w w1 S S1 := by
        have e1 : Fr w (w.alloc (.cells #[.string s] 9)) S S := Fr.below (by go_grown); have e2 := HX.out.1.frG hG1 [s]; rw [hS1] at e2; exact e1.trans e2
       have HDD : Hid (DiskIs w1 bd S1 ∧ Fr w w1 S S1) := ⟨hD1, hF1⟩
       have hfile : w1.heap[g]? = some (.cells #[(S1.fl s.data.toList).sl, .int .i64 (S1.fl s.data.toList).safe] 116) := hD1.file _ hm; have hrow : w1.ownsRow 0 5 1 (S1.fl s.data.toList).sl (S1.fl s.data.toList).bs.length (vB (S1.fl s.data.toList).bs) := hD1.row _ hm; obtain ⟨a, cap, hsl⟩ := row_form hrow; rw [hsl] at hfile hrow; have c0 : w1.cell? ⟨g, 0, none⟩ = some (.slice a (S1.fl s.data.toList).bs.length cap) := by rw [cell_of_block hfile]; rfl
       have cs : w1.cell? ⟨g, 1, none⟩ = some (.int .i64 (S1.fl s.data.toList).safe) := by rw [cell_of_block hfile]; rfl
       have c1 : w1.cell? ⟨bd, 1, none⟩ = some (.map (some S1.bm)) := by rw [cell_of_block hD1.disk]; rfl
       have hcap := row_cap hrow; clear hrow; have HFI : Hid (w1.heap[g]? = some (.cells #[.slice a (S1.fl s.data.toList).bs.length cap, .int .i64 (S1.fl s.data.toList).safe] 116)) := hfile; clear hD1 hG1 hF1 hfile)
    | go_in)
   go_ret; exact ⟨rfl, HDD.out⟩
 · have d0 : decide (n < 0) = false := by simp; omega
   have d1 : ((S1.fl s.data.toList).bs.length : Int) < n := by omega
   clear hn h0; go_enter Tryz.func110, Tryz.ntmps110; go_wp2_with (first
    | (go_at_call 120
       refine (find_any HX.out.1 HD.out.2 w.heap.size 1 s [] HX.out.2 (by simp) (by omega) (by simp)).mono ?_; rw [hf, hE, hS1, show pv (some g) = .pointer (some ⟨g, 0, none⟩) from rfl]; rintro e w1 ⟨rfl, hD1, hG1, hZ1⟩; have hF1 : Fr w w1 S S1 := by
        have e1 : Fr w (w.alloc (.cells #[.string s] 9)) S S := Fr.below (by go_grown); have e2 := HX.out.1.frG hG1 [s]; rw [hS1] at e2; exact e1.trans e2
       have HDD : Hid (DiskIs w1 bd S1 ∧ Fr w w1 S S1) := ⟨hD1, hF1⟩
       have hfile : w1.heap[g]? = some (.cells #[(S1.fl s.data.toList).sl, .int .i64 (S1.fl s.data.toList).safe] 116) := hD1.file _ hm; have hrow : w1.ownsRow 0 5 1 (S1.fl s.data.toList).sl (S1.fl s.data.toList).bs.length (vB (S1.fl s.data.toList).bs) := hD1.row _ hm; obtain ⟨a, cap, hsl⟩ := row_form hrow; rw [hsl] at hfile hrow; have c0 : w1.cell? ⟨g, 0, none⟩ = some (.slice a (S1.fl s.data.toList).bs.length cap) := by rw [cell_of_block hfile]; rfl
       have cs : w1.cell? ⟨g, 1, none⟩ = some (.int .i64 (S1.fl s.data.toList).safe) := by rw [cell_of_block hfile]; rfl
       have c1 : w1.cell? ⟨bd, 1, none⟩ = some (.map (some S1.bm)) := by rw [cell_of_block hD1.disk]; rfl
       have hcap := row_cap hrow; clear hrow; have HFI : Hid (w1.heap[g]? = some (.cells #[.slice a (S1.fl s.data.toList).bs.length cap, .int .i64 (S1.fl s.data.toList).safe] 116)) := hfile; clear hD1 hG1 hF1 hfile)
    | go_in)
   go_ret; exact ⟨rfl, HDD.out⟩
set_option maxRecDepth 100000 in
set_option maxHeartbeats 4000000 in
theorem trunc_ok {w : World} {bd : Nat} {S : DS} (h : DiskIs w bd S) (hc : Cnt S) (s : ByteArray) (hs : s.size ≤ 9223372036854775807) (n : Int) {g : Nat} (hf : findV S [s] = some g) (h0 : 0 ≤ n) (h1 : n ≤ (((stepS S [s]).fl s.data.toList).bs.length : Int)) :
 Calls Tryz.prog 110 #[.pointer (some ⟨bd, 0, none⟩), .string s, .int .i64 n] w fun e w' => e = .returned (.int .i64 0) ∧ ∃ a cap z, DiskIs w' bd (setFl (stepS S [s]) s.data.toList { sl := .slice a n.toNat cap, bs := ((stepS S [s]).fl s.data.toList).bs.take n.toNat, safe := n } z) ∧ Fr w w' S (setFl (stepS S [s]) s.data.toList { sl := .slice a n.toNat cap, bs := ((stepS S [s]).fl s.data.toList).bs.take n.toNat, safe := n } z) := by
 have HD : Hid (DiskIs w bd S ∧ Cnt S) := ⟨h, hc⟩
 have HX : Hid (DiskIs (w.alloc (.cells #[.string s] 9)) bd S ∧ Names (w.alloc (.cells #[.string s] 9)) w.heap.size [s]) := ⟨h.below (by go_grown), names_one w s hs⟩
 have hlt := h.lt; have hE := findE_zero hf; have hm := findV_mem hf; rw [show ([s].headD ByteArray.empty).data.toList = s.data.toList from rfl] at hm; generalize hS1 : stepS S [s] = S1 at *; clear h hc; have d0 : decide (n < 0) = false := by simp; omega
 have d1 : decide (((S1.fl s.data.toList).bs.length : Int) < n) = false := by simp; omega
 go_enter Tryz.func110, Tryz.ntmps110
 go_wp2_with (first
  | (go_at_call 120
     refine (find_any HX.out.1 HD.out.2 w.heap.size 1 s [] HX.out.2 (by simp) (by omega) (by simp)).mono ?_; rw [hf, hE, hS1, show pv (some g) = .pointer (some ⟨g, 0, none⟩) from rfl]; rintro e w1 ⟨rfl, hD1, hG1, hZ1⟩; have hF1 : Fr w w1 S S1 := by
      have e1 : Fr w (w.alloc (.cells #[.string s] 9)) S S := Fr.below (by go_grown); have e2 := HX.out.1.frG hG1 [s]; rw [hS1] at e2; exact e1.trans e2
     have HDD : Hid (DiskIs w1 bd S1 ∧ Fr w w1 S S1) := ⟨hD1, hF1⟩
     have hfile : w1.heap[g]? = some (.cells #[(S1.fl s.data.toList).sl, .int .i64 (S1.fl s.data.toList).safe] 116) := hD1.file _ hm; have hrow : w1.ownsRow 0 5 1 (S1.fl s.data.toList).sl (S1.fl s.data.toList).bs.length (vB (S1.fl s.data.toList).bs) := hD1.row _ hm; obtain ⟨a, cap, hsl⟩ := row_form hrow; rw [hsl] at hfile hrow; have c0 : w1.cell? ⟨g, 0, none⟩ = some (.slice a (S1.fl s.data.toList).bs.length cap) := by rw [cell_of_block hfile]; rfl
     have cs : w1.cell? ⟨g, 1, none⟩ = some (.int .i64 (S1.fl s.data.toList).safe) := by rw [cell_of_block hfile]; rfl
     have c1 : w1.cell? ⟨bd, 1, none⟩ = some (.map (some S1.bm)) := by rw [cell_of_block hD1.disk]; rfl
     have hcap := row_cap hrow; clear hrow; have HFI : Hid (w1.heap[g]? = some (.cells #[.slice a (S1.fl s.data.toList).bs.length cap, .int .i64 (S1.fl s.data.toList).safe] 116)) := hfile; clear hD1 hG1 hF1 hfile)
  | (go_at_call 56
     refine (cut_int HFI.out n h0 h1 hcap.1 hcap.2.1 hcap.2.2).mono ?_; rintro e w2 ⟨rfl, rfl⟩)
  | go_in)
 go_ret; have hc := HDD.out.1.cutF hm hsl n h0 h1
 exact ⟨rfl, a, cap, w1.heap.size, hc.1, HDD.out.2.trans hc.2⟩
set_option maxRecDepth 100000 in
set_option maxHeartbeats 4000000 in
theorem append_full_old {w : World} {bd : Nat} {S : DS} (h : DiskIs w bd S) (hc : Cnt S) (s : ByteArray) (hs : s.size ≤ 9223372036854775807) (va : Option Addr) (vc : Nat) (bs : List Int) (hb63 : bs.length ≤ 4611686018427387904) (hE : stepE S [s] = 0) {g : Nat} (hl : look S.fs s.data.toList = some g)
 (hroom : S.room < (total S : Int) + bs.length) (hrm : S.room ≤ 1073741824) (hr0 : 0 ≤ S.room) (hT0 : total S ≤ 1073741824) :
 Calls Tryz.prog 35 #[.pointer (some ⟨bd, 0, none⟩), .string s, .slice va bs.length vc] w fun e w' => e = .returned (.int .i64 30) ∧ DiskIs w' bd (stepS S [s]) ∧ Fr w w' S (stepS S [s]) := by
 have HD : Hid (DiskIs w bd S ∧ Cnt S) := ⟨h, hc⟩
 have HX : Hid (DiskIs (w.alloc (.cells #[.string s] 9)) bd S ∧ Names (w.alloc (.cells #[.string s] 9)) w.heap.size [s]) := ⟨h.below (by go_grown), names_one w s hs⟩
 have hlt := h.lt; obtain ⟨e1, e2, e3, e4, e5⟩ := stepS_fields S [s]; have eT := total_stepS S [s]; generalize hS1 : stepS S [s] = S1 at *; rw [← e3] at hl; rw [← e1, ← eT] at hroom; rw [← e1] at hrm hr0; rw [← eT] at hT0; clear h hc e1 e2 e3 e4 e5 eT; have HR : Hid (S1.room < (total S1 : Int) + bs.length ∧ S1.room ≤ 1073741824 ∧ 0 ≤ S1.room ∧ total S1 ≤ 1073741824) := ⟨hroom, hrm, hr0, hT0⟩
 clear hroom hrm hr0 hT0; go_enter Tryz.func35, Tryz.ntmps35; go_wp2_with (first
  | (go_at_call 63
     refine (step_any HX.out.1 HD.out.2 w.heap.size 1 [s] HX.out.2 (by simp) (by omega)).mono ?_; rw [hE, hS1]; rintro e w1 ⟨rfl, hD1, hG1, hZ1⟩; have HDD : Hid (DiskIs w1 bd S1 ∧ (w.alloc (.cells #[.string s] 9)).grownBy w1 (some bd)) := ⟨hD1, hG1⟩
     have c1 : w1.cell? ⟨bd, 1, none⟩ = some (.map (some S1.bm)) := by rw [cell_of_block hD1.disk]; rfl
     have hlk := hD1.look_ok hs; rw [hl] at hlk; simp only [pv, Option.isSome_some, Option.isSome_none] at hlk; have hln := fun ty => hD1.files.len Tryz.underlying86 ty
     rw [size_toD] at hln; clear hD1 hG1)
  | go_in)
 have hF1 : Fr w w1 S S1 := by
  have e1 : Fr w (w.alloc (.cells #[.string s] 9)) S S := Fr.below (by go_grown); have e2 := HX.out.1.frG HDD.out.2 [s]; rw [hS1] at e2; exact e1.trans e2
 have HF : Hid (Fr w w1 S S1) := hF1; have HD1 : Hid (DiskIs w1 bd S1) := HDD.out.1; clear hF1 HDD c1 hlk HX hln; refine wp_region_held_drew (S := fun w' => DiskIs w' bd S1 ∧ Below w1.heap.size w1 w') (by kernel_rfl) ⟨HD1.out.kept (fun _ _ => rfl) (Nat.le_refl _), ⟨rfl, rfl, rfl, Nat.le_refl _, fun _ _ => rfl⟩⟩ (fun hHeld => ?_); refine tk 0 (.slice va bs.length vc) (fun w9 hSw => ?_) hHeld ?_
 · go_simp
 simp only [sm]; refine tk 1 (.int .i64 (bs.length : Int)) (fun w9 hSw => ?_) hHeld ?_
 · go_simp
 simp only [sm]; refine tk 2 (.pointer (some ⟨bd, 0, none⟩)) (fun w9 hSw => ?_) hHeld ?_
 · go_simp
 simp only [sm]; refine tk 3 (.pointer (some ⟨bd, 0, none⟩)) (fun w9 hSw => ?_) hHeld ?_
 · go_simp
 simp only [sm]; refine tk 4 (.pointer (some ⟨bd, 0, none⟩)) (fun w9 hSw => ?_) hHeld ?_
 · go_simp
 simp only [sm]; refine tk 5 (.int .i64 S1.room) (fun w9 hSw => ?_) hHeld ?_
 · have hc : w9.cell? ⟨bd, 0, none⟩ = some (.int .i64 S1.room) := (cell_of_block hSw.1.disk 0).trans rfl
   go_simp
 simp only [sm]; refine tk 6 (.pointer (some ⟨bd, 0, none⟩)) (fun w9 hSw => ?_) hHeld ?_
 · go_simp
 simp only [sm]; refine rd 7 (fun K hK => ?_); generalize w1.drew = w2 at hHeld ⊢; go_simp; have hT : total S1 ≤ 4611686018427387904 := by have := HR.out; omega
 refine (used_any hHeld.1 hT).mono ?_; rintro e w3 ⟨rfl, hb3⟩; have hD3 : DiskIs w3 bd S1 ∧ Below w1.heap.size w1 w3 := ⟨hHeld.1.below hb3, hHeld.2.trans (hb3.mono hHeld.2.size)⟩
 clear hHeld hb3; go_wp2_with fail; refine hK.out _ _ hD3 (fun hHeld => ?_); clear hK K; try simp only [sm]
 have hsub : IntKind.i64.wrap (S1.room - (total S1 : Int)) = S1.room - (total S1 : Int) := by
  have := HR.out; rw [IntKind.wrap_i64]; omega
 have hgt : S1.room - (total S1 : Int) < (bs.length : Int) := by
  have := HR.out; omega
 refine tk 8 (.int .i64 (S1.room - (total S1 : Int))) (fun w9 hSw => ?_) hHeld ?_
 · go_simp
 simp only [sm]; refine tk 9 (.bool true) (fun w9 hSw => ?_) hHeld ?_
 · go_simp
 simp only [sm]; refine wpAnyH_done (by kernel_rfl) ?_ _; go_wp2; go_ret; exact ⟨rfl, hD3.1, HF.out.trans (Fr.below hD3.2)⟩
set_option maxRecDepth 100000 in
set_option maxHeartbeats 4000000 in
theorem append_full_new {w : World} {bd : Nat} {S : DS} (h : DiskIs w bd S) (hc : Cnt S) (s : ByteArray) (hs : s.size ≤ 9223372036854775807) (va : Option Addr) (vc : Nat) (bs : List Int) (hb63 : bs.length ≤ 4611686018427387904) (hE : stepE S [s] = 0) (hl : look S.fs s.data.toList = none) (hf16 : S.fs.length < 16)
 (hroom : S.room < (total S : Int) + bs.length) (hrm : S.room ≤ 1073741824) (hr0 : 0 ≤ S.room) (hT0 : total S ≤ 1073741824) :
 Calls Tryz.prog 35 #[.pointer (some ⟨bd, 0, none⟩), .string s, .slice va bs.length vc] w fun e w' => e = .returned (.int .i64 30) ∧ DiskIs w' bd (stepS S [s]) ∧ Fr w w' S (stepS S [s]) := by
 have HD : Hid (DiskIs w bd S ∧ Cnt S) := ⟨h, hc⟩
 have HX : Hid (DiskIs (w.alloc (.cells #[.string s] 9)) bd S ∧ Names (w.alloc (.cells #[.string s] 9)) w.heap.size [s]) := ⟨h.below (by go_grown), names_one w s hs⟩
 have hlt := h.lt; obtain ⟨e1, e2, e3, e4, e5⟩ := stepS_fields S [s]; have eT := total_stepS S [s]; generalize hS1 : stepS S [s] = S1 at *; rw [← e3] at hl hf16; rw [← e1, ← eT] at hroom; rw [← e1] at hrm hr0; rw [← eT] at hT0; clear h hc e1 e2 e3 e4 e5 eT; have HR : Hid (S1.room < (total S1 : Int) + bs.length ∧ S1.room ≤ 1073741824 ∧ 0 ≤ S1.room ∧ total S1 ≤ 1073741824) := ⟨hroom, hrm, hr0, hT0⟩
 have hf16i : (S1.fs.length : Int) < 16 := by omega
 clear hroom hrm hr0 hT0; go_enter Tryz.func35, Tryz.ntmps35; go_wp2_with (first
  | (go_at_call 63
     refine (step_any HX.out.1 HD.out.2 w.heap.size 1 [s] HX.out.2 (by simp) (by omega)).mono ?_; rw [hE, hS1]; rintro e w1 ⟨rfl, hD1, hG1, hZ1⟩; have HDD : Hid (DiskIs w1 bd S1 ∧ (w.alloc (.cells #[.string s] 9)).grownBy w1 (some bd)) := ⟨hD1, hG1⟩
     have c1 : w1.cell? ⟨bd, 1, none⟩ = some (.map (some S1.bm)) := by rw [cell_of_block hD1.disk]; rfl
     have hlk := hD1.look_ok hs; rw [hl] at hlk; simp only [pv, Option.isSome_some, Option.isSome_none] at hlk; have hln := fun ty => hD1.files.len Tryz.underlying86 ty
     rw [size_toD] at hln; have hge : decide ((16 : Int) ≤ (S1.fs.length : Int)) = false := by simp; omega
     clear hD1 hG1)
  | go_in)
 have hF1 : Fr w w1 S S1 := by
  have e1 : Fr w (w.alloc (.cells #[.string s] 9)) S S := Fr.below (by go_grown); have e2 := HX.out.1.frG HDD.out.2 [s]; rw [hS1] at e2; exact e1.trans e2
 have HF : Hid (Fr w w1 S S1) := hF1; have HD1 : Hid (DiskIs w1 bd S1) := HDD.out.1; clear hF1 HDD c1 hlk HX hln; refine wp_region_held_drew (S := fun w' => DiskIs w' bd S1 ∧ Below w1.heap.size w1 w') (by kernel_rfl) ⟨HD1.out.kept (fun _ _ => rfl) (Nat.le_refl _), ⟨rfl, rfl, rfl, Nat.le_refl _, fun _ _ => rfl⟩⟩ (fun hHeld => ?_); refine tk 0 (.slice va bs.length vc) (fun w9 hSw => ?_) hHeld ?_
 · go_simp
 simp only [sm]; refine tk 1 (.int .i64 (bs.length : Int)) (fun w9 hSw => ?_) hHeld ?_
 · go_simp
 simp only [sm]; refine tk 2 (.pointer (some ⟨bd, 0, none⟩)) (fun w9 hSw => ?_) hHeld ?_
 · go_simp
 simp only [sm]; refine tk 3 (.pointer (some ⟨bd, 0, none⟩)) (fun w9 hSw => ?_) hHeld ?_
 · go_simp
 simp only [sm]; refine tk 4 (.pointer (some ⟨bd, 0, none⟩)) (fun w9 hSw => ?_) hHeld ?_
 · go_simp
 simp only [sm]; refine tk 5 (.int .i64 S1.room) (fun w9 hSw => ?_) hHeld ?_
 · have hc : w9.cell? ⟨bd, 0, none⟩ = some (.int .i64 S1.room) := (cell_of_block hSw.1.disk 0).trans rfl
   go_simp
 simp only [sm]; refine tk 6 (.pointer (some ⟨bd, 0, none⟩)) (fun w9 hSw => ?_) hHeld ?_
 · go_simp
 simp only [sm]; refine rd 7 (fun K hK => ?_); generalize w1.drew = w2 at hHeld ⊢; go_simp; have hT : total S1 ≤ 4611686018427387904 := by have := HR.out; omega
 refine (used_any hHeld.1 hT).mono ?_; rintro e w3 ⟨rfl, hb3⟩; have hD3 : DiskIs w3 bd S1 ∧ Below w1.heap.size w1 w3 := ⟨hHeld.1.below hb3, hHeld.2.trans (hb3.mono hHeld.2.size)⟩
 clear hHeld hb3; go_wp2_with fail; refine hK.out _ _ hD3 (fun hHeld => ?_); clear hK K; try simp only [sm]
 have hsub : IntKind.i64.wrap (S1.room - (total S1 : Int)) = S1.room - (total S1 : Int) := by
  have := HR.out; rw [IntKind.wrap_i64]; omega
 have hgt : S1.room - (total S1 : Int) < (bs.length : Int) := by
  have := HR.out; omega
 refine tk 8 (.int .i64 (S1.room - (total S1 : Int))) (fun w9 hSw => ?_) hHeld ?_
 · go_simp
 simp only [sm]; refine tk 9 (.bool true) (fun w9 hSw => ?_) hHeld ?_
 · go_simp
 simp only [sm]; refine wpAnyH_done (by kernel_rfl) ?_ _; go_wp2; go_ret; exact ⟨rfl, hD3.1, HF.out.trans (Fr.below hD3.2)⟩
set_option maxHeartbeats 1000000 in
theorem down_any {w : World} {bd : Nat} {S : DS} (h : DiskIs w bd S) : Calls Tryz.prog 71 #[.pointer (some ⟨bd, 0, none⟩)] w fun e w' => e = .returned (.bool S.down) ∧ w' = w := by
 have c2 : w.cell? ⟨bd, 2, none⟩ = some (.bool S.down) := by rw [cell_of_block h.disk]; rfl
 clear h; go_enter Tryz.func71, Tryz.ntmps71; go_wp2; go_ret; exact ⟨rfl, rfl⟩
set_option maxHeartbeats 1000000 in
theorem list_up {w : World} {bd : Nat} {S : DS} (h : DiskIs w bd S) (hd : S.down = false) (hl : S.fs.length ≤ 1000) : Calls Tryz.prog 73 #[.pointer (some ⟨bd, 0, none⟩)] w fun e w' => ∃ (v : Value) (ss : List (List UInt8)), e = .returned v ∧ ss.Perm (S.fs.map (·.1)) ∧ w'.ownsRow w.heap.size 9 1 v ss.length ((ss.mergeSort (fun x y => decide (x ≤ y))).map encStr) ∧ (v = .slice none 0 0 ↔ ss = []) ∧ Below w.heap.size w w' := by
 have c2 : w.cell? ⟨bd, 2, none⟩ = some (.bool false) := by rw [cell_of_block h.disk]; simp [dC, hd]
 have HH : Hid (DiskIs w bd S) := h; clear h; go_enter Tryz.func73, Tryz.ntmps73; go_wp2_with (first
  | (go_at_call 55; refine (names_any HH.out hl).mono ?_; rintro e w1 ⟨v, ss, rfl, hp, hr, hn, hb⟩)
  | go_in)
 go_ret; exact ⟨v, ss, rfl, hp, hr, hn, hb⟩
theorem eqS (a b : ByteArray) : (a.toList == b.toList) = decide (a = b) := by
 rw [Lib.toList_data, Lib.toList_data]; rw [Bool.eq_iff_iff]; simp only [beq_iff_eq, decide_eq_true_eq]; constructor
 · intro h
   cases a; cases b
   simp at h; rw [h]
 · intro h
   rw [h]
structure RF where
 nm : ByteArray
 bv : Value
 bs : List Int
 sf : Int
def rfC (f : RF) : List Value := [.string f.nm, f.bv, .int .i64 f.sf]
def rfL (A : List RF) : List Value := A.flatMap rfC
structure RS where
 room : Int
 frm : Int
 n : Int
 lv : Value
 A : List RF
 pv : Value
 plan : List (Int × Int)
 down : Bool
 own : Nat → Nat
def plL (l : List (Int × Int)) : List Value := l.flatMap fun p => [.int .i64 p.1, .int .i64 p.2]
def rC (R : RS) : Array Value := #[.int .i64 R.room, .int .i64 R.frm, .int .i64 R.n, R.lv, R.pv, .bool R.down]
structure RefIs (w : World) (br : Nat) (R : RS) : Prop where
 disk : w.heap[br]? = some (.cells (rC R) 55)
 rd : R.own br = 1
 list : w.ownsRow 0 119 3 R.lv R.A.length (rfL R.A)
 rl : ∀ b, R.lv.ownBlock = some b → R.own b = 2
 row : ∀ f ∈ R.A, w.ownsRow 0 5 1 f.bv f.bs.length (vB f.bs)
 rr : ∀ f ∈ R.A, ∀ b, f.bv.ownBlock = some b → R.own b = 3
 nm : ∀ f ∈ R.A, f.nm.size ≤ 9223372036854775807
 plan : w.ownsRow 0 123 2 R.pv R.plan.length (plL R.plan)
 rp : ∀ b, R.pv.ownBlock = some b → R.own b = 4
 fresh : ∀ b, w.heap.size ≤ b → R.own b = 0
theorem RefIs.kept {w w' : World} {br : Nat} {R : RS} (h : RefIs w br R) (hk : ∀ b, R.own b ≠ 0 → w'.heap[b]? = w.heap[b]?) (hs : w.heap.size ≤ w'.heap.size) : RefIs w' br R where
 disk := (hk br (by rw [h.rd]; simp)).trans h.disk
 rd := h.rd
 list := ownsRow_heap h.list (fun b hb => hk b (by rw [h.rl b hb]; simp))
 rl := h.rl
 row := fun f hf => ownsRow_heap (h.row f hf) (fun b hb => hk b (by rw [h.rr f hf b hb]; simp))
 rr := h.rr
 nm := h.nm
 plan := ownsRow_heap h.plan (fun b hb => hk b (by rw [h.rp b hb]; simp))
 rp := h.rp
 fresh := fun b hb => h.fresh b (by omega)
theorem RefIs.own_lt {w : World} {br b : Nat} {R : RS} (h : RefIs w br R) (hb : R.own b ≠ 0) : b < w.heap.size := by
 rcases Nat.lt_or_ge b w.heap.size with h1 | h1
 · exact h1
 · exact absurd (h.fresh b h1) hb
theorem RefIs.below {w w' : World} {br : Nat} {R : RS} (h : RefIs w br R) (hb : Below w.heap.size w w') : RefIs w' br R :=
 h.kept (fun b hr => hb.block b (h.own_lt hr)) hb.size
structure RFr (w w' : World) (R R' : RS) : Prop where
 os : w'.os = w.os
 tape : w'.tape = w.tape
 output : w'.output = w.output
 size : w.heap.size ≤ w'.heap.size
 block : ∀ b, b < w.heap.size → R.own b = 0 → w'.heap[b]? = w.heap[b]?
 own : ∀ b, b < w.heap.size → R.own b = 0 → R'.own b = 0
theorem RFr.refl (w : World) (R : RS) : RFr w w R R := ⟨rfl, rfl, rfl, Nat.le_refl _, fun _ _ _ => rfl, fun _ _ h => h⟩
theorem RFr.trans {w w' w'' : World} {R R' R'' : RS} (h : RFr w w' R R') (k : RFr w' w'' R' R'') : RFr w w'' R R'' :=
 ⟨k.os.trans h.os, k.tape.trans h.tape, k.output.trans h.output, Nat.le_trans h.size k.size,
  fun b hb hr => (k.block b (Nat.lt_of_lt_of_le hb h.size) (h.own b hb hr)).trans (h.block b hb hr),
  fun b hb hr => k.own b (Nat.lt_of_lt_of_le hb h.size) (h.own b hb hr)⟩
theorem RFr.below {w w' : World} {R : RS} (h : Below w.heap.size w w') : RFr w w' R R :=
 ⟨h.os, h.tape, h.output, h.size, fun b hb _ => h.block b hb, fun _ _ hr => hr⟩
theorem rfL_get (A : List RF) : ∀ (k : Nat) (f : RF) (j : Nat), A[k]? = some f → j < 3 → (rfL A)[3 * k + j]? = (rfC f)[j]? := by
 induction A with
 | nil => intro k f j h; simp at h
 | cons a r ih =>
   intro k f j h hj; have e : rfL (a :: r) = rfC a ++ rfL r := by simp [rfL]
   cases k with
   | zero =>
     simp at h; subst h; rw [e, List.getElem?_append_left (by simp [rfC]; omega)]; simp
   | succ k =>
     simp at h; rw [e, List.getElem?_append_right (by simp [rfC]; omega)]; have := ih k f j h hj; rw [← this]; congr 1; simp [rfC]; omega
theorem RefIs.cell {w : World} {br : Nat} {R : RS} (h : RefIs w br R) {k : Nat} {f : RF} (hk : R.A[k]? = some f) : ∃ g cap, R.lv = .slice (some ⟨g, 0, none⟩) R.A.length cap ∧ R.own g = 2 ∧ g < w.heap.size ∧ R.A.length ≤ cap ∧
 ∀ j v, (rfC f)[j]? = some v → w.cell? ⟨g, k * 3 + j, none⟩ = some v := by
 have hkl := (List.getElem?_eq_some_iff.1 hk).1; rcases h.list.2 with ⟨_, h0⟩ | ⟨g, cap, cur, hv, _, hg, hc, _⟩
 · omega
 · refine ⟨g, cap, hv, h.rl g (by rw [hv]; rfl), heap_lt hg, hc, fun j v hj => ?_⟩
   have hj3 : j < 3 := by
    have := (List.getElem?_eq_some_iff.1 hj).1
    simpa [rfC] using this
   have := h.list.cells (g := g) (by rw [hv]; rfl) (3 * k + j) v (by rw [rfL_get R.A k f j hk hj3]; exact hj); rw [Addr.add_lit, Nat.zero_add, Nat.mul_comm] at this; exact this
def idxR (nm : ByteArray) : List RF → Int
 | [] => -1
 | a :: r => if a.nm = nm then 0 else (if idxR nm r = -1 then -1 else idxR nm r + 1)
theorem idxR_ge (nm : ByteArray) : ∀ A : List RF, -1 ≤ idxR nm A
 | [] => by simp [idxR]
 | a :: r => by
   have := idxR_ge nm r; unfold idxR; split
   · omega
   · split <;> omega
theorem idxR_hit {nm : ByteArray} : ∀ {A : List RF} {k : Nat} {f : RF}, (∀ j g, j < k → A[j]? = some g → g.nm ≠ nm) → A[k]? = some f → f.nm = nm → idxR nm A = k
 | [], k, f, _, h, _ => by simp at h
 | a :: r, 0, f, _, h, e => by
   simp at h; subst h; simp [idxR, e]
 | a :: r, k + 1, f, hn, h, e => by
   simp at h; have h1 := hn 0 a (by omega) rfl; have h2 := idxR_hit (A := r) (k := k) (fun j g hj hg => hn (j + 1) g (by omega) (by simpa using hg)) h e; simp only [idxR, if_neg h1, h2]; rw [if_neg (by omega)]; simp
theorem idxR_miss {nm : ByteArray} : ∀ {A : List RF}, (∀ g ∈ A, g.nm ≠ nm) → idxR nm A = -1
 | [], _ => rfl
 | a :: r, h => by
   simp only [idxR, if_neg (h a (List.mem_cons_self ..)), idxR_miss (A := r) (fun g hg => h g (List.mem_cons_of_mem _ hg)), if_pos]
set_option maxHeartbeats 4000000 in
theorem rat_any {w : World} {br : Nat} {R : RS} (h : RefIs w br R) (hl : R.A.length ≤ 1000) (nm : ByteArray) :
 Calls Tryz.prog 68 #[.pointer (some ⟨br, 0, none⟩), .string nm] w fun e w' => e = .returned (.int .i64 (idxR nm R.A)) ∧ w' = w := by
 have c3 : w.cell? ⟨br, 3, none⟩ = some R.lv := by rw [cell_of_block h.disk]; rfl
 obtain ⟨a, cap, hlv⟩ := row_form h.list; rw [hlv] at c3; have HR : Hid (RefIs w br R) := h; clear h; go_enter Tryz.func68, Tryz.ntmps68; go_wp2; go_loop [5] (fun i => ∃ k : Nat, k ≤ R.A.length ∧ i = .int .i64 k ∧ ∀ j g, j < k → R.A[j]? = some g → g.nm ≠ nm) (fun i => R.A.length - (intOf i).toNat)
 case atStart => exact ⟨0, Nat.zero_le _, rfl, fun j g hj => by omega⟩
 case round =>
  obtain ⟨k, hk, rfl, hno⟩ := hrel; by_cases hkl : k < R.A.length
  · obtain ⟨f, hf⟩ : ∃ f, R.A[k]? = some f := ⟨_, List.getElem?_eq_getElem hkl⟩
    obtain ⟨g, cap', hv, _, _, _, hc⟩ := HR.out.cell hf; have hc0 := hc 0 (.string f.nm) rfl; rw [Nat.add_zero] at hc0; rw [hlv] at hv; injection hv with hva _ _
    subst hva; have hki : (k : Int) < R.A.length := by omega
    clear hc; by_cases e : f.nm = nm
    · have hb : (f.nm.toList == nm.toList) = true := by rw [eqS]; simpa using e
      go_wp2; go_ret
      refine ⟨?_, rfl⟩; rw [idxR_hit hno hf e]; rfl
    · have hb : (f.nm.toList == nm.toList) = false := by rw [eqS]; simpa using e
      go_wp2; go_round
      case rel =>
       refine ⟨k + 1, by omega, by go_num, fun j g' hj hg' => ?_⟩; by_cases ej : j = k
       · subst ej
         rw [hf] at hg'; injection hg' with hg'
         rw [← hg']; exact e
       · exact hno j g' (by omega) hg'
      case measure => simp [intOf]; omega
  · have hki : decide ((k : Int) < R.A.length) = false := by simp; omega
    go_wp2; go_ret
    refine ⟨?_, rfl⟩; rw [idxR_miss (fun g hg => by
     obtain ⟨j, hj, hjg⟩ := List.getElem_of_mem hg; exact hno j g (by omega) (by rw [List.getElem?_eq_getElem hj, hjg]))]
    rfl
end Go.Proofs.YtconkienlcegaaaGreatDoor
