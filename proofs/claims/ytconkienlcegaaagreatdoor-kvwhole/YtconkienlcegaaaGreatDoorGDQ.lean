/- DP, DQ -/
import Derived.Test.YtconkienlcegaaaGreatDoorDL
import Derived.Laws.BytesArg
import Derived.Lib.SlBytesConst
namespace Go.Proofs.YtconkienlcegaaaGreatDoor
open Go.RowKit Go.Maps Go.Joins
set_option linter.unusedSimpArgs false
set_option linter.unusedVariables false
theorem findE_ne {S : DS} {ns : List ByteArray} (h : findV S ns = none) : (findE S ns != 0) = true := by
 unfold findE; rw [h]; by_cases h0 : stepE S ns = 0
 · simp [h0]
 · simp [h0]
set_option maxHeartbeats 4000000 in
theorem sync_no {w : World} {bd : Nat} {S : DS} (h : DiskIs w bd S) (hc : Cnt S) (s : ByteArray) (hs : s.size ≤ 9223372036854775807) (hf : findV S [s] = none) :
 Calls Tryz.prog 117 #[.pointer (some ⟨bd, 0, none⟩), .string s] w fun e w' => e = .returned (.int .i64 (findE S [s])) ∧ DiskIs w' bd (stepS S [s]) ∧ Fr w w' S (stepS S [s]) := by
 have HD : Hid (DiskIs w bd S ∧ Cnt S) := ⟨h, hc⟩
 have HX : Hid (DiskIs (w.alloc (.cells #[.string s] 9)) bd S ∧ Names (w.alloc (.cells #[.string s] 9)) w.heap.size [s]) := ⟨h.below (by go_grown), names_one w s hs⟩
 have hlt := h.lt; have hne := findE_ne hf; clear h hc; go_enter Tryz.func117, Tryz.ntmps117; go_wp2_with (first
  | (go_at_call 120
     refine (find_any HX.out.1 HD.out.2 w.heap.size 1 s [] HX.out.2 (by simp) (by omega) (by simp)).mono ?_; rw [hf, show pv none = .pointer none from rfl]; generalize hEE : findE S [s] = E at hne ⊢; rintro e w1 ⟨rfl, hD1, hG1, hZ1⟩)
  | go_in)
 go_returns
 have e1 : Fr w (w.alloc (.cells #[.string s] 9)) S S := Fr.below (by go_grown); exact ⟨by rw [hEE]; rfl, hD1, e1.trans (HX.out.1.frG hG1 [s])⟩
set_option maxHeartbeats 4000000 in
theorem read_no {w : World} {bd : Nat} {S : DS} (h : DiskIs w bd S) (hc : Cnt S) (s : ByteArray) (hs : s.size ≤ 9223372036854775807) (hf : findV S [s] = none) :
 Calls Tryz.prog 106 #[.pointer (some ⟨bd, 0, none⟩), .string s] w fun e w' => e = .returned (.tuple #[.slice none 0 0, .int .i64 (findE S [s])]) ∧ DiskIs w' bd (stepS S [s]) ∧ Fr w w' S (stepS S [s]) := by
 have HD : Hid (DiskIs w bd S ∧ Cnt S) := ⟨h, hc⟩
 have HX : Hid (DiskIs (w.alloc (.cells #[.string s] 9)) bd S ∧ Names (w.alloc (.cells #[.string s] 9)) w.heap.size [s]) := ⟨h.below (by go_grown), names_one w s hs⟩
 have hlt := h.lt; have hne := findE_ne hf; clear h hc; go_enter Tryz.func106, Tryz.ntmps106; go_wp2_with (first
  | (go_at_call 120
     refine (find_any HX.out.1 HD.out.2 w.heap.size 1 s [] HX.out.2 (by simp) (by omega) (by simp)).mono ?_; rw [hf, show pv none = .pointer none from rfl]; generalize hEE : findE S [s] = E at hne ⊢; rintro e w1 ⟨rfl, hD1, hG1, hZ1⟩)
  | go_in)
 go_returns
 have e1 : Fr w (w.alloc (.cells #[.string s] 9)) S S := Fr.below (by go_grown); exact ⟨by rw [hEE]; rfl, hD1, e1.trans (HX.out.1.frG hG1 [s])⟩
set_option maxHeartbeats 4000000 in
theorem trunc_no {w : World} {bd : Nat} {S : DS} (h : DiskIs w bd S) (hc : Cnt S) (s : ByteArray) (hs : s.size ≤ 9223372036854775807) (n : Int) (hf : findV S [s] = none) :
 Calls Tryz.prog 110 #[.pointer (some ⟨bd, 0, none⟩), .string s, .int .i64 n] w fun e w' => e = .returned (.int .i64 (findE S [s])) ∧ DiskIs w' bd (stepS S [s]) ∧ Fr w w' S (stepS S [s]) := by
 have HD : Hid (DiskIs w bd S ∧ Cnt S) := ⟨h, hc⟩
 have HX : Hid (DiskIs (w.alloc (.cells #[.string s] 9)) bd S ∧ Names (w.alloc (.cells #[.string s] 9)) w.heap.size [s]) := ⟨h.below (by go_grown), names_one w s hs⟩
 have hlt := h.lt; have hne := findE_ne hf; clear h hc; go_enter Tryz.func110, Tryz.ntmps110; go_wp2_with (first
  | (go_at_call 120
     refine (find_any HX.out.1 HD.out.2 w.heap.size 1 s [] HX.out.2 (by simp) (by omega) (by simp)).mono ?_; rw [hf, show pv none = .pointer none from rfl]; generalize hEE : findE S [s] = E at hne ⊢; rintro e w1 ⟨rfl, hD1, hG1, hZ1⟩)
  | go_in)
 go_returns
 have e1 : Fr w (w.alloc (.cells #[.string s] 9)) S S := Fr.below (by go_grown); exact ⟨by rw [hEE]; rfl, hD1, e1.trans (HX.out.1.frG hG1 [s])⟩
set_option maxHeartbeats 4000000 in
theorem remove_no {w : World} {bd : Nat} {S : DS} (h : DiskIs w bd S) (hc : Cnt S) (s : ByteArray) (hs : s.size ≤ 9223372036854775807) (hf : findV S [s] = none) :
 Calls Tryz.prog 89 #[.pointer (some ⟨bd, 0, none⟩), .string s] w fun e w' => e = .returned (.int .i64 (findE S [s])) ∧ DiskIs w' bd (stepS S [s]) ∧ Fr w w' S (stepS S [s]) := by
 have HD : Hid (DiskIs w bd S ∧ Cnt S) := ⟨h, hc⟩
 have HX : Hid (DiskIs (w.alloc (.cells #[.string s] 9)) bd S ∧ Names (w.alloc (.cells #[.string s] 9)) w.heap.size [s]) := ⟨h.below (by go_grown), names_one w s hs⟩
 have hlt := h.lt; have hne := findE_ne hf; clear h hc; go_enter Tryz.func89, Tryz.ntmps89; go_wp2_with (first
  | (go_at_call 120
     refine (find_any HX.out.1 HD.out.2 w.heap.size 1 s [] HX.out.2 (by simp) (by omega) (by simp)).mono ?_; rw [hf, show pv none = .pointer none from rfl]; generalize hEE : findE S [s] = E at hne ⊢; rintro e w1 ⟨rfl, hD1, hG1, hZ1⟩)
  | go_in)
 go_returns
 have e1 : Fr w (w.alloc (.cells #[.string s] 9)) S S := Fr.below (by go_grown); exact ⟨by rw [hEE]; rfl, hD1, e1.trans (HX.out.1.frG hG1 [s])⟩
set_option maxHeartbeats 4000000 in
/-- Append, that does not come to its work -/
theorem append_no {w : World} {bd : Nat} {S : DS} (h : DiskIs w bd S) (hc : Cnt S) (s : ByteArray) (hs : s.size ≤ 9223372036854775807) (v : Value) (hE : stepE S [s] ≠ 0) :
 Calls Tryz.prog 35 #[.pointer (some ⟨bd, 0, none⟩), .string s, v] w fun e w' => e = .returned (.int .i64 (stepE S [s])) ∧ DiskIs w' bd (stepS S [s]) ∧ Fr w w' S (stepS S [s]) := by
 have HD : Hid (DiskIs w bd S ∧ Cnt S) := ⟨h, hc⟩
 have HX : Hid (DiskIs (w.alloc (.cells #[.string s] 9)) bd S ∧ Names (w.alloc (.cells #[.string s] 9)) w.heap.size [s]) := ⟨h.below (by go_grown), names_one w s hs⟩
 have hlt := h.lt; have hne : (stepE S [s] != 0) = true := by simpa using hE
 clear h hc hE; go_enter Tryz.func35, Tryz.ntmps35; go_wp2_with (first
  | (go_at_call 63
     refine (step_any HX.out.1 HD.out.2 w.heap.size 1 [s] HX.out.2 (by simp) (by omega)).mono ?_; generalize hEE : stepE S [s] = E at hne ⊢; rintro e w1 ⟨rfl, hD1, hG1, hZ1⟩)
  | go_in)
 go_returns
 have e1 : Fr w (w.alloc (.cells #[.string s] 9)) S S := Fr.below (by go_grown); exact ⟨by rw [hEE]; rfl, hD1, e1.trans (HX.out.1.frG hG1 [s])⟩
set_option maxRecDepth 100000 in
set_option maxHeartbeats 4000000 in
/-- Append of one file too many -/
theorem append_big {w : World} {bd : Nat} {S : DS} (h : DiskIs w bd S) (hc : Cnt S) (s : ByteArray) (hs : s.size ≤ 9223372036854775807) (v : Value) (hE : stepE S [s] = 0) (hl : look S.fs s.data.toList = none) (hf16 : 16 ≤ S.fs.length) (hf17 : S.fs.length ≤ 1000) :
 Calls Tryz.prog 35 #[.pointer (some ⟨bd, 0, none⟩), .string s, v] w fun e w' => e = .returned (.int .i64 3) ∧ DiskIs w' bd (stepS S [s]) ∧ Fr w w' S (stepS S [s]) := by
 have HD : Hid (DiskIs w bd S ∧ Cnt S) := ⟨h, hc⟩
 have HX : Hid (DiskIs (w.alloc (.cells #[.string s] 9)) bd S ∧ Names (w.alloc (.cells #[.string s] 9)) w.heap.size [s]) := ⟨h.below (by go_grown), names_one w s hs⟩
 have hlt := h.lt; have e3 := fs_stepS S [s]; generalize hS1 : stepS S [s] = S1 at *; rw [← e3] at hl hf16 hf17; clear h hc e3; go_enter Tryz.func35, Tryz.ntmps35; go_wp2_with (first
  | (go_at_call 63
     refine (step_any HX.out.1 HD.out.2 w.heap.size 1 [s] HX.out.2 (by simp) (by omega)).mono ?_; rw [hE, hS1]; rintro e w1 ⟨rfl, hD1, hG1, hZ1⟩; have HDD : Hid (DiskIs w1 bd S1 ∧ (w.alloc (.cells #[.string s] 9)).grownBy w1 (some bd)) := ⟨hD1, hG1⟩
     have c1 : w1.cell? ⟨bd, 1, none⟩ = some (.map (some S1.bm)) := by rw [cell_of_block hD1.disk]; rfl
     have hlk := hD1.look_ok hs; rw [hl] at hlk; simp only [pv, Option.isSome_none] at hlk; have hln := fun ty => hD1.files.len Tryz.underlying86 ty
     rw [size_toD] at hln; have hge : (16 : Int) ≤ (S1.fs.length : Int) := by omega
     clear hD1 hG1)
  | go_in)
 go_ret; have e1 : Fr w (w.alloc (.cells #[.string s] 9)) S S := Fr.below (by go_grown)
 have e2 := HX.out.1.frG HDD.out.2 [s]; rw [hS1] at e2; exact ⟨rfl, HDD.out.1, e1.trans e2⟩
theorem findE_zero {S : DS} {ns : List ByteArray} {g : Nat} (hf : findV S ns = some g) : findE S ns = 0 := by
 unfold findE; rw [hf]; unfold findV at hf; split at hf
 · rename_i h0; simp [h0]
 · cases hf
theorem findV_mem {S : DS} {ns : List ByteArray} {g : Nat} (h : findV S ns = some g) : ((ns.headD ByteArray.empty).data.toList, g) ∈ (stepS S ns).fs := by
 unfold findV at h; split at h
 · rw [fs_stepS]; exact look_mem h
 · cases h
set_option maxRecDepth 100000 in
set_option maxHeartbeats 4000000 in
theorem trunc_arg {w : World} {bd : Nat} {S : DS} (h : DiskIs w bd S) (hc : Cnt S) (s : ByteArray) (hs : s.size ≤ 9223372036854775807) (n : Int) {g : Nat} (hf : findV S [s] = some g) (hn : n < 0 ∨ (((stepS S [s]).fl s.data.toList).bs.length : Int) < n) :
 Calls Tryz.prog 110 #[.pointer (some ⟨bd, 0, none⟩), .string s, .int .i64 n] w fun e w' => e = .returned (.int .i64 1) ∧ DiskIs w' bd (stepS S [s]) ∧ Fr w w' S (stepS S [s]) := by
 have HD : Hid (DiskIs w bd S ∧ Cnt S) := ⟨h, hc⟩
 have HX : Hid (DiskIs (w.alloc (.cells #[.string s] 9)) bd S ∧ Names (w.alloc (.cells #[.string s] 9)) w.heap.size [s]) := ⟨h.below (by go_grown), names_one w s hs⟩
 have hlt := h.lt; have hE := findE_zero hf; have hm := findV_mem hf; rw [show ([s].headD ByteArray.empty).data.toList = s.data.toList from rfl] at hm; generalize hS1 : stepS S [s] = S1 at *; clear h hc; by_cases h0 : n < 0
 · clear hn
   go_enter Tryz.func110, Tryz.ntmps110
   go_wp2_with (first
    | (go_at_call 120
       refine (find_any HX.out.1 HD.out.2 w.heap.size 1 s [] HX.out.2 (by simp) (by omega) (by simp)).mono ?_; rw [hf, hE, hS1, show pv (some g) = .pointer (some ⟨g, 0, none⟩) from rfl]; rintro e w1 ⟨rfl, hD1, hG1, hZ1⟩; have hF1 : Fr w w1 S S1 := by
        have e1 : Fr w (w.alloc (.cells #[.string s] 9)) S S := Fr.below (by go_grown); have e2 := HX.out.1.frG hG1 [s]; rw [hS1] at e2; exact e1.trans e2
       have HDD : Hid (DiskIs w1 bd S1 ∧ Fr w w1 S S1) := ⟨hD1, hF1⟩
       have hfile : w1.heap[g]? = some (.cells #[(S1.fl s.data.toList).sl, .int .i64 (S1.fl s.data.toList).safe] 116) := hD1.file _ hm; have hrow : w1.ownsRow 0 5 1 (S1.fl s.data.toList).sl (S1.fl s.data.toList).bs.length (vB (S1.fl s.data.toList).bs) := hD1.row _ hm; obtain ⟨a, cap, hsl⟩ := row_form hrow; rw [hsl] at hfile hrow; have c0 : w1.cell? ⟨g, 0, none⟩ = some (.slice a (S1.fl s.data.toList).bs.length cap) := by rw [cell_of_block hfile]; rfl
       have cs : w1.cell? ⟨g, 1, none⟩ = some (.int .i64 (S1.fl s.data.toList).safe) := by rw [cell_of_block hfile]; rfl
       have c1 : w1.cell? ⟨bd, 1, none⟩ = some (.map (some S1.bm)) := by rw [cell_of_block hD1.disk]; rfl
       have hcap := row_cap hrow; clear hrow; have HFI : Hid (w1.heap[g]? = some (.cells #[.slice a (S1.fl s.data.toList).bs.length cap, .int .i64 (S1.fl s.data.toList).safe] 116)) := hfile; clear hD1 hG1 hF1 hfile)
    | go_in)
   go_ret; exact ⟨rfl, HDD.out⟩
 · have d0 : decide (n < 0) = false := by simp; omega
   have d1 : ((S1.fl s.data.toList).bs.length : Int) < n := by omega
   clear hn h0; go_enter Tryz.func110, Tryz.ntmps110; go_wp2_with (first
    | (go_at_call 120
       refine (find_any HX.out.1 HD.out.2 w.heap.size 1 s [] HX.out.2 (by simp) (by omega) (by simp)).mono ?_; rw [hf, hE, hS1, show pv (some g) = .pointer (some ⟨g, 0, none⟩) from rfl]; rintro e w1 ⟨rfl, hD1, hG1, hZ1⟩; have hF1 : Fr w w1 S S1 := by
        have e1 : Fr w (w.alloc (.cells #[.string s] 9)) S S := Fr.below (by go_grown); have e2 := HX.out.1.frG hG1 [s]; rw [hS1] at e2; exact e1.trans e2
       have HDD : Hid (DiskIs w1 bd S1 ∧ Fr w w1 S S1) := ⟨hD1, hF1⟩
       have hfile : w1.heap[g]? = some (.cells #[(S1.fl s.data.toList).sl, .int .i64 (S1.fl s.data.toList).safe] 116) := hD1.file _ hm; have hrow : w1.ownsRow 0 5 1 (S1.fl s.data.toList).sl (S1.fl s.data.toList).bs.length (vB (S1.fl s.data.toList).bs) := hD1.row _ hm; obtain ⟨a, cap, hsl⟩ := row_form hrow; rw [hsl] at hfile hrow; have c0 : w1.cell? ⟨g, 0, none⟩ = some (.slice a (S1.fl s.data.toList).bs.length cap) := by rw [cell_of_block hfile]; rfl
       have cs : w1.cell? ⟨g, 1, none⟩ = some (.int .i64 (S1.fl s.data.toList).safe) := by rw [cell_of_block hfile]; rfl
       have c1 : w1.cell? ⟨bd, 1, none⟩ = some (.map (some S1.bm)) := by rw [cell_of_block hD1.disk]; rfl
       have hcap := row_cap hrow; clear hrow; have HFI : Hid (w1.heap[g]? = some (.cells #[.slice a (S1.fl s.data.toList).bs.length cap, .int .i64 (S1.fl s.data.toList).safe] 116)) := hfile; clear hD1 hG1 hF1 hfile)
    | go_in)
   go_ret; exact ⟨rfl, HDD.out⟩
set_option maxRecDepth 100000 in
set_option maxHeartbeats 4000000 in
theorem trunc_ok {w : World} {bd : Nat} {S : DS} (h : DiskIs w bd S) (hc : Cnt S) (s : ByteArray) (hs : s.size ≤ 9223372036854775807) (n : Int) {g : Nat} (hf : findV S [s] = some g) (h0 : 0 ≤ n) (h1 : n ≤ (((stepS S [s]).fl s.data.toList).bs.length : Int)) :
 Calls Tryz.prog 110 #[.pointer (some ⟨bd, 0, none⟩), .string s, .int .i64 n] w fun e w' => e = .returned (.int .i64 0) ∧ ∃ a cap z, DiskIs w' bd (setFl (stepS S [s]) s.data.toList { sl := .slice a n.toNat cap, bs := ((stepS S [s]).fl s.data.toList).bs.take n.toNat, safe := n } z) ∧ Fr w w' S (setFl (stepS S [s]) s.data.toList { sl := .slice a n.toNat cap, bs := ((stepS S [s]).fl s.data.toList).bs.take n.toNat, safe := n } z) := by
 have HD : Hid (DiskIs w bd S ∧ Cnt S) := ⟨h, hc⟩
 have HX : Hid (DiskIs (w.alloc (.cells #[.string s] 9)) bd S ∧ Names (w.alloc (.cells #[.string s] 9)) w.heap.size [s]) := ⟨h.below (by go_grown), names_one w s hs⟩
 have hlt := h.lt; have hE := findE_zero hf; have hm := findV_mem hf; rw [show ([s].headD ByteArray.empty).data.toList = s.data.toList from rfl] at hm; generalize hS1 : stepS S [s] = S1 at *; clear h hc; have d0 : decide (n < 0) = false := by simp; omega
 have d1 : decide (((S1.fl s.data.toList).bs.length : Int) < n) = false := by simp; omega
 go_enter Tryz.func110, Tryz.ntmps110
 go_wp2_with (first
  | (go_at_call 120
     refine (find_any HX.out.1 HD.out.2 w.heap.size 1 s [] HX.out.2 (by simp) (by omega) (by simp)).mono ?_; rw [hf, hE, hS1, show pv (some g) = .pointer (some ⟨g, 0, none⟩) from rfl]; rintro e w1 ⟨rfl, hD1, hG1, hZ1⟩; have hF1 : Fr w w1 S S1 := by
      have e1 : Fr w (w.alloc (.cells #[.string s] 9)) S S := Fr.below (by go_grown); have e2 := HX.out.1.frG hG1 [s]; rw [hS1] at e2; exact e1.trans e2
     have HDD : Hid (DiskIs w1 bd S1 ∧ Fr w w1 S S1) := ⟨hD1, hF1⟩
     have hfile : w1.heap[g]? = some (.cells #[(S1.fl s.data.toList).sl, .int .i64 (S1.fl s.data.toList).safe] 116) := hD1.file _ hm; have hrow : w1.ownsRow 0 5 1 (S1.fl s.data.toList).sl (S1.fl s.data.toList).bs.length (vB (S1.fl s.data.toList).bs) := hD1.row _ hm; obtain ⟨a, cap, hsl⟩ := row_form hrow; rw [hsl] at hfile hrow; have c0 : w1.cell? ⟨g, 0, none⟩ = some (.slice a (S1.fl s.data.toList).bs.length cap) := by rw [cell_of_block hfile]; rfl
     have cs : w1.cell? ⟨g, 1, none⟩ = some (.int .i64 (S1.fl s.data.toList).safe) := by rw [cell_of_block hfile]; rfl
     have c1 : w1.cell? ⟨bd, 1, none⟩ = some (.map (some S1.bm)) := by rw [cell_of_block hD1.disk]; rfl
     have hcap := row_cap hrow; clear hrow; have HFI : Hid (w1.heap[g]? = some (.cells #[.slice a (S1.fl s.data.toList).bs.length cap, .int .i64 (S1.fl s.data.toList).safe] 116)) := hfile; clear hD1 hG1 hF1 hfile)
  | (go_at_call 56
     refine (cut_int HFI.out n h0 h1 hcap.1 hcap.2.1 hcap.2.2).mono ?_; rintro e w2 ⟨rfl, rfl⟩)
  | go_in)
 go_ret; have hc := HDD.out.1.cutF hm hsl n h0 h1
 exact ⟨rfl, a, cap, w1.heap.size, hc.1, HDD.out.2.trans hc.2⟩
/-- A file fewer. -/
def delFs (S : DS) (n : List UInt8) : DS := { S with fs := delL S.fs n }
theorem mem_delL {fs : List (List UInt8 × Nat)} {n : List UInt8} {p : List UInt8 × Nat} (h : p ∈ delL fs n) : p ∈ fs ∧ p.1 ≠ n := by
 have := List.mem_filter.1 h; exact ⟨this.1, by simpa using this.2⟩
theorem DiskIs.delF {w w' : World} {bd : Nat} {S : DS} (h : DiskIs w bd S) {n : List UInt8} {k : Nat} (hmap : w'.ownsMap Tryz.prog 9 Rp S.bm k (toD (delL S.fs n))) (hk : ∀ b, b < w.heap.size → b ≠ S.bm → w'.heap[b]? = w.heap[b]?) (hs : w.heap.size ≤ w'.heap.size) : DiskIs w' bd (delFs S n) := by
 have hk' : ∀ b, S.role b ≠ .none → S.role b ≠ .map → w'.heap[b]? = w.heap[b]? := fun b h0 h1 => hk b (h.role_lt h0) (fun e => h1 (by rw [e]; exact h.rm))
 refine ⟨?_, h.rd, ?_, h.rm, ?_, h.rp, ?_, ?_, ?_, ?_, fun b hb => h.fresh b (by omega)⟩
 · exact (hk' bd (by rw [h.rd]; simp) (by rw [h.rd]; simp)).trans h.disk
 · have := ownsMap_size hmap
   rw [size_toD] at this; exact this
 · exact h.plan.kept (fun b hb => hk' b (by rw [h.rp b hb]; simp) (by rw [h.rp b hb]; simp))
 · intro p hp
   have hp' := (mem_delL hp).1; have := h.rf p hp'; exact (hk' _ (by rw [this]; simp) (by rw [this]; simp)).trans (h.file p hp')
 · exact fun p hp => h.rf p (mem_delL hp).1
 · intro p hp
   exact ownsRow_heap (h.row p (mem_delL hp).1) (fun b hb => by
    have := h.rr p (mem_delL hp).1 b hb; exact hk' _ (by rw [this]; simp) (by rw [this]; simp))
 · exact fun p hp => h.rr p (mem_delL hp).1
theorem turned_fr {w w' : World} {bd : Nat} {S S' : DS} (h : DiskIs w bd S) (hg : w.grownBy w' (some S.bm)) (hr : ∀ b, b < w.heap.size → S.role b = .none → S'.role b = .none) : Fr w w' S S' :=
 ⟨hg.os, hg.tape, hg.output, hg.size, fun b hb hr' => hg.block b hb (fun e => by injection e with e; rw [e, h.rm] at hr'; cases hr'), hr⟩
set_option maxRecDepth 100000 in
set_option maxHeartbeats 4000000 in
theorem remove_ok {w : World} {bd : Nat} {S : DS} (h : DiskIs w bd S) (hc : Cnt S) (s : ByteArray) (hs : s.size ≤ 9223372036854775807) {g : Nat} (hf : findV S [s] = some g) :
 Calls Tryz.prog 89 #[.pointer (some ⟨bd, 0, none⟩), .string s] w fun e w' => e = .returned (.int .i64 0) ∧ DiskIs w' bd (delFs (stepS S [s]) s.data.toList) ∧ Fr w w' S (delFs (stepS S [s]) s.data.toList) := by
 have HD : Hid (DiskIs w bd S ∧ Cnt S) := ⟨h, hc⟩
 have HX : Hid (DiskIs (w.alloc (.cells #[.string s] 9)) bd S ∧ Names (w.alloc (.cells #[.string s] 9)) w.heap.size [s]) := ⟨h.below (by go_grown), names_one w s hs⟩
 have hlt := h.lt; have hE := findE_zero hf; have hm := findV_mem hf; rw [show ([s].headD ByteArray.empty).data.toList = s.data.toList from rfl] at hm; generalize hS1 : stepS S [s] = S1 at *; clear h hc; have hkey := WideMaps.keyOf_string_mk Tryz.underlying9 (s := s) hs; go_enter Tryz.func89, Tryz.ntmps89; go_wp2_with (first
  | (go_at_call 120
     refine (find_any HX.out.1 HD.out.2 w.heap.size 1 s [] HX.out.2 (by simp) (by omega) (by simp)).mono ?_; rw [hf, hE, hS1, show pv (some g) = .pointer (some ⟨g, 0, none⟩) from rfl]; rintro e w1 ⟨rfl, hD1, hG1, hZ1⟩; have hF1 : Fr w w1 S S1 := by
      have e1 : Fr w (w.alloc (.cells #[.string s] 9)) S S := Fr.below (by go_grown); have e2 := HX.out.1.frG hG1 [s]; rw [hS1] at e2; exact e1.trans e2
     have HDD : Hid (DiskIs w1 bd S1 ∧ Fr w w1 S S1) := ⟨hD1, hF1⟩
     have hfile : w1.heap[g]? = some (.cells #[(S1.fl s.data.toList).sl, .int .i64 (S1.fl s.data.toList).safe] 116) := hD1.file _ hm; have hrow : w1.ownsRow 0 5 1 (S1.fl s.data.toList).sl (S1.fl s.data.toList).bs.length (vB (S1.fl s.data.toList).bs) := hD1.row _ hm; obtain ⟨a, cap, hsl⟩ := row_form hrow; rw [hsl] at hfile hrow; have c0 : w1.cell? ⟨g, 0, none⟩ = some (.slice a (S1.fl s.data.toList).bs.length cap) := by rw [cell_of_block hfile]; rfl
     have cs : w1.cell? ⟨g, 1, none⟩ = some (.int .i64 (S1.fl s.data.toList).safe) := by rw [cell_of_block hfile]; rfl
     have c1 : w1.cell? ⟨bd, 1, none⟩ = some (.map (some S1.bm)) := by rw [cell_of_block hD1.disk]; rfl
     have hcap := row_cap hrow; clear hrow; have HFI : Hid (w1.heap[g]? = some (.cells #[.slice a (S1.fl s.data.toList).bs.length cap, .int .i64 (S1.fl s.data.toList).safe] 116)) := hfile; clear hD1 hG1 hF1 hfile)
  | (at_delete
     refine wpList_delete_own _ rfl _ _ 86 9 rfl 114 law9 Tryz.underlying86 Rp S1.bm S1.fs.length (toD S1.fs) rfl HDD.out.1.files _ _ rfl hkey ?_; rw [del_toD]; intro w2 hown2 ht2; have H2 : Hid (w2.ownsMap Tryz.prog 9 Rp S1.bm S1.fs.length (toD (delL S1.fs s.data.toList)) ∧ w1.grownBy w2 (some S1.bm)) := ⟨hown2, ht2.grown⟩
     clear hown2 ht2)
  | go_in)
 go_ret; obtain ⟨hown2, hg2⟩ := H2.out
 exact ⟨rfl, HDD.out.1.delF hown2 (fun b h1 h2 => hg2.block b h1 (fun e => by injection e with e; exact h2 e)) hg2.size, HDD.out.2.trans (turned_fr HDD.out.1 hg2 (fun _ _ h => h))⟩
end Go.Proofs.YtconkienlcegaaaGreatDoor
