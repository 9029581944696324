/- disk: calls for a file that is not there, or that do not come to their work. -/
import Derived.Test.YtllkpnlgemjgfaaGH
namespace Go.Proofs.Ytllkpnlgemjgfaa
open Go.RowKit Go.Maps Go.Joins
set_option linter.unusedSimpArgs false
set_option linter.unusedVariables false
theorem findE_ne {S : DS} {ns : List ByteArray} (h : findV S ns = none) : (findE S ns != 0) = true := by
  unfold findE
  rw [h]
  by_cases h0 : stepE S ns = 0
  · simp [h0]
  · simp [h0]
theorem names_two (w : World) (s t : ByteArray) (hs : s.size ≤ 9223372036854775807) (ht : t.size ≤ 9223372036854775807) : Names (w.alloc (.cells #[.string s, .string t] 9)) w.heap.size [s, t] := by
  intro k u hk
  rcases k with _ | _ | k
  · simp at hk
    subst hk
    exact ⟨by simp, hs⟩
  · simp at hk
    subst hk
    exact ⟨by simp, ht⟩
  · simp at hk
set_option maxHeartbeats 4000000 in
theorem sync_no {w : World} {bd : Nat} {S : DS} (h : DiskIs w bd S) (hc : Cnt S) (s : ByteArray) (hs : s.size ≤ 9223372036854775807) (hf : findV S [s] = none) :
    Calls Try.prog 15 #[.pointer (some ⟨bd, 0, none⟩), .string s] w fun e w' => e = .returned (.int .i64 (findE S [s])) ∧ DiskIs w' bd (stepS S [s]) ∧ Fr w w' S (stepS S [s]) := by
  have HD : Hid (DiskIs w bd S ∧ Cnt S) := ⟨h, hc⟩
  have HX : Hid (DiskIs (w.alloc (.cells #[.string s] 9)) bd S ∧ Names (w.alloc (.cells #[.string s] 9)) w.heap.size [s]) := ⟨h.below (by go_grown), names_one w s hs⟩
  have hlt := h.lt
  have hne := findE_ne hf
  clear h hc
  go_enter Try.func15, Try.ntmps15
  go_wp2_with (first
    | (go_at_call 39
       refine (find_any HX.out.1 HD.out.2 w.heap.size 1 s [] HX.out.2 (by simp) (by omega) (by simp)).mono ?_
       rw [hf, show pv none = .pointer none from rfl]
       generalize hEE : findE S [s] = E at hne ⊢
       rintro e w1 ⟨rfl, hD1, hG1, hZ1⟩)
    | go_in)
  go_returns
  have e1 : Fr w (w.alloc (.cells #[.string s] 9)) S S := Fr.below (by go_grown)
  exact ⟨by rw [hEE]; rfl, hD1, e1.trans (HX.out.1.frG hG1 [s])⟩
set_option maxHeartbeats 4000000 in
theorem read_no {w : World} {bd : Nat} {S : DS} (h : DiskIs w bd S) (hc : Cnt S) (s : ByteArray) (hs : s.size ≤ 9223372036854775807) (hf : findV S [s] = none) :
    Calls Try.prog 19 #[.pointer (some ⟨bd, 0, none⟩), .string s] w fun e w' => e = .returned (.tuple #[.slice none 0 0, .int .i64 (findE S [s])]) ∧ DiskIs w' bd (stepS S [s]) ∧ Fr w w' S (stepS S [s]) := by
  have HD : Hid (DiskIs w bd S ∧ Cnt S) := ⟨h, hc⟩
  have HX : Hid (DiskIs (w.alloc (.cells #[.string s] 9)) bd S ∧ Names (w.alloc (.cells #[.string s] 9)) w.heap.size [s]) := ⟨h.below (by go_grown), names_one w s hs⟩
  have hlt := h.lt
  have hne := findE_ne hf
  clear h hc
  go_enter Try.func19, Try.ntmps19
  go_wp2_with (first
    | (go_at_call 39
       refine (find_any HX.out.1 HD.out.2 w.heap.size 1 s [] HX.out.2 (by simp) (by omega) (by simp)).mono ?_
       rw [hf, show pv none = .pointer none from rfl]
       generalize hEE : findE S [s] = E at hne ⊢
       rintro e w1 ⟨rfl, hD1, hG1, hZ1⟩)
    | go_in)
  go_returns
  have e1 : Fr w (w.alloc (.cells #[.string s] 9)) S S := Fr.below (by go_grown)
  exact ⟨by rw [hEE]; rfl, hD1, e1.trans (HX.out.1.frG hG1 [s])⟩
set_option maxHeartbeats 4000000 in
theorem trunc_no {w : World} {bd : Nat} {S : DS} (h : DiskIs w bd S) (hc : Cnt S) (s : ByteArray) (hs : s.size ≤ 9223372036854775807) (n : Int) (hf : findV S [s] = none) :
    Calls Try.prog 23 #[.pointer (some ⟨bd, 0, none⟩), .string s, .int .i64 n] w fun e w' => e = .returned (.int .i64 (findE S [s])) ∧ DiskIs w' bd (stepS S [s]) ∧ Fr w w' S (stepS S [s]) := by
  have HD : Hid (DiskIs w bd S ∧ Cnt S) := ⟨h, hc⟩
  have HX : Hid (DiskIs (w.alloc (.cells #[.string s] 9)) bd S ∧ Names (w.alloc (.cells #[.string s] 9)) w.heap.size [s]) := ⟨h.below (by go_grown), names_one w s hs⟩
  have hlt := h.lt
  have hne := findE_ne hf
  clear h hc
  go_enter Try.func23, Try.ntmps23
  go_wp2_with (first
    | (go_at_call 39
       refine (find_any HX.out.1 HD.out.2 w.heap.size 1 s [] HX.out.2 (by simp) (by omega) (by simp)).mono ?_
       rw [hf, show pv none = .pointer none from rfl]
       generalize hEE : findE S [s] = E at hne ⊢
       rintro e w1 ⟨rfl, hD1, hG1, hZ1⟩)
    | go_in)
  go_returns
  have e1 : Fr w (w.alloc (.cells #[.string s] 9)) S S := Fr.below (by go_grown)
  exact ⟨by rw [hEE]; rfl, hD1, e1.trans (HX.out.1.frG hG1 [s])⟩
set_option maxHeartbeats 4000000 in
theorem remove_no {w : World} {bd : Nat} {S : DS} (h : DiskIs w bd S) (hc : Cnt S) (s : ByteArray) (hs : s.size ≤ 9223372036854775807) (hf : findV S [s] = none) :
    Calls Try.prog 25 #[.pointer (some ⟨bd, 0, none⟩), .string s] w fun e w' => e = .returned (.int .i64 (findE S [s])) ∧ DiskIs w' bd (stepS S [s]) ∧ Fr w w' S (stepS S [s]) := by
  have HD : Hid (DiskIs w bd S ∧ Cnt S) := ⟨h, hc⟩
  have HX : Hid (DiskIs (w.alloc (.cells #[.string s] 9)) bd S ∧ Names (w.alloc (.cells #[.string s] 9)) w.heap.size [s]) := ⟨h.below (by go_grown), names_one w s hs⟩
  have hlt := h.lt
  have hne := findE_ne hf
  clear h hc
  go_enter Try.func25, Try.ntmps25
  go_wp2_with (first
    | (go_at_call 39
       refine (find_any HX.out.1 HD.out.2 w.heap.size 1 s [] HX.out.2 (by simp) (by omega) (by simp)).mono ?_
       rw [hf, show pv none = .pointer none from rfl]
       generalize hEE : findE S [s] = E at hne ⊢
       rintro e w1 ⟨rfl, hD1, hG1, hZ1⟩)
    | go_in)
  go_returns
  have e1 : Fr w (w.alloc (.cells #[.string s] 9)) S S := Fr.below (by go_grown)
  exact ⟨by rw [hEE]; rfl, hD1, e1.trans (HX.out.1.frG hG1 [s])⟩
set_option maxHeartbeats 4000000 in
theorem rename_no {w : World} {bd : Nat} {S : DS} (h : DiskIs w bd S) (hc : Cnt S) (s t : ByteArray) (hs : s.size ≤ 9223372036854775807) (ht : t.size ≤ 9223372036854775807) (hf : findV S [s, t] = none) :
    Calls Try.prog 24 #[.pointer (some ⟨bd, 0, none⟩), .string s, .string t] w fun e w' => e = .returned (.int .i64 (findE S [s, t])) ∧ DiskIs w' bd (stepS S [s, t]) ∧ Fr w w' S (stepS S [s, t]) := by
  have HD : Hid (DiskIs w bd S ∧ Cnt S) := ⟨h, hc⟩
  have HX : Hid (DiskIs (w.alloc (.cells #[.string s, .string t] 9)) bd S ∧ Names (w.alloc (.cells #[.string s, .string t] 9)) w.heap.size [s, t]) := ⟨h.below (by go_grown), names_two w s t hs ht⟩
  have hlt := h.lt
  have hne := findE_ne hf
  clear h hc
  go_enter Try.func24, Try.ntmps24
  go_wp2_with (first
    | (go_at_call 39
       refine (find_any HX.out.1 HD.out.2 w.heap.size 2 s [t] HX.out.2 (by simp) (by omega) (by simp)).mono ?_
       rw [hf, show pv none = .pointer none from rfl]
       generalize hEE : findE S [s, t] = E at hne ⊢
       rintro e w1 ⟨rfl, hD1, hG1, hZ1⟩)
    | go_in)
  go_returns
  have e1 : Fr w (w.alloc (.cells #[.string s, .string t] 9)) S S := Fr.below (by go_grown)
  exact ⟨by rw [hEE]; rfl, hD1, e1.trans (HX.out.1.frG hG1 [s, t])⟩
set_option maxHeartbeats 4000000 in
/-- Append, that does not come to its work -/
theorem append_no {w : World} {bd : Nat} {S : DS} (h : DiskIs w bd S) (hc : Cnt S) (s : ByteArray) (hs : s.size ≤ 9223372036854775807) (v : Value) (hE : stepE S [s] ≠ 0) :
    Calls Try.prog 14 #[.pointer (some ⟨bd, 0, none⟩), .string s, v] w fun e w' => e = .returned (.int .i64 (stepE S [s])) ∧ DiskIs w' bd (stepS S [s]) ∧ Fr w w' S (stepS S [s]) := by
  have HD : Hid (DiskIs w bd S ∧ Cnt S) := ⟨h, hc⟩
  have HX : Hid (DiskIs (w.alloc (.cells #[.string s] 9)) bd S ∧ Names (w.alloc (.cells #[.string s] 9)) w.heap.size [s]) := ⟨h.below (by go_grown), names_one w s hs⟩
  have hlt := h.lt
  have hne : (stepE S [s] != 0) = true := by simpa using hE
  clear h hc hE
  go_enter Try.func14, Try.ntmps14
  go_wp2_with (first
    | (go_at_call 37
       refine (step_any HX.out.1 HD.out.2 w.heap.size 1 [s] HX.out.2 (by simp) (by omega)).mono ?_
       generalize hEE : stepE S [s] = E at hne ⊢
       rintro e w1 ⟨rfl, hD1, hG1, hZ1⟩)
    | go_in)
  go_returns
  have e1 : Fr w (w.alloc (.cells #[.string s] 9)) S S := Fr.below (by go_grown)
  exact ⟨by rw [hEE]; rfl, hD1, e1.trans (HX.out.1.frG hG1 [s])⟩
set_option maxRecDepth 100000 in
set_option maxHeartbeats 4000000 in
/-- Append of one file too many -/
theorem append_big {w : World} {bd : Nat} {S : DS} (h : DiskIs w bd S) (hc : Cnt S) (s : ByteArray) (hs : s.size ≤ 9223372036854775807) (v : Value) (hE : stepE S [s] = 0) (hl : look S.fs s.data.toList = none) (hf16 : 16 ≤ S.fs.length) (hf17 : S.fs.length ≤ 1000) :
    Calls Try.prog 14 #[.pointer (some ⟨bd, 0, none⟩), .string s, v] w fun e w' => e = .returned (.int .i64 3) ∧ DiskIs w' bd (stepS S [s]) ∧ Fr w w' S (stepS S [s]) := by
  have HD : Hid (DiskIs w bd S ∧ Cnt S) := ⟨h, hc⟩
  have HX : Hid (DiskIs (w.alloc (.cells #[.string s] 9)) bd S ∧ Names (w.alloc (.cells #[.string s] 9)) w.heap.size [s]) := ⟨h.below (by go_grown), names_one w s hs⟩
  have hlt := h.lt
  have e3 := fs_stepS S [s]
  generalize hS1 : stepS S [s] = S1 at *
  rw [← e3] at hl hf16 hf17
  clear h hc e3
  go_enter Try.func14, Try.ntmps14
  go_wp2_with (first
    | (go_at_call 37
       refine (step_any HX.out.1 HD.out.2 w.heap.size 1 [s] HX.out.2 (by simp) (by omega)).mono ?_
       rw [hE, hS1]
       rintro e w1 ⟨rfl, hD1, hG1, hZ1⟩
       have HDD : Hid (DiskIs w1 bd S1 ∧ (w.alloc (.cells #[.string s] 9)).grownBy w1 (some bd)) := ⟨hD1, hG1⟩
       have c1 : w1.cell? ⟨bd, 1, none⟩ = some (.map (some S1.bm)) := by rw [cell_of_block hD1.disk]; rfl
       have hlk := hD1.look_ok hs
       rw [hl] at hlk
       simp only [pv, Option.isSome_none] at hlk
       have hln := fun ty => hD1.files.len Try.underlying56 ty
       rw [size_toD] at hln
       have hge : (16 : Int) ≤ (S1.fs.length : Int) := by omega
       clear hD1 hG1)
    | go_in)
  go_ret
  have e1 : Fr w (w.alloc (.cells #[.string s] 9)) S S := Fr.below (by go_grown)
  have e2 := HX.out.1.frG HDD.out.2 [s]
  rw [hS1] at e2
  exact ⟨rfl, HDD.out.1, e1.trans e2⟩
end Go.Proofs.Ytllkpnlgemjgfaa
