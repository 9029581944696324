/- disk: names. -/
import Derived.Test.YtllkpnlgemjgfaaDJ
namespace Go.Proofs.Ytllkpnlgemjgfaa
open Go.RowKit Go.Maps Go.Joins Go.Sort Go.Shelf
set_option linter.unusedSimpArgs false
set_option linter.unusedVariables false
set_option maxHeartbeats 1000000 in
/-- (*Disk).names -/
theorem names_any {w : World} {bd : Nat} {S : DS} (h : DiskIs w bd S) (hl : S.fs.length ≤ 1000) :
    Calls Try.prog 36 #[.pointer (some ⟨bd, 0, none⟩)] w fun e w' => ∃ (v : Value) (ss : List (List UInt8)), e = .returned v ∧ ss.Perm (S.fs.map (·.1)) ∧ w'.ownsRow w.heap.size 9 1 v ss.length ((ss.mergeSort (fun x y => decide (x ≤ y))).map encStr) ∧ (v = .slice none 0 0 ↔ ss = []) ∧ Below w.heap.size w w' := by
  have c1 : w.cell? ⟨bd, 1, none⟩ = some (.map (some S.bm)) := by rw [cell_of_block h.disk]; rfl
  have hown := h.files
  have hmax : Maps.size (toD S.fs) ≤ maxLen := by rw [size_toD]; unfold maxLen; omega
  have hbytes : Maps.size (toD S.fs) * 16 ≤ 140737488355328 := by rw [size_toD]; omega
  have HH : Hid (w.ownsMap Try.prog 9 Rp S.bm S.fs.length (toD S.fs) ∧ Maps.size (toD S.fs) ≤ maxLen ∧ Maps.size (toD S.fs) * 16 ≤ 140737488355328) := ⟨hown, hmax, hbytes⟩
  clear h hown hmax hbytes
  refine (callsIn_wide (n := 6)).1 ?_
  have hfK : Fence.wide.fn 49 := trivial
  have hfS : Fence.wide.fn 48 := trivial
  refine callsIn_of_wp Try.func36 rfl trivial ?_ rfl
  simp only [Try.ntmps36, List.size_toArray, List.length_cons, List.length_nil, Nat.reduceAdd, Nat.reduceSub, Array.replicate_succ, Array.replicate_zero, List.push_toArray, List.append_toArray, List.nil_append, List.cons_append]
  gi_wp2_with (first
    | (gi_at_call 49; refine (Try.maps_Keys_49 _ _).mono ?_; rintro e w' ⟨rfl, rfl⟩)
    | (gi_at_call 48; refine (Try.slices_Sorted_keys_48_49 S.bm S.fs.length (toD S.fs) Rp w HH.out.1 HH.out.2.1 HH.out.2.2).mono ?_; rintro e w' ⟨v, ss, rfl, hS, hrow, hnil, hb⟩))
  go_ret
  rw [keys_toD] at hS
  exact ⟨v, ss, rfl, hS, ownsRow_base_a hrow (by simp), hnil, ((Below.refl _ w).alloc (Nat.le_refl _) _).trans (hb.mono (by simp))⟩
end Go.Proofs.Ytllkpnlgemjgfaa
