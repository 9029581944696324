/- disk: which names files may have, in the program and in the document. -/
import Derived.Test.YtllkpnlgemjgfaaIter
import Derived.Test.YtllkpnlgemjgfaaChecked
import Derived.WalkKit
import Derived.WalkSpells
import Derived.StillTactics
import Derived.Laws.Pointers
import Derived.Deep.RegionHeld3
import Derived.RowKit3
import Derived.Handy
import Derived.Maps.RangeWalk
import Derived.Maps.Ext
import Derived.BigQuiet
import Derived.Lib.SmallJoins
namespace Go.Proofs.Ytllkpnlgemjgfaa
open Go.RowKit Go.Maps
set_option linter.unusedSimpArgs false
set_option linter.unusedVariables false
/-- A byte that a name may have. -/
def okB (b : UInt8) : Bool := decide (33 ≤ b.toNat) && decide (b.toNat ≤ 126)
/-- A name that a file may have. -/
def nameB (s : ByteArray) : Bool := decide (1 ≤ s.size) && decide (s.size ≤ 32) && s.data.toList.all okB
theorem allTake_succ {s : ByteArray} {k : Nat} (hk : k < s.size) : (s.data.toList.take (k + 1)).all okB = ((s.data.toList.take k).all okB && okB s[k]) := by
  have hk' : k < s.data.toList.length := by simpa using hk
  rw [List.take_add_one, List.getElem?_eq_getElem hk', List.all_append]
  simp
  rfl
theorem nameB_of {s : ByteArray} (h1 : 1 ≤ s.size) (h2 : s.size ≤ 32) : nameB s = s.data.toList.all okB := by
  simp [nameB, h1, h2]
theorem nameB_false {s : ByteArray} {k : Nat} (hk : k < s.size) (h : okB s[k] = false) : nameB s = false := by
  have : s.data.toList.all okB = false := by
    rw [List.all_eq_false]
    refine ⟨s[k], ?_, by simp [h]⟩
    have hk' : k < s.data.toList.length := by simpa using hk
    exact List.getElem_mem hk'
  simp [nameB, this]
set_option maxHeartbeats 1000000 in
/-- disk.Name -/
theorem name_any (s : ByteArray) (hs : s.size ≤ 9223372036854775807) (w : World) :
    Calls Try.prog 21 #[.string s] w fun e w' => e = .returned (.bool (nameB s)) ∧ w' = w := by
  by_cases h1 : 1 ≤ s.size ∧ s.size ≤ 32
  · obtain ⟨h1, h2⟩ := h1
    have d1 : decide ((s.size : Int) < 1) = false := by simp; omega
    have d2 : decide ((32 : Int) < s.size) = false := by simp; omega
    go_enter Try.func21, Try.ntmps21
    go_wp2
    go_loop [14] (fun i => ∃ k : Nat, k ≤ s.size ∧ i = .int .i64 k ∧ (s.data.toList.take k).all okB = true) (fun i => s.size - (intOf i).toNat)
    case atStart => exact ⟨0, Nat.zero_le _, rfl, rfl⟩
    case round =>
      obtain ⟨k, hk, rfl, hall⟩ := hrel
      go_wp2
      · have hk : k < s.size := by assumption
        have hb : (s[k].toNat : Int) < 33 ∨ 126 < (s[k].toNat : Int) := by assumption
        go_ret
        exact ⟨by rw [nameB_false hk (by simp [okB]; omega)]; rfl, rfl⟩
      · have hk : k < s.size := by assumption
        have hb : 33 ≤ (s[k].toNat : Int) ∧ (s[k].toNat : Int) ≤ 126 := by assumption
        go_round
        case rel => exact ⟨k + 1, by omega, by go_num, by rw [allTake_succ hk, hall]; simp [okB]; omega⟩
        case measure => simp [intOf]; omega
      · have hk : k < s.size := by assumption
        have hb : (s[k].toNat : Int) < 33 := by assumption
        go_ret
        exact ⟨by rw [nameB_false hk (by simp [okB]; omega)]; rfl, rfl⟩
      · have hk' : ¬ k < s.size := by assumption
        obtain rfl : k = s.size := by omega
        go_ret
        refine ⟨?_, rfl⟩
        rw [nameB_of h1 h2]
        rw [List.take_of_length_le (by simp)] at hall
        rw [hall]
        rfl
  · have hf : nameB s = false := by
      simp only [nameB, Bool.and_eq_false_iff, decide_eq_false_iff_not]
      omega
    rw [hf]
    by_cases h0 : s.size < 1
    · have d1 : decide ((s.size : Int) < 1) = true := by simp; omega
      go_enter Try.func21, Try.ntmps21
      go_wp2
      go_ret
      exact ⟨rfl, rfl⟩
    · have d1 : decide ((s.size : Int) < 1) = false := by simp; omega
      have d2 : decide ((32 : Int) < s.size) = true := by simp; omega
      go_enter Try.func21, Try.ntmps21
      go_wp2
      go_ret
      exact ⟨rfl, rfl⟩
set_option maxHeartbeats 1000000 in
/-- the document's Name -/
theorem rname_any (s : ByteArray) (hs : s.size ≤ 9223372036854775807) (w : World) :
    Calls Try.prog 22 #[.string s] w fun e w' => e = .returned (.bool (nameB s)) ∧ w' = w := by
  by_cases h1 : 1 ≤ s.size ∧ s.size ≤ 32
  · obtain ⟨h1, h2⟩ := h1
    have d1 : decide ((s.size : Int) < 1) = false := by simp; omega
    have d2 : decide ((32 : Int) < s.size) = false := by simp; omega
    go_enter Try.func22, Try.ntmps22
    go_wp2
    go_loop [3] (fun i => ∃ k : Nat, k ≤ s.size ∧ i = .int .i64 k ∧ (s.data.toList.take k).all okB = true) (fun i => s.size - (intOf i).toNat)
    case atStart => exact ⟨0, Nat.zero_le _, rfl, rfl⟩
    case round =>
      obtain ⟨k, hk, rfl, hall⟩ := hrel
      go_wp2
      · have hk : k < s.size := by assumption
        have hb : (s[k].toNat : Int) < 33 ∨ 126 < (s[k].toNat : Int) := by assumption
        go_ret
        exact ⟨by rw [nameB_false hk (by simp [okB]; omega)]; rfl, rfl⟩
      · have hk : k < s.size := by assumption
        have hb : 33 ≤ (s[k].toNat : Int) ∧ (s[k].toNat : Int) ≤ 126 := by assumption
        go_round
        case rel => exact ⟨k + 1, by omega, by go_num, by rw [allTake_succ hk, hall]; simp [okB]; omega⟩
        case measure => simp [intOf]; omega
      · have hk : k < s.size := by assumption
        have hb : (s[k].toNat : Int) < 33 := by assumption
        go_ret
        exact ⟨by rw [nameB_false hk (by simp [okB]; omega)]; rfl, rfl⟩
      · have hk' : ¬ k < s.size := by assumption
        obtain rfl : k = s.size := by omega
        go_ret
        refine ⟨?_, rfl⟩
        rw [nameB_of h1 h2]
        rw [List.take_of_length_le (by simp)] at hall
        rw [hall]
        rfl
  · have hf : nameB s = false := by
      simp only [nameB, Bool.and_eq_false_iff, decide_eq_false_iff_not]
      omega
    rw [hf]
    by_cases h0 : s.size < 1
    · have d1 : decide ((s.size : Int) < 1) = true := by simp; omega
      go_enter Try.func22, Try.ntmps22
      go_wp2
      go_ret
      exact ⟨rfl, rfl⟩
    · have d1 : decide ((s.size : Int) < 1) = false := by simp; omega
      have d2 : decide ((32 : Int) < s.size) = true := by simp; omega
      go_enter Try.func22, Try.ntmps22
      go_wp2
      go_ret
      exact ⟨rfl, rfl⟩
end Go.Proofs.Ytllkpnlgemjgfaa
