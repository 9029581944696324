/- net: NetFull: 4096 packets and 4096 timers are all there is room for. -/
import Derived.Test.YtemapnfbmhjlbaaOD
namespace Go.Proofs.Ytemapnfbmhjlbaa
open Go.RowKit Go.Maps Go.Joins
set_option linter.unusedSimpArgs false
set_option linter.unusedVariables false
/-- j packets, k timers. -/
def fA (n : Int) (j k : Nat) : NA := ⟨n, j, 0, (List.range j).map fun i : Nat => ((i : Int), 0, 0, []), (List.range k).map fun i : Nat => ⟨0, i, i⟩⟩
theorem isB0 {n : Int} (h : 1 ≤ n) : isB n 0 = true := by
  unfold isB
  rw [decide_eq_true (Int.le_refl 0), decide_eq_true (show (0 : Int) < n by omega)]
  rfl
theorem fA_send {n : Int} (hn : 1 ≤ n) {j k : Nat} (hj : j < 4096) : nSend (fA n j k) 0 0 [] = (0, fA n (j + 1) k) := by
  unfold nSend
  have hb : isB (fA n j k).nodes 0 = true := isB0 hn
  have hl : (fA n j k).fl.length = j := by simp [fA]
  rw [if_neg (by rw [hb]; simp), if_neg (by rw [hb]; simp), if_neg (by simp), if_neg (by rw [hl]; omega)]
  simp only [nPut, fA, List.range_succ, List.map_append, List.map_cons, List.map_nil]
  rfl
theorem slot_all {l : List TM} {T : Int} (h : ∀ t ∈ l, t.at_ ≤ T) : slot l T = l.length := by
  unfold slot
  rw [List.countP_eq_length]
  intro t ht
  simpa using h t ht
theorem fA_set {n : Int} (hn : 1 ≤ n) {j k : Nat} (hk : k < 4096) : nSet (fA n j k) 0 k k = (0, fA n j (k + 1)) := by
  unfold nSet
  have hb : isB (fA n j k).nodes 0 = true := isB0 hn
  have hl : (fA n j k).tm.length = k := by simp [fA]
  have hc : (fA n j k).clk = 0 := rfl
  rw [if_neg (by rw [hb]; simp), if_neg (by omega), if_neg (by rw [hc]; omega), if_neg (by rw [hl]; omega)]
  have hs : slot (fA n j k).tm ((0 : Int) + k) = k := by
    rw [slot_all, hl]
    intro t ht
    simp only [fA, List.mem_map, List.mem_range] at ht
    obtain ⟨i, hi, rfl⟩ := ht
    show (i : Int) ≤ 0 + k
    omega
  unfold insT
  rw [hc, hs, List.take_of_length_le (by rw [hl]; exact Nat.le_refl _), List.drop_of_length_le (by rw [hl]; exact Nat.le_refl _)]
  simp only [fA, List.range_succ, List.map_append, List.map_cons, List.map_nil, List.append_nil, Int.zero_add]
theorem fA_full_send {n : Int} (hn : 1 ≤ n) : nSend (fA n 4096 4096) 0 0 [] = (3, fA n 4096 4096) := by
  unfold nSend
  have hb : isB (fA n 4096 4096).nodes 0 = true := isB0 hn
  have hl : (fA n 4096 4096).fl.length = 4096 := by simp [fA]
  rw [if_neg (by rw [hb]; simp), if_neg (by rw [hb]; simp), if_neg (by simp), if_pos (by rw [hl]; omega)]
theorem fA_full_set {n : Int} (hn : 1 ≤ n) : nSet (fA n 4096 4096) 0 0 0 = (3, fA n 4096 4096) := by
  unfold nSet
  have hb : isB (fA n 4096 4096).nodes 0 = true := isB0 hn
  have hl : (fA n 4096 4096).tm.length = 4096 := by simp [fA]
  have hc : (fA n 4096 4096).clk = 0 := rfl
  rw [if_neg (by rw [hb]; simp), if_neg (by omega), if_neg (by rw [hc]; omega), if_pos (by rw [hl]; omega)]
theorem fnd {l : List PA} {id : Int} (hall : ∀ q ∈ l, q.2 = (0, 0, [])) (hm : (id, 0, 0, []) ∈ l) : l.find? (fun q => q.1 == id) = some (id, 0, 0, []) := by
  cases h : l.find? (fun q => q.1 == id) with
  | none => exact absurd (List.find?_eq_none.1 h _ hm) (by simp)
  | some x =>
    have h1 := List.mem_of_find?_eq_some h
    have h2 := List.find?_some h
    have h3 := hall x h1
    obtain ⟨a, b⟩ := x
    simp only [beq_iff_eq] at h2
    simp only at h3
    rw [h2, h3]
theorem fA_mem {n : Int} {j k : Nat} {x : Int} (h0 : 0 ≤ x) (h1 : x < j) : (x, 0, 0, []) ∈ (fA n j k).fl := by
  simp only [fA, List.mem_map, List.mem_range]
  exact ⟨x.toNat, by omega, by rw [Int.toNat_of_nonneg h0]⟩
theorem fA_all {n : Int} {j k : Nat} : ∀ q ∈ (fA n j k).fl, q.2 = (0, 0, []) := fun q hq => by
  simp only [fA, List.mem_map, List.mem_range] at hq
  obtain ⟨i, hi, rfl⟩ := hq
  rfl
theorem fA_full_copy (n : Int) : nCopy (fA n 4096 4096) 3 = (3, fA n 4096 4096) := by
  have hf := fnd (fA_all (n := n) (j := 4096) (k := 4096)) (fA_mem (x := 3) (by decide) (by decide))
  have hl : (fA n 4096 4096).fl.length = 4096 := by simp [fA]
  unfold nCopy
  rw [hf]
  exact if_pos (by rw [hl]; omega)
theorem fA_take_no {n x : Int} (h : x < 0 ∨ 4096 ≤ x) : nTake (fA n 4096 4096) x = (33, (0, 0, 0, []), fA n 4096 4096) := by
  unfold nTake
  have : (fA n 4096 4096).fl.find? (fun q => q.1 == x) = none := by
    rw [List.find?_eq_none]
    intro q hq
    simp only [fA, List.mem_map, List.mem_range] at hq
    obtain ⟨i, hi, rfl⟩ := hq
    simp only [beq_iff_eq]
    omega
  rw [this]
theorem fA_take {n x : Int} (h0 : 0 ≤ x) (h1 : x < 4096) : ∃ B, nTake (fA n 4096 4096) x = (0, (x, 0, 0, []), B) ∧ (nCopy B ((x + 1) % 4096)).1 = 0 := by
  have hm := fA_mem (n := n) (j := 4096) (k := 4096) (x := x) h0 h1
  refine ⟨{ fA n 4096 4096 with fl := (fA n 4096 4096).fl.eraseP fun q => q.1 == x }, ?_, ?_⟩
  · unfold nTake
    rw [fnd fA_all hm]
  · have hm2 := fA_mem (n := n) (j := 4096) (k := 4096) (x := (x + 1) % 4096) (by omega) (by omega)
    have hne : (x + 1) % 4096 ≠ x := by omega
    have hin : ((x + 1) % 4096, 0, 0, []) ∈ (fA n 4096 4096).fl.eraseP (fun q => q.1 == x) := (List.mem_eraseP_of_neg (by simpa using hne)).2 hm2
    have hlen : ((fA n 4096 4096).fl.eraseP (fun q => q.1 == x)).length = 4095 := by
      rw [List.length_eraseP_of_mem hm (by simp)]
      simp [fA]
    unfold nCopy
    rw [fnd (fun q hq => fA_all q (List.mem_of_mem_eraseP hq)) hin]
    simp only [hlen]
    rfl
end Go.Proofs.Ytemapnfbmhjlbaa
