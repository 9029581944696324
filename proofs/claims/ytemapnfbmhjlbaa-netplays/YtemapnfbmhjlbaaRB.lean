/- net: the reference's New, node, at. -/
import Derived.Test.YtemapnfbmhjlbaaRA
namespace Go.Proofs.Ytemapnfbmhjlbaa
open Go.RowKit Go.Maps Go.Joins
set_option linter.unusedSimpArgs false
set_option linter.unusedVariables false
theorem rNew_no {w : World} (n : Int) (h : n < 1 ∨ 16 < n) : Calls Try.prog 9 #[.int .i64 n] w fun e w' => e = .returned (.pointer none) ∧ w' = w := by
  rcases (show n < 1 ∨ (¬ n < 1 ∧ 16 < n) by omega) with h1 | ⟨h1, h2⟩
  all_goals
    clear h
    go_enter Try.func9, Try.ntmps9
    go_wp2
    go_ret
    exact ⟨rfl, rfl⟩
theorem newR_is {w w' : World} {n : Int} (hb : Below w.heap.size w w') (hw : w'.heap[w.heap.size]? = some (.cells #[.int .i64 n, .int .i64 0, .int .i64 0, .slice none 0 0, .slice none 0 0] 54)) : RIs w' w.heap.size (newR w.heap.size n) := by
  have hlt := heap_lt hw
  exact ⟨hw, if_pos rfl, ⟨rfl, Or.inl ⟨rfl, rfl⟩⟩, fun g hg => (by cases hg), ⟨rfl, Or.inl ⟨rfl, rfl⟩⟩, fun g hg => (by cases hg), fun p hp => (by cases hp), fun p hp => (by cases hp), fun g hg => if_neg (by omega)⟩
theorem rNew_ok {w : World} (n : Int) (h1 : 1 ≤ n) (h2 : n ≤ 16) : Calls Try.prog 9 #[.int .i64 n] w fun e w' => e = .returned (.pointer (some ⟨w.heap.size, 0, none⟩)) ∧ RIs w' w.heap.size (newR w.heap.size n) ∧ Below w.heap.size w w' := by
  have d1 : ¬ n < 1 := by omega
  have d2 : ¬ 16 < n := by omega
  clear h1 h2
  go_enter Try.func9, Try.ntmps9
  go_wp2
  go_ret
  have hb : Below w.heap.size w (w.alloc (.cells #[.int .i64 n, .int .i64 0, .int .i64 0, .slice none 0 0, .slice none 0 0] 54)) := (Below.refl _ w).alloc (Nat.le_refl _) _
  exact ⟨rfl, newR_is hb (heap_alloc_new _ _), hb⟩
theorem node_any {w : World} {b : Nat} {N : RS} (h : RIs w b N) (x : Int) : Calls Try.prog 31 #[.pointer (some ⟨b, 0, none⟩), .int .i64 x] w fun e w' => e = .returned (.bool (isB N.nodes x)) ∧ w' = w := by
  have c0 := h.cells.1
  have e : isB N.nodes x = (decide (0 ≤ x) && decide (x < N.nodes)) := rfl
  rw [e]
  by_cases h0 : 0 ≤ x
  · go_enter Try.func31, Try.ntmps31
    go_wp2
    go_ret
    exact ⟨by simp [h0], rfl⟩
  · go_enter Try.func31, Try.ntmps31
    go_wp2
    go_ret
    have hd : decide (0 ≤ x) = false := by simpa using h0
    exact ⟨by rw [hd]; rfl, rfl⟩
/-- at: the place of the first packet of this number, or -1. -/
def atR (l : List PK) (id : Int) : Int := match l.findIdx? (fun p => p.id == id) with
  | some i => i
  | none => -1
set_option maxRecDepth 100000 in
theorem at_any {w : World} {b : Nat} {N : RS} (h : RIs w b N) (hl : N.fl.length ≤ 4096) (id : Int) : Calls Try.prog 35 #[.pointer (some ⟨b, 0, none⟩), .int .i64 id] w fun e w' => e = .returned (.int .i64 (atR N.fl id)) ∧ w' = w := by
  have c3 := h.cells.2.2.2.1
  obtain ⟨fa, fc, hfv⟩ := row_form h.fl
  obtain ⟨n, hn⟩ : ∃ n, n = N.fl.length := ⟨_, rfl⟩
  rw [hfv, ← hn] at c3
  have hrow := h.fl
  rw [hfv] at hrow
  have HV : Hid (∀ (i : Nat) (p : PK), N.fl[i]? = some p → ∃ g o, fa = some ⟨g, o, none⟩ ∧ w.cell? ⟨g, o + i * 4, none⟩ = some (.int .i64 p.id)) := by
    intro i p hp
    rcases hrow.2 with ⟨e, h0⟩ | ⟨g, cap, cur, e, _⟩
    · rw [List.eq_nil_of_length_eq_zero h0] at hp; simp at hp
    · injection e with e1
      have hc := hrow.cells (g := g) (by rw [e1]; rfl) (i * 4 + 0) (.int .i64 p.id) (by rw [pkL_at N.fl i p hp 0 (by decide)]; rfl)
      rw [Addr.add_lit] at hc
      exact ⟨g, 0, e1, by simpa using hc⟩
  have HN : Hid (n = N.fl.length) := hn
  have hn9 : n ≤ 4096 := by omega
  clear h hl hfv hn hrow
  go_enter Try.func35, Try.ntmps35
  go_wp2_with fail
  go_loopw [5] (fun i wr => ∃ k : Nat, k ≤ n ∧ i = .int .i64 k ∧ Hid (∀ (j : Nat) (p : PK), N.fl[j]? = some p → j < k → p.id ≠ id) ∧ wr = w) (fun i _ => n - (intOf i).toNat)
  case atStart => exact ⟨0, Nat.zero_le _, rfl, fun j p _ hj => absurd hj (Nat.not_lt_zero _), rfl⟩
  case round =>
    obtain ⟨k, hk, rfl, HJ, rfl⟩ := hrel
    by_cases hlt : k < n
    · obtain ⟨p, hp⟩ : ∃ p, N.fl[k]? = some p := ⟨_, List.getElem?_eq_getElem (by have := HN.out; omega)⟩
      obtain ⟨g, o, rfl, ci⟩ := HV.out k p hp
      have hki : (k : Int) < n := by omega
      by_cases he : p.id = id
      · have hR : atR N.fl id = k := by
          unfold atR
          have : N.fl.findIdx? (fun p => p.id == id) = some k := by
            rw [List.findIdx?_eq_some_iff_getElem]
            obtain ⟨hk1, hk2⟩ := List.getElem?_eq_some_iff.1 hp
            refine ⟨hk1, by rw [hk2]; simpa using he, fun j hj => ?_⟩
            have := HJ.out j _ (List.getElem?_eq_getElem (by omega)) hj
            simpa using this
          rw [this]
        have HR : Hid (atR N.fl id = k) := hR
        clear hp hR
        subst he
        go_wp2
        go_ret
        exact ⟨by rw [HR.out]; rfl, rfl⟩
      · have HR : Hid (∀ (j : Nat) (p : PK), N.fl[j]? = some p → j < k + 1 → p.id ≠ id) := fun j q hq hj => by
          rcases Nat.lt_or_ge j k with h1 | h1
          · exact HJ.out j q hq h1
          · obtain rfl : j = k := by omega
            rw [hp] at hq
            injection hq with hq
            rw [← hq]
            exact he
        clear hp
        go_wp2
        go_roundw
        case rel => exact ⟨k + 1, by omega, by go_num, HR.out, trivial⟩
        case measure => simp [intOf]; omega
    · obtain rfl : n = k := by omega
      have hR : atR N.fl id = -1 := by
        unfold atR
        have : N.fl.findIdx? (fun p => p.id == id) = none := by
          rw [List.findIdx?_eq_none_iff]
          intro p hp
          obtain ⟨j, hj, rfl⟩ := List.getElem_of_mem hp
          have := HJ.out j _ (List.getElem?_eq_getElem hj) (by rw [HN.out]; exact hj)
          simpa using this
        rw [this]
      have HR : Hid (atR N.fl id = -1) := hR
      clear hlt hR
      go_wp2
      go_ret
      exact ⟨by rw [HR.out]; rfl, rfl⟩
end Go.Proofs.Ytemapnfbmhjlbaa
