/- net: the closure of Clear, slices.IndexFunc. -/
import Derived.Test.YtemapnfbmhjlbaaOA
namespace Go.Proofs.Ytemapnfbmhjlbaa
open Go.RowKit Go.Maps Go.Joins
set_option linter.unusedSimpArgs false
set_option linter.unusedVariables false
set_option maxRecDepth 100000 in
/-- Clear's closure. -/
theorem clear1_any {w : World} {xb : Nat} {x nd tg at_ : Int} (cx : w.cell? ⟨xb, 0, none⟩ = some (.int .i64 x)) :
    Calls Try.prog 42 #[.agg #[.int .i64 nd, .int .i64 tg, .int .i64 at_], .pointer (some ⟨xb, 0, none⟩)] w fun e w' => e = .returned (.bool (nd == x)) ∧ Below w.heap.size w w' := by
  have hx := cell_lt cx
  have hb : Below w.heap.size w (w.alloc (.cells #[.int .i64 nd, .int .i64 tg, .int .i64 at_] 63)) := (Below.refl _ w).alloc (Nat.le_refl _) _
  go_enter Try.func42, Try.ntmps42
  go_wp2
  go_ret
  exact ⟨rfl, hb⟩
/-- The first place of a timer of this node, or -1. -/
def firstT (l : List TM) (x : Int) : Int := match l.findIdx? (fun t => t.nd == x) with
  | some i => i
  | none => -1
theorem firstT_no {l : List TM} {x : Int} (h : ∀ t ∈ l, t.nd ≠ x) : firstT l x = -1 := by
  unfold firstT
  have : l.findIdx? (fun t => t.nd == x) = none := by
    rw [List.findIdx?_eq_none_iff]
    intro p hp
    simpa using h p hp
  rw [this]
theorem firstT_yes {l : List TM} {x : Int} {i : Nat} {t : TM} (hi : l[i]? = some t) (he : t.nd = x) (h : ∀ (j : Nat) (s : TM), l[j]? = some s → j < i → s.nd ≠ x) : firstT l x = i := by
  unfold firstT
  have : l.findIdx? (fun t => t.nd == x) = some i := by
    rw [List.findIdx?_eq_some_iff_getElem]
    obtain ⟨h1, h2⟩ := List.getElem?_eq_some_iff.1 hi
    refine ⟨h1, by rw [h2]; simpa using he, fun j hj => ?_⟩
    have := h j _ (List.getElem?_eq_getElem (by omega)) hj
    simpa using this
  rw [this]
set_option maxRecDepth 100000 in
set_option maxHeartbeats 8000000 in
theorem index_any {w : World} {xb n c : Nat} {x : Int} {a : Option Addr} {l : List TM} (hn : n = l.length) (hl : l.length ≤ 1000000) (hv : TmV w a l) (cx : w.cell? ⟨xb, 0, none⟩ = some (.int .i64 x)) :
    Calls Try.prog 56 #[.slice a n c, .func (.func 42) #[] #[.pointer (some ⟨xb, 0, none⟩)]] w fun e w' => e = .returned (.int .i64 (firstT l x)) ∧ Below w.heap.size w w' := by
  have HS : Hid (n = l.length ∧ TmV w a l ∧ w.cell? ⟨xb, 0, none⟩ = some (.int .i64 x)) := ⟨hn, hv, cx⟩
  have hn9 : n ≤ 1000000 := by omega
  clear hn hl hv cx
  go_enter Try.func56, Try.ntmps56
  go_wp2_with fail
  go_loopw [8] (fun i wr => ∃ k : Nat, k ≤ n ∧ i = .int .i64 k ∧ Hid (Below w.heap.size w wr ∧ ∀ (j : Nat) (t : TM), l[j]? = some t → j < k → t.nd ≠ x)) (fun i _ => n - (intOf i).toNat)
  case atStart => exact ⟨0, Nat.zero_le _, rfl, Below.refl _ _, fun j t _ hj => absurd hj (Nat.not_lt_zero _)⟩
  case round =>
    obtain ⟨k, hk, rfl, HJ⟩ := hrel
    by_cases hlt : k < n
    · obtain ⟨t, ht⟩ : ∃ t, l[k]? = some t := ⟨_, List.getElem?_eq_getElem (by have := HS.out.1; omega)⟩
      obtain ⟨g, o, rfl, k0, k1, k2⟩ := (HS.out.2.1.below HJ.out.1).at_ k t ht
      have hki : (k : Int) < n := by omega
      have HT : Hid (l[k]? = some t ∧ k < n) := ⟨ht, hlt⟩
      obtain ⟨nd, tg, at_⟩ := t
      simp only at k0 k1 k2
      clear ht hlt
      by_cases he : nd = x
      · have hb9 : (nd == x) = true := by simpa using he
        have HE : Hid (nd = x) := he
        clear he
        go_wp2_with (go_at_call 42; refine Calls.mono (clear1_any ((HJ.out.1.cell (p := ⟨xb, 0, none⟩) (cell_lt HS.out.2.2)).trans HS.out.2.2)) ?_; rintro e w2 ⟨rfl, hb⟩; have H2 : Hid (Below w.heap.size w w2) := HJ.out.1.trans (hb.mono HJ.out.1.size); clear hb; rw [hb9])
        go_ret
        exact ⟨by rw [firstT_yes HT.out.1 HE.out HJ.out.2]; rfl, H2.out⟩
      · have hb9 : (nd == x) = false := by simpa using he
        have HN : Hid (∀ (j : Nat) (t : TM), l[j]? = some t → j < k + 1 → t.nd ≠ x) := fun j s hs hj => by
          rcases Nat.lt_or_ge j k with h | h
          · exact HJ.out.2 j s hs h
          · obtain rfl : j = k := by omega
            rw [HT.out.1] at hs
            injection hs with hs
            rw [← hs]
            exact he
        clear he
        go_wp2_with (go_at_call 42; refine Calls.mono (clear1_any ((HJ.out.1.cell (p := ⟨xb, 0, none⟩) (cell_lt HS.out.2.2)).trans HS.out.2.2)) ?_; rintro e w2 ⟨rfl, hb⟩; have H2 : Hid (Below w.heap.size w w2) := HJ.out.1.trans (hb.mono HJ.out.1.size); clear hb; rw [hb9])
        go_roundw
        case rel => exact ⟨k + 1, HT.out.2, by go_num, H2.out, HN.out⟩
        case measure => have := HT.out.2; simp [intOf]; omega
    · obtain rfl : n = k := by omega
      clear hlt
      go_wp2_with fail
      go_ret
      exact ⟨by rw [firstT_no (fun t ht => by obtain ⟨j, hj, rfl⟩ := List.getElem_of_mem ht; exact HJ.out.2 j _ (List.getElem?_eq_getElem hj) (by have := HS.out.1; omega))]; rfl, HJ.out.1⟩
end Go.Proofs.Ytemapnfbmhjlbaa
