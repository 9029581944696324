/- The document's hash: the padded message. -/
import Derived.Test.YtmhfgchckebnpaaDoorKJ
import Derived.Test.YtmhfgchckebnpaaDoorR4
import Derived.Laws.AppendOwnNone
namespace Go.Proofs.YtmhfgchckebnpaaDoor
open Go.RowKit Go.Shelf
set_option linter.unusedSimpArgs false
set_option linter.unusedVariables false

/-- n bytes as a list of cells. -/
def bl (m : Nat → BitVec 8) (n : Nat) : List Value := (List.range n).map (byt m)
theorem bl_length (m : Nat → BitVec 8) (n : Nat) : (bl m n).length = n := by simp [bl]
theorem bl_get (m : Nat → BitVec 8) (n i : Nat) (hi : i < n) : (bl m n)[i]? = some (byt m i) := by
  unfold bl; rw [List.getElem?_map, List.getElem?_range hi]; rfl
theorem bl_one (m : Nat → BitVec 8) (n : Nat) : ∀ u ∈ bl m n, u.oneCell' = true := fun u hu => by
  obtain ⟨j, _, rfl⟩ := List.mem_map.1 hu; rfl
theorem bl_succ (m : Nat → BitVec 8) (n : Nat) : bl m (n + 1) = bl m n ++ [byt m n] := by simp [bl, List.range_succ]
theorem bl_congr {m m' : Nat → BitVec 8} {n : Nat} (h : ∀ i, i < n → m i = m' i) : bl m n = bl m' n := by
  unfold bl; apply List.map_congr_left; intro i hi; simp only [byt]; rw [h i (by simpa using hi)]
/-- The message with the padding's first byte and noughts behind it. -/
def pms (msg : Nat → BitVec 8) (n i : Nat) : BitVec 8 := if i < n then msg i else if i = n then 1#8 else 0#8
theorem pms_start (msg : Nat → BitVec 8) (n : Nat) : bl msg n ++ [.int .u8 1] = bl (pms msg n) (n + 1) := by
  rw [bl_succ, bl_congr (m := msg) (m' := pms msg n) (fun i hi => by unfold pms; rw [if_pos hi])]
  congr 2
  simp only [byt, pms, if_neg (Nat.lt_irrefl n), if_true]
  rfl
theorem pms_next (msg : Nat → BitVec 8) (n k : Nat) (hk : n < k) : bl (pms msg n) k ++ [.int .u8 0] = bl (pms msg n) (k + 1) := by
  rw [bl_succ]
  congr 2
  simp only [byt, pms]
  rw [if_neg (by omega), if_neg (by omega)]
  rfl
/-- The whole padded message of T bytes. -/
def fm (msg : Nat → BitVec 8) (n T i : Nat) : BitVec 8 := if i = T - 1 then pms msg n i ||| 128#8 else pms msg n i
theorem fm_hash (msg : Nat → BitVec 8) (n : Nat) : outb (stAfter (fm msg n (136 * (n / 136 + 1))) (n / 136 + 1)) = digest msg n := by
  unfold digest
  have h1 : stAfter (fm msg n (136 * (n / 136 + 1))) (n / 136) = stAfter msg (n / 136) := stAfter_congr _ (fun i hi => by
    unfold fm pms; rw [if_neg (by omega), if_pos (by omega)])
  have h2 : absTo (stAfter msg (n / 136)) (fun i => fm msg n (136 * (n / 136 + 1)) (136 * (n / 136) + i)) 136 = absTo (stAfter msg (n / 136)) (lastB msg n) 136 := absTo_congr 136 (fun i hi => by
    unfold fm pms lastB lastTo
    by_cases e : i = 135
    · subst e
      rw [if_pos (by omega), if_pos rfl]
      by_cases e2 : 135 < n % 136
      · exact absurd e2 (by omega)
      · by_cases e3 : 135 = n % 136
        · rw [if_neg (by omega), if_pos (by omega), if_neg e2, if_pos e3]; rfl
        · rw [if_neg (by omega), if_neg (by omega), if_neg e2, if_neg e3]; rfl
    · rw [if_neg (by omega), if_neg e]
      by_cases e2 : i < n % 136
      · rw [if_pos (by omega), if_pos e2]
      · by_cases e3 : i = n % 136
        · rw [if_neg (by omega), if_pos (by omega), if_neg e2, if_pos e3]; rfl
        · rw [if_neg (by omega), if_neg (by omega), if_neg e2, if_neg e3]; rfl)
  show outb (permute RCs (absTo (stAfter (fm msg n (136 * (n / 136 + 1))) (n / 136)) (fun i => fm msg n (136 * (n / 136 + 1)) (136 * (n / 136) + i)) 136)) = _
  rw [h1, h2]
/-- A slice of its own that holds bytes. -/
def Own (w : World) (base : Nat) (v : Value) (m : Nat → BitVec 8) (n : Nat) : Prop := ∃ g cap, v = .slice (some ⟨g, 0, none⟩) n cap ∧ base ≤ g ∧ w.ownsRow base 5 1 v n (bl m n)
theorem own_of {w : World} {base n : Nat} {v : Value} {m : Nat → BitVec 8} (h : w.ownsRow base 5 1 v n (bl m n)) (hne : v ≠ .slice none 0 0) : Own w base v m n := by
  rcases h.2 with ⟨h1, _⟩ | ⟨g, cap, cur, hv, hb, r⟩
  · exact absurd h1 hne
  · exact ⟨g, cap, hv, hb, h⟩
theorem Own.cell {w : World} {base n g cap : Nat} {m : Nat → BitVec 8} (h : w.ownsRow base 5 1 (.slice (some ⟨g, 0, none⟩) n cap) n (bl m n)) (i : Nat) (hi : i < n) : w.cell? ⟨g, i, none⟩ = some (byt m i) := by
  rw [h.cellAt i (by omega), bl_get m n i hi]
end Go.Proofs.YtmhfgchckebnpaaDoor
