/- net: NetOnce: what is on its way. -/
import Derived.Test.YtemapnfbmhjlbaaPA
namespace Go.Proofs.Ytemapnfbmhjlbaa
open Go.RowKit Go.Maps Go.Joins
set_option linter.unusedSimpArgs false
set_option linter.unusedVariables false
/-- The packets 0 to k - 1, all alike. -/
def oL (bs : List Int) (k : Nat) : List PA := (List.range k).map fun i : Nat => ((i : Int), 1, 0, bs)
def oA (bs : List Int) (nx k : Nat) : NA := ⟨2, nx, 0, oL bs k, []⟩
theorem oL_length (bs : List Int) (k : Nat) : (oL bs k).length = k := by simp [oL]
theorem oL_succ (bs : List Int) (k : Nat) : oL bs (k + 1) = oL bs k ++ [((k : Int), 1, 0, bs)] := by simp [oL, List.range_succ]
theorem oL_at (bs : List Int) (k i : Nat) (h : i < k) : (oL bs k)[i]? = some ((i : Int), 1, 0, bs) := by
  simp [oL, List.getElem?_map, List.getElem?_range h]
theorem oL_mem {bs : List Int} {k : Nat} {q : PA} (h : q ∈ oL bs k) : ∃ i : Nat, i < k ∧ q = ((i : Int), 1, 0, bs) := by
  simp only [oL, List.mem_map, List.mem_range] at h
  obtain ⟨i, hi, rfl⟩ := h
  exact ⟨i, hi, rfl⟩
theorem oL_find {bs : List Int} {k i : Nat} (h : i < k) : (oL bs k).find? (fun q => q.1 == (i : Int)) = some ((i : Int), 1, 0, bs) := by
  cases hf : (oL bs k).find? (fun q => q.1 == (i : Int)) with
  | none => exact absurd (List.find?_eq_none.1 hf _ (List.mem_of_getElem? (oL_at bs k i h))) (by simp)
  | some x =>
    obtain ⟨j, hj, rfl⟩ := oL_mem (List.mem_of_find?_eq_some hf)
    have h2 := List.find?_some hf
    simp only [beq_iff_eq] at h2
    rw [h2]
theorem oA_send {bs : List Int} (h : bs.length ≤ 65536) : nSend (A0 2) 1 0 bs = (0, oA bs 1 1) := by
  unfold nSend
  rw [if_neg (by decide), if_neg (by decide), if_neg (by omega), if_neg (by decide)]
  rfl
theorem oA_copy {bs : List Int} {nx k i : Nat} (h : i < k) (hk : k < 4096) (hn : nx = k) : nCopy (oA bs nx k) i = (0, oA bs (nx + 1) (k + 1)) := by
  unfold nCopy
  have hl : (oA bs nx k).fl.length = k := oL_length bs k
  rw [show (oA bs nx k).fl = oL bs k from rfl, oL_find h]
  simp only [oL_length]
  rw [if_neg (by omega)]
  subst hn
  unfold nPut oA
  rw [oL_succ]
  rfl
theorem oA_take {bs : List Int} {nx k : Nat} : nTake (oA bs nx (k + 1)) k = (0, ((k : Int), 1, 0, bs), oA bs nx k) := by
  unfold nTake
  rw [show (oA bs nx (k + 1)).fl = oL bs (k + 1) from rfl, oL_find (Nat.lt_succ_self k)]
  simp only
  have he : (oL bs (k + 1)).eraseP (fun q => q.1 == (k : Int)) = oL bs k := by
    rw [oL_succ, List.eraseP_append_right]
    · simp [List.eraseP_cons]
    · intro a ha
      obtain ⟨j, hj, rfl⟩ := oL_mem ha
      simp only [beq_iff_eq]
      omega
  rw [he]
  rfl
theorem oA_gone {bs : List Int} {nx : Nat} : nTake (oA bs nx 0) 0 = (33, (0, 0, 0, []), oA bs nx 0) := rfl
theorem pk_at {l : List PK} {bs : List Int} {k i : Nat} (he : l.map pkA = oL bs k) (hi : i < k) : ∃ p, l[i]? = some p ∧ p.id = i := by
  have h1 := oL_at bs k i hi
  rw [← he, List.getElem?_map] at h1
  cases h : l[i]? with
  | none => rw [h] at h1; cases h1
  | some p =>
    rw [h] at h1
    injection h1 with h1
    exact ⟨p, rfl, congrArg Prod.fst h1⟩
theorem pk_len {l : List PK} {bs : List Int} {k : Nat} (he : l.map pkA = oL bs k) : l.length = k := by
  have := congrArg List.length he
  rwa [List.length_map, oL_length] at this
theorem ownsRow_zero {w : World} {base n size : Nat} {e : TypeId} {v : Value} {xs : List Value} (h : w.ownsRow base e size v n xs) : w.ownsRow 0 e size v n xs := by
  refine ⟨h.1, ?_⟩
  rcases h.2 with h | ⟨g, cap, cur, e, _, r⟩
  · exact Or.inl h
  · exact Or.inr ⟨g, cap, cur, e, Nat.zero_le _, r⟩
end Go.Proofs.Ytemapnfbmhjlbaa
