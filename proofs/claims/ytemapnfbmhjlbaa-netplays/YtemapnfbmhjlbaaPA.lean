/- net: NetTimes, what its timers keep. -/
import Derived.Test.YtemapnfbmhjlbaaOD
namespace Go.Proofs.Ytemapnfbmhjlbaa
open Go.RowKit Go.Maps Go.Joins
set_option linter.unusedSimpArgs false
set_option linter.unusedVariables false
/-- Numbers in a slice. -/
def IntsV (w : World) (v : Value) (ks : List Int) : Prop := ∃ a cap, v = .slice a ks.length cap ∧ ∀ j x, ks[j]? = some x → ∃ b o, a = some ⟨b, o, none⟩ ∧ w.cell? ⟨b, o + j, none⟩ = some (.int .i64 x)
theorem IntsV.below {w w' : World} {v : Value} {ks : List Int} (h : IntsV w v ks) (hb : Below w.heap.size w w') : IntsV w' v ks := by
  obtain ⟨a, cap, e, hc⟩ := h
  refine ⟨a, cap, e, fun j x hj => ?_⟩
  obtain ⟨b, o, e, hc⟩ := hc j x hj
  exact ⟨b, o, e, (hb.cell (p := ⟨b, o + j, none⟩) (cell_lt hc)).trans hc⟩
theorem St.bel {w w1 w' : World} {b : Nat} {n : Int} {N1 N : NS} {A : NA} {M : Int} (hb : Below w.heap.size w w1 ∧ b = w.heap.size ∧ N1 = newN b n) (h : St w1 w' b N1 N A M) : Below w.heap.size w w' :=
  NFr.outer hb.1 (fun g hg => by rw [hb.2.2]; exact newN_own (by rw [hb.2.1]; exact hg)) h.fr
theorem St.own0 {w w1 w' : World} {b : Nat} {n : Int} {N1 N : NS} {A : NA} {M : Int} (hb : Below w.heap.size w w1 ∧ b = w.heap.size ∧ N1 = newN b n) (h : St w1 w' b N1 N A M) (g : Nat) (hg : g < w.heap.size) : N.own g = 0 :=
  h.fr.own g (Nat.lt_of_lt_of_le hg hb.1.size) (by rw [hb.2.2]; exact newN_own (by rw [hb.2.1]; exact hg))
/-- Every timer that stands: its tag is the place of its delay, and it is not behind the clock. -/
def TmG (ds : List Int) (A : NA) : Prop := ∀ t ∈ A.tm, (∃ j : Nat, t.tg = j ∧ ds[j]? = some t.at_) ∧ A.clk ≤ t.at_
theorem mem_insT {l : List TM} {t x : TM} (h : x ∈ insT l t) : x ∈ l ∨ x = t := by
  unfold insT at h
  simp only [List.mem_append, List.mem_singleton] at h
  rcases h with (h | h) | h
  · exact Or.inl (List.mem_of_mem_take h)
  · exact Or.inr h
  · exact Or.inl (List.mem_of_mem_drop h)
theorem tm_set {ds : List Int} {A A' : NA} {k : Nat} {d c : Int} (h : TmG ds A) (h0 : A.clk = 0) (hd : ds[k]? = some d) (hR : nSet A 0 k d = (c, A')) :
    TmG ds A' ∧ A'.clk = 0 ∧ A'.tm.length = A.tm.length + (if c = 0 then 1 else 0) := by
  unfold nSet at hR
  repeat' split at hR
  all_goals simp only [Prod.mk.injEq] at hR; obtain ⟨rfl, rfl⟩ := hR
  · exact ⟨h, h0, by simp⟩
  · exact ⟨h, h0, by simp⟩
  · exact ⟨h, h0, by simp⟩
  · exact ⟨h, h0, by simp⟩
  · refine ⟨fun t ht => ?_, h0, ?_⟩
    · rcases mem_insT ht with ht | rfl
      · exact h t ht
      · refine ⟨⟨k, rfl, ?_⟩, ?_⟩
        · show ds[k]? = some (A.clk + d)
          rw [h0, Int.zero_add]
          exact hd
        · show A.clk ≤ A.clk + d
          omega
    · rw [ins_length]; simp
theorem tm_wait {ds : List Int} {A : NA} {most : Int} (h : TmG ds A) (hck : 0 ≤ A.clk ∧ A.clk ≤ 1099511627776) (hf : ∀ t ∈ A.tm, A.clk + max most 0 ≤ t.at_) : TmG ds (nWait A most) ∧ A.clk ≤ (nWait A most).clk :=
  ⟨fun t ht => ⟨(h t ht).1, by have := hf t ht; show A.clk + min (max most 0) (1099511627776 - A.clk) ≤ t.at_; omega⟩, by show A.clk ≤ A.clk + min (max most 0) (1099511627776 - A.clk); omega⟩
theorem tm_tick {ds : List Int} {A : NA} {M most : Int} (ho : AOk A M) (h : TmG ds A) :
    TmG ds (nTick A most).2 ∧ A.clk ≤ (nTick A most).2.clk ∧ (nTick A most).1.length + (nTick A most).2.tm.length = A.tm.length ∧ ∀ t ∈ (nTick A most).1, (∃ j : Nat, t.tg = j ∧ ds[j]? = some t.at_) ∧ t.at_ = (nTick A most).2.clk := by
  rcases he : A.tm with _ | ⟨t, r⟩
  · have e : nTick A most = ([], nWait A most) := by unfold nTick; rw [he]
    obtain ⟨a, b⟩ := tm_wait (most := most) h ho.ck (fun t ht => by rw [he] at ht; cases ht)
    rw [e]
    exact ⟨a, b, by simp [nWait, he], fun t ht => by cases ht⟩
  · have hfirst : ∀ x ∈ A.tm, t.at_ ≤ x.at_ := fun x hx => by
      obtain ⟨i, hi, rfl⟩ := List.getElem_of_mem hx
      rcases Nat.eq_zero_or_pos i with rfl | hp
      · simp [he]
      · exact ho.asc 0 i t _ (by rw [he]; rfl) (List.getElem?_eq_getElem hi) hp
    have hclk : A.clk ≤ t.at_ := (h t (by rw [he]; exact List.mem_cons_self)).2
    by_cases hf : max most 0 < t.at_ - A.clk
    · have e : nTick A most = ([], nWait A most) := by
        unfold nTick
        rw [he]
        exact if_pos hf
      obtain ⟨a, b⟩ := tm_wait (most := most) h ho.ck (fun x hx => by have := hfirst x hx; omega)
      rw [e]
      exact ⟨a, b, by simp [nWait, he], fun t ht => by cases ht⟩
    · have e : nTick A most = (A.tm.take (many A.tm), { A with clk := max t.at_ A.clk, tm := A.tm.drop (many A.tm) }) := by
        unfold nTick
        rw [he]
        exact if_neg hf
      have hm : max t.at_ A.clk = t.at_ := by omega
      rw [e, hm]
      refine ⟨fun x hx => ⟨(h x (List.mem_of_mem_drop hx)).1, hfirst x (List.mem_of_mem_drop hx)⟩, hclk, ?_, fun x hx => ⟨(h x (List.mem_of_mem_take hx)).1, ?_⟩⟩
      · rw [← List.length_append, List.take_append_drop, he]
      · obtain ⟨i, hi, rfl⟩ := List.getElem_of_mem hx
        rw [List.length_take] at hi
        rw [List.getElem_take]
        exact (many_at (List.getElem?_eq_getElem (by omega)) (by rw [he]; rfl)).1 (by omega)
end Go.Proofs.Ytemapnfbmhjlbaa
