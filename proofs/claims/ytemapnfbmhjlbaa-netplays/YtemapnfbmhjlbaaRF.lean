/- net: the reference's Set. -/
import Derived.Test.YtemapnfbmhjlbaaRE
import Derived.Test.YtemapnfbmhjlbaaOB
import Derived.Laws.AppendOwnNone
import Derived.Deep.RegionHeld3
namespace Go.Proofs.Ytemapnfbmhjlbaa
open Go.RowKit Go.Maps Go.Joins
set_option linter.unusedSimpArgs false
set_option linter.unusedVariables false
/-- append, whatever the source. -/
theorem El.wp_appendG {t e : TypeId} {k by_ : Nat} {z : Value} (E : El t e k by_ z) {w : World} {o : Oper} {a : Act} {K : Act → World → Prop} {Q : Exit → Act → World → Prop} (s x : Operand)
    (ho : o.op = .call { callee := .builtin .append, args := #[s, x], argTypes := #[t, t] }) (base : Nat)
    (v : Value) (n : Nat) (X : List Value) (hs : a.eval s = v) (hown : w.ownsRow base e k v n X) (xa : Option Addr) (m c : Nat) (hx : a.eval x = .slice xa m c) (hnil : xa = none → m = 0 ∧ c = 0) (news : List Value) (hl : news.length = m * k)
    (hnews : ∀ j u, news[j]? = some u → ∃ g o, xa = some ⟨g, o, none⟩ ∧ w.cell? ⟨g, o + j, none⟩ = some u) (h1 : ∀ u ∈ news, u.oneCell' = true) (hb : n + m ≤ 1000000) (hbase : base ≤ w.heap.size)
    (h : ∀ v' w', w'.ownsRow base e k v' (n + m) (X ++ news) → w.grownBy w' v.ownBlock → (v'.ownBlock = v.ownBlock ∨ v'.ownBlock = some w.heap.size) → K (a.put o.dst v') w') : Oper.wp Try.prog o a w K Q := by
  cases xa with
  | none =>
    obtain ⟨rfl, rfl⟩ := hnil rfl
    obtain ⟨i0, hi, _⟩ := E.i
    have hrun := run_append_owned_none (P := Try.prog) (w := w) base t o.type e i0 k E.u hi v n X hown
    have hnl : news = [] := List.eq_nil_of_length_eq_zero (by rw [hl]; omega)
    have h9 := h v w (by rw [hnl, List.append_nil]; exact hown) (World.grownBy.refl _ _) (Or.inl rfl)
    unfold Oper.wp
    simp [execOp, ho, resolve, invoke, builtin, hs, hx, hrun, Result.andThen]
    exact h9
  | some ad =>
    exact E.wp_append s x ho base v n X hs hown ad m c hx news hl (fun j u hu => by
      obtain ⟨g, oo, e, hc⟩ := hnews j u hu
      injection e with e
      subst e
      rw [Addr.add_lit]
      exact hc) h1 hb hbase h
theorem slot_eq {l : List TM} {T : Int} {k : Nat} (hs : Asc l) (hk : k ≤ l.length) (h1 : ∀ (j : Nat) (t : TM), l[j]? = some t → k ≤ j → T < t.at_) (h2 : ∀ t, l[k - 1]? = some t → 0 < k → t.at_ ≤ T) : slot l T = k := by
  unfold slot
  rw [← List.take_append_drop k l, List.countP_append]
  have a1 : (l.take k).countP (fun t => decide (t.at_ ≤ T)) = k := by
    have hl : (l.take k).length = k := by rw [List.length_take]; omega
    rw [List.countP_eq_length.2, hl]
    intro t ht
    obtain ⟨j, hj, rfl⟩ := List.getElem_of_mem ht
    rw [hl] at hj
    rw [List.getElem_take]
    have h3 := h2 _ (List.getElem?_eq_getElem (by omega)) (by omega)
    rcases Nat.lt_or_ge j (k - 1) with h4 | h4
    · have := hs j (k - 1) _ _ (List.getElem?_eq_getElem (by omega)) (List.getElem?_eq_getElem (by omega)) h4
      simp only [decide_eq_true_eq]
      omega
    · have e : j = k - 1 := by omega
      subst e
      simpa using h3
  have a2 : (l.drop k).countP (fun t => decide (t.at_ ≤ T)) = 0 := by
    rw [List.countP_eq_zero]
    intro t ht
    obtain ⟨j, hj, rfl⟩ := List.getElem_of_mem ht
    rw [List.length_drop] at hj
    rw [List.getElem_drop]
    have := h1 (k + j) _ (List.getElem?_eq_getElem (by omega)) (by omega)
    simp only [decide_eq_true_eq]
    omega
  rw [a1, a2, Nat.add_zero]
/-- Whose cells the timers lie in. -/
theorem RIs.tmv {w : World} {b : Nat} {N : RS} (h : RIs w b N) : ∃ ta tc, N.tv = .slice ta N.tm.length tc ∧ (ta = none → N.tm.length = 0 ∧ tc = 0) ∧ N.tm.length ≤ tc ∧ (∀ a, ta = some a → ∃ g, a = ⟨g, 0, none⟩) ∧ (∀ j u, (tmL N.tm)[j]? = some u → ∃ g o, ta = some ⟨g, o, none⟩ ∧ w.cell? ⟨g, o + j, none⟩ = some u) := by
  obtain ⟨ta, tc, htv⟩ := row_form h.tm
  have hrow := h.tm
  rw [htv] at hrow
  refine ⟨ta, tc, htv, fun e => ?_, ?_, fun a e => ?_, fun j u hu => ?_⟩
  · rcases hrow.2 with ⟨e1, h0⟩ | ⟨g, cap, cur, e1, _⟩
    · injection e1 with _ _ e3
      exact ⟨h0, e3⟩
    · injection e1 with e1
      rw [e] at e1
      cases e1
  · rcases hrow.2 with ⟨e1, h0⟩ | ⟨g, cap, cur, e1, _, _, h5, _⟩
    · omega
    · injection e1 with _ _ e3
      omega
  · rcases hrow.2 with ⟨e1, h0⟩ | ⟨g, cap, cur, e1, _⟩
    · injection e1 with e1
      rw [e] at e1
      cases e1
    · injection e1 with e1
      rw [e] at e1
      injection e1 with e1
      exact ⟨g, e1⟩
  · rcases hrow.2 with ⟨e1, h0⟩ | ⟨g, cap, cur, e1, _⟩
    · rw [List.eq_nil_of_length_eq_zero h0] at hu; simp [tmL] at hu
    · injection e1 with e1
      have hc := hrow.cells (g := g) (by rw [e1]; rfl) j u hu
      rw [Addr.add_lit] at hc
      exact ⟨g, 0, e1, hc⟩
set_option maxRecDepth 100000 in
set_option maxHeartbeats 8000000 in
theorem rset_no {w : World} {b : Nat} {N : RS} (h : RIs w b N) (ho : ROk N) (node tag delay : Int) (R : Int) (hc : (R = 1 ∧ (isB N.nodes node = false ∨ (isB N.nodes node = true ∧ delay < 0) ∨ (isB N.nodes node = true ∧ ¬ delay < 0 ∧ 1099511627776 - N.clk < delay))) ∨ (R = 3 ∧ isB N.nodes node = true ∧ ¬ delay < 0 ∧ ¬ 1099511627776 - N.clk < delay ∧ 4096 ≤ N.tm.length)) :
    Calls Try.prog 19 #[.pointer (some ⟨b, 0, none⟩), .int .i64 node, .int .i64 tag, .int .i64 delay] w fun e w' => e = .returned (.int .i64 R) ∧ w' = w := by
  have hnot : ∀ (x : Bool) (w : World), (Op.unary .not (.bool x)).run Try.prog w = .ok (.bool (!x)) w := fun _ _ => rfl
  have HS : Hid _ := node_any h node
  have c2 := h.cells.2.2.1
  have c4 := h.cells.2.2.2.2
  obtain ⟨ta, tc, htv, _⟩ := h.tmv
  rw [htv] at c4
  have hck := ho.ck
  have hl := ho.tm
  generalize N.tm.length = n at *
  generalize N.clk = C at *
  generalize N.nodes = nn at *
  clear h ho htv
  rcases hc with ⟨rfl, h1 | ⟨h1, h2⟩ | ⟨h1, h2, h3⟩⟩ | ⟨rfl, h1, h2, h3, h4⟩
  all_goals
    try (have h5 : (4096 : Int) ≤ n := by omega)
    try clear h4
    go_enter Try.func19, Try.ntmps19
    go_wp2_with (go_at_call 31; refine Calls.mono HS.out ?_; rintro e w1 ⟨rfl, rfl⟩; rw [h1])
    go_ret
    exact ⟨rfl, rfl⟩
end Go.Proofs.Ytemapnfbmhjlbaa
