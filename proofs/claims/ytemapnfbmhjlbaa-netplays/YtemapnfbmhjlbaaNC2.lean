/- net: rows of elements of several cells: the operations within a walk. -/
import Derived.Test.YtemapnfbmhjlbaaNC
namespace Go.Proofs.Ytemapnfbmhjlbaa
open Go.RowKit Go.Maps Go.Joins
set_option linter.unusedSimpArgs false
set_option linter.unusedVariables false
/-- append in place, as a step of a region that draws its order. -/
theorem El.step_append {t e : TypeId} {k by_ : Nat} {z : Value} (E : El t e k by_ z) {w : World} {ops : Array Oper} {o : Oper} {a : Act} {K : Act → World → Prop} {Q : Exit → Act → World → Prop} {F : Prop} (hgd : o.guard = none) (s x : Operand)
    (ho : o.op = .call { callee := .builtin .append, args := #[s, x], argTypes := #[t, t] }) (g i cap : Nat) (sp : Option Addr) (m c : Nat) (hsE : a.eval s = .slice (some ⟨g, 0, none⟩) i cap) (hxE : a.eval x = .slice sp m c)
    (cur : List Value) (hg : w.heap[g]? = some (.cells cur.toArray e (0, 0))) (news : List Value) (hl : news.length = m * k)
    (hpos : 0 < m → ∃ ad, sp = some ad ∧ ∀ j u, news[j]? = some u → w.cell? (ad.add j) = some u) (hs : sp = none → c = 0) (h1 : ∀ u ∈ news, u.oneCell' = true) (hroom : i + m ≤ cap) (hfit : (i + m) * k ≤ cur.length)
    (h : ∀ w', Hid (w'.heap[g]? = some (.cells (splice cur (i * k) news).toArray e (0, 0))) → w.grownBy w' (some g) → K (a.put o.dst (.slice (some ⟨g, 0, none⟩) (i + m) cap)) w') :
    if Region.wanted o (yielded ops a.tmps) = true then Oper.wp Try.prog o a w K Q else F := by
  have hw : Region.wanted o (yielded ops a.tmps) = true := by simp [Region.wanted, hgd]
  rw [if_pos hw]
  have hrun := E.run_room o.type g i cap cur hg sp m c news hl hpos hs h1 hroom hfit
  unfold Oper.wp
  simp [execOp, ho, resolve, invoke, builtin, hsE, hxE, hrun, Result.andThen]
  exact h _ (setRow_heap w g _ _ e _ hg) (gb_setRow _ _ _)
/-- copy as a step of a region that draws its order. -/
theorem El.step_copy {t e : TypeId} {k by_ : Nat} {z : Value} (E : El t e k by_ z) {w : World} {ops : Array Oper} {o : Oper} {a : Act} {K : Act → World → Prop} {Q : Exit → Act → World → Prop} {F : Prop} (hgd : o.guard = none) (d s : Operand)
    (ho : o.op = .call { callee := .builtin .copy, args := #[d, s], argTypes := #[t, t] })
    (dp sp : Option Addr) (dLen dCap sLen sCap : Nat) (hd : a.eval d = .slice dp dLen dCap) (hs : a.eval s = .slice sp sLen sCap)
    (g off : Nat) (cur : List Value) (hg : w.heap[g]? = some (.cells cur.toArray e (0, 0))) (cs : List Value) (hn : cs.length = Nat.min sLen dLen * k)
    (hpos : 0 < cs.length → dp = some ⟨g, off, none⟩ ∧ ∃ ad, sp = some ad ∧ ∀ j v, cs[j]? = some v → w.cell? (ad.add j) = some v)
    (hfit : off + cs.length ≤ cur.length) (h1 : ∀ v ∈ cs, v.oneCell' = true)
    (h : ∀ w', Hid (w'.heap[g]? = some (.cells (splice cur off cs).toArray e (0, 0))) → w.grownBy w' (some g) → K (a.put o.dst (goInt (Nat.min sLen dLen))) w') :
    if Region.wanted o (yielded ops a.tmps) = true then Oper.wp Try.prog o a w K Q else F := by
  have hw : Region.wanted o (yielded ops a.tmps) = true := by simp [Region.wanted, hgd]
  rw [if_pos hw]
  have hrun := E.run_copy o.type g off cur hg dp sp dLen dCap sLen sCap cs hn hpos hfit h1
  by_cases h0 : cs.length = 0
  · rw [if_pos h0] at hrun
    obtain rfl : cs = [] := List.eq_nil_of_length_eq_zero h0
    unfold Oper.wp
    simp only [execOp, ho, resolve, invoke, builtin, Sem.run_bind, Sem.run_pure, Result.andThen_ok, List.map_toArray, List.map_cons, List.map_nil, hd, hs, hrun]
    exact h w (show _ = _ by simpa [splice] using hg) (World.grownBy.refl _ _)
  · rw [if_neg h0] at hrun
    unfold Oper.wp
    simp only [execOp, ho, resolve, invoke, builtin, Sem.run_bind, Sem.run_pure, Result.andThen_ok, List.map_toArray, List.map_cons, List.map_nil, hd, hs, hrun]
    exact h _ (setRow_heap w g _ _ e _ hg) (gb_setRow _ _ _)
/-- copy in a region in order. -/
theorem El.wpList_copy {t e : TypeId} {k by_ : Nat} {z : Value} (E : El t e k by_ z) {w : World} {ops : Array Oper} {rest : List Oper} {o : Oper} {a : Act} {Q : Exit → Act → World → Prop} (hgd : o.guard = none) (d s : Operand)
    (ho : o.op = .call { callee := .builtin .copy, args := #[d, s], argTypes := #[t, t] })
    (dp sp : Option Addr) (dLen dCap sLen sCap : Nat) (hd : a.eval d = .slice dp dLen dCap) (hs : a.eval s = .slice sp sLen sCap)
    (g off : Nat) (cur : List Value) (hg : w.heap[g]? = some (.cells cur.toArray e (0, 0))) (cs : List Value) (hn : cs.length = Nat.min sLen dLen * k)
    (hpos : 0 < cs.length → dp = some ⟨g, off, none⟩ ∧ ∃ ad, sp = some ad ∧ ∀ j v, cs[j]? = some v → w.cell? (ad.add j) = some v)
    (hfit : off + cs.length ≤ cur.length) (h1 : ∀ v ∈ cs, v.oneCell' = true)
    (h : ∀ w', Hid (w'.heap[g]? = some (.cells (splice cur off cs).toArray e (0, 0))) → w.grownBy w' (some g) → wpList Try.prog ops Q rest (a.put o.dst (goInt (Nat.min sLen dLen))) w') :
    wpList Try.prog ops Q (o :: rest) a w := by
  have hrun := E.run_copy o.type g off cur hg dp sp dLen dCap sLen sCap cs hn hpos hfit h1
  refine wpList_plain hgd fun K hK => ?_
  by_cases h0 : cs.length = 0
  · rw [if_pos h0] at hrun
    obtain rfl : cs = [] := List.eq_nil_of_length_eq_zero h0
    unfold Oper.wp
    simp only [execOp, ho, resolve, invoke, builtin, Sem.run_bind, Sem.run_pure, Result.andThen_ok, List.map_toArray, List.map_cons, List.map_nil, hd, hs, hrun]
    exact hK _ _ (h w (show _ = _ by simpa [splice] using hg) (World.grownBy.refl _ _))
  · rw [if_neg h0] at hrun
    unfold Oper.wp
    simp only [execOp, ho, resolve, invoke, builtin, Sem.run_bind, Sem.run_pure, Result.andThen_ok, List.map_toArray, List.map_cons, List.map_nil, hd, hs, hrun]
    exact hK _ _ (h _ (setRow_heap w g _ _ e _ hg) (gb_setRow _ _ _))
/-- clear in a region in order. -/
theorem El.wpList_clear {t e : TypeId} {k by_ : Nat} {z : Value} (E : El t e k by_ z) {w : World} {ops : Array Oper} {rest : List Oper} {o : Oper} {a : Act} {Q : Exit → Act → World → Prop} (hgd : o.guard = none) (s : Operand)
    (ho : o.op = .call { callee := .builtin .clear, args := #[s], argTypes := #[t] }) (g off n c : Nat) (hs : a.eval s = .slice (some ⟨g, off, none⟩) n c)
    (cur : List Value) (hg : w.heap[g]? = some (.cells cur.toArray e (0, 0))) (hn : 0 < n) (hfit : off + n * k ≤ cur.length)
    (h : ∀ zs w', zs.length = n * k → Hid (w'.heap[g]? = some (.cells (splice cur off zs).toArray e (0, 0))) → w.grownBy w' (some g) → wpList Try.prog ops Q rest (a.put o.dst (.tuple #[])) w') :
    wpList Try.prog ops Q (o :: rest) a w := by
  obtain ⟨zs, hz, hrun⟩ := E.run_clear o.type g off n c cur hg hn hfit
  refine wpList_plain hgd fun K hK => ?_
  unfold Oper.wp
  simp only [execOp, ho, resolve, invoke, builtin, Sem.run_bind, Sem.run_pure, Result.andThen_ok, List.map_toArray, List.map_cons, List.map_nil, hs, hrun]
  exact hK _ _ (h zs _ hz (setRow_heap w g _ _ e _ hg) (gb_setRow _ _ _))
set_option maxRecDepth 100000 in
/-- append(v, x...) onto a slice of one's own. -/
theorem El.wpList_append {t e : TypeId} {k by_ : Nat} {z : Value} (E : El t e k by_ z) {w : World} {ops : Array Oper} {rest : List Oper} {o : Oper} {a : Act} {Q : Exit → Act → World → Prop} (hgd : o.guard = none) (s x : Operand)
    (ho : o.op = .call { callee := .builtin .append, args := #[s, x], argTypes := #[t, t] }) (base : Nat)
    (v : Value) (n : Nat) (X : List Value) (hs : a.eval s = v) (hown : w.ownsRow base e k v n X) (sp : Option Addr) (m c : Nat) (hx : a.eval x = .slice sp m c) (news : List Value) (hl : news.length = m * k)
    (hpos : 0 < m → ∃ ad, sp = some ad ∧ ∀ j u, news[j]? = some u → w.cell? (ad.add j) = some u) (hsp : sp = none → c = 0) (h1 : ∀ u ∈ news, u.oneCell' = true)
    (hb : n + m ≤ 1000000000000) (hbase : base ≤ w.heap.size)
    (h : ∀ v' w', w'.ownsRow base e k v' (n + m) (X ++ news) → w.grownBy w' v.ownBlock → (v'.ownBlock = v.ownBlock ∨ v'.ownBlock = some w.heap.size) → wpList Try.prog ops Q rest (a.put o.dst v') w') : wpList Try.prog ops Q (o :: rest) a w := by
  obtain ⟨i0, hi, hz, hsz, hby⟩ := E.i
  have hbb : (n + m) * by_ ≤ 140737488355328 := by
    have := Nat.mul_le_mul hb E.b
    omega
  cases sp with
  | none =>
    have hm : m = 0 := by
      rcases Nat.eq_zero_or_pos m with h0 | h0
      · exact h0
      · obtain ⟨_, h0, _⟩ := hpos h0; cases h0
    subst hm
    have hn : news = [] := List.eq_nil_of_length_eq_zero (by simpa using hl)
    subst hn
    have hc := hsp rfl
    subst hc
    refine wpList_append_own_none hgd s x t ho base e i0 k E.u hi v n X hs hown hx ?_
    exact h v w (by simpa using hown) (World.grownBy.refl _ _) (Or.inl rfl)
  | some ad =>
    have hnews : ∀ j u, news[j]? = some u → w.cell? (ad.add j) = some u := fun j u hu => by
      rcases Nat.eq_zero_or_pos m with h0 | h0
      · subst h0
        have hn : news = [] := List.eq_nil_of_length_eq_zero (by simpa using hl)
        subst hn
        simp at hu
      · obtain ⟨ad', e1, hc⟩ := hpos h0
        injection e1 with e1
        rw [e1]
        exact hc j u hu
    exact wpList_append_own_at w hgd s x t ho base e i0 z k by_ E.u hi hz hsz hby E.zs E.k0 v n X hs hown ad m c news hx hl hnews h1 (by unfold maxLen; omega) hbb hbase (fun v' w' a b _ d => h v' w' a b d)
set_option maxRecDepth 100000 in
/-- append(s, make(.., q)...) where it grows. -/
theorem El.wpList_zeros {t e : TypeId} {k by_ : Nat} {z : Value} (E : El t e k by_ z) {w : World} {ops : Array Oper} {rest : List Oper} {o : Oper} {a : Act} {Q : Exit → Act → World → Prop} (hgd : o.guard = none) (s x : Operand)
    (ho : o.op = .call { callee := .builtin .append, args := #[s, x], argTypes := #[t, 3] }) (g cap n q : Nat) (xs : List Value) (hxl : xs.length = n * k) (hs : a.eval s = .slice (some ⟨g, 0, none⟩) n cap)
    (holds : ∀ j u, xs[j]? = some u → w.cell? ⟨g, j, none⟩ = some u)
    (hx : a.eval x = .int .i64 q) (hq : 0 < q) (hgrow : cap < n + q) (hbytes : n + q ≤ 200000)
    (h : ∀ cap' w' (cur : List Value), n + q ≤ cap' → cap' ≤ maxLen → w'.heap[w.heap.size]? = some (.cells cur.toArray e (0, 0)) → cur.length = cap' * k → cur.take (n * k) = xs → Below w.heap.size w w' → w.heap.size < w'.heap.size → wpList Try.prog ops Q rest (a.put o.dst (.slice (some ⟨w.heap.size, 0, none⟩) (n + q) cap')) w') : wpList Try.prog ops Q (o :: rest) a w := by
  obtain ⟨i, hi, hz, hsz, hby⟩ := E.i
  have hb48 := E.b
  have holds' : ∀ j u, xs[j]? = some u → w.drew.cell? ((⟨g, 0, none⟩ : Addr).add j) = some u := fun j u hu => by rw [Addr.add_lit, Nat.zero_add]; exact holds j u hu
  have hf := run_firstCells_some (P := Try.prog) w.drew k n ⟨g, 0, none⟩ n cap xs hxl holds'
  have hqb : q * by_ ≤ 200000 * 48 := Nat.mul_le_mul (by omega) hb48
  have hnb : (n + q) * by_ ≤ 200000 * 48 := Nat.mul_le_mul (by omega) hb48
  have hr := Go.Lib.run_append_grow_zeros (P := Try.prog) w t 3 o.type e i z .i64 .i64 E.u Try.underlying3 hi hz (some ⟨g, 0, none⟩) n cap xs (by rw [hsz]; exact hf) q hq (by rw [hsz]; exact E.k0) (by omega) (by omega) (by rw [hby]; omega) (growslice_fits (by omega) (by rw [hby]; omega))
  have hge := grownCap_ge w (n + q) cap e
  have hcm2 : grownCap w (n + q) cap e ≤ maxLen := grownCap_le_maxLen w (n + q) cap e (by unfold maxLen; omega)
  refine wpList_plain hgd fun _ hK => Go.Lib.wp_append_run w s x t 3 ho _ _ hs hx _ _ hr (hK _ _ (h (grownCap w (n + q) cap e) _ (xs ++ (Builtin.zeroCells z.cells q).toList ++ (Builtin.zeroCells z.cells (grownCap w (n + q) cap e - (n + q))).toList) hge hcm2 ?_ ?_ ?_ ?_ ?_))
  · have := heap_alloc_new w.drew (.cells (xs.toArray ++ Builtin.zeroCells z.cells q ++ Builtin.zeroCells z.cells (grownCap w (n + q) cap e - (n + q))) e)
    rw [show w.drew.heap.size = w.heap.size from rfl] at this
    have e : ∀ (A B : Array Value), (xs ++ A.toList ++ B.toList).toArray = xs.toArray ++ A ++ B := fun A B => by apply Array.toList_inj.1; simp
    rw [this, e]
  · simp only [List.length_append, Array.length_toList, size_zeroCells, E.zs, hxl, ← Nat.add_mul]
    congr 1
    omega
  · rw [List.append_assoc, List.take_append_of_le_length (by omega), ← hxl, List.take_length]
  · exact ⟨rfl, rfl, rfl, by simp, fun j hj => heap_alloc_old w.drew _ hj⟩
  · simp
theorem spl2 {α : Type} (cur X1 Y X2 : List α) (i m k : Nat) (h1 : cur.take i = X1) (hi : X1.length = i) (hm : Y.length = m) (hk : X2.length = k) (hc : i + m + k ≤ cur.length) : (splice (splice cur i Y) (i + m) X2).take (i + m + k) = X1 ++ Y ++ X2 := by
  unfold splice
  rw [h1]
  have e1 : (X1 ++ (Y ++ cur.drop (i + Y.length))).take (i + m) = X1 ++ Y := by
    rw [← List.append_assoc, List.take_append_of_le_length (by rw [List.length_append]; omega), List.take_of_length_le (by rw [List.length_append]; omega)]
  rw [e1, ← List.append_assoc, List.take_append_of_le_length (by simp only [List.length_append]; omega), List.take_of_length_le (by simp only [List.length_append]; omega)]
theorem spl3 {α : Type} (cur X1 Y X2 : List α) (i m k : Nat) (h1 : cur.take i = X1) (hi : X1.length = i) (hm : Y.length = m) (hk : X2.length = k) (hc : i + m + k ≤ cur.length) : (splice (splice cur (i + m) X2) i Y).take (i + m + k) = X1 ++ Y ++ X2 := by
  unfold splice
  have e1 : (cur.take (i + m) ++ (X2 ++ cur.drop (i + m + X2.length))).take i = X1 := by
    rw [List.take_append_of_le_length (by rw [List.length_take]; omega), List.take_take, Nat.min_eq_left (by omega), h1]
  have e2 : (cur.take (i + m) ++ (X2 ++ cur.drop (i + m + X2.length))).drop (i + Y.length) = X2 ++ cur.drop (i + m + X2.length) := by
    rw [hm, List.drop_append_of_le_length (by rw [List.length_take]; omega)]
    have : (cur.take (i + m)).drop (i + m) = [] := by apply List.drop_eq_nil_of_le; rw [List.length_take]; omega
    rw [this]
    rfl
  rw [e1, e2, ← List.append_assoc, ← List.append_assoc, List.take_append_of_le_length (by simp only [List.length_append]; omega), List.take_of_length_le (by simp only [List.length_append]; omega)]
/-- What stands ahead of a splice stays. -/
theorem spl_take {α : Type} (cur Y : List α) (o i : Nat) (h : i ≤ o) (ho : o ≤ cur.length) : (splice cur o Y).take i = cur.take i := by
  unfold splice
  rw [List.take_append_of_le_length (by rw [List.length_take]; omega), List.take_take, Nat.min_eq_left h]
theorem spl_take2 {α : Type} (cur Y : List α) (o : Nat) (ho : o ≤ cur.length) : (splice cur o Y).take (o + Y.length) = cur.take o ++ Y := by
  unfold splice
  rw [← List.append_assoc, List.take_append_of_le_length (by simp only [List.length_append, List.length_take]; omega), List.take_of_length_le (by simp only [List.length_append, List.length_take]; omega)]
end Go.Proofs.Ytemapnfbmhjlbaa
