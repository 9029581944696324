/- net: the timers of the first moment, one behind the other. -/
import Derived.Test.YtemapnfbmhjlbaaNX
import Derived.Test.YtemapnfbmhjlbaaNV
namespace Go.Proofs.Ytemapnfbmhjlbaa
open Go.RowKit Go.Maps Go.Joins Go.Shelf
set_option linter.unusedSimpArgs false
set_option linter.unusedVariables false
theorem wpIn_wide_op {P : Program} {n : Nat} {o : Oper} {a : Act} {w : World} {K : Act → World → Prop} {Q : Exit → Act → World → Prop} (h : o.wp P a w K Q) : o.wpIn Fence.wide n P a w K Q := by
  refine ⟨fun _ _ => trivial, ?_⟩
  rw [show Fence.wide.round = none from rfl, Oper.semAt_none]
  unfold Oper.wp at h
  generalize (execOp a.eval o).run P w = r at h ⊢
  have hdep : Fence.wide.depth.isSome = true → 1 ≤ n := fun h => by simp [Fence.wide] at h
  rcases r with ⟨nx, w'⟩ | ⟨hl, w'⟩
  · cases nx with
    | value v => exact h
    | skip => exact h
    | defer d => exact h
    | enter f args => exact ⟨hdep, callsIn_wide.2 h⟩
    | row row args =>
      refine ⟨hdep, ?_⟩
      intro c cs _
      obtain ⟨v, w'', hr, hs⟩ := h c cs
      exact ⟨v, w'', hr, stepsIn_wide.2 hs⟩
    | _ => exact h.elim
  · cases hl <;> first | exact h | exact h.elim
theorem wpIn_yield {P : Program} {n l : Nat} {o : Oper} {a : Act} {w : World} {K : Act → World → Prop} {Q : Exit → Act → World → Prop} {x y : Operand} {ts : Array TypeId} {v : Value} {R : Ending → World → Prop}
    (ho : o.op = .call { callee := .value x, args := #[y], argTypes := ts }) (hx : a.eval x = .func (.yield l) #[] #[]) (hv : a.eval y = v) (hY : YieldAt Fence.wide (n - 1) P l #[v] w R)
    (h : ∀ e W', R e W' → ∃ u, e = .returned u ∧ K (a.put o.dst u) W') : o.wpIn Fence.wide n P a w K Q := by
  obtain ⟨fn, tmps, assign, body, hy, hR⟩ := hY
  refine ⟨fun _ _ => trivial, ?_⟩
  rw [show Fence.wide.round = none from rfl, Oper.semAt_none]
  have he : (execOp a.eval o).run P w = .ok (.round l fn tmps assign body) w := by
    simp [execOp, ho, resolve, invoke, hx, hv, hy, Result.andThen, Deferred.ofValue]
  rw [he]
  refine ⟨fun h => by simp [Fence.wide] at h, hR.mono ?_⟩
  intro e W' hr
  obtain ⟨u, rfl, hk⟩ := h e W' hr
  exact hk
/-- How many stand at the first moment. -/
def many (l : List TM) : Nat := match l with | [] => 0 | t :: _ => (l.takeWhile fun x => decide (x.at_ = t.at_)).length
theorem many_le (l : List TM) : many l ≤ l.length := by
  unfold many
  split
  · simp
  · exact (List.takeWhile_sublist _).length_le
theorem takeWhile_at {α : Type} (p : α → Bool) : ∀ (l : List α) (k : Nat) (x : α), l[k]? = some x → (k < (l.takeWhile p).length → p x = true) ∧ (k = (l.takeWhile p).length → p x = false)
  | [], k, x, h => by simp at h
  | a :: l, 0, x, h => by
    simp at h
    subst h
    cases hp : p a
    · simp [List.takeWhile_cons, hp]
    · simp [List.takeWhile_cons, hp]
  | a :: l, k + 1, x, h => by
    have h' : l[k]? = some x := by simpa using h
    have := takeWhile_at p l k x h'
    cases hp : p a
    · simp [List.takeWhile_cons, hp]
    · simp only [List.takeWhile_cons, hp, if_true, List.length_cons]
      exact ⟨fun h => this.1 (by omega), fun h => this.2 (by omega)⟩
theorem many_at {l : List TM} {k : Nat} {t f : TM} (hk : l[k]? = some t) (hf : l[0]? = some f) : (k < many l → t.at_ = f.at_) ∧ (k = many l → t.at_ ≠ f.at_) := by
  cases l with
  | nil => simp at hk
  | cons a l =>
    simp at hf
    subst hf
    have := takeWhile_at (fun x => decide (x.at_ = a.at_)) (a :: l) k t hk
    exact ⟨fun h => by simpa using this.1 h, fun h => by simpa using this.2 h⟩
/-- What the iterator reads. -/
structure FiV (W : World) (X b : Nat) (ta : Option Addr) (n tc : Nat) (l : List TM) : Prop where
  x : W.cell? ⟨X, 0, none⟩ = some (.pointer (some ⟨b, 0, none⟩))
  b7 : W.cell? ⟨b, 7, none⟩ = some (.slice ta n tc)
  tm : TmV W ta l
theorem FiV.below {W W' : World} {X b : Nat} {ta : Option Addr} {n tc : Nat} {l : List TM} (h : FiV W X b ta n tc l) (hb : Below W.heap.size W W') : FiV W' X b ta n tc l :=
  ⟨(hb.cell (cell_lt h.x)).trans h.x, (hb.cell (cell_lt h.b7)).trans h.b7, h.tm.below hb⟩
set_option maxRecDepth 100000 in
set_option maxHeartbeats 8000000 in
/-- first$1 -/
theorem first1_in (m l X b n tc : Nat) (ta : Option Addr) (tm : List TM) (hn : n = tm.length) (hn9 : n ≤ 1000000) (W0 : World) (J : Nat → World → Prop) (h0 : J 0 W0)
    (hJ : ∀ k W, J k W → FiV W X b ta n tc tm) (hJB : ∀ k W W', J k W → Below W.heap.size W W' → J k W')
    (hY : ∀ k W W2 t, tm[k]? = some t → k < many tm → J k W → Below W.heap.size W W2 → YieldAt Fence.wide m Try.prog l #[.agg #[.int .i64 t.nd, .int .i64 t.tg, .int .i64 t.at_]] W2 fun e W' => e = .returned (.bool true) ∧ J (k + 1) W') :
    CallsIn Fence.wide (m + 1) Try.prog 58 #[.func (.yield l) #[] #[], .pointer (some ⟨X, 0, none⟩)] W0 fun e W' => (∃ v, e = .returned v) ∧ J (many tm) W' := by
  refine callsIn_of_wp Try.func58 rfl trivial ?_ rfl
  simp only [Try.ntmps58, List.size_toArray, List.length_cons, List.length_nil, Nat.reduceAdd, Nat.reduceSub, Array.replicate_succ, Array.replicate_zero, List.push_toArray, List.append_toArray, List.nil_append, List.cons_append]
  have hnot : ∀ (x : Bool) (w : World), (Op.unary .not (.bool x)).run Try.prog w = .ok (.bool (!x)) w := fun _ _ => rfl
  have HY : Hid _ := hY
  have HJ : Hid _ := hJ
  have HJB : Hid _ := hJB
  have H0 : Hid (J 0 W0) := h0
  have HN : Hid (n = tm.length) := hn
  have c0 := (hJ 0 W0 h0).x
  have c7 := (hJ 0 W0 h0).b7
  have HM : Hid (many tm ≤ n) := by show _ ≤ _; rw [hn]; exact many_le tm
  clear hY hJ hJB h0 hn
  gi_wp2
  gi_loopw [10] (fun v wr => ∃ k : Nat, k ≤ many tm ∧ v = .int .i64 k ∧ J k wr) (fun v _ => n - (intOf v).toNat)
  case atStart => exact ⟨0, Nat.zero_le _, rfl, H0.out⟩
  case round =>
    obtain ⟨k, hk, rfl, hjk⟩ := hrel
    have HK : Hid (J k wr) := hjk
    clear hjk c0 c7
    by_cases hlt : k < n
    · obtain ⟨t, ht⟩ : ∃ t, tm[k]? = some t := ⟨_, List.getElem?_eq_getElem (by have := HN.out; omega)⟩
      obtain ⟨f, hf⟩ : ∃ t, tm[0]? = some t := ⟨_, List.getElem?_eq_getElem (by have := HN.out; omega)⟩
      have hv := HJ.out k wr HK.out
      obtain ⟨g, o, hta, p0, p1, p2⟩ := hv.tm.at_ k t ht
      subst hta
      have hki : (k : Int) < n := by omega
      have HT : Hid (tm[k]? = some t ∧ tm[0]? = some f) := ⟨ht, hf⟩
      clear hv ht hf
      gi_wp2
      obtain ⟨W1, hW1⟩ : ∃ W1, W1 = wr.alloc (.cells #[.int .i64 t.nd, .int .i64 t.tg, .int .i64 t.at_] 63) := ⟨_, rfl⟩
      obtain ⟨tb, htb⟩ : ∃ tb, tb = wr.heap.size := ⟨_, rfl⟩
      have hb1 : Below wr.heap.size wr W1 := by rw [hW1]; exact (Below.refl _ wr).alloc (Nat.le_refl _) _
      have ht1 : W1.heap[tb]? = some (.cells #[.int .i64 t.nd, .int .i64 t.tg, .int .i64 t.at_] 63) := by rw [hW1, htb]; exact heap_alloc_new _ _
      rw [← hW1, ← htb]
      have H1 : Hid (J k W1.drew ∧ W1.drew.heap[tb]? = some (.cells #[.int .i64 t.nd, .int .i64 t.tg, .int .i64 t.at_] 63)) := ⟨HJB.out k wr _ HK.out hb1.drew, ht1⟩
      have hn0 : (0 : Int) < n := by omega
      have hn1 : ¬ n = 0 := by omega
      have hv1 := HJ.out k W1.drew H1.out.1
      obtain ⟨g', o', e1, f0, f1, f2⟩ := hv1.tm.at_ 0 f HT.out.2
      injection e1 with e1
      injection e1 with e1 e2 _
      subst e1 e2
      simp only [Nat.zero_mul, Nat.add_zero] at f0 f1 f2
      have hS0 : (fun w' : World => w'.cell? ⟨X, 0, none⟩ = some (.pointer (some ⟨b, 0, none⟩)) ∧ w'.cell? ⟨b, 7, none⟩ = some (.slice (some ⟨g, o, none⟩) n tc) ∧ w'.cell? ⟨g, o + 2, none⟩ = some (.int .i64 f.at_)) W1.drew := ⟨hv1.x, hv1.b7, f2⟩
      clear hW1 htb hb1 ht1 hv1 f0 f1 f2 p0 p1 p2
      refine wpIn_region_I (S := fun w' : World => w'.cell? ⟨X, 0, none⟩ = some (.pointer (some ⟨b, 0, none⟩)) ∧ w'.cell? ⟨b, 7, none⟩ = some (.slice (some ⟨g, o, none⟩) n tc) ∧ w'.cell? ⟨g, o + 2, none⟩ = some (.int .i64 f.at_)) (by kernel_rfl) hS0 (fun hS => ?_)
      clear hS0
      generalize W1.drew = W2 at hS H1 ⊢
      refine wpAnyI_take (i := 0) (v := .pointer (some ⟨tb, 2, none⟩)) rfl rfl (by kernel_rfl) (by kernel_rfl) (by kernel_rfl) (fun _ _ _ h => h) (fun _ => rfl) (Or.inl ⟨by rfl, fun w9 hSw => ?_⟩) hS ?_
      · go_simp
      simp only [List.getElem_toArray, List.getElem_cons_succ, List.getElem_cons_zero, Act.put, List.setIfInBounds_toArray, List.set_cons_zero, List.set_cons_succ]
      refine wpAnyI_take (i := 2) (v := .pointer (some ⟨b, 0, none⟩)) rfl rfl (by kernel_rfl) (by kernel_rfl) (by kernel_rfl) (fun _ _ _ h => h) (fun _ => rfl) (Or.inl ⟨by rfl, fun w9 hSw => ?_⟩) hS ?_
      · have hc := hSw.1
        go_simp
      simp only [List.getElem_toArray, List.getElem_cons_succ, List.getElem_cons_zero, Act.put, List.setIfInBounds_toArray, List.set_cons_zero, List.set_cons_succ]
      refine wpAnyI_take (i := 3) (v := .pointer (some ⟨b, 0, none⟩)) rfl rfl (by kernel_rfl) (by kernel_rfl) (by kernel_rfl) (fun _ _ _ h => h) (fun _ => rfl) (Or.inl ⟨by rfl, fun w9 hSw => ?_⟩) hS ?_
      · go_simp
      simp only [List.getElem_toArray, List.getElem_cons_succ, List.getElem_cons_zero, Act.put, List.setIfInBounds_toArray, List.set_cons_zero, List.set_cons_succ]
      refine wpAnyI_take (i := 4) (v := .pointer (some ⟨b, 7, none⟩)) rfl rfl (by kernel_rfl) (by kernel_rfl) (by kernel_rfl) (fun _ _ _ h => h) (fun _ => rfl) (Or.inl ⟨by rfl, fun w9 hSw => ?_⟩) hS ?_
      · go_simp
      simp only [List.getElem_toArray, List.getElem_cons_succ, List.getElem_cons_zero, Act.put, List.setIfInBounds_toArray, List.set_cons_zero, List.set_cons_succ]
      refine wpAnyI_take (i := 5) (v := .slice (some ⟨g, o, none⟩) n tc) rfl rfl (by kernel_rfl) (by kernel_rfl) (by kernel_rfl) (fun _ _ _ h => h) (fun _ => rfl) (Or.inl ⟨by rfl, fun w9 hSw => ?_⟩) hS ?_
      · have hc := hSw.2.1
        go_simp
      simp only [List.getElem_toArray, List.getElem_cons_succ, List.getElem_cons_zero, Act.put, List.setIfInBounds_toArray, List.set_cons_zero, List.set_cons_succ]
      refine wpAnyI_take (i := 6) (v := .pointer (some ⟨g, o, none⟩)) rfl rfl (by kernel_rfl) (by kernel_rfl) (by kernel_rfl) (fun _ _ _ h => h) (fun _ => rfl) (Or.inl ⟨by rfl, fun w9 hSw => ?_⟩) hS ?_
      · go_simp
      simp only [List.getElem_toArray, List.getElem_cons_succ, List.getElem_cons_zero, Act.put, List.setIfInBounds_toArray, List.set_cons_zero, List.set_cons_succ]
      refine wpAnyI_take (i := 7) (v := .pointer (some ⟨g, o + 2, none⟩)) rfl rfl (by kernel_rfl) (by kernel_rfl) (by kernel_rfl) (fun _ _ _ h => h) (fun _ => rfl) (Or.inl ⟨by rfl, fun w9 hSw => ?_⟩) hS ?_
      · go_simp
      simp only [List.getElem_toArray, List.getElem_cons_succ, List.getElem_cons_zero, Act.put, List.setIfInBounds_toArray, List.set_cons_zero, List.set_cons_succ]
      refine wpAnyI_take (i := 8) (v := .int .i64 f.at_) rfl rfl (by kernel_rfl) (by kernel_rfl) (by kernel_rfl) (fun _ _ _ h => h) (fun _ => rfl) (Or.inl ⟨by rfl, fun w9 hSw => ?_⟩) hS ?_
      · have hc := hSw.2.2
        go_simp
      simp only [List.getElem_toArray, List.getElem_cons_succ, List.getElem_cons_zero, Act.put, List.setIfInBounds_toArray, List.set_cons_zero, List.set_cons_succ]
      refine wpAnyI_one (i := 1) (by kernel_rfl) rfl (by rfl) (fun K hK => ?_)
      have k2 : W2.cell? ⟨tb, 2, none⟩ = some (.int .i64 t.at_) := (cell_of_block H1.out.2 2).trans rfl
      refine wpIn_wide_op ?_
      go_simp
      refine hK _ _ hS ?_
      clear hK K k2
      try simp only [List.getElem_toArray, List.getElem_cons_succ, List.getElem_cons_zero, Act.put, List.setIfInBounds_toArray, List.set_cons_zero, List.set_cons_succ]
      by_cases hkm : k < many tm
      · have hat : t.at_ = f.at_ := (many_at HT.out.1 HT.out.2).1 hkm
        rw [hat]
        have HAT : Hid (t.at_ = f.at_ ∧ k < many tm) := ⟨hat, hkm⟩
        have hbe : (f.at_ != f.at_) = false := by simp
        clear hat hkm
        refine wpAnyI_take (i := 9) (v := .bool false) rfl rfl (by kernel_rfl) (by kernel_rfl) (by kernel_rfl) (fun _ _ _ h => h) (fun _ => rfl) (Or.inl ⟨by rfl, fun w9 hSw => ?_⟩) hS ?_
        · go_simp
        simp only [List.getElem_toArray, List.getElem_cons_succ, List.getElem_cons_zero, Act.put, List.setIfInBounds_toArray, List.set_cons_zero, List.set_cons_succ]
        refine wpAnyI_take (i := 10) (v := .bool false) rfl rfl (by kernel_rfl) (by kernel_rfl) (by kernel_rfl) (fun _ _ _ h => h) (fun _ => rfl) (Or.inl ⟨by rfl, fun w9 hSw => ?_⟩) hS ?_
        · go_simp
        simp only [List.getElem_toArray, List.getElem_cons_succ, List.getElem_cons_zero, Act.put, List.setIfInBounds_toArray, List.set_cons_zero, List.set_cons_succ]
        refine wpAnyI_take (i := 11) (v := .func (.yield l) #[] #[]) rfl rfl (by kernel_rfl) (by kernel_rfl) (by kernel_rfl) (fun _ _ _ h => h) (fun _ => rfl) (Or.inl ⟨by rfl, fun w9 hSw => ?_⟩) hS ?_
        · go_simp
        simp only [List.getElem_toArray, List.getElem_cons_succ, List.getElem_cons_zero, Act.put, List.setIfInBounds_toArray, List.set_cons_zero, List.set_cons_succ]
        refine wpAnyI_one (i := 12) (by kernel_rfl) rfl (by rfl) (fun K hK => ?_)
        have k0 : W2.cell? ⟨tb, 0, none⟩ = some (.int .i64 t.nd) := (cell_of_block H1.out.2 0).trans rfl
        have k1 : W2.cell? ⟨tb, 1, none⟩ = some (.int .i64 t.tg) := (cell_of_block H1.out.2 1).trans rfl
        have k2 : W2.cell? ⟨tb, 2, none⟩ = some (.int .i64 t.at_) := (cell_of_block H1.out.2 2).trans rfl
        refine wpIn_wide_op ?_
        go_simp
        refine hK _ _ hS ?_
        clear hK K k0 k1 k2
        try simp only [List.getElem_toArray, List.getElem_cons_succ, List.getElem_cons_zero, Act.put, List.setIfInBounds_toArray, List.set_cons_zero, List.set_cons_succ]
        refine wpAnyI_one (i := 13) (by kernel_rfl) rfl (by rfl) (fun K hK => ?_)
        have HYY : Hid _ := HY.out k W2 W2 t HT.out.1 HAT.out.2 H1.out.1 (Below.refl _ _)
        refine wpIn_yield (x := .tmp 25) (y := .tmp 26) rfl rfl rfl HYY.out ?_
        rintro e W5 ⟨rfl, hj5⟩
        refine ⟨_, rfl, ?_⟩
        have hv5 := HJ.out (k + 1) W5 hj5
        obtain ⟨g5, o5, e1, _, _, f2⟩ := hv5.tm.at_ 0 f HT.out.2
        injection e1 with e1
        injection e1 with e1 e2 _
        subst e1 e2
        simp only [Nat.zero_mul, Nat.add_zero] at f2
        refine hK _ _ ⟨hv5.x, hv5.b7, f2⟩ ?_
        have HJ5 : Hid (J (k + 1) W5) := hj5
        have hS : W5.cell? ⟨X, 0, none⟩ = some (.pointer (some ⟨b, 0, none⟩)) ∧ W5.cell? ⟨b, 7, none⟩ = some (.slice (some ⟨g, o, none⟩) n tc) ∧ W5.cell? ⟨g, o + 2, none⟩ = some (.int .i64 f.at_) := ⟨hv5.x, hv5.b7, f2⟩
        clear hK K hv5 hj5 HYY f2
        try simp only [List.getElem_toArray, List.getElem_cons_succ, List.getElem_cons_zero, Act.put, List.setIfInBounds_toArray, List.set_cons_zero, List.set_cons_succ]
        refine wpAnyI_take (i := 14) (v := .bool false) rfl rfl (by kernel_rfl) (by kernel_rfl) (by kernel_rfl) (fun _ _ _ h => h) (fun _ => rfl) (Or.inl ⟨by rfl, fun w9 hSw => ?_⟩) hS ?_
        · go_simp
        simp only [List.getElem_toArray, List.getElem_cons_succ, List.getElem_cons_zero, Act.put, List.setIfInBounds_toArray, List.set_cons_zero, List.set_cons_succ]
        refine wpAnyI_take (i := 15) (v := .bool false) rfl rfl (by kernel_rfl) (by kernel_rfl) (by kernel_rfl) (fun _ _ _ h => h) (fun _ => rfl) (Or.inl ⟨by rfl, fun w9 hSw => ?_⟩) hS ?_
        · go_simp
        simp only [List.getElem_toArray, List.getElem_cons_succ, List.getElem_cons_zero, Act.put, List.setIfInBounds_toArray, List.set_cons_zero, List.set_cons_succ]
        refine wpAnyI_done (by kernel_rfl) ?_ _
        clear hS
        gi_wp2
        go_roundw
        case rel => exact ⟨k + 1, by have := HAT.out; omega, by go_num, HJ5.out⟩
        case measure => simp [intOf]; omega
      · have hat : t.at_ ≠ f.at_ := (many_at HT.out.1 HT.out.2).2 (by omega)
        have hbe : (t.at_ != f.at_) = true := by simpa using hat
        have HKM : Hid (k = many tm) := by show k = _; omega
        clear hat hkm
        refine wpAnyI_take (i := 9) (v := .bool true) rfl rfl (by kernel_rfl) (by kernel_rfl) (by kernel_rfl) (fun _ _ _ h => h) (fun _ => rfl) (Or.inl ⟨by rfl, fun w9 hSw => ?_⟩) hS ?_
        · go_simp
        simp only [List.getElem_toArray, List.getElem_cons_succ, List.getElem_cons_zero, Act.put, List.setIfInBounds_toArray, List.set_cons_zero, List.set_cons_succ]
        refine wpAnyI_take (i := 10) (v := .bool true) rfl rfl (by kernel_rfl) (by kernel_rfl) (by kernel_rfl) (fun _ _ _ h => h) (fun _ => rfl) (Or.inl ⟨by rfl, fun w9 hSw => ?_⟩) hS ?_
        · go_simp
        simp only [List.getElem_toArray, List.getElem_cons_succ, List.getElem_cons_zero, Act.put, List.setIfInBounds_toArray, List.set_cons_zero, List.set_cons_succ]
        refine wpAnyI_take (i := 11) (v := undef) rfl rfl (by kernel_rfl) (by kernel_rfl) (by kernel_rfl) (fun _ _ _ h => h) (fun _ => rfl) (Or.inr ⟨by rfl, rfl⟩) hS ?_
        simp only [List.getElem_toArray, List.getElem_cons_succ, List.getElem_cons_zero, Act.put, List.setIfInBounds_toArray, List.set_cons_zero, List.set_cons_succ]
        refine wpAnyI_take (i := 12) (v := undef) rfl rfl (by kernel_rfl) (by kernel_rfl) (by kernel_rfl) (fun _ _ _ h => h) (fun _ => rfl) (Or.inr ⟨by rfl, rfl⟩) hS ?_
        simp only [List.getElem_toArray, List.getElem_cons_succ, List.getElem_cons_zero, Act.put, List.setIfInBounds_toArray, List.set_cons_zero, List.set_cons_succ]
        refine wpAnyI_take (i := 13) (v := undef) rfl rfl (by kernel_rfl) (by kernel_rfl) (by kernel_rfl) (fun _ _ _ h => h) (fun _ => rfl) (Or.inr ⟨by rfl, rfl⟩) hS ?_
        simp only [List.getElem_toArray, List.getElem_cons_succ, List.getElem_cons_zero, Act.put, List.setIfInBounds_toArray, List.set_cons_zero, List.set_cons_succ]
        refine wpAnyI_take (i := 14) (v := undef) rfl rfl (by kernel_rfl) (by kernel_rfl) (by kernel_rfl) (fun _ _ _ h => h) (fun _ => rfl) (Or.inr ⟨by rfl, rfl⟩) hS ?_
        simp only [List.getElem_toArray, List.getElem_cons_succ, List.getElem_cons_zero, Act.put, List.setIfInBounds_toArray, List.set_cons_zero, List.set_cons_succ]
        refine wpAnyI_take (i := 15) (v := .bool true) rfl rfl (by kernel_rfl) (by kernel_rfl) (by kernel_rfl) (fun _ _ _ h => h) (fun _ => rfl) (Or.inl ⟨by rfl, fun w9 hSw => ?_⟩) hS ?_
        · go_simp
        simp only [List.getElem_toArray, List.getElem_cons_succ, List.getElem_cons_zero, Act.put, List.setIfInBounds_toArray, List.set_cons_zero, List.set_cons_succ]
        refine wpAnyI_done (by kernel_rfl) ?_ _
        clear hS
        have H2 := H1.out.1
        have HE : Hid (J k W2) := H2
        clear H2
        gi_wp2
        (try simp only [Exit.inBlock, Exit.then])
        refine bodyPost_ret (results_none rfl _ _ _) rfl ?_
        exact ⟨⟨_, rfl⟩, by have h9 := HE.out; rw [HKM.out] at h9; exact h9⟩
    · obtain rfl : k = n := by have := HM.out; omega
      have hki : ¬ (k : Int) < k := by omega
      have HE : Hid (J (many tm) wr) := by
        have h1 : k = many tm := by have := HM.out; omega
        rw [← h1]
        exact HK.out
      clear HK
      gi_wp2
      go_end0
      exact ⟨⟨_, rfl⟩, HE.out⟩
end Go.Proofs.Ytemapnfbmhjlbaa
